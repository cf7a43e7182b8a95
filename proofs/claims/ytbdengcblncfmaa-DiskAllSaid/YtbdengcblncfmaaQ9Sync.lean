/-
  The reference's Sync: all of a file lasts.
  The disk has at most 1,000 files.
-/
import Derived.Test.YtbdengcblncfmaaQ9At
import Derived.Test.YtbdengcblncfmaaQ9Frm
import Derived.Deep.RegionHeld3
set_option linter.unusedSimpArgs false
set_option linter.unusedVariables false
namespace Go.Proofs.Ytbdengcblncfmaa
open Go.RowKit
set_option maxRecDepth 100000

theorem heap_setCell_far {w : World} {g h j : Nat} {u : Value} (hne : g ≠ h) : (w.setCell ⟨h, j, none⟩ u).heap[g]? = w.heap[g]? := Below.heap_setCell w _ _ g (fun e => hne e)
/-- the row's block is another one than the box's -/
theorem Dsk.ne {N : Nat → Prop} {w : World} {B g gr n ca : Nat} {l : List Fil} {c : Nat} (h : Dsk N w B g (.slice (some ⟨gr, 0, none⟩) n ca) l c) : g ≠ gr := by
  intro e
  subst e
  obtain ⟨ps, _, ⟨h1, _⟩, _⟩ := h.own
  rcases h1.2 with ⟨hv, _⟩ | ⟨g2, c2, cur, hv, _, hg2, _⟩
  · cases hv
  · injection hv with e1 _ _
    injection e1 with e1
    injection e1 with e1 _
    subst e1
    have h2 := h.here
    rw [hg2] at h2
    injection h2 with h2
    injection h2 with _ h4 _
    exact disk_ne_file h4.symm
theorem atv_none (v : Value) : AtV v none = .pointer none := rfl
theorem atv_some (gr m ca k : Nat) : AtV (.slice (some ⟨gr, 0, none⟩) m ca) (some k) = .pointer (some ⟨gr, k * 4, none⟩) := rfl
/-- a cell of a file is written -/
theorem Dsk.set {N : Nat → Prop} {w : World} {B g gr n ca k j : Nat} {u : Value} {l : List Fil} {c : Nat} (h : Dsk N w B g (.slice (some ⟨gr, 0, none⟩) n ca) l c) (hk : k < l.length) (f : Fil) (hj : j < 4)
    (hq : ∀ v, OwnQ N v l[k].b w → ∃ v', flc (f, v') = (flc (l[k], v)).set j u ∧ OwnQ N v' f.b w) : Dsk N (w.setCell ⟨gr, k * 4 + j, none⟩ u) B g (.slice (some ⟨gr, 0, none⟩) n ca) (l.set k f) c :=
  ⟨h.lo, h.av, (heap_setCell_far h.ne).trans h.here, h.own.set hk f hj hq⟩
set_option maxHeartbeats 400000 in
theorem rsync_disk {N : Nat → Prop} (B g : Nat) (v : Value) (l : List Fil) (c : Nat) (n : ByteArray) (w : World) (h : Dsk N w B g v l c) (hl : l.length ≤ 1000) (hc : c ≤ 1000000) (hw : B ≤ w.heap.size) :
    Calls Try.prog 17 #[.pointer (some ⟨g, 0, none⟩), .string n] w fun e w' => (ixF n l = none → e = .returned (.int .i64 13) ∧ Dsk N w' B g v l (c + 1)) ∧ (∀ k (hk : k < l.length), ixF n l = some k → e = .returned (.int .i64 0) ∧ Dsk N w' B g v (l.set k ⟨l[k].name, l[k].b, l[k].b.length, true⟩) (c + 1)) ∧ Below B w w' ∧ Frm w w' g v.ownBlock := by
  have H := Lib.hid h
  have hc1 := h.cell1
  have hfz := h.frz 1
  have hD1 := h.count (c + 1)
  have hB1 : Below B w (w.setCell ⟨g, 1, none⟩ (.int .i64 ((c + 1 : Nat) : Int))) := (Below.refl B w).setCell h.lo _
  rw [Int.natCast_add, Int.natCast_one] at hD1 hB1
  have HD1 := Lib.hid hD1
  have HB1 := Lib.hid hB1
  have HF1 : Hid (Frm w (w.setCell ⟨g, 1, none⟩ (.int .i64 ((c : Int) + 1))) g v.ownBlock) := Lib.hid ((Frm.refl w g _).seta _)
  obtain ⟨A, ca, hv⟩ := h.own.slice
  obtain ⟨m, hm⟩ : ∃ m, l.length = m := ⟨_, rfl⟩
  rw [hm] at hv
  subst hv
  clear h hD1 hB1
  go_enter Try.func17, Try.ntmps17
  go_wp2_with fail
  generalize w.setCell ⟨g, 1, none⟩ (.int .i64 ((c : Int) + 1)) = W1 at *
  rcases hix : ixF n l with _ | k
  · have hr := rat_any B g _ l (c + 1) n W1 HD1.out hl
    rw [hix, atv_none] at hr
    refine hr.mono ?_
    rintro e w' ⟨rfl, rfl⟩
    clear hr
    have HIX := Lib.hid hix
    clear hix
    go_wp2
    go_ret
    exact ⟨fun _ => ⟨rfl, HD1.out⟩, fun k hk e => by (rw [HIX.out] at e; cases e), HB1.out, HF1.out⟩
  · obtain ⟨hk, hn⟩ := ixF_is hix
    have HIX := Lib.hid hix
    clear hix
    obtain ⟨gr, u, hA, hB, hgr, hrg, hu, hfr⟩ := HD1.out.own.at_ k hk
    subst hA
    have hr := rat_any B g _ l (c + 1) n W1 HD1.out hl
    rw [HIX.out, atv_some] at hr
    refine hr.mono ?_
    rintro e w' ⟨rfl, rfl⟩
    clear hr
    obtain ⟨Ab, cb, hub⟩ := own_slice hu
    obtain ⟨q, hq⟩ : ∃ q, l[k].b.length = q := ⟨_, rfl⟩
    rw [hq] at hub
    subst hub
    have hcb : W1.cell? ⟨gr, k * 4 + 1, none⟩ = some (.slice Ab q cb) := hrg 1 _ rfl
    have hc2 : W1.cell? ⟨gr, k * 4 + 2, none⟩ = some (.int .i64 (l[k].fast : Nat)) := hrg 2 _ rfl
    have hc3 : W1.cell? ⟨gr, k * 4 + 3, none⟩ = some (.bool l[k].there) := hrg 3 _ rfl
    have hf2 := hfr (k * 4 + 2)
    have hf3 := hfr (k * 4 + 3)
    have hD2 := HD1.out.set (k := k) (j := 2) (u := .int .i64 (q : Int)) hk ⟨l[k].name, l[k].b, l[k].b.length, l[k].there⟩ (by omega) (fun v hv => ⟨v, by simp [flc, hq], hv⟩)
    have hB2 := HB1.out.setCell (p := ⟨gr, k * 4 + 2, none⟩) hB (.int .i64 (q : Int))
    have HD2 := Lib.hid hD2
    have HB2 := Lib.hid hB2
    clear hrg hfr hD2 hB2
    go_wp2
    go_ret
    refine ⟨fun e => (by rw [HIX.out] at e; cases e), fun k' hk' e => ?_, HB2.out.setCell (p := ⟨gr, k * 4 + 3, none⟩) hB _, (HF1.out.setp (.inl rfl) _).setp (.inl rfl) _⟩
    obtain rfl : k = k' := by rw [HIX.out] at e; exact Option.some.inj e
    refine ⟨rfl, ?_⟩
    have hD3 := HD2.out.set (k := k) (j := 3) (u := .bool true) (by rw [List.length_set]; exact hk) ⟨l[k].name, l[k].b, l[k].b.length, true⟩ (by omega) (fun v hv => ⟨v, by simp [flc], by simpa using hv⟩)
    rw [List.set_set] at hD3
    exact hD3
end Go.Proofs.Ytbdengcblncfmaa
