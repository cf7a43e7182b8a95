/-
  The reference's Swap: a file's bytes are put anew.
  The disk has at most 999 files; the bytes' cells lie below the disk's base.
-/
import Derived.Test.YtbdengcblncfmaaQ9Sync
import Derived.Test.YtbdengcblncfmaaQ9Put
import Derived.Deep.RegionHeld3
set_option linter.unusedSimpArgs false
set_option linter.unusedVariables false
namespace Go.Proofs.Ytbdengcblncfmaa
open Go.RowKit
set_option maxRecDepth 100000

/-- the files as they are once a file of this name is among them; its place -/
def Has9 (n : ByteArray) (l l1 : List Fil) (k : Nat) : Prop := (ixF n l = some k ∧ l1 = l) ∨ (ixF n l = none ∧ stop9 n l k ∧ l1 = insAt k (newF n) l)
theorem ixF_none_ne {n : ByteArray} {l : List Fil} (h : ixF n l = none) : ∀ f ∈ l, f.name ≠ n := by
  intro f hf
  have h2 := List.findIdx?_eq_none_iff.1 h f hf
  exact of_decide_eq_false h2
theorem insAt_len {k : Nat} {f : Fil} {l : List Fil} (hk : k ≤ l.length) : (insAt k f l).length = l.length + 1 := by
  unfold insAt
  rw [List.length_append, List.length_take, List.length_cons, List.length_drop]; omega
theorem insAt_at {k : Nat} {f : Fil} {l : List Fil} (hk : k ≤ l.length) (h : k < (insAt k f l).length) : (insAt k f l)[k] = f := by
  have h2 : (insAt k f l)[k]? = some f := by
    unfold insAt
    rw [List.getElem?_append_right (by rw [List.length_take]; omega), List.length_take, Nat.min_eq_left hk, Nat.sub_self]; rfl
  rw [List.getElem?_eq_getElem h] at h2
  exact Option.some.inj h2
theorem ixF_ins {n : ByteArray} {l : List Fil} {k : Nat} (h : ixF n l = none) (hk : k ≤ l.length) : ixF n (insAt k (newF n) l) = some k := by
  have hlen : k < (insAt k (newF n) l).length := by rw [insAt_len hk]; omega
  refine ixF_at hlen (by rw [insAt_at hk]; rfl) (fun f hf => ixF_none_ne h f ?_)
  unfold insAt at hf
  rw [List.take_append_of_le_length (by rw [List.length_take]; omega), List.take_take, Nat.min_self] at hf
  exact List.mem_of_mem_take hf
theorem Has9.ix {n : ByteArray} {l l1 : List Fil} {k : Nat} (h : Has9 n l l1 k) : ixF n l1 = some k := by
  rcases h with ⟨h, rfl⟩ | ⟨h, hs, rfl⟩
  · exact h
  · exact ixF_ins h hs.1
set_option maxHeartbeats 1000000 in
theorem rswap_disk {N : Nat → Prop} (B g : Nat) (v u : Value) (l : List Fil) (c : Nat) (n : ByteArray) (bs : List UInt8) (w : World) (h : Dsk N w B g v l c) (hl : l.length ≤ 999) (hc : c ≤ 1000000) (hw : B ≤ w.heap.size) (hN : ∀ k, N k → k < w.heap.size) (hn : n.size ≤ 1000000) (hb : Byt w B u bs) (hbl : bs.length ≤ 2000000) :
    Calls Try.prog 19 #[.pointer (some ⟨g, 0, none⟩), .string n, u] w fun e w' =>
      ((goodN n = false → e = .returned (.int .i64 1) ∧ Dsk N w' B g v l (c + 1)) ∧ (goodN n = true → 1048576 < bs.length → e = .returned (.int .i64 5) ∧ Dsk N w' B g v l (c + 1)) ∧
      (goodN n = true → bs.length ≤ 1048576 → e = .returned (.int .i64 0) ∧ ∃ l1 k v', Has9 n l l1 k ∧ Dsk N w' B g v' (l1.set k ⟨n, bs, bs.length, true⟩) (c + 1))) ∧ Below B w w' ∧ Frm w w' g v.ownBlock := by
  have H := Lib.hid h
  have HNN := Lib.hid hN
  clear hN
  have hc1 := h.cell1
  have hfz := h.frz 1
  have hD1 := h.count (c + 1)
  have hB1 : Below B w (w.setCell ⟨g, 1, none⟩ (.int .i64 ((c + 1 : Nat) : Int))) := (Below.refl B w).setCell h.lo _
  rw [Int.natCast_add, Int.natCast_one] at hD1 hB1
  have HD1 := Lib.hid hD1
  have HB1 := Lib.hid hB1
  have HF1 : Hid (Frm w (w.setCell ⟨g, 1, none⟩ (.int .i64 ((c : Int) + 1))) g v.ownBlock) := Lib.hid ((Frm.refl w g _).seta _)
  have HU := Lib.hid (hb.below hB1 (Nat.le_refl _))
  obtain ⟨Au, cu, hu, -, -⟩ := hb
  obtain ⟨q, hq⟩ : ∃ q, bs.length = q := ⟨_, rfl⟩
  rw [hq] at hu hbl
  subst hu
  clear h hD1 hB1
  go_enter Try.func19, Try.ntmps19
  go_wp2_with fail
  generalize w.setCell ⟨g, 1, none⟩ (.int .i64 ((c : Int) + 1)) = W1 at *
  refine (rgood_any n W1 hn).mono ?_
  rintro e w' ⟨rfl, rfl⟩
  rcases hgn : goodN n with _ | _
  · have HG := Lib.hid hgn
    clear hgn
    go_wp2
    go_ret
    refine ⟨⟨fun _ => ⟨rfl, HD1.out⟩, fun e => ?_, fun e => ?_⟩, HB1.out, HF1.out⟩ <;> (rw [HG.out] at e; cases e)
  · have HG := Lib.hid hgn
    clear hgn
    by_cases hbig : 1048576 < q
    · have hbi : (1048576 : Int) < q := by omega
      go_wp2
      go_ret
      refine ⟨⟨fun e => ?_, fun _ _ => ⟨rfl, HD1.out⟩, fun _ e => ?_⟩, HB1.out, HF1.out⟩
      · rw [HG.out] at e; cases e
      · omega
    · have hbi : (q : Int) ≤ 1048576 := by omega
      go_wp2_with fail
      rcases hix : ixF n l with _ | k
      · have hr := rat_any B g _ l (c + 1) n W1 HD1.out (by omega)
        rw [hix, atv_none] at hr
        refine hr.mono ?_
        rintro e w' ⟨rfl, rfl⟩
        clear hr
        have HIX := Lib.hid hix
        clear hix
        go_wp2_with fail
        refine (rput_disk B g _ l (c + 1) n W1 HD1.out (by omega) (Nat.le_trans hw HB1.out.size) (fun k hk => Nat.lt_of_lt_of_le (HNN.out k hk) HF1.out.1)).mono ?_
        rintro e W2 ⟨v2, k, hst, rfl, hD2, hB2, hF2, hO2⟩
        have hlen := insAt_len (f := newF n) hst.1
        have hhas : Has9 n l (insAt k (newF n) l) k := .inr ⟨HIX.out, hst, rfl⟩
        have HHAS := Lib.hid hhas
        have HU2 := Lib.hid (HU.out.below hB2 (Nat.le_refl _))
        have HB2 := Lib.hid (HB1.out.trans hB2)
        have HD2 := Lib.hid hD2
        have HF2 := Lib.hid (HF1.out.trans hF2.drop)
        have HOW : Hid (∀ b, v2.ownBlock = some b → v.ownBlock = some b ∨ w.heap.size ≤ b) := Lib.hid (fun b e => .inr (Nat.le_trans HF1.out.1 (hO2 b e)))
        have hl9 : (insAt k (newF n) l).length ≤ 1000 := by omega
        clear hst hhas hD2 hB2 HD1 HU HB1 hl hF2 hO2 HF1
        have hl := hl9
        clear hl9
        generalize insAt k (newF n) l = l1 at *
        clear hlen
        go_wp2_with fail
        obtain ⟨hk, hnm⟩ := ixF_is HHAS.out.ix
        obtain ⟨A, ca, hv⟩ := HD2.out.own.slice
        obtain ⟨m, hm⟩ : ∃ m, l1.length = m := ⟨_, rfl⟩
        rw [hm] at hv
        subst hv
        obtain ⟨gr, u, hA, hB, hgr, hrg, hu, hfr⟩ := HD2.out.own.at_ k hk
        subst hA
        have hr := rat_any B g _ l1 (c + 1) n W2 HD2.out hl
        rw [HHAS.out.ix, atv_some] at hr
        refine hr.mono ?_
        rintro e w' ⟨rfl, rfl⟩
        clear hr
        go_wp2_with (at_builtin; refine wpList_append_byt rfl _ _ rfl W2.heap.size _ _ _ _ _ rfl (ownB_nil W2.heap.size _) rfl HU2.out ?x1 (Nat.le_refl _) ?_)
        case x1 => simp; omega
        intro v3 W3 ho3 hb3
        obtain ⟨A3, c3, hv3⟩ := own_slice ho3
        rw [hq] at hv3
        subst hv3
        have HO3 := Lib.hid (ownN_of ho3 (fun k hk => Nat.lt_of_lt_of_le (HNN.out k hk) HF2.out.1))
        have hgr3 : gr < W3.heap.size := Nat.lt_of_lt_of_le hgr hb3.size
        have hrg3 := rng_below9 hrg hb3 hgr
        have hc11 : W3.cell? ⟨gr, k * 4 + 1, none⟩ = some u := hrg3 1 _ rfl
        have hc12 : W3.cell? ⟨gr, k * 4 + 2, none⟩ = some (.int .i64 (l1[k].fast : Nat)) := hrg3 2 _ rfl
        have hc13 : W3.cell? ⟨gr, k * 4 + 3, none⟩ = some (.bool l1[k].there) := hrg3 3 _ rfl
        have hf1 : W3.frozen? ⟨gr, k * 4 + 1, none⟩ = false := (hb3.frozen (p := ⟨gr, k * 4 + 1, none⟩) hgr).trans (hfr _)
        have hf2 : W3.frozen? ⟨gr, k * 4 + 2, none⟩ = false := (hb3.frozen (p := ⟨gr, k * 4 + 2, none⟩) hgr).trans (hfr _)
        have hf3 : W3.frozen? ⟨gr, k * 4 + 3, none⟩ = false := (hb3.frozen (p := ⟨gr, k * 4 + 3, none⟩) hgr).trans (hfr _)
        have HD3 := Lib.hid (HD2.out.below hb3)
        have HF3 := Lib.hid (HF2.out.trans (Frm.of_below g _ hb3))
        have HB3 := Lib.hid (HB2.out.trans (hb3.mono (Nat.le_trans hw HB2.out.size)))
        clear hrg hrg3 hfr ho3 hb3 HD2 HU2 HB2
        go_wp2
        go_ret
        refine ⟨⟨fun e => ?_, fun _ e => ?_, fun _ _ => ⟨rfl, l1, k, .slice (some ⟨gr, 0, none⟩) m ca, HHAS.out, ?_⟩⟩, ((HB3.out.setCell (p := ⟨gr, k * 4 + 1, none⟩) hB _).setCell (p := ⟨gr, k * 4 + 2, none⟩) hB _).setCell (p := ⟨gr, k * 4 + 3, none⟩) hB _, ((HF3.out.setp (HOW.out gr rfl) _).setp (HOW.out gr rfl) _).setp (HOW.out gr rfl) _⟩
        · rw [HG.out] at e; cases e
        · omega
        · have h1 := HD3.out.set (k := k) (j := 1) (u := .slice A3 q c3) hk ⟨l1[k].name, bs, l1[k].fast, l1[k].there⟩ (by omega) (fun v hv => ⟨.slice A3 q c3, by simp [flc], HO3.out⟩)
          have h2 := h1.set (k := k) (j := 2) (u := .int .i64 (q : Int)) (by rw [List.length_set]; exact hk) ⟨l1[k].name, bs, q, l1[k].there⟩ (by omega) (fun v hv => ⟨v, by simp [flc], by simpa using hv⟩)
          have h3 := h2.set (k := k) (j := 3) (u := .bool true) (by rw [List.length_set, List.length_set]; exact hk) ⟨l1[k].name, bs, q, true⟩ (by omega) (fun v hv => ⟨v, by simp [flc], by simpa using hv⟩)
          rw [List.set_set, List.set_set, hnm] at h3
          rw [hq]
          exact h3
      · have hhas : Has9 n l l k := .inl ⟨hix, rfl⟩
        have HHAS := Lib.hid hhas
        clear hix hhas
        replace hl : l.length ≤ 1000 := by omega
        have HD2 := HD1; have HU2 := HU; have HB2 := HB1; have HF2 := HF1
        have HOW : Hid (∀ b, v.ownBlock = some b → v.ownBlock = some b ∨ w.heap.size ≤ b) := Lib.hid (fun b e => .inl e)
        clear HD1 HU HB1 HF1
        generalize hl1 : l = l1 at HD2 hl
        have hhas : Has9 n l l1 k := by rw [← hl1]; exact HHAS.out
        replace HHAS := Lib.hid hhas
        clear hhas hl1
        obtain ⟨hk, hnm⟩ := ixF_is HHAS.out.ix
        obtain ⟨A, ca, hv⟩ := HD2.out.own.slice
        obtain ⟨m, hm⟩ : ∃ m, l1.length = m := ⟨_, rfl⟩
        rw [hm] at hv
        subst hv
        obtain ⟨gr, u, hA, hB, hgr, hrg, hu, hfr⟩ := HD2.out.own.at_ k hk
        subst hA
        have hr := rat_any B g _ l1 (c + 1) n W1 HD2.out hl
        rw [HHAS.out.ix, atv_some] at hr
        refine hr.mono ?_
        rintro e w' ⟨rfl, rfl⟩
        clear hr
        go_wp2_with (at_builtin; refine wpList_append_byt rfl _ _ rfl W1.heap.size _ _ _ _ _ rfl (ownB_nil W1.heap.size _) rfl HU2.out ?x1 (Nat.le_refl _) ?_)
        case x1 => simp; omega
        intro v3 W3 ho3 hb3
        obtain ⟨A3, c3, hv3⟩ := own_slice ho3
        rw [hq] at hv3
        subst hv3
        have HO3 := Lib.hid (ownN_of ho3 (fun k hk => Nat.lt_of_lt_of_le (HNN.out k hk) HF2.out.1))
        have hgr3 : gr < W3.heap.size := Nat.lt_of_lt_of_le hgr hb3.size
        have hrg3 := rng_below9 hrg hb3 hgr
        have hc11 : W3.cell? ⟨gr, k * 4 + 1, none⟩ = some u := hrg3 1 _ rfl
        have hc12 : W3.cell? ⟨gr, k * 4 + 2, none⟩ = some (.int .i64 (l1[k].fast : Nat)) := hrg3 2 _ rfl
        have hc13 : W3.cell? ⟨gr, k * 4 + 3, none⟩ = some (.bool l1[k].there) := hrg3 3 _ rfl
        have hf1 : W3.frozen? ⟨gr, k * 4 + 1, none⟩ = false := (hb3.frozen (p := ⟨gr, k * 4 + 1, none⟩) hgr).trans (hfr _)
        have hf2 : W3.frozen? ⟨gr, k * 4 + 2, none⟩ = false := (hb3.frozen (p := ⟨gr, k * 4 + 2, none⟩) hgr).trans (hfr _)
        have hf3 : W3.frozen? ⟨gr, k * 4 + 3, none⟩ = false := (hb3.frozen (p := ⟨gr, k * 4 + 3, none⟩) hgr).trans (hfr _)
        have HD3 := Lib.hid (HD2.out.below hb3)
        have HF3 := Lib.hid (HF2.out.trans (Frm.of_below g _ hb3))
        have HB3 := Lib.hid (HB2.out.trans (hb3.mono (Nat.le_trans hw HB2.out.size)))
        clear hrg hrg3 hfr ho3 hb3 HD2 HU2 HB2
        go_wp2
        go_ret
        refine ⟨⟨fun e => ?_, fun _ e => ?_, fun _ _ => ⟨rfl, l1, k, .slice (some ⟨gr, 0, none⟩) m ca, HHAS.out, ?_⟩⟩, ((HB3.out.setCell (p := ⟨gr, k * 4 + 1, none⟩) hB _).setCell (p := ⟨gr, k * 4 + 2, none⟩) hB _).setCell (p := ⟨gr, k * 4 + 3, none⟩) hB _, ((HF3.out.setp (HOW.out gr rfl) _).setp (HOW.out gr rfl) _).setp (HOW.out gr rfl) _⟩
        · rw [HG.out] at e; cases e
        · omega
        · have h1 := HD3.out.set (k := k) (j := 1) (u := .slice A3 q c3) hk ⟨l1[k].name, bs, l1[k].fast, l1[k].there⟩ (by omega) (fun v hv => ⟨.slice A3 q c3, by simp [flc], HO3.out⟩)
          have h2 := h1.set (k := k) (j := 2) (u := .int .i64 (q : Int)) (by rw [List.length_set]; exact hk) ⟨l1[k].name, bs, q, l1[k].there⟩ (by omega) (fun v hv => ⟨v, by simp [flc], by simpa using hv⟩)
          have h3 := h2.set (k := k) (j := 3) (u := .bool true) (by rw [List.length_set, List.length_set]; exact hk) ⟨l1[k].name, bs, q, true⟩ (by omega) (fun v hv => ⟨v, by simp [flc], by simpa using hv⟩)
          rw [List.set_set, List.set_set, hnm] at h3
          rw [hq]
          exact h3
end Go.Proofs.Ytbdengcblncfmaa
