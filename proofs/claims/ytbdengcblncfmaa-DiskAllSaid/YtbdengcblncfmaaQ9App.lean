/-
  The reference's Append: bytes are put at a file's end.
  The disk has at most 999 files of at most 2^20 bytes each; the bytes' cells lie below the disk's base.
-/
import Derived.Test.YtbdengcblncfmaaQ9Swap
set_option linter.unusedSimpArgs false
set_option linter.unusedVariables false
namespace Go.Proofs.Ytbdengcblncfmaa
open Go.RowKit
set_option maxRecDepth 100000

/-- how many bytes a file has -/
def lenF (n : ByteArray) (l : List Fil) : Nat := match ixF n l with
  | none => 0
  | some k => match l[k]? with
    | none => 0
    | some f => f.b.length
theorem lenF_no {n : ByteArray} {l : List Fil} (h : ixF n l = none) : lenF n l = 0 := by unfold lenF; rw [h]
theorem lenF_at {n : ByteArray} {l : List Fil} {k : Nat} (h : ixF n l = some k) (hk : k < l.length) : lenF n l = l[k].b.length := by unfold lenF; rw [h]; simp only [List.getElem?_eq_getElem hk]
set_option maxHeartbeats 1000000 in
theorem rapp_disk {N : Nat → Prop} (B g : Nat) (v u : Value) (l : List Fil) (c : Nat) (n : ByteArray) (bs : List UInt8) (w : World) (h : Dsk N w B g v l c) (hl : l.length ≤ 999) (hll : ∀ f ∈ l, f.b.length ≤ 1048576) (hc : c ≤ 1000000) (hw : B ≤ w.heap.size) (hN : ∀ k, N k → k < w.heap.size) (hn : n.size ≤ 1000000) (hb : Byt w B u bs) (hbl : bs.length ≤ 2000000) :
    Calls Try.prog 15 #[.pointer (some ⟨g, 0, none⟩), .string n, u] w fun e w' =>
      ((goodN n = false → e = .returned (.int .i64 1) ∧ Dsk N w' B g v l (c + 1)) ∧ (goodN n = true → 1048576 < lenF n l + bs.length → e = .returned (.int .i64 5) ∧ Dsk N w' B g v l (c + 1)) ∧
      (goodN n = true → lenF n l + bs.length ≤ 1048576 → e = .returned (.int .i64 0) ∧ ∃ l1 k, ∃ hk : k < l1.length, ∃ v', Has9 n l l1 k ∧ Dsk N w' B g v' (l1.set k ⟨n, l1[k].b ++ bs, l1[k].fast, l1[k].there⟩) (c + 1))) ∧ Below B w w' ∧ Frm w w' g v.ownBlock := by
  have H := Lib.hid h
  have HNN := Lib.hid hN
  clear hN
  have hc1 := h.cell1
  have hfz := h.frz 1
  have hD1 := h.count (c + 1)
  have hB1 : Below B w (w.setCell ⟨g, 1, none⟩ (.int .i64 ((c + 1 : Nat) : Int))) := (Below.refl B w).setCell h.lo _
  rw [Int.natCast_add, Int.natCast_one] at hD1 hB1
  have HD1 := Lib.hid hD1
  have HB1 := Lib.hid hB1
  have HF1 : Hid (Frm w (w.setCell ⟨g, 1, none⟩ (.int .i64 ((c : Int) + 1))) g v.ownBlock) := Lib.hid ((Frm.refl w g _).seta _)
  have HU := Lib.hid (hb.below hB1 (Nat.le_refl _))
  obtain ⟨Au, cu, hu, -, -⟩ := hb
  obtain ⟨q, hq⟩ : ∃ q, bs.length = q := ⟨_, rfl⟩
  rw [hq] at hu hbl
  subst hu
  clear h hD1 hB1
  go_enter Try.func15, Try.ntmps15
  go_wp2_with fail
  generalize w.setCell ⟨g, 1, none⟩ (.int .i64 ((c : Int) + 1)) = W1 at *
  refine (rgood_any n W1 hn).mono ?_
  rintro e w' ⟨rfl, rfl⟩
  rcases hgn : goodN n with _ | _
  · have HG := Lib.hid hgn
    clear hgn
    go_wp2
    go_ret
    refine ⟨⟨fun _ => ⟨rfl, HD1.out⟩, fun e => ?_, fun e => ?_⟩, HB1.out, HF1.out⟩ <;> (rw [HG.out] at e; cases e)
  · have HG := Lib.hid hgn
    clear hgn
    go_wp2_with fail
    rcases hix : ixF n l with _ | k
    · have hr := rat_any B g _ l (c + 1) n W1 HD1.out (by omega)
      rw [hix, atv_none] at hr
      refine hr.mono ?_
      rintro e w' ⟨rfl, rfl⟩
      clear hr
      have HLF := Lib.hid (lenF_no hix)
      have HIX := Lib.hid hix
      clear hix
      by_cases hbig : 1048576 < q
      · have hbi : (1048576 : Int) < q := by omega
        go_wp2
        go_ret
        refine ⟨⟨fun e => ?_, fun _ _ => ⟨rfl, HD1.out⟩, fun _ e => ?_⟩, HB1.out, HF1.out⟩
        · rw [HG.out] at e; cases e
        · rw [HLF.out] at e; omega
      have hbi : (q : Int) ≤ 1048576 := by omega
      go_wp2_with fail
      refine (rput_disk B g _ l (c + 1) n W1 HD1.out (by omega) (Nat.le_trans hw HB1.out.size) (fun k hk => Nat.lt_of_lt_of_le (HNN.out k hk) HF1.out.1)).mono ?_
      rintro e W2 ⟨v2, k, hst, rfl, hD2, hB2, hF2, hO2⟩
      have hlen := insAt_len (f := newF n) hst.1
      have hhas : Has9 n l (insAt k (newF n) l) k := .inr ⟨HIX.out, hst, rfl⟩
      have HHAS := Lib.hid hhas
      have HU2 := Lib.hid (HU.out.below hB2 (Nat.le_refl _))
      have HB2 := Lib.hid (HB1.out.trans hB2)
      have HD2 := Lib.hid hD2
      have HF2 := Lib.hid (HF1.out.trans hF2.drop)
      have HOW : Hid (∀ b, v2.ownBlock = some b → v.ownBlock = some b ∨ w.heap.size ≤ b) := Lib.hid (fun b e => .inr (Nat.le_trans HF1.out.1 (hO2 b e)))
      have hl9 : (insAt k (newF n) l).length ≤ 1000 := by omega
      have hb9 : ∀ hk : k < (insAt k (newF n) l).length, (insAt k (newF n) l)[k].b.length ≤ 1048576 := fun hk => by rw [insAt_at hst.1]; exact Nat.zero_le _
      clear hst hhas hD2 hB2 HD1 HU HB1 hl hF2 hO2 HF1
      have hl := hl9
      clear hl9
      generalize insAt k (newF n) l = l1 at *
      clear hlen
      go_wp2_with fail
      obtain ⟨hk0, hnm⟩ := ixF_is HHAS.out.ix
      obtain ⟨q0, hq0⟩ : ∃ q0, l1[k].b.length = q0 := ⟨_, rfl⟩
      replace hb9 := hb9 hk0
      rw [hq0] at hb9
      obtain ⟨A, ca, hv⟩ := HD2.out.own.slice
      obtain ⟨m, hm⟩ : ∃ m, l1.length = m := ⟨_, rfl⟩
      rw [hm] at hv
      subst hv
      obtain ⟨gr, u, hA, hB, hgr, hrg, hu, hfr⟩ := HD2.out.own.at_ k hk0
      subst hA
      obtain ⟨A0, c0, hu0⟩ := own_slice hu
      rw [hq0] at hu0
      subst hu0
      have hc11 : W2.cell? ⟨gr, k * 4 + 1, none⟩ = some (.slice A0 q0 c0) := hrg 1 _ rfl
      have hr := rat_any B g _ l1 (c + 1) n W2 HD2.out hl
      rw [HHAS.out.ix, atv_some] at hr
      refine hr.mono ?_
      rintro e w' ⟨rfl, rfl⟩
      clear hr
      go_wp2_with (at_builtin; refine wpList_append_byt rfl _ _ rfl W2.heap.size _ _ _ _ _ rfl (ownB_nil W2.heap.size _) rfl (Byt.of_own hu) ?x1 (Nat.le_refl _) ?_)
      case x1 => simp [hq0]; omega
      intro v3 W3 ho3 hb3
      obtain ⟨A3, c3, hv3⟩ := own_slice ho3
      have hq1 : (l1[k].b).length = q0 := hq0
      rw [hq1] at hv3
      subst hv3
      go_wp2_with (at_builtin; refine wpList_append_byt rfl _ _ rfl W2.heap.size _ _ _ _ _ rfl ho3 rfl (HU2.out.below hb3 (Nat.le_trans hw HB2.out.size)) ?x2 hb3.size ?_)
      case x2 => rw [hq, hq1]; omega
      intro v4 W4 ho4 hb4
      replace hb4 := hb3.trans hb4
      have hlen4 : ((l1[k].b) ++ bs).length = q0 + q := by rw [List.length_append, hq, hq1]
      obtain ⟨A4, c4, hv4⟩ := own_slice ho4
      rw [hlen4] at hv4
      subst hv4
      have HO4 : Hid (OwnQ N (.slice A4 (q0 + q) c4) (l1[k].b ++ bs) W4) := Lib.hid (ownN_of ho4 (fun k hk => Nat.lt_of_lt_of_le (HNN.out k hk) HF2.out.1))
      have hgr4 : gr < W4.heap.size := Nat.lt_of_lt_of_le hgr hb4.size
      have hrg4 := rng_below9 hrg hb4 hgr
      have hc41 : W4.cell? ⟨gr, k * 4 + 1, none⟩ = some (.slice A0 q0 c0) := hrg4 1 _ rfl
      have hf1 : W4.frozen? ⟨gr, k * 4 + 1, none⟩ = false := (hb4.frozen (p := ⟨gr, k * 4 + 1, none⟩) hgr).trans (hfr _)
      have HD4 := Lib.hid (HD2.out.below hb4)
      have HF4 := Lib.hid (HF2.out.trans (Frm.of_below g _ hb4))
      have HB4 := Lib.hid (HB2.out.trans (hb4.mono (Nat.le_trans hw HB2.out.size)))
      clear hrg hrg4 hfr ho3 hb3 ho4 hb4 hlen4 hu HD2 HU2 HB2 hc11
      go_wp2
      go_ret
      refine ⟨⟨fun e => ?_, fun _ e => ?_, fun _ _ => ⟨rfl, l1, k, hk0, .slice (some ⟨gr, 0, none⟩) m ca, HHAS.out, ?_⟩⟩, HB4.out.setCell (p := ⟨gr, k * 4 + 1, none⟩) hB _, HF4.out.setp (HOW.out gr rfl) _⟩
      · rw [HG.out] at e; cases e
      · rw [HLF.out] at e; omega
      · have h1 := HD4.out.set (k := k) (j := 1) (u := .slice A4 (q0 + q) c4) hk0 ⟨n, l1[k].b ++ bs, l1[k].fast, l1[k].there⟩ (by omega) (fun v hv => ⟨.slice A4 (q0 + q) c4, by simp [flc, hnm], HO4.out⟩)
        exact h1
    · have hhas : Has9 n l l k := .inl ⟨hix, rfl⟩
      obtain ⟨hk0, hnm⟩ := ixF_is hix
      have HLF := Lib.hid (lenF_at hix hk0)
      have HOW : Hid (∀ b, v.ownBlock = some b → v.ownBlock = some b ∨ w.heap.size ≤ b) := Lib.hid (fun b e => .inl e)
      have HHAS := Lib.hid hhas
      clear hhas
      replace hl : l.length ≤ 1000 := by omega
      obtain ⟨q0, hq0⟩ : ∃ q0, l[k].b.length = q0 := ⟨_, rfl⟩
      have hb9 := hll l[k] (List.getElem_mem hk0)
      rw [hq0] at hb9
      rw [hq0] at HLF
      obtain ⟨A, ca, hv⟩ := HD1.out.own.slice
      obtain ⟨m, hm⟩ : ∃ m, l.length = m := ⟨_, rfl⟩
      rw [hm] at hv
      subst hv
      obtain ⟨gr, u, hA, hB, hgr, hrg, hu, hfr⟩ := HD1.out.own.at_ k hk0
      subst hA
      obtain ⟨A0, c0, hu0⟩ := own_slice hu
      rw [hq0] at hu0
      subst hu0
      have hc11 : W1.cell? ⟨gr, k * 4 + 1, none⟩ = some (.slice A0 q0 c0) := hrg 1 _ rfl
      have hr := rat_any B g _ l (c + 1) n W1 HD1.out hl
      rw [hix, atv_some] at hr
      refine hr.mono ?_
      rintro e w' ⟨rfl, rfl⟩
      clear hr hix
      by_cases hbig : 1048576 < q0 + q
      · have hbi : (1048576 : Int) - q0 < q := by omega
        go_wp2
        go_ret
        refine ⟨⟨fun e => ?_, fun _ _ => ⟨rfl, HD1.out⟩, fun _ e => ?_⟩, HB1.out, HF1.out⟩
        · rw [HG.out] at e; cases e
        · rw [HLF.out] at e; omega
      have hbi : (q : Int) ≤ 1048576 - q0 := by omega
      go_wp2_with (at_builtin; refine wpList_append_byt rfl _ _ rfl W1.heap.size _ _ _ _ _ rfl (ownB_nil W1.heap.size _) rfl (Byt.of_own hu) ?x1 (Nat.le_refl _) ?_)
      case x1 => simp [hq0]; omega
      intro v3 W3 ho3 hb3
      obtain ⟨A3, c3, hv3⟩ := own_slice ho3
      have hq1 : (l[k].b).length = q0 := hq0
      rw [hq1] at hv3
      subst hv3
      go_wp2_with (at_builtin; refine wpList_append_byt rfl _ _ rfl W1.heap.size _ _ _ _ _ rfl ho3 rfl (HU.out.below hb3 (Nat.le_trans hw HB1.out.size)) ?x2 hb3.size ?_)
      case x2 => rw [hq, hq1]; omega
      intro v4 W4 ho4 hb4
      replace hb4 := hb3.trans hb4
      have hlen4 : ((l[k].b) ++ bs).length = q0 + q := by rw [List.length_append, hq, hq1]
      obtain ⟨A4, c4, hv4⟩ := own_slice ho4
      rw [hlen4] at hv4
      subst hv4
      have HO4 : Hid (OwnQ N (.slice A4 (q0 + q) c4) (l[k].b ++ bs) W4) := Lib.hid (ownN_of ho4 (fun k hk => Nat.lt_of_lt_of_le (HNN.out k hk) HF1.out.1))
      have hgr4 : gr < W4.heap.size := Nat.lt_of_lt_of_le hgr hb4.size
      have hrg4 := rng_below9 hrg hb4 hgr
      have hc41 : W4.cell? ⟨gr, k * 4 + 1, none⟩ = some (.slice A0 q0 c0) := hrg4 1 _ rfl
      have hf1 : W4.frozen? ⟨gr, k * 4 + 1, none⟩ = false := (hb4.frozen (p := ⟨gr, k * 4 + 1, none⟩) hgr).trans (hfr _)
      have HD4 := Lib.hid (HD1.out.below hb4)
      have HF4 := Lib.hid (HF1.out.trans (Frm.of_below g _ hb4))
      have HB4 := Lib.hid (HB1.out.trans (hb4.mono (Nat.le_trans hw HB1.out.size)))
      clear hrg hrg4 hfr ho3 hb3 ho4 hb4 hlen4 hu HD1 HU HB1 hc11
      go_wp2
      go_ret
      refine ⟨⟨fun e => ?_, fun _ e => ?_, fun _ _ => ⟨rfl, l, k, hk0, .slice (some ⟨gr, 0, none⟩) m ca, HHAS.out, ?_⟩⟩, HB4.out.setCell (p := ⟨gr, k * 4 + 1, none⟩) hB _, HF4.out.setp (HOW.out gr rfl) _⟩
      · rw [HG.out] at e; cases e
      · rw [HLF.out] at e; omega
      · have h1 := HD4.out.set (k := k) (j := 1) (u := .slice A4 (q0 + q) c4) hk0 ⟨n, l[k].b ++ bs, l[k].fast, l[k].there⟩ (by omega) (fun v hv => ⟨.slice A4 (q0 + q) c4, by simp [flc, hnm], HO4.out⟩)
        exact h1
end Go.Proofs.Ytbdengcblncfmaa
