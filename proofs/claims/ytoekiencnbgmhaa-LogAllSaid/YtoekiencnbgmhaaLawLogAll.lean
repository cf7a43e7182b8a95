/-
  LogAll: a log is put to, packed, set and asked as the reference says. It is true for all arguments.
-/
import Derived.Test.YtoekiencnbgmhaaRows
import Derived.Test.YtoekiencnbgmhaaCun2
import Derived.Test.YtoekiencnbgmhaaCun4
import Derived.Test.YtoekiencnbgmhaaCun1
import Derived.WalkKit
import Derived.ProofKit
import Derived.OpenShut
import Derived.ShutString
namespace Go.Proofs.Ytoekiencnbgmhaa.logAll
open Go.ChangeShapes Go.WideShapes Go.ChangeAt Go.RowKit
open Go.ChangeMaps (open_string shut_string)
set_option linter.unusedVariables false

theorem own : ownKnob Try.prog.godebug = none := by kernel_rfl

set_option maxRecDepth 100000 in
set_option maxHeartbeats 8000000 in
theorem walk (w : World) (a0 : Snp) (w0 : a0.fit) (A1 : Option Addr) (c1 : Nat) (a1 : List Ent) (w1 : Ens (fun j => j < w.heap.size) w (.slice A1 a1.length c1) a1) (x1 : ∀ x ∈ a1, x.fit) (A2 : Option Addr) (c2 : Nat) (a2 : List Rop) (w2 : Rops w w.heap.size (.slice A2 a2.length c2) a2) (x2 : ∀ x ∈ a2, x.fit) :
    Calls Try.prog 3 #[a0.val, .slice A1 a1.length c1, .slice A2 a2.length c2] w fun e w' => e = .returned (.bool true) ∧ Below w.heap.size w w' := by
  obtain ⟨ix, st, cf, dt⟩ := a0
  obtain ⟨f1, f2, f3, f4⟩ := w0
  simp only at f1 f2 f3 f4
  obtain ⟨cf2, hcf⟩ : ∃ x, cutS cf 60 = x := ⟨_, rfl⟩
  obtain ⟨dt2, hdt⟩ : ∃ x, cutS dt 100 = x := ⟨_, rfl⟩
  have hcs : cf2.size ≤ 100000 := by rw [← hcf]; exact Nat.le_trans (cutS_size _ _) (by decide)
  have hds : dt2.size ≤ 100000 := by rw [← hdt]; exact Nat.le_trans (cutS_size _ _) (by decide)
  have HC := Lib.hid (And.intro hcf hdt)
  have HS := Lib.hid (And.intro hcs hds)
  have HI := Lib.hid f1
  have hdt9 : ∀ e ∈ (a1.take 12).map cutEnt, e.data.size ≤ 1000 := fun e he => by
    obtain ⟨x, _, rfl⟩ := List.mem_map.1 he
    exact Nat.le_trans (cutS_size _ _) (by decide)
  have hfit := cutEnts_fit (q := 12) (fun e he => (x1 e he).1)
  have hsh := cutEnts_short a1 12
  obtain ⟨M, hM⟩ : ∃ M, (a1.take 12).map cutEnt = M := ⟨_, rfl⟩
  rw [hM] at hfit hsh hdt9
  have HDT := Lib.hid hdt9
  have hcs9 : cf2.size ≤ 1000 := by rw [← hcf]; exact Nat.le_trans (cutS_size _ _) (by decide)
  have hds9 : dt2.size ≤ 1000 := by rw [← hdt]; exact Nat.le_trans (cutS_size _ _) (by decide)
  have HS9 := Lib.hid (And.intro hcs9 hds9)
  have HF := Lib.hid hfit
  have HSH := Lib.hid hsh
  have HM := Lib.hid hM
  have HA := Lib.hid w1
  obtain ⟨m0, hm0⟩ : ∃ m0, a1.length = m0 := ⟨_, rfl⟩
  rw [hm0] at HA ⊢
  show Calls _ _ #[.agg #[.int .i64 ix, .int .i64 st, .string cf, .string dt], .slice A1 m0 c1, .slice A2 a2.length c2] w _
  clear hcf hdt hcs hds f1 f2 f3 f4 hfit hsh hdt9 hcs9 hds9 hM w1 x1 hm0
  obtain ⟨r0, hr0⟩ : ∃ r0, a2.length = r0 := ⟨_, rfl⟩
  rw [hr0] at w2 ⊢
  have HOPS := Lib.hid w2
  have HR0 := Lib.hid hr0
  have HFIT := Lib.hid x2
  clear w2 hr0 x2
  obtain ⟨b0, hb0⟩ : ∃ b0, w.heap.size = b0 := ⟨_, rfl⟩
  obtain ⟨k0, hk0⟩ : ∃ k0, w.alloc (.cells #[.int .i64 ix, .int .i64 st, .string cf, .string dt] 23) = k0 := ⟨_, rfl⟩
  have hx : Rt k0 b0 23 [.int .i64 ix, .int .i64 st, .string cf, .string dt] := by rw [← hk0, ← hb0]; exact Rt.new _ _ _
  have hb : Below w.heap.size w k0 := by rw [← hk0]; exact below_new _ _
  go_enter Try.func3, Try.ntmps3
  go_wp2_with fail
  refine (begun13_any k0).mono ?_
  rintro e k1 ⟨rfl, h⟩
  have HX := Lib.hid (hx.below h)
  have HB := Lib.hid (hb.trans (h.mono hb.size))
  clear hx hb h hk0
  have d0 := HX.out.cell (j := 0) rfl
  have d1 := HX.out.cell (j := 1) rfl
  have d2 := HX.out.cell (j := 2) rfl
  have d3 := HX.out.cell (j := 3) rfl
  go_wp2_with fail
  refine (snap13_any ix st cf dt cf2 dt2 _ HC.out.1 HC.out.2).mono ?_
  rintro e k2 ⟨rfl, h⟩
  have HX2 := Lib.hid (HX.out.below h)
  have HB2 := Lib.hid (HB.out.trans (h.mono HB.out.size))
  clear h d0 d1 d2 d3 HX HB
  go_wp2_with fail
  refine (ents13_any _ A1 m0 c1 12 a1 _ (HA.out.under HB2.out (Nat.le_refl _)) (by decide)).mono ?_
  rintro e k3 ⟨v3, rfl, hO, h⟩
  rw [HM.out] at hO
  obtain ⟨A3, c3, rfl⟩ := hO.slice
  obtain ⟨m, hm⟩ : ∃ m, M.length = m := ⟨_, rfl⟩
  have HML := Lib.hid hm
  have hm12 : m ≤ 12 := by rw [← hm]; exact HSH.out
  rw [hm] at hO ⊢
  have hx3 := HX2.out.below h
  have hbk := Nat.lt_of_lt_of_le HX2.out.lt (Nat.le_refl _)
  have hB3 := HB2.out.trans (h.mono HB2.out.size)
  have d0 := hx3.cell (j := 0) rfl
  have d1 := hx3.cell (j := 1) rfl
  have d2 := hx3.cell (j := 2) rfl
  have d3 := hx3.cell (j := 3) rfl
  have f0 := hx3.frz 0
  have f1 := hx3.frz 1
  have f2 := hx3.frz 2
  have f3 := hx3.frz 3
  have hx4 := (((hx3.set 0 (.int .i64 ix)).set 1 (.int .i64 st)).set 2 (.string cf2)).set 3 (.string dt2)
  have hB4 : Below w.heap.size w ((((k3.setCell ⟨b0, 0, none⟩ (.int .i64 ix)).setCell ⟨b0, 1, none⟩ (.int .i64 st)).setCell ⟨b0, 2, none⟩ (.string cf2)).setCell ⟨b0, 3, none⟩ (.string dt2)) := ((((hB3.setCell (p := ⟨b0, 0, none⟩) (Nat.le_of_eq hb0) (.int .i64 ix)).setCell (p := ⟨b0, 1, none⟩) (Nat.le_of_eq hb0) (.int .i64 st)).setCell (p := ⟨b0, 2, none⟩) (Nat.le_of_eq hb0) (.string cf2)).setCell (p := ⟨b0, 3, none⟩) (Nat.le_of_eq hb0) (.string dt2))
  have ho : Off (fun j => j = b0) k3 ((((k3.setCell ⟨b0, 0, none⟩ (.int .i64 ix)).setCell ⟨b0, 1, none⟩ (.int .i64 st)).setCell ⟨b0, 2, none⟩ (.string cf2)).setCell ⟨b0, 3, none⟩ (.string dt2)) := Off.set (Off.set (Off.set (Off.set (Off.refl _ k3) (.inl rfl)) (.inl rfl)) (.inl rfl)) (.inl rfl)
  have hO4 := hO.off ho (fun j hj e => by subst e; have := (hO.lt j hj).1; omega)
  obtain ⟨k4, hk4⟩ : ∃ k4, (((k3.setCell ⟨b0, 0, none⟩ (.int .i64 ix)).setCell ⟨b0, 1, none⟩ (.int .i64 st)).setCell ⟨b0, 2, none⟩ (.string cf2)).setCell ⟨b0, 3, none⟩ (.string dt2) = k4 := ⟨_, rfl⟩
  rw [hk4] at hx4 hB4 hO4
  have HX4 := Lib.hid hx4
  have HB4 := Lib.hid hB4
  have HO4 := Lib.hid (hO4.down (Nat.le_trans HB2.out.size (Nat.le_refl _)))
  have HGE := Lib.hid (fun j hj => (hO4.lt j hj).1)
  have hbk2 : b0 < k2.heap.size := hbk
  have HK4 := Lib.hid hk4
  have e0 := hx4.cell (j := 0) rfl
  have e1 := hx4.cell (j := 1) rfl
  have e2 := hx4.cell (j := 2) rfl
  have e3 := hx4.cell (j := 3) rfl
  clear hO hO4 ho hx3 hx4 hB3 hB4 h hm HX2 hbk
  obtain ⟨bn, hbn⟩ : ∃ bn, new13 ⟨ix, st, cf2, dt2⟩ M = bn := ⟨_, rfl⟩
  go_wp2_with fail
  clear d0 d1 d2 d3 f0 f1 f2 f3
  refine (new_lk (fun j => j < k4.heap.size) ⟨ix, st, cf2, dt2⟩ A3 m c3 M k4 (fun _ h => h) ((Ens.of_own HO4.out).mono fun j hj hl => hl) (by rw [HML.out]; omega) HI.out HF.out HS.out.1 HS.out.2 bn hbn).mono ?_
  rintro e k6 ⟨hb6, ⟨hbf, rfl⟩ | ⟨hbt, g, rfl, hL6⟩⟩
  · subst hbf
    have HB6 := Lib.hid (HB4.out.trans (hb6.mono HB4.out.size))
    have hrl := rnewL_x (fun j => j < k4.heap.size) ⟨ix, st, cf2, dt2⟩ A3 m c3 M k6 ((Ens.under ((Ens.of_own HO4.out).mono fun j hj hl => hl) hb6 (Nat.le_refl _))) (by rw [HML.out]; omega) (fun e he => (HF.out e he).2) false hbn
    have HRL := Lib.hid hrl
    have hx6 := HX4.out.below hb6
    have e0 := hx6.cell (j := 0) rfl
    have e1 := hx6.cell (j := 1) rfl
    have e2 := hx6.cell (j := 2) rfl
    have e3 := hx6.cell (j := 3) rfl
    clear hb6 hrl hbn hx6 HK4
    go_wp2_with fail
    refine HRL.out.mono ?_
    rintro e k7 ⟨hb7, ⟨_, rfl⟩ | ⟨hbt, _⟩⟩
    · have HB7 := Lib.hid (HB6.out.trans (hb7.mono HB6.out.size))
      clear hb7 e0 e1 e2 e3 HRL
      obtain ⟨br, hbr⟩ : ∃ b, k7.heap.size = b := ⟨_, rfl⟩
      obtain ⟨W8, hW8⟩ : ∃ W8, k7.alloc (.cells #[.int .i64 0, .int .i64 0, .string ⟨#[]⟩, .string ⟨#[]⟩, .slice none 0 0] 32) = W8 := ⟨_, rfl⟩
      have hb78 : Below k7.heap.size k7 W8 := by rw [← hW8]; exact below_new _ _
      have hZ : Rt W8 br 32 [.int .i64 0, .int .i64 0, .string ⟨#[]⟩, .string ⟨#[]⟩, .slice none 0 0] := by rw [← hW8, ← hbr]; exact Rt.new _ _ _
      have hB8 := HB7.out.trans (hb78.mono HB7.out.size)
      have z0 := hZ.cell (j := 0) rfl
      have z1 := hZ.cell (j := 1) rfl
      have z2 := hZ.cell (j := 2) rfl
      have z3 := hZ.cell (j := 3) rfl
      have z4 := hZ.cell (j := 4) rfl
      have f0 := hZ.frz 0
      have f1 := hZ.frz 1
      have f2 := hZ.frz 2
      have f3 := hZ.frz 3
      have f4 := hZ.frz 4
      have hZ9 := (((((hZ.set 0 (.int .i64 0)).set 1 (.int .i64 0)).set 2 (.string ⟨#[]⟩)).set 3 (.string ⟨#[]⟩)).set 4 (.slice none 0 0))
      have hB9 := (((((hB8.setCell (p := ⟨br, 0, none⟩) (by show w.heap.size ≤ br; rw [← hbr]; exact HB7.out.size) (.int .i64 0)).setCell (p := ⟨br, 1, none⟩) (by show w.heap.size ≤ br; rw [← hbr]; exact HB7.out.size) (.int .i64 0)).setCell (p := ⟨br, 2, none⟩) (by show w.heap.size ≤ br; rw [← hbr]; exact HB7.out.size) (.string ⟨#[]⟩)).setCell (p := ⟨br, 3, none⟩) (by show w.heap.size ≤ br; rw [← hbr]; exact HB7.out.size) (.string ⟨#[]⟩)).setCell (p := ⟨br, 4, none⟩) (by show w.heap.size ≤ br; rw [← hbr]; exact HB7.out.size) (.slice none 0 0))
      have hb79 := (((((hb78.setCell (p := ⟨br, 0, none⟩) (by show k7.heap.size ≤ br; rw [hbr]; exact Nat.le_refl _) (.int .i64 0)).setCell (p := ⟨br, 1, none⟩) (by show k7.heap.size ≤ br; rw [hbr]; exact Nat.le_refl _) (.int .i64 0)).setCell (p := ⟨br, 2, none⟩) (by show k7.heap.size ≤ br; rw [hbr]; exact Nat.le_refl _) (.string ⟨#[]⟩)).setCell (p := ⟨br, 3, none⟩) (by show k7.heap.size ≤ br; rw [hbr]; exact Nat.le_refl _) (.string ⟨#[]⟩)).setCell (p := ⟨br, 4, none⟩) (by show k7.heap.size ≤ br; rw [hbr]; exact Nat.le_refl _) (.slice none 0 0))
      obtain ⟨W9, hW9⟩ : ∃ W9, (((((W8.setCell ⟨br, 0, none⟩ (.int .i64 0)).setCell ⟨br, 1, none⟩ (.int .i64 0)).setCell ⟨br, 2, none⟩ (.string ⟨#[]⟩)).setCell ⟨br, 3, none⟩ (.string ⟨#[]⟩)).setCell ⟨br, 4, none⟩ (.slice none 0 0)) = W9 := ⟨_, rfl⟩
      rw [hW9] at hZ9 hB9 hb79
      have HB79 := Lib.hid hb79
      have HW9 := Lib.hid hW9
      have HB9 := Lib.hid hB9
      have HZ9 := Lib.hid hZ9
      have hnbr : (fun j => ((j < k4.heap.size ∨ (k6.heap.size ≤ j ∧ j < k7.heap.size)) ∨ (k7.heap.size ≤ j ∧ j < W8.heap.size))) br := .inr ⟨by rw [hbr]; exact Nat.le_refl _, hZ.lt⟩
      clear hZ hZ9 hB9 hW9 hB8 hb79
      go_wp2
      rw [HW9.out]
      go_ret
      exact ⟨rfl, HB9.out⟩
    · cases hbt
  · subst hbt
    have HB6 := Lib.hid (HB4.out.trans (hb6.mono HB4.out.size))
    have hrl := rnewL_x (fun j => j < k4.heap.size) ⟨ix, st, cf2, dt2⟩ A3 m c3 M k6 ((Ens.under ((Ens.of_own HO4.out).mono fun j hj hl => hl) hb6 (Nat.le_refl _))) (by rw [HML.out]; omega) (fun e he => (HF.out e he).2) true hbn
    have HRL := Lib.hid hrl
    have HLK := Lib.hid hL6
    have hx6 := HX4.out.below hb6
    have HX6 := Lib.hid hx6
    have HNB := Lib.hid hbn
    have HZ4 := Lib.hid HB4.out.size
    have e0 := hx6.cell (j := 0) rfl
    have e1 := hx6.cell (j := 1) rfl
    have e2 := hx6.cell (j := 2) rfl
    have e3 := hx6.cell (j := 3) rfl
    clear hb6 hrl hbn hx6 HK4 hL6
    go_wp2_with fail
    refine HRL.out.mono ?_
    rintro e k7 ⟨hb7, ⟨hbt, _⟩ | ⟨_, v7, rfl, hO7⟩⟩
    · cases hbt
    · have HB7 := Lib.hid (HB6.out.trans (hb7.mono HB6.out.size))
      have HLK7 := Lib.hid (HLK.out.others hb7)
      have HX7 := Lib.hid (HX6.out.below hb7)
      have HO7 := Lib.hid hO7
      obtain ⟨A7, c7, rfl⟩ := hO7.slice
      rw [HML.out] at HO7 ⊢
      have HZ67 := Lib.hid hb7.size
      clear hb7 e0 e1 e2 e3 HRL hO7 HX6 HLK HO4 HX4
      simp only [lgv]
      obtain ⟨br, hbr⟩ : ∃ b, k7.heap.size = b := ⟨_, rfl⟩
      obtain ⟨W8, hW8⟩ : ∃ W8, k7.alloc (.cells #[.int .i64 0, .int .i64 0, .string ⟨#[]⟩, .string ⟨#[]⟩, .slice none 0 0] 32) = W8 := ⟨_, rfl⟩
      have hb78 : Below k7.heap.size k7 W8 := by rw [← hW8]; exact below_new _ _
      have hZ : Rt W8 br 32 [.int .i64 0, .int .i64 0, .string ⟨#[]⟩, .string ⟨#[]⟩, .slice none 0 0] := by rw [← hW8, ← hbr]; exact Rt.new _ _ _
      have hB8 := HB7.out.trans (hb78.mono HB7.out.size)
      have z0 := hZ.cell (j := 0) rfl
      have z1 := hZ.cell (j := 1) rfl
      have z2 := hZ.cell (j := 2) rfl
      have z3 := hZ.cell (j := 3) rfl
      have z4 := hZ.cell (j := 4) rfl
      have f0 := hZ.frz 0
      have f1 := hZ.frz 1
      have f2 := hZ.frz 2
      have f3 := hZ.frz 3
      have f4 := hZ.frz 4
      have hZ9 := (((((hZ.set 0 (.int .i64 ix)).set 1 (.int .i64 st)).set 2 (.string cf2)).set 3 (.string dt2)).set 4 (.slice A7 m c7))
      have hB9 := (((((hB8.setCell (p := ⟨br, 0, none⟩) (by show w.heap.size ≤ br; rw [← hbr]; exact HB7.out.size) (.int .i64 ix)).setCell (p := ⟨br, 1, none⟩) (by show w.heap.size ≤ br; rw [← hbr]; exact HB7.out.size) (.int .i64 st)).setCell (p := ⟨br, 2, none⟩) (by show w.heap.size ≤ br; rw [← hbr]; exact HB7.out.size) (.string cf2)).setCell (p := ⟨br, 3, none⟩) (by show w.heap.size ≤ br; rw [← hbr]; exact HB7.out.size) (.string dt2)).setCell (p := ⟨br, 4, none⟩) (by show w.heap.size ≤ br; rw [← hbr]; exact HB7.out.size) (.slice A7 m c7))
      have hb79 := (((((hb78.setCell (p := ⟨br, 0, none⟩) (by show k7.heap.size ≤ br; rw [hbr]; exact Nat.le_refl _) (.int .i64 ix)).setCell (p := ⟨br, 1, none⟩) (by show k7.heap.size ≤ br; rw [hbr]; exact Nat.le_refl _) (.int .i64 st)).setCell (p := ⟨br, 2, none⟩) (by show k7.heap.size ≤ br; rw [hbr]; exact Nat.le_refl _) (.string cf2)).setCell (p := ⟨br, 3, none⟩) (by show k7.heap.size ≤ br; rw [hbr]; exact Nat.le_refl _) (.string dt2)).setCell (p := ⟨br, 4, none⟩) (by show k7.heap.size ≤ br; rw [hbr]; exact Nat.le_refl _) (.slice A7 m c7))
      obtain ⟨W9, hW9⟩ : ∃ W9, (((((W8.setCell ⟨br, 0, none⟩ (.int .i64 ix)).setCell ⟨br, 1, none⟩ (.int .i64 st)).setCell ⟨br, 2, none⟩ (.string cf2)).setCell ⟨br, 3, none⟩ (.string dt2)).setCell ⟨br, 4, none⟩ (.slice A7 m c7)) = W9 := ⟨_, rfl⟩
      rw [hW9] at hZ9 hB9 hb79
      have HB79 := Lib.hid hb79
      have HW9 := Lib.hid hW9
      have HB9 := Lib.hid hB9
      have HZ9 := Lib.hid hZ9
      have hnbr : (fun j => ((j < k4.heap.size ∨ (k6.heap.size ≤ j ∧ j < k7.heap.size)) ∨ (k7.heap.size ≤ j ∧ j < W8.heap.size))) br := .inr ⟨by rw [hbr]; exact Nat.le_refl _, hZ.lt⟩
      clear hZ hZ9 hB9 hW9 hB8 hb79
      have HLK9 := Lib.hid (((((((HLK7.out.others hb78).set (p := ⟨br, 0, none⟩) (.int .i64 ix) hnbr rfl).set (p := ⟨br, 1, none⟩) (.int .i64 st) hnbr rfl).set (p := ⟨br, 2, none⟩) (.string cf2) hnbr rfl).set (p := ⟨br, 3, none⟩) (.string dt2) hnbr rfl).set (p := ⟨br, 4, none⟩) (.slice A7 m c7) hnbr rfl))
      rw [HW9.out] at HLK9
      clear hb78
      have HLI : ∃ N, LI N 200 w.heap.size W9 g br ⟨⟨ix, st, cf2, dt2⟩, M⟩ A7 m c7 := by
        refine ⟨_, HLK9.out, HZ9.out, ?_, HML.out, hnbr, fun i hi => .inl (.inl (Nat.lt_of_lt_of_le hi HZ4.out)), fol13_new HNB.out, HDT.out, HS9.out.1, HS9.out.2⟩
        refine (Ens.of_own (HO7.out.below HB79.out)).mono fun j hj hl => ?_
        have h9 := HO7.out.lt j hj
        exact ⟨.inl (.inr h9), fun e => by omega⟩
      obtain ⟨N, hLI⟩ := HLI
      have HBRG := Lib.hid (show w.heap.size ≤ br from by rw [← hbr]; exact HB7.out.size)
      have HLI := Lib.hid hLI
      clear hnbr hLI HLK9 HZ9 HB79 HZ67 HX7 HO7 HLK7 HB7 HB6 HB4 HB2 HNB HDT HS9 HS HC HI HF HSH HA HZ4 HGE hbk2 hm12
      go_wp2_with fail
      rw [HW9.out]
      clear HW9
      go_loopw [11] (fun i wx => ∃ j : Nat, j ≤ r0 ∧ j ≤ 30 ∧ i = .int .i64 (j : Int) ∧ ∃ N r A n c, LI N (200 + 1000 * j) w.heap.size wx g br r A n c ∧ Below w.heap.size w wx) (fun i _ => r0 - (intOf i).toNat)
      case atStart => exact ⟨0, Nat.zero_le _, by decide, rfl, N, _, _, _, _, HLI.out, HB9.out⟩
      case round =>
        clear HLI HB9 HML HM hbr
        obtain ⟨j, hjr, hj30, rfl, N, ⟨⟨px, pt, pc, pd⟩, L⟩, A, n, c, hli, hbx⟩ := hrel
        have HLI := Lib.hid hli
        have HBX := Lib.hid hbx
        clear hli hbx
        by_cases hlt : j < r0
        · have hji : (j : Int) < (r0 : Int) := by omega
          by_cases h30 : j < 30
          · have h30i : (j : Int) < 30 := by omega
            have hjl : j < a2.length := by rw [HR0.out]; exact hlt
            obtain ⟨go, oo, Ak, ck, hA, hgo, hcs, hEl⟩ := HOPS.out.at_ j hjl
            subst hA
            have hfit := HFIT.out _ (List.getElem_mem hjl)
            obtain ⟨⟨kd, El, ⟨sx, sy, sc, sd⟩, oi, ot, on⟩, hop⟩ : ∃ o, a2[j] = o := ⟨_, rfl⟩
            rw [hop] at hcs hEl hfit
            obtain ⟨f1, f2, ⟨f3, f4, f5, f6⟩, f7, f8, f9⟩ := hfit
            simp only at hcs hEl f1 f2 f3 f4 f5 f6 f7 f8 f9
            obtain ⟨el, hel⟩ : ∃ el, El.length = el := ⟨_, rfl⟩
            rw [hel] at hcs hEl
            have y0 := (HBX.out.cell (p := ⟨go, oo + j * 9, none⟩) hgo).trans (hcs 0 (.int .i64 kd) rfl)
            have y1 := (HBX.out.cell (p := ⟨go, oo + j * 9 + 1, none⟩) hgo).trans (hcs 1 (.slice Ak el ck) rfl)
            have y2 := (HBX.out.cell (p := ⟨go, oo + j * 9 + 2, none⟩) hgo).trans (hcs 2 (.int .i64 sx) rfl)
            have y3 := (HBX.out.cell (p := ⟨go, oo + j * 9 + 3, none⟩) hgo).trans (hcs 3 (.int .i64 sy) rfl)
            have y4 := (HBX.out.cell (p := ⟨go, oo + j * 9 + 4, none⟩) hgo).trans (hcs 4 (.string sc) rfl)
            have y5 := (HBX.out.cell (p := ⟨go, oo + j * 9 + 5, none⟩) hgo).trans (hcs 5 (.string sd) rfl)
            have y6 := (HBX.out.cell (p := ⟨go, oo + j * 9 + 6, none⟩) hgo).trans (hcs 6 (.int .i64 oi) rfl)
            have y7 := (HBX.out.cell (p := ⟨go, oo + j * 9 + 7, none⟩) hgo).trans (hcs 7 (.int .i64 ot) rfl)
            have y8 := (HBX.out.cell (p := ⟨go, oo + j * 9 + 8, none⟩) hgo).trans (hcs 8 (.int .i64 on) rfl)
            obtain ⟨be, hbe⟩ : ∃ be, wr.heap.size = be := ⟨_, rfl⟩
            obtain ⟨W0, hW0⟩ : ∃ W0, wr.alloc (.cells #[.int .i64 kd, .slice Ak el ck, .int .i64 sx, .int .i64 sy, .string sc, .string sd, .int .i64 oi, .int .i64 ot, .int .i64 on] 36) = W0 := ⟨_, rfl⟩
            have hO : Rt W0 be 36 [.int .i64 kd, .slice Ak el ck, .int .i64 sx, .int .i64 sy, .string sc, .string sd, .int .i64 oi, .int .i64 ot, .int .i64 on] := by rw [← hW0, ← hbe]; exact Rt.new _ _ _
            have hB : Below wr.heap.size wr W0 := by rw [← hW0]; exact below_new _ _
            have HEL := Lib.hid (hEl.under HBX.out (Nat.le_refl _))
            have HF3 := Lib.hid f3
            have HF2 := Lib.hid f2
            have HF9 := Lib.hid (And.intro f1 f9)
            have HF7 := Lib.hid (And.intro f7 f8)
            have HELN := Lib.hid hel
            have HW0 := Lib.hid hW0
            have HBE := Lib.hid hbe
            clear hcs hEl hop f1 f2 f3 f4 f5 f6 f7 f8 f9 hel hjl
            go_wp2_with fail
            clear hW0 hbe y0 y1 y2 y3 y4 y5 y6 y7 y8
            clear HW0
            replace hO : Rt W0.drew be 36 [.int .i64 kd, .slice Ak el ck, .int .i64 sx, .int .i64 sy, .string sc, .string sd, .int .i64 oi, .int .i64 ot, .int .i64 on] := hO
            replace hB := hB.drew
            obtain ⟨sc2, hsc⟩ : ∃ x, cutS sc 60 = x := ⟨_, rfl⟩
            obtain ⟨sd2, hsd⟩ : ∃ x, cutS sd 100 = x := ⟨_, rfl⟩
            have HSC := Lib.hid hsc
            have HSD := Lib.hid hsd
            clear hsc hsd
            refine wp_region_noPanic ?_
            refine region_g 7 (fun W => Rt W be 36 [.int .i64 kd, .slice Ak el ck, .int .i64 sx, .int .i64 sy, .string sc, .string sd, .int .i64 oi, .int .i64 ot, .int .i64 on]) (by kernel_rfl) ?_
            generalize W0.drew = kz at *
            have hHeld : (fun W : World => Rt W be 36 [.int .i64 kd, .slice Ak el ck, .int .i64 sx, .int .i64 sy, .string sc, .string sd, .int .i64 oi, .int .i64 ot, .int .i64 on]) kz := hO
            refine tkL 0 (.pointer (some ⟨be, 1, none⟩)) rfl (fun w hSw => ?_) ?_
            · (try dsimp only at hSw)
              have q0 := Rt.cell (j := 0) hSw rfl
              have q1 := Rt.cell (j := 1) hSw rfl
              have q2 := Rt.cell (j := 2) hSw rfl
              have q3 := Rt.cell (j := 3) hSw rfl
              have q4 := Rt.cell (j := 4) hSw rfl
              have q5 := Rt.cell (j := 5) hSw rfl
              have q6 := Rt.cell (j := 6) hSw rfl
              have q7 := Rt.cell (j := 7) hSw rfl
              have q8 := Rt.cell (j := 8) hSw rfl
              go_simp
            try simp only [Act.put, List.setIfInBounds_toArray, List.set_cons_zero, List.set_cons_succ]
            refine tkL 1 (.slice Ak el ck) rfl (fun w hSw => ?_) ?_
            · (try dsimp only at hSw)
              have q0 := Rt.cell (j := 0) hSw rfl
              have q1 := Rt.cell (j := 1) hSw rfl
              have q2 := Rt.cell (j := 2) hSw rfl
              have q3 := Rt.cell (j := 3) hSw rfl
              have q4 := Rt.cell (j := 4) hSw rfl
              have q5 := Rt.cell (j := 5) hSw rfl
              have q6 := Rt.cell (j := 6) hSw rfl
              have q7 := Rt.cell (j := 7) hSw rfl
              have q8 := Rt.cell (j := 8) hSw rfl
              go_simp
            try simp only [Act.put, List.setIfInBounds_toArray, List.set_cons_zero, List.set_cons_succ]
            refine tkL 3 (.pointer (some ⟨be, 2, none⟩)) rfl (fun w hSw => ?_) ?_
            · (try dsimp only at hSw)
              have q0 := Rt.cell (j := 0) hSw rfl
              have q1 := Rt.cell (j := 1) hSw rfl
              have q2 := Rt.cell (j := 2) hSw rfl
              have q3 := Rt.cell (j := 3) hSw rfl
              have q4 := Rt.cell (j := 4) hSw rfl
              have q5 := Rt.cell (j := 5) hSw rfl
              have q6 := Rt.cell (j := 6) hSw rfl
              have q7 := Rt.cell (j := 7) hSw rfl
              have q8 := Rt.cell (j := 8) hSw rfl
              go_simp
            try simp only [Act.put, List.setIfInBounds_toArray, List.set_cons_zero, List.set_cons_succ]
            refine tkL 4 (.agg #[.int .i64 sx, .int .i64 sy, .string sc, .string sd]) rfl (fun w hSw => ?_) ?_
            · (try dsimp only at hSw)
              have q0 := Rt.cell (j := 0) hSw rfl
              have q1 := Rt.cell (j := 1) hSw rfl
              have q2 := Rt.cell (j := 2) hSw rfl
              have q3 := Rt.cell (j := 3) hSw rfl
              have q4 := Rt.cell (j := 4) hSw rfl
              have q5 := Rt.cell (j := 5) hSw rfl
              have q6 := Rt.cell (j := 6) hSw rfl
              have q7 := Rt.cell (j := 7) hSw rfl
              have q8 := Rt.cell (j := 8) hSw rfl
              go_simp
            try simp only [Act.put, List.setIfInBounds_toArray, List.set_cons_zero, List.set_cons_succ]
            refine stM 2 rfl (fun K hK => ?_)
            go_simp
            go_at_call 9
            refine (ents13_any (fun i => i < w.heap.size) Ak el ck 12 El _ (HEL.out.below hB) (by decide)).mono ?_
            rintro e k2 ⟨v5, rfl, hN5, h⟩
            obtain ⟨M2, hM2⟩ : ∃ M2, (El.take 12).map cutEnt = M2 := ⟨_, rfl⟩
            rw [hM2] at hN5
            obtain ⟨A5, c5, rfl⟩ := hN5.slice
            obtain ⟨l5, hl5⟩ : ∃ l, M2.length = l := ⟨_, rfl⟩
            rw [hl5] at hN5 ⊢
            have HM2 := Lib.hid hM2
            have HL5 := Lib.hid hl5
            have hbe2 : be < kz.heap.size := hO.lt
            replace hO := hO.below h
            replace hB := hB.trans (h.mono hB.size)
            clear h hM2 hl5
            clear hHeld
            have hHeld : (fun W : World => Rt W be 36 [.int .i64 kd, .slice Ak el ck, .int .i64 sx, .int .i64 sy, .string sc, .string sd, .int .i64 oi, .int .i64 ot, .int .i64 on]) _ := hO
            refine hK.out _ _ (.inr hHeld) ?_
            clear hK K
            try simp only [Act.put, List.setIfInBounds_toArray, List.set_cons_zero, List.set_cons_succ]
            refine tkL 6 (.pointer (some ⟨be, 1, none⟩)) rfl (fun w hSw => ?_) ?_
            · (try dsimp only at hSw)
              have q0 := Rt.cell (j := 0) hSw rfl
              have q1 := Rt.cell (j := 1) hSw rfl
              have q2 := Rt.cell (j := 2) hSw rfl
              have q3 := Rt.cell (j := 3) hSw rfl
              have q4 := Rt.cell (j := 4) hSw rfl
              have q5 := Rt.cell (j := 5) hSw rfl
              have q6 := Rt.cell (j := 6) hSw rfl
              have q7 := Rt.cell (j := 7) hSw rfl
              have q8 := Rt.cell (j := 8) hSw rfl
              go_simp
            try simp only [Act.put, List.setIfInBounds_toArray, List.set_cons_zero, List.set_cons_succ]
            refine stM 5 rfl (fun K hK => ?_)
            go_simp
            go_at_call 8
            refine (snap13_any sx sy sc sd sc2 sd2 _ HSC.out HSD.out).mono ?_
            rintro e k5 ⟨rfl, h⟩
            replace hN5 := hN5.below h
            replace hO := hO.below h
            replace hB := hB.trans (h.mono hB.size)
            clear h
            clear hHeld
            have hHeld : (fun W : World => Rt W be 36 [.int .i64 kd, .slice Ak el ck, .int .i64 sx, .int .i64 sy, .string sc, .string sd, .int .i64 oi, .int .i64 ot, .int .i64 on]) _ := hO
            refine hK.out _ _ (.inr hHeld) ?_
            clear hK K
            try simp only [Act.put, List.setIfInBounds_toArray, List.set_cons_zero, List.set_cons_succ]
            refine stM 7 rfl (fun K hK => ?_)
            go_simp
            have t1 := hO.cell (j := 1) (v := .slice Ak el ck) rfl
            have g1 := hO.frz 1
            obtain ⟨W3, hW3⟩ : ∃ W3, k5.setCell ⟨be, 1, none⟩ (.slice A5 l5 c5) = W3 := ⟨_, rfl⟩
            have hO3 := hO.set 1 (.slice A5 l5 c5)
            have hB3 := hB.setCell (p := ⟨be, 1, none⟩) (by show wr.heap.size ≤ be; rw [HBE.out]; exact Nat.le_refl _) (.slice A5 l5 c5)
            have hN3 := hN5.off (S := fun x => x = be) (show Off (fun x => x = be) k5 (k5.setCell ⟨be, 1, none⟩ (.slice A5 l5 c5)) from Off.set (Off.refl _ k5) (.inl rfl)) (fun x hx e => by have := (hN5.lt x hx).1; omega)
            rw [hW3] at hO3 hB3 hN3
            go_simp
            try rw [hW3]
            clear t1 g1 hO hB hN5 hW3
            refine hK.out _ _ (.inl (by decide)) ?_
            clear hK K
            try simp only [Act.put, List.setIfInBounds_toArray, List.set_cons_zero, List.set_cons_succ]
            refine stM 8 rfl (fun K hK => ?_)
            go_simp
            refine hK.out _ _ (.inl (by decide)) ?_
            clear hK K
            try simp only [Act.put, List.setIfInBounds_toArray, List.set_cons_zero, List.set_cons_succ]
            refine stM 9 rfl (fun K hK => ?_)
            go_simp
            have t2 := hO3.cell (j := 2) rfl
            have g2 := hO3.frz 2
            have t3 := hO3.cell (j := 3) rfl
            have g3 := hO3.frz 3
            have t4 := hO3.cell (j := 4) rfl
            have g4 := hO3.frz 4
            have t5 := hO3.cell (j := 5) rfl
            have g5 := hO3.frz 5
            obtain ⟨W5, hW5⟩ : ∃ W5, ((((W3.setCell ⟨be, 2, none⟩ (.int .i64 sx)).setCell ⟨be, 3, none⟩ (.int .i64 sy)).setCell ⟨be, 4, none⟩ (.string sc2)).setCell ⟨be, 5, none⟩ (.string sd2)) = W5 := ⟨_, rfl⟩
            have hO5 := ((((hO3.set 2 (.int .i64 sx)).set 3 (.int .i64 sy)).set 4 (.string sc2)).set 5 (.string sd2))
            have hB5 := ((((hB3.setCell (p := ⟨be, 2, none⟩) (by show wr.heap.size ≤ be; rw [HBE.out]; exact Nat.le_refl _) (.int .i64 sx)).setCell (p := ⟨be, 3, none⟩) (by show wr.heap.size ≤ be; rw [HBE.out]; exact Nat.le_refl _) (.int .i64 sy)).setCell (p := ⟨be, 4, none⟩) (by show wr.heap.size ≤ be; rw [HBE.out]; exact Nat.le_refl _) (.string sc2)).setCell (p := ⟨be, 5, none⟩) (by show wr.heap.size ≤ be; rw [HBE.out]; exact Nat.le_refl _) (.string sd2))
            have hN6 := hN3.off (S := fun x => x = be) (show Off (fun x => x = be) W3 (((((W3.setCell ⟨be, 2, none⟩ (.int .i64 sx)).setCell ⟨be, 3, none⟩ (.int .i64 sy)).setCell ⟨be, 4, none⟩ (.string sc2)).setCell ⟨be, 5, none⟩ (.string sd2))) from Off.set (Off.set (Off.set (Off.set (Off.refl _ W3) (.inl rfl)) (.inl rfl)) (.inl rfl)) (.inl rfl)) (fun x hx e => by have := (hN3.lt x hx).1; omega)
            rw [hW5] at hO5 hB5 hN6
            go_simp
            try rw [hW5]
            clear t2 t3 t4 t5 g2 g3 g4 g5 hO3 hB3 hN3 hW5
            refine hK.out _ _ (.inl (by decide)) ?_
            clear hK K
            try simp only [Act.put, List.setIfInBounds_toArray, List.set_cons_zero, List.set_cons_succ]
            refine anyG_done (by kernel_rfl) ?_ _
            refine NoPanic.normal ?_
            have HO5 := Lib.hid hO5
            have HB5 := Lib.hid (HBX.out.trans (hB5.mono HBX.out.size))
            have HLI5 := Lib.hid (HLI.out.others hB5)
            have hnb : Nw N wr W5 be := .inr ⟨by rw [HBE.out]; exact Nat.le_refl _, hO5.lt⟩
            have HNB := Lib.hid hnb
            have HEN := Lib.hid (show Ens (fun i => Nw N wr W5 i ∧ i ≠ br) W5 (.slice A5 l5 c5) M2 from (Ens.of_own hN6).mono fun i hi hl => by
              have h9 := (hN6.lt i hi).1
              have h8 := HLI.out.lk.2.2.2 br HLI.out.nbr
              have h7 := HBE.out
              exact ⟨.inr ⟨by omega, hl⟩, fun e => by omega⟩)
            have HDM := Lib.hid (show ∀ e ∈ M2, e.data.size ≤ 1000 ∧ -9223372036854775808 ≤ e.ix ∧ e.ix ≤ 9223372036854775807 from by
              rw [← HM2.out]
              intro e he
              refine ⟨cutEnts_dat _ _ e he, ?_⟩
              obtain ⟨x, hx, rfl⟩ := List.mem_map.1 he
              exact (HF2.out x (List.mem_of_mem_take hx)).1)
            have hl12 : l5 ≤ 12 := by
              rw [← HL5.out, ← HM2.out, List.length_map]
              exact List.length_take_le _ _
            have hbb : be ≠ br := fun e => by
              have h8 := HLI.out.lk.2.2.2 br HLI.out.nbr
              have h7 := HBE.out
              omega
            have HBB := Lib.hid hbb
            have HSS := Lib.hid (show sc2.size ≤ 1000 ∧ sd2.size ≤ 1000 from ⟨by rw [← HSC.out]; exact Nat.le_trans (cutS_size _ _) (by decide), by rw [← HSD.out]; exact Nat.le_trans (cutS_size _ _) (by decide)⟩)
            clear hO5 hB5 hN6 hnb hbb HLI HBX HEL HF2 HELN HM2 HSC HSD HBE hbe2 hHeld
            generalize hNN : Nw N wr W5 = NN at HLI5 HNB HEN
            clear hNN
            have y0 := HO5.out.cell (j := 0) rfl
            by_cases hk0 : kd = 0
            · subst hk0
              obtain ⟨⟨⟨⟨qx, qt, qc, qd⟩, L'⟩, at', bb⟩, hp⟩ : ∃ q, put13 ⟨⟨px, pt, pc, pd⟩, L⟩ M2 = q := ⟨_, rfl⟩
              have HP := Lib.hid hp
              have y1 := HO5.out.cell (j := 1) (v := .slice A5 l5 c5) rfl
              go_wp2_with fail
              refine (lPut_any NN (200 + 1000 * j) A5 l5 c5 M2 HLI5.out.lk (by omega) (HEN.out.mono fun i hi _ => hi.1) (by rw [HL5.out]; omega) (fun e he => ⟨Nat.le_trans (HDM.out e he).1 (by decide), (HDM.out e he).2⟩) ⟨⟨qx, qt, qc, qd⟩, L'⟩ at' bb HP.out).mono ?_
              rintro e k1 ⟨rfl, hlk1, hs1⟩
              have HO1 := Lib.hid (hs1.rt HO5.out HNB.out)
              have HEN1 := Lib.hid (hs1.ens (HEN.out.mono fun i hi _ => hi.1))
              have HR1 := Lib.hid (hs1.rt HLI5.out.box HLI5.out.nbr)
              have HROW1 := Lib.hid (LI.std HLI5.out.row hs1)
              have HB1 := Lib.hid (HB5.out.trans (hs1.below HB5.out.size HLI5.out.args))
              have HLK1 := Lib.hid hlk1
              have hbr1 : br < k1.heap.size := HR1.out.lt
              have HBR1 := Lib.hid hbr1
              clear y0 y1 hlk1 hs1 hp
              have y1 := HO1.out.cell (j := 1) (v := .slice A5 l5 c5) rfl
              have v0 := HR1.out.cell (j := 0) rfl
              have v1 := HR1.out.cell (j := 1) rfl
              have v2 := HR1.out.cell (j := 2) rfl
              have v3 := HR1.out.cell (j := 3) rfl
              have v4 := HR1.out.cell (j := 4) rfl
              go_wp2_with fail
              refine (rput_x (N := NN) (M := NN) (L := L) ⟨HLI5.out.lk.1.more (by omega), HLI5.out.len, HROW1.out.mono fun i hi _ => hi.1⟩ HEN1.out (by rw [HL5.out]; omega) (fun e he => (HDM.out e he).2) ⟨⟨qx, qt, qc, qd⟩, L'⟩ at' bb HP.out).mono ?_
              rintro e k2 ⟨v, rfl, hv, hb12⟩
              replace hv : (v = .slice A n c ∧ L' = L) ∨ OwnEn k1.heap.size v L' k2 := hv.imp (fun h => ⟨h.1, congrArg Lg.L h.2⟩) id
              obtain ⟨A', c', rfl⟩ := row_slice13 HLI5.out.len hv
              obtain ⟨n', hn'⟩ : ∃ n', L'.length = n' := ⟨_, rfl⟩
              rw [hn'] at hv ⊢
              simp only [lgv]
              clear y1 v0 v1 v2 v3 v4 hbr1
              obtain ⟨bx, hbx⟩ : ∃ b, k2.heap.size = b := ⟨_, rfl⟩
              obtain ⟨W6, hW6⟩ : ∃ W6, k2.alloc (.cells #[.int .i64 0, .int .i64 0, .string ⟨#[]⟩, .string ⟨#[]⟩, .slice none 0 0] 32) = W6 := ⟨_, rfl⟩
              have hb26 : Below k2.heap.size k2 W6 := by rw [← hW6]; exact below_new _ _
              have hZ : Rt W6 bx 32 [.int .i64 0, .int .i64 0, .string ⟨#[]⟩, .string ⟨#[]⟩, .slice none 0 0] := by rw [← hW6, ← hbx]; exact Rt.new _ _ _
              have z0 := hZ.cell (j := 0) rfl
              have z1 := hZ.cell (j := 1) rfl
              have z2 := hZ.cell (j := 2) rfl
              have z3 := hZ.cell (j := 3) rfl
              have z4 := hZ.cell (j := 4) rfl
              have f0 := hZ.frz 0
              have f1 := hZ.frz 1
              have f2 := hZ.frz 2
              have f3 := hZ.frz 3
              have f4 := hZ.frz 4
              have hX7 := (((((hZ.set 0 (.int .i64 qx)).set 1 (.int .i64 qt)).set 2 (.string qc)).set 3 (.string qd)).set 4 (.slice A' n' c'))
              have hb27 := (((((hb26.setCell (p := ⟨bx, 0, none⟩) (by show k2.heap.size ≤ bx; rw [hbx]; exact Nat.le_refl _) (.int .i64 qx)).setCell (p := ⟨bx, 1, none⟩) (by show k2.heap.size ≤ bx; rw [hbx]; exact Nat.le_refl _) (.int .i64 qt)).setCell (p := ⟨bx, 2, none⟩) (by show k2.heap.size ≤ bx; rw [hbx]; exact Nat.le_refl _) (.string qc)).setCell (p := ⟨bx, 3, none⟩) (by show k2.heap.size ≤ bx; rw [hbx]; exact Nat.le_refl _) (.string qd)).setCell (p := ⟨bx, 4, none⟩) (by show k2.heap.size ≤ bx; rw [hbx]; exact Nat.le_refl _) (.slice A' n' c'))
              obtain ⟨W7, hW7⟩ : ∃ W7, (((((W6.setCell ⟨bx, 0, none⟩ (.int .i64 qx)).setCell ⟨bx, 1, none⟩ (.int .i64 qt)).setCell ⟨bx, 2, none⟩ (.string qc)).setCell ⟨bx, 3, none⟩ (.string qd)).setCell ⟨bx, 4, none⟩ (.slice A' n' c')) = W7 := ⟨_, rfl⟩
              rw [hW7] at hX7 hb27
              have hb17 := hb12.trans (hb27.mono hb12.size)
              have x0 := hX7.cell (j := 0) rfl
              have x1 := hX7.cell (j := 1) rfl
              have x2 := hX7.cell (j := 2) rfl
              have x3 := hX7.cell (j := 3) rfl
              have x4 := hX7.cell (j := 4) rfl
              have hrow := row_next13 HROW1.out HBR1.out hv hb12 hb27
              have hR7 := HR1.out.below hb17
              have hfol := fol13_put HLI5.out.fol M2
              have hdat := dat13_put HLI5.out.dat (fun e he => (HDM.out e he).1)
              rw [HP.out] at hfol hdat
              have hli := LI.turn (w0 := w.heap.size) (HLK1.out.others hb17) hR7 hrow hn' (.inl HLI5.out.nbr) (fun i hi => .inl (HLI5.out.args i hi)) hfol hdat
              have u0 := hR7.cell (j := 0) rfl
              have u1 := hR7.cell (j := 1) rfl
              have u2 := hR7.cell (j := 2) rfl
              have u3 := hR7.cell (j := 3) rfl
              have u4 := hR7.cell (j := 4) rfl
              have h0 := hR7.frz 0
              have h1 := hR7.frz 1
              have h2 := hR7.frz 2
              have h3 := hR7.frz 3
              have h4 := hR7.frz 4
              obtain ⟨W8, hW8⟩ : ∃ W8, (((((W7.setCell ⟨br, 0, none⟩ (.int .i64 qx)).setCell ⟨br, 1, none⟩ (.int .i64 qt)).setCell ⟨br, 2, none⟩ (.string qc)).setCell ⟨br, 3, none⟩ (.string qd)).setCell ⟨br, 4, none⟩ (.slice A' n' c')) = W8 := ⟨_, rfl⟩
              rw [hW8] at hli
              have HLI8 := Lib.hid hli
              have HW8 := Lib.hid hW8
              have hb8 : Below w.heap.size w W8 := by
                rw [← hW8]
                have hg : w.heap.size ≤ br := HBRG.out
                exact (((((HB1.out.trans (hb17.mono HB1.out.size)).setCell (p := ⟨br, 0, none⟩) hg _).setCell (p := ⟨br, 1, none⟩) hg _).setCell (p := ⟨br, 2, none⟩) hg _).setCell (p := ⟨br, 3, none⟩) hg _).setCell (p := ⟨br, 4, none⟩) hg _
              have HB8 := Lib.hid hb8
              clear hli hrow hR7 hfol hdat hb8 hv hb12 hb26 hb27 hb17 hX7 hZ hn'
              have v0 := HLI8.out.box.cell (j := 0) rfl
              have v1 := HLI8.out.box.cell (j := 1) rfl
              have v2 := HLI8.out.box.cell (j := 2) rfl
              have v3 := HLI8.out.box.cell (j := 3) rfl
              have v4 := HLI8.out.box.cell (j := 4) rfl
              go_wp2_with fail
              refine (lsame13_any HLI8.out.lk (by omega) (HLI8.out.rl (by omega)) HLI8.out.fol HLI8.out.dat).mono ?_
              rintro e k9 ⟨rfl, h⟩
              clear v0 v1 v2 v3 v4
              go_wp2
              go_roundw
              case rel => exact ⟨j + 1, by omega, by omega, by go_num, _, _, _, _, _, (HLI8.out.below h).more (by omega), HB8.out.trans (h.mono HB8.out.size)⟩
              case measure => simp [intOf]; omega
            · by_cases hk1 : kd = 1
              · subst hk1
                obtain ⟨⟨⟨⟨qx, qt, qc, qd⟩, L'⟩, bb⟩, hp⟩ : ∃ q, pck13 ⟨⟨px, pt, pc, pd⟩, L⟩ ⟨sx, sy, sc2, sd2⟩ = q := ⟨_, rfl⟩
                have HP := Lib.hid hp
                clear hp
                have v0 := HLI5.out.box.cell (j := 0) rfl
                have v1 := HLI5.out.box.cell (j := 1) rfl
                have v2 := HLI5.out.box.cell (j := 2) rfl
                have v3 := HLI5.out.box.cell (j := 3) rfl
                have v4 := HLI5.out.box.cell (j := 4) rfl
                have y2 := HO5.out.cell (j := 2) (v := .int .i64 sx) rfl
                have y3 := HO5.out.cell (j := 3) (v := .int .i64 sy) rfl
                have y4 := HO5.out.cell (j := 4) (v := .string sc2) rfl
                have y5 := HO5.out.cell (j := 5) (v := .string sd2) rfl
                go_wp2_with fail
                refine (rpack_x (HLI5.out.rl (by omega)) ⟨sx, sy, sc2, sd2⟩ ⟨⟨qx, qt, qc, qd⟩, L'⟩ bb HP.out).mono ?_
                rintro e k2 ⟨v, rfl, hv, hb12⟩
                replace hv : (v = .slice A n c ∧ L' = L) ∨ OwnEn W5.heap.size v L' k2 := hv.imp (fun h => ⟨h.1, congrArg Lg.L (pck13_false (by rw [← h.2]; exact HP.out))⟩) (fun h => h.2)
                obtain ⟨A', c', rfl⟩ := row_slice13 HLI5.out.len hv
                obtain ⟨n', hn'⟩ : ∃ n', L'.length = n' := ⟨_, rfl⟩
                rw [hn'] at hv ⊢
                simp only [lgv]
                have hbr1 : br < W5.heap.size := HLI5.out.box.lt
                clear y0 y2 y3 y4 y5 v0 v1 v2 v3 v4
                obtain ⟨bx, hbx⟩ : ∃ b, k2.heap.size = b := ⟨_, rfl⟩
                obtain ⟨W6, hW6⟩ : ∃ W6, k2.alloc (.cells #[.int .i64 0, .int .i64 0, .string ⟨#[]⟩, .string ⟨#[]⟩, .slice none 0 0] 32) = W6 := ⟨_, rfl⟩
                have hb26 : Below k2.heap.size k2 W6 := by rw [← hW6]; exact below_new _ _
                have hZ : Rt W6 bx 32 [.int .i64 0, .int .i64 0, .string ⟨#[]⟩, .string ⟨#[]⟩, .slice none 0 0] := by rw [← hW6, ← hbx]; exact Rt.new _ _ _
                have z0 := hZ.cell (j := 0) rfl
                have z1 := hZ.cell (j := 1) rfl
                have z2 := hZ.cell (j := 2) rfl
                have z3 := hZ.cell (j := 3) rfl
                have z4 := hZ.cell (j := 4) rfl
                have f0 := hZ.frz 0
                have f1 := hZ.frz 1
                have f2 := hZ.frz 2
                have f3 := hZ.frz 3
                have f4 := hZ.frz 4
                have hX7 := (((((hZ.set 0 (.int .i64 qx)).set 1 (.int .i64 qt)).set 2 (.string qc)).set 3 (.string qd)).set 4 (.slice A' n' c'))
                have hb27 := (((((hb26.setCell (p := ⟨bx, 0, none⟩) (by show k2.heap.size ≤ bx; rw [hbx]; exact Nat.le_refl _) (.int .i64 qx)).setCell (p := ⟨bx, 1, none⟩) (by show k2.heap.size ≤ bx; rw [hbx]; exact Nat.le_refl _) (.int .i64 qt)).setCell (p := ⟨bx, 2, none⟩) (by show k2.heap.size ≤ bx; rw [hbx]; exact Nat.le_refl _) (.string qc)).setCell (p := ⟨bx, 3, none⟩) (by show k2.heap.size ≤ bx; rw [hbx]; exact Nat.le_refl _) (.string qd)).setCell (p := ⟨bx, 4, none⟩) (by show k2.heap.size ≤ bx; rw [hbx]; exact Nat.le_refl _) (.slice A' n' c'))
                obtain ⟨W7, hW7⟩ : ∃ W7, (((((W6.setCell ⟨bx, 0, none⟩ (.int .i64 qx)).setCell ⟨bx, 1, none⟩ (.int .i64 qt)).setCell ⟨bx, 2, none⟩ (.string qc)).setCell ⟨bx, 3, none⟩ (.string qd)).setCell ⟨bx, 4, none⟩ (.slice A' n' c')) = W7 := ⟨_, rfl⟩
                rw [hW7] at hX7 hb27
                have hb17 := hb12.trans (hb27.mono hb12.size)
                have x0 := hX7.cell (j := 0) rfl
                have x1 := hX7.cell (j := 1) rfl
                have x2 := hX7.cell (j := 2) rfl
                have x3 := hX7.cell (j := 3) rfl
                have x4 := hX7.cell (j := 4) rfl
                have hrow := row_next13 HLI5.out.row hbr1 hv hb12 hb27
                have hR7 := HLI5.out.box.below hb17
                have hfol := fol13_pack HLI5.out.fol ⟨sx, sy, sc2, sd2⟩
                have hdat := dat13_pack HLI5.out.dat (s := ⟨sx, sy, sc2, sd2⟩) HSS.out.1 HSS.out.2
                rw [HP.out] at hfol hdat
                have u0 := hR7.cell (j := 0) rfl
                have u1 := hR7.cell (j := 1) rfl
                have u2 := hR7.cell (j := 2) rfl
                have u3 := hR7.cell (j := 3) rfl
                have u4 := hR7.cell (j := 4) rfl
                have h0 := hR7.frz 0
                have h1 := hR7.frz 1
                have h2 := hR7.frz 2
                have h3 := hR7.frz 3
                have h4 := hR7.frz 4
                obtain ⟨W8, hW8⟩ : ∃ W8, (((((W7.setCell ⟨br, 0, none⟩ (.int .i64 qx)).setCell ⟨br, 1, none⟩ (.int .i64 qt)).setCell ⟨br, 2, none⟩ (.string qc)).setCell ⟨br, 3, none⟩ (.string qd)).setCell ⟨br, 4, none⟩ (.slice A' n' c')) = W8 := ⟨_, rfl⟩
                obtain ⟨hlk8, hbox8, hrow8, hoth⟩ := turn_parts13 (r' := ⟨⟨qx, qt, qc, qd⟩, L'⟩) (HLI5.out.lk.others hb17) hR7 hrow (.inl HLI5.out.nbr) hW8
                have ho8 := hoth HBB.out (HO5.out.below hb17)
                have hb8 : Below w.heap.size w W8 := by
                  rw [← hW8]
                  have hg : w.heap.size ≤ br := HBRG.out
                  exact (((((HB5.out.trans (hb17.mono HB5.out.size)).setCell (p := ⟨br, 0, none⟩) hg _).setCell (p := ⟨br, 1, none⟩) hg _).setCell (p := ⟨br, 2, none⟩) hg _).setCell (p := ⟨br, 3, none⟩) hg _).setCell (p := ⟨br, 4, none⟩) hg _
                have HLK8 := Lib.hid hlk8
                have HBOX8 := Lib.hid hbox8
                have HROW8 := Lib.hid hrow8
                have HFD := Lib.hid (And.intro hfol hdat)
                have HN' := Lib.hid hn'
                have HB8' := Lib.hid hb8
                have HO8 := Lib.hid ho8
                clear hlk8 hbox8 hrow8 hoth ho8 hrow hR7 hfol hdat hb8 hv hb12 hb26 hb27 hb17 hX7 hZ hn' hbr1
                have y2 := HO8.out.cell (j := 2) (v := .int .i64 sx) rfl
                have y3 := HO8.out.cell (j := 3) (v := .int .i64 sy) rfl
                have y4 := HO8.out.cell (j := 4) (v := .string sc2) rfl
                have y5 := HO8.out.cell (j := 5) (v := .string sd2) rfl
                go_wp2_with fail
                refine (lpack_any HLK8.out (by omega) ⟨sx, sy, sc2, sd2⟩ (Nat.le_trans HSS.out.1 (by decide)) (Nat.le_trans HSS.out.2 (by decide)) ⟨⟨qx, qt, qc, qd⟩, L'⟩ bb HP.out).mono ?_
                rintro e k3 ⟨rfl, hlk3, hs3⟩
                have HLI8 := Lib.hid (show LI _ (200 + 1000 * j) w.heap.size k3 g br ⟨⟨qx, qt, qc, qd⟩, L'⟩ A' n' c' from ⟨hlk3, hs3.rt HBOX8.out (.inl HLI5.out.nbr), LI.std HROW8.out hs3, HN'.out, .inl HLI5.out.nbr, fun i hi => .inl (HLI5.out.args i hi), HFD.out.1, HFD.out.2⟩)
                have HB8 := Lib.hid (HB8'.out.trans (hs3.below HB8'.out.size fun i hi => .inl (HLI5.out.args i hi)))
                clear hlk3 hs3 y2 y3 y4 y5 HLK8 HBOX8 HROW8 HB8'
                clear x0 z0 f0 u0 h0
                clear x1 z1 f1 u1 h1
                clear x2 z2 f2 u2 h2
                clear x3 z3 f3 u3 h3
                clear x4 z4 f4 u4 h4
                clear hW6 hW7 hW8
                have v0 := HLI8.out.box.cell (j := 0) rfl
                have v1 := HLI8.out.box.cell (j := 1) rfl
                have v2 := HLI8.out.box.cell (j := 2) rfl
                have v3 := HLI8.out.box.cell (j := 3) rfl
                have v4 := HLI8.out.box.cell (j := 4) rfl
                go_wp2_with fail
                refine (lsame13_any HLI8.out.lk (by omega) (HLI8.out.rl (by omega)) HLI8.out.fol HLI8.out.dat).mono ?_
                rintro e k9 ⟨rfl, h⟩
                clear v0 v1 v2 v3 v4
                go_wp2
                go_roundw
                case rel => exact ⟨j + 1, by omega, by omega, by go_num, _, _, _, _, _, (HLI8.out.below h).more (by omega), HB8.out.trans (h.mono HB8.out.size)⟩
                case measure => simp [intOf]; omega
              · by_cases hk2 : kd = 2
                · subst hk2
                  have hkb0 : ((2 : Int) == 0) = false := rfl
                  have y2 := HO5.out.cell (j := 2) (v := .int .i64 sx) rfl
                  by_cases hneg : sx < 0
                  · go_wp2
                    go_roundw
                    case rel => exact ⟨j + 1, by omega, by omega, by go_num, _, _, _, _, _, HLI5.out.more (by omega), HB5.out⟩
                    case measure => simp [intOf]; omega
                  by_cases hbig : 1099511627776 < sx
                  · go_wp2
                    go_roundw
                    case rel => exact ⟨j + 1, by omega, by omega, by go_num, _, _, _, _, _, HLI5.out.more (by omega), HB5.out⟩
                    case measure => simp [intOf]; omega
                  have y3 := HO5.out.cell (j := 3) (v := .int .i64 sy) rfl
                  have y4 := HO5.out.cell (j := 4) (v := .string sc2) rfl
                  have y5 := HO5.out.cell (j := 5) (v := .string sd2) rfl
                  have hlok : Lok 0 ⟨⟨sx, sy, sc2, sd2⟩, []⟩ := ⟨by simp only; omega, by unfold lst13; simp; omega, by simp, (fun e he => by cases he), Nat.le_trans HSS.out.1 (by decide), Nat.le_trans HSS.out.2 (by decide)⟩
                  have HLOK := Lib.hid hlok
                  clear hlok
                  go_wp2_with fail
                  refine (lset_any HLI5.out.lk ⟨sx, sy, sc2, sd2⟩ HLOK.out).mono ?_
                  rintro e k1 ⟨⟨u, rfl⟩, hlk1, hs1⟩
                  have hO1 := hs1.rt HO5.out HNB.out
                  have hR1 := hs1.rt HLI5.out.box HLI5.out.nbr
                  have hb1 := HB5.out.trans (hs1.below HB5.out.size HLI5.out.args)
                  clear y0 y2 y3 y4 y5
                  have y2 := hO1.cell (j := 2) (v := .int .i64 sx) rfl
                  have y3 := hO1.cell (j := 3) (v := .int .i64 sy) rfl
                  have y4 := hO1.cell (j := 4) (v := .string sc2) rfl
                  have y5 := hO1.cell (j := 5) (v := .string sd2) rfl
                  have u0 := hR1.cell (j := 0) rfl
                  have u1 := hR1.cell (j := 1) rfl
                  have u2 := hR1.cell (j := 2) rfl
                  have u3 := hR1.cell (j := 3) rfl
                  have u4 := hR1.cell (j := 4) rfl
                  have h0 := hR1.frz 0
                  have h1 := hR1.frz 1
                  have h2 := hR1.frz 2
                  have h3 := hR1.frz 3
                  have h4 := hR1.frz 4
                  have hli := LI.turn (w0 := w.heap.size) (r' := ⟨⟨sx, sy, sc2, sd2⟩, []⟩) hlk1 hR1 (Ens.nil _ _) rfl HLI5.out.nbr HLI5.out.args (fol13_set ⟨sx, sy, sc2, sd2⟩) ⟨(fun e he => by cases he), HSS.out.1, HSS.out.2⟩
                  obtain ⟨W8, hW8⟩ : ∃ W8, (((((k1.setCell ⟨br, 0, none⟩ (.int .i64 sx)).setCell ⟨br, 1, none⟩ (.int .i64 sy)).setCell ⟨br, 2, none⟩ (.string sc2)).setCell ⟨br, 3, none⟩ (.string sd2)).setCell ⟨br, 4, none⟩ (.slice none 0 0)) = W8 := ⟨_, rfl⟩
                  replace hli : LI NN 0 w.heap.size W8 g br ⟨⟨sx, sy, sc2, sd2⟩, []⟩ none 0 0 := by rw [← hW8]; exact hli
                  have hb8 : Below w.heap.size w W8 := by
                    rw [← hW8]
                    have hg : w.heap.size ≤ br := HBRG.out
                    exact (((((hb1.setCell (p := ⟨br, 0, none⟩) hg _).setCell (p := ⟨br, 1, none⟩) hg _).setCell (p := ⟨br, 2, none⟩) hg _).setCell (p := ⟨br, 3, none⟩) hg _).setCell (p := ⟨br, 4, none⟩) hg _)
                  have HLI8 := Lib.hid hli
                  have HB8 := Lib.hid hb8
                  clear hli hb8 hb1 hlk1 hs1 hR1 hO1
                  have v0 := HLI8.out.box.cell (j := 0) rfl
                  have v1 := HLI8.out.box.cell (j := 1) rfl
                  have v2 := HLI8.out.box.cell (j := 2) rfl
                  have v3 := HLI8.out.box.cell (j := 3) rfl
                  have v4 := HLI8.out.box.cell (j := 4) rfl
                  go_wp2_with fail
                  refine (lsame13_any HLI8.out.lk (by omega) (HLI8.out.rl (by omega)) HLI8.out.fol HLI8.out.dat).mono ?_
                  rintro e k9 ⟨rfl, h⟩
                  clear v0 v1 v2 v3 v4
                  go_wp2
                  go_roundw
                  case rel => exact ⟨j + 1, by omega, by omega, by go_num, _, _, _, _, _, (HLI8.out.below h).more (by omega), HB8.out.trans (h.mono HB8.out.size)⟩
                  case measure => simp [intOf]; omega
                · have hkb0 : (kd == 0) = false := by simpa using hk0
                  have hkb1 : (kd == 1) = false := by simpa using hk1
                  have hkb2 : (kd == 2) = false := by simpa using hk2
                  obtain ⟨⟨ta, tb⟩, ht⟩ : ∃ q, trm13 ⟨⟨px, pt, pc, pd⟩, L⟩ oi = q := ⟨_, rfl⟩
                  have HT := Lib.hid ht
                  clear ht
                  have y6 := HO5.out.cell (j := 6) (v := .int .i64 oi) rfl
                  go_wp2_with fail
                  refine (term_lk HLI5.out.lk (by omega) oi ta tb HT.out).mono ?_
                  rintro e k1 ⟨rfl, h⟩
                  replace HLI5 := Lib.hid (HLI5.out.below h)
                  replace HO5 := Lib.hid (HO5.out.below h)
                  replace HB5 := Lib.hid (HB5.out.trans (h.mono HB5.out.size))
                  clear y0 y6 h HNB HEN
                  have y6 := HO5.out.cell (j := 6) (v := .int .i64 oi) rfl
                  have v0 := HLI5.out.box.cell (j := 0) rfl
                  have v1 := HLI5.out.box.cell (j := 1) rfl
                  have v2 := HLI5.out.box.cell (j := 2) rfl
                  have v3 := HLI5.out.box.cell (j := 3) rfl
                  have v4 := HLI5.out.box.cell (j := 4) rfl
                  go_wp2_with fail
                  refine (rterm_x (HLI5.out.rl (by omega)) oi ta tb HT.out).mono ?_
                  rintro e k2 ⟨rfl, h⟩
                  replace HLI5 := Lib.hid (HLI5.out.below h)
                  replace HO5 := Lib.hid (HO5.out.below h)
                  replace HB5 := Lib.hid (HB5.out.trans (h.mono HB5.out.size))
                  clear y6 h v0 v1 v2 v3 v4
                  go_wp2_with fail
                  have hO2 := HO5.out
                  have hR2 : Rt k2 br 32 [.int .i64 px, .int .i64 pt, .string pc, .string pd, .slice A n c] := HLI5.out.box
                  have hdr : Below k2.heap.size k2 k2.drew := (Below.refl _ _).drew
                  have hLI := HLI5.out.below hdr
                  have hO := HO5.out.below hdr
                  have hR := hLI.box
                  have hB := HB5.out.trans (hdr.mono HB5.out.size)
                  replace hR : Rt k2.drew br 32 [.int .i64 px, .int .i64 pt, .string pc, .string pd, .slice A n c] := hR
                  obtain ⟨fb, hfb⟩ : ∃ b, fts13 ⟨⟨px, pt, pc, pd⟩, L⟩ oi ot = b := ⟨_, rfl⟩
                  obtain ⟨wb, hwb⟩ : ∃ b, nwr13 ⟨⟨px, pt, pc, pd⟩, L⟩ oi ot = b := ⟨_, rfl⟩
                  obtain ⟨G, hG⟩ : ∃ G, get13 ⟨⟨px, pt, pc, pd⟩, L⟩ oi on = G := ⟨_, rfl⟩
                  obtain ⟨z, hz⟩ : ∃ z, G.length = z := ⟨_, rfl⟩
                  have hz2 : z ≤ 200 := by
                    rw [← hz, ← hG]
                    exact Nat.le_trans (get13_len13 _ _ _) HLI5.out.lk.1.2.2.1
                  have HFB := Lib.hid hfb
                  have HWB := Lib.hid hwb
                  have HG := Lib.hid hG
                  have HZL := Lib.hid hz
                  clear hdr hfb hwb hG hz HLI5 HO5 HB5
                  refine wp_region_noPanic ?_
                  refine wp_region_held_drew (S := fun W => Rt W be 36 [.int .i64 kd, .slice A5 l5 c5, .int .i64 sx, .int .i64 sy, .string sc2, .string sd2, .int .i64 oi, .int .i64 ot, .int .i64 on] ∧ Rt W br 32 [.int .i64 px, .int .i64 pt, .string pc, .string pd, .slice A n c]) (by kernel_rfl) ?_ (fun hHeld => ?_)
                  · exact ⟨hO2, hR2⟩
                  clear hO2 hR2
                  generalize k2.drew = kz at *
                  refine tkH 0 (.int .i64 ta) rfl (fun w hSw => ?_) ?_
                  · (try dsimp only at hSw)
                    have q0 := Rt.cell (j := 0) hSw.1 rfl
                    have q1 := Rt.cell (j := 1) hSw.1 rfl
                    have q2 := Rt.cell (j := 2) hSw.1 rfl
                    have q3 := Rt.cell (j := 3) hSw.1 rfl
                    have q4 := Rt.cell (j := 4) hSw.1 rfl
                    have q5 := Rt.cell (j := 5) hSw.1 rfl
                    have q6 := Rt.cell (j := 6) hSw.1 rfl
                    have q7 := Rt.cell (j := 7) hSw.1 rfl
                    have q8 := Rt.cell (j := 8) hSw.1 rfl
                    have p0 := Rt.cell (j := 0) hSw.2 rfl
                    have p1 := Rt.cell (j := 1) hSw.2 rfl
                    have p2 := Rt.cell (j := 2) hSw.2 rfl
                    have p3 := Rt.cell (j := 3) hSw.2 rfl
                    have p4 := Rt.cell (j := 4) hSw.2 rfl
                    go_simp
                  try simp only [Act.put, List.setIfInBounds_toArray, List.set_cons_zero, List.set_cons_succ]
                  refine tkH 1 (.int .i64 ta) rfl (fun w hSw => ?_) ?_
                  · (try dsimp only at hSw)
                    have q0 := Rt.cell (j := 0) hSw.1 rfl
                    have q1 := Rt.cell (j := 1) hSw.1 rfl
                    have q2 := Rt.cell (j := 2) hSw.1 rfl
                    have q3 := Rt.cell (j := 3) hSw.1 rfl
                    have q4 := Rt.cell (j := 4) hSw.1 rfl
                    have q5 := Rt.cell (j := 5) hSw.1 rfl
                    have q6 := Rt.cell (j := 6) hSw.1 rfl
                    have q7 := Rt.cell (j := 7) hSw.1 rfl
                    have q8 := Rt.cell (j := 8) hSw.1 rfl
                    have p0 := Rt.cell (j := 0) hSw.2 rfl
                    have p1 := Rt.cell (j := 1) hSw.2 rfl
                    have p2 := Rt.cell (j := 2) hSw.2 rfl
                    have p3 := Rt.cell (j := 3) hSw.2 rfl
                    have p4 := Rt.cell (j := 4) hSw.2 rfl
                    go_simp
                  try simp only [Act.put, List.setIfInBounds_toArray, List.set_cons_zero, List.set_cons_succ]
                  refine tkH 2 (.bool true) rfl (fun w hSw => ?_) ?_
                  · (try dsimp only at hSw)
                    have q0 := Rt.cell (j := 0) hSw.1 rfl
                    have q1 := Rt.cell (j := 1) hSw.1 rfl
                    have q2 := Rt.cell (j := 2) hSw.1 rfl
                    have q3 := Rt.cell (j := 3) hSw.1 rfl
                    have q4 := Rt.cell (j := 4) hSw.1 rfl
                    have q5 := Rt.cell (j := 5) hSw.1 rfl
                    have q6 := Rt.cell (j := 6) hSw.1 rfl
                    have q7 := Rt.cell (j := 7) hSw.1 rfl
                    have q8 := Rt.cell (j := 8) hSw.1 rfl
                    have p0 := Rt.cell (j := 0) hSw.2 rfl
                    have p1 := Rt.cell (j := 1) hSw.2 rfl
                    have p2 := Rt.cell (j := 2) hSw.2 rfl
                    have p3 := Rt.cell (j := 3) hSw.2 rfl
                    have p4 := Rt.cell (j := 4) hSw.2 rfl
                    go_simp
                  try simp only [Act.put, List.setIfInBounds_toArray, List.set_cons_zero, List.set_cons_succ]
                  refine tkH 3 (.bool true) rfl (fun w hSw => ?_) ?_
                  · (try dsimp only at hSw)
                    have q0 := Rt.cell (j := 0) hSw.1 rfl
                    have q1 := Rt.cell (j := 1) hSw.1 rfl
                    have q2 := Rt.cell (j := 2) hSw.1 rfl
                    have q3 := Rt.cell (j := 3) hSw.1 rfl
                    have q4 := Rt.cell (j := 4) hSw.1 rfl
                    have q5 := Rt.cell (j := 5) hSw.1 rfl
                    have q6 := Rt.cell (j := 6) hSw.1 rfl
                    have q7 := Rt.cell (j := 7) hSw.1 rfl
                    have q8 := Rt.cell (j := 8) hSw.1 rfl
                    have p0 := Rt.cell (j := 0) hSw.2 rfl
                    have p1 := Rt.cell (j := 1) hSw.2 rfl
                    have p2 := Rt.cell (j := 2) hSw.2 rfl
                    have p3 := Rt.cell (j := 3) hSw.2 rfl
                    have p4 := Rt.cell (j := 4) hSw.2 rfl
                    go_simp
                  try simp only [Act.put, List.setIfInBounds_toArray, List.set_cons_zero, List.set_cons_succ]
                  refine tkH 4 (.bool tb) rfl (fun w hSw => ?_) ?_
                  · (try dsimp only at hSw)
                    have q0 := Rt.cell (j := 0) hSw.1 rfl
                    have q1 := Rt.cell (j := 1) hSw.1 rfl
                    have q2 := Rt.cell (j := 2) hSw.1 rfl
                    have q3 := Rt.cell (j := 3) hSw.1 rfl
                    have q4 := Rt.cell (j := 4) hSw.1 rfl
                    have q5 := Rt.cell (j := 5) hSw.1 rfl
                    have q6 := Rt.cell (j := 6) hSw.1 rfl
                    have q7 := Rt.cell (j := 7) hSw.1 rfl
                    have q8 := Rt.cell (j := 8) hSw.1 rfl
                    have p0 := Rt.cell (j := 0) hSw.2 rfl
                    have p1 := Rt.cell (j := 1) hSw.2 rfl
                    have p2 := Rt.cell (j := 2) hSw.2 rfl
                    have p3 := Rt.cell (j := 3) hSw.2 rfl
                    have p4 := Rt.cell (j := 4) hSw.2 rfl
                    go_simp
                  try simp only [Act.put, List.setIfInBounds_toArray, List.set_cons_zero, List.set_cons_succ]
                  refine tkH 5 (.bool tb) rfl (fun w hSw => ?_) ?_
                  · (try dsimp only at hSw)
                    have q0 := Rt.cell (j := 0) hSw.1 rfl
                    have q1 := Rt.cell (j := 1) hSw.1 rfl
                    have q2 := Rt.cell (j := 2) hSw.1 rfl
                    have q3 := Rt.cell (j := 3) hSw.1 rfl
                    have q4 := Rt.cell (j := 4) hSw.1 rfl
                    have q5 := Rt.cell (j := 5) hSw.1 rfl
                    have q6 := Rt.cell (j := 6) hSw.1 rfl
                    have q7 := Rt.cell (j := 7) hSw.1 rfl
                    have q8 := Rt.cell (j := 8) hSw.1 rfl
                    have p0 := Rt.cell (j := 0) hSw.2 rfl
                    have p1 := Rt.cell (j := 1) hSw.2 rfl
                    have p2 := Rt.cell (j := 2) hSw.2 rfl
                    have p3 := Rt.cell (j := 3) hSw.2 rfl
                    have p4 := Rt.cell (j := 4) hSw.2 rfl
                    go_simp
                  try simp only [Act.put, List.setIfInBounds_toArray, List.set_cons_zero, List.set_cons_succ]
                  refine tkH 6 (.bool true) rfl (fun w hSw => ?_) ?_
                  · (try dsimp only at hSw)
                    have q0 := Rt.cell (j := 0) hSw.1 rfl
                    have q1 := Rt.cell (j := 1) hSw.1 rfl
                    have q2 := Rt.cell (j := 2) hSw.1 rfl
                    have q3 := Rt.cell (j := 3) hSw.1 rfl
                    have q4 := Rt.cell (j := 4) hSw.1 rfl
                    have q5 := Rt.cell (j := 5) hSw.1 rfl
                    have q6 := Rt.cell (j := 6) hSw.1 rfl
                    have q7 := Rt.cell (j := 7) hSw.1 rfl
                    have q8 := Rt.cell (j := 8) hSw.1 rfl
                    have p0 := Rt.cell (j := 0) hSw.2 rfl
                    have p1 := Rt.cell (j := 1) hSw.2 rfl
                    have p2 := Rt.cell (j := 2) hSw.2 rfl
                    have p3 := Rt.cell (j := 3) hSw.2 rfl
                    have p4 := Rt.cell (j := 4) hSw.2 rfl
                    go_simp
                  try simp only [Act.put, List.setIfInBounds_toArray, List.set_cons_zero, List.set_cons_succ]
                  refine tkH 7 (.bool true) rfl (fun w hSw => ?_) ?_
                  · (try dsimp only at hSw)
                    have q0 := Rt.cell (j := 0) hSw.1 rfl
                    have q1 := Rt.cell (j := 1) hSw.1 rfl
                    have q2 := Rt.cell (j := 2) hSw.1 rfl
                    have q3 := Rt.cell (j := 3) hSw.1 rfl
                    have q4 := Rt.cell (j := 4) hSw.1 rfl
                    have q5 := Rt.cell (j := 5) hSw.1 rfl
                    have q6 := Rt.cell (j := 6) hSw.1 rfl
                    have q7 := Rt.cell (j := 7) hSw.1 rfl
                    have q8 := Rt.cell (j := 8) hSw.1 rfl
                    have p0 := Rt.cell (j := 0) hSw.2 rfl
                    have p1 := Rt.cell (j := 1) hSw.2 rfl
                    have p2 := Rt.cell (j := 2) hSw.2 rfl
                    have p3 := Rt.cell (j := 3) hSw.2 rfl
                    have p4 := Rt.cell (j := 4) hSw.2 rfl
                    go_simp
                  try simp only [Act.put, List.setIfInBounds_toArray, List.set_cons_zero, List.set_cons_succ]
                  refine tkH 8 (.bool true) rfl (fun w hSw => ?_) ?_
                  · (try dsimp only at hSw)
                    have q0 := Rt.cell (j := 0) hSw.1 rfl
                    have q1 := Rt.cell (j := 1) hSw.1 rfl
                    have q2 := Rt.cell (j := 2) hSw.1 rfl
                    have q3 := Rt.cell (j := 3) hSw.1 rfl
                    have q4 := Rt.cell (j := 4) hSw.1 rfl
                    have q5 := Rt.cell (j := 5) hSw.1 rfl
                    have q6 := Rt.cell (j := 6) hSw.1 rfl
                    have q7 := Rt.cell (j := 7) hSw.1 rfl
                    have q8 := Rt.cell (j := 8) hSw.1 rfl
                    have p0 := Rt.cell (j := 0) hSw.2 rfl
                    have p1 := Rt.cell (j := 1) hSw.2 rfl
                    have p2 := Rt.cell (j := 2) hSw.2 rfl
                    have p3 := Rt.cell (j := 3) hSw.2 rfl
                    have p4 := Rt.cell (j := 4) hSw.2 rfl
                    go_simp
                  try simp only [Act.put, List.setIfInBounds_toArray, List.set_cons_zero, List.set_cons_succ]
                  refine tkH 9 (.pointer (some ⟨g, 0, none⟩)) rfl (fun w hSw => ?_) ?_
                  · (try dsimp only at hSw)
                    have q0 := Rt.cell (j := 0) hSw.1 rfl
                    have q1 := Rt.cell (j := 1) hSw.1 rfl
                    have q2 := Rt.cell (j := 2) hSw.1 rfl
                    have q3 := Rt.cell (j := 3) hSw.1 rfl
                    have q4 := Rt.cell (j := 4) hSw.1 rfl
                    have q5 := Rt.cell (j := 5) hSw.1 rfl
                    have q6 := Rt.cell (j := 6) hSw.1 rfl
                    have q7 := Rt.cell (j := 7) hSw.1 rfl
                    have q8 := Rt.cell (j := 8) hSw.1 rfl
                    have p0 := Rt.cell (j := 0) hSw.2 rfl
                    have p1 := Rt.cell (j := 1) hSw.2 rfl
                    have p2 := Rt.cell (j := 2) hSw.2 rfl
                    have p3 := Rt.cell (j := 3) hSw.2 rfl
                    have p4 := Rt.cell (j := 4) hSw.2 rfl
                    go_simp
                  try simp only [Act.put, List.setIfInBounds_toArray, List.set_cons_zero, List.set_cons_succ]
                  refine tkH 10 (.pointer (some ⟨be, 6, none⟩)) rfl (fun w hSw => ?_) ?_
                  · (try dsimp only at hSw)
                    have q0 := Rt.cell (j := 0) hSw.1 rfl
                    have q1 := Rt.cell (j := 1) hSw.1 rfl
                    have q2 := Rt.cell (j := 2) hSw.1 rfl
                    have q3 := Rt.cell (j := 3) hSw.1 rfl
                    have q4 := Rt.cell (j := 4) hSw.1 rfl
                    have q5 := Rt.cell (j := 5) hSw.1 rfl
                    have q6 := Rt.cell (j := 6) hSw.1 rfl
                    have q7 := Rt.cell (j := 7) hSw.1 rfl
                    have q8 := Rt.cell (j := 8) hSw.1 rfl
                    have p0 := Rt.cell (j := 0) hSw.2 rfl
                    have p1 := Rt.cell (j := 1) hSw.2 rfl
                    have p2 := Rt.cell (j := 2) hSw.2 rfl
                    have p3 := Rt.cell (j := 3) hSw.2 rfl
                    have p4 := Rt.cell (j := 4) hSw.2 rfl
                    go_simp
                  try simp only [Act.put, List.setIfInBounds_toArray, List.set_cons_zero, List.set_cons_succ]
                  refine tkH 11 (.int .i64 oi) rfl (fun w hSw => ?_) ?_
                  · (try dsimp only at hSw)
                    have q0 := Rt.cell (j := 0) hSw.1 rfl
                    have q1 := Rt.cell (j := 1) hSw.1 rfl
                    have q2 := Rt.cell (j := 2) hSw.1 rfl
                    have q3 := Rt.cell (j := 3) hSw.1 rfl
                    have q4 := Rt.cell (j := 4) hSw.1 rfl
                    have q5 := Rt.cell (j := 5) hSw.1 rfl
                    have q6 := Rt.cell (j := 6) hSw.1 rfl
                    have q7 := Rt.cell (j := 7) hSw.1 rfl
                    have q8 := Rt.cell (j := 8) hSw.1 rfl
                    have p0 := Rt.cell (j := 0) hSw.2 rfl
                    have p1 := Rt.cell (j := 1) hSw.2 rfl
                    have p2 := Rt.cell (j := 2) hSw.2 rfl
                    have p3 := Rt.cell (j := 3) hSw.2 rfl
                    have p4 := Rt.cell (j := 4) hSw.2 rfl
                    go_simp
                  try simp only [Act.put, List.setIfInBounds_toArray, List.set_cons_zero, List.set_cons_succ]
                  refine tkH 12 (.pointer (some ⟨be, 7, none⟩)) rfl (fun w hSw => ?_) ?_
                  · (try dsimp only at hSw)
                    have q0 := Rt.cell (j := 0) hSw.1 rfl
                    have q1 := Rt.cell (j := 1) hSw.1 rfl
                    have q2 := Rt.cell (j := 2) hSw.1 rfl
                    have q3 := Rt.cell (j := 3) hSw.1 rfl
                    have q4 := Rt.cell (j := 4) hSw.1 rfl
                    have q5 := Rt.cell (j := 5) hSw.1 rfl
                    have q6 := Rt.cell (j := 6) hSw.1 rfl
                    have q7 := Rt.cell (j := 7) hSw.1 rfl
                    have q8 := Rt.cell (j := 8) hSw.1 rfl
                    have p0 := Rt.cell (j := 0) hSw.2 rfl
                    have p1 := Rt.cell (j := 1) hSw.2 rfl
                    have p2 := Rt.cell (j := 2) hSw.2 rfl
                    have p3 := Rt.cell (j := 3) hSw.2 rfl
                    have p4 := Rt.cell (j := 4) hSw.2 rfl
                    go_simp
                  try simp only [Act.put, List.setIfInBounds_toArray, List.set_cons_zero, List.set_cons_succ]
                  refine tkH 13 (.int .i64 ot) rfl (fun w hSw => ?_) ?_
                  · (try dsimp only at hSw)
                    have q0 := Rt.cell (j := 0) hSw.1 rfl
                    have q1 := Rt.cell (j := 1) hSw.1 rfl
                    have q2 := Rt.cell (j := 2) hSw.1 rfl
                    have q3 := Rt.cell (j := 3) hSw.1 rfl
                    have q4 := Rt.cell (j := 4) hSw.1 rfl
                    have q5 := Rt.cell (j := 5) hSw.1 rfl
                    have q6 := Rt.cell (j := 6) hSw.1 rfl
                    have q7 := Rt.cell (j := 7) hSw.1 rfl
                    have q8 := Rt.cell (j := 8) hSw.1 rfl
                    have p0 := Rt.cell (j := 0) hSw.2 rfl
                    have p1 := Rt.cell (j := 1) hSw.2 rfl
                    have p2 := Rt.cell (j := 2) hSw.2 rfl
                    have p3 := Rt.cell (j := 3) hSw.2 rfl
                    have p4 := Rt.cell (j := 4) hSw.2 rfl
                    go_simp
                  try simp only [Act.put, List.setIfInBounds_toArray, List.set_cons_zero, List.set_cons_succ]
                  refine tkH 15 (.agg #[.int .i64 px, .int .i64 pt, .string pc, .string pd, .slice A n c]) rfl (fun w hSw => ?_) ?_
                  · (try dsimp only at hSw)
                    have q0 := Rt.cell (j := 0) hSw.1 rfl
                    have q1 := Rt.cell (j := 1) hSw.1 rfl
                    have q2 := Rt.cell (j := 2) hSw.1 rfl
                    have q3 := Rt.cell (j := 3) hSw.1 rfl
                    have q4 := Rt.cell (j := 4) hSw.1 rfl
                    have q5 := Rt.cell (j := 5) hSw.1 rfl
                    have q6 := Rt.cell (j := 6) hSw.1 rfl
                    have q7 := Rt.cell (j := 7) hSw.1 rfl
                    have q8 := Rt.cell (j := 8) hSw.1 rfl
                    have p0 := Rt.cell (j := 0) hSw.2 rfl
                    have p1 := Rt.cell (j := 1) hSw.2 rfl
                    have p2 := Rt.cell (j := 2) hSw.2 rfl
                    have p3 := Rt.cell (j := 3) hSw.2 rfl
                    have p4 := Rt.cell (j := 4) hSw.2 rfl
                    go_simp
                  try simp only [Act.put, List.setIfInBounds_toArray, List.set_cons_zero, List.set_cons_succ]
                  refine tkH 16 (.pointer (some ⟨be, 6, none⟩)) rfl (fun w hSw => ?_) ?_
                  · (try dsimp only at hSw)
                    have q0 := Rt.cell (j := 0) hSw.1 rfl
                    have q1 := Rt.cell (j := 1) hSw.1 rfl
                    have q2 := Rt.cell (j := 2) hSw.1 rfl
                    have q3 := Rt.cell (j := 3) hSw.1 rfl
                    have q4 := Rt.cell (j := 4) hSw.1 rfl
                    have q5 := Rt.cell (j := 5) hSw.1 rfl
                    have q6 := Rt.cell (j := 6) hSw.1 rfl
                    have q7 := Rt.cell (j := 7) hSw.1 rfl
                    have q8 := Rt.cell (j := 8) hSw.1 rfl
                    have p0 := Rt.cell (j := 0) hSw.2 rfl
                    have p1 := Rt.cell (j := 1) hSw.2 rfl
                    have p2 := Rt.cell (j := 2) hSw.2 rfl
                    have p3 := Rt.cell (j := 3) hSw.2 rfl
                    have p4 := Rt.cell (j := 4) hSw.2 rfl
                    go_simp
                  try simp only [Act.put, List.setIfInBounds_toArray, List.set_cons_zero, List.set_cons_succ]
                  refine tkH 17 (.int .i64 oi) rfl (fun w hSw => ?_) ?_
                  · (try dsimp only at hSw)
                    have q0 := Rt.cell (j := 0) hSw.1 rfl
                    have q1 := Rt.cell (j := 1) hSw.1 rfl
                    have q2 := Rt.cell (j := 2) hSw.1 rfl
                    have q3 := Rt.cell (j := 3) hSw.1 rfl
                    have q4 := Rt.cell (j := 4) hSw.1 rfl
                    have q5 := Rt.cell (j := 5) hSw.1 rfl
                    have q6 := Rt.cell (j := 6) hSw.1 rfl
                    have q7 := Rt.cell (j := 7) hSw.1 rfl
                    have q8 := Rt.cell (j := 8) hSw.1 rfl
                    have p0 := Rt.cell (j := 0) hSw.2 rfl
                    have p1 := Rt.cell (j := 1) hSw.2 rfl
                    have p2 := Rt.cell (j := 2) hSw.2 rfl
                    have p3 := Rt.cell (j := 3) hSw.2 rfl
                    have p4 := Rt.cell (j := 4) hSw.2 rfl
                    go_simp
                  try simp only [Act.put, List.setIfInBounds_toArray, List.set_cons_zero, List.set_cons_succ]
                  refine tkH 18 (.pointer (some ⟨be, 7, none⟩)) rfl (fun w hSw => ?_) ?_
                  · (try dsimp only at hSw)
                    have q0 := Rt.cell (j := 0) hSw.1 rfl
                    have q1 := Rt.cell (j := 1) hSw.1 rfl
                    have q2 := Rt.cell (j := 2) hSw.1 rfl
                    have q3 := Rt.cell (j := 3) hSw.1 rfl
                    have q4 := Rt.cell (j := 4) hSw.1 rfl
                    have q5 := Rt.cell (j := 5) hSw.1 rfl
                    have q6 := Rt.cell (j := 6) hSw.1 rfl
                    have q7 := Rt.cell (j := 7) hSw.1 rfl
                    have q8 := Rt.cell (j := 8) hSw.1 rfl
                    have p0 := Rt.cell (j := 0) hSw.2 rfl
                    have p1 := Rt.cell (j := 1) hSw.2 rfl
                    have p2 := Rt.cell (j := 2) hSw.2 rfl
                    have p3 := Rt.cell (j := 3) hSw.2 rfl
                    have p4 := Rt.cell (j := 4) hSw.2 rfl
                    go_simp
                  try simp only [Act.put, List.setIfInBounds_toArray, List.set_cons_zero, List.set_cons_succ]
                  refine tkH 19 (.int .i64 ot) rfl (fun w hSw => ?_) ?_
                  · (try dsimp only at hSw)
                    have q0 := Rt.cell (j := 0) hSw.1 rfl
                    have q1 := Rt.cell (j := 1) hSw.1 rfl
                    have q2 := Rt.cell (j := 2) hSw.1 rfl
                    have q3 := Rt.cell (j := 3) hSw.1 rfl
                    have q4 := Rt.cell (j := 4) hSw.1 rfl
                    have q5 := Rt.cell (j := 5) hSw.1 rfl
                    have q6 := Rt.cell (j := 6) hSw.1 rfl
                    have q7 := Rt.cell (j := 7) hSw.1 rfl
                    have q8 := Rt.cell (j := 8) hSw.1 rfl
                    have p0 := Rt.cell (j := 0) hSw.2 rfl
                    have p1 := Rt.cell (j := 1) hSw.2 rfl
                    have p2 := Rt.cell (j := 2) hSw.2 rfl
                    have p3 := Rt.cell (j := 3) hSw.2 rfl
                    have p4 := Rt.cell (j := 4) hSw.2 rfl
                    go_simp
                  try simp only [Act.put, List.setIfInBounds_toArray, List.set_cons_zero, List.set_cons_succ]
                  refine stH 14 rfl (fun K hK => ?_)
                  go_simp
                  go_at_call 19
                  refine (fits_lk hLI.lk (by omega) oi ot fb HFB.out).mono ?_
                  rintro e m14 ⟨rfl, h⟩
                  replace hLI := hLI.below h
                  replace hO := hO.below h
                  replace hR := hR.below h
                  replace hB := hB.trans (h.mono hB.size)
                  clear h
                  refine hK.out _ _ ?_ (fun hHeld => ?_)
                  · exact ⟨hO, hR⟩
                  clear hK K
                  try simp only [Act.put, List.setIfInBounds_toArray, List.set_cons_zero, List.set_cons_succ]
                  refine stH 20 rfl (fun K hK => ?_)
                  go_simp
                  go_at_call 20
                  refine (rfits_x (hLI.rl (by omega)) oi ot fb HFB.out).mono ?_
                  rintro e m20 ⟨rfl, h⟩
                  replace hLI := hLI.below h
                  replace hO := hO.below h
                  replace hR := hR.below h
                  replace hB := hB.trans (h.mono hB.size)
                  clear h
                  refine hK.out _ _ ?_ (fun hHeld => ?_)
                  · exact ⟨hO, hR⟩
                  clear hK K
                  try simp only [Act.put, List.setIfInBounds_toArray, List.set_cons_zero, List.set_cons_succ]
                  refine tkH 21 (.bool true) rfl (fun w hSw => ?_) ?_
                  · (try dsimp only at hSw)
                    have q0 := Rt.cell (j := 0) hSw.1 rfl
                    have q1 := Rt.cell (j := 1) hSw.1 rfl
                    have q2 := Rt.cell (j := 2) hSw.1 rfl
                    have q3 := Rt.cell (j := 3) hSw.1 rfl
                    have q4 := Rt.cell (j := 4) hSw.1 rfl
                    have q5 := Rt.cell (j := 5) hSw.1 rfl
                    have q6 := Rt.cell (j := 6) hSw.1 rfl
                    have q7 := Rt.cell (j := 7) hSw.1 rfl
                    have q8 := Rt.cell (j := 8) hSw.1 rfl
                    have p0 := Rt.cell (j := 0) hSw.2 rfl
                    have p1 := Rt.cell (j := 1) hSw.2 rfl
                    have p2 := Rt.cell (j := 2) hSw.2 rfl
                    have p3 := Rt.cell (j := 3) hSw.2 rfl
                    have p4 := Rt.cell (j := 4) hSw.2 rfl
                    go_simp
                  try simp only [Act.put, List.setIfInBounds_toArray, List.set_cons_zero, List.set_cons_succ]
                  refine tkH 22 (.bool true) rfl (fun w hSw => ?_) ?_
                  · (try dsimp only at hSw)
                    have q0 := Rt.cell (j := 0) hSw.1 rfl
                    have q1 := Rt.cell (j := 1) hSw.1 rfl
                    have q2 := Rt.cell (j := 2) hSw.1 rfl
                    have q3 := Rt.cell (j := 3) hSw.1 rfl
                    have q4 := Rt.cell (j := 4) hSw.1 rfl
                    have q5 := Rt.cell (j := 5) hSw.1 rfl
                    have q6 := Rt.cell (j := 6) hSw.1 rfl
                    have q7 := Rt.cell (j := 7) hSw.1 rfl
                    have q8 := Rt.cell (j := 8) hSw.1 rfl
                    have p0 := Rt.cell (j := 0) hSw.2 rfl
                    have p1 := Rt.cell (j := 1) hSw.2 rfl
                    have p2 := Rt.cell (j := 2) hSw.2 rfl
                    have p3 := Rt.cell (j := 3) hSw.2 rfl
                    have p4 := Rt.cell (j := 4) hSw.2 rfl
                    go_simp
                  try simp only [Act.put, List.setIfInBounds_toArray, List.set_cons_zero, List.set_cons_succ]
                  refine tkH 23 (.bool true) rfl (fun w hSw => ?_) ?_
                  · (try dsimp only at hSw)
                    have q0 := Rt.cell (j := 0) hSw.1 rfl
                    have q1 := Rt.cell (j := 1) hSw.1 rfl
                    have q2 := Rt.cell (j := 2) hSw.1 rfl
                    have q3 := Rt.cell (j := 3) hSw.1 rfl
                    have q4 := Rt.cell (j := 4) hSw.1 rfl
                    have q5 := Rt.cell (j := 5) hSw.1 rfl
                    have q6 := Rt.cell (j := 6) hSw.1 rfl
                    have q7 := Rt.cell (j := 7) hSw.1 rfl
                    have q8 := Rt.cell (j := 8) hSw.1 rfl
                    have p0 := Rt.cell (j := 0) hSw.2 rfl
                    have p1 := Rt.cell (j := 1) hSw.2 rfl
                    have p2 := Rt.cell (j := 2) hSw.2 rfl
                    have p3 := Rt.cell (j := 3) hSw.2 rfl
                    have p4 := Rt.cell (j := 4) hSw.2 rfl
                    go_simp
                  try simp only [Act.put, List.setIfInBounds_toArray, List.set_cons_zero, List.set_cons_succ]
                  refine tkH 24 (.pointer (some ⟨g, 0, none⟩)) rfl (fun w hSw => ?_) ?_
                  · (try dsimp only at hSw)
                    have q0 := Rt.cell (j := 0) hSw.1 rfl
                    have q1 := Rt.cell (j := 1) hSw.1 rfl
                    have q2 := Rt.cell (j := 2) hSw.1 rfl
                    have q3 := Rt.cell (j := 3) hSw.1 rfl
                    have q4 := Rt.cell (j := 4) hSw.1 rfl
                    have q5 := Rt.cell (j := 5) hSw.1 rfl
                    have q6 := Rt.cell (j := 6) hSw.1 rfl
                    have q7 := Rt.cell (j := 7) hSw.1 rfl
                    have q8 := Rt.cell (j := 8) hSw.1 rfl
                    have p0 := Rt.cell (j := 0) hSw.2 rfl
                    have p1 := Rt.cell (j := 1) hSw.2 rfl
                    have p2 := Rt.cell (j := 2) hSw.2 rfl
                    have p3 := Rt.cell (j := 3) hSw.2 rfl
                    have p4 := Rt.cell (j := 4) hSw.2 rfl
                    go_simp
                  try simp only [Act.put, List.setIfInBounds_toArray, List.set_cons_zero, List.set_cons_succ]
                  refine tkH 25 (.pointer (some ⟨be, 6, none⟩)) rfl (fun w hSw => ?_) ?_
                  · (try dsimp only at hSw)
                    have q0 := Rt.cell (j := 0) hSw.1 rfl
                    have q1 := Rt.cell (j := 1) hSw.1 rfl
                    have q2 := Rt.cell (j := 2) hSw.1 rfl
                    have q3 := Rt.cell (j := 3) hSw.1 rfl
                    have q4 := Rt.cell (j := 4) hSw.1 rfl
                    have q5 := Rt.cell (j := 5) hSw.1 rfl
                    have q6 := Rt.cell (j := 6) hSw.1 rfl
                    have q7 := Rt.cell (j := 7) hSw.1 rfl
                    have q8 := Rt.cell (j := 8) hSw.1 rfl
                    have p0 := Rt.cell (j := 0) hSw.2 rfl
                    have p1 := Rt.cell (j := 1) hSw.2 rfl
                    have p2 := Rt.cell (j := 2) hSw.2 rfl
                    have p3 := Rt.cell (j := 3) hSw.2 rfl
                    have p4 := Rt.cell (j := 4) hSw.2 rfl
                    go_simp
                  try simp only [Act.put, List.setIfInBounds_toArray, List.set_cons_zero, List.set_cons_succ]
                  refine tkH 26 (.int .i64 oi) rfl (fun w hSw => ?_) ?_
                  · (try dsimp only at hSw)
                    have q0 := Rt.cell (j := 0) hSw.1 rfl
                    have q1 := Rt.cell (j := 1) hSw.1 rfl
                    have q2 := Rt.cell (j := 2) hSw.1 rfl
                    have q3 := Rt.cell (j := 3) hSw.1 rfl
                    have q4 := Rt.cell (j := 4) hSw.1 rfl
                    have q5 := Rt.cell (j := 5) hSw.1 rfl
                    have q6 := Rt.cell (j := 6) hSw.1 rfl
                    have q7 := Rt.cell (j := 7) hSw.1 rfl
                    have q8 := Rt.cell (j := 8) hSw.1 rfl
                    have p0 := Rt.cell (j := 0) hSw.2 rfl
                    have p1 := Rt.cell (j := 1) hSw.2 rfl
                    have p2 := Rt.cell (j := 2) hSw.2 rfl
                    have p3 := Rt.cell (j := 3) hSw.2 rfl
                    have p4 := Rt.cell (j := 4) hSw.2 rfl
                    go_simp
                  try simp only [Act.put, List.setIfInBounds_toArray, List.set_cons_zero, List.set_cons_succ]
                  refine tkH 27 (.pointer (some ⟨be, 7, none⟩)) rfl (fun w hSw => ?_) ?_
                  · (try dsimp only at hSw)
                    have q0 := Rt.cell (j := 0) hSw.1 rfl
                    have q1 := Rt.cell (j := 1) hSw.1 rfl
                    have q2 := Rt.cell (j := 2) hSw.1 rfl
                    have q3 := Rt.cell (j := 3) hSw.1 rfl
                    have q4 := Rt.cell (j := 4) hSw.1 rfl
                    have q5 := Rt.cell (j := 5) hSw.1 rfl
                    have q6 := Rt.cell (j := 6) hSw.1 rfl
                    have q7 := Rt.cell (j := 7) hSw.1 rfl
                    have q8 := Rt.cell (j := 8) hSw.1 rfl
                    have p0 := Rt.cell (j := 0) hSw.2 rfl
                    have p1 := Rt.cell (j := 1) hSw.2 rfl
                    have p2 := Rt.cell (j := 2) hSw.2 rfl
                    have p3 := Rt.cell (j := 3) hSw.2 rfl
                    have p4 := Rt.cell (j := 4) hSw.2 rfl
                    go_simp
                  try simp only [Act.put, List.setIfInBounds_toArray, List.set_cons_zero, List.set_cons_succ]
                  refine tkH 28 (.int .i64 ot) rfl (fun w hSw => ?_) ?_
                  · (try dsimp only at hSw)
                    have q0 := Rt.cell (j := 0) hSw.1 rfl
                    have q1 := Rt.cell (j := 1) hSw.1 rfl
                    have q2 := Rt.cell (j := 2) hSw.1 rfl
                    have q3 := Rt.cell (j := 3) hSw.1 rfl
                    have q4 := Rt.cell (j := 4) hSw.1 rfl
                    have q5 := Rt.cell (j := 5) hSw.1 rfl
                    have q6 := Rt.cell (j := 6) hSw.1 rfl
                    have q7 := Rt.cell (j := 7) hSw.1 rfl
                    have q8 := Rt.cell (j := 8) hSw.1 rfl
                    have p0 := Rt.cell (j := 0) hSw.2 rfl
                    have p1 := Rt.cell (j := 1) hSw.2 rfl
                    have p2 := Rt.cell (j := 2) hSw.2 rfl
                    have p3 := Rt.cell (j := 3) hSw.2 rfl
                    have p4 := Rt.cell (j := 4) hSw.2 rfl
                    go_simp
                  try simp only [Act.put, List.setIfInBounds_toArray, List.set_cons_zero, List.set_cons_succ]
                  refine tkH 30 (.agg #[.int .i64 px, .int .i64 pt, .string pc, .string pd, .slice A n c]) rfl (fun w hSw => ?_) ?_
                  · (try dsimp only at hSw)
                    have q0 := Rt.cell (j := 0) hSw.1 rfl
                    have q1 := Rt.cell (j := 1) hSw.1 rfl
                    have q2 := Rt.cell (j := 2) hSw.1 rfl
                    have q3 := Rt.cell (j := 3) hSw.1 rfl
                    have q4 := Rt.cell (j := 4) hSw.1 rfl
                    have q5 := Rt.cell (j := 5) hSw.1 rfl
                    have q6 := Rt.cell (j := 6) hSw.1 rfl
                    have q7 := Rt.cell (j := 7) hSw.1 rfl
                    have q8 := Rt.cell (j := 8) hSw.1 rfl
                    have p0 := Rt.cell (j := 0) hSw.2 rfl
                    have p1 := Rt.cell (j := 1) hSw.2 rfl
                    have p2 := Rt.cell (j := 2) hSw.2 rfl
                    have p3 := Rt.cell (j := 3) hSw.2 rfl
                    have p4 := Rt.cell (j := 4) hSw.2 rfl
                    go_simp
                  try simp only [Act.put, List.setIfInBounds_toArray, List.set_cons_zero, List.set_cons_succ]
                  refine tkH 31 (.pointer (some ⟨be, 6, none⟩)) rfl (fun w hSw => ?_) ?_
                  · (try dsimp only at hSw)
                    have q0 := Rt.cell (j := 0) hSw.1 rfl
                    have q1 := Rt.cell (j := 1) hSw.1 rfl
                    have q2 := Rt.cell (j := 2) hSw.1 rfl
                    have q3 := Rt.cell (j := 3) hSw.1 rfl
                    have q4 := Rt.cell (j := 4) hSw.1 rfl
                    have q5 := Rt.cell (j := 5) hSw.1 rfl
                    have q6 := Rt.cell (j := 6) hSw.1 rfl
                    have q7 := Rt.cell (j := 7) hSw.1 rfl
                    have q8 := Rt.cell (j := 8) hSw.1 rfl
                    have p0 := Rt.cell (j := 0) hSw.2 rfl
                    have p1 := Rt.cell (j := 1) hSw.2 rfl
                    have p2 := Rt.cell (j := 2) hSw.2 rfl
                    have p3 := Rt.cell (j := 3) hSw.2 rfl
                    have p4 := Rt.cell (j := 4) hSw.2 rfl
                    go_simp
                  try simp only [Act.put, List.setIfInBounds_toArray, List.set_cons_zero, List.set_cons_succ]
                  refine tkH 32 (.int .i64 oi) rfl (fun w hSw => ?_) ?_
                  · (try dsimp only at hSw)
                    have q0 := Rt.cell (j := 0) hSw.1 rfl
                    have q1 := Rt.cell (j := 1) hSw.1 rfl
                    have q2 := Rt.cell (j := 2) hSw.1 rfl
                    have q3 := Rt.cell (j := 3) hSw.1 rfl
                    have q4 := Rt.cell (j := 4) hSw.1 rfl
                    have q5 := Rt.cell (j := 5) hSw.1 rfl
                    have q6 := Rt.cell (j := 6) hSw.1 rfl
                    have q7 := Rt.cell (j := 7) hSw.1 rfl
                    have q8 := Rt.cell (j := 8) hSw.1 rfl
                    have p0 := Rt.cell (j := 0) hSw.2 rfl
                    have p1 := Rt.cell (j := 1) hSw.2 rfl
                    have p2 := Rt.cell (j := 2) hSw.2 rfl
                    have p3 := Rt.cell (j := 3) hSw.2 rfl
                    have p4 := Rt.cell (j := 4) hSw.2 rfl
                    go_simp
                  try simp only [Act.put, List.setIfInBounds_toArray, List.set_cons_zero, List.set_cons_succ]
                  refine tkH 33 (.pointer (some ⟨be, 7, none⟩)) rfl (fun w hSw => ?_) ?_
                  · (try dsimp only at hSw)
                    have q0 := Rt.cell (j := 0) hSw.1 rfl
                    have q1 := Rt.cell (j := 1) hSw.1 rfl
                    have q2 := Rt.cell (j := 2) hSw.1 rfl
                    have q3 := Rt.cell (j := 3) hSw.1 rfl
                    have q4 := Rt.cell (j := 4) hSw.1 rfl
                    have q5 := Rt.cell (j := 5) hSw.1 rfl
                    have q6 := Rt.cell (j := 6) hSw.1 rfl
                    have q7 := Rt.cell (j := 7) hSw.1 rfl
                    have q8 := Rt.cell (j := 8) hSw.1 rfl
                    have p0 := Rt.cell (j := 0) hSw.2 rfl
                    have p1 := Rt.cell (j := 1) hSw.2 rfl
                    have p2 := Rt.cell (j := 2) hSw.2 rfl
                    have p3 := Rt.cell (j := 3) hSw.2 rfl
                    have p4 := Rt.cell (j := 4) hSw.2 rfl
                    go_simp
                  try simp only [Act.put, List.setIfInBounds_toArray, List.set_cons_zero, List.set_cons_succ]
                  refine tkH 34 (.int .i64 ot) rfl (fun w hSw => ?_) ?_
                  · (try dsimp only at hSw)
                    have q0 := Rt.cell (j := 0) hSw.1 rfl
                    have q1 := Rt.cell (j := 1) hSw.1 rfl
                    have q2 := Rt.cell (j := 2) hSw.1 rfl
                    have q3 := Rt.cell (j := 3) hSw.1 rfl
                    have q4 := Rt.cell (j := 4) hSw.1 rfl
                    have q5 := Rt.cell (j := 5) hSw.1 rfl
                    have q6 := Rt.cell (j := 6) hSw.1 rfl
                    have q7 := Rt.cell (j := 7) hSw.1 rfl
                    have q8 := Rt.cell (j := 8) hSw.1 rfl
                    have p0 := Rt.cell (j := 0) hSw.2 rfl
                    have p1 := Rt.cell (j := 1) hSw.2 rfl
                    have p2 := Rt.cell (j := 2) hSw.2 rfl
                    have p3 := Rt.cell (j := 3) hSw.2 rfl
                    have p4 := Rt.cell (j := 4) hSw.2 rfl
                    go_simp
                  try simp only [Act.put, List.setIfInBounds_toArray, List.set_cons_zero, List.set_cons_succ]
                  refine stH 29 rfl (fun K hK => ?_)
                  go_simp
                  go_at_call 21
                  refine (newer_lk hLI.lk (by omega) oi ot wb HWB.out).mono ?_
                  rintro e m29 ⟨rfl, h⟩
                  replace hLI := hLI.below h
                  replace hO := hO.below h
                  replace hR := hR.below h
                  replace hB := hB.trans (h.mono hB.size)
                  clear h
                  refine hK.out _ _ ?_ (fun hHeld => ?_)
                  · exact ⟨hO, hR⟩
                  clear hK K
                  try simp only [Act.put, List.setIfInBounds_toArray, List.set_cons_zero, List.set_cons_succ]
                  refine stH 35 rfl (fun K hK => ?_)
                  go_simp
                  go_at_call 22
                  refine (rnewer_x (hLI.rl (by omega)) oi ot wb HWB.out).mono ?_
                  rintro e m35 ⟨rfl, h⟩
                  replace hLI := hLI.below h
                  replace hO := hO.below h
                  replace hR := hR.below h
                  replace hB := hB.trans (h.mono hB.size)
                  clear h
                  refine hK.out _ _ ?_ (fun hHeld => ?_)
                  · exact ⟨hO, hR⟩
                  clear hK K
                  try simp only [Act.put, List.setIfInBounds_toArray, List.set_cons_zero, List.set_cons_succ]
                  refine tkH 36 (.bool true) rfl (fun w hSw => ?_) ?_
                  · (try dsimp only at hSw)
                    have q0 := Rt.cell (j := 0) hSw.1 rfl
                    have q1 := Rt.cell (j := 1) hSw.1 rfl
                    have q2 := Rt.cell (j := 2) hSw.1 rfl
                    have q3 := Rt.cell (j := 3) hSw.1 rfl
                    have q4 := Rt.cell (j := 4) hSw.1 rfl
                    have q5 := Rt.cell (j := 5) hSw.1 rfl
                    have q6 := Rt.cell (j := 6) hSw.1 rfl
                    have q7 := Rt.cell (j := 7) hSw.1 rfl
                    have q8 := Rt.cell (j := 8) hSw.1 rfl
                    have p0 := Rt.cell (j := 0) hSw.2 rfl
                    have p1 := Rt.cell (j := 1) hSw.2 rfl
                    have p2 := Rt.cell (j := 2) hSw.2 rfl
                    have p3 := Rt.cell (j := 3) hSw.2 rfl
                    have p4 := Rt.cell (j := 4) hSw.2 rfl
                    go_simp
                  try simp only [Act.put, List.setIfInBounds_toArray, List.set_cons_zero, List.set_cons_succ]
                  refine tkH 37 (.bool true) rfl (fun w hSw => ?_) ?_
                  · (try dsimp only at hSw)
                    have q0 := Rt.cell (j := 0) hSw.1 rfl
                    have q1 := Rt.cell (j := 1) hSw.1 rfl
                    have q2 := Rt.cell (j := 2) hSw.1 rfl
                    have q3 := Rt.cell (j := 3) hSw.1 rfl
                    have q4 := Rt.cell (j := 4) hSw.1 rfl
                    have q5 := Rt.cell (j := 5) hSw.1 rfl
                    have q6 := Rt.cell (j := 6) hSw.1 rfl
                    have q7 := Rt.cell (j := 7) hSw.1 rfl
                    have q8 := Rt.cell (j := 8) hSw.1 rfl
                    have p0 := Rt.cell (j := 0) hSw.2 rfl
                    have p1 := Rt.cell (j := 1) hSw.2 rfl
                    have p2 := Rt.cell (j := 2) hSw.2 rfl
                    have p3 := Rt.cell (j := 3) hSw.2 rfl
                    have p4 := Rt.cell (j := 4) hSw.2 rfl
                    go_simp
                  try simp only [Act.put, List.setIfInBounds_toArray, List.set_cons_zero, List.set_cons_succ]
                  refine tkH 38 (.bool true) rfl (fun w hSw => ?_) ?_
                  · (try dsimp only at hSw)
                    have q0 := Rt.cell (j := 0) hSw.1 rfl
                    have q1 := Rt.cell (j := 1) hSw.1 rfl
                    have q2 := Rt.cell (j := 2) hSw.1 rfl
                    have q3 := Rt.cell (j := 3) hSw.1 rfl
                    have q4 := Rt.cell (j := 4) hSw.1 rfl
                    have q5 := Rt.cell (j := 5) hSw.1 rfl
                    have q6 := Rt.cell (j := 6) hSw.1 rfl
                    have q7 := Rt.cell (j := 7) hSw.1 rfl
                    have q8 := Rt.cell (j := 8) hSw.1 rfl
                    have p0 := Rt.cell (j := 0) hSw.2 rfl
                    have p1 := Rt.cell (j := 1) hSw.2 rfl
                    have p2 := Rt.cell (j := 2) hSw.2 rfl
                    have p3 := Rt.cell (j := 3) hSw.2 rfl
                    have p4 := Rt.cell (j := 4) hSw.2 rfl
                    go_simp
                  try simp only [Act.put, List.setIfInBounds_toArray, List.set_cons_zero, List.set_cons_succ]
                  refine tkH 39 (.pointer (some ⟨g, 0, none⟩)) rfl (fun w hSw => ?_) ?_
                  · (try dsimp only at hSw)
                    have q0 := Rt.cell (j := 0) hSw.1 rfl
                    have q1 := Rt.cell (j := 1) hSw.1 rfl
                    have q2 := Rt.cell (j := 2) hSw.1 rfl
                    have q3 := Rt.cell (j := 3) hSw.1 rfl
                    have q4 := Rt.cell (j := 4) hSw.1 rfl
                    have q5 := Rt.cell (j := 5) hSw.1 rfl
                    have q6 := Rt.cell (j := 6) hSw.1 rfl
                    have q7 := Rt.cell (j := 7) hSw.1 rfl
                    have q8 := Rt.cell (j := 8) hSw.1 rfl
                    have p0 := Rt.cell (j := 0) hSw.2 rfl
                    have p1 := Rt.cell (j := 1) hSw.2 rfl
                    have p2 := Rt.cell (j := 2) hSw.2 rfl
                    have p3 := Rt.cell (j := 3) hSw.2 rfl
                    have p4 := Rt.cell (j := 4) hSw.2 rfl
                    go_simp
                  try simp only [Act.put, List.setIfInBounds_toArray, List.set_cons_zero, List.set_cons_succ]
                  refine tkH 40 (.pointer (some ⟨be, 6, none⟩)) rfl (fun w hSw => ?_) ?_
                  · (try dsimp only at hSw)
                    have q0 := Rt.cell (j := 0) hSw.1 rfl
                    have q1 := Rt.cell (j := 1) hSw.1 rfl
                    have q2 := Rt.cell (j := 2) hSw.1 rfl
                    have q3 := Rt.cell (j := 3) hSw.1 rfl
                    have q4 := Rt.cell (j := 4) hSw.1 rfl
                    have q5 := Rt.cell (j := 5) hSw.1 rfl
                    have q6 := Rt.cell (j := 6) hSw.1 rfl
                    have q7 := Rt.cell (j := 7) hSw.1 rfl
                    have q8 := Rt.cell (j := 8) hSw.1 rfl
                    have p0 := Rt.cell (j := 0) hSw.2 rfl
                    have p1 := Rt.cell (j := 1) hSw.2 rfl
                    have p2 := Rt.cell (j := 2) hSw.2 rfl
                    have p3 := Rt.cell (j := 3) hSw.2 rfl
                    have p4 := Rt.cell (j := 4) hSw.2 rfl
                    go_simp
                  try simp only [Act.put, List.setIfInBounds_toArray, List.set_cons_zero, List.set_cons_succ]
                  refine tkH 41 (.int .i64 oi) rfl (fun w hSw => ?_) ?_
                  · (try dsimp only at hSw)
                    have q0 := Rt.cell (j := 0) hSw.1 rfl
                    have q1 := Rt.cell (j := 1) hSw.1 rfl
                    have q2 := Rt.cell (j := 2) hSw.1 rfl
                    have q3 := Rt.cell (j := 3) hSw.1 rfl
                    have q4 := Rt.cell (j := 4) hSw.1 rfl
                    have q5 := Rt.cell (j := 5) hSw.1 rfl
                    have q6 := Rt.cell (j := 6) hSw.1 rfl
                    have q7 := Rt.cell (j := 7) hSw.1 rfl
                    have q8 := Rt.cell (j := 8) hSw.1 rfl
                    have p0 := Rt.cell (j := 0) hSw.2 rfl
                    have p1 := Rt.cell (j := 1) hSw.2 rfl
                    have p2 := Rt.cell (j := 2) hSw.2 rfl
                    have p3 := Rt.cell (j := 3) hSw.2 rfl
                    have p4 := Rt.cell (j := 4) hSw.2 rfl
                    go_simp
                  try simp only [Act.put, List.setIfInBounds_toArray, List.set_cons_zero, List.set_cons_succ]
                  refine tkH 42 (.pointer (some ⟨be, 8, none⟩)) rfl (fun w hSw => ?_) ?_
                  · (try dsimp only at hSw)
                    have q0 := Rt.cell (j := 0) hSw.1 rfl
                    have q1 := Rt.cell (j := 1) hSw.1 rfl
                    have q2 := Rt.cell (j := 2) hSw.1 rfl
                    have q3 := Rt.cell (j := 3) hSw.1 rfl
                    have q4 := Rt.cell (j := 4) hSw.1 rfl
                    have q5 := Rt.cell (j := 5) hSw.1 rfl
                    have q6 := Rt.cell (j := 6) hSw.1 rfl
                    have q7 := Rt.cell (j := 7) hSw.1 rfl
                    have q8 := Rt.cell (j := 8) hSw.1 rfl
                    have p0 := Rt.cell (j := 0) hSw.2 rfl
                    have p1 := Rt.cell (j := 1) hSw.2 rfl
                    have p2 := Rt.cell (j := 2) hSw.2 rfl
                    have p3 := Rt.cell (j := 3) hSw.2 rfl
                    have p4 := Rt.cell (j := 4) hSw.2 rfl
                    go_simp
                  try simp only [Act.put, List.setIfInBounds_toArray, List.set_cons_zero, List.set_cons_succ]
                  refine tkH 43 (.int .i64 on) rfl (fun w hSw => ?_) ?_
                  · (try dsimp only at hSw)
                    have q0 := Rt.cell (j := 0) hSw.1 rfl
                    have q1 := Rt.cell (j := 1) hSw.1 rfl
                    have q2 := Rt.cell (j := 2) hSw.1 rfl
                    have q3 := Rt.cell (j := 3) hSw.1 rfl
                    have q4 := Rt.cell (j := 4) hSw.1 rfl
                    have q5 := Rt.cell (j := 5) hSw.1 rfl
                    have q6 := Rt.cell (j := 6) hSw.1 rfl
                    have q7 := Rt.cell (j := 7) hSw.1 rfl
                    have q8 := Rt.cell (j := 8) hSw.1 rfl
                    have p0 := Rt.cell (j := 0) hSw.2 rfl
                    have p1 := Rt.cell (j := 1) hSw.2 rfl
                    have p2 := Rt.cell (j := 2) hSw.2 rfl
                    have p3 := Rt.cell (j := 3) hSw.2 rfl
                    have p4 := Rt.cell (j := 4) hSw.2 rfl
                    go_simp
                  try simp only [Act.put, List.setIfInBounds_toArray, List.set_cons_zero, List.set_cons_succ]
                  refine tkH 45 (.agg #[.int .i64 px, .int .i64 pt, .string pc, .string pd, .slice A n c]) rfl (fun w hSw => ?_) ?_
                  · (try dsimp only at hSw)
                    have q0 := Rt.cell (j := 0) hSw.1 rfl
                    have q1 := Rt.cell (j := 1) hSw.1 rfl
                    have q2 := Rt.cell (j := 2) hSw.1 rfl
                    have q3 := Rt.cell (j := 3) hSw.1 rfl
                    have q4 := Rt.cell (j := 4) hSw.1 rfl
                    have q5 := Rt.cell (j := 5) hSw.1 rfl
                    have q6 := Rt.cell (j := 6) hSw.1 rfl
                    have q7 := Rt.cell (j := 7) hSw.1 rfl
                    have q8 := Rt.cell (j := 8) hSw.1 rfl
                    have p0 := Rt.cell (j := 0) hSw.2 rfl
                    have p1 := Rt.cell (j := 1) hSw.2 rfl
                    have p2 := Rt.cell (j := 2) hSw.2 rfl
                    have p3 := Rt.cell (j := 3) hSw.2 rfl
                    have p4 := Rt.cell (j := 4) hSw.2 rfl
                    go_simp
                  try simp only [Act.put, List.setIfInBounds_toArray, List.set_cons_zero, List.set_cons_succ]
                  refine tkH 46 (.pointer (some ⟨be, 6, none⟩)) rfl (fun w hSw => ?_) ?_
                  · (try dsimp only at hSw)
                    have q0 := Rt.cell (j := 0) hSw.1 rfl
                    have q1 := Rt.cell (j := 1) hSw.1 rfl
                    have q2 := Rt.cell (j := 2) hSw.1 rfl
                    have q3 := Rt.cell (j := 3) hSw.1 rfl
                    have q4 := Rt.cell (j := 4) hSw.1 rfl
                    have q5 := Rt.cell (j := 5) hSw.1 rfl
                    have q6 := Rt.cell (j := 6) hSw.1 rfl
                    have q7 := Rt.cell (j := 7) hSw.1 rfl
                    have q8 := Rt.cell (j := 8) hSw.1 rfl
                    have p0 := Rt.cell (j := 0) hSw.2 rfl
                    have p1 := Rt.cell (j := 1) hSw.2 rfl
                    have p2 := Rt.cell (j := 2) hSw.2 rfl
                    have p3 := Rt.cell (j := 3) hSw.2 rfl
                    have p4 := Rt.cell (j := 4) hSw.2 rfl
                    go_simp
                  try simp only [Act.put, List.setIfInBounds_toArray, List.set_cons_zero, List.set_cons_succ]
                  refine tkH 47 (.int .i64 oi) rfl (fun w hSw => ?_) ?_
                  · (try dsimp only at hSw)
                    have q0 := Rt.cell (j := 0) hSw.1 rfl
                    have q1 := Rt.cell (j := 1) hSw.1 rfl
                    have q2 := Rt.cell (j := 2) hSw.1 rfl
                    have q3 := Rt.cell (j := 3) hSw.1 rfl
                    have q4 := Rt.cell (j := 4) hSw.1 rfl
                    have q5 := Rt.cell (j := 5) hSw.1 rfl
                    have q6 := Rt.cell (j := 6) hSw.1 rfl
                    have q7 := Rt.cell (j := 7) hSw.1 rfl
                    have q8 := Rt.cell (j := 8) hSw.1 rfl
                    have p0 := Rt.cell (j := 0) hSw.2 rfl
                    have p1 := Rt.cell (j := 1) hSw.2 rfl
                    have p2 := Rt.cell (j := 2) hSw.2 rfl
                    have p3 := Rt.cell (j := 3) hSw.2 rfl
                    have p4 := Rt.cell (j := 4) hSw.2 rfl
                    go_simp
                  try simp only [Act.put, List.setIfInBounds_toArray, List.set_cons_zero, List.set_cons_succ]
                  refine tkH 48 (.pointer (some ⟨be, 8, none⟩)) rfl (fun w hSw => ?_) ?_
                  · (try dsimp only at hSw)
                    have q0 := Rt.cell (j := 0) hSw.1 rfl
                    have q1 := Rt.cell (j := 1) hSw.1 rfl
                    have q2 := Rt.cell (j := 2) hSw.1 rfl
                    have q3 := Rt.cell (j := 3) hSw.1 rfl
                    have q4 := Rt.cell (j := 4) hSw.1 rfl
                    have q5 := Rt.cell (j := 5) hSw.1 rfl
                    have q6 := Rt.cell (j := 6) hSw.1 rfl
                    have q7 := Rt.cell (j := 7) hSw.1 rfl
                    have q8 := Rt.cell (j := 8) hSw.1 rfl
                    have p0 := Rt.cell (j := 0) hSw.2 rfl
                    have p1 := Rt.cell (j := 1) hSw.2 rfl
                    have p2 := Rt.cell (j := 2) hSw.2 rfl
                    have p3 := Rt.cell (j := 3) hSw.2 rfl
                    have p4 := Rt.cell (j := 4) hSw.2 rfl
                    go_simp
                  try simp only [Act.put, List.setIfInBounds_toArray, List.set_cons_zero, List.set_cons_succ]
                  refine tkH 49 (.int .i64 on) rfl (fun w hSw => ?_) ?_
                  · (try dsimp only at hSw)
                    have q0 := Rt.cell (j := 0) hSw.1 rfl
                    have q1 := Rt.cell (j := 1) hSw.1 rfl
                    have q2 := Rt.cell (j := 2) hSw.1 rfl
                    have q3 := Rt.cell (j := 3) hSw.1 rfl
                    have q4 := Rt.cell (j := 4) hSw.1 rfl
                    have q5 := Rt.cell (j := 5) hSw.1 rfl
                    have q6 := Rt.cell (j := 6) hSw.1 rfl
                    have q7 := Rt.cell (j := 7) hSw.1 rfl
                    have q8 := Rt.cell (j := 8) hSw.1 rfl
                    have p0 := Rt.cell (j := 0) hSw.2 rfl
                    have p1 := Rt.cell (j := 1) hSw.2 rfl
                    have p2 := Rt.cell (j := 2) hSw.2 rfl
                    have p3 := Rt.cell (j := 3) hSw.2 rfl
                    have p4 := Rt.cell (j := 4) hSw.2 rfl
                    go_simp
                  try simp only [Act.put, List.setIfInBounds_toArray, List.set_cons_zero, List.set_cons_succ]
                  refine stH 44 rfl (fun K hK => ?_)
                  go_simp
                  go_at_call 24
                  refine (get_lk hLI.lk (by omega) oi on HF9.out.2 G HG.out).mono ?_
                  rintro e m44 ⟨A6, c6, rfl, ho, h⟩
                  replace hLI := hLI.below h
                  replace hO := hO.below h
                  replace hR := hR.below h
                  replace hB := hB.trans (h.mono hB.size)
                  rw [HZL.out] at ho ⊢
                  have HOG := Lib.hid ho
                  clear ho
                  clear h
                  refine hK.out _ _ ?_ (fun hHeld => ?_)
                  · exact ⟨hO, hR⟩
                  clear hK K
                  try simp only [Act.put, List.setIfInBounds_toArray, List.set_cons_zero, List.set_cons_succ]
                  refine stH 50 rfl (fun K hK => ?_)
                  go_simp
                  go_at_call 25
                  refine (rget_x (hLI.rl (by omega)) oi on HF9.out.2).mono ?_
                  rintro e m50 ⟨v, rfl, ho, h⟩
                  replace hLI := hLI.below h
                  replace hO := hO.below h
                  replace hR := hR.below h
                  replace hB := hB.trans (h.mono hB.size)
                  rw [show get13 ⟨⟨px, pt, pc, pd⟩, L⟩ oi on = G from HG.out] at ho
                  obtain ⟨A9, c9, rfl⟩ := ho.slice
                  rw [HZL.out] at ho ⊢
                  replace HOG := Lib.hid (HOG.out.below h)
                  have HPG := Lib.hid ho
                  clear ho
                  clear h
                  refine hK.out _ _ ?_ (fun hHeld => ?_)
                  · exact ⟨hO, hR⟩
                  clear hK K
                  try simp only [Act.put, List.setIfInBounds_toArray, List.set_cons_zero, List.set_cons_succ]
                  refine stH 51 rfl (fun K hK => ?_)
                  go_simp
                  go_at_call 23
                  refine (reqEnts_is HZL.out HOG.out HPG.out (by omega)).mono ?_
                  rintro e m51 ⟨rfl, h⟩
                  replace hLI := hLI.below h
                  replace hO := hO.below h
                  replace hR := hR.below h
                  replace hB := hB.trans (h.mono hB.size)
                  clear h
                  refine hK.out _ _ ?_ (fun hHeld => ?_)
                  · exact ⟨hO, hR⟩
                  clear hK K
                  try simp only [Act.put, List.setIfInBounds_toArray, List.set_cons_zero, List.set_cons_succ]
                  refine tkH 52 (.bool true) rfl (fun w hSw => ?_) ?_
                  · (try dsimp only at hSw)
                    have q0 := Rt.cell (j := 0) hSw.1 rfl
                    have q1 := Rt.cell (j := 1) hSw.1 rfl
                    have q2 := Rt.cell (j := 2) hSw.1 rfl
                    have q3 := Rt.cell (j := 3) hSw.1 rfl
                    have q4 := Rt.cell (j := 4) hSw.1 rfl
                    have q5 := Rt.cell (j := 5) hSw.1 rfl
                    have q6 := Rt.cell (j := 6) hSw.1 rfl
                    have q7 := Rt.cell (j := 7) hSw.1 rfl
                    have q8 := Rt.cell (j := 8) hSw.1 rfl
                    have p0 := Rt.cell (j := 0) hSw.2 rfl
                    have p1 := Rt.cell (j := 1) hSw.2 rfl
                    have p2 := Rt.cell (j := 2) hSw.2 rfl
                    have p3 := Rt.cell (j := 3) hSw.2 rfl
                    have p4 := Rt.cell (j := 4) hSw.2 rfl
                    go_simp
                  try simp only [Act.put, List.setIfInBounds_toArray, List.set_cons_zero, List.set_cons_succ]
                  refine tkH 53 (.bool true) rfl (fun w hSw => ?_) ?_
                  · (try dsimp only at hSw)
                    have q0 := Rt.cell (j := 0) hSw.1 rfl
                    have q1 := Rt.cell (j := 1) hSw.1 rfl
                    have q2 := Rt.cell (j := 2) hSw.1 rfl
                    have q3 := Rt.cell (j := 3) hSw.1 rfl
                    have q4 := Rt.cell (j := 4) hSw.1 rfl
                    have q5 := Rt.cell (j := 5) hSw.1 rfl
                    have q6 := Rt.cell (j := 6) hSw.1 rfl
                    have q7 := Rt.cell (j := 7) hSw.1 rfl
                    have q8 := Rt.cell (j := 8) hSw.1 rfl
                    have p0 := Rt.cell (j := 0) hSw.2 rfl
                    have p1 := Rt.cell (j := 1) hSw.2 rfl
                    have p2 := Rt.cell (j := 2) hSw.2 rfl
                    have p3 := Rt.cell (j := 3) hSw.2 rfl
                    have p4 := Rt.cell (j := 4) hSw.2 rfl
                    go_simp
                  try simp only [Act.put, List.setIfInBounds_toArray, List.set_cons_zero, List.set_cons_succ]
                  refine wpAnyH_done (by kernel_rfl) ?_ _
                  refine NoPanic.normal ?_
                  have HLI8 := Lib.hid hLI
                  have HB8 := Lib.hid hB
                  clear hLI hB hO hR hHeld
                  have v0 := HLI8.out.box.cell (j := 0) rfl
                  have v1 := HLI8.out.box.cell (j := 1) rfl
                  have v2 := HLI8.out.box.cell (j := 2) rfl
                  have v3 := HLI8.out.box.cell (j := 3) rfl
                  have v4 := HLI8.out.box.cell (j := 4) rfl
                  go_wp2_with fail
                  refine (lsame13_any HLI8.out.lk (by omega) (HLI8.out.rl (by omega)) HLI8.out.fol HLI8.out.dat).mono ?_
                  rintro e k9 ⟨rfl, h⟩
                  clear v0 v1 v2 v3 v4
                  go_wp2
                  go_roundw
                  case rel => exact ⟨j + 1, by omega, by omega, by go_num, _, _, _, _, _, (HLI8.out.below h).more (by omega), HB8.out.trans (h.mono HB8.out.size)⟩
                  case measure => simp [intOf]; omega
          · have h30i : ¬ (j : Int) < 30 := by omega
            have v0 := HLI.out.box.cell (j := 0) rfl
            have v1 := HLI.out.box.cell (j := 1) rfl
            have v2 := HLI.out.box.cell (j := 2) rfl
            have v3 := HLI.out.box.cell (j := 3) rfl
            have v4 := HLI.out.box.cell (j := 4) rfl
            go_wp2_with fail
            refine (lsame13_any HLI.out.lk (by omega) (HLI.out.rl (by omega)) HLI.out.fol HLI.out.dat).mono ?_
            rintro e k9 ⟨rfl, h⟩
            clear v0 v1 v2 v3 v4
            go_wp2
            go_ret
            exact ⟨rfl, HBX.out.trans (h.mono HBX.out.size)⟩
        · have hji : ¬ (j : Int) < (r0 : Int) := by omega
          have v0 := HLI.out.box.cell (j := 0) rfl
          have v1 := HLI.out.box.cell (j := 1) rfl
          have v2 := HLI.out.box.cell (j := 2) rfl
          have v3 := HLI.out.box.cell (j := 3) rfl
          have v4 := HLI.out.box.cell (j := 4) rfl
          go_wp2_with fail
          refine (lsame13_any HLI.out.lk (by omega) (HLI.out.rl (by omega)) HLI.out.fol HLI.out.dat).mono ?_
          rintro e k9 ⟨rfl, h⟩
          clear v0 v1 v2 v3 v4
          go_wp2
          go_ret
          exact ⟨rfl, HBX.out.trans (h.mono HBX.out.size)⟩

set_option maxRecDepth 100000 in
theorem lifted (os : Os) (started : os.Started) (H : Type) (enc : TypeId × Value → H) :
    ReturnsInHanded {} Try.checked os 3 .any (Rows.logAllSpec.pre6 enc Try.prog Try.f3 Rows.logAllRow.domain false) (Rows.logAllSpec.post enc Try.prog Try.f3 false true false false) := by
  refine returnsInHanded_of_change (C := Try.checked) own started (by kernel_rfl) Try.func3
    (ChangeSpec.witness6 (enc := enc) (C := Try.checked) false ⟨#[], #[.agg #[.int .i64 0, .int .i64 0, .string ByteArray.empty, .string ByteArray.empty], .slice none 0 0, .slice none 0 0], []⟩ 8 (by kernel_rfl) (by kernel_rfl) (by kernel_rfl) (by kernel_rfl)) ?_
  intro W base args ds gs before hval0 hW hcnd _
  have hval : ∀ (j : Nat) t v, Try.f3.params[j]? = some t → args[j]? = some v → Value.okWide Try.prog W .any base t v := hval0
  have hW' := hW
  obtain ⟨p, q, hA0, hV, rfl, hfz, hnd⟩ := hW
  have hA : DataW.TrodAll enc Try.prog W 0 (fun _ => true) true Try.f3.params.toList args.toList ds p := hA0
  have hA1 := hA
  rw [Try.params3] at hA hval
  obtain ⟨v0, vs0, d0, ds0, p0, q0, hargs, rfl, rfl, h0, r0⟩ := trodAll_cons hA
  obtain ⟨v1, vs1, d1, ds1, p1, q1, rfl, rfl, rfl, h1, r1⟩ := trodAll_cons r0
  obtain ⟨v2, vs2, d2, ds2, p2, q2, rfl, rfl, rfl, h2, r2⟩ := trodAll_cons r1
  obtain ⟨rfl, rfl, rfl⟩ := trodAll_nil r2
  obtain rfl : args = #[v0, v1, v2] := by cases args; simp_all
  obtain ⟨rfl, rfl⟩ := trodVars_none hV
  obtain ⟨a0, rfl, w0⟩ := open_snp (hval 0 23 v0 rfl rfl) h0
  obtain ⟨A1, c1, a1, rfl, w1, x1⟩ := open_ents (hval 1 24 v1 rfl rfl) h1
  obtain ⟨A2, c2, a2, rfl, w2, x2⟩ := open_rops (hval 2 25 v2 rfl rfl) h2
  clear hA0 hval0
  simp only [List.append_nil] at hW'
  try simp only [List.append_nil] at hA1
  refine (walk W a0 w0 A1 c1 a1 w1 x1 A2 c2 a2 w2 x2).mono fun e W' ⟨he, hg⟩ => ?_
  subst he
  exact ⟨_, rfl, law_end Try.laidOut (by kernel_rfl) hW' hA1 hg rfl rfl rfl (trodAll_mk1 (shut_bool Try.underlying4 _))⟩

theorem over : Rows.logAllRow.holds Try.pinned (OpenSpec.ofChange Rows.logAllSpec) :=
  OpenClaim.holds_of_wide 3 Try.f3 rfl rfl rfl rfl rfl rfl rfl ⟨rfl, rfl, rfl, rfl, rfl⟩ rfl rfl rfl rfl rfl (by kernel_rfl) Try.func3 (by kernel_rfl)
    (of_decide_eq_true (by kernel_rfl)) (by unfold Func.isWrapper; first | (rw [if_pos (by decide +kernel)]; kernel_rfl) | (rw [if_neg (by decide +kernel)]; exact ⟨rfl, rfl⟩))
    (fun os started H enc _ => lifted os started H enc)

/-- the statement -/
theorem proved : Rows.LogAllSaid := over
#print axioms proved
end Go.Proofs.Ytoekiencnbgmhaa.logAll
