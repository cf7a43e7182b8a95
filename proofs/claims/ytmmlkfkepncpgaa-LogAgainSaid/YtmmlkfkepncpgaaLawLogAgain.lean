/-
  LogAgain: entries that are put again change nothing. It is true for all arguments.
-/
import Derived.Test.YtmmlkfkepncpgaaRows
import Derived.Test.YtmmlkfkepncpgaaBun2
import Derived.Test.YtmmlkfkepncpgaaBun1
import Derived.WalkKit
import Derived.ProofKit
import Derived.OpenShut
import Derived.ShutString
namespace Go.Proofs.Ytmmlkfkepncpgaa.logAgain
open Go.ChangeShapes Go.WideShapes Go.ChangeAt Go.RowKit
open Go.ChangeMaps (open_string shut_string)
set_option linter.unusedVariables false

theorem own : ownKnob Try.prog.godebug = none := by kernel_rfl

set_option maxRecDepth 100000 in
set_option maxHeartbeats 8000000 in
theorem walk (w : World) (a0 : Snp) (w0 : a0.fit) (A1 : Option Addr) (c1 : Nat) (a1 : List Ent) (w1 : Ens (fun j => j < w.heap.size) w (.slice A1 a1.length c1) a1) (x1 : ∀ x ∈ a1, x.fit) (a2 : Int) (w2 : (Lit.int .i64 a2).wf = true) (a3 : Int) (w3 : (Lit.int .i64 a3).wf = true) :
    Calls Try.prog 5 #[a0.val, .slice A1 a1.length c1, .int .i64 a2, .int .i64 a3] w fun e w' => e = .returned (.bool true) ∧ Below w.heap.size w w' := by
  obtain ⟨ix, st, cf, dt⟩ := a0
  obtain ⟨f1, f2, f3, f4⟩ := w0
  simp only at f1 f2 f3 f4
  obtain ⟨cf2, hcf⟩ : ∃ x, cutS cf 60 = x := ⟨_, rfl⟩
  obtain ⟨dt2, hdt⟩ : ∃ x, cutS dt 100 = x := ⟨_, rfl⟩
  have hcs : cf2.size ≤ 100000 := by rw [← hcf]; exact Nat.le_trans (cutS_size _ _) (by decide)
  have hds : dt2.size ≤ 100000 := by rw [← hdt]; exact Nat.le_trans (cutS_size _ _) (by decide)
  have HC := Lib.hid (And.intro hcf hdt)
  have HS := Lib.hid (And.intro hcs hds)
  have HI := Lib.hid f1
  have hfit := cutEnts_fit (q := 12) (fun e he => (x1 e he).1)
  have hsh := cutEnts_short a1 12
  obtain ⟨M, hM⟩ : ∃ M, (a1.take 12).map cutEnt = M := ⟨_, rfl⟩
  rw [hM] at hfit hsh
  have HF := Lib.hid hfit
  have HSH := Lib.hid hsh
  have HM := Lib.hid hM
  have HA := Lib.hid w1
  obtain ⟨m0, hm0⟩ : ∃ m0, a1.length = m0 := ⟨_, rfl⟩
  rw [hm0] at HA ⊢
  show Calls _ _ #[.agg #[.int .i64 ix, .int .i64 st, .string cf, .string dt], .slice A1 m0 c1, .int .i64 a2, .int .i64 a3] w _
  clear hcf hdt hcs hds f1 f2 f3 f4 hfit hsh hM w1 x1 hm0
  have HW2 := Lib.hid (And.intro w2 w3)
  clear w2 w3
  obtain ⟨b0, hb0⟩ : ∃ b0, w.heap.size = b0 := ⟨_, rfl⟩
  obtain ⟨k0, hk0⟩ : ∃ k0, w.alloc (.cells #[.int .i64 ix, .int .i64 st, .string cf, .string dt] 23) = k0 := ⟨_, rfl⟩
  have hx : Rt k0 b0 23 [.int .i64 ix, .int .i64 st, .string cf, .string dt] := by rw [← hk0, ← hb0]; exact Rt.new _ _ _
  have hb : Below w.heap.size w k0 := by rw [← hk0]; exact below_new _ _
  go_enter Try.func5, Try.ntmps5
  go_wp2_with fail
  refine (begun13_any k0).mono ?_
  rintro e k1 ⟨rfl, h⟩
  have HX := Lib.hid (hx.below h)
  have HB := Lib.hid (hb.trans (h.mono hb.size))
  clear hx hb h hk0
  have d0 := HX.out.cell (j := 0) rfl
  have d1 := HX.out.cell (j := 1) rfl
  have d2 := HX.out.cell (j := 2) rfl
  have d3 := HX.out.cell (j := 3) rfl
  go_wp2_with fail
  refine (snap13_any ix st cf dt cf2 dt2 _ HC.out.1 HC.out.2).mono ?_
  rintro e k2 ⟨rfl, h⟩
  have HX2 := Lib.hid (HX.out.below h)
  have HB2 := Lib.hid (HB.out.trans (h.mono HB.out.size))
  clear h d0 d1 d2 d3 HX HB
  go_wp2_with fail
  refine (ents13_any _ A1 m0 c1 12 a1 _ (HA.out.under HB2.out (Nat.le_refl _)) (by decide)).mono ?_
  rintro e k3 ⟨v3, rfl, hO, h⟩
  rw [HM.out] at hO
  obtain ⟨A3, c3, rfl⟩ := hO.slice
  obtain ⟨m, hm⟩ : ∃ m, M.length = m := ⟨_, rfl⟩
  have HML := Lib.hid hm
  have hm12 : m ≤ 12 := by rw [← hm]; exact HSH.out
  rw [hm] at hO ⊢
  have hx3 := HX2.out.below h
  have hbk := Nat.lt_of_lt_of_le HX2.out.lt (Nat.le_refl _)
  have hB3 := HB2.out.trans (h.mono HB2.out.size)
  have d0 := hx3.cell (j := 0) rfl
  have d1 := hx3.cell (j := 1) rfl
  have d2 := hx3.cell (j := 2) rfl
  have d3 := hx3.cell (j := 3) rfl
  have f0 := hx3.frz 0
  have f1 := hx3.frz 1
  have f2 := hx3.frz 2
  have f3 := hx3.frz 3
  have hx4 := (((hx3.set 0 (.int .i64 ix)).set 1 (.int .i64 st)).set 2 (.string cf2)).set 3 (.string dt2)
  have hB4 : Below w.heap.size w ((((k3.setCell ⟨b0, 0, none⟩ (.int .i64 ix)).setCell ⟨b0, 1, none⟩ (.int .i64 st)).setCell ⟨b0, 2, none⟩ (.string cf2)).setCell ⟨b0, 3, none⟩ (.string dt2)) := ((((hB3.setCell (p := ⟨b0, 0, none⟩) (Nat.le_of_eq hb0) (.int .i64 ix)).setCell (p := ⟨b0, 1, none⟩) (Nat.le_of_eq hb0) (.int .i64 st)).setCell (p := ⟨b0, 2, none⟩) (Nat.le_of_eq hb0) (.string cf2)).setCell (p := ⟨b0, 3, none⟩) (Nat.le_of_eq hb0) (.string dt2))
  have ho : Off (fun j => j = b0) k3 ((((k3.setCell ⟨b0, 0, none⟩ (.int .i64 ix)).setCell ⟨b0, 1, none⟩ (.int .i64 st)).setCell ⟨b0, 2, none⟩ (.string cf2)).setCell ⟨b0, 3, none⟩ (.string dt2)) := Off.set (Off.set (Off.set (Off.set (Off.refl _ k3) (.inl rfl)) (.inl rfl)) (.inl rfl)) (.inl rfl)
  have hO4 := hO.off ho (fun j hj e => by subst e; have := (hO.lt j hj).1; omega)
  obtain ⟨k4, hk4⟩ : ∃ k4, (((k3.setCell ⟨b0, 0, none⟩ (.int .i64 ix)).setCell ⟨b0, 1, none⟩ (.int .i64 st)).setCell ⟨b0, 2, none⟩ (.string cf2)).setCell ⟨b0, 3, none⟩ (.string dt2) = k4 := ⟨_, rfl⟩
  rw [hk4] at hx4 hB4 hO4
  have HX4 := Lib.hid hx4
  have HB4 := Lib.hid hB4
  have HO4 := Lib.hid (hO4.down (Nat.le_trans HB2.out.size (Nat.le_refl _)))
  have HGE := Lib.hid (fun j hj => (hO4.lt j hj).1)
  have hbk2 : b0 < k2.heap.size := hbk
  have HK4 := Lib.hid hk4
  have e0 := hx4.cell (j := 0) rfl
  have e1 := hx4.cell (j := 1) rfl
  have e2 := hx4.cell (j := 2) rfl
  have e3 := hx4.cell (j := 3) rfl
  clear hO hO4 ho hx3 hx4 hB3 hB4 h hm HX2 hbk
  obtain ⟨bn, hbn⟩ : ∃ bn, new13 ⟨ix, st, cf2, dt2⟩ M = bn := ⟨_, rfl⟩
  go_wp2_with fail
  clear d0 d1 d2 d3 f0 f1 f2 f3
  refine (new_lk (fun j => j < k4.heap.size) ⟨ix, st, cf2, dt2⟩ A3 m c3 M k4 (fun _ h => h) ((Ens.of_own HO4.out).mono fun j hj hl => hl) (by rw [HML.out]; omega) HI.out HF.out HS.out.1 HS.out.2 bn hbn).mono ?_
  rintro e k6 ⟨hb6, ⟨rfl, rfl⟩ | ⟨rfl, g, rfl, hL6⟩⟩
  · have HB6 := Lib.hid (HB4.out.trans (hb6.mono HB4.out.size))
    clear hb6
    go_wp2
    go_ret
    exact ⟨rfl, HB6.out⟩
  have HK6 := Lib.hid hL6
  have HB6 := Lib.hid (HB4.out.trans (hb6.mono HB4.out.size))
  have HL6 := Lib.hid (HO4.out.below hb6)
  have HX6 := Lib.hid (HX4.out.below hb6)
  have HNB := Lib.hid hbn
  have HZ4 := Lib.hid HB4.out.size
  have hxlt := HX4.out.lt
  have HXL := Lib.hid hxlt
  have HOL := Lib.hid (fun j hj => (HO4.out.lt j hj).2)
  clear hb6 hL6 HO4 HB4 HX4 e0 e1 e2 e3 HM HC hk4 HK4 hbn HB2 hxlt
  by_cases hm0 : m = 0
  · subst hm0
    go_wp2
    go_ret
    exact ⟨rfl, HB6.out⟩
  by_cases hf0 : a2 < 0
  · go_wp2
    go_ret
    exact ⟨rfl, HB6.out⟩
  by_cases hn0 : a3 < 0
  · go_wp2
    go_ret
    exact ⟨rfl, HB6.out⟩
  by_cases hfm : (m : Int) ≤ a2
  · go_wp2
    go_ret
    exact ⟨rfl, HB6.out⟩
  obtain ⟨f, rfl⟩ : ∃ f : Nat, a2 = (f : Int) := ⟨a2.toNat, by omega⟩
  have hfM : f < M.length := by rw [HML.out]; omega
  have hixb : 0 ≤ ix ∧ ix ≤ 1099511627776 := by
    have h := HNB.out
    unfold new13 at h
    simp only [Bool.and_eq_true, decide_eq_true_eq] at h
    exact ⟨h.1.1.1.1, h.1.1.1.2⟩
  have hfmn : f < m := by omega
  have hmb : ((m : Int) == 0) = false := by simp; omega
  have hff : ¬ m ≤ f := by omega
  have hfi : ¬ (f : Int) < 0 := by omega
  go_wp2_with fail
  refine (first_lk HK6.out (by decide) (ix + 1) rfl).mono ?_
  rintro e k7 ⟨rfl, h⟩
  have HK7 := Lib.hid (HK6.out.below h)
  have HL7 := Lib.hid (HL6.out.below h)
  have HX7 := Lib.hid (HX6.out.below h)
  have HB7 := Lib.hid (HB6.out.trans (h.mono HB6.out.size))
  clear h HK6 HL6 HB6 HX6
  obtain ⟨es, hes⟩ : ∃ es, (M.drop f).take a3.toNat = es := ⟨_, rfl⟩
  have hget : get13 ⟨⟨ix, st, cf2, dt2⟩, M⟩ (ix + 1 + (f : Int)) a3 = es := by
    rw [← hes]; exact get13_from (s := ⟨ix, st, cf2, dt2⟩) hfM a3
  have hput : put13 ⟨⟨ix, st, cf2, dt2⟩, M⟩ es = (⟨⟨ix, st, cf2, dt2⟩, M⟩, 0, true) := by
    rw [← hes]; exact again13 HNB.out hfM _
  have hesM : ∀ e ∈ es, e ∈ M := fun e he => List.mem_of_mem_drop (List.mem_of_mem_take (hes ▸ he))
  have hesl : es.length ≤ 12 := by
    rw [← hes, List.length_take, List.length_drop, HML.out]; omega
  have HG := Lib.hid hget
  have HP := Lib.hid hput
  have HE := Lib.hid hesM
  have HEL := Lib.hid hesl
  clear hget hput hesM hesl hes
  go_wp2_with fail
  refine (get_lk HK7.out (by decide) (ix + 1 + (f : Int)) a3 (by have h := i64b_wf HW2.out.2; exact h) es HG.out).mono ?_
  rintro e k8 ⟨Ae, ce, rfl, hO, h⟩
  obtain ⟨ne, hne⟩ : ∃ ne, es.length = ne := ⟨_, rfl⟩
  rw [hne] at hO ⊢
  have HNE := Lib.hid hne
  have HK8 := Lib.hid (HK7.out.others h)
  have HL8 := Lib.hid (HL7.out.below h)
  have HX8 := Lib.hid (HX7.out.below h)
  have HB8 := Lib.hid (HB7.out.trans (h.mono HB7.out.size))
  have HES := Lib.hid ((Ens.of_own hO).mono (M := Nw (fun j => j < k4.heap.size) k7 k8) fun j hj hl => .inr ⟨(hO.lt j hj).1, hl⟩)
  clear h hO HK7 HL7 HB7 HX7 hne
  go_wp2_with fail
  refine (lPut_any _ 200 Ae ne ce es HK8.out (by decide) HES.out (by have := HEL.out; omega) (fun e he => HF.out e (HE.out e he)) _ 0 true HP.out).mono ?_
  rintro e k9 ⟨rfl, hL9, hS9⟩
  have HK9 := Lib.hid hL9
  have HL9 := Lib.hid (HL8.out.off hS9 (fun j hj hn => hn (.inl (HOL.out j hj))))
  have HX9 := Lib.hid (hS9.rt HX8.out (.inl HXL.out))
  have HB9 := Lib.hid (HB8.out.trans (hS9.below HB8.out.size fun j hj => .inl (Nat.lt_of_lt_of_le hj HZ4.out)))
  clear hL9 hS9 HK8 HL8 HX8 HB8
  have e0 := HX9.out.cell (j := 0) (v := .int .i64 ix) rfl
  go_wp2_with fail
  have HK := Lib.hid (HK9.out.below (show Below k9.heap.size k9 k9.drew from (Below.refl _ _).drew))
  have HL := Lib.hid (HL9.out.below (show Below k9.heap.size k9 k9.drew from (Below.refl _ _).drew))
  have HBn := Lib.hid (show Below w.heap.size w k9.drew from HB9.out.drew)
  have hbl : b0 < k9.drew.heap.size := HX9.out.lt
  replace e0 : k9.drew.cell? ⟨b0, 0, none⟩ = some (.int .i64 ix) := e0
  have hgm : get13 ⟨⟨ix, st, cf2, dt2⟩, M⟩ (ix + 1) 50 = M := by
    rw [get13_all ⟨⟨ix, st, cf2, dt2⟩, M⟩ 50]
    exact List.take_of_length_le (by have := HSH.out; show M.length ≤ 50; omega)
  have HGM := Lib.hid hgm
  have hwm : IntKind.i64.wrap (ix + (m : Int)) = ix + (m : Int) := by rw [IntKind.wrap_i64]; omega
  clear hgm HK9 HL9 HB9 HX9
  refine wp_region_noPanic ?_
  refine wp_region_held_drew (S := fun W => W.cell? ⟨b0, 0, none⟩ = some (.int .i64 ix)) (by kernel_rfl) ?_ (fun hHeld => ?_)
  · exact e0
  generalize k9.drew = kz at *
  refine tkH 0 (.int .i64 0) rfl (fun w hSw => ?_) ?_
  · (try dsimp only at hSw)
    have q0 := hSw
    go_simp
  try simp only [Act.put, List.setIfInBounds_toArray, List.set_cons_zero, List.set_cons_succ]
  refine tkH 1 (.bool true) rfl (fun w hSw => ?_) ?_
  · (try dsimp only at hSw)
    have q0 := hSw
    go_simp
  try simp only [Act.put, List.setIfInBounds_toArray, List.set_cons_zero, List.set_cons_succ]
  refine tkH 2 (.bool true) rfl (fun w hSw => ?_) ?_
  · (try dsimp only at hSw)
    have q0 := hSw
    go_simp
  try simp only [Act.put, List.setIfInBounds_toArray, List.set_cons_zero, List.set_cons_succ]
  refine tkH 3 (.bool true) rfl (fun w hSw => ?_) ?_
  · (try dsimp only at hSw)
    have q0 := hSw
    go_simp
  try simp only [Act.put, List.setIfInBounds_toArray, List.set_cons_zero, List.set_cons_succ]
  refine tkH 4 (.bool true) rfl (fun w hSw => ?_) ?_
  · (try dsimp only at hSw)
    have q0 := hSw
    go_simp
  try simp only [Act.put, List.setIfInBounds_toArray, List.set_cons_zero, List.set_cons_succ]
  refine tkH 5 (.bool true) rfl (fun w hSw => ?_) ?_
  · (try dsimp only at hSw)
    have q0 := hSw
    go_simp
  try simp only [Act.put, List.setIfInBounds_toArray, List.set_cons_zero, List.set_cons_succ]
  refine tkH 6 (.pointer (some ⟨g, 0, none⟩)) rfl (fun w hSw => ?_) ?_
  · (try dsimp only at hSw)
    have q0 := hSw
    go_simp
  try simp only [Act.put, List.setIfInBounds_toArray, List.set_cons_zero, List.set_cons_succ]
  refine tkH 8 (.pointer (some ⟨b0, 0, none⟩)) rfl (fun w hSw => ?_) ?_
  · (try dsimp only at hSw)
    have q0 := hSw
    go_simp
  try simp only [Act.put, List.setIfInBounds_toArray, List.set_cons_zero, List.set_cons_succ]
  refine tkH 9 (.int .i64 ix) rfl (fun w hSw => ?_) ?_
  · (try dsimp only at hSw)
    have q0 := hSw
    go_simp
  try simp only [Act.put, List.setIfInBounds_toArray, List.set_cons_zero, List.set_cons_succ]
  refine tkH 10 (.slice A3 m c3) rfl (fun w hSw => ?_) ?_
  · (try dsimp only at hSw)
    have q0 := hSw
    go_simp
  try simp only [Act.put, List.setIfInBounds_toArray, List.set_cons_zero, List.set_cons_succ]
  refine tkH 11 (.int .i64 m) rfl (fun w hSw => ?_) ?_
  · (try dsimp only at hSw)
    have q0 := hSw
    go_simp
  try simp only [Act.put, List.setIfInBounds_toArray, List.set_cons_zero, List.set_cons_succ]
  refine tkH 12 (.int .i64 (ix + (m : Int))) rfl (fun w hSw => ?_) ?_
  · (try dsimp only at hSw)
    have q0 := hSw
    go_simp
  try simp only [Act.put, List.setIfInBounds_toArray, List.set_cons_zero, List.set_cons_succ]
  refine stH 7 rfl (fun K hK => ?_)
  go_simp
  go_at_call 31
  refine (last_lk HK.out (by decide) (ix + (m : Int)) (by unfold lst13; simp only; rw [HML.out])).mono ?_
  rintro e kA ⟨rfl, h⟩
  replace HK := Lib.hid (HK.out.below h)
  replace HL := Lib.hid (HL.out.below h)
  replace e0 := (h.cell (p := ⟨b0, 0, none⟩) hbl).trans e0
  replace hbl := Nat.lt_of_lt_of_le hbl h.size
  replace HBn := Lib.hid (HBn.out.trans (h.mono HBn.out.size))
  clear h
  refine hK.out _ _ ?_ (fun hHeld => ?_)
  · exact e0
  clear hK K
  try simp only [Act.put, List.setIfInBounds_toArray, List.set_cons_zero, List.set_cons_succ]
  refine tkH 13 (.bool true) rfl (fun w hSw => ?_) ?_
  · (try dsimp only at hSw)
    have q0 := hSw
    go_simp
  try simp only [Act.put, List.setIfInBounds_toArray, List.set_cons_zero, List.set_cons_succ]
  refine tkH 14 (.bool true) rfl (fun w hSw => ?_) ?_
  · (try dsimp only at hSw)
    have q0 := hSw
    go_simp
  try simp only [Act.put, List.setIfInBounds_toArray, List.set_cons_zero, List.set_cons_succ]
  refine tkH 15 (.bool true) rfl (fun w hSw => ?_) ?_
  · (try dsimp only at hSw)
    have q0 := hSw
    go_simp
  try simp only [Act.put, List.setIfInBounds_toArray, List.set_cons_zero, List.set_cons_succ]
  refine tkH 16 (.pointer (some ⟨g, 0, none⟩)) rfl (fun w hSw => ?_) ?_
  · (try dsimp only at hSw)
    have q0 := hSw
    go_simp
  try simp only [Act.put, List.setIfInBounds_toArray, List.set_cons_zero, List.set_cons_succ]
  refine tkH 17 (.pointer (some ⟨g, 0, none⟩)) rfl (fun w hSw => ?_) ?_
  · (try dsimp only at hSw)
    have q0 := hSw
    go_simp
  try simp only [Act.put, List.setIfInBounds_toArray, List.set_cons_zero, List.set_cons_succ]
  refine tkH 20 (.slice A3 m c3) rfl (fun w hSw => ?_) ?_
  · (try dsimp only at hSw)
    have q0 := hSw
    go_simp
  try simp only [Act.put, List.setIfInBounds_toArray, List.set_cons_zero, List.set_cons_succ]
  refine stH 18 rfl (fun K hK => ?_)
  go_simp
  go_at_call 30
  refine (first_lk HK.out (by decide) (ix + 1) rfl).mono ?_
  rintro e kB ⟨rfl, h⟩
  replace HK := Lib.hid (HK.out.below h)
  replace HL := Lib.hid (HL.out.below h)
  replace e0 := (h.cell (p := ⟨b0, 0, none⟩) hbl).trans e0
  replace hbl := Nat.lt_of_lt_of_le hbl h.size
  replace HBn := Lib.hid (HBn.out.trans (h.mono HBn.out.size))
  clear h
  refine hK.out _ _ ?_ (fun hHeld => ?_)
  · exact e0
  clear hK K
  try simp only [Act.put, List.setIfInBounds_toArray, List.set_cons_zero, List.set_cons_succ]
  refine stH 19 rfl (fun K hK => ?_)
  go_simp
  go_at_call 26
  refine (get_lk HK.out (by decide) (ix + 1) 50 (by decide) M HGM.out).mono ?_
  rintro e kC ⟨Ay, cy, rfl, hO, h⟩
  rw [HML.out] at hO ⊢
  have HEY := Lib.hid (Ens.of_own hO)
  have HEZ := Lib.hid (Ens.of_own (HL.out.below h))
  replace e0 := (h.cell (p := ⟨b0, 0, none⟩) hbl).trans e0
  replace hbl := Nat.lt_of_lt_of_le hbl h.size
  replace HBn := Lib.hid (HBn.out.trans (h.mono HBn.out.size))
  have hE := reqEnts_any _ _ Ay A3 cy c3 M M kC (by rw [HML.out]; exact HEY.out) (by rw [HML.out]; exact HEZ.out) (by rw [HML.out]; omega)
  rw [HML.out, eqEs11_self] at hE
  have HQ := Lib.hid hE
  clear h hO hE
  refine hK.out _ _ ?_ (fun hHeld => ?_)
  · exact e0
  clear hK K
  try simp only [Act.put, List.setIfInBounds_toArray, List.set_cons_zero, List.set_cons_succ]
  refine stH 21 rfl (fun K hK => ?_)
  go_simp
  go_at_call 25
  refine HQ.out.mono ?_
  rintro e kD ⟨rfl, h⟩
  replace e0 := (h.cell (p := ⟨b0, 0, none⟩) hbl).trans e0
  replace hbl := Nat.lt_of_lt_of_le hbl h.size
  replace HBn := Lib.hid (HBn.out.trans (h.mono HBn.out.size))
  clear h
  refine hK.out _ _ ?_ (fun hHeld => ?_)
  · exact e0
  clear hK K
  try simp only [Act.put, List.setIfInBounds_toArray, List.set_cons_zero, List.set_cons_succ]
  refine tkH 22 (.bool true) rfl (fun w hSw => ?_) ?_
  · (try dsimp only at hSw)
    have q0 := hSw
    go_simp
  try simp only [Act.put, List.setIfInBounds_toArray, List.set_cons_zero, List.set_cons_succ]
  refine tkH 23 (.bool true) rfl (fun w hSw => ?_) ?_
  · (try dsimp only at hSw)
    have q0 := hSw
    go_simp
  try simp only [Act.put, List.setIfInBounds_toArray, List.set_cons_zero, List.set_cons_succ]
  refine wpAnyH_done (by kernel_rfl) ?_ _
  refine NoPanic.normal ?_
  go_wp2
  go_ret
  exact ⟨rfl, HBn.out⟩

set_option maxRecDepth 100000 in
theorem lifted (os : Os) (started : os.Started) (H : Type) (enc : TypeId × Value → H) :
    ReturnsInHanded {} Try.checked os 5 .any (Rows.logAgainSpec.pre6 enc Try.prog Try.f5 Rows.logAgainRow.domain false) (Rows.logAgainSpec.post enc Try.prog Try.f5 false true false false) := by
  refine returnsInHanded_of_change (C := Try.checked) own started (by kernel_rfl) Try.func5
    (ChangeSpec.witness6 (enc := enc) (C := Try.checked) false ⟨#[], #[.agg #[.int .i64 0, .int .i64 0, .string ByteArray.empty, .string ByteArray.empty], .slice none 0 0, .int .i64 0, .int .i64 0], []⟩ 8 (by kernel_rfl) (by kernel_rfl) (by kernel_rfl) (by kernel_rfl)) ?_
  intro W base args ds gs before hval0 hW hcnd _
  have hval : ∀ (j : Nat) t v, Try.f5.params[j]? = some t → args[j]? = some v → Value.okWide Try.prog W .any base t v := hval0
  have hW' := hW
  obtain ⟨p, q, hA0, hV, rfl, hfz, hnd⟩ := hW
  have hA : DataW.TrodAll enc Try.prog W 0 (fun _ => true) true Try.f5.params.toList args.toList ds p := hA0
  have hA1 := hA
  rw [Try.params5] at hA hval
  obtain ⟨v0, vs0, d0, ds0, p0, q0, hargs, rfl, rfl, h0, r0⟩ := trodAll_cons hA
  obtain ⟨v1, vs1, d1, ds1, p1, q1, rfl, rfl, rfl, h1, r1⟩ := trodAll_cons r0
  obtain ⟨v2, vs2, d2, ds2, p2, q2, rfl, rfl, rfl, h2, r2⟩ := trodAll_cons r1
  obtain ⟨v3, vs3, d3, ds3, p3, q3, rfl, rfl, rfl, h3, r3⟩ := trodAll_cons r2
  obtain ⟨rfl, rfl, rfl⟩ := trodAll_nil r3
  obtain rfl : args = #[v0, v1, v2, v3] := by cases args; simp_all
  obtain ⟨rfl, rfl⟩ := trodVars_none hV
  obtain ⟨a0, rfl, w0⟩ := open_snp (hval 0 23 v0 rfl rfl) h0
  obtain ⟨A1, c1, a1, rfl, w1, x1⟩ := open_ents (hval 1 24 v1 rfl rfl) h1
  obtain ⟨a2, rfl, rfl, rfl, w2⟩ := open_int Try.underlying3 (hval 2 3 v2 rfl rfl) h2
  obtain ⟨a3, rfl, rfl, rfl, w3⟩ := open_int Try.underlying3 (hval 3 3 v3 rfl rfl) h3
  clear hA0 hval0
  simp only [List.append_nil] at hW'
  try simp only [List.append_nil] at hA1
  refine (walk W a0 w0 A1 c1 a1 w1 x1 a2 w2 a3 w3).mono fun e W' ⟨he, hg⟩ => ?_
  subst he
  exact ⟨_, rfl, law_end Try.laidOut (by kernel_rfl) hW' hA1 hg rfl rfl rfl (trodAll_mk1 (shut_bool Try.underlying4 _))⟩

theorem over : Rows.logAgainRow.holds Try.pinned (OpenSpec.ofChange Rows.logAgainSpec) :=
  OpenClaim.holds_of_wide 5 Try.f5 rfl rfl rfl rfl rfl rfl rfl ⟨rfl, rfl, rfl, rfl, rfl⟩ rfl rfl rfl rfl rfl (by kernel_rfl) Try.func5 (by kernel_rfl)
    (of_decide_eq_true (by kernel_rfl)) (by unfold Func.isWrapper; first | (rw [if_pos (by decide +kernel)]; kernel_rfl) | (rw [if_neg (by decide +kernel)]; exact ⟨rfl, rfl⟩))
    (fun os started H enc _ => lifted os started H enc)

/-- the statement -/
theorem proved : Rows.LogAgainSaid := over
#print axioms proved
end Go.Proofs.Ytmmlkfkepncpgaa.logAgain
