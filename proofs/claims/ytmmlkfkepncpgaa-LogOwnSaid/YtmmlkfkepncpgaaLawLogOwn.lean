/-
  LogOwn: what is told is a copy. It is true for all arguments.
-/
import Derived.Test.YtmmlkfkepncpgaaRows
import Derived.Test.YtmmlkfkepncpgaaBun2
import Derived.Test.YtmmlkfkepncpgaaBun1
import Derived.WalkKit
import Derived.ProofKit
import Derived.OpenShut
import Derived.ShutString
namespace Go.Proofs.Ytmmlkfkepncpgaa.logOwn
open Go.ChangeShapes Go.WideShapes Go.ChangeAt Go.RowKit
open Go.ChangeMaps (open_string shut_string)
set_option linter.unusedVariables false

theorem own : ownKnob Try.prog.godebug = none := by kernel_rfl

set_option maxRecDepth 100000 in
set_option maxHeartbeats 8000000 in
theorem walk (w : World) (a0 : Snp) (w0 : a0.fit) (A1 : Option Addr) (c1 : Nat) (a1 : List Ent) (w1 : Ens (fun j => j < w.heap.size) w (.slice A1 a1.length c1) a1) (x1 : ∀ x ∈ a1, x.fit) :
    Calls Try.prog 8 #[a0.val, .slice A1 a1.length c1] w fun e w' => e = .returned (.bool true) ∧ Below w.heap.size w w' := by
  obtain ⟨ix, st, cf, dt⟩ := a0
  obtain ⟨f1, f2, f3, f4⟩ := w0
  simp only at f1 f2 f3 f4
  obtain ⟨cf2, hcf⟩ : ∃ x, cutS cf 60 = x := ⟨_, rfl⟩
  obtain ⟨dt2, hdt⟩ : ∃ x, cutS dt 100 = x := ⟨_, rfl⟩
  have hcs : cf2.size ≤ 100000 := by rw [← hcf]; exact Nat.le_trans (cutS_size _ _) (by decide)
  have hds : dt2.size ≤ 100000 := by rw [← hdt]; exact Nat.le_trans (cutS_size _ _) (by decide)
  have HC := Lib.hid (And.intro hcf hdt)
  have HS := Lib.hid (And.intro hcs hds)
  have HI := Lib.hid f1
  have hfit := cutEnts_fit (q := 12) (fun e he => (x1 e he).1)
  have hsh := cutEnts_short a1 12
  obtain ⟨M, hM⟩ : ∃ M, (a1.take 12).map cutEnt = M := ⟨_, rfl⟩
  rw [hM] at hfit hsh
  have HF := Lib.hid hfit
  have HSH := Lib.hid hsh
  have HM := Lib.hid hM
  have HA := Lib.hid w1
  obtain ⟨m0, hm0⟩ : ∃ m0, a1.length = m0 := ⟨_, rfl⟩
  rw [hm0] at HA ⊢
  show Calls _ _ #[.agg #[.int .i64 ix, .int .i64 st, .string cf, .string dt], .slice A1 m0 c1] w _
  clear hcf hdt hcs hds f1 f2 f3 f4 hfit hsh hM w1 x1 hm0
  obtain ⟨b0, hb0⟩ : ∃ b0, w.heap.size = b0 := ⟨_, rfl⟩
  obtain ⟨k0, hk0⟩ : ∃ k0, w.alloc (.cells #[.int .i64 ix, .int .i64 st, .string cf, .string dt] 23) = k0 := ⟨_, rfl⟩
  have hx : Rt k0 b0 23 [.int .i64 ix, .int .i64 st, .string cf, .string dt] := by rw [← hk0, ← hb0]; exact Rt.new _ _ _
  have hb : Below w.heap.size w k0 := by rw [← hk0]; exact below_new _ _
  go_enter Try.func8, Try.ntmps8
  go_wp2_with fail
  refine (begun13_any k0).mono ?_
  rintro e k1 ⟨rfl, h⟩
  have HX := Lib.hid (hx.below h)
  have HB := Lib.hid (hb.trans (h.mono hb.size))
  clear hx hb h hk0
  have d0 := HX.out.cell (j := 0) rfl
  have d1 := HX.out.cell (j := 1) rfl
  have d2 := HX.out.cell (j := 2) rfl
  have d3 := HX.out.cell (j := 3) rfl
  go_wp2_with fail
  refine (snap13_any ix st cf dt cf2 dt2 _ HC.out.1 HC.out.2).mono ?_
  rintro e k2 ⟨rfl, h⟩
  have HX2 := Lib.hid (HX.out.below h)
  have HB2 := Lib.hid (HB.out.trans (h.mono HB.out.size))
  clear h d0 d1 d2 d3 HX HB
  go_wp2_with fail
  refine (ents13_any _ A1 m0 c1 12 a1 _ (HA.out.under HB2.out (Nat.le_refl _)) (by decide)).mono ?_
  rintro e k3 ⟨v3, rfl, hO, h⟩
  rw [HM.out] at hO
  obtain ⟨A3, c3, rfl⟩ := hO.slice
  obtain ⟨m, hm⟩ : ∃ m, M.length = m := ⟨_, rfl⟩
  have HML := Lib.hid hm
  have hm12 : m ≤ 12 := by rw [← hm]; exact HSH.out
  rw [hm] at hO ⊢
  have hx3 := HX2.out.below h
  have hbk := Nat.lt_of_lt_of_le HX2.out.lt (Nat.le_refl _)
  have hB3 := HB2.out.trans (h.mono HB2.out.size)
  have d0 := hx3.cell (j := 0) rfl
  have d1 := hx3.cell (j := 1) rfl
  have d2 := hx3.cell (j := 2) rfl
  have d3 := hx3.cell (j := 3) rfl
  have f0 := hx3.frz 0
  have f1 := hx3.frz 1
  have f2 := hx3.frz 2
  have f3 := hx3.frz 3
  have hx4 := (((hx3.set 0 (.int .i64 ix)).set 1 (.int .i64 st)).set 2 (.string cf2)).set 3 (.string dt2)
  have hB4 : Below w.heap.size w ((((k3.setCell ⟨b0, 0, none⟩ (.int .i64 ix)).setCell ⟨b0, 1, none⟩ (.int .i64 st)).setCell ⟨b0, 2, none⟩ (.string cf2)).setCell ⟨b0, 3, none⟩ (.string dt2)) := ((((hB3.setCell (p := ⟨b0, 0, none⟩) (Nat.le_of_eq hb0) (.int .i64 ix)).setCell (p := ⟨b0, 1, none⟩) (Nat.le_of_eq hb0) (.int .i64 st)).setCell (p := ⟨b0, 2, none⟩) (Nat.le_of_eq hb0) (.string cf2)).setCell (p := ⟨b0, 3, none⟩) (Nat.le_of_eq hb0) (.string dt2))
  have ho : Off (fun j => j = b0) k3 ((((k3.setCell ⟨b0, 0, none⟩ (.int .i64 ix)).setCell ⟨b0, 1, none⟩ (.int .i64 st)).setCell ⟨b0, 2, none⟩ (.string cf2)).setCell ⟨b0, 3, none⟩ (.string dt2)) := Off.set (Off.set (Off.set (Off.set (Off.refl _ k3) (.inl rfl)) (.inl rfl)) (.inl rfl)) (.inl rfl)
  have hO4 := hO.off ho (fun j hj e => by subst e; have := (hO.lt j hj).1; omega)
  obtain ⟨k4, hk4⟩ : ∃ k4, (((k3.setCell ⟨b0, 0, none⟩ (.int .i64 ix)).setCell ⟨b0, 1, none⟩ (.int .i64 st)).setCell ⟨b0, 2, none⟩ (.string cf2)).setCell ⟨b0, 3, none⟩ (.string dt2) = k4 := ⟨_, rfl⟩
  rw [hk4] at hx4 hB4 hO4
  have HX4 := Lib.hid hx4
  have HB4 := Lib.hid hB4
  have HO4 := Lib.hid (hO4.down (Nat.le_trans HB2.out.size (Nat.le_refl _)))
  have HGE := Lib.hid (fun j hj => (hO4.lt j hj).1)
  have hbk2 : b0 < k2.heap.size := hbk
  have HK4 := Lib.hid hk4
  have e0 := hx4.cell (j := 0) rfl
  have e1 := hx4.cell (j := 1) rfl
  have e2 := hx4.cell (j := 2) rfl
  have e3 := hx4.cell (j := 3) rfl
  clear hO hO4 ho hx3 hx4 hB3 hB4 h hm HX2 hbk
  have hlen0 : ([] : List Ent).length + M.length ≤ 1050000 := by have := HSH.out; simp; omega
  go_wp2_with (at_builtin; refine wpList_append_en rfl _ _ rfl k4.heap.size _ (.slice none 0 0) (.slice A3 m c3) [] M rfl (OwnEn.nil _ _) rfl (Ens.of_own HO4.out) hlen0 (Nat.le_refl _) ?_; intro v5 k5 g1 g2 g3; (rw [List.nil_append] at g1); (obtain ⟨A5, c5, hv5⟩ := g1.slice); (rw [HML.out] at hv5); subst hv5; (have HO5 := Lib.hid g1); (have HB54 := Lib.hid g2); (have e0' := (g2.cell (p := ⟨b0, 0, none⟩) HX4.out.lt).trans e0); (have e1' := (g2.cell (p := ⟨b0, 1, none⟩) HX4.out.lt).trans e1); (have e2' := (g2.cell (p := ⟨b0, 2, none⟩) HX4.out.lt).trans e2); (have e3' := (g2.cell (p := ⟨b0, 3, none⟩) HX4.out.lt).trans e3); clear g1 g2 g3)
  have HB5 := Lib.hid (HB4.out.trans (HB54.out.mono HB4.out.size))
  have HL5 := Lib.hid (HO4.out.below HB54.out)
  obtain ⟨bn, hbn⟩ : ∃ bn, new13 ⟨ix, st, cf2, dt2⟩ M = bn := ⟨_, rfl⟩
  clear d0 d1 d2 d3 f0 f1 f2 f3 hk4 HK4 e0 e1 e2 e3
  refine (new_lk (fun j => j < k5.heap.size) ⟨ix, st, cf2, dt2⟩ A5 m c5 M k5 (fun _ h => h) ((Ens.of_own HO5.out).mono fun j hj hl => hl) (by rw [HML.out]; omega) HI.out HF.out HS.out.1 HS.out.2 bn hbn).mono ?_
  rintro e k6 ⟨hb6, ⟨rfl, rfl⟩ | ⟨rfl, g, rfl, hL6⟩⟩
  · have HB6 := Lib.hid (HB5.out.trans (hb6.mono HB5.out.size))
    clear hb6
    go_wp2
    go_ret
    exact ⟨rfl, HB6.out⟩
  have HK6 := Lib.hid hL6
  have HB6 := Lib.hid (HB5.out.trans (hb6.mono HB5.out.size))
  have HO6 := Lib.hid (HO5.out.below hb6)
  have HL6 := Lib.hid (HL5.out.below hb6)
  have HZ := Lib.hid (And.intro HB54.out.size hb6.size)
  have HLB := Lib.hid (fun j hj => (HO4.out.lt j hj).2)
  have HLT := Lib.hid (fun j hj => (HO5.out.lt j hj).2)
  have HBS := Lib.hid HB4.out.size
  clear hb6 hL6 HO5 HL5 HB54 HO4 HB4 HX4 e0' e1' e2' e3' hbn HA HM HC HB2
  go_wp2_with fail
  go_loopw [8] (fun i wr => ∃ k : Nat, i = .int .i64 k ∧ k ≤ m ∧ (∃ M', OwnEn k4.heap.size (.slice A5 m c5) M' wr ∧ M'.length = m) ∧ LK (fun j => j < k5.heap.size) 200 wr g ⟨⟨ix, st, cf2, dt2⟩, M⟩ ∧ OwnEn w.heap.size (.slice A3 m c3) M wr ∧ Below w.heap.size w wr ∧ k6.heap.size ≤ wr.heap.size) (fun i _ => m - (intOf i).toNat)
  case atStart => exact ⟨0, rfl, Nat.zero_le _, ⟨M, HO6.out, HML.out⟩, HK6.out, HL6.out, HB6.out, Nat.le_refl _⟩
  case round =>
    obtain ⟨k, rfl, hk, ⟨M', hO, hM'⟩, hK, hL, hb, hz⟩ := hrel
    by_cases hkm : k < m
    · have hkmi : (k : Int) < (m : Int) := by omega
      have hkM : k < M'.length := by omega
      obtain ⟨a, rfl, ha1, ha2, ha3, ha4⟩ := hO.addr13 (by omega)
      have hcl := hO.cells
      have fz := hcl.2 (k * 4 + 2)
      obtain ⟨u, hu⟩ := Option.isSome_iff_exists.1 (hcl.1 (k * 4 + 2) (by omega))
      have hO2 := hO.set_kind hkM (-3)
      have hK2 := hK.set (p := ⟨a, k * 4 + 2, none⟩) (.int .i64 (-3)) (HLT.out a rfl) rfl
      have hL2 := hL.off (S := fun j => j = a) (show Off (fun j => j = a) wr (wr.setCell ⟨a, k * 4 + 2, none⟩ (.int .i64 (-3))) from (Off.refl _ wr).set (.inl rfl)) (fun j hj e => by subst e; have h1 := HLB.out j hj; have h2 := HZ.out; omega)
      have hb2 := hb.setCell (p := ⟨a, k * 4 + 2, none⟩) (show w.heap.size ≤ a by have h2 := HZ.out; have h3 := HBS.out; omega) (.int .i64 (-3))
      have HO2 := Lib.hid hO2
      have HK2 := Lib.hid hK2
      have HL2 := Lib.hid hL2
      have HB2 := Lib.hid hb2
      have HM2 := Lib.hid hM'
      clear hO hK hL hb hO2 hK2 hL2 hb2 hM' hcl
      go_wp2
      go_roundw
      case rel => exact ⟨k + 1, by go_num, by omega, ⟨_, HO2.out, by rw [List.length_set]; exact HM2.out⟩, HK2.out, HL2.out, HB2.out, by simpa [World.setCell] using hz⟩
      case measure => first | (simp [intOf]; omega) | (simp [intOf]; done)
    · have hnk : ¬ (k : Int) < (m : Int) := by omega
      have HK7 := Lib.hid hK
      have HL7 := Lib.hid hL
      have HB7 := Lib.hid hb
      have HZ7 := Lib.hid hz
      clear hO hK hL hb hM' hz
      go_wp2_with fail
      refine (first_lk HK7.out (by decide) (ix + 1) rfl).mono ?_
      rintro e k8 ⟨rfl, h⟩
      have HK8 := Lib.hid (HK7.out.below h)
      have HL8 := Lib.hid (HL7.out.below h)
      have HB8 := Lib.hid (HB7.out.trans (h.mono HB7.out.size))
      have hz8 := Nat.le_trans HZ7.out h.size
      clear h HK7 HL7 HB7
      have hgm : get13 ⟨⟨ix, st, cf2, dt2⟩, M⟩ (ix + 1) 20 = M := by
        rw [get13_all ⟨⟨ix, st, cf2, dt2⟩, M⟩ 20]
        exact List.take_of_length_le (by have := HSH.out; show M.length ≤ 20; omega)
      have HG := Lib.hid hgm
      clear hgm
      go_wp2_with fail
      refine (get_lk HK8.out (by decide) (ix + 1) 20 (by decide) M HG.out).mono ?_
      rintro e kx ⟨Ax, cx, rfl, hO, h⟩
      rw [HML.out] at hO ⊢
      have HOx := Lib.hid hO
      have HKx := Lib.hid (HK8.out.others h)
      have HLx := Lib.hid (HL8.out.below h)
      have HBx := Lib.hid (HB8.out.trans (h.mono HB8.out.size))
      have HZx := Lib.hid (And.intro h.size hz8)
      have HOL := Lib.hid (fun j hj => (hO.lt j hj).2)
      clear h hO
      go_wp2_with fail
      go_loopw [10] (fun i wr => ∃ k : Nat, i = .int .i64 k ∧ k ≤ m ∧ (∃ M', OwnEn k8.heap.size (.slice Ax m cx) M' wr ∧ M'.length = m) ∧ LK (Nw (fun j => j < k5.heap.size) k8 kx) 200 wr g ⟨⟨ix, st, cf2, dt2⟩, M⟩ ∧ OwnEn w.heap.size (.slice A3 m c3) M wr ∧ Below w.heap.size w wr ∧ kx.heap.size ≤ wr.heap.size) (fun i _ => m - (intOf i).toNat)
      case atStart => exact ⟨0, rfl, Nat.zero_le _, ⟨M, HOx.out, HML.out⟩, HKx.out, HLx.out, HBx.out, Nat.le_refl _⟩
      case round =>
        obtain ⟨k, rfl, hk, ⟨M', hO, hM'⟩, hK, hL, hb, hz⟩ := hrel
        by_cases hkm : k < m
        · have hkmi : (k : Int) < (m : Int) := by omega
          have hkM : k < M'.length := by omega
          obtain ⟨a, rfl, ha1, ha2, ha3, ha4⟩ := hO.addr13 (by omega)
          have hcl := hO.cells
          have fz := hcl.2 (k * 4 + 2)
          obtain ⟨u, hu⟩ := Option.isSome_iff_exists.1 (hcl.1 (k * 4 + 2) (by omega))
          have hO2 := hO.set_kind hkM (-4)
          have hK2 := hK.set (p := ⟨a, k * 4 + 2, none⟩) (.int .i64 (-4)) (.inr ⟨ha1, HOL.out a rfl⟩) rfl
          have hL2 := hL.off (S := fun j => j = a) (show Off (fun j => j = a) wr (wr.setCell ⟨a, k * 4 + 2, none⟩ (.int .i64 (-4))) from (Off.refl _ wr).set (.inl rfl)) (fun j hj e => by subst e; have h1 := HLB.out j hj; have h2 := HZ.out; have h4 := HZx.out; omega)
          have hb2 := hb.setCell (p := ⟨a, k * 4 + 2, none⟩) (show w.heap.size ≤ a by have h2 := HZ.out; have h4 := HZx.out; have h3 := HBS.out; omega) (.int .i64 (-4))
          have HO2 := Lib.hid hO2
          have HK2 := Lib.hid hK2
          have HL2 := Lib.hid hL2
          have HB2 := Lib.hid hb2
          have HM2 := Lib.hid hM'
          clear hO hK hL hb hO2 hK2 hL2 hb2 hM' hcl
          go_wp2
          go_roundw
          case rel => exact ⟨k + 1, by go_num, by omega, ⟨_, HO2.out, by rw [List.length_set]; exact HM2.out⟩, HK2.out, HL2.out, HB2.out, by simpa [World.setCell] using hz⟩
          case measure => first | (simp [intOf]; omega) | (simp [intOf]; done)
        · have hnk : ¬ (k : Int) < (m : Int) := by omega
          have HK9 := Lib.hid hK
          have HL9 := Lib.hid hL
          have HB9 := Lib.hid hb
          have HZ9 := Lib.hid hz
          clear hO hK hL hb hM' hz
          go_wp2_with fail
          refine (first_lk HK9.out (by decide) (ix + 1) rfl).mono ?_
          rintro e k10 ⟨rfl, h⟩
          have HKA := Lib.hid (HK9.out.below h)
          have HLA := Lib.hid (HL9.out.below h)
          have HBA := Lib.hid (HB9.out.trans (h.mono HB9.out.size))
          clear h HK9 HL9 HB9
          go_wp2_with fail
          refine (get_lk HKA.out (by decide) (ix + 1) 20 (by decide) M HG.out).mono ?_
          rintro e k11 ⟨Ay, cy, rfl, hO, h⟩
          rw [HML.out] at hO ⊢
          have HEY := Lib.hid (Ens.of_own hO)
          have HEL := Lib.hid (Ens.of_own (HLA.out.below h))
          have HBB := Lib.hid (HBA.out.trans (h.mono HBA.out.size))
          clear h hO
          have hE := reqEnts_any _ _ Ay A3 cy c3 M M k11 (by rw [HML.out]; exact HEY.out) (by rw [HML.out]; exact HEL.out) (by rw [HML.out]; omega)
          rw [HML.out, eqEs11_self] at hE
          have HQ := Lib.hid hE
          clear hE
          go_wp2_with fail
          refine HQ.out.mono ?_
          rintro e k12 ⟨rfl, h⟩
          have HBC := HBB.out.trans (h.mono HBB.out.size)
          go_wp2
          go_ret
          exact ⟨rfl, HBC⟩

set_option maxRecDepth 100000 in
theorem lifted (os : Os) (started : os.Started) (H : Type) (enc : TypeId × Value → H) :
    ReturnsInHanded {} Try.checked os 8 .any (Rows.logOwnSpec.pre6 enc Try.prog Try.f8 Rows.logOwnRow.domain false) (Rows.logOwnSpec.post enc Try.prog Try.f8 false true false false) := by
  refine returnsInHanded_of_change (C := Try.checked) own started (by kernel_rfl) Try.func8
    (ChangeSpec.witness6 (enc := enc) (C := Try.checked) false ⟨#[], #[.agg #[.int .i64 0, .int .i64 0, .string ByteArray.empty, .string ByteArray.empty], .slice none 0 0], []⟩ 8 (by kernel_rfl) (by kernel_rfl) (by kernel_rfl) (by kernel_rfl)) ?_
  intro W base args ds gs before hval0 hW hcnd _
  have hval : ∀ (j : Nat) t v, Try.f8.params[j]? = some t → args[j]? = some v → Value.okWide Try.prog W .any base t v := hval0
  have hW' := hW
  obtain ⟨p, q, hA0, hV, rfl, hfz, hnd⟩ := hW
  have hA : DataW.TrodAll enc Try.prog W 0 (fun _ => true) true Try.f8.params.toList args.toList ds p := hA0
  have hA1 := hA
  rw [Try.params8] at hA hval
  obtain ⟨v0, vs0, d0, ds0, p0, q0, hargs, rfl, rfl, h0, r0⟩ := trodAll_cons hA
  obtain ⟨v1, vs1, d1, ds1, p1, q1, rfl, rfl, rfl, h1, r1⟩ := trodAll_cons r0
  obtain ⟨rfl, rfl, rfl⟩ := trodAll_nil r1
  obtain rfl : args = #[v0, v1] := by cases args; simp_all
  obtain ⟨rfl, rfl⟩ := trodVars_none hV
  obtain ⟨a0, rfl, w0⟩ := open_snp (hval 0 23 v0 rfl rfl) h0
  obtain ⟨A1, c1, a1, rfl, w1, x1⟩ := open_ents (hval 1 24 v1 rfl rfl) h1
  clear hA0 hval0
  simp only [List.append_nil] at hW'
  try simp only [List.append_nil] at hA1
  refine (walk W a0 w0 A1 c1 a1 w1 x1).mono fun e W' ⟨he, hg⟩ => ?_
  subst he
  exact ⟨_, rfl, law_end Try.laidOut (by kernel_rfl) hW' hA1 hg rfl rfl rfl (trodAll_mk1 (shut_bool Try.underlying4 _))⟩

theorem over : Rows.logOwnRow.holds Try.pinned (OpenSpec.ofChange Rows.logOwnSpec) :=
  OpenClaim.holds_of_wide 8 Try.f8 rfl rfl rfl rfl rfl rfl rfl ⟨rfl, rfl, rfl, rfl, rfl⟩ rfl rfl rfl rfl rfl (by kernel_rfl) Try.func8 (by kernel_rfl)
    (of_decide_eq_true (by kernel_rfl)) (by unfold Func.isWrapper; first | (rw [if_pos (by decide +kernel)]; kernel_rfl) | (rw [if_neg (by decide +kernel)]; exact ⟨rfl, rfl⟩))
    (fun os started H enc _ => lifted os started H enc)

/-- the statement -/
theorem proved : Rows.LogOwnSaid := over
#print axioms proved
end Go.Proofs.Ytmmlkfkepncpgaa.logOwn
