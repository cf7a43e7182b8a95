/-
  Which servers may belong, written and read, with one more or less.
-/
import Derived.Test.YtbiecoifeeikpaaRows
import Derived.Test.YtbiecoifeeikpaaL12Kit
import Derived.Test.YtbiecoifeeikpaaLawKit
import Derived.WalkKit
import Derived.ProofKit
import Derived.OpenShut
import Derived.ShutString
namespace Go.Proofs.Ytbiecoifeeikpaa.confAll
open Go.ChangeShapes Go.WideShapes Go.ChangeAt Go.RowKit
open Go.ChangeMaps (open_string shut_string)
set_option linter.unusedVariables false

theorem own : ownKnob Try.prog.godebug = none := by kernel_rfl

set_option maxRecDepth 100000 in
set_option maxHeartbeats 8000000 in
theorem walk (w : World) (A0 : Option Addr) (c0 : Nat) (a0 : List Int) (w0 : Ints w w.heap.size (.slice A0 a0.length c0) a0) (x0 : ∀ x ∈ a0, I64 x) (a1 : Int) (w1 : (Lit.int .i64 a1).wf = true) (a2 : ByteArray) (w2 : a2.size ≤ maxLen) :
    Calls Try.prog 3 #[.slice A0 a0.length c0, .int .i64 a1, .string a2] w fun e w' => e = .returned (.bool true) ∧ Below w.heap.size w w' := by
  have hln : (a0.take 12).length ≤ 12 := List.length_take_le _ _
  obtain ⟨L, hL⟩ : ∃ L, a0.take 12 = L := ⟨_, rfl⟩
  rw [hL] at hln
  obtain ⟨n, hn⟩ : ∃ n, L.length = n := ⟨_, rfl⟩
  rw [hn] at hln
  obtain ⟨S, hS⟩ : ∃ S, cutS a2 12 = S := ⟨_, rfl⟩
  have hSl : S.size ≤ 12 := by rw [← hS]; exact cutS_size _ _
  have hlc := fun W => lcut_to a2 S 12 W (by decide) hS
  obtain ⟨R1, b1, hr1⟩ : ∃ R b, change12 L a1 true = (R, b) := ⟨_, _, rfl⟩
  obtain ⟨R2, b2, hr2⟩ : ∃ R b, change12 L a1 false = (R, b) := ⟨_, _, rfl⟩
  obtain ⟨R3, b3, hr3⟩ : ∃ R b, optL (dec12 S) = (R, b) := ⟨_, _, rfl⟩
  have l1 := chg_len L a1 true hr1
  have l2 := chg_len L a1 false hr2
  have l3 := dec_len S hSl hr3
  have ha1 : optL (add12 L a1) = (R1, b1) := by rw [add_optL, hr1]
  obtain ⟨m1, hm1⟩ : ∃ m, R1.length = m := ⟨_, rfl⟩
  obtain ⟨m2, hm2⟩ : ∃ m, R2.length = m := ⟨_, rfl⟩
  obtain ⟨m3, hm3⟩ : ∃ m, R3.length = m := ⟨_, rfl⟩
  rw [hm1] at l1
  rw [hm2] at l2
  rw [hm3] at l3
  obtain ⟨bm, hbm⟩ : ∃ b, may12 L = b := ⟨_, rfl⟩
  obtain ⟨bh, hbh⟩ : ∃ b, L.contains a1 = b := ⟨_, rfl⟩
  obtain ⟨be, hbe⟩ : ∃ b, enc12 L = b := ⟨_, rfl⟩
  obtain ⟨m, hm⟩ : ∃ m, a0.length = m := ⟨_, rfl⟩
  rw [hm] at w0 ⊢
  have I0 := Lib.hid w0
  have HM := Lib.hid hm
  have HL := Lib.hid hL
  have HN := Lib.hid hn
  have HSL := Lib.hid (show S.size ≤ 1000000 by omega)
  have HSL2 := Lib.hid (show S.size ≤ 1000 by omega)
  have HLC := Lib.hid hlc
  have HA1 := Lib.hid ha1
  have HR1 := Lib.hid hr1
  have HR2 := Lib.hid hr2
  have HR3 := Lib.hid hr3
  have HM1 := Lib.hid hm1
  have HM2 := Lib.hid hm2
  have HM3 := Lib.hid hm3
  have HBM := Lib.hid hbm
  have HBH := Lib.hid hbh
  have HBE := Lib.hid hbe
  clear w0 w1 w2 x0 hm hL hn hSl hlc ha1 hr1 hr2 hr3 hm1 hm2 hm3 hbm hbh hbe hS
  cases b2 with
  | true =>
    go_enter Try.func3, Try.ntmps3
    go_wp2_with fail
    refine (begun12_any _).mono ?_
    rintro e k1 ⟨rfl, hbk1⟩
    replace I0 := Lib.hid (I0.out.nxt hbk1)
    have HB1 := Lib.hid (hbk1)
    clear hbk1
    go_wp2_with fail
    refine (cut_n I0.out HM.out HL.out HN.out).mono ?_
    rintro e w' ⟨⟨rfl, hi0⟩, rfl⟩
    have IL := Lib.hid hi0
    clear hi0 I0
    go_wp2_with fail
    refine (HLC.out _).mono ?_
    rintro e w' ⟨rfl, rfl⟩
    go_wp2_with fail
    refine (addp_n a1 IL.out HN.out (by omega) HA1.out HM1.out).mono ?_
    rintro e k2 ⟨hbk2, A2, c2, rfl, hi2⟩
    replace IL := Lib.hid (IL.out.nxt hbk2)
    have HB2 := Lib.hid (HB1.out.trans (hbk2.mono HB1.out.size))
    clear hbk2
    have IA := Lib.hid hi2
    clear hi2
    go_wp2_with fail
    refine (rchgp_n a1 true IL.out HN.out (by omega) HR1.out HM1.out).mono ?_
    rintro e k3 ⟨hbk3, A3, c3, rfl, hi3⟩
    replace IL := Lib.hid (IL.out.nxt hbk3)
    replace IA := Lib.hid (IA.out.nxt hbk3)
    have HB3 := Lib.hid (HB2.out.trans (hbk3.mono HB2.out.size))
    clear hbk3
    have IB := Lib.hid hi3
    clear hi3
    go_wp2_with fail
    refine (remp_n a1 IL.out HN.out (by omega) (rem_optL_some HR2.out) HM2.out).mono ?_
    rintro e k4 ⟨hbk4, A4, c4, rfl, hi4⟩
    replace IL := Lib.hid (IL.out.nxt hbk4)
    replace IA := Lib.hid (IA.out.nxt hbk4)
    replace IB := Lib.hid (IB.out.nxt hbk4)
    have HB4 := Lib.hid (HB3.out.trans (hbk4.mono HB3.out.size))
    clear hbk4
    have IC := Lib.hid hi4
    clear hi4
    go_wp2_with fail
    refine (rchgp_n a1 false IL.out HN.out (by omega) HR2.out HM2.out).mono ?_
    rintro e k5 ⟨hbk5, A5, c5, rfl, hi5⟩
    replace IL := Lib.hid (IL.out.nxt hbk5)
    replace IA := Lib.hid (IA.out.nxt hbk5)
    replace IB := Lib.hid (IB.out.nxt hbk5)
    replace IC := Lib.hid (IC.out.nxt hbk5)
    have HB5 := Lib.hid (HB4.out.trans (hbk5.mono HB4.out.size))
    clear hbk5
    have ID := Lib.hid hi5
    clear hi5
    go_wp2_with fail
    refine (decp_n S HSL.out HR3.out HM3.out).mono ?_
    rintro e k6 ⟨hbk6, A6, c6, rfl, hi6⟩
    replace IL := Lib.hid (IL.out.nxt hbk6)
    replace IA := Lib.hid (IA.out.nxt hbk6)
    replace IB := Lib.hid (IB.out.nxt hbk6)
    replace IC := Lib.hid (IC.out.nxt hbk6)
    replace ID := Lib.hid (ID.out.nxt hbk6)
    have HB6 := Lib.hid (HB5.out.trans (hbk6.mono HB5.out.size))
    clear hbk6
    have IM := Lib.hid hi6
    clear hi6
    go_wp2_with fail
    refine (rdecp_n S HSL2.out HR3.out HM3.out).mono ?_
    rintro e k7 ⟨hbk7, A7, c7, rfl, hi7⟩
    replace IL := Lib.hid (IL.out.nxt hbk7)
    replace IA := Lib.hid (IA.out.nxt hbk7)
    replace IB := Lib.hid (IB.out.nxt hbk7)
    replace IC := Lib.hid (IC.out.nxt hbk7)
    replace ID := Lib.hid (ID.out.nxt hbk7)
    replace IM := Lib.hid (IM.out.nxt hbk7)
    have HB7 := Lib.hid (HB6.out.trans (hbk7.mono HB6.out.size))
    clear hbk7
    have IN := Lib.hid hi7
    clear hi7
    go_wp2_with fail
    refine (may_n IL.out HN.out (by omega) HBM.out).mono ?_
    rintro e w' ⟨rfl, rfl⟩
    go_wp2_with fail
    refine (rmay_n IL.out HN.out (by omega) HBM.out).mono ?_
    rintro e k8 ⟨rfl, hbk8⟩
    replace IL := Lib.hid (IL.out.nxt hbk8)
    replace IA := Lib.hid (IA.out.nxt hbk8)
    replace IB := Lib.hid (IB.out.nxt hbk8)
    replace IC := Lib.hid (IC.out.nxt hbk8)
    replace ID := Lib.hid (ID.out.nxt hbk8)
    replace IM := Lib.hid (IM.out.nxt hbk8)
    replace IN := Lib.hid (IN.out.nxt hbk8)
    have HB8 := Lib.hid (HB7.out.trans (hbk8.mono HB7.out.size))
    clear hbk8
    go_wp2_with fail
    refine (enc_n IL.out HN.out (by omega) HBE.out).mono ?_
    rintro e k9 ⟨rfl, hbk9⟩
    replace IL := Lib.hid (IL.out.nxt hbk9)
    replace IA := Lib.hid (IA.out.nxt hbk9)
    replace IB := Lib.hid (IB.out.nxt hbk9)
    replace IC := Lib.hid (IC.out.nxt hbk9)
    replace ID := Lib.hid (ID.out.nxt hbk9)
    replace IM := Lib.hid (IM.out.nxt hbk9)
    replace IN := Lib.hid (IN.out.nxt hbk9)
    have HB9 := Lib.hid (HB8.out.trans (hbk9.mono HB8.out.size))
    clear hbk9
    go_wp2_with fail
    refine (renc_n IL.out HN.out (by omega) HBE.out).mono ?_
    rintro e k10 ⟨rfl, hbk10⟩
    replace IL := Lib.hid (IL.out.nxt hbk10)
    replace IA := Lib.hid (IA.out.nxt hbk10)
    replace IB := Lib.hid (IB.out.nxt hbk10)
    replace IC := Lib.hid (IC.out.nxt hbk10)
    replace ID := Lib.hid (ID.out.nxt hbk10)
    replace IM := Lib.hid (IM.out.nxt hbk10)
    replace IN := Lib.hid (IN.out.nxt hbk10)
    have HB10 := Lib.hid (HB9.out.trans (hbk10.mono HB9.out.size))
    clear hbk10
    go_wp2_with fail
    refine (has_n a1 IL.out HN.out (by omega) HBH.out).mono ?_
    rintro e w' ⟨rfl, rfl⟩
    go_wp2_with fail
    refine (rhas_n a1 IL.out HN.out (by omega) HBH.out).mono ?_
    rintro e w' ⟨rfl, rfl⟩
    go_wp2_with fail
    refine (eq_n IA.out IB.out HM1.out HM1.out (by omega) (by omega) (b := true) (decide_eq_true rfl)).mono ?_
    rintro e k11 ⟨rfl, hbk11⟩
    replace IL := Lib.hid (IL.out.nxt hbk11)
    replace IA := Lib.hid (IA.out.nxt hbk11)
    replace IB := Lib.hid (IB.out.nxt hbk11)
    replace IC := Lib.hid (IC.out.nxt hbk11)
    replace ID := Lib.hid (ID.out.nxt hbk11)
    replace IM := Lib.hid (IM.out.nxt hbk11)
    replace IN := Lib.hid (IN.out.nxt hbk11)
    have HB11 := Lib.hid (HB10.out.trans (hbk11.mono HB10.out.size))
    clear hbk11
    go_wp2_with fail
    refine (eq_n IC.out ID.out HM2.out HM2.out (by omega) (by omega) (b := true) (decide_eq_true rfl)).mono ?_
    rintro e k12 ⟨rfl, hbk12⟩
    replace IL := Lib.hid (IL.out.nxt hbk12)
    replace IA := Lib.hid (IA.out.nxt hbk12)
    replace IB := Lib.hid (IB.out.nxt hbk12)
    replace IC := Lib.hid (IC.out.nxt hbk12)
    replace ID := Lib.hid (ID.out.nxt hbk12)
    replace IM := Lib.hid (IM.out.nxt hbk12)
    replace IN := Lib.hid (IN.out.nxt hbk12)
    have HB12 := Lib.hid (HB11.out.trans (hbk12.mono HB11.out.size))
    clear hbk12
    go_wp2_with fail
    refine (eq_n IM.out IN.out HM3.out HM3.out (by omega) (by omega) (b := true) (decide_eq_true rfl)).mono ?_
    rintro e k13 ⟨rfl, hbk13⟩
    replace IL := Lib.hid (IL.out.nxt hbk13)
    replace IA := Lib.hid (IA.out.nxt hbk13)
    replace IB := Lib.hid (IB.out.nxt hbk13)
    replace IC := Lib.hid (IC.out.nxt hbk13)
    replace ID := Lib.hid (ID.out.nxt hbk13)
    replace IM := Lib.hid (IM.out.nxt hbk13)
    replace IN := Lib.hid (IN.out.nxt hbk13)
    have HB13 := Lib.hid (HB12.out.trans (hbk13.mono HB12.out.size))
    clear hbk13
    go_wp2
    go_ret
    exact ⟨rfl, HB13.out⟩
  | false =>
    go_enter Try.func3, Try.ntmps3
    go_wp2_with fail
    refine (begun12_any _).mono ?_
    rintro e k1 ⟨rfl, hbk1⟩
    replace I0 := Lib.hid (I0.out.nxt hbk1)
    have HB1 := Lib.hid (hbk1)
    clear hbk1
    go_wp2_with fail
    refine (cut_n I0.out HM.out HL.out HN.out).mono ?_
    rintro e w' ⟨⟨rfl, hi0⟩, rfl⟩
    have IL := Lib.hid hi0
    clear hi0 I0
    go_wp2_with fail
    refine (HLC.out _).mono ?_
    rintro e w' ⟨rfl, rfl⟩
    go_wp2_with fail
    refine (addp_n a1 IL.out HN.out (by omega) HA1.out HM1.out).mono ?_
    rintro e k2 ⟨hbk2, A2, c2, rfl, hi2⟩
    replace IL := Lib.hid (IL.out.nxt hbk2)
    have HB2 := Lib.hid (HB1.out.trans (hbk2.mono HB1.out.size))
    clear hbk2
    have IA := Lib.hid hi2
    clear hi2
    go_wp2_with fail
    refine (rchgp_n a1 true IL.out HN.out (by omega) HR1.out HM1.out).mono ?_
    rintro e k3 ⟨hbk3, A3, c3, rfl, hi3⟩
    replace IL := Lib.hid (IL.out.nxt hbk3)
    replace IA := Lib.hid (IA.out.nxt hbk3)
    have HB3 := Lib.hid (HB2.out.trans (hbk3.mono HB2.out.size))
    clear hbk3
    have IB := Lib.hid hi3
    clear hi3
    go_wp2_with fail
    refine (remp_n a1 IL.out HN.out (by omega) (rem_optL_none HR2.out) (m := 0) rfl).mono ?_
    rintro e k4 ⟨hbk4, A4, c4, rfl, hi4⟩
    replace IL := Lib.hid (IL.out.nxt hbk4)
    replace IA := Lib.hid (IA.out.nxt hbk4)
    replace IB := Lib.hid (IB.out.nxt hbk4)
    have HB4 := Lib.hid (HB3.out.trans (hbk4.mono HB3.out.size))
    clear hbk4
    have IC := Lib.hid hi4
    clear hi4
    go_wp2_with fail
    refine (rchgp_n a1 false IL.out HN.out (by omega) HR2.out HM2.out).mono ?_
    rintro e k5 ⟨hbk5, A5, c5, rfl, hi5⟩
    replace IL := Lib.hid (IL.out.nxt hbk5)
    replace IA := Lib.hid (IA.out.nxt hbk5)
    replace IB := Lib.hid (IB.out.nxt hbk5)
    replace IC := Lib.hid (IC.out.nxt hbk5)
    have HB5 := Lib.hid (HB4.out.trans (hbk5.mono HB4.out.size))
    clear hbk5
    have ID := Lib.hid hi5
    clear hi5
    go_wp2_with fail
    refine (decp_n S HSL.out HR3.out HM3.out).mono ?_
    rintro e k6 ⟨hbk6, A6, c6, rfl, hi6⟩
    replace IL := Lib.hid (IL.out.nxt hbk6)
    replace IA := Lib.hid (IA.out.nxt hbk6)
    replace IB := Lib.hid (IB.out.nxt hbk6)
    replace IC := Lib.hid (IC.out.nxt hbk6)
    replace ID := Lib.hid (ID.out.nxt hbk6)
    have HB6 := Lib.hid (HB5.out.trans (hbk6.mono HB5.out.size))
    clear hbk6
    have IM := Lib.hid hi6
    clear hi6
    go_wp2_with fail
    refine (rdecp_n S HSL2.out HR3.out HM3.out).mono ?_
    rintro e k7 ⟨hbk7, A7, c7, rfl, hi7⟩
    replace IL := Lib.hid (IL.out.nxt hbk7)
    replace IA := Lib.hid (IA.out.nxt hbk7)
    replace IB := Lib.hid (IB.out.nxt hbk7)
    replace IC := Lib.hid (IC.out.nxt hbk7)
    replace ID := Lib.hid (ID.out.nxt hbk7)
    replace IM := Lib.hid (IM.out.nxt hbk7)
    have HB7 := Lib.hid (HB6.out.trans (hbk7.mono HB6.out.size))
    clear hbk7
    have IN := Lib.hid hi7
    clear hi7
    go_wp2_with fail
    refine (may_n IL.out HN.out (by omega) HBM.out).mono ?_
    rintro e w' ⟨rfl, rfl⟩
    go_wp2_with fail
    refine (rmay_n IL.out HN.out (by omega) HBM.out).mono ?_
    rintro e k8 ⟨rfl, hbk8⟩
    replace IL := Lib.hid (IL.out.nxt hbk8)
    replace IA := Lib.hid (IA.out.nxt hbk8)
    replace IB := Lib.hid (IB.out.nxt hbk8)
    replace IC := Lib.hid (IC.out.nxt hbk8)
    replace ID := Lib.hid (ID.out.nxt hbk8)
    replace IM := Lib.hid (IM.out.nxt hbk8)
    replace IN := Lib.hid (IN.out.nxt hbk8)
    have HB8 := Lib.hid (HB7.out.trans (hbk8.mono HB7.out.size))
    clear hbk8
    go_wp2_with fail
    refine (enc_n IL.out HN.out (by omega) HBE.out).mono ?_
    rintro e k9 ⟨rfl, hbk9⟩
    replace IL := Lib.hid (IL.out.nxt hbk9)
    replace IA := Lib.hid (IA.out.nxt hbk9)
    replace IB := Lib.hid (IB.out.nxt hbk9)
    replace IC := Lib.hid (IC.out.nxt hbk9)
    replace ID := Lib.hid (ID.out.nxt hbk9)
    replace IM := Lib.hid (IM.out.nxt hbk9)
    replace IN := Lib.hid (IN.out.nxt hbk9)
    have HB9 := Lib.hid (HB8.out.trans (hbk9.mono HB8.out.size))
    clear hbk9
    go_wp2_with fail
    refine (renc_n IL.out HN.out (by omega) HBE.out).mono ?_
    rintro e k10 ⟨rfl, hbk10⟩
    replace IL := Lib.hid (IL.out.nxt hbk10)
    replace IA := Lib.hid (IA.out.nxt hbk10)
    replace IB := Lib.hid (IB.out.nxt hbk10)
    replace IC := Lib.hid (IC.out.nxt hbk10)
    replace ID := Lib.hid (ID.out.nxt hbk10)
    replace IM := Lib.hid (IM.out.nxt hbk10)
    replace IN := Lib.hid (IN.out.nxt hbk10)
    have HB10 := Lib.hid (HB9.out.trans (hbk10.mono HB9.out.size))
    clear hbk10
    go_wp2_with fail
    refine (has_n a1 IL.out HN.out (by omega) HBH.out).mono ?_
    rintro e w' ⟨rfl, rfl⟩
    go_wp2_with fail
    refine (rhas_n a1 IL.out HN.out (by omega) HBH.out).mono ?_
    rintro e w' ⟨rfl, rfl⟩
    go_wp2_with fail
    refine (eq_n IA.out IB.out HM1.out HM1.out (by omega) (by omega) (b := true) (decide_eq_true rfl)).mono ?_
    rintro e k11 ⟨rfl, hbk11⟩
    replace IL := Lib.hid (IL.out.nxt hbk11)
    replace IA := Lib.hid (IA.out.nxt hbk11)
    replace IB := Lib.hid (IB.out.nxt hbk11)
    replace IC := Lib.hid (IC.out.nxt hbk11)
    replace ID := Lib.hid (ID.out.nxt hbk11)
    replace IM := Lib.hid (IM.out.nxt hbk11)
    replace IN := Lib.hid (IN.out.nxt hbk11)
    have HB11 := Lib.hid (HB10.out.trans (hbk11.mono HB10.out.size))
    clear hbk11
    go_wp2_with fail
    refine (eq_n IC.out (Ints.nil k11 k11.heap.size) rfl rfl (by omega) (by omega) (b := true) (decide_eq_true rfl)).mono ?_
    rintro e k12 ⟨rfl, hbk12⟩
    replace IL := Lib.hid (IL.out.nxt hbk12)
    replace IA := Lib.hid (IA.out.nxt hbk12)
    replace IB := Lib.hid (IB.out.nxt hbk12)
    replace IC := Lib.hid (IC.out.nxt hbk12)
    replace ID := Lib.hid (ID.out.nxt hbk12)
    replace IM := Lib.hid (IM.out.nxt hbk12)
    replace IN := Lib.hid (IN.out.nxt hbk12)
    have HB12 := Lib.hid (HB11.out.trans (hbk12.mono HB11.out.size))
    clear hbk12
    go_wp2_with fail
    refine (eq_n IM.out IN.out HM3.out HM3.out (by omega) (by omega) (b := true) (decide_eq_true rfl)).mono ?_
    rintro e k13 ⟨rfl, hbk13⟩
    replace IL := Lib.hid (IL.out.nxt hbk13)
    replace IA := Lib.hid (IA.out.nxt hbk13)
    replace IB := Lib.hid (IB.out.nxt hbk13)
    replace IC := Lib.hid (IC.out.nxt hbk13)
    replace ID := Lib.hid (ID.out.nxt hbk13)
    replace IM := Lib.hid (IM.out.nxt hbk13)
    replace IN := Lib.hid (IN.out.nxt hbk13)
    have HB13 := Lib.hid (HB12.out.trans (hbk13.mono HB12.out.size))
    clear hbk13
    go_wp2
    go_ret
    exact ⟨rfl, HB13.out⟩

set_option maxRecDepth 100000 in
theorem lifted (os : Os) (started : os.Started) (H : Type) (enc : TypeId × Value → H) :
    ReturnsInHanded {} Try.checked os 3 .any (Rows.confAllSpec.pre6 enc Try.prog Try.f3 Rows.confAllRow.domain false) (Rows.confAllSpec.post enc Try.prog Try.f3 false true false false) := by
  refine returnsInHanded_of_change (C := Try.checked) own started (by kernel_rfl) Try.func3
    (ChangeSpec.witness6 (enc := enc) (C := Try.checked) false ⟨#[], #[.slice none 0 0, .int .i64 0, .string ByteArray.empty], []⟩ 8 (by kernel_rfl) (by kernel_rfl) (by kernel_rfl) (by kernel_rfl)) ?_
  intro W base args ds gs before hval0 hW hcnd _
  have hval : ∀ (j : Nat) t v, Try.f3.params[j]? = some t → args[j]? = some v → Value.okWide Try.prog W .any base t v := hval0
  have hW' := hW
  obtain ⟨p, q, hA0, hV, rfl, hfz, hnd⟩ := hW
  have hA : DataW.TrodAll enc Try.prog W 0 (fun _ => true) true Try.f3.params.toList args.toList ds p := hA0
  have hA1 := hA
  rw [Try.params3] at hA hval
  obtain ⟨v0, vs0, d0, ds0, p0, q0, hargs, rfl, rfl, h0, r0⟩ := trodAll_cons hA
  obtain ⟨v1, vs1, d1, ds1, p1, q1, rfl, rfl, rfl, h1, r1⟩ := trodAll_cons r0
  obtain ⟨v2, vs2, d2, ds2, p2, q2, rfl, rfl, rfl, h2, r2⟩ := trodAll_cons r1
  obtain ⟨rfl, rfl, rfl⟩ := trodAll_nil r2
  obtain rfl : args = #[v0, v1, v2] := by cases args; simp_all
  obtain ⟨rfl, rfl⟩ := trodVars_none hV
  obtain ⟨A0, c0, a0, rfl, w0, x0⟩ := open_ints7 (hval 0 22 v0 rfl rfl) h0
  obtain ⟨a1, rfl, rfl, rfl, w1⟩ := open_int Try.underlying3 (hval 1 3 v1 rfl rfl) h1
  obtain ⟨a2, rfl, rfl, rfl, w2⟩ := open_string Try.underlying9 (hval 2 9 v2 rfl rfl) h2
  clear hA0 hval0
  simp only [List.append_nil] at hW'
  try simp only [List.append_nil] at hA1
  refine (walk W A0 c0 a0 w0 x0 a1 w1 a2 w2).mono fun e W' ⟨he, hg⟩ => ?_
  subst he
  exact ⟨_, rfl, law_end Try.laidOut (by kernel_rfl) hW' hA1 hg rfl rfl rfl (trodAll_mk1 (shut_bool Try.underlying4 _))⟩

theorem over : Rows.confAllRow.holds Try.pinned (OpenSpec.ofChange Rows.confAllSpec) :=
  OpenClaim.holds_of_wide 3 Try.f3 rfl rfl rfl rfl rfl rfl rfl ⟨rfl, rfl, rfl, rfl, rfl⟩ rfl rfl rfl rfl rfl (by kernel_rfl) Try.func3 (by kernel_rfl)
    (of_decide_eq_true (by kernel_rfl)) (by unfold Func.isWrapper; first | (rw [if_pos (by decide +kernel)]; kernel_rfl) | (rw [if_neg (by decide +kernel)]; exact ⟨rfl, rfl⟩))
    (fun os started H enc _ => lifted os started H enc)

/-- the statement -/
theorem proved : Rows.ConfAllSaid := over
#print axioms proved
end Go.Proofs.Ytbiecoifeeikpaa.confAll
