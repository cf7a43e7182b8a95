/-
  No votes.
-/
import Derived.Test.YtoekiencnbgmhaaRows
import Derived.Test.YtoekiencnbgmhaaV14Begun
import Derived.Test.YtoekiencnbgmhaaL14Open
import Derived.Test.YtoekiencnbgmhaaLawKit
import Derived.WalkKit
import Derived.ProofKit
import Derived.OpenShut
import Derived.ShutString
namespace Go.Proofs.Ytoekiencnbgmhaa.voteNone
open Go.ChangeShapes Go.WideShapes Go.ChangeAt Go.RowKit
open Go.ChangeMaps (open_string shut_string)
set_option linter.unusedVariables false

theorem own : ownKnob Try.prog.godebug = none := by kernel_rfl

set_option maxRecDepth 100000 in
set_option maxHeartbeats 8000000 in
theorem walk (w : World)  :
    Calls Try.prog 5 #[] w fun e w' => e = .returned (.bool true) ∧ Below w.heap.size w w' := by
  go_enter Try.func5, Try.ntmps5
  go_wp2_with fail
  refine (vnew_n (L := []) (Ints.nil _ _) rfl (by decide) (M := []) (by decide +kernel)).mono ?_
  rintro e k1 ⟨g, v, rfl, hv, hb⟩
  have HV := Lib.hid hv
  have HB1 := Lib.hid hb
  clear hv hb
  go_wp2_with fail
  refine (begun14_any _).mono ?_
  rintro e k2 ⟨rfl, hb⟩
  have HB2 := Lib.hid (HB1.out.trans (hb.mono HB1.out.size))
  replace HV := Lib.hid (HV.out.below hb)
  clear hb
  go_wp2_with fail
  refine (nyes14 _ 1).mono ?_
  rintro e k3 ⟨rfl, hb⟩
  have HB3 := Lib.hid (HB2.out.trans (hb.mono HB2.out.size))
  replace HV := Lib.hid (HV.out.below hb)
  clear hb
  go_wp2_with fail
  refine (nno14 _ 1).mono ?_
  rintro e k4 ⟨rfl, hb⟩
  have HB4 := Lib.hid (HB3.out.trans (hb.mono HB3.out.size))
  replace HV := Lib.hid (HV.out.below hb)
  clear hb
  go_wp2_with fail
  refine (nwon14 _).mono ?_
  rintro e k5 ⟨rfl, hb⟩
  have HB5 := Lib.hid (HB4.out.trans (hb.mono HB4.out.size))
  replace HV := Lib.hid (HV.out.below hb)
  clear hb
  go_wp2_with fail
  refine (nlost14 _).mono ?_
  rintro e k6 ⟨rfl, hb⟩
  have HB6 := Lib.hid (HB5.out.trans (hb.mono HB5.out.size))
  replace HV := Lib.hid (HV.out.below hb)
  clear hb
  go_wp2_with fail
  refine (vyes_n HV.out 1 (b := false) (s' := fun _ => 0) (by decide +kernel) rfl).mono ?_
  rintro e k7 ⟨rfl, hv, _, hb⟩
  have HB7 := Lib.hid (HB6.out.trans hb)
  replace HV := Lib.hid hv
  clear hv hb
  go_wp2_with fail
  refine (vwon_n HV.out (b := false) (by decide +kernel)).mono ?_
  rintro e k8 ⟨rfl, hv, hb⟩
  have HB8 := Lib.hid (HB7.out.trans (hb.mono HB7.out.size))
  replace HV := Lib.hid hv
  clear hv hb
  go_wp2_with fail
  refine (vlost_n HV.out (b := false) (by decide +kernel)).mono ?_
  rintro e k9 ⟨rfl, hv, hb⟩
  have HB9 := Lib.hid (HB8.out.trans (hb.mono HB8.out.size))
  replace HV := Lib.hid hv
  clear hv hb
  go_wp2
  go_ret
  exact ⟨rfl, HB9.out⟩

set_option maxRecDepth 100000 in
theorem lifted (os : Os) (started : os.Started) (H : Type) (enc : TypeId × Value → H) :
    ReturnsInHanded {} Try.checked os 5 .any (Rows.voteNoneSpec.pre6 enc Try.prog Try.f5 Rows.voteNoneRow.domain false) (Rows.voteNoneSpec.post enc Try.prog Try.f5 false true false false) := by
  refine returnsInHanded_of_change (C := Try.checked) own started (by kernel_rfl) Try.func5
    (ChangeSpec.witness6 (enc := enc) (C := Try.checked) false ⟨#[], #[], []⟩ 8 (by kernel_rfl) (by kernel_rfl) (by kernel_rfl) (by kernel_rfl)) ?_
  intro W base args ds gs before hval0 hW hcnd _
  have hval : ∀ (j : Nat) t v, Try.f5.params[j]? = some t → args[j]? = some v → Value.okWide Try.prog W .any base t v := hval0
  have hW' := hW
  obtain ⟨p, q, hA0, hV, rfl, hfz, hnd⟩ := hW
  have hA : DataW.TrodAll enc Try.prog W 0 (fun _ => true) true Try.f5.params.toList args.toList ds p := hA0
  have hA1 := hA
  rw [Try.params5] at hA hval
  obtain ⟨hargs, rfl, rfl⟩ := trodAll_nil hA
  obtain rfl : args = #[] := by cases args; simp_all
  obtain ⟨rfl, rfl⟩ := trodVars_none hV
  clear hA0 hval0
  simp only [List.append_nil] at hW'
  try simp only [List.append_nil] at hA1
  refine (walk W ).mono fun e W' ⟨he, hg⟩ => ?_
  subst he
  exact ⟨_, rfl, law_end Try.laidOut (by kernel_rfl) hW' hA1 hg rfl rfl rfl (trodAll_mk1 (shut_bool Try.underlying4 _))⟩

theorem over : Rows.voteNoneRow.holds Try.pinned (OpenSpec.ofChange Rows.voteNoneSpec) :=
  OpenClaim.holds_of_wide 5 Try.f5 rfl rfl rfl rfl rfl rfl rfl ⟨rfl, rfl, rfl, rfl, rfl⟩ rfl rfl rfl rfl rfl (by kernel_rfl) Try.func5 (by kernel_rfl)
    (of_decide_eq_true (by kernel_rfl)) (by unfold Func.isWrapper; first | (rw [if_pos (by decide +kernel)]; kernel_rfl) | (rw [if_neg (by decide +kernel)]; exact ⟨rfl, rfl⟩))
    (fun os started H enc _ => lifted os started H enc)

/-- the statement -/
theorem proved : Rows.VoteNoneSaid := over
#print axioms proved
end Go.Proofs.Ytoekiencnbgmhaa.voteNone
