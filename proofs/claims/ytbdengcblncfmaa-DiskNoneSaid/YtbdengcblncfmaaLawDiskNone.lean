/-
  Where there is no disk each call answers that there is none; a file without a name may not be.
-/
import Derived.Test.YtbdengcblncfmaaRows
import Derived.Test.YtbdengcblncfmaaD9Begun
import Derived.Test.YtbdengcblncfmaaLawKit
import Derived.WalkKit
import Derived.ProofKit
import Derived.OpenShut
import Derived.ShutString
set_option linter.unusedSimpArgs false
set_option linter.unusedVariables false
namespace Go.Proofs.Ytbdengcblncfmaa.diskNone
open Go.ChangeShapes Go.WideShapes Go.ChangeAt Go.RowKit
open Go.ChangeMaps (open_string shut_string)
set_option linter.unusedVariables false

theorem own : ownKnob Try.prog.godebug = none := by kernel_rfl

set_option maxRecDepth 100000 in
set_option maxHeartbeats 8000000 in
theorem walk (w : World)  :
    Calls Try.prog 6 #[] w fun e w' => e = .returned (.bool true) ∧ Below w.heap.size w w' := by
  have hml : ((⟨#[97]⟩ : ByteArray).size ≤ maxLen) := by decide
  have HML := Lib.hid hml; clear hml
  go_enter Try.func6, Try.ntmps6
  go_wp2_with fail
  refine (read_nil _ _).mono ?_
  rintro e k_ ⟨rfl, rfl⟩
  go_wp2_with fail
  refine (begun9_any w).mono ?_
  rintro e k1 ⟨rfl, hb⟩
  have HB1 := Lib.hid hb
  clear hb
  go_wp2_with fail
  refine (app_nil _ _ _).mono ?_
  rintro e k_ ⟨rfl, rfl⟩
  go_wp2_with fail
  refine (sync_nil _ _).mono ?_
  rintro e k_ ⟨rfl, rfl⟩
  go_wp2_with fail
  refine (swap_nil _ _ _).mono ?_
  rintro e k_ ⟨rfl, rfl⟩
  go_wp2_with fail
  refine (names_nil _).mono ?_
  rintro e k_ ⟨rfl, rfl⟩
  go_wp2_with fail
  refine (loose_nil _ _).mono ?_
  rintro e k_ ⟨rfl, rfl⟩
  go_wp2_with fail
  refine (calls_nil _).mono ?_
  rintro e k_ ⟨rfl, rfl⟩
  go_wp2_with fail
  refine (crash_nil _ _).mono ?_
  rintro e k_ ⟨rfl, rfl⟩
  have ha : app9 ⟨#[]⟩ [] [] = (1, []) := by rfl
  have HA := Lib.hid ha
  clear ha
  have hm0 : ((⟨#[]⟩ : ByteArray).size ≤ maxLen) := by decide
  have HM0 := Lib.hid hm0; clear hm0
  go_wp2_with fail
  refine (new_dk _).mono ?_
  rintro e k2 ⟨rfl, hd, hb⟩
  have HD := Lib.hid hd
  have HZ := Lib.hid hb.size
  have HZ1 := Lib.hid HB1.out.size
  have HB2 := Lib.hid (HB1.out.trans (hb.mono HB1.out.size))
  clear hd hb HB1
  go_wp2_with fail
  refine (app_dk (bs := []) HD.out HZ.out HM0.out (by omega) (Nat.zero_le _) (byt_nil9 _ _) (Nat.zero_le _) _ HA.out).mono ?_
  rintro e k3 ⟨rfl, hd, hb⟩
  have HB3 := Lib.hid (HB2.out.trans (hb.mono HZ1.out))
  clear hd hb
  go_wp2
  go_ret
  exact ⟨rfl, HB3.out⟩

set_option maxRecDepth 100000 in
theorem lifted (os : Os) (started : os.Started) (H : Type) (enc : TypeId × Value → H) :
    ReturnsInHanded {} Try.checked os 6 .any (Rows.diskNoneSpec.pre6 enc Try.prog Try.f6 Rows.diskNoneRow.domain false) (Rows.diskNoneSpec.post enc Try.prog Try.f6 false true false false) := by
  refine returnsInHanded_of_change (C := Try.checked) own started (by kernel_rfl) Try.func6
    (ChangeSpec.witness6 (enc := enc) (C := Try.checked) false ⟨#[], #[], []⟩ 8 (by kernel_rfl) (by kernel_rfl) (by kernel_rfl) (by kernel_rfl)) ?_
  intro W base args ds gs before hval0 hW hcnd _
  have hval : ∀ (j : Nat) t v, Try.f6.params[j]? = some t → args[j]? = some v → Value.okWide Try.prog W .any base t v := hval0
  have hW' := hW
  obtain ⟨p, q, hA0, hV, rfl, hfz, hnd⟩ := hW
  have hA : DataW.TrodAll enc Try.prog W 0 (fun _ => true) true Try.f6.params.toList args.toList ds p := hA0
  have hA1 := hA
  rw [Try.params6] at hA hval
  obtain ⟨hargs, rfl, rfl⟩ := trodAll_nil hA
  obtain rfl : args = #[] := by cases args; simp_all
  obtain ⟨rfl, rfl⟩ := trodVars_none hV
  clear hA0 hval0
  simp only [List.append_nil] at hW'
  try simp only [List.append_nil] at hA1
  refine (walk W ).mono fun e W' ⟨he, hg⟩ => ?_
  subst he
  exact ⟨_, rfl, law_end Try.laidOut (by kernel_rfl) hW' hA1 hg rfl rfl rfl (trodAll_mk1 (shut_bool Try.underlying4 _))⟩

theorem over : Rows.diskNoneRow.holds Try.pinned (OpenSpec.ofChange Rows.diskNoneSpec) :=
  OpenClaim.holds_of_wide 6 Try.f6 rfl rfl rfl rfl rfl rfl rfl ⟨rfl, rfl, rfl, rfl, rfl⟩ rfl rfl rfl rfl rfl (by kernel_rfl) Try.func6 (by kernel_rfl)
    (of_decide_eq_true (by kernel_rfl)) (by unfold Func.isWrapper; first | (rw [if_pos (by decide +kernel)]; kernel_rfl) | (rw [if_neg (by decide +kernel)]; exact ⟨rfl, rfl⟩))
    (fun os started H enc _ => lifted os started H enc)

/-- the statement -/
theorem proved : Rows.DiskNoneSaid := over
#print axioms proved
end Go.Proofs.Ytbdengcblncfmaa.diskNone
