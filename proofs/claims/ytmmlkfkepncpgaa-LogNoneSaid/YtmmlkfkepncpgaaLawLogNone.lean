/-
  LogNone: no log. It is a closed sentence.
-/
import Derived.Test.YtmmlkfkepncpgaaRows
import Derived.Test.YtmmlkfkepncpgaaBun2
import Derived.Test.YtmmlkfkepncpgaaBun1
import Derived.WalkKit
import Derived.ProofKit
import Derived.OpenShut
import Derived.ShutString
namespace Go.Proofs.Ytmmlkfkepncpgaa.logNone
open Go.ChangeShapes Go.WideShapes Go.ChangeAt Go.RowKit
open Go.ChangeMaps (open_string shut_string)
set_option linter.unusedVariables false

theorem own : ownKnob Try.prog.godebug = none := by kernel_rfl

set_option maxRecDepth 100000 in
set_option maxHeartbeats 8000000 in
theorem walk (w : World)  :
    Calls Try.prog 4 #[] w fun e w' => e = .returned (.bool true) ∧ Below w.heap.size w w' := by
  go_enter Try.func4, Try.ntmps4
  obtain ⟨k0, hk0⟩ : ∃ k0, w.alloc (.cells #[.int .i64 1, .int .i64 1, .int .i64 0, .string ⟨#[]⟩] 51) = k0 := ⟨_, rfl⟩
  have hb0 : Below w.heap.size w k0 := by rw [← hk0]; exact below_new _ _
  go_wp2_with fail
  refine (nput_any _ _ _ _).mono ?_
  rintro e k1 ⟨rfl, h⟩
  have hb1 := hb0.trans (h.mono hb0.size)
  clear h hb0 hk0
  go_wp2_with fail
  refine (nterm_any _ 0).mono ?_
  rintro e k2 ⟨rfl, h⟩
  have hb2 := hb1.trans (h.mono hb1.size)
  clear h hb1
  go_wp2_with fail
  refine (nconf_any _).mono ?_
  rintro e k3 ⟨rfl, h⟩
  have hb3 := hb2.trans (h.mono hb2.size)
  clear h hb2
  go_wp2_with fail
  refine (nset_any _ 3 0 ⟨#[]⟩ ⟨#[]⟩).mono ?_
  rintro e k4 ⟨⟨v, rfl⟩, h⟩
  have hb4 := hb3.trans (h.mono hb3.size)
  clear h hb3
  go_wp2_with fail
  refine (begun13_any _).mono ?_
  rintro e k5 ⟨rfl, h⟩
  have hb5 := hb4.trans (h.mono hb4.size)
  clear h hb4
  go_wp2_with fail
  refine (nfirst_any _).mono ?_
  rintro e k6 ⟨rfl, h⟩
  have hb6 := hb5.trans (h.mono hb5.size)
  clear h hb5
  go_wp2_with fail
  refine (nlast_any _).mono ?_
  rintro e k7 ⟨rfl, h⟩
  have hb7 := hb6.trans (h.mono hb6.size)
  clear h hb6
  go_wp2_with fail
  refine (nget_any13 _ 0 1).mono ?_
  rintro e k8 ⟨rfl, h⟩
  have hb8 := hb7.trans (h.mono hb7.size)
  clear h hb7
  go_wp2_with fail
  refine (nfits_any _ 0 0).mono ?_
  rintro e k9 ⟨rfl, h⟩
  have hb9 := hb8.trans (h.mono hb8.size)
  clear h hb8
  go_wp2_with fail
  refine (nnewer_any _ 1 1).mono ?_
  rintro e k10 ⟨rfl, h⟩
  have hb10 := hb9.trans (h.mono hb9.size)
  clear h hb9
  go_wp2_with fail
  refine (npack_any _ 0 0 ⟨#[]⟩ ⟨#[]⟩).mono ?_
  rintro e k11 ⟨rfl, h⟩
  have hb11 := hb10.trans (h.mono hb10.size)
  clear h hb10
  go_wp2_with fail
  refine (nsnap_any _).mono ?_
  rintro e k12 ⟨rfl, h⟩
  have hb12 := hb11.trans (h.mono hb11.size)
  clear h hb11
  have hfl : ∀ W, (Instr.field 23 (.agg #[.int .i64 0, .int .i64 0, .string ⟨#[]⟩, .string ⟨#[]⟩]) 0).run Try.prog W = .ok (.int .i64 0) W := fun _ => by kernel_rfl
  go_wp2
  go_ret
  exact ⟨rfl, hb12⟩

set_option maxRecDepth 100000 in
theorem lifted (os : Os) (started : os.Started) (H : Type) (enc : TypeId × Value → H) :
    ReturnsInHanded {} Try.checked os 4 .any (Rows.logNoneSpec.pre6 enc Try.prog Try.f4 Rows.logNoneRow.domain false) (Rows.logNoneSpec.post enc Try.prog Try.f4 false true false false) := by
  refine returnsInHanded_of_change (C := Try.checked) own started (by kernel_rfl) Try.func4
    (ChangeSpec.witness6 (enc := enc) (C := Try.checked) false ⟨#[], #[], []⟩ 8 (by kernel_rfl) (by kernel_rfl) (by kernel_rfl) (by kernel_rfl)) ?_
  intro W base args ds gs before hval0 hW hcnd _
  have hval : ∀ (j : Nat) t v, Try.f4.params[j]? = some t → args[j]? = some v → Value.okWide Try.prog W .any base t v := hval0
  have hW' := hW
  obtain ⟨p, q, hA0, hV, rfl, hfz, hnd⟩ := hW
  have hA : DataW.TrodAll enc Try.prog W 0 (fun _ => true) true Try.f4.params.toList args.toList ds p := hA0
  have hA1 := hA
  rw [Try.params4] at hA hval
  obtain ⟨hargs, rfl, rfl⟩ := trodAll_nil hA
  obtain rfl : args = #[] := by cases args; simp_all
  obtain ⟨rfl, rfl⟩ := trodVars_none hV
  clear hA0 hval0
  simp only [List.append_nil] at hW'
  try simp only [List.append_nil] at hA1
  refine (walk W ).mono fun e W' ⟨he, hg⟩ => ?_
  subst he
  exact ⟨_, rfl, law_end Try.laidOut (by kernel_rfl) hW' hA1 hg rfl rfl rfl (trodAll_mk1 (shut_bool Try.underlying4 _))⟩

theorem over : Rows.logNoneRow.holds Try.pinned (OpenSpec.ofChange Rows.logNoneSpec) :=
  OpenClaim.holds_of_wide 4 Try.f4 rfl rfl rfl rfl rfl rfl rfl ⟨rfl, rfl, rfl, rfl, rfl⟩ rfl rfl rfl rfl rfl (by kernel_rfl) Try.func4 (by kernel_rfl)
    (of_decide_eq_true (by kernel_rfl)) (by unfold Func.isWrapper; first | (rw [if_pos (by decide +kernel)]; kernel_rfl) | (rw [if_neg (by decide +kernel)]; exact ⟨rfl, rfl⟩))
    (fun os started H enc _ => lifted os started H enc)

/-- the statement -/
theorem proved : Rows.LogNoneSaid := over
#print axioms proved
end Go.Proofs.Ytmmlkfkepncpgaa.logNone
