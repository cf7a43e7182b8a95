/-
  For every number RunesOne returns true, and the argument reads as before; there is no further condition.
-/
import Derived.Test.YtplogecejioolaaRows
import Derived.Test.YtplogecejioolaaPostLaw
import Derived.Test.YtplogecejioolaaRunesIs
import Derived.WalkKit
import Derived.ProofKit
import Derived.OpenShut
import Derived.ShutString
namespace Go.Proofs.Ytplogecejioolaa.runesOne
open Go.ChangeShapes Go.WideShapes Go.ChangeAt Go.RowKit
open Go.ChangeMaps (open_string shut_string)
set_option linter.unusedVariables false

theorem own : ownKnob Try.prog.godebug = none := by kernel_rfl

set_option maxRecDepth 100000 in
set_option maxHeartbeats 8000000 in
theorem walk (a0 : Int) (w0 : (Lit.int .i32 a0).wf = true) (w : World) :
    Calls Try.prog 4 #[.int .i32 a0] w fun e w' => e = .returned (.bool true) ∧ Below w.heap.size w w' := by
  have hb := bounds_i32 w0
  have hcase : (0 ≤ a0 ∧ a0 < 55296) ∨ (57344 ≤ a0 ∧ a0 ≤ 1114111) ∨ a0 < 0 ∨ (55296 ≤ a0 ∧ a0 < 57344) ∨ 1114111 < a0 := by omega
  have hED : (0 ≤ a0 ∧ a0 < 55296) ∨ (57344 ≤ a0 ∧ a0 ≤ 1114111) → ((ED a0 : Nat) : Int) = a0 := by intro h; unfold ED; rw [if_pos h]; omega
  have hED2 : a0 < 0 ∨ (55296 ≤ a0 ∧ a0 < 57344) ∨ 1114111 < a0 → ED a0 = 65533 := by intro h; unfold ED; rw [if_neg (by omega)]
  have HE := Lib.hid hED; clear hED
  have HE2 := Lib.hid hED2; clear hED2
  rcases hcase with h | h | h | h | h
  · go_enter Try.func4, Try.ntmps4
    go_wp2_with fail
    refine (begun_any _).mono ?_
    rintro e k1 ⟨rfl, hk⟩
    go_wp2_with fail
    refine (encode_any _ _).mono ?_
    rintro e w' ⟨rfl, rfl⟩
    go_wp2_with fail
    refine (decode_enc _ _).mono ?_
    rintro e k2 ⟨rfl, h2⟩
    have hk := hk.trans (h2.mono hk.size); clear h2
    rw [HE.out (by omega)]
    go_wp2_with fail
    refine (rencode_any _ _).mono ?_
    rintro e k3 ⟨rfl, h3⟩
    have hk := hk.trans (h3.mono hk.size); clear h3
    go_wp2_with fail
    refine (lower_any _ _ hb.1 hb.2).mono ?_
    rintro e w' ⟨rfl, rfl⟩
    go_wp2_with fail
    refine (rlower_any _ _ hb.1 hb.2).mono ?_
    rintro e w' ⟨rfl, rfl⟩
    go_wp2
    go_ret
    exact ⟨by simp, hk⟩
  · go_enter Try.func4, Try.ntmps4
    go_wp2_with fail
    refine (begun_any _).mono ?_
    rintro e k1 ⟨rfl, hk⟩
    go_wp2_with fail
    refine (encode_any _ _).mono ?_
    rintro e w' ⟨rfl, rfl⟩
    go_wp2_with fail
    refine (decode_enc _ _).mono ?_
    rintro e k2 ⟨rfl, h2⟩
    have hk := hk.trans (h2.mono hk.size); clear h2
    rw [HE.out (by omega)]
    go_wp2_with fail
    refine (rencode_any _ _).mono ?_
    rintro e k3 ⟨rfl, h3⟩
    have hk := hk.trans (h3.mono hk.size); clear h3
    go_wp2_with fail
    refine (lower_any _ _ hb.1 hb.2).mono ?_
    rintro e w' ⟨rfl, rfl⟩
    go_wp2_with fail
    refine (rlower_any _ _ hb.1 hb.2).mono ?_
    rintro e w' ⟨rfl, rfl⟩
    go_wp2
    go_ret
    exact ⟨by simp, hk⟩
  · go_enter Try.func4, Try.ntmps4
    go_wp2_with fail
    refine (begun_any _).mono ?_
    rintro e k1 ⟨rfl, hk⟩
    go_wp2_with fail
    refine (encode_any _ _).mono ?_
    rintro e w' ⟨rfl, rfl⟩
    go_wp2_with fail
    refine (decode_enc _ _).mono ?_
    rintro e k2 ⟨rfl, h2⟩
    have hk := hk.trans (h2.mono hk.size); clear h2
    rw [HE2.out (by omega)]
    go_wp2_with fail
    refine (rencode_any _ _).mono ?_
    rintro e k3 ⟨rfl, h3⟩
    have hk := hk.trans (h3.mono hk.size); clear h3
    go_wp2_with fail
    refine (lower_any _ _ hb.1 hb.2).mono ?_
    rintro e w' ⟨rfl, rfl⟩
    go_wp2_with fail
    refine (rlower_any _ _ hb.1 hb.2).mono ?_
    rintro e w' ⟨rfl, rfl⟩
    go_wp2
    go_ret
    exact ⟨by simp, hk⟩
  · go_enter Try.func4, Try.ntmps4
    go_wp2_with fail
    refine (begun_any _).mono ?_
    rintro e k1 ⟨rfl, hk⟩
    go_wp2_with fail
    refine (encode_any _ _).mono ?_
    rintro e w' ⟨rfl, rfl⟩
    go_wp2_with fail
    refine (decode_enc _ _).mono ?_
    rintro e k2 ⟨rfl, h2⟩
    have hk := hk.trans (h2.mono hk.size); clear h2
    rw [HE2.out (by omega)]
    go_wp2_with fail
    refine (rencode_any _ _).mono ?_
    rintro e k3 ⟨rfl, h3⟩
    have hk := hk.trans (h3.mono hk.size); clear h3
    go_wp2_with fail
    refine (lower_any _ _ hb.1 hb.2).mono ?_
    rintro e w' ⟨rfl, rfl⟩
    go_wp2_with fail
    refine (rlower_any _ _ hb.1 hb.2).mono ?_
    rintro e w' ⟨rfl, rfl⟩
    go_wp2
    go_ret
    exact ⟨by simp, hk⟩
  · go_enter Try.func4, Try.ntmps4
    go_wp2_with fail
    refine (begun_any _).mono ?_
    rintro e k1 ⟨rfl, hk⟩
    go_wp2_with fail
    refine (encode_any _ _).mono ?_
    rintro e w' ⟨rfl, rfl⟩
    go_wp2_with fail
    refine (decode_enc _ _).mono ?_
    rintro e k2 ⟨rfl, h2⟩
    have hk := hk.trans (h2.mono hk.size); clear h2
    rw [HE2.out (by omega)]
    go_wp2_with fail
    refine (rencode_any _ _).mono ?_
    rintro e k3 ⟨rfl, h3⟩
    have hk := hk.trans (h3.mono hk.size); clear h3
    go_wp2_with fail
    refine (lower_any _ _ hb.1 hb.2).mono ?_
    rintro e w' ⟨rfl, rfl⟩
    go_wp2_with fail
    refine (rlower_any _ _ hb.1 hb.2).mono ?_
    rintro e w' ⟨rfl, rfl⟩
    go_wp2
    go_ret
    exact ⟨by simp, hk⟩

set_option maxRecDepth 100000 in
theorem lifted (os : Os) (started : os.Started) (H : Type) (enc : TypeId × Value → H) :
    ReturnsInHanded {} Try.checked os 4 .any (Rows.runesOneSpec.pre6 enc Try.prog Try.f4 Rows.runesOneRow.domain false) (Rows.runesOneSpec.post enc Try.prog Try.f4 false true false false) := by
  refine returnsInHanded_of_change (C := Try.checked) own started (by kernel_rfl) Try.func4
    (ChangeSpec.witness6 (enc := enc) (C := Try.checked) false ⟨#[], #[.int .i32 0], []⟩ 8 (by kernel_rfl) (by kernel_rfl) (by kernel_rfl) (by kernel_rfl)) ?_
  intro W base args ds gs before hval0 hW hcnd _
  have hval : ∀ (j : Nat) t v, Try.f4.params[j]? = some t → args[j]? = some v → Value.okWide Try.prog W .any base t v := hval0
  have hW' := hW
  obtain ⟨p, q, hA0, hV, rfl, hfz, hnd⟩ := hW
  have hA : DataW.TrodAll enc Try.prog W 0 (fun _ => true) true Try.f4.params.toList args.toList ds p := hA0
  rw [Try.params4] at hA hval
  obtain ⟨v0, vs0, d0, ds0, p0, q0, hargs, rfl, rfl, h0, r0⟩ := trodAll_cons hA
  obtain ⟨rfl, rfl, rfl⟩ := trodAll_nil r0
  obtain rfl : args = #[v0] := by cases args; simp_all
  obtain ⟨rfl, rfl⟩ := trodVars_none hV
  obtain ⟨a0, rfl, rfl, rfl, w0⟩ := open_int Try.underlying21 (hval 0 21 v0 rfl rfl) h0
  clear hA0 hval0
  simp only [List.append_nil] at hW'
  refine (walk a0 w0 W).mono fun e W' ⟨he, hg⟩ => ?_
  subst he
  exact ⟨_, rfl, post_law hW' (fun _ _ _ => (trodAll_cons_mk (shut_bool Try.underlying4 _) trodAll_mk0)) (fun sp => (trodAll_cons_mk (shut_int Try.underlying21 w0) trodAll_mk0)) (fun _ => rfl) hg (ok_one (by kernel_rfl) rfl (okWide_bool_mk Try.underlying4 _))⟩

theorem over : Rows.runesOneRow.holds Try.pinned (OpenSpec.ofChange Rows.runesOneSpec) :=
  OpenClaim.holds_of_wide 4 Try.f4 rfl rfl rfl rfl rfl rfl rfl ⟨rfl, rfl, rfl, rfl, rfl⟩ rfl rfl rfl rfl rfl (by kernel_rfl) Try.func4 (by kernel_rfl)
    (of_decide_eq_true (by kernel_rfl)) (by unfold Func.isWrapper; first | (rw [if_pos (by decide +kernel)]; kernel_rfl) | (rw [if_neg (by decide +kernel)]; exact ⟨rfl, rfl⟩))
    (fun os started H enc _ => lifted os started H enc)

/-- the statement -/
theorem proved : Rows.RunesOneSaid := over
#print axioms proved
end Go.Proofs.Ytplogecejioolaa.runesOne
