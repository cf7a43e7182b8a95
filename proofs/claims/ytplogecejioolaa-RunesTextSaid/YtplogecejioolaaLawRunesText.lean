/-
  For every text and every number RunesText returns true, and the arguments read as before; there is no further condition.
-/
import Derived.Test.YtplogecejioolaaRows
import Derived.Test.YtplogecejioolaaPostLaw
import Derived.Test.YtplogecejioolaaRunesBegun
import Derived.WalkKit
import Derived.ProofKit
import Derived.OpenShut
import Derived.ShutString
namespace Go.Proofs.Ytplogecejioolaa.runesText
open Go.ChangeShapes Go.WideShapes Go.ChangeAt Go.RowKit
open Go.ChangeMaps (open_string shut_string)
set_option linter.unusedVariables false

theorem own : ownKnob Try.prog.godebug = none := by kernel_rfl

set_option maxRecDepth 100000 in
set_option maxHeartbeats 8000000 in
theorem walk (a0 : ByteArray) (a1 : Int) (w0 : a0.size ≤ maxLen) (w1 : (Lit.int .i64 a1).wf = true) (w : World) :
    Calls Try.prog 3 #[.string a0, .int .i64 a1] w fun e w' => e = .returned (.bool true) ∧ Below w.heap.size w w' := by
  go_enter Try.func3, Try.ntmps3
  go_wp2_with fail
  refine (begun_any _).mono ?_
  rintro e k1 ⟨rfl, hk⟩
  go_wp2_with fail
  refine (lcut_any _ _ _ (by omega) (by omega)).mono ?_
  rintro e w' ⟨t, ht, rfl, rfl⟩
  have ht2 : t.size ≤ 1000000 := by omega
  have ht3 : t.size ≤ maxLen := by unfold maxLen; omega
  have ht4 : t.size ≤ 281474976710656 := by omega
  have ht5 : t.size ≤ 35184372088832 := by omega
  have hn := bounds_i64 w1
  go_wp2_with fail
  refine (runes_any t _ ht2).mono ?_
  rintro e k2 ⟨vl, va, rfl, hl, -, h2⟩
  obtain ⟨A, c, rfl, -⟩ := own_read hl
  clear hl
  have hk := hk.trans (h2.mono hk.size); clear h2
  go_wp2_with fail
  refine (decode_any t _ ht3).mono ?_
  rintro e k3 ⟨rfl, h3⟩
  have hk := hk.trans (h3.mono hk.size); clear h3
  go_wp2_with fail
  refine (rdecode_any t _ ht3).mono ?_
  rintro e w' ⟨rfl, rfl⟩
  go_wp2_with fail
  refine (valid_any t _).mono ?_
  rintro e k4 ⟨rfl, h4⟩
  have hk := hk.trans (h4.mono hk.size); clear h4
  go_wp2_with fail
  refine (count_any t _ ht3).mono ?_
  rintro e k5 ⟨rfl, h5⟩
  have hk := hk.trans (h5.mono hk.size); clear h5
  go_wp2_with fail
  refine (cut_any t a1 _ ht4 hn.1 hn.2).mono ?_
  rintro e k6 ⟨rfl, h6⟩
  have hk := hk.trans (h6.mono hk.size); clear h6
  go_wp2_with fail
  refine (rcut_any t a1 _ ht2 hn.1 hn.2).mono ?_
  rintro e k7 ⟨rfl, h7⟩
  have hk := hk.trans (h7.mono hk.size); clear h7
  go_wp2_with fail
  refine (key_any t _).mono ?_
  rintro e k8 ⟨rfl, h8⟩
  have hk := hk.trans (h8.mono hk.size); clear h8
  go_wp2_with fail
  refine (rkey_any t _ ht2).mono ?_
  rintro e k9 ⟨rfl, h9⟩
  have hk := hk.trans (h9.mono hk.size); clear h9
  go_wp2_with fail
  refine (fold_any t _ ht5).mono ?_
  rintro e k10 ⟨rfl, h10⟩
  have hk := hk.trans (h10.mono hk.size); clear h10
  go_wp2_with fail
  refine (rfold_any t _ ht2).mono ?_
  rintro e k11 ⟨rfl, h11⟩
  have hk := hk.trans (h11.mono hk.size); clear h11
  go_wp2
  go_ret
  exact ⟨by simp, hk⟩

set_option maxRecDepth 100000 in
theorem lifted (os : Os) (started : os.Started) (H : Type) (enc : TypeId × Value → H) :
    ReturnsInHanded {} Try.checked os 3 .any (Rows.runesTextSpec.pre6 enc Try.prog Try.f3 Rows.runesTextRow.domain false) (Rows.runesTextSpec.post enc Try.prog Try.f3 false true false false) := by
  refine returnsInHanded_of_change (C := Try.checked) own started (by kernel_rfl) Try.func3
    (ChangeSpec.witness6 (enc := enc) (C := Try.checked) false ⟨#[], #[.string ByteArray.empty, .int .i64 0], []⟩ 8 (by kernel_rfl) (by kernel_rfl) (by kernel_rfl) (by kernel_rfl)) ?_
  intro W base args ds gs before hval0 hW hcnd _
  have hval : ∀ (j : Nat) t v, Try.f3.params[j]? = some t → args[j]? = some v → Value.okWide Try.prog W .any base t v := hval0
  have hW' := hW
  obtain ⟨p, q, hA0, hV, rfl, hfz, hnd⟩ := hW
  have hA : DataW.TrodAll enc Try.prog W 0 (fun _ => true) true Try.f3.params.toList args.toList ds p := hA0
  rw [Try.params3] at hA hval
  obtain ⟨v0, vs0, d0, ds0, p0, q0, hargs, rfl, rfl, h0, r0⟩ := trodAll_cons hA
  obtain ⟨v1, vs1, d1, ds1, p1, q1, rfl, rfl, rfl, h1, r1⟩ := trodAll_cons r0
  obtain ⟨rfl, rfl, rfl⟩ := trodAll_nil r1
  obtain rfl : args = #[v0, v1] := by cases args; simp_all
  obtain ⟨rfl, rfl⟩ := trodVars_none hV
  obtain ⟨a0, rfl, rfl, rfl, w0⟩ := open_string Try.underlying9 (hval 0 9 v0 rfl rfl) h0
  obtain ⟨a1, rfl, rfl, rfl, w1⟩ := open_int Try.underlying3 (hval 1 3 v1 rfl rfl) h1
  clear hA0 hval0
  simp only [List.append_nil] at hW'
  refine (walk a0 a1 w0 w1 W).mono fun e W' ⟨he, hg⟩ => ?_
  subst he
  exact ⟨_, rfl, post_law hW' (fun _ _ _ => (trodAll_cons_mk (shut_bool Try.underlying4 _) trodAll_mk0)) (fun sp => (trodAll_cons_mk (shut_string Try.underlying9 w0) (trodAll_cons_mk (shut_int Try.underlying3 w1) trodAll_mk0))) (fun _ => rfl) hg (ok_one (by kernel_rfl) rfl (okWide_bool_mk Try.underlying4 _))⟩

theorem over : Rows.runesTextRow.holds Try.pinned (OpenSpec.ofChange Rows.runesTextSpec) :=
  OpenClaim.holds_of_wide 3 Try.f3 rfl rfl rfl rfl rfl rfl rfl ⟨rfl, rfl, rfl, rfl, rfl⟩ rfl rfl rfl rfl rfl (by kernel_rfl) Try.func3 (by kernel_rfl)
    (of_decide_eq_true (by kernel_rfl)) (by unfold Func.isWrapper; first | (rw [if_pos (by decide +kernel)]; kernel_rfl) | (rw [if_neg (by decide +kernel)]; exact ⟨rfl, rfl⟩))
    (fun os started H enc _ => lifted os started H enc)

/-- the statement -/
theorem proved : Rows.RunesTextSaid := over
#print axioms proved
end Go.Proofs.Ytplogecejioolaa.runesText
