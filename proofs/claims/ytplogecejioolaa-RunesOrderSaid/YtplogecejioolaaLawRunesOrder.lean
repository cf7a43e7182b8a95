/-
  For every three texts RunesOrder returns true, and the arguments read as before; there is no further condition.
-/
import Derived.Test.YtplogecejioolaaRows
import Derived.Test.YtplogecejioolaaPostLaw
import Derived.Test.YtplogecejioolaaRunesIs
import Derived.WalkKit
import Derived.ProofKit
import Derived.OpenShut
import Derived.ShutString
namespace Go.Proofs.Ytplogecejioolaa.runesOrder
open Go.ChangeShapes Go.WideShapes Go.ChangeAt Go.RowKit
open Go.ChangeMaps (open_string shut_string)
set_option linter.unusedVariables false

theorem own : ownKnob Try.prog.godebug = none := by kernel_rfl

set_option maxRecDepth 100000 in
set_option maxHeartbeats 8000000 in
theorem walk (a0 : ByteArray) (a1 : ByteArray) (a2 : ByteArray) (w0 : a0.size ≤ maxLen) (w1 : a1.size ≤ maxLen) (w2 : a2.size ≤ maxLen) (w : World) :
    Calls Try.prog 5 #[.string a0, .string a1, .string a2] w fun e w' => e = .returned (.bool true) ∧ Below w.heap.size w w' := by
  go_enter Try.func5, Try.ntmps5
  go_wp2_with fail
  refine (begun_any _).mono ?_
  rintro e k1 ⟨rfl, hk⟩
  go_wp2_with fail
  refine (lcut_any _ _ _ (by omega) (by omega)).mono ?_
  rintro e w' ⟨a, ha, rfl, rfl⟩
  go_wp2_with fail
  refine (lcut_any _ _ _ (by omega) (by omega)).mono ?_
  rintro e w' ⟨b, hb, rfl, rfl⟩
  go_wp2_with fail
  refine (lcut_any _ _ _ (by omega) (by omega)).mono ?_
  rintro e w' ⟨c, hc, rfl, rfl⟩
  have a1 : a.size ≤ maxLen := by unfold maxLen; omega
  have b1 : b.size ≤ maxLen := by unfold maxLen; omega
  have c1 : c.size ≤ maxLen := by unfold maxLen; omega
  have a2 : a.size ≤ 1000000 := by omega
  have b2 : b.size ≤ 1000000 := by omega
  have h1 := Ru.les_asym a.data.toList b.data.toList
  have h2 := Ru.les_trans a.data.toList b.data.toList c.data.toList
  have h3 := Ru.les_eq a.data.toList b.data.toList
  obtain ⟨ab, hab⟩ : ∃ v, lesB a b = v := ⟨_, rfl⟩
  obtain ⟨ba, hba⟩ : ∃ v, lesB b a = v := ⟨_, rfl⟩
  obtain ⟨bc, hbc⟩ : ∃ v, lesB b c = v := ⟨_, rfl⟩
  obtain ⟨ac, hac⟩ : ∃ v, lesB a c = v := ⟨_, rfl⟩
  change (lesB a b && lesB b a) = false at h1
  change lesB a b = true → lesB b c = true → lesB a c = true at h2
  change (lesB a b || lesB b a) = !(a.data.toList == b.data.toList) at h3
  rw [hab, hba] at h1 h3
  rw [hab, hbc, hac] at h2
  rw [← ByteArray.toList_eq, ← ByteArray.toList_eq] at h3
  have HAB := Lib.hid hab; clear hab
  have HBA := Lib.hid hba; clear hba
  have HBC := Lib.hid hbc; clear hbc
  have HAC := Lib.hid hac; clear hac
  have H1 := Lib.hid h1; clear h1
  have H2 := Lib.hid h2; clear h2
  have H3 := Lib.hid h3; clear h3
  go_wp2_with fail
  refine (less_is a b _ ab a1 b1 HAB.out).mono ?_
  rintro e k2 ⟨rfl, h2⟩
  have hk := hk.trans (h2.mono hk.size); clear h2
  go_wp2_with fail
  refine (rless_is a b _ ab a2 b2 HAB.out).mono ?_
  rintro e k3 ⟨rfl, h3⟩
  have hk := hk.trans (h3.mono hk.size); clear h3
  cases ab
  · go_wp2_with fail
    refine (less_is b a _ ba b1 a1 HBA.out).mono ?_
    rintro e k4 ⟨rfl, h4⟩
    have hk := hk.trans (h4.mono hk.size); clear h4
    go_wp2
    go_ret
    have := H3.out
    exact ⟨by rw [Bool.false_or] at this; simp [this], hk⟩
  · obtain rfl : ba = false := by have := H1.out; simpa using this
    go_wp2_with fail
    refine (less_is b a _ false b1 a1 HBA.out).mono ?_
    rintro e k4 ⟨rfl, h4⟩
    have hk := hk.trans (h4.mono hk.size); clear h4
    go_wp2_with fail
    refine (less_is b c _ bc b1 c1 HBC.out).mono ?_
    rintro e k5 ⟨rfl, h5⟩
    have hk := hk.trans (h5.mono hk.size); clear h5
    cases bc
    · go_wp2
      go_ret
      have := H3.out
      exact ⟨by rw [Bool.true_or] at this; simp [← this], hk⟩
    · obtain rfl : ac = true := H2.out (by trivial) (by trivial)
      go_wp2_with fail
      refine (less_is a c _ true a1 c1 HAC.out).mono ?_
      rintro e k6 ⟨rfl, h6⟩
      have hk := hk.trans (h6.mono hk.size); clear h6
      go_wp2
      go_ret
      have := H3.out
      exact ⟨by rw [Bool.true_or] at this; simp [← this], hk⟩

set_option maxRecDepth 100000 in
theorem lifted (os : Os) (started : os.Started) (H : Type) (enc : TypeId × Value → H) :
    ReturnsInHanded {} Try.checked os 5 .any (Rows.runesOrderSpec.pre6 enc Try.prog Try.f5 Rows.runesOrderRow.domain false) (Rows.runesOrderSpec.post enc Try.prog Try.f5 false true false false) := by
  refine returnsInHanded_of_change (C := Try.checked) own started (by kernel_rfl) Try.func5
    (ChangeSpec.witness6 (enc := enc) (C := Try.checked) false ⟨#[], #[.string ByteArray.empty, .string ByteArray.empty, .string ByteArray.empty], []⟩ 8 (by kernel_rfl) (by kernel_rfl) (by kernel_rfl) (by kernel_rfl)) ?_
  intro W base args ds gs before hval0 hW hcnd _
  have hval : ∀ (j : Nat) t v, Try.f5.params[j]? = some t → args[j]? = some v → Value.okWide Try.prog W .any base t v := hval0
  have hW' := hW
  obtain ⟨p, q, hA0, hV, rfl, hfz, hnd⟩ := hW
  have hA : DataW.TrodAll enc Try.prog W 0 (fun _ => true) true Try.f5.params.toList args.toList ds p := hA0
  rw [Try.params5] at hA hval
  obtain ⟨v0, vs0, d0, ds0, p0, q0, hargs, rfl, rfl, h0, r0⟩ := trodAll_cons hA
  obtain ⟨v1, vs1, d1, ds1, p1, q1, rfl, rfl, rfl, h1, r1⟩ := trodAll_cons r0
  obtain ⟨v2, vs2, d2, ds2, p2, q2, rfl, rfl, rfl, h2, r2⟩ := trodAll_cons r1
  obtain ⟨rfl, rfl, rfl⟩ := trodAll_nil r2
  obtain rfl : args = #[v0, v1, v2] := by cases args; simp_all
  obtain ⟨rfl, rfl⟩ := trodVars_none hV
  obtain ⟨a0, rfl, rfl, rfl, w0⟩ := open_string Try.underlying9 (hval 0 9 v0 rfl rfl) h0
  obtain ⟨a1, rfl, rfl, rfl, w1⟩ := open_string Try.underlying9 (hval 1 9 v1 rfl rfl) h1
  obtain ⟨a2, rfl, rfl, rfl, w2⟩ := open_string Try.underlying9 (hval 2 9 v2 rfl rfl) h2
  clear hA0 hval0
  simp only [List.append_nil] at hW'
  refine (walk a0 a1 a2 w0 w1 w2 W).mono fun e W' ⟨he, hg⟩ => ?_
  subst he
  exact ⟨_, rfl, post_law hW' (fun _ _ _ => (trodAll_cons_mk (shut_bool Try.underlying4 _) trodAll_mk0)) (fun sp => (trodAll_cons_mk (shut_string Try.underlying9 w0) (trodAll_cons_mk (shut_string Try.underlying9 w1) (trodAll_cons_mk (shut_string Try.underlying9 w2) trodAll_mk0)))) (fun _ => rfl) hg (ok_one (by kernel_rfl) rfl (okWide_bool_mk Try.underlying4 _))⟩

theorem over : Rows.runesOrderRow.holds Try.pinned (OpenSpec.ofChange Rows.runesOrderSpec) :=
  OpenClaim.holds_of_wide 5 Try.f5 rfl rfl rfl rfl rfl rfl rfl ⟨rfl, rfl, rfl, rfl, rfl⟩ rfl rfl rfl rfl rfl (by kernel_rfl) Try.func5 (by kernel_rfl)
    (of_decide_eq_true (by kernel_rfl)) (by unfold Func.isWrapper; first | (rw [if_pos (by decide +kernel)]; kernel_rfl) | (rw [if_neg (by decide +kernel)]; exact ⟨rfl, rfl⟩))
    (fun os started H enc _ => lifted os started H enc)

/-- the statement -/
theorem proved : Rows.RunesOrderSaid := over
#print axioms proved
end Go.Proofs.Ytplogecejioolaa.runesOrder
