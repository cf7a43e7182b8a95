/-
  For every two texts RunesJoin returns true, and the arguments read as before; there is no further condition.
-/
import Derived.Test.YtplogecejioolaaRows
import Derived.Test.YtplogecejioolaaPostLaw
import Derived.Test.YtplogecejioolaaRunesIs
import Derived.WalkKit
import Derived.ProofKit
import Derived.OpenShut
import Derived.ShutString
namespace Go.Proofs.Ytplogecejioolaa.runesJoin
open Go.ChangeShapes Go.WideShapes Go.ChangeAt Go.RowKit
open Go.ChangeMaps (open_string shut_string)
set_option linter.unusedVariables false

theorem own : ownKnob Try.prog.godebug = none := by kernel_rfl

set_option maxRecDepth 100000 in
set_option maxHeartbeats 8000000 in
theorem walk (a0 : ByteArray) (a1 : ByteArray) (w0 : a0.size ≤ maxLen) (w1 : a1.size ≤ maxLen) (w : World) :
    Calls Try.prog 11 #[.string a0, .string a1] w fun e w' => e = .returned (.bool true) ∧ Below w.heap.size w w' := by
  go_enter Try.func11, Try.ntmps11
  go_wp2_with fail
  refine (begun_any _).mono ?_
  rintro e k1 ⟨rfl, hk⟩
  go_wp2_with fail
  refine (lcut_any _ _ _ (by omega) (by omega)).mono ?_
  rintro e w' ⟨a, ha, rfl, rfl⟩
  go_wp2_with fail
  refine (lcut_any _ _ _ (by omega) (by omega)).mono ?_
  rintro e w' ⟨b, hb, rfl, rfl⟩
  have a3 : a.size ≤ maxLen := by unfold maxLen; omega
  have b3 : b.size ≤ maxLen := by unfold maxLen; omega
  have a5 : a.size ≤ 35184372088832 := by omega
  have b5 : b.size ≤ 35184372088832 := by omega
  have hab : (a ++ b).size = a.size + b.size := ByteArray.size_append
  have t3 : (a ++ b).size ≤ maxLen := by unfold maxLen; omega
  have t4 : (a ++ b).size ≤ 281474976710656 := by omega
  have t5 : (a ++ b).size ≤ 35184372088832 := by omega
  have hl : (a ++ b).data.toList = a.data.toList ++ b.data.toList := join_list a b
  obtain ⟨na, hna⟩ : ∃ n, Ru.cnt a.data.toList = n := ⟨_, rfl⟩
  obtain ⟨nb, hnb⟩ : ∃ n, Ru.cnt b.data.toList = n := ⟨_, rfl⟩
  have hna1 : na ≤ a.size := by rw [← hna]; exact cnt_le a
  have hnb1 : nb ≤ b.size := by rw [← hnb]; exact cnt_le b
  have hfa := foldB_le a
  have hfb := foldB_le b
  obtain ⟨va, hva⟩ : ∃ v, Ru.vld a.data.toList = v := ⟨_, rfl⟩
  obtain ⟨vb, hvb⟩ : ∃ v, Ru.vld b.data.toList = v := ⟨_, rfl⟩
  have HL := Lib.hid hl; clear hl
  have HAB := Lib.hid hab; clear hab
  have HNA := Lib.hid hna; clear hna
  have HNB := Lib.hid hnb; clear hnb
  have HVA := Lib.hid hva; clear hva
  have HVB := Lib.hid hvb; clear hvb
  go_wp2_with fail
  refine (valid_is a _ va HVA.out).mono ?_
  rintro e k2 ⟨rfl, h2⟩
  have hk := hk.trans (h2.mono hk.size); clear h2
  cases va
  · go_wp2
    go_ret
    exact ⟨rfl, hk⟩
  go_wp2_with fail
  refine (valid_is b _ vb HVB.out).mono ?_
  rintro e k3 ⟨rfl, h3⟩
  have hk := hk.trans (h3.mono hk.size); clear h3
  cases vb
  · go_wp2
    go_ret
    exact ⟨rfl, hk⟩
  have q1 : Ru.vld (a ++ b).data.toList = true := by rw [HL.out]; exact Ru.vld_append _ _ HVA.out HVB.out
  have q2 : Ru.cnt (a ++ b).data.toList = na + nb := by rw [HL.out, Ru.cnt_append _ _ HVA.out, HNA.out, HNB.out]
  have q3 : foldB (a ++ b) = foldB a ++ foldB b := foldB_join a b HVA.out
  have q4 : cutB (a ++ b) (na : Nat) = a := by rw [← HNA.out]; exact cutB_join a b HVA.out
  have q5 : lesB (a ++ b) a = false := by unfold lesB; rw [HL.out]; exact Ru.les_front _ _ HVA.out
  have Q1 := Lib.hid q1; clear q1
  have Q2 := Lib.hid q2; clear q2
  have Q3 := Lib.hid q3; clear q3
  have Q4 := Lib.hid q4; clear q4
  have Q5 := Lib.hid q5; clear q5
  go_wp2_with fail
  refine (valid_is (a ++ b) _ true Q1.out).mono ?_
  rintro e k4 ⟨rfl, h4⟩
  have hk := hk.trans (h4.mono hk.size); clear h4
  go_wp2_with fail
  refine (count_is (a ++ b) _ (na + nb) t3 Q2.out).mono ?_
  rintro e k5 ⟨rfl, h5⟩
  have hk := hk.trans (h5.mono hk.size); clear h5
  go_wp2_with fail
  refine (count_is a _ na a3 HNA.out).mono ?_
  rintro e k6 ⟨rfl, h6⟩
  have hk := hk.trans (h6.mono hk.size); clear h6
  go_wp2_with fail
  refine (count_is b _ nb b3 HNB.out).mono ?_
  rintro e k7 ⟨rfl, h7⟩
  have hk := hk.trans (h7.mono hk.size); clear h7
  go_wp2_with fail
  refine (fold_is (a ++ b) _ _ t5 Q3.out).mono ?_
  rintro e k8 ⟨rfl, h8⟩
  have hk := hk.trans (h8.mono hk.size); clear h8
  go_wp2_with fail
  refine (fold_is a _ _ a5 rfl).mono ?_
  rintro e k9 ⟨rfl, h9⟩
  have hk := hk.trans (h9.mono hk.size); clear h9
  go_wp2_with fail
  refine (fold_is b _ _ b5 rfl).mono ?_
  rintro e k10 ⟨rfl, h10⟩
  have hk := hk.trans (h10.mono hk.size); clear h10
  go_wp2_with fail
  refine (count_is a _ na a3 HNA.out).mono ?_
  rintro e k11 ⟨rfl, h11⟩
  have hk := hk.trans (h11.mono hk.size); clear h11
  go_wp2_with fail
  refine (cut_is (a ++ b) a (na : Nat) _ t4 (by omega) (by omega) Q4.out).mono ?_
  rintro e k12 ⟨rfl, h12⟩
  have hk := hk.trans (h12.mono hk.size); clear h12
  go_wp2_with fail
  refine (less_is (a ++ b) a _ false t3 a3 Q5.out).mono ?_
  rintro e k13 ⟨rfl, h13⟩
  have hk := hk.trans (h13.mono hk.size); clear h13
  go_wp2
  go_ret
  exact ⟨by simp, hk⟩

set_option maxRecDepth 100000 in
theorem lifted (os : Os) (started : os.Started) (H : Type) (enc : TypeId × Value → H) :
    ReturnsInHanded {} Try.checked os 11 .any (Rows.runesJoinSpec.pre6 enc Try.prog Try.f11 Rows.runesJoinRow.domain false) (Rows.runesJoinSpec.post enc Try.prog Try.f11 false true false false) := by
  refine returnsInHanded_of_change (C := Try.checked) own started (by kernel_rfl) Try.func11
    (ChangeSpec.witness6 (enc := enc) (C := Try.checked) false ⟨#[], #[.string ByteArray.empty, .string ByteArray.empty], []⟩ 8 (by kernel_rfl) (by kernel_rfl) (by kernel_rfl) (by kernel_rfl)) ?_
  intro W base args ds gs before hval0 hW hcnd _
  have hval : ∀ (j : Nat) t v, Try.f11.params[j]? = some t → args[j]? = some v → Value.okWide Try.prog W .any base t v := hval0
  have hW' := hW
  obtain ⟨p, q, hA0, hV, rfl, hfz, hnd⟩ := hW
  have hA : DataW.TrodAll enc Try.prog W 0 (fun _ => true) true Try.f11.params.toList args.toList ds p := hA0
  rw [Try.params11] at hA hval
  obtain ⟨v0, vs0, d0, ds0, p0, q0, hargs, rfl, rfl, h0, r0⟩ := trodAll_cons hA
  obtain ⟨v1, vs1, d1, ds1, p1, q1, rfl, rfl, rfl, h1, r1⟩ := trodAll_cons r0
  obtain ⟨rfl, rfl, rfl⟩ := trodAll_nil r1
  obtain rfl : args = #[v0, v1] := by cases args; simp_all
  obtain ⟨rfl, rfl⟩ := trodVars_none hV
  obtain ⟨a0, rfl, rfl, rfl, w0⟩ := open_string Try.underlying9 (hval 0 9 v0 rfl rfl) h0
  obtain ⟨a1, rfl, rfl, rfl, w1⟩ := open_string Try.underlying9 (hval 1 9 v1 rfl rfl) h1
  clear hA0 hval0
  simp only [List.append_nil] at hW'
  refine (walk a0 a1 w0 w1 W).mono fun e W' ⟨he, hg⟩ => ?_
  subst he
  exact ⟨_, rfl, post_law hW' (fun _ _ _ => (trodAll_cons_mk (shut_bool Try.underlying4 _) trodAll_mk0)) (fun sp => (trodAll_cons_mk (shut_string Try.underlying9 w0) (trodAll_cons_mk (shut_string Try.underlying9 w1) trodAll_mk0))) (fun _ => rfl) hg (ok_one (by kernel_rfl) rfl (okWide_bool_mk Try.underlying4 _))⟩

theorem over : Rows.runesJoinRow.holds Try.pinned (OpenSpec.ofChange Rows.runesJoinSpec) :=
  OpenClaim.holds_of_wide 11 Try.f11 rfl rfl rfl rfl rfl rfl rfl ⟨rfl, rfl, rfl, rfl, rfl⟩ rfl rfl rfl rfl rfl (by kernel_rfl) Try.func11 (by kernel_rfl)
    (of_decide_eq_true (by kernel_rfl)) (by unfold Func.isWrapper; first | (rw [if_pos (by decide +kernel)]; kernel_rfl) | (rw [if_neg (by decide +kernel)]; exact ⟨rfl, rfl⟩))
    (fun os started H enc _ => lifted os started H enc)

/-- the statement -/
theorem proved : Rows.RunesJoinSaid := over
#print axioms proved
end Go.Proofs.Ytplogecejioolaa.runesJoin
