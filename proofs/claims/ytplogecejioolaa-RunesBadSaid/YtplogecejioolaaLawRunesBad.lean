/-
  For every two texts and every byte RunesBad returns true, and the arguments read as before; there is no further condition.
-/
import Derived.Test.YtplogecejioolaaRows
import Derived.Test.YtplogecejioolaaPostLaw
import Derived.Test.YtplogecejioolaaRunesIs
import Derived.WalkKit
import Derived.ProofKit
import Derived.OpenShut
import Derived.ShutString
namespace Go.Proofs.Ytplogecejioolaa.runesBad
open Go.ChangeShapes Go.WideShapes Go.ChangeAt Go.RowKit
open Go.ChangeMaps (open_string shut_string)
set_option linter.unusedVariables false

theorem own : ownKnob Try.prog.godebug = none := by kernel_rfl

set_option maxRecDepth 100000 in
set_option maxHeartbeats 8000000 in
theorem walk (a0 : ByteArray) (a1 : ByteArray) (a2 : Int) (w0 : a0.size ≤ maxLen) (w1 : a1.size ≤ maxLen) (w2 : (Lit.int .u8 a2).wf = true) (w : World) :
    Calls Try.prog 10 #[.string a0, .string a1, .int .u8 a2] w fun e w' => e = .returned (.bool true) ∧ Below w.heap.size w w' := by
  go_enter Try.func10, Try.ntmps10
  go_wp2_with fail
  refine (begun_any _).mono ?_
  rintro e k1 ⟨rfl, hk⟩
  go_wp2_with fail
  refine (lcut_any _ _ _ (by omega) (by omega)).mono ?_
  rintro e w' ⟨a, ha, rfl, rfl⟩
  go_wp2_with fail
  refine (lcut_any _ _ _ (by omega) (by omega)).mono ?_
  rintro e w' ⟨b, hb, rfl, rfl⟩
  have hb0 := bounds_u8 w2
  have a3 : a.size ≤ maxLen := by unfold maxLen; omega
  have b3 : b.size ≤ maxLen := by unfold maxLen; omega
  have a5 : a.size ≤ 35184372088832 := by omega
  have b5 : b.size ≤ 35184372088832 := by omega
  obtain ⟨na, hna⟩ : ∃ n, Ru.cnt a.data.toList = n := ⟨_, rfl⟩
  obtain ⟨nb, hnb⟩ : ∃ n, Ru.cnt b.data.toList = n := ⟨_, rfl⟩
  have hna1 : na ≤ a.size := by rw [← hna]; exact cnt_le a
  have hnb1 : nb ≤ b.size := by rw [← hnb]; exact cnt_le b
  have hfa := foldB_le a
  have hfb := foldB_le b
  obtain ⟨va, hva⟩ : ∃ v, Ru.vld a.data.toList = v := ⟨_, rfl⟩
  obtain ⟨vb, hvb⟩ : ∃ v, Ru.vld b.data.toList = v := ⟨_, rfl⟩
  have HNA := Lib.hid hna; clear hna
  have HNB := Lib.hid hnb; clear hnb
  have HVA := Lib.hid hva; clear hva
  have HVB := Lib.hid hvb; clear hvb
  by_cases hc : a2 < 248
  · go_wp2
    go_ret
    exact ⟨rfl, hk⟩
  go_wp2_with fail
  refine (valid_is a _ va HVA.out).mono ?_
  rintro e k2 ⟨rfl, h2⟩
  have hk := hk.trans (h2.mono hk.size); clear h2
  cases va
  · go_wp2
    go_ret
    exact ⟨rfl, hk⟩
  go_wp2_with fail
  refine (valid_is b _ vb HVB.out).mono ?_
  rintro e k3 ⟨rfl, h3⟩
  have hk := hk.trans (h3.mono hk.size); clear h3
  cases vb
  · go_wp2
    go_ret
    exact ⟨rfl, hk⟩
  have kc := conv1 k3 a2
  obtain ⟨c, hcs⟩ : ∃ c, strOfNums [a2] = c := ⟨_, rfl⟩
  have hcl : c.data.toList = [a2.toNat.toUInt8] := by rw [← hcs]; rfl
  have hc1 : c.size = 1 := by rw [← hcs]; rfl
  rw [hcs] at kc
  clear hcs
  have hsz : (a ++ c ++ b).size = a.size + c.size + b.size := by rw [ByteArray.size_append, ByteArray.size_append]
  have t3 : (a ++ c ++ b).size ≤ maxLen := by unfold maxLen; omega
  have t5 : (a ++ c ++ b).size ≤ 35184372088832 := by omega
  have hl : (a ++ c ++ b).data.toList = a.data.toList ++ [a2.toNat.toUInt8] ++ b.data.toList := by rw [join_list, join_list, hcl]
  have h248 : 248 ≤ (a2.toNat.toUInt8).toNat := by rw [Ru.u8n _ (by omega)]; omega
  have q1 : Ru.vld (a ++ c ++ b).data.toList = false := by rw [hl]; exact Ru.vld_bad _ _ _ HVA.out h248
  have q2 : Ru.key (a ++ c ++ b).data.toList = false := by rw [hl]; exact Ru.key_bad _ _ _ HVA.out h248
  have q3 : Ru.cnt (a ++ c ++ b).data.toList = na + 1 + nb := by rw [hl, Ru.cnt_bad _ _ _ HVA.out h248, HNA.out, HNB.out]
  have q4 : foldB (a ++ c ++ b) = foldB a ++ ⟨#[239, 191, 189]⟩ ++ foldB b := by
    apply bytes_eq
    rw [join_list, join_list, foldB_list, foldB_list, foldB_list, hl, Ru.fld_bad _ _ _ HVA.out h248]
  have Q1 := Lib.hid q1; clear q1
  have Q2 := Lib.hid q2; clear q2
  have Q3 := Lib.hid q3; clear q3
  have Q4 := Lib.hid q4; clear q4
  clear hl hcl hsz h248
  have HC1 := Lib.hid hc1; clear hc1
  have hcb : c.size ≤ 1 := by rw [HC1.out]; exact Nat.le_refl _
  go_wp2_with fail
  refine (valid_is (a ++ c ++ b) _ false Q1.out).mono ?_
  rintro e k4 ⟨rfl, h4⟩
  have hk := (hk.alloc hk.size (.cells #[.int .u8 a2] 5)).trans (h4.mono (by simp; have := hk.size; omega)); clear h4 kc
  go_wp2_with fail
  refine (key_is (a ++ c ++ b) _ false Q2.out).mono ?_
  rintro e k5 ⟨rfl, h5⟩
  have hk := hk.trans (h5.mono hk.size); clear h5
  go_wp2_with fail
  refine (count_is (a ++ c ++ b) _ (na + 1 + nb) t3 Q3.out).mono ?_
  rintro e k6 ⟨rfl, h6⟩
  have hk := hk.trans (h6.mono hk.size); clear h6
  go_wp2_with fail
  refine (count_is a _ na a3 HNA.out).mono ?_
  rintro e k7 ⟨rfl, h7⟩
  have hk := hk.trans (h7.mono hk.size); clear h7
  go_wp2_with fail
  refine (count_is b _ nb b3 HNB.out).mono ?_
  rintro e k8 ⟨rfl, h8⟩
  have hk := hk.trans (h8.mono hk.size); clear h8
  go_wp2_with fail
  refine (fold_is (a ++ c ++ b) _ _ t5 Q4.out).mono ?_
  rintro e k9 ⟨rfl, h9⟩
  have hk := hk.trans (h9.mono hk.size); clear h9
  go_wp2_with fail
  refine (fold_is a _ _ a5 rfl).mono ?_
  rintro e k10 ⟨rfl, h10⟩
  have hk := hk.trans (h10.mono hk.size); clear h10
  go_wp2_with fail
  refine (fold_is b _ _ b5 rfl).mono ?_
  rintro e k11 ⟨rfl, h11⟩
  have hk := hk.trans (h11.mono hk.size); clear h11
  go_wp2
  go_ret
  exact ⟨by simp, hk⟩

set_option maxRecDepth 100000 in
theorem lifted (os : Os) (started : os.Started) (H : Type) (enc : TypeId × Value → H) :
    ReturnsInHanded {} Try.checked os 10 .any (Rows.runesBadSpec.pre6 enc Try.prog Try.f10 Rows.runesBadRow.domain false) (Rows.runesBadSpec.post enc Try.prog Try.f10 false true false false) := by
  refine returnsInHanded_of_change (C := Try.checked) own started (by kernel_rfl) Try.func10
    (ChangeSpec.witness6 (enc := enc) (C := Try.checked) false ⟨#[], #[.string ByteArray.empty, .string ByteArray.empty, .int .u8 0], []⟩ 8 (by kernel_rfl) (by kernel_rfl) (by kernel_rfl) (by kernel_rfl)) ?_
  intro W base args ds gs before hval0 hW hcnd _
  have hval : ∀ (j : Nat) t v, Try.f10.params[j]? = some t → args[j]? = some v → Value.okWide Try.prog W .any base t v := hval0
  have hW' := hW
  obtain ⟨p, q, hA0, hV, rfl, hfz, hnd⟩ := hW
  have hA : DataW.TrodAll enc Try.prog W 0 (fun _ => true) true Try.f10.params.toList args.toList ds p := hA0
  rw [Try.params10] at hA hval
  obtain ⟨v0, vs0, d0, ds0, p0, q0, hargs, rfl, rfl, h0, r0⟩ := trodAll_cons hA
  obtain ⟨v1, vs1, d1, ds1, p1, q1, rfl, rfl, rfl, h1, r1⟩ := trodAll_cons r0
  obtain ⟨v2, vs2, d2, ds2, p2, q2, rfl, rfl, rfl, h2, r2⟩ := trodAll_cons r1
  obtain ⟨rfl, rfl, rfl⟩ := trodAll_nil r2
  obtain rfl : args = #[v0, v1, v2] := by cases args; simp_all
  obtain ⟨rfl, rfl⟩ := trodVars_none hV
  obtain ⟨a0, rfl, rfl, rfl, w0⟩ := open_string Try.underlying9 (hval 0 9 v0 rfl rfl) h0
  obtain ⟨a1, rfl, rfl, rfl, w1⟩ := open_string Try.underlying9 (hval 1 9 v1 rfl rfl) h1
  obtain ⟨a2, rfl, rfl, rfl, w2⟩ := open_int Try.underlying5 (hval 2 5 v2 rfl rfl) h2
  clear hA0 hval0
  simp only [List.append_nil] at hW'
  refine (walk a0 a1 a2 w0 w1 w2 W).mono fun e W' ⟨he, hg⟩ => ?_
  subst he
  exact ⟨_, rfl, post_law hW' (fun _ _ _ => (trodAll_cons_mk (shut_bool Try.underlying4 _) trodAll_mk0)) (fun sp => (trodAll_cons_mk (shut_string Try.underlying9 w0) (trodAll_cons_mk (shut_string Try.underlying9 w1) (trodAll_cons_mk (shut_int Try.underlying5 w2) trodAll_mk0)))) (fun _ => rfl) hg (ok_one (by kernel_rfl) rfl (okWide_bool_mk Try.underlying4 _))⟩

theorem over : Rows.runesBadRow.holds Try.pinned (OpenSpec.ofChange Rows.runesBadSpec) :=
  OpenClaim.holds_of_wide 10 Try.f10 rfl rfl rfl rfl rfl rfl rfl ⟨rfl, rfl, rfl, rfl, rfl⟩ rfl rfl rfl rfl rfl (by kernel_rfl) Try.func10 (by kernel_rfl)
    (of_decide_eq_true (by kernel_rfl)) (by unfold Func.isWrapper; first | (rw [if_pos (by decide +kernel)]; kernel_rfl) | (rw [if_neg (by decide +kernel)]; exact ⟨rfl, rfl⟩))
    (fun os started H enc _ => lifted os started H enc)

/-- the statement -/
theorem proved : Rows.RunesBadSaid := over
#print axioms proved
end Go.Proofs.Ytplogecejioolaa.runesBad
