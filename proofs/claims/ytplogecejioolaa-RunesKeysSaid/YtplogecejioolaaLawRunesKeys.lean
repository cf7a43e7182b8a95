/-
  For every two numbers RunesKeys returns true, and the arguments read as before; there is no further condition.
-/
import Derived.Test.YtplogecejioolaaRows
import Derived.Test.YtplogecejioolaaPostLaw
import Derived.Test.YtplogecejioolaaRunesIs
import Derived.WalkKit
import Derived.ProofKit
import Derived.OpenShut
import Derived.ShutString
namespace Go.Proofs.Ytplogecejioolaa.runesKeys
open Go.ChangeShapes Go.WideShapes Go.ChangeAt Go.RowKit
open Go.ChangeMaps (open_string shut_string)
set_option linter.unusedVariables false

theorem own : ownKnob Try.prog.godebug = none := by kernel_rfl

set_option maxRecDepth 100000 in
set_option maxHeartbeats 8000000 in
theorem walk (a0 : Int) (a1 : Int) (w0 : (Lit.int .i64 a0).wf = true) (w1 : (Lit.int .i32 a1).wf = true) (w : World) :
    Calls Try.prog 9 #[.int .i64 a0, .int .i32 a1] w fun e w' => e = .returned (.bool true) ∧ Below w.heap.size w w' := by
  have hn := bounds_i64 w0
  have hr := bounds_i32 w1
  have hcase : a0 < 0 ∨ 50 < a0 ∨ (0 ≤ a0 ∧ a0 ≤ 50 ∧ a1 < 32) ∨ (0 ≤ a0 ∧ a0 ≤ 50 ∧ a1 = 127) ∨ (0 ≤ a0 ∧ a0 ≤ 50 ∧ 1114111 < a1) ∨ (0 ≤ a0 ∧ a0 ≤ 50 ∧ 55296 ≤ a1 ∧ a1 < 57344) ∨
    (0 ≤ a0 ∧ a0 ≤ 50 ∧ 32 ≤ a1 ∧ ¬ a1 = 127 ∧ a1 ≤ 1114111 ∧ a1 < 55296) ∨ (0 ≤ a0 ∧ a0 ≤ 50 ∧ 57344 ≤ a1 ∧ a1 ≤ 1114111) := by omega
  rcases hcase with h | h | ⟨h1, h2, h⟩ | ⟨h1, h2, h⟩ | ⟨h1, h2, h⟩ | ⟨h1, h2, h, h3⟩ | ⟨h1, h2, h, h3, h4, h5⟩ | ⟨h1, h2, h, h4⟩
  · go_enter Try.func9, Try.ntmps9
    go_wp2_with fail
    refine (begun_any _).mono ?_
    rintro e k1 ⟨rfl, hk⟩
    go_wp2
    go_ret
    exact ⟨rfl, hk⟩
  · go_enter Try.func9, Try.ntmps9
    go_wp2_with fail
    refine (begun_any _).mono ?_
    rintro e k1 ⟨rfl, hk⟩
    go_wp2
    go_ret
    exact ⟨rfl, hk⟩
  · go_enter Try.func9, Try.ntmps9
    go_wp2_with fail
    refine (begun_any _).mono ?_
    rintro e k1 ⟨rfl, hk⟩
    go_wp2
    go_ret
    exact ⟨rfl, hk⟩
  · obtain rfl := h
    go_enter Try.func9, Try.ntmps9
    go_wp2_with fail
    refine (begun_any _).mono ?_
    rintro e k1 ⟨rfl, hk⟩
    go_wp2
    go_ret
    exact ⟨rfl, hk⟩
  · go_enter Try.func9, Try.ntmps9
    go_wp2_with fail
    refine (begun_any _).mono ?_
    rintro e k1 ⟨rfl, hk⟩
    go_wp2
    go_ret
    exact ⟨rfl, hk⟩
  · go_enter Try.func9, Try.ntmps9
    go_wp2_with fail
    refine (begun_any _).mono ?_
    rintro e k1 ⟨rfl, hk⟩
    go_wp2
    go_ret
    exact ⟨rfl, hk⟩
  · have hb127 : (a1 == 127) = false := by rw [beq_eq_false_iff_ne]; exact h3
    have hrok : Ru.rok a1.toNat := by unfold Ru.rok; omega
    have hrne : a1.toNat ≠ 127 := by omega
    have hr32 : 32 ≤ a1.toNat := by omega
    have hel := Ru.enc_w a1.toNat
    have hel2 := hel.2
    have hel1 := hel.1
    clear hel
    have henc : Lib.encodeRune a1 = Ru.enc a1.toNat := by unfold Ru.enc; congr 1; omega
    have HENC := Lib.hid henc; clear henc
    have HRNE := Lib.hid hrne; clear hrne
    obtain ⟨n, rfl⟩ := Int.eq_ofNat_of_zero_le h1
    go_enter Try.func9, Try.ntmps9
    go_wp2_with fail
    refine (begun_any _).mono ?_
    rintro e k1 ⟨rfl, hk⟩
    go_wp2
    go_loopw [6, 7] (fun s i wr => ∃ k : Nat, i = .int .i64 k ∧ s = .string ⟨(Ru.encs (List.replicate k a1.toNat)).toArray⟩ ∧ k ≤ n ∧ (Ru.encs (List.replicate k a1.toNat)).length ≤ 4 * k ∧ Below w.heap.size w wr) (fun _ i _ => n - (intOf i).toNat)
    case atStart => exact ⟨0, rfl, rfl, Nat.zero_le _, Nat.le_refl _, hk⟩
    case round =>
      obtain ⟨k, rfl, rfl, hkn, hlen, hkw⟩ := hrel
      by_cases hlt : k < n
      · have hstep := Ru.encs_replicate k a1.toNat
        have HS := Lib.hid hstep; clear hstep
        go_wp2_with (go_at_call 25; refine (encode_is a1 (Ru.enc a1.toNat) _ HENC.out).mono ?_; rintro e w' ⟨rfl, rfl⟩)
        go_roundw
        case rel =>
          refine ⟨k + 1, by go_num, ?_, by omega, ?_, hkw⟩
          · rw [HS.out]; congr 1
          · rw [HS.out, List.length_append]; omega
        case measure => simp [intOf]; omega
      · obtain rfl : k = n := by omega
        have hkk := Ru.key_rep k a1.toNat hrok hr32 HRNE.out
        have hcc := Ru.cnt_rep k a1.toNat hrok
        have hll : (Ru.encs (List.replicate k a1.toNat)).length ≤ 200 := by omega
        have HKK := Lib.hid hkk; clear hkk
        have HCC := Lib.hid hcc; clear hcc
        clear hlen
        generalize Ru.encs (List.replicate k a1.toNat) = l at *
        have hl3 : (⟨l.toArray⟩ : ByteArray).size ≤ maxLen := by show l.length ≤ maxLen; unfold maxLen; omega
        go_wp2_with fail
        refine (key_is ⟨l.toArray⟩ _ _ HKK.out).mono ?_
        rintro e k2 ⟨rfl, h2⟩
        have hkw := hkw.trans (h2.mono hkw.size); clear h2
        by_cases hk1 : k < 1
        · obtain rfl : k = 0 := by omega
          go_wp2_with fail
          refine (count_is ⟨l.toArray⟩ _ _ hl3 HCC.out).mono ?_
          rintro e k3 ⟨rfl, h3⟩
          have hkw := hkw.trans (h3.mono hkw.size); clear h3
          go_wp2
          go_ret
          exact ⟨by simp, hkw⟩
        · by_cases hk40 : k ≤ 40
          · go_wp2_with fail
            refine (count_is ⟨l.toArray⟩ _ _ hl3 HCC.out).mono ?_
            rintro e k3 ⟨rfl, h3⟩
            have hkw := hkw.trans (h3.mono hkw.size); clear h3
            go_wp2
            go_ret
            exact ⟨by simp, hkw⟩
          · go_wp2_with fail
            refine (count_is ⟨l.toArray⟩ _ _ hl3 HCC.out).mono ?_
            rintro e k3 ⟨rfl, h3⟩
            have hkw := hkw.trans (h3.mono hkw.size); clear h3
            go_wp2
            go_ret
            exact ⟨by simp; omega, hkw⟩
  · have hb127 : (a1 == 127) = false := by rw [beq_eq_false_iff_ne]; omega
    have hrok : Ru.rok a1.toNat := by unfold Ru.rok; omega
    have hrne : a1.toNat ≠ 127 := by omega
    have hr32 : 32 ≤ a1.toNat := by omega
    have hel := Ru.enc_w a1.toNat
    have hel2 := hel.2
    have hel1 := hel.1
    clear hel
    have henc : Lib.encodeRune a1 = Ru.enc a1.toNat := by unfold Ru.enc; congr 1; omega
    have HENC := Lib.hid henc; clear henc
    have HRNE := Lib.hid hrne; clear hrne
    obtain ⟨n, rfl⟩ := Int.eq_ofNat_of_zero_le h1
    go_enter Try.func9, Try.ntmps9
    go_wp2_with fail
    refine (begun_any _).mono ?_
    rintro e k1 ⟨rfl, hk⟩
    go_wp2
    go_loopw [6, 7] (fun s i wr => ∃ k : Nat, i = .int .i64 k ∧ s = .string ⟨(Ru.encs (List.replicate k a1.toNat)).toArray⟩ ∧ k ≤ n ∧ (Ru.encs (List.replicate k a1.toNat)).length ≤ 4 * k ∧ Below w.heap.size w wr) (fun _ i _ => n - (intOf i).toNat)
    case atStart => exact ⟨0, rfl, rfl, Nat.zero_le _, Nat.le_refl _, hk⟩
    case round =>
      obtain ⟨k, rfl, rfl, hkn, hlen, hkw⟩ := hrel
      by_cases hlt : k < n
      · have hstep := Ru.encs_replicate k a1.toNat
        have HS := Lib.hid hstep; clear hstep
        go_wp2_with (go_at_call 25; refine (encode_is a1 (Ru.enc a1.toNat) _ HENC.out).mono ?_; rintro e w' ⟨rfl, rfl⟩)
        go_roundw
        case rel =>
          refine ⟨k + 1, by go_num, ?_, by omega, ?_, hkw⟩
          · rw [HS.out]; congr 1
          · rw [HS.out, List.length_append]; omega
        case measure => simp [intOf]; omega
      · obtain rfl : k = n := by omega
        have hkk := Ru.key_rep k a1.toNat hrok hr32 HRNE.out
        have hcc := Ru.cnt_rep k a1.toNat hrok
        have hll : (Ru.encs (List.replicate k a1.toNat)).length ≤ 200 := by omega
        have HKK := Lib.hid hkk; clear hkk
        have HCC := Lib.hid hcc; clear hcc
        clear hlen
        generalize Ru.encs (List.replicate k a1.toNat) = l at *
        have hl3 : (⟨l.toArray⟩ : ByteArray).size ≤ maxLen := by show l.length ≤ maxLen; unfold maxLen; omega
        go_wp2_with fail
        refine (key_is ⟨l.toArray⟩ _ _ HKK.out).mono ?_
        rintro e k2 ⟨rfl, h2⟩
        have hkw := hkw.trans (h2.mono hkw.size); clear h2
        by_cases hk1 : k < 1
        · obtain rfl : k = 0 := by omega
          go_wp2_with fail
          refine (count_is ⟨l.toArray⟩ _ _ hl3 HCC.out).mono ?_
          rintro e k3 ⟨rfl, h3⟩
          have hkw := hkw.trans (h3.mono hkw.size); clear h3
          go_wp2
          go_ret
          exact ⟨by simp, hkw⟩
        · by_cases hk40 : k ≤ 40
          · go_wp2_with fail
            refine (count_is ⟨l.toArray⟩ _ _ hl3 HCC.out).mono ?_
            rintro e k3 ⟨rfl, h3⟩
            have hkw := hkw.trans (h3.mono hkw.size); clear h3
            go_wp2
            go_ret
            exact ⟨by simp, hkw⟩
          · go_wp2_with fail
            refine (count_is ⟨l.toArray⟩ _ _ hl3 HCC.out).mono ?_
            rintro e k3 ⟨rfl, h3⟩
            have hkw := hkw.trans (h3.mono hkw.size); clear h3
            go_wp2
            go_ret
            exact ⟨by simp; omega, hkw⟩

set_option maxRecDepth 100000 in
theorem lifted (os : Os) (started : os.Started) (H : Type) (enc : TypeId × Value → H) :
    ReturnsInHanded {} Try.checked os 9 .any (Rows.runesKeysSpec.pre6 enc Try.prog Try.f9 Rows.runesKeysRow.domain false) (Rows.runesKeysSpec.post enc Try.prog Try.f9 false true false false) := by
  refine returnsInHanded_of_change (C := Try.checked) own started (by kernel_rfl) Try.func9
    (ChangeSpec.witness6 (enc := enc) (C := Try.checked) false ⟨#[], #[.int .i64 0, .int .i32 0], []⟩ 8 (by kernel_rfl) (by kernel_rfl) (by kernel_rfl) (by kernel_rfl)) ?_
  intro W base args ds gs before hval0 hW hcnd _
  have hval : ∀ (j : Nat) t v, Try.f9.params[j]? = some t → args[j]? = some v → Value.okWide Try.prog W .any base t v := hval0
  have hW' := hW
  obtain ⟨p, q, hA0, hV, rfl, hfz, hnd⟩ := hW
  have hA : DataW.TrodAll enc Try.prog W 0 (fun _ => true) true Try.f9.params.toList args.toList ds p := hA0
  rw [Try.params9] at hA hval
  obtain ⟨v0, vs0, d0, ds0, p0, q0, hargs, rfl, rfl, h0, r0⟩ := trodAll_cons hA
  obtain ⟨v1, vs1, d1, ds1, p1, q1, rfl, rfl, rfl, h1, r1⟩ := trodAll_cons r0
  obtain ⟨rfl, rfl, rfl⟩ := trodAll_nil r1
  obtain rfl : args = #[v0, v1] := by cases args; simp_all
  obtain ⟨rfl, rfl⟩ := trodVars_none hV
  obtain ⟨a0, rfl, rfl, rfl, w0⟩ := open_int Try.underlying3 (hval 0 3 v0 rfl rfl) h0
  obtain ⟨a1, rfl, rfl, rfl, w1⟩ := open_int Try.underlying21 (hval 1 21 v1 rfl rfl) h1
  clear hA0 hval0
  simp only [List.append_nil] at hW'
  refine (walk a0 a1 w0 w1 W).mono fun e W' ⟨he, hg⟩ => ?_
  subst he
  exact ⟨_, rfl, post_law hW' (fun _ _ _ => (trodAll_cons_mk (shut_bool Try.underlying4 _) trodAll_mk0)) (fun sp => (trodAll_cons_mk (shut_int Try.underlying3 w0) (trodAll_cons_mk (shut_int Try.underlying21 w1) trodAll_mk0))) (fun _ => rfl) hg (ok_one (by kernel_rfl) rfl (okWide_bool_mk Try.underlying4 _))⟩

theorem over : Rows.runesKeysRow.holds Try.pinned (OpenSpec.ofChange Rows.runesKeysSpec) :=
  OpenClaim.holds_of_wide 9 Try.f9 rfl rfl rfl rfl rfl rfl rfl ⟨rfl, rfl, rfl, rfl, rfl⟩ rfl rfl rfl rfl rfl (by kernel_rfl) Try.func9 (by kernel_rfl)
    (of_decide_eq_true (by kernel_rfl)) (by unfold Func.isWrapper; first | (rw [if_pos (by decide +kernel)]; kernel_rfl) | (rw [if_neg (by decide +kernel)]; exact ⟨rfl, rfl⟩))
    (fun os started H enc _ => lifted os started H enc)

/-- the statement -/
theorem proved : Rows.RunesKeysSaid := over
#print axioms proved
end Go.Proofs.Ytplogecejioolaa.runesKeys
