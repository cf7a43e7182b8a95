/-
  Package value's may says which raw values may be.
  A text has at most 1,000,000 bytes.
-/
import Derived.Test.YtdhppekfehbngaaReEq
import Derived.Test.YtdhppekfehbngaaRuValid
set_option linter.unusedSimpArgs false
set_option linter.unusedVariables false
namespace Go.Proofs.Ytdhppekfehbngaa
open Go.RowKit
set_option maxRecDepth 100000

set_option maxHeartbeats 4000000 in
theorem vmay_any (r : Raw) (w : World) (hs : r.s.size ≤ 1000000) : Calls Try.prog 50 #[r.val] w (Bl (mayR r) w) := by
  obtain ⟨k, n, t⟩ := r
  simp only at hs
  unfold Raw.val
  have htl := ByteArray.toList_eq t
  by_cases h0 : k = 0
  · subst h0
    by_cases hn : n = 0
    · subst hn
      go_enter Try.func50, Try.ntmps50
      go_wp2
      go_ret
      exact ⟨ret_bool (by unfold mayR; simp), below_one _ _⟩
    · have hn2 : (n == 0) = false := by rw [beq_eq_false_iff_ne]; exact hn
      have HN := Lib.hid hn; clear hn
      go_enter Try.func50, Try.ntmps50
      go_wp2
      go_ret
      exact ⟨ret_bool (by unfold mayR; simp [HN.out]), below_one _ _⟩
  · by_cases h1 : k = 1
    · subst h1
      go_enter Try.func50, Try.ntmps50
      go_wp2
      go_ret
      exact ⟨ret_bool (by unfold mayR; simp), below_one _ _⟩
    · by_cases h2 : k = 2
      · subst h2
        obtain ⟨vd, hvd⟩ : ∃ v, Ru.vld t.data.toList = v := ⟨_, rfl⟩
        have hm : mayR ⟨2, n, t⟩ = (n == 0 && vd && decide (t.size ≤ 200)) := by unfold mayR; simp [hvd]
        have hval := fun W => valid_is t W vd hvd
        have HM := Lib.hid hm; clear hm
        have HV := Lib.hid hval; clear hval hvd htl
        by_cases hn : n = 0
        · subst hn
          by_cases hl : t.size ≤ 200
          · go_enter Try.func50, Try.ntmps50
            go_wp2_with fail
            refine (HV.out _).mono ?_
            rintro e w1 ⟨rfl, hb⟩
            have hbw : Below w.heap.size w w1 := (below_one w _).trans (hb.mono (by simp))
            clear hb
            go_wp2
            go_ret
            exact ⟨ret_bool (by rw [HM.out]; simp [hl]), hbw⟩
          · go_enter Try.func50, Try.ntmps50
            go_wp2
            go_ret
            exact ⟨ret_bool (by rw [HM.out]; simp [hl]), below_one _ _⟩
        · have hn2 : (n == 0) = false := by rw [beq_eq_false_iff_ne]; exact hn
          have HN := Lib.hid hn; clear hn
          go_enter Try.func50, Try.ntmps50
          go_wp2
          go_ret
          exact ⟨ret_bool (by rw [HM.out]; simp [HN.out]), below_one _ _⟩
      · have k0 : (k == 0) = false := by rw [beq_eq_false_iff_ne]; exact h0
        have k1 : (k == 1) = false := by rw [beq_eq_false_iff_ne]; exact h1
        have k2 : (k == 2) = false := by rw [beq_eq_false_iff_ne]; exact h2
        have hm : mayR ⟨k, n, t⟩ = false := by unfold mayR; simp [h0, h1, h2]
        have HM := Lib.hid hm; clear hm h0 h1 h2
        go_enter Try.func50, Try.ntmps50
        go_wp2
        go_ret
        exact ⟨ret_bool HM.out.symm, below_one _ _⟩
end Go.Proofs.Ytdhppekfehbngaa
