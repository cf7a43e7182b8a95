/-
  The reference's good: which names of files may be.
  The text has at most 1,000,000 bytes.
-/
import Derived.Test.YtbdengcblncfmaaD9Plain
set_option linter.unusedSimpArgs false
set_option linter.unusedVariables false
namespace Go.Proofs.Ytbdengcblncfmaa
open Go.RowKit
set_option maxRecDepth 100000

set_option maxHeartbeats 1000000 in
theorem rgood_any (s : ByteArray) (w : World) (hs : s.size ≤ 1000000) : Calls Try.prog 30 #[.string s] w fun e w' => e = .returned (.bool (goodN s)) ∧ w = w' := by
  go_enter Try.func30, Try.ntmps30
  go_wp2_with fail
  go_loop [3] (fun i => ∃ k : Nat, i = .int .i64 k ∧ k ≤ s.size ∧ (s.data.toList.take k).all low8 = true) (fun i => s.size - (intOf i).toNat)
  case atStart => exact ⟨0, rfl, Nat.zero_le _, rfl⟩
  case round =>
    obtain ⟨k, rfl, hk, hal⟩ := hrel
    have HAL := Lib.hid hal; clear hal
    by_cases hlt : k < s.size
    · obtain ⟨x, hx⟩ : ∃ x, s[k] = x := ⟨_, rfl⟩
      have hk2 : k < s.data.toList.length := by simpa using hlt
      have hxl : s.data.toList[k] = x := by rw [← hx]; rfl
      have hb := x.toNat_lt
      by_cases hlow : low8 x = true
      · have h1 : 97 ≤ (x.toNat : Int) ∧ (x.toNat : Int) ≤ 122 := by have := of_decide_eq_true hlow; omega
        obtain ⟨h1, h2⟩ := h1
        have hnx : (s.data.toList.take (k + 1)).all low8 = true := by rw [List.take_succ_eq_append_getElem hk2, List.all_append, HAL.out, hxl]; simp [hlow]
        have HNX := Lib.hid hnx
        clear hnx hlow hxl hk2
        go_wp2
        go_round
        case rel => exact ⟨k + 1, by go_num, by omega, HNX.out⟩
        case measure => simp [intOf]; omega
      · have hno : goodN s = false := by
          unfold goodN
          rw [List.all_eq_false.2 ⟨x, by rw [← hxl]; exact List.getElem_mem hk2, hlow⟩]; rfl
        have HNO := Lib.hid hno
        have hcs : (x.toNat : Int) < 97 ∨ (97 ≤ (x.toNat : Int) ∧ 122 < (x.toNat : Int)) := by
          by_cases h : 97 ≤ x.toNat ∧ x.toNat ≤ 122
          · exact absurd (decide_eq_true h) hlow
          · omega
        clear hno hlow hxl hk2
        rcases hcs with h1 | ⟨h1, h2⟩
        all_goals
          go_wp2
          go_ret
          exact ⟨by rw [HNO.out]; rfl, rfl⟩
    · have hal2 : s.data.toList.all low8 = true := by
        have := HAL.out
        rw [List.take_of_length_le (by simp; omega)] at this
        exact this
      have hg : goodN s = decide (1 ≤ s.size ∧ s.size ≤ 10) := by unfold goodN; rw [hal2]; rfl
      have HG := Lib.hid hg
      have hge : (s.size : Int) ≤ k := by omega
      clear hg hal2
      have hcs : s.size = 0 ∨ (1 ≤ s.size ∧ s.size ≤ 10) ∨ 10 < s.size := by omega
      rcases hcs with h0 | ⟨h1, h2⟩ | h1
      · have h00 : (s.size : Int) = 0 := by omega
        have hgf : goodN s = false := by rw [HG.out, decide_eq_false (by omega)]
        have HGF := Lib.hid hgf
        clear hgf h0 hlt hge
        have hge : (0 : Int) ≤ k := by omega
        go_wp2
        go_ret
        exact ⟨by rw [HGF.out]; rfl, rfl⟩
      · have h3 : 1 ≤ (s.size : Int) := by omega
        have h4 : (s.size : Int) ≤ 10 := by omega
        have hgf : goodN s = true := by rw [HG.out, decide_eq_true ⟨h1, h2⟩]
        have HGF := Lib.hid hgf
        clear hgf h1 h2 hlt
        go_wp2
        go_ret
        exact ⟨by rw [HGF.out]; rfl, rfl⟩
      · have h3 : 1 ≤ (s.size : Int) := by omega
        have h4 : 10 < (s.size : Int) := by omega
        have hgf : goodN s = false := by rw [HG.out, decide_eq_false (by omega)]
        have HGF := Lib.hid hgf
        clear hgf h1 hlt
        go_wp2
        go_ret
        exact ⟨by rw [HGF.out, ← decide_eq_false (show ¬ (s.size : Int) ≤ 10 by omega)]; rfl, rfl⟩
end Go.Proofs.Ytbdengcblncfmaa
