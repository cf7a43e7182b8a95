/-
  A function returns what the plain functions say: L1Cut.
-/
import Derived.Test.YtoekiencnbgmhaaProg
import Derived.Test.YtoekiencnbgmhaaWBase
set_option linter.unusedSimpArgs false
set_option linter.unusedVariables false
namespace Go.Proofs.Ytoekiencnbgmhaa
open Go.RowKit
set_option maxRecDepth 100000

theorem lcut_any (s : ByteArray) (n : Int) (w : World) (h0 : 0 ≤ n) (h1 : n ≤ 1050000) :
    Calls Try.prog 39 #[.string s, .int .i64 n] w (Some n w) := by
  obtain ⟨k, rfl⟩ := Int.eq_ofNat_of_zero_le h0
  by_cases h : k < s.size
  · go_enter Try.func39, Try.ntmps39
    go_wp2
    go_ret
    exact ⟨_, by rw [ByteArray.size_extract]; omega, rfl, rfl⟩
  · go_enter Try.func39, Try.ntmps39
    go_wp2
    go_ret
    exact ⟨s, by omega, rfl, rfl⟩
/-- the first bytes of a text -/
def cutS (s : ByteArray) (n : Nat) : ByteArray := if n < s.size then s.extract 0 n else s
theorem cutS_size (s : ByteArray) (n : Nat) : (cutS s n).size ≤ n := by
  unfold cutS; split
  · rw [ByteArray.size_extract]; omega
  · omega
theorem lcut_to (s t : ByteArray) (k : Nat) (w : World) (h1 : k ≤ 1050000) (ht : cutS s k = t) :
    Calls Try.prog 39 #[.string s, .int .i64 k] w fun e w' => e = .returned (.string t) ∧ w = w' := by
  subst ht
  by_cases h : k < s.size
  · have hc : cutS s k = s.extract 0 k := if_pos h
    have HC := Lib.hid hc; clear hc
    go_enter Try.func39, Try.ntmps39
    go_wp2
    go_ret
    exact ⟨by rw [HC.out]; rfl, rfl⟩
  · have hc : cutS s k = s := if_neg h
    have HC := Lib.hid hc; clear hc
    go_enter Try.func39, Try.ntmps39
    go_wp2
    go_ret
    exact ⟨by rw [HC.out]; rfl, rfl⟩
end Go.Proofs.Ytoekiencnbgmhaa
