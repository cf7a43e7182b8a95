/-
  A number's turning into a natural number and back, as package num does it.
  The conditions are the kinds' ranges.
-/
import Derived.Test.YtmpdjioclalifaaDoorWInfo
import Derived.Test.YtmpdjioclalifaaDoorNumPlain
import Derived.Lib.Zigzag
import Derived.Laws.BitsAllLaws
set_option linter.unusedSimpArgs false
set_option linter.unusedVariables false
namespace Go.Proofs.YtmpdjioclalifaaDoor
open Go.RowKit
set_option maxRecDepth 100000

theorem i64_not_all (n : Int) (h0 : -9223372036854775808 ≤ n) (h1 : n ≤ 9223372036854775807) : bits BinOp.xor IntKind.i64 (-1) n = -n - 1 := by
  by_cases hs : 0 ≤ n
  · obtain ⟨k, rfl⟩ := Int.eq_ofNat_of_zero_le hs
    exact Lib.i64_not k (by omega)
  · show IntKind.i64.wrap ((BitVec.ofInt 64 (-1) ^^^ BitVec.ofInt 64 n).toNat : Int) = _
    have a1 : (BitVec.ofInt 64 (-1)).toNat = 2 ^ 64 - 1 := by decide
    have a2 : (BitVec.ofInt 64 n).toNat = (n + 18446744073709551616).toNat := by
      rw [BitVec.toNat_ofInt]
      have e : n % ((2 ^ 64 : Nat) : Int) = n + 18446744073709551616 := by
        rw [show ((2 ^ 64 : Nat) : Int) = 18446744073709551616 from rfl]; omega
      rw [e]
    rw [BitVec.toNat_xor, a1, a2, Lib.xor_ones64 _ (by omega), IntKind.wrap_i64]
    omega
theorem u64_or1 (n : Nat) (h : n < 9223372036854775808) : bits BinOp.or IntKind.u64 ((n : Int) * 2) 1 = (n : Int) * 2 + 1 := by
  have e : ((n : Int) * 2) = ((n * 2 : Nat) : Int) := by omega
  rw [e, show (1 : Int) = ((1 : Nat) : Int) from rfl, u64_or_nat _ _ (by omega) (by omega), nat_join 1 (n * 2) 1 (by omega) (by omega)]
  rfl
theorem ret_u64 {a b : Int} (h : a = b) : Ending.returned (.int .u64 a) = .returned (.int .u64 b) := by rw [h]

set_option maxHeartbeats 2000000 in
theorem nunsigned_any (n : Int) (w : World) (h0 : -9223372036854775808 ≤ n) (h1 : n ≤ 9223372036854775807) : Calls Tryd.prog 31 #[.int .i64 n] w fun e w' => e = .returned (.int .u64 (Nu.zz n : Nat)) ∧ w = w' := by
  by_cases hs : n < 0
  · have e1 := i64_not_all n h0 h1
    obtain ⟨m, hm⟩ : ∃ m : Nat, -n - 1 = (m : Int) := Int.eq_ofNat_of_zero_le (by omega)
    have e2 : IntKind.u64.wrap (m : Int) = (m : Int) := by rw [IntKind.wrap_u64]; omega
    have e3 : IntKind.u64.wrap ((m : Int) * 2) = (m : Int) * 2 := by rw [IntKind.wrap_u64]; omega
    have e4 := u64_or1 m (by omega)
    rw [hm] at e1
    have e5 : ((Nu.zz n : Nat) : Int) = (m : Int) * 2 + 1 := by unfold Nu.zz; rw [if_pos hs]; omega
    have E5 := Lib.hid e5; clear e5
    have HM := Lib.hid hm; clear hm
    go_enter Tryd.func31, Tryd.ntmps31
    go_wp2
    go_ret
    refine ⟨ret_u64 ?_, rfl⟩
    rw [E5.out]
  · have e5 : ((Nu.zz n : Nat) : Int) = n * 2 := by unfold Nu.zz; rw [if_neg hs]; omega
    have E5 := Lib.hid e5; clear e5
    go_enter Tryd.func31, Tryd.ntmps31
    go_wp2
    go_ret
    exact ⟨ret_u64 E5.out.symm, rfl⟩

set_option maxHeartbeats 2000000 in
theorem nsigned_any (u : Nat) (w : World) (h1 : u < 18446744073709551616) : Calls Tryd.prog 32 #[.int .u64 u] w fun e w' => e = .returned (.int .i64 (Nu.unzz u)) ∧ w = w' := by
  have ea := Lib.u64_and1 (u : Int) (by omega) (by omega)
  have en := i64_not_all ((u : Int) / 2) (by omega) (by omega)
  by_cases hs : u % 2 = 1
  · have e5 : Nu.unzz u = -((u : Int) / 2) - 1 := by unfold Nu.unzz; rw [if_pos hs]; omega
    have eb : ((bits BinOp.and IntKind.u64 (u : Int) 1) == 1) = true := by rw [ea, beq_iff_eq]; omega
    have E5 := Lib.hid e5; clear e5 ea hs
    go_enter Tryd.func32, Tryd.ntmps32
    go_wp2
    go_ret
    refine ⟨ret_i64 ?_, rfl⟩
    rw [E5.out, ← en]
  · have e5 : Nu.unzz u = (u : Int) / 2 := by unfold Nu.unzz; rw [if_neg hs]; omega
    have eb : ((bits BinOp.and IntKind.u64 (u : Int) 1) == 1) = false := by rw [ea, beq_eq_false_iff_ne]; omega
    have E5 := Lib.hid e5; clear e5 ea hs
    go_enter Tryd.func32, Tryd.ntmps32
    go_wp2
    go_ret
    refine ⟨ret_i64 ?_, rfl⟩
    rw [E5.out]
end Go.Proofs.YtmpdjioclalifaaDoor
