/-
  The reference's Put writes a number seven bits a byte, in new memory.
  There are no conditions beyond the range of the number.
-/
import Derived.Test.YtoekiencnbgmhaaWInfo
import Derived.Test.YtoekiencnbgmhaaNumPlain
import Derived.Lib.Zigzag
import Derived.Laws.BitsAllLaws
set_option linter.unusedSimpArgs false
set_option linter.unusedVariables false
namespace Go.Proofs.Ytoekiencnbgmhaa
open Go.RowKit
set_option maxRecDepth 100000

theorem u64_not (n : Int) (h0 : n < 0) (h1 : -9223372036854775808 ≤ n) : bits BinOp.xor IntKind.u64 IntKind.u64.max (IntKind.u64.wrap (IntKind.u64.wrap n * 2)) = (Nu.zz n : Nat) := by
  have e1 : IntKind.u64.wrap (IntKind.u64.wrap n * 2) = 2 * n + 18446744073709551616 := by
    unfold IntKind.wrap; simp [IntKind.bits, IntKind.signed]; omega
  have e2 : IntKind.u64.max = 18446744073709551615 := rfl
  rw [e1, e2, u64_xor _ _ (by omega) (by omega) (by omega) (by omega)]
  have e3 := Lib.xor_ones64 (2 * n + 18446744073709551616).toNat (by omega)
  have e4 : (18446744073709551615 : Int).toNat = 2 ^ 64 - 1 := rfl
  rw [e4, e3]
  unfold Nu.zz; rw [if_pos h0]; omega
theorem vr_end (f u : Nat) (h : u < 128) (hf : 0 < f) : Nu.vr f u = [u.toUInt8] := by
  cases f with
  | zero => omega
  | succ f => simp only [Nu.vr, if_pos h]
theorem vr_more (f u : Nat) (h : ¬ u < 128) : Nu.vr (f + 1) u = (u % 128 + 128).toUInt8 :: Nu.vr f (u / 128) := by simp only [Nu.vr, if_neg h]
def Rest (n : Int) (f u : Nat) (done : List UInt8) : Prop := done ++ Nu.vr f u = Nu.put n ∧ u < 128 ^ f ∧ 0 < f ∧ done.length + f = 10
theorem rest_end' (n : Int) (f u : Nat) (done : List UInt8) (h : Rest n f u done) (hu : u < 128) : done ++ [u.toUInt8] = Nu.put n := by
  rw [← h.1, vr_end f u hu h.2.2.1]
theorem rest_more (n : Int) (f u : Nat) (done : List UInt8) (h : Rest n f u done) (hu : ¬ u < 128) : ∃ g, f = g + 1 ∧ Rest n g (u / 128) (done ++ [(u % 128 + 128).toUInt8]) := by
  obtain ⟨h1, h2, h3, h4⟩ := h
  cases f with
  | zero => omega
  | succ g =>
    have hg : 0 < g := by
      cases g with
      | zero => simp at h2; omega
      | succ g => omega
    refine ⟨g, rfl, ?_, ?_, hg, by simp; omega⟩
    · rw [← h1, vr_more g u hu]; simp
    · rw [Nat.pow_succ] at h2; omega
theorem rest_start (n : Int) (h0 : -9223372036854775808 ≤ n) (h1 : n ≤ 9223372036854775807) : Rest n 10 (Nu.zz n) [] := by
  have hz := Nu.zz_lt n h0 h1
  have : (128 : Nat) ^ 10 = 1180591620717411303424 := by decide
  exact ⟨rfl, by omega, by omega, rfl⟩
theorem cell_u8 (c : UInt8) (m : Int) (h : m = (c.toNat : Int)) : Value.int .u8 m = Value.int .u8 (c.toNat : Int) := by rw [h]
theorem bc_snoc (l : List UInt8) (c : UInt8) : Lib.byteCells (l ++ [c]) = Lib.byteCells l ++ [.int .u8 (c.toNat : Int)] := by simp [Lib.byteCells]

end Go.Proofs.Ytoekiencnbgmhaa
