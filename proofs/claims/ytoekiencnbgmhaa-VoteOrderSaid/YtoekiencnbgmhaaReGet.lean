/-
  The reference's Get reads a number as the plain function says, whatever the bytes.
  The bytes are there in memory, at most as many as the model lets a slice have.
-/
import Derived.Test.YtoekiencnbgmhaaWBytes
import Derived.Test.YtoekiencnbgmhaaNumPlain
set_option linter.unusedSimpArgs false
set_option linter.unusedVariables false
namespace Go.Proofs.Ytoekiencnbgmhaa
open Go.RowKit
set_option maxRecDepth 100000

def GotN (r : Int × Nat × Nat) (w : World) (e : Ending) (w' : World) : Prop := e = .returned (.tuple #[.int .i64 r.1, .int .i64 r.2.1, .int .i64 r.2.2]) ∧ w = w'
theorem gstep (l : List UInt8) (i u p : Nat) (h : Nu.getF i u p (l.drop i) = Nu.get l) (hi : i < l.length) :
    Nu.get l = if (i = 9 ∧ 1 < l[i].toNat) ∨ (0 < i ∧ l[i].toNat = 0) then (0, 0, 1) else if l[i].toNat < 128 then (Nu.unzz (u + l[i].toNat % 128 * p), i + 1, 0) else Nu.getF (i + 1) (u + l[i].toNat % 128 * p) (p * 128) (l.drop (i + 1)) := by
  rw [← h, List.drop_eq_getElem_cons hi]; rfl
theorem got3 {r : Int × Nat × Nat} {w : World} {a b c : Int} (ha : a = r.1) (hb : b = r.2.1) (hc : c = r.2.2) : GotN r w (.returned (.tuple #[.int .i64 a, .int .i64 b, .int .i64 c])) w := ⟨by rw [ha, hb, hc], rfl⟩
theorem mul_bd (x k un : Nat) (hx : x < 128) (hk : k ≤ 8) (hun : un < 128 ^ k) : x * 128 ^ k + un < 9223372036854775808 ∧ 128 ^ k ≤ 72057594037927936 := by
  have h1 : (128 : Nat) ^ k ≤ 128 ^ 8 := Nat.pow_le_pow_right (by decide) hk
  have h2 : (128 : Nat) ^ 8 = 72057594037927936 := by decide
  have h3 : x * 128 ^ k ≤ 127 * 128 ^ k := Nat.mul_le_mul_right _ (by omega)
  omega
theorem unzz_odd (N : Nat) (h : N % 2 = 1) : Nu.unzz N = -((N : Int) / 2) - 1 := by unfold Nu.unzz; rw [if_pos h]; omega
theorem unzz_even (N : Nat) (h : ¬ N % 2 = 1) : Nu.unzz N = (N : Int) / 2 := by unfold Nu.unzz; rw [if_neg h]; omega

end Go.Proofs.Ytoekiencnbgmhaa
