/-
  Four bits of a sum at once: by the table that the polynomial makes.
  The register has thirty-two bits.
-/
import Derived.Test.YtmpdjioclalifaaDoorReSum
set_option linter.unusedSimpArgs false
set_option linter.unusedVariables false
namespace Go.Proofs.YtmpdjioclalifaaDoor
open Go.RowKit
set_option maxRecDepth 100000

def crcM (b : Nat) : Nat := if b = 1 then 3988292384 else 0
theorem crcBit_m (c : Nat) : crcBit c = c / 2 ^^^ crcM (c % 2) := by
  unfold crcBit crcM; split <;> simp
theorem xor_half (a b : Nat) : (a ^^^ b) / 2 = a / 2 ^^^ b / 2 := by
  have := Nat.shiftRight_xor_distrib (a := a) (b := b) (i := 1)
  simpa [Nat.shiftRight_eq_div_pow] using this
theorem xor_low (a b : Nat) (h : b % 2 = 0) : (a ^^^ b) % 2 = a % 2 := by
  have h1 : (a ^^^ b).testBit 0 = (a.testBit 0 ^^ b.testBit 0) := Nat.testBit_xor ..
  simp only [Nat.testBit_zero] at h1
  rw [h] at h1
  rcases Nat.mod_two_eq_zero_or_one a with ha | ha <;> rcases Nat.mod_two_eq_zero_or_one (a ^^^ b) with hx | hx <;> simp_all
theorem crcM_low (b k : Nat) (hk : k ≤ 3) : (crcM b / 2 ^ k) % 2 = 0 := by
  unfold crcM
  split
  · have : k = 0 ∨ k = 1 ∨ k = 2 ∨ k = 3 := by omega
    rcases this with rfl | rfl | rfl | rfl <;> decide
  · simp
theorem crcBits_four (c : Nat) : crcBits 4 c = c / 16 ^^^ (crcM (c % 2) / 8 ^^^ (crcM (c / 2 % 2) / 4 ^^^ (crcM (c / 4 % 2) / 2 ^^^ crcM (c / 8 % 2)))) := by
  have l0 := fun b => crcM_low b 0 (by omega)
  have l1 := fun b => crcM_low b 1 (by omega)
  have l2 := fun b => crcM_low b 2 (by omega)
  simp only [Nat.pow_zero, Nat.div_one, Nat.pow_one, show (2 : Nat) ^ 2 = 4 from rfl] at l0 l1 l2
  show crcBit (crcBit (crcBit (crcBit c))) = _
  have e1 := crcBit_m c
  have e2 : crcBit (crcBit c) = c / 4 ^^^ (crcM (c % 2) / 2 ^^^ crcM (c / 2 % 2)) := by
    rw [crcBit_m (crcBit c), e1, xor_half, xor_low _ _ (l0 _), Nat.div_div_eq_div_mul, Nat.xor_assoc]
  have p2 : (crcM (c % 2) / 2 ^^^ crcM (c / 2 % 2)) % 2 = 0 := by rw [xor_low _ _ (l0 _)]; exact l1 _
  have e3 : crcBit (crcBit (crcBit c)) = c / 8 ^^^ (crcM (c % 2) / 4 ^^^ (crcM (c / 2 % 2) / 2 ^^^ crcM (c / 4 % 2))) := by
    rw [crcBit_m (crcBit (crcBit c)), e2, xor_half, xor_half, xor_low _ _ p2, Nat.div_div_eq_div_mul, Nat.div_div_eq_div_mul, Nat.xor_assoc, Nat.xor_assoc]
  have p3 : (crcM (c % 2) / 4 ^^^ (crcM (c / 2 % 2) / 2 ^^^ crcM (c / 4 % 2))) % 2 = 0 := by
    have : (crcM (c / 2 % 2) / 2 ^^^ crcM (c / 4 % 2)) % 2 = 0 := by rw [xor_low _ _ (l0 _)]; exact l1 _
    rw [xor_low _ _ this]; exact l2 _
  rw [crcBit_m (crcBit (crcBit (crcBit c))), e3, xor_half, xor_half, xor_half, xor_low _ _ p3, Nat.div_div_eq_div_mul, Nat.div_div_eq_div_mul, Nat.div_div_eq_div_mul, Nat.xor_assoc, Nat.xor_assoc, Nat.xor_assoc]
def crcTab : List Nat := [0, 498536548, 997073096, 651767980, 1994146192, 1802195444, 1303535960, 1342533948, 3988292384, 4027552580, 3604390888, 3412177804, 2607071920, 2262029012, 2685067896, 3183342108]
theorem crcTab_lt : ∀ k, k < 16 → crcTab.getD k 0 < 4294967296 := by decide
theorem crcTab_is : ∀ k, k < 16 → crcM (k % 2) / 8 ^^^ (crcM (k / 2 % 2) / 4 ^^^ (crcM (k / 4 % 2) / 2 ^^^ crcM (k / 8 % 2))) = crcTab.getD k 0 := by decide
theorem crcBits_tab (c : Nat) : crcBits 4 c = c / 16 ^^^ crcTab.getD (c % 16) 0 := by
  rw [crcBits_four, ← crcTab_is (c % 16) (by omega), show c % 16 % 2 = c % 2 by omega, show c % 16 / 2 % 2 = c / 2 % 2 by omega, show c % 16 / 4 % 2 = c / 4 % 2 by omega, show c % 16 / 8 % 2 = c / 8 % 2 by omega]
theorem crcBits_at (c q : Nat) (hq : c % 16 = q) : crcBits 4 c = c / 16 ^^^ crcTab.getD q 0 := by
  subst hq; exact crcBits_tab c
theorem crcBits_more : ∀ (a b c : Nat), crcBits (a + b) c = crcBits b (crcBits a c)
  | 0, b, c => by rw [Nat.zero_add]; rfl
  | a + 1, b, c => by rw [show a + 1 + b = (a + b) + 1 by omega]; exact crcBits_more a b (crcBit c)
theorem crcBits_8 (c : Nat) : crcBits 8 c = crcBits 4 (crcBits 4 c) := crcBits_more 4 4 c
theorem u32_not (c : Nat) (h : c < 4294967296) : bits BinOp.xor IntKind.u32 IntKind.u32.max (c : Int) = ((4294967295 - c : Nat) : Int) := by
  have e := u32_xor_nat 4294967295 c (by omega) h
  have e2 : 4294967295 ^^^ c = 4294967295 - c := by
    apply Nat.eq_of_testBit_eq
    intro i
    rw [Nat.testBit_xor, show (4294967295 : Nat) = 2 ^ 32 - 1 from rfl, Nat.testBit_two_pow_sub_one, show 2 ^ 32 - 1 - c = 2 ^ 32 - (c + 1) by omega, Nat.testBit_two_pow_sub_succ (by omega)]
    by_cases hi : i < 32
    · simp [hi]
    · have : c.testBit i = false := Nat.testBit_lt_two_pow (Nat.lt_of_lt_of_le h (Nat.pow_le_pow_right (n := 2) (i := 32) (by decide) (by omega)))
      simp [hi, this]
  rw [e2] at e; exact e
/-- a sum of a text and l behind it, where s is the text's -/
def crcMore (s : Nat) (l : List UInt8) : Nat := 4294967295 - crcL (4294967295 - s) l
theorem crcMore_zero (l : List UInt8) : crcMore 0 l = crcSum l := rfl
theorem crcL_append : ∀ (a b : List UInt8) (c : Nat), crcL c (a ++ b) = crcL (crcL c a) b
  | [], _, _ => rfl
  | _ :: a, b, _ => crcL_append a b _
theorem crcMore_append (a b : List UInt8) : crcMore (crcSum a) b = crcSum (a ++ b) := by
  have := crcL_lt a 4294967295 (by omega)
  unfold crcMore crcSum
  rw [crcL_append]
  congr 2
  omega
/-- the table of package crc lies in memory as it was laid -/
def Tbl (w : World) : Prop := ∀ k, k < 16 → w.cell? ⟨0, k, none⟩ = some (.int .u32 ((crcTab.getD k 0 : Nat) : Int))
end Go.Proofs.YtmpdjioclalifaaDoor
