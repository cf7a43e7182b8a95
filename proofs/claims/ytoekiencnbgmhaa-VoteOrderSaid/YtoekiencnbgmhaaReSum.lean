/-
  The reference's Sum reckons a sum bit by bit, as the plain function does.
  The bytes are there in memory.
-/
import Derived.Test.YtoekiencnbgmhaaWBytes
import Derived.Laws.BitsAllLaws
import Derived.Laws.Bits64
set_option linter.unusedSimpArgs false
set_option linter.unusedVariables false
namespace Go.Proofs.Ytoekiencnbgmhaa
open Go.RowKit
set_option maxRecDepth 100000

def crcBit (c : Nat) : Nat := if c % 2 = 1 then (c / 2) ^^^ 3988292384 else c / 2
def crcBits : Nat → Nat → Nat
  | 0, c => c
  | k + 1, c => crcBits k (crcBit c)
def crcL (c : Nat) : List UInt8 → Nat
  | [] => c
  | b :: t => crcL (crcBits 8 (c ^^^ b.toNat)) t
def crcSum (l : List UInt8) : Nat := 4294967295 - crcL 4294967295 l
theorem crcBit_lt (c : Nat) (h : c < 4294967296) : crcBit c < 4294967296 := by
  unfold crcBit
  split
  · exact Nat.xor_lt_two_pow (n := 32) (by omega) (by omega)
  · omega
theorem crcBits_lt : ∀ (k c : Nat), c < 4294967296 → crcBits k c < 4294967296
  | 0, _, h => h
  | k + 1, c, h => crcBits_lt k _ (crcBit_lt c h)
theorem crcX_lt (c : Nat) (b : UInt8) (h : c < 4294967296) : c ^^^ b.toNat < 4294967296 := by
  have := b.toNat_lt
  exact Nat.xor_lt_two_pow (n := 32) (by omega) (by omega)
theorem crcL_lt : ∀ (l : List UInt8) (c : Nat), c < 4294967296 → crcL c l < 4294967296
  | [], _, h => h
  | b :: t, c, h => crcL_lt t _ (crcBits_lt 8 _ (crcX_lt c b h))
def Num32 (n : Nat) (w : World) (e : Ending) (w' : World) : Prop := e = .returned (.int .u32 n) ∧ w = w'
end Go.Proofs.Ytoekiencnbgmhaa
