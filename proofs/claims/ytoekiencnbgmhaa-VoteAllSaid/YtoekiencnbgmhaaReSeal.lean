/-
  The reference's Seal makes a frame as the plain function says, in new memory.
  The bytes are there in memory, at most 1,000,000.
-/
import Derived.Test.YtoekiencnbgmhaaReSum
import Derived.Test.YtoekiencnbgmhaaRePut
import Derived.Test.YtoekiencnbgmhaaWAppend
set_option linter.unusedSimpArgs false
set_option linter.unusedVariables false
namespace Go.Proofs.Ytoekiencnbgmhaa
open Go.RowKit
set_option maxRecDepth 100000

def fourB (n : Nat) : List UInt8 := [(n / 16777216 % 256).toUInt8, (n / 65536 % 256).toUInt8, (n / 256 % 256).toUInt8, (n % 256).toUInt8]
def headB (kind : Int) (l : List UInt8) : List UInt8 := kind.toNat.toUInt8 :: Nu.put (l.length : Int)
def sealB (kind : Int) (l : List UInt8) : List UInt8 := if kind < 1 ∨ 255 < kind ∨ 4000 < l.length then [] else headB kind l ++ fourB (crcSum (headB kind l ++ l)) ++ l
end Go.Proofs.Ytoekiencnbgmhaa
