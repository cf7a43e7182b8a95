/-
  A function returns what the plain functions say: L1Cut.
-/
import Derived.Test.YtmpdjioclalifaaDoorProg
import Derived.Test.YtmpdjioclalifaaDoorWBase
set_option linter.unusedSimpArgs false
set_option linter.unusedVariables false
namespace Go.Proofs.YtmpdjioclalifaaDoor
open Go.RowKit
set_option maxRecDepth 100000

/-- the first bytes of a text -/
def cutS (s : ByteArray) (n : Nat) : ByteArray := if n < s.size then s.extract 0 n else s
theorem cutS_size (s : ByteArray) (n : Nat) : (cutS s n).size ≤ n := by
  unfold cutS; split
  · rw [ByteArray.size_extract]; omega
  · omega
end Go.Proofs.YtmpdjioclalifaaDoor
