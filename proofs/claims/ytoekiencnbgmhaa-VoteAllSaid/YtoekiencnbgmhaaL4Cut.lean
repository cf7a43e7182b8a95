/-
  What the statements cut their values and bytes to: some value of the same kind and number with a text of at most 220 bytes; the first bytes.
  There are no conditions beyond those that each lemma names.
-/
import Derived.Test.YtoekiencnbgmhaaReEq
import Derived.Test.YtoekiencnbgmhaaWBytes
import Derived.Test.YtoekiencnbgmhaaL1Cut
set_option linter.unusedSimpArgs false
set_option linter.unusedVariables false
namespace Go.Proofs.Ytoekiencnbgmhaa
open Go.RowKit
set_option maxRecDepth 100000

/-- a value whose text has been cut -/
def CutR (r : Raw) (w : World) (e : Ending) (w' : World) : Prop := ∃ t : ByteArray, (t.size : Int) ≤ 220 ∧ e = .returned (Raw.mk r.kind r.n t).val ∧ Below w.heap.size w w'
/-- the first bytes -/
def Sh (B : Nat) (l : List UInt8) (m : Nat) (w : World) (e : Ending) (w' : World) : Prop := ∃ A c, e = .returned (.slice A (l.take m).length c) ∧ Byt w B (.slice A (l.take m).length c) (l.take m) ∧ w = w'
end Go.Proofs.Ytoekiencnbgmhaa
