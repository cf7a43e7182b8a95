/-
  The reference's PutRaw writes a value's kind, and its number or text, in new memory.
  Integers are in their ranges; a text has at most 1,000,000 bytes.
-/
import Derived.Test.YtoekiencnbgmhaaRePutText
import Derived.Test.YtoekiencnbgmhaaReEq
set_option linter.unusedSimpArgs false
set_option linter.unusedVariables false
namespace Go.Proofs.Ytoekiencnbgmhaa
open Go.RowKit
set_option maxRecDepth 100000

def putR (r : Raw) : List UInt8 := Nu.put r.kind ++ (if r.kind = 1 then Nu.put r.n else if r.kind = 2 then Nu.putT r.s.data.toList else [])
def Raw.ok (r : Raw) : Prop := (-9223372036854775808 ≤ r.kind ∧ r.kind ≤ 9223372036854775807) ∧ (-9223372036854775808 ≤ r.n ∧ r.n ≤ 9223372036854775807) ∧ r.s.size ≤ 1050000
theorem made_app {l m : List UInt8} {w w' : World} {v : Value} (hown : w'.ownsRow w.heap.size 5 1 v (l.length + m.length) (Lib.byteCells l ++ Lib.byteCells m)) (hb : Below w.heap.size w w') : Made (l ++ m) w (.returned v) w' :=
  ⟨v, rfl, by unfold OwnB; rw [List.length_append, Lib.byteCells_append]; exact hown, hb⟩
theorem putT_len (s : ByteArray) : (Nu.putT s.data.toList).length ≤ s.size + 10 := by
  have h1 := Nu.put_len (s.data.toList.length : Int)
  unfold Nu.putT; rw [List.length_append]
  have e : s.data.toList.length = s.size := by rw [Array.length_toList]; rfl
  omega
theorem putT_ne (l : List UInt8) : 1 ≤ (Nu.putT l).length := by
  have h1 := Nu.put_ne (l.length : Int); unfold Nu.putT; rw [List.length_append]; omega

end Go.Proofs.Ytoekiencnbgmhaa
