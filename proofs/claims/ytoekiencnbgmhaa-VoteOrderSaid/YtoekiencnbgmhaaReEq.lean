/-
  The reference's Eq and May on values as data say what the plain functions say.
  Integers are in their ranges; a text has at most 1,000,000 bytes.
-/
import Derived.Test.YtoekiencnbgmhaaReRunes
set_option linter.unusedSimpArgs false
set_option linter.unusedVariables false
namespace Go.Proofs.Ytoekiencnbgmhaa
open Go.RowKit
set_option maxRecDepth 100000

/-- a value as data -/
structure Raw where
  kind : Int
  n : Int
  s : ByteArray
def Raw.val (r : Raw) : Value := .agg #[.int .i64 r.kind, .int .i64 r.n, .string r.s]
def eqR (a b : Raw) : Bool := a.kind == b.kind && a.n == b.n && a.s.data.toList == b.s.data.toList
def mayR (r : Raw) : Bool := if r.kind = 0 then r.n == 0 && r.s.data.toList.isEmpty else if r.kind = 1 then r.s.data.toList.isEmpty else if r.kind = 2 then r.n == 0 && Ru.vld r.s.data.toList && decide (r.s.size ≤ 200) else false
def Bl (b : Bool) (w : World) (e : Ending) (w' : World) : Prop := e = .returned (.bool b) ∧ Below w.heap.size w w'
theorem below_two (w : World) (o p : Obj) : Below w.heap.size w ((w.alloc o).alloc p) := ((Below.refl _ _).alloc (Nat.le_refl _) _).alloc (by simp) _
theorem below_one (w : World) (o : Obj) : Below w.heap.size w (w.alloc o) := (Below.refl _ _).alloc (Nat.le_refl _) _

end Go.Proofs.Ytoekiencnbgmhaa
