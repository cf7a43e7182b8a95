/-
  The reference's mayOps says which lists of operations may be.
-/
import Derived.Test.YtbdengcblncfmaaReMayOp
import Derived.Test.YtbdengcblncfmaaWBytes
import Derived.Deep.MidRow
set_option linter.unusedSimpArgs false
set_option linter.unusedVariables false
namespace Go.Proofs.Ytbdengcblncfmaa
open Go.RowKit
set_option maxRecDepth 100000

/-- the cells of an operation -/
def Opn.cs (o : Opn) : List Value := [.int .i64 o.kind, .string o.key, .int .i64 o.val.kind, .int .i64 o.val.n, .string o.val.s, .int .i64 o.old.kind, .int .i64 o.old.n, .string o.old.s, .int .i64 o.n]
/-- the slice value v reads as the operations l; its cells lie below block B -/
def Ops (w : World) (B : Nat) (v : Value) (l : List Opn) : Prop :=
  ∃ A c, v = .slice A l.length c ∧ l.length ≤ c ∧ (0 < l.length → ∃ g o, A = some ⟨g, o, Option.none⟩ ∧ g < B ∧ ∀ k (h : k < l.length), w.rangeAt g (o + k * 9) l[k].cs)
/-- its texts are no longer than what the texts' contracts ask -/
def Opn.small (o : Opn) : Prop := o.key.size ≤ 1000000 ∧ o.val.s.size ≤ 1000000 ∧ o.old.s.size ≤ 1000000
theorem range_below {w w' : World} {C g o : Nat} {cs : List Value} (h : w.rangeAt g o cs) (hb : Below C w w') (hg : g < C) : w'.rangeAt g o cs := fun j v hv => (hb.cell (p := ⟨g, o + j, Option.none⟩) hg).trans (h j v hv)
def mayOs (l : List Opn) : Bool := decide (1 ≤ l.length) && decide (l.length ≤ 8) && l.all mayO
end Go.Proofs.Ytbdengcblncfmaa
