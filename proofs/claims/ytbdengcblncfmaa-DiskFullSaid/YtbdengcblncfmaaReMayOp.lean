/-
  The reference's MayOp says which operations may be, as the plain function does.
  Integers are in their ranges; texts have at most 1,000,000 bytes.
-/
import Derived.Test.YtbdengcblncfmaaReEq
import Derived.Test.YtbdengcblncfmaaWBase
import Derived.Test.YtbdengcblncfmaaReRunes
import Derived.Test.YtbdengcblncfmaaProg
set_option linter.unusedVariables false
set_option linter.unusedSimpArgs false
set_option linter.unusedVariables false
namespace Go.Proofs.Ytbdengcblncfmaa
open Go.RowKit
set_option maxRecDepth 100000

/-- an operation as data -/
structure Opn where
  kind : Int
  key : ByteArray
  val : Raw
  old : Raw
  n : Int
def Opn.v (o : Opn) : Value := .agg #[.int .i64 o.kind, .string o.key, .int .i64 o.val.kind, .int .i64 o.val.n, .string o.val.s, .int .i64 o.old.kind, .int .i64 o.old.n, .string o.old.s, .int .i64 o.n]
def zR : Raw := ⟨0, 0, ⟨#[]⟩⟩
def mayKind (o : Opn) : Bool :=
  if o.kind = 1 then o.val.kind != 0 && mayR o.val && eqR o.old zR && o.n == 0
  else if o.kind = 2 then eqR o.val zR && eqR o.old zR && o.n == 0
  else if o.kind = 3 then mayR o.val && mayR o.old && (o.val.kind != 0 || o.old.kind != 0) && o.n == 0
  else if o.kind = 4 then eqR o.val zR && eqR o.old zR && decide (-1099511627776 ≤ o.n) && decide (o.n ≤ 1099511627776)
  else false
def mayO (o : Opn) : Bool := Ru.key o.key.data.toList && mayKind o
/-- the box of an operation at block g -/
def Box (w : World) (g : Nat) (o : Opn) : Prop := w.cell? ⟨g, 0, Option.none⟩ = some (.int .i64 o.kind) ∧ w.cell? ⟨g, 2, Option.none⟩ = some (.int .i64 o.val.kind) ∧ w.cell? ⟨g, 3, Option.none⟩ = some (.int .i64 o.val.n) ∧ w.cell? ⟨g, 4, Option.none⟩ = some (.string o.val.s) ∧ w.cell? ⟨g, 5, Option.none⟩ = some (.int .i64 o.old.kind) ∧ w.cell? ⟨g, 6, Option.none⟩ = some (.int .i64 o.old.n) ∧ w.cell? ⟨g, 7, Option.none⟩ = some (.string o.old.s) ∧ w.cell? ⟨g, 8, Option.none⟩ = some (.int .i64 o.n)
theorem Box.below {w w' : World} {g B : Nat} {o : Opn} (h : Box w g o) (hb : Below B w w') (hg : g < B) : Box w' g o :=
  ⟨(hb.cell (p := ⟨g, 0, Option.none⟩) hg).trans h.1, (hb.cell (p := ⟨g, 2, Option.none⟩) hg).trans h.2.1, (hb.cell (p := ⟨g, 3, Option.none⟩) hg).trans h.2.2.1, (hb.cell (p := ⟨g, 4, Option.none⟩) hg).trans h.2.2.2.1, (hb.cell (p := ⟨g, 5, Option.none⟩) hg).trans h.2.2.2.2.1, (hb.cell (p := ⟨g, 6, Option.none⟩) hg).trans h.2.2.2.2.2.1, (hb.cell (p := ⟨g, 7, Option.none⟩) hg).trans h.2.2.2.2.2.2.1, (hb.cell (p := ⟨g, 8, Option.none⟩) hg).trans h.2.2.2.2.2.2.2⟩
end Go.Proofs.Ytbdengcblncfmaa
