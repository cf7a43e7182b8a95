/-
  The reference's far says whether a number lies beyond two to the sixty-second.
  The condition is the kind's range.
-/
import Derived.Test.YtegkhkcnoahhdaaReMayOp
import Derived.Test.YtegkhkcnoahhdaaWAppend
import Derived.Deep.MidRow
import Derived.Test.YtegkhkcnoahhdaaWBase
import Derived.Test.YtegkhkcnoahhdaaReRunes
import Derived.Test.YtegkhkcnoahhdaaProg
set_option linter.unusedSimpArgs false
set_option linter.unusedVariables false
namespace Go.Proofs.Ytegkhkcnoahhdaa
open Go.RowKit
set_option maxRecDepth 100000

def farB (n : Int) : Bool := decide (n < -4611686018427387904) || decide (4611686018427387904 < n)
end Go.Proofs.Ytegkhkcnoahhdaa
/-
  The reference's mayOps says which lists of operations may be.
-/
namespace Go.Proofs.Ytegkhkcnoahhdaa
open Go.RowKit
set_option maxRecDepth 100000

/-- the cells of an operation -/
def Opn.cs (o : Opn) : List Value := [.int .i64 o.kind, .string o.key, .int .i64 o.val.kind, .int .i64 o.val.n, .string o.val.s, .int .i64 o.old.kind, .int .i64 o.old.n, .string o.old.s, .int .i64 o.n]
/-- the slice value v reads as the operations l; its cells lie below block B -/
def Ops (w : World) (B : Nat) (v : Value) (l : List Opn) : Prop :=
  ∃ A c, v = .slice A l.length c ∧ l.length ≤ c ∧ (0 < l.length → ∃ g o, A = some ⟨g, o, Option.none⟩ ∧ g < B ∧ ∀ k (h : k < l.length), w.rangeAt g (o + k * 9) l[k].cs)
theorem Try.infoOp : (Try.prog.info? 38).map (·.size) = some 9 := by kernel_rfl
/-- its texts are no longer than what the texts' contracts ask -/
def Opn.small (o : Opn) : Prop := o.key.size ≤ 1000000 ∧ o.val.s.size ≤ 1000000 ∧ o.old.s.size ≤ 1000000
theorem range_below {w w' : World} {C g o : Nat} {cs : List Value} (h : w.rangeAt g o cs) (hb : Below C w w') (hg : g < C) : w'.rangeAt g o cs := fun j v hv => (hb.cell (p := ⟨g, o + j, Option.none⟩) hg).trans (h j v hv)
def mayOs (l : List Opn) : Bool := decide (1 ≤ l.length) && decide (l.length ≤ 8) && l.all mayO
end Go.Proofs.Ytegkhkcnoahhdaa
/-
  The reference's documents: a document lies in memory as its pairs in order; its Get finds a key's value.
  The pairs are at most 1,000,000.
-/
namespace Go.Proofs.Ytegkhkcnoahhdaa
open Go.RowKit
set_option maxRecDepth 100000

/-- a key and its value -/
structure Par where
  k : ByteArray
  v : Raw
def Par.cs (p : Par) : List Value := [.string p.k, .int .i64 p.v.kind, .int .i64 p.v.n, .string p.v.s]
/-- the slice value v reads as the pairs l; its cells lie below block B -/
def Prs (w : World) (B : Nat) (v : Value) (l : List Par) : Prop :=
  ∃ A c, v = .slice A l.length c ∧ l.length ≤ c ∧ (0 < l.length → ∃ g o, A = some ⟨g, o, Option.none⟩ ∧ g < B ∧ ∀ k (h : k < l.length), w.rangeAt g (o + k * 4) l[k].cs)
/-- the value v is the document of the pairs l -/
def DocV (w : World) (B : Nat) (v : Value) (l : List Par) : Prop := ∃ s, v = .agg #[s] ∧ Prs w B s l
def dGet (l : List Par) (key : ByteArray) : Raw × Bool := match l.find? (fun p => p.k.data.toList == key.data.toList) with
  | some p => (p.v, true)
  | none => (⟨0, 0, ⟨#[]⟩⟩, false)
def GotD (x : Raw × Bool) (w : World) (e : Ending) (w' : World) : Prop := e = .returned (.tuple #[x.1.val, .bool x.2]) ∧ Below w.heap.size w w'
end Go.Proofs.Ytegkhkcnoahhdaa
/-
  The reference's set makes a document with a key's value in its place, or without the key, in new memory.
  The pairs are at most 1,000; the keys have at most 1,000,000 bytes.
-/
namespace Go.Proofs.Ytegkhkcnoahhdaa
open Go.RowKit
set_option maxRecDepth 100000

theorem par_cells (l : List Par) (x : Par) : l.flatMap Par.cs ++ x.cs = (l ++ [x]).flatMap Par.cs := by simp
theorem par_one (x : Par) : ∀ u ∈ x.cs, u.oneCell' = true := by
  intro u hu; unfold Par.cs at hu; simp at hu
  rcases hu with rfl | rfl | rfl | rfl <;> rfl
/-- the rest of the document, the key being in already or not -/
def setGo (key : ByteArray) (x : Raw) : Bool → List Par → List Par
  | b, [] => if b then [] else [⟨key, x⟩]
  | b, p :: t => (if !b && !lesB p.k key then [⟨key, x⟩] else []) ++ (if p.k.data.toList == key.data.toList then [] else [p]) ++ setGo key x (b || !lesB p.k key) t
def dSet (l : List Par) (key : ByteArray) (x : Raw) : List Par := setGo key x (x.kind == 0) l
end Go.Proofs.Ytegkhkcnoahhdaa
