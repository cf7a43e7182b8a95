/-
  A function returns what the plain functions say: ReRunes.
-/
import Derived.Test.YtoekiencnbgmhaaProg
import Derived.Test.YtoekiencnbgmhaaWBase
set_option linter.unusedSimpArgs false
set_option linter.unusedVariables false
namespace Go.Proofs.Ytoekiencnbgmhaa
open Go.RowKit
set_option maxRecDepth 100000

theorem Try.info21 : (Try.prog.info? 21).map (fun i => (i.zero, i.size, i.bytes)) = some (some (.int .i32 0), 1, 4) := by kernel_rfl

theorem Try.info3 : (Try.prog.info? 3).map (fun i => (i.zero, i.size, i.bytes)) = some (some (.int .i64 0), 1, 8) := by kernel_rfl

def Rel (s : ByteArray) (w : World) (R : List (Nat × Nat)) (vl va : Value) (pos : Nat) (wr : World) : Prop :=
  wr.ownsRow w.heap.size 21 1 vl R.length (runeVals R) ∧ wr.ownsRow w.heap.size 3 1 va R.length (atVals R) ∧ Below w.heap.size w wr ∧ R ++ Ru.rns (rest s pos) = Ru.rns s.data.toList ∧ Ru.wsum R = pos ∧ R.length ≤ pos ∧ pos ≤ s.size

def RunesPost (s : ByteArray) (w : World) (e : Ending) (w' : World) : Prop :=
  ∃ vl va, e = .returned (.tuple #[vl, va, .bool (Ru.vld s.data.toList)]) ∧ w'.ownsRow w.heap.size 21 1 vl (Ru.cnt s.data.toList) (runeVals (Ru.rns s.data.toList)) ∧ w'.ownsRow w.heap.size 3 1 va (Ru.cnt s.data.toList) (atVals (Ru.rns s.data.toList)) ∧ Below w.heap.size w w'

def RunesB (s : ByteArray) (b : Bool) (w : World) (e : Ending) (w' : World) : Prop :=
  ∃ vl va, e = .returned (.tuple #[vl, va, .bool b]) ∧ w'.ownsRow w.heap.size 21 1 vl (Ru.cnt s.data.toList) (runeVals (Ru.rns s.data.toList)) ∧ w'.ownsRow w.heap.size 3 1 va (Ru.cnt s.data.toList) (atVals (Ru.rns s.data.toList)) ∧ Below w.heap.size w w'
end Go.Proofs.Ytoekiencnbgmhaa
