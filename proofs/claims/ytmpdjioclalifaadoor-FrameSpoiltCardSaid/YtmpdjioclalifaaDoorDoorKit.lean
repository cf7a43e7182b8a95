/-
  Package crc's table as a row lists it: what the row's condition gives a walk, and a world that meets the condition.
  There are no conditions beyond those that each lemma names.
-/
import Derived.Test.YtmpdjioclalifaaDoorRows
import Derived.Test.YtmpdjioclalifaaDoorCrcPlain
import Derived.Test.YtmpdjioclalifaaDoorLawKit
import Derived.Lib.LaidTab
import Derived.LaidLaws
import Derived.LaidHandle
set_option linter.unusedSimpArgs false
set_option linter.unusedVariables false
namespace Go.Proofs.YtmpdjioclalifaaDoor
open Go.RowKit
set_option maxRecDepth 100000

def tabU : List Int := [0, 498536548, 997073096, 651767980, 1994146192, 1802195444, 1303535960, 1342533948, 3988292384, 4027552580, 3604390888, 3412177804, 2607071920, 2262029012, 2685067896, 3183342108]
def laidS : List (String × DataW Unit) := [("packhorse/crc.steps", Rows.laid_packhorse_crc_steps)]
/-- no handle stands in the list -/
theorem laid_plain {w : World} (h : laidMetH Tryd.prog laidS w) : laidMet Tryd.prog laidS w := by
  have e : (laidS.filter fun x => x.2.handleName?.isSome) = [] := by kernel_rfl
  unfold laidMetH at h
  rw [e] at h
  exact h
theorem laid_more {w : World} (h : laidMet Tryd.prog laidS w) : laidMetH Tryd.prog laidS w := by
  have e : (laidS.filter fun x => x.2.handleName?.isSome) = [] := by kernel_rfl
  unfold laidMetH
  rw [e]
  exact h
theorem Tryd.gSteps : Tryd.prog.globalNamed "packhorse/crc.steps" = some 0 := by kernel_rfl
theorem tabU_at (k : Nat) (hk : k < 16) : (tabU.map fun z => Value.int .u32 z)[k]? = some (Value.int .u32 ((crcTab.getD k 0 : Nat) : Int)) := by
  rcases (show k = 0 ∨ k = 1 ∨ k = 2 ∨ k = 3 ∨ k = 4 ∨ k = 5 ∨ k = 6 ∨ k = 7 ∨ k = 8 ∨ k = 9 ∨ k = 10 ∨ k = 11 ∨ k = 12 ∨ k = 13 ∨ k = 14 ∨ k = 15 by omega) with rfl | rfl | rfl | rfl | rfl | rfl | rfl | rfl | rfl | rfl | rfl | rfl | rfl | rfl | rfl | rfl <;> rfl
theorem tbl_of_laid {W : World} (h : laidMetH Tryd.prog laidS W) : Tbl W := by
  have hT : Lib.TabIs Tryd.prog W "packhorse/crc.steps" .u32 tabU := Lib.tabIs_of_head (n := 16) Tryd.gSteps (t := 59) (by kernel_rfl) Tryd.underlying59 Tryd.underlying46 (by kernel_rfl) (by kernel_rfl) (laid_plain h)
  intro k hk
  have := World.var?_cell Tryd.gSteps hT k
  rw [this, ← tabU_at k hk]
  simp
theorem Tbl.below {w w' : World} (h : Tbl w) (hb : Below w.heap.size w w') : Tbl w' := fun k hk =>
  (hb.cell (p := ⟨0, k, none⟩) (cell_lt (h k hk))).trans (h k hk)
theorem Tbl.drew {w : World} (h : Tbl w) : Tbl w.drew := h
/-- a world that meets the condition: the settled one, the table laid -/
noncomputable def laidWorld (os : Os) : World :=
  let w0 := World.holding Tryd.prog os ⟨#[], #[], []⟩
  { w0 with heap := w0.heap.modify 0 fun
      | .cells _ t frozen => .cells (tabU.map fun z => Value.int .u32 z).toArray t frozen
      | o => o }
theorem laid_met (os : Os) (args : Array Value) : laidMetH Tryd.prog laidS ((laidWorld os).forCall (fun _ _ => 0) ⟨#[], args, []⟩).memory :=
  laid_more (laidMet_of_run' 8 (by kernel_rfl) (by kernel_rfl))
end Go.Proofs.YtmpdjioclalifaaDoor
