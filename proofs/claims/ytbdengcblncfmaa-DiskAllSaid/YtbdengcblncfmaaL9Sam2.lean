/-
  The law's Same, of the two disks next to one another.
  The disks have at most 999 files each.
-/
import Derived.Test.YtbdengcblncfmaaL9Same
import Derived.Test.YtbdengcblncfmaaL9Duo2
set_option linter.unusedSimpArgs false
set_option linter.unusedVariables false
namespace Go.Proofs.Ytbdengcblncfmaa
open Go.RowKit
set_option maxRecDepth 100000

theorem same_duo {X gd gr c : Nat} {l : List Fil} {w : World} (h : Duo X w gd gr l c l c) (hc : c ≤ 1000000) (hl : l.length ≤ 999) :
    Calls Try.prog 24 #[.pointer (some ⟨gd, 0, none⟩), .pointer (some ⟨gr, 0, none⟩)] w fun e w' => e = .returned (.bool true) ∧ Below w.heap.size w w' := by
  obtain ⟨hX, hf, S, v, hp, hS, hd⟩ := h
  exact same9_any S X gd gr v l c w hp hd hc hl
end Go.Proofs.Ytbdengcblncfmaa
