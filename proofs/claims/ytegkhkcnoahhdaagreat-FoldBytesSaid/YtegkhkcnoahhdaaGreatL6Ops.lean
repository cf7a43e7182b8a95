/- Operations in memory: cuts of a slice of operations, and operations put behind a row of one's own. -/
import Derived.Test.YtegkhkcnoahhdaaGreatL6Box
set_option linter.unusedSimpArgs false
set_option linter.unusedVariables false
namespace Go.Proofs.YtegkhkcnoahhdaaGreat
open Go.RowKit
set_option maxRecDepth 100000
theorem Ops.more {w : World} {B C : Nat} {v : Value} {l : List Opn} (h : Ops w B v l) (hC : B ≤ C) : Ops w C v l := by
 obtain ⟨A, c, hv, hc, h⟩ := h
 refine ⟨A, c, hv, hc, fun hn => ?_⟩
 obtain ⟨g, o, hA, hg, hcs⟩ := h hn
 exact ⟨g, o, hA, Nat.lt_of_lt_of_le hg hC, hcs⟩
theorem ops_none (w : World) (B c : Nat) (A : Option Addr) : Ops w B (.slice A 0 c) [] := ⟨A, c, rfl, Nat.zero_le _, fun h => absurd h (by simp)⟩
end Go.Proofs.YtegkhkcnoahhdaaGreat
