/-
  Package conf's Add and Remove at any list and any number.
  Lists have at most 1,000 servers.
-/
import Derived.Test.YtoekiencnbgmhaaC12Add
set_option linter.unusedSimpArgs false
set_option linter.unusedVariables false
namespace Go.Proofs.Ytoekiencnbgmhaa
open Go.RowKit Go.Deep
set_option maxRecDepth 100000

theorem add12_none1 {L : List Int} {x : Int} (h : may12 L = false) : add12 L x = none := by unfold add12; rw [if_neg (fun e => by rw [h] at e; exact absurd e.1 (by decide))]
theorem add12_none2 {L : List Int} {x : Int} (h : may12 [x] = false) : add12 L x = none := by unfold add12; rw [if_neg (fun e => by rw [h] at e; exact absurd e.2.1 (by decide))]
theorem add12_none3 {L : List Int} {x : Int} (h : L.contains x = true) : add12 L x = none := by unfold add12; rw [if_neg (fun e => by rw [h] at e; exact absurd e.2.2 (by decide))]
theorem add12_some {L : List Int} {x : Int} (h : may12 L = true) (h2 : may12 [x] = true) (h3 : L.contains x = false) : add12 L x = some (ins12 L x) := by unfold add12; rw [if_pos ⟨h, h2, h3⟩]
theorem rem12_none1 {L : List Int} {x : Int} (h : may12 L = false) : rem12 L x = none := by unfold rem12; rw [if_neg (fun e => by rw [h] at e; exact absurd e.1 (by decide))]
theorem rem12_none2 {L : List Int} {x : Int} (h : L.length = 1) : rem12 L x = none := by unfold rem12; rw [if_neg (fun e => e.2.1 h)]
theorem rem12_none3 {L : List Int} {x : Int} (h : L.contains x = false) : rem12 L x = none := by unfold rem12; rw [if_neg (fun e => by rw [h] at e; exact absurd e.2.2 (by decide))]
theorem rem12_some {L : List Int} {x : Int} (h : may12 L = true) (h2 : ¬ L.length = 1) (h3 : L.contains x = true) : rem12 L x = some (del12 L x) := by unfold rem12; rw [if_pos ⟨h, h2, h3⟩]
end Go.Proofs.Ytoekiencnbgmhaa
