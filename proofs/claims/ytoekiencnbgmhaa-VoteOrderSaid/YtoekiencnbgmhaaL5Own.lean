/-
  Rows of one's own: that they stand where nothing below has turned, and how their values are told.
  There are no conditions.
-/
import Derived.Test.YtoekiencnbgmhaaWBytes
set_option linter.unusedSimpArgs false
set_option linter.unusedVariables false
namespace Go.Proofs.Ytoekiencnbgmhaa
open Go.RowKit
set_option maxRecDepth 100000

theorem ownsRow_below {B e s n : Nat} {v : Value} {xs : List Value} {w w' : World} (h : w.ownsRow B e s v n xs) (hb : Below w.heap.size w w') : w'.ownsRow B e s v n xs := by
  have hlt := World.ownsRow.lt h
  refine ⟨h.1, ?_⟩
  rcases h.2 with h2 | ⟨g, c, cur, hv, hB, hg, r⟩
  · exact .inl h2
  · exact .inr ⟨g, c, cur, hv, hB, (hb.block g (by rw [hv] at hlt; exact (hlt g rfl).2)).trans hg, r⟩
theorem own_slice {B e s n : Nat} {v : Value} {xs : List Value} {w : World} (h : w.ownsRow B e s v n xs) : ∃ A c, v = .slice A n c := by
  rcases h.2 with ⟨rfl, rfl⟩ | ⟨g, c, cur, rfl, _⟩
  · exact ⟨none, 0, rfl⟩
  · exact ⟨_, c, rfl⟩
theorem ownsRow_down {B C e s n : Nat} {v : Value} {xs : List Value} {w : World} (h : w.ownsRow C e s v n xs) (hB : B ≤ C) : w.ownsRow B e s v n xs := by
  refine ⟨h.1, ?_⟩
  rcases h.2 with h2 | ⟨g, c, cur, hv, hb, r⟩
  · exact .inl h2
  · exact .inr ⟨g, c, cur, hv, Nat.le_trans hB hb, r⟩
theorem setCell_grown (w : World) (p : Addr) (v : Value) : w.grownBy (w.setCell p v) (some p.block) := ⟨rfl, rfl, rfl, by simp [World.setCell], fun k _ hk => Below.heap_setCell w _ _ k (fun e => hk (by rw [e]))⟩
/-- a store below the row leaves it -/
theorem ownsRow_set {B e s n : Nat} {v u : Value} {xs : List Value} {w : World} {p : Addr} (h : w.ownsRow B e s v n xs) (hp : p.block < B) : (w.setCell p u).ownsRow B e s v n xs :=
  World.ownsRow.kept h (setCell_grown w p u) (.inr (fun e => by have := (World.ownsRow.lt h _ e).1; omega))
end Go.Proofs.Ytoekiencnbgmhaa
