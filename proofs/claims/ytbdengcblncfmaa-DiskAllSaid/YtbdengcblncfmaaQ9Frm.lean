/-
  What a step on a disk leaves alone: all elder blocks but two.
  There are no conditions.
-/
import Derived.Test.YtbdengcblncfmaaL5Own
set_option linter.unusedSimpArgs false
set_option linter.unusedVariables false
namespace Go.Proofs.Ytbdengcblncfmaa
open Go.RowKit
set_option maxRecDepth 100000

/-- all blocks that were there stand, but for a and those of which p speaks -/
def Frm (w w' : World) (a : Nat) (p : Option Nat) : Prop := w.heap.size ≤ w'.heap.size ∧ ∀ k, k < w.heap.size → k ≠ a → p ≠ some k → w'.heap[k]? = w.heap[k]?
theorem Frm.refl (w : World) (a : Nat) (p : Option Nat) : Frm w w a p := ⟨Nat.le_refl _, fun _ _ _ _ => rfl⟩
theorem Frm.of_below {w w' : World} (a : Nat) (p : Option Nat) (h : Below w.heap.size w w') : Frm w w' a p := ⟨h.size, fun k hk _ _ => h.block k hk⟩
theorem Frm.drop {w w' : World} {a : Nat} {p : Option Nat} (h : Frm w w' a none) : Frm w w' a p := ⟨h.1, fun k hk ha _ => h.2 k hk ha (by simp)⟩
theorem Frm.trans {w w1 w2 : World} {a : Nat} {p : Option Nat} (h : Frm w w1 a p) (h2 : Frm w1 w2 a p) : Frm w w2 a p :=
  ⟨Nat.le_trans h.1 h2.1, fun k hk ha hp => (h2.2 k (Nat.lt_of_lt_of_le hk h.1) ha hp).trans (h.2 k hk ha hp)⟩
/-- a cell of the block a is written -/
theorem Frm.seta {w w' : World} {a j : Nat} {p : Option Nat} (h : Frm w w' a p) (u : Value) : Frm w (w'.setCell ⟨a, j, none⟩ u) a p :=
  ⟨Nat.le_trans h.1 (Nat.le_of_eq (by simp [World.setCell])), fun k hk ha hp => (Below.heap_setCell w' ⟨a, j, none⟩ u k ha).trans (h.2 k hk ha hp)⟩
/-- a cell of a block that p names, or of a new one, is written -/
theorem Frm.setp {w w' : World} {a b j : Nat} {p : Option Nat} (h : Frm w w' a p) (hb : p = some b ∨ w.heap.size ≤ b) (u : Value) : Frm w (w'.setCell ⟨b, j, none⟩ u) a p :=
  ⟨Nat.le_trans h.1 (Nat.le_of_eq (by simp [World.setCell])), fun k hk ha hp => (Below.heap_setCell w' ⟨b, j, none⟩ u k (by
    intro e
    have e : k = b := e
    subst e
    rcases hb with hb | hb
    · exact hp hb
    · omega)).trans (h.2 k hk ha hp)⟩
end Go.Proofs.Ytbdengcblncfmaa
