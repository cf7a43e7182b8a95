/-
  Whole rows in blocks: what a block holds, and what of it stays where another block is turned.
  There are no conditions beyond those that each lemma names.
-/
import Derived.Test.YtoekiencnbgmhaaL5Own
import Derived.Deep.AppendLies
import Derived.Great.Walk
set_option linter.unusedSimpArgs false
set_option linter.unusedVariables false
namespace Go.Proofs.Ytoekiencnbgmhaa
open Go.RowKit
set_option maxRecDepth 100000

/-- block g is a row of type t, and holds the cells cs -/
def Rt (w : World) (g : Nat) (t : TypeId) (cs : List Value) : Prop := w.heap[g]? = some (.cells cs.toArray t (0, 0))
theorem Rt.lt {w : World} {g : Nat} {t : TypeId} {cs : List Value} (h : Rt w g t cs) : g < w.heap.size := (Array.getElem?_eq_some_iff.1 h).1
theorem Rt.new (w : World) (t : TypeId) (cs : List Value) : Rt (w.alloc (.cells cs.toArray t)) w.heap.size t cs := heap_alloc_new _ _
theorem Rt.new_at (w : World) (g : Nat) (t : TypeId) (cs : List Value) (hg : w.heap.size = g) : Rt (w.alloc (.cells cs.toArray t)) g t cs := by rw [← hg]; exact Rt.new w t cs
theorem Rt.below {w w' : World} {g : Nat} {t : TypeId} {cs : List Value} (h : Rt w g t cs) (hb : Below w.heap.size w w') : Rt w' g t cs := (hb.block g h.lt).trans h
theorem Rt.under {w w' : World} {B g : Nat} {t : TypeId} {cs : List Value} (h : Rt w g t cs) (hb : Below B w w') (hg : g < B) : Rt w' g t cs := (hb.block g hg).trans h
theorem Rt.cell {w : World} {g j : Nat} {t : TypeId} {cs : List Value} {v : Value} (h : Rt w g t cs) (hj : cs[j]? = some v) : w.cell? ⟨g, j, none⟩ = some v := by
  rw [cell_of_row w g _ cs.toArray t (0, 0) h]
  simpa using hj
theorem Rt.frz {w : World} {g : Nat} {t : TypeId} {cs : List Value} (h : Rt w g t cs) (j : Nat) : w.frozen? ⟨g, j, none⟩ = false := frozen_of_row w g j cs.toArray t h
theorem Rt.set {w : World} {g : Nat} {t : TypeId} {cs : List Value} (h : Rt w g t cs) (j : Nat) (u : Value) : Rt (w.setCell ⟨g, j, none⟩ u) g t (cs.set j u) := by
  unfold Rt at *
  rw [heap_setCell_same w g j _ _ u h]
  simp
theorem Rt.other {w : World} {g g' : Nat} {t : TypeId} {cs : List Value} (h : Rt w g t cs) (j : Nat) (u : Value) (hne : g ≠ g') : Rt (w.setCell ⟨g', j, none⟩ u) g t cs := by
  unfold Rt at *
  exact (Below.heap_setCell w _ u g (fun e => hne e)).trans h
theorem grown_trans10 {a b c : World} {row : Option Nat} (h : a.grownBy b row) (k : b.grownBy c row) : a.grownBy c row :=
  ⟨k.os.trans h.os, k.tape.trans h.tape, k.output.trans h.output, Nat.le_trans h.size k.size, fun j hj hne => (k.block j (Nat.lt_of_lt_of_le hj h.size) hne).trans (h.block j hj hne)⟩
theorem Rt.grown {w w' : World} {g g' : Nat} {t : TypeId} {cs : List Value} (h : Rt w g t cs) (hb : w.grownBy w' (some g')) (hne : g ≠ g') : Rt w' g t cs := (hb.block g h.lt (by simpa using hne)).trans h
theorem byt_grown10 {w w' : World} {B g : Nat} {v : Value} {l : List UInt8} (h : Byt w B v l) (hg : w.grownBy w' (some g)) (hB : B ≤ g) (hw : g < w.heap.size) : Byt w' B v l := h.keep fun p hp => hg.cell_far p (by omega) (by simp; omega)
theorem below_grown10 {w w' : World} {B g : Nat} (hg : w.grownBy w' (some g)) (hB : B ≤ g) (hw : g < w.heap.size) : Below B w w' := (Below.refl B w).grown hg (by omega) (fun k e => by cases e; exact hB)
theorem add_lit_10 (g o j : Nat) : (some (⟨g, o, Option.none⟩ : Addr)).map (·.add j) = some ⟨g, o + j, Option.none⟩ := by
  show some (Addr.add ⟨g, o, Option.none⟩ j) = _
  unfold Addr.add; split
  · subst_vars; rfl
  · rfl
end Go.Proofs.Ytoekiencnbgmhaa
