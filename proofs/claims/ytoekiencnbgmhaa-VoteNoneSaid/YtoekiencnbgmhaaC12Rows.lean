/-
  Rows that a call has made, cell by cell: a store into them, what they read as.
  There are no conditions beyond those that each lemma names.
-/
import Derived.Test.YtoekiencnbgmhaaC12Ints
import Derived.Test.YtoekiencnbgmhaaReOpenP
import Derived.Deep.OwnRows
set_option linter.unusedSimpArgs false
set_option linter.unusedVariables false
namespace Go.Proofs.Ytoekiencnbgmhaa
open Go.RowKit Go.Deep
set_option maxRecDepth 100000

/-- a block's cells, which may be written -/
def RowC (w : World) (g : Nat) (M : List Value) : Prop := g < w.heap.size ∧ ∀ j (h : j < M.length), w.cell? ⟨g, j, Option.none⟩ = some M[j] ∧ w.frozen? ⟨g, j, Option.none⟩ = false
theorem RowC.set {w : World} {g : Nat} {M : List Value} (h : RowC w g M) (k : Nat) (v : Value) : RowC (w.setCell ⟨g, k, Option.none⟩ v) g (M.set k v) := by
  refine ⟨by simp [World.setCell]; exact h.1, fun j hj => ?_⟩
  rw [List.length_set] at hj
  obtain ⟨h1, h2⟩ := h.2 j hj
  refine ⟨?_, (World.frozen?_setCell _ _ _ _).trans h2⟩
  by_cases e : j = k
  · subst e
    rw [List.getElem_set_self]
    exact World.cell?_setCell_same _ _ _ h1
  · rw [List.getElem_set_ne (fun e' => e e'.symm)]
    exact (World.cell?_setCell_other _ _ _ _ (by first | (simp; done) | (simp; omega))).trans h1
theorem RowC.below {w w' : World} {g : Nat} {M : List Value} (h : RowC w g M) (hb : Below w.heap.size w w') : RowC w' g M :=
  ⟨Nat.lt_of_lt_of_le h.1 hb.size, fun j hj => ⟨(hb.cell (p := ⟨g, j, Option.none⟩) h.1).trans (h.2 j hj).1, (hb.frozen (p := ⟨g, j, Option.none⟩) h.1).trans (h.2 j hj).2⟩⟩
theorem madeCells_one (z : Value) (n : Nat) : (madeCells #[z] n).toList = List.replicate n z := by
  unfold madeCells
  apply List.ext_getElem
  · simp
  · intro i h1 h2
    simp [Nat.mod_one]
theorem RowC.made (w : World) (z : Value) (n : Nat) (t : TypeId) : RowC (w.alloc (.cells (madeCells #[z] n) t)) w.heap.size (List.replicate n z) := by
  refine ⟨by simp, fun j hj => ?_⟩
  have hs : (madeCells #[z] n).size = n := by rw [← Array.length_toList, madeCells_one]; simp
  have hj' : j < (madeCells #[z] n).size := by rw [hs]; simpa using hj
  constructor
  · rw [World.cell?_alloc_mark]
    have : (madeCells #[z] n)[j]? = some z := by
      rw [← Array.getElem?_toList, madeCells_one, List.getElem?_replicate, if_pos (by simpa using hj)]
    simp [this]
  · exact World.frozen?_alloc_at _ _ _ _ rfl
/-- the ints that a block's cells read as -/
theorem RowC.ints {w : World} {g : Nat} {l : List Int} {n : Nat} (h : RowC w g (intCells l)) (hn : l.length = n) (c : Nat) (hc : n ≤ c) : Ints w (g + 1) (.slice (some ⟨g, 0, Option.none⟩) n c) l := by
  subst hn
  refine ⟨_, c, rfl, hc, fun _ => ⟨g, 0, rfl, by omega, fun k hk => ?_⟩⟩
  have := (h.2 k (by rw [intCells_len]; exact hk)).1
  rw [Nat.zero_add, this]
  simp [intCells]
theorem set_snoc12 {α β : Type} (f : α → β) (L : List α) (z : β) (k : Nat) (h : k < L.length) : ((L.take k).map f ++ List.replicate (L.length - k) z).set k (f L[k]) = (L.take (k + 1)).map f ++ List.replicate (L.length - (k + 1)) z := by
  have hl : ((L.take k).map f).length = k := by simp; omega
  rw [List.set_append_right _ _ (by omega), hl, Nat.sub_self, List.take_succ_eq_append_getElem h, List.map_append]
  have : L.length - k = (L.length - (k + 1)) + 1 := by omega
  rw [this, List.replicate_succ, List.set_cons_zero]
  simp
end Go.Proofs.Ytoekiencnbgmhaa
