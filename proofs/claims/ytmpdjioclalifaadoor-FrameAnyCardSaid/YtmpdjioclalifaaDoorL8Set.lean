/-
  A byte of a slice is written: what the slice reads as behind it.
  There are no conditions beyond those that each lemma names.
-/
import Derived.Test.YtmpdjioclalifaaDoorFrAll
import Derived.Test.YtmpdjioclalifaaDoorL4Cut
set_option linter.unusedSimpArgs false
set_option linter.unusedVariables false
namespace Go.Proofs.YtmpdjioclalifaaDoor
open Go.RowKit
set_option maxRecDepth 100000

theorem byt_set {w : World} {B g n c k : Nat} {y : UInt8} {l : List UInt8} (h : Byt w B (.slice (some ⟨g, 0, none⟩) n c) l) (hk : k < l.length) :
    Byt (w.setCell ⟨g, k, none⟩ (.int .u8 (y.toNat : Int))) B (.slice (some ⟨g, 0, none⟩) n c) (l.set k y) := by
  obtain ⟨A', c', hv, hc, hcell⟩ := h
  injection hv with e1 e2 e3; subst e1; subst e3
  obtain ⟨g', o, hA, hg, hcs⟩ := hcell (by omega)
  injection hA with hA
  obtain ⟨rfl, rfl⟩ : g = g' ∧ 0 = o := by injection hA with a b; exact ⟨a, b⟩
  refine ⟨_, c, by rw [List.length_set, ← e2], by rw [List.length_set]; exact hc, fun _ => ⟨g, 0, rfl, hg, fun j hj => ?_⟩⟩
  have hj' : j < l.length := by rwa [List.length_set] at hj
  by_cases hjk : j = k
  · subst hjk
    rw [Nat.zero_add, List.getElem_set_self]
    have := hcs j hj'
    rw [Nat.zero_add] at this
    exact World.cell?_setCell_same _ _ _ this
  · rw [Nat.zero_add, List.getElem_set_ne (fun e => hjk e.symm)]
    have := hcs j hj'
    rw [Nat.zero_add] at this
    exact (World.cell?_setCell_other _ _ _ _ (by first | (simp; done) | (simp; omega))).trans this
theorem tbl_lt {w : World} (h : Tbl w) : 0 < w.heap.size := cell_lt (h 0 (by decide))
theorem tbl_keep2 {w w' : World} {B : Nat} (h : Tbl w) (hb : Below B w w') (hB : 0 < B) : Tbl w' := fun k hk =>
  (hb.cell (p := ⟨0, k, none⟩) hB).trans (h k hk)
theorem own_cells {B : Nat} {v : Value} {l : List UInt8} {w : World} (h : OwnB B v l w) (hl : 1 ≤ l.length) : ∃ g c, v = .slice (some ⟨g, 0, none⟩) l.length c ∧ g < w.heap.size ∧ (∀ j, w.frozen? ⟨g, j, none⟩ = false) ∧ ∀ j (h : j < l.length), w.cell? ⟨g, j, none⟩ = some (.int .u8 (l[j].toNat : Int)) := by
  obtain ⟨g, c, hv, hg, hcs⟩ := h.at_ hl
  subst hv
  refine ⟨g, c, rfl, hg, fun j => ?_, fun j hj => ?_⟩
  · rcases h.2 with ⟨hv, _⟩ | ⟨g', c', cur, hv, _, hh, _⟩
    · cases hv
    · injection hv with e1 _ _
      injection e1 with e1
      injection e1 with e1
      subst e1
      exact frozen_of_row w g j cur _ hh
  · have := hcs j (.int .u8 (l[j].toNat : Int)) (by simp [Lib.byteCells, hj])
    rw [Addr.add_mid, Nat.zero_add] at this; exact this
theorem short_to (A : Option Addr) (n c B m : Nat) (l z : List UInt8) (w : World) (h : Byt w B (.slice A n c) l) (hm : m ≤ 1000000) (hz : l.take m = z) :
    Calls Tryd.prog 10 #[.slice A n c, .int .i64 m] w fun e w' => ∃ A c, e = .returned (.slice A z.length c) ∧ Byt w' B (.slice A z.length c) z ∧ Below w.heap.size w w' := by
  refine (short_any A n c B m l w h hm).mono ?_
  rintro e w' ⟨A', c', rfl, hy, rfl⟩
  rw [hz] at hy ⊢
  exact ⟨A', c', rfl, hy, Below.refl _ _⟩
theorem u8_xor (x y : UInt8) : bits BinOp.xor IntKind.u8 (x.toNat : Int) (y.toNat : Int) = ((x ^^^ y).toNat : Int) := by
  have hx := x.toNat_lt; have hy := y.toNat_lt
  rw [u8_xor_nat _ _ (by omega) (by omega), UInt8.toNat_xor]
end Go.Proofs.YtmpdjioclalifaaDoor
