/- Contracts of what writes and reads values, where the walk names the bytes itself. -/
import Derived.Test.YtegkhkcnoahhdaaGreatVaPlain
import Derived.Test.YtegkhkcnoahhdaaGreatLawKit
set_option linter.unusedSimpArgs false
set_option linter.unusedVariables false
namespace Go.Proofs.YtegkhkcnoahhdaaGreat
open Go.RowKit
set_option maxRecDepth 100000
def Head (g c : Nat) (l : List UInt8) (w : World) : Prop := g < w.heap.size ∧ Byt w (g + 1) (.slice (some ⟨g, 0, none⟩) l.length c) l
theorem OwnB.head {B : Nat} {v : Value} {l : List UInt8} {w : World} (h : OwnB B v l w) (hl : 1 ≤ l.length) : ∃ g c, v = .slice (some ⟨g, 0, none⟩) l.length c ∧ Head g c l w := by
 have hb := Byt.of_own h
 obtain ⟨g, c, rfl, hg, _⟩ := h.at_ hl
 refine ⟨g, c, rfl, hg, ?_⟩
 obtain ⟨A, c', hv, hc, hcell⟩ := hb
 injection hv with e1 _ e2; subst e1; subst e2
 refine ⟨_, c, rfl, hc, fun hn => ?_⟩
 obtain ⟨g', o, hA, _, hcs⟩ := hcell hn
 simp only [Option.some.injEq, Addr.mk.injEq] at hA
 obtain ⟨rfl, rfl, _⟩ := hA
 exact ⟨g, 0, rfl, by omega, hcs⟩
theorem Head.below {g c : Nat} {l : List UInt8} {w w' : World} (h : Head g c l w) (hb : Below w.heap.size w w') : Head g c l w' := ⟨Nat.lt_of_lt_of_le h.1 hb.size, h.2.below hb (by have := h.1; omega)⟩
end Go.Proofs.YtegkhkcnoahhdaaGreat
/-
What bytes begin with is told as the reference tells it, whatever the bytes; a row of one's own of which a byte is changed.
-/
namespace Go.Proofs.YtegkhkcnoahhdaaGreat
open Lib (hid)
open Go.RowKit
set_option maxRecDepth 100000
theorem OwnB.cellAt {B g c : Nat} {l : List UInt8} {w : World} (h : OwnB B (.slice (some ⟨g, 0, none⟩) l.length c) l w) (i : Nat) (hi : i < l.length) : w.cell? ⟨g, i, none⟩ = some (.int .u8 (l[i].toNat : Int)) := by
 rw [World.ownsRow.cellAt h i (by omega)]; simp [Lib.byteCells, hi]
theorem OwnB.frozenAt {B g c : Nat} {l : List UInt8} {w : World} (h : OwnB B (.slice (some ⟨g, 0, none⟩) l.length c) l w) (i : Nat) : w.frozen? ⟨g, i, none⟩ = false := World.ownsRow.frozenAt h i
theorem OwnB.setAt {B g c : Nat} {l : List UInt8} {w : World} (h : OwnB B (.slice (some ⟨g, 0, none⟩) l.length c) l w) (i : Nat) (hi : i < l.length) (y : Int) (h0 : 0 ≤ y) (h1 : y ≤ 255) :
  OwnB B (.slice (some ⟨g, 0, none⟩) l.length c) (l.set i (UInt8.ofNat y.toNat)) (w.setCell ⟨g, i, none⟩ (.int .u8 y)) := by
 have h2 := World.ownsRow.stored h i (.int .u8 y)
 unfold OwnB
 have e : Lib.byteCells (l.set i (UInt8.ofNat y.toNat)) = (Lib.byteCells l).set i (.int .u8 y) := by
  unfold Lib.byteCells
  rw [List.map_set, u8_back y h0 h1]
 rw [e, List.length_set]
 exact h2.1
theorem xor_u8 (a b : Int) : 0 ≤ bits BinOp.xor .u8 a b ∧ bits BinOp.xor .u8 a b ≤ 255 := by
 have := bounds_u8 (wf_bits BinOp.xor .u8 a b); omega
theorem rem_nat (a : Int) (n : Nat) (h : 0 ≤ a) (hn : 1 ≤ n) : ∃ i : Nat, a.tmod (n : Int) = (i : Int) ∧ i < n := by
 have h1 : 0 ≤ a.tmod (n : Int) := Int.tmod_nonneg _ h
 have h2 : a.tmod (n : Int) < n := Int.tmod_lt_of_pos _ (by omega)
 exact ⟨(a.tmod n).toNat, by omega, by omega⟩
end Go.Proofs.YtegkhkcnoahhdaaGreat
