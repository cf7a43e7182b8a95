/-
  What bytes begin with is told as the reference tells it, whatever the bytes; a row of one's own of which a byte is changed.
  The bytes are there in memory, at most 1,000,000.
-/
import Derived.Test.YtdhppekfehbngaaL4Bytes
import Derived.Test.YtdhppekfehbngaaLawKit
set_option linter.unusedSimpArgs false
set_option linter.unusedVariables false
namespace Go.Proofs.Ytdhppekfehbngaa
open Go.RowKit
set_option maxRecDepth 100000

theorem rputRaw_own (u : Value) (r : Raw) (l : List UInt8) (w : World) (hu : u = r.val) (hr : r.ok) (hl : putR r = l) :
    Calls Try.prog 42 #[u] w fun e w' => ∃ g c, e = .returned (.slice (some ⟨g, 0, none⟩) l.length c) ∧ OwnB w.heap.size (.slice (some ⟨g, 0, none⟩) l.length c) l w' ∧ Below w.heap.size w w' := by
  subst hu; subst hl
  refine (rputRaw_any r w hr).mono ?_
  rintro e w' ⟨v, rfl, hown, hb⟩
  obtain ⟨g, c, rfl, _⟩ := hown.at_ (putR_ne r)
  exact ⟨g, c, rfl, hown, hb⟩
theorem OwnB.cellAt {B g c : Nat} {l : List UInt8} {w : World} (h : OwnB B (.slice (some ⟨g, 0, none⟩) l.length c) l w) (i : Nat) (hi : i < l.length) : w.cell? ⟨g, i, none⟩ = some (.int .u8 (l[i].toNat : Int)) := by
  rw [World.ownsRow.cellAt h i (by omega)]; simp [Lib.byteCells, hi]
theorem OwnB.frozenAt {B g c : Nat} {l : List UInt8} {w : World} (h : OwnB B (.slice (some ⟨g, 0, none⟩) l.length c) l w) (i : Nat) : w.frozen? ⟨g, i, none⟩ = false := World.ownsRow.frozenAt h i
theorem OwnB.setAt {B g c : Nat} {l : List UInt8} {w : World} (h : OwnB B (.slice (some ⟨g, 0, none⟩) l.length c) l w) (i : Nat) (hi : i < l.length) (y : Int) (h0 : 0 ≤ y) (h1 : y ≤ 255) :
    OwnB B (.slice (some ⟨g, 0, none⟩) l.length c) (l.set i (UInt8.ofNat y.toNat)) (w.setCell ⟨g, i, none⟩ (.int .u8 y)) := by
  have h2 := World.ownsRow.stored h i (.int .u8 y)
  unfold OwnB
  have e : Lib.byteCells (l.set i (UInt8.ofNat y.toNat)) = (Lib.byteCells l).set i (.int .u8 y) := by
    unfold Lib.byteCells
    rw [List.map_set, u8_back y h0 h1]
  rw [e, List.length_set]
  exact h2.1
theorem xor_u8 (a b : Int) : 0 ≤ bits BinOp.xor .u8 a b ∧ bits BinOp.xor .u8 a b ≤ 255 := by
  have := bounds_u8 (wf_bits BinOp.xor .u8 a b); omega
theorem rem_nat (a : Int) (n : Nat) (h : 0 ≤ a) (hn : 1 ≤ n) : ∃ i : Nat, a.tmod (n : Int) = (i : Int) ∧ i < n := by
  have h1 : 0 ≤ a.tmod (n : Int) := Int.tmod_nonneg _ h
  have h2 : a.tmod (n : Int) < n := Int.tmod_lt_of_pos _ (by omega)
  exact ⟨(a.tmod n).toNat, by omega, by omega⟩
end Go.Proofs.Ytdhppekfehbngaa
