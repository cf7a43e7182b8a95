/-
  A byte of a row of one's own is written; a disk stands where a row behind it is written.
  There are no conditions.
-/
import Derived.Test.YtbdengcblncfmaaD9Kit
set_option linter.unusedSimpArgs false
set_option linter.unusedVariables false
namespace Go.Proofs.Ytbdengcblncfmaa
open Go.RowKit
set_option maxRecDepth 100000

theorem own_set9 {B g n c k : Nat} {y : UInt8} {l : List UInt8} {w : World} (h : OwnB B (.slice (some ⟨g, 0, none⟩) n c) l w) (hn : l.length = n) (hk : k < l.length) : OwnB B (.slice (some ⟨g, 0, none⟩) n c) (l.set k y) (w.setCell ⟨g, k, none⟩ (.int .u8 (y.toNat : Int))) := by
  unfold OwnB at *
  rw [List.length_set]
  subst hn
  have e : Lib.byteCells (l.set k y) = (Lib.byteCells l).set k (.int .u8 (y.toNat : Int)) := by unfold Lib.byteCells; rw [List.map_set]
  rw [e]
  refine ⟨by rw [List.length_set]; exact h.1, ?_⟩
  rcases h.2 with ⟨hv, _⟩ | ⟨g2, c2, cur, hv, hB, hg2, h1, h2, h3, h4⟩
  · cases hv
  · injection hv with e1 _ e3
    injection e1 with e1
    injection e1 with e1 _
    subst e1; subst e3
    refine .inr ⟨g, c, cur.setIfInBounds k (.int .u8 (y.toNat : Int)), rfl, hB, heap_setCell_same w g k cur _ _ hg2, h1, h2, by simpa using h3, ?_⟩
    rw [Array.toList_setIfInBounds, List.take_set, h4]
theorem own_at9 {B n c : Nat} {A : Option Addr} {l : List UInt8} {w : World} (h : OwnB B (.slice A n c) l w) (hn : l.length = n) (k : Nat) (hk : k < n) :
    ∃ g, A = some ⟨g, 0, none⟩ ∧ B ≤ g ∧ g < w.heap.size ∧ (∀ j, w.frozen? ⟨g, j, none⟩ = false) ∧ w.cell? ⟨g, k, none⟩ = some (.int .u8 ((l[k]'(by omega)).toNat : Int)) := by
  have hlt := h.lt
  have hc := fun (g : Nat) (hg : (Value.slice A n c).ownBlock = some g) => World.ownsRow.cells h hg
  rcases h.2 with ⟨hv, h0⟩ | ⟨g, c2, cur, hv, hB, hg, _⟩
  · omega
  · injection hv with e1 _ _
    subst e1
    refine ⟨g, rfl, hB, (hlt g rfl).2, fun j => frozen_of_row w g j cur _ hg, ?_⟩
    have h2 := hc g rfl k (.int .u8 ((l[k]'(by omega)).toNat : Int)) (by simp [Lib.byteCells, show k < l.length by omega])
    rw [Addr.add_mid, Nat.zero_add] at h2; exact h2
theorem u8_more (x : UInt8) : IntKind.u8.wrap ((x.toNat : Int) + 1) = ((x + 1 : UInt8).toNat : Int) := by
  rw [IntKind.wrap_u8, UInt8.toNat_add]
  have := x.toNat_lt
  simp
theorem own_below9 {B C : Nat} {v : Value} {l : List UInt8} {w w' : World} (h : OwnB B v l w) (hb : Below C w w') (hC : ∀ j, v.ownBlock = some j → j < C) : OwnB B v l w' := by
  refine ⟨h.1, ?_⟩
  rcases h.2 with h2 | ⟨g, c, cur, hv, hB, hg, r⟩
  · exact .inl h2
  · exact .inr ⟨g, c, cur, hv, hB, (hb.block g (hC g (by rw [hv]; rfl))).trans hg, r⟩
/-- a disk of whose blocks none lies from X on -/
def DX (X : Nat) (w : World) (g : Nat) (l : List Fil) (c : Nat) : Prop := ∃ S, PD w S g l c ∧ ∀ k, S k → k < X
theorem DX.below {X g c : Nat} {l : List Fil} {w w' : World} (h : DX X w g l c) (hb : Below w.heap.size w w') : DX X w' g l c := by
  obtain ⟨S, h1, h2⟩ := h
  exact ⟨S, h1.below hb, h2⟩
theorem DX.set {X g c j k : Nat} {l : List Fil} {w : World} {u : Value} (h : DX X w g l c) (hk : X ≤ k) : DX X (w.setCell ⟨k, j, none⟩ u) g l c := by
  obtain ⟨S, h1, h2⟩ := h
  refine ⟨S, h1.off (T := fun i => i = k) ((Off.refl _ w).set (.inl rfl)) (fun i hi e => ?_), h2⟩
  have := h2 i hi
  omega
theorem DK.dx {B g c : Nat} {l : List Fil} {w : World} (h : DK B w g l c) : DX w.heap.size w g l c := by
  obtain ⟨S, h1, _⟩ := h
  exact ⟨S, h1, h1.lt⟩
theorem read_dx {X g c : Nat} {l : List Fil} {n : ByteArray} {w : World} (h : DX X w g l c) (hn : n.size ≤ maxLen) (f : Fil) (hg : getF n l = some f) :
    Calls Try.prog 20 #[.pointer (some ⟨g, 0, none⟩), .string n] w fun e w' => ∃ v, e = .returned (.tuple #[v, .int .i64 0]) ∧ OwnB w.heap.size v f.b w' ∧ Below w.heap.size w w' := by
  obtain ⟨S, h1, h2⟩ := h
  exact read9_yes S g l c n f w h1 hn hg
end Go.Proofs.Ytbdengcblncfmaa
