/-
  What bytes begin with is told as the reference tells it, whatever the bytes; a row of one's own of which a byte is changed.
  The bytes are there in memory, at most 1,000,000.
-/
import Derived.Test.YtffklbkdmfeimaaL4Bytes
import Derived.Test.YtffklbkdmfeimaaLawKit
namespace Go.Proofs.Ytffklbkdmfeimaa
open Go.RowKit
set_option maxRecDepth 100000

set_option maxHeartbeats 1000000 in
theorem tells4_any (A : Option Addr) (n c B : Nat) (l : List UInt8) (w : World) (h : Byt w B (.slice A n c) l) (hB : B ≤ w.heap.size) (hl : l.length ≤ 1000000) :
    Calls Try.prog 23 #[.slice A n c] w (Bl true w) := by
  obtain ⟨⟨⟨k, m, s⟩, j, e⟩, hg⟩ : ∃ r, getR l = r := ⟨_, rfl⟩
  have h1 := fun W (hW : Below w.heap.size w W) => vget_is A n c B l k m s j e W (h.below hW hB) (Nat.le_trans hB hW.size) hl hg
  have h2 := fun W (hW : Below w.heap.size w W) => rgetRaw_is A n c B l k m s j e W (h.below hW hB) (Nat.le_trans hB hW.size) hl hg
  have H1 := Lib.hid h1; clear h1
  have H2 := Lib.hid h2; clear h2 h hg
  go_enter Try.func23, Try.ntmps23
  go_wp2_with fail
  refine (H1.out _ (Below.refl _ _)).mono ?_
  rintro e k1 ⟨rfl, hb⟩
  go_wp2_with fail
  refine (H2.out _ (hb.alloc hb.size _)).mono ?_
  rintro e k2 ⟨rfl, h2⟩
  have r0 : k2.cell? ⟨k1.heap.size, 0, none⟩ = some (.int .i64 k) := (h2.cell (p := ⟨k1.heap.size, 0, none⟩) (by simp)).trans (by go_simp)
  have r1 : k2.cell? ⟨k1.heap.size, 1, none⟩ = some (.int .i64 m) := (h2.cell (p := ⟨k1.heap.size, 1, none⟩) (by simp)).trans (by go_simp)
  have r2 : k2.cell? ⟨k1.heap.size, 2, none⟩ = some (.string s) := (h2.cell (p := ⟨k1.heap.size, 2, none⟩) (by simp)).trans (by go_simp)
  have hz : k1.heap.size < k2.heap.size := by have := h2.size; simp at this; omega
  have hb2 : Below w.heap.size w k2 := (hb.alloc hb.size _).trans (h2.mono (by have := hb.size; simp; omega))
  clear h2
  go_wp2_with fail
  refine (req_is _ _ ⟨k, m, s⟩ ⟨k, m, s⟩ true _ rfl rfl (eqR_self _)).mono ?_
  rintro e k3 ⟨rfl, h3⟩
  have hb3 : Below w.heap.size w k3 := (hb2.alloc hb2.size _).trans (h3.mono (by have := hb2.size; simp; omega))
  clear h3
  go_wp2
  go_ret
  exact ⟨rfl, hb3⟩

theorem rputRaw_own (u : Value) (r : Raw) (l : List UInt8) (w : World) (hu : u = r.val) (hr : r.ok) (hl : putR r = l) :
    Calls Try.prog 21 #[u] w fun e w' => ∃ g c, e = .returned (.slice (some ⟨g, 0, none⟩) l.length c) ∧ OwnB w.heap.size (.slice (some ⟨g, 0, none⟩) l.length c) l w' ∧ Below w.heap.size w w' := by
  subst hu; subst hl
  refine (rputRaw_any r w hr).mono ?_
  rintro e w' ⟨v, rfl, hown, hb⟩
  obtain ⟨g, c, rfl, _⟩ := hown.at_ (putR_ne r)
  exact ⟨g, c, rfl, hown, hb⟩
theorem OwnB.cellAt {B g c : Nat} {l : List UInt8} {w : World} (h : OwnB B (.slice (some ⟨g, 0, none⟩) l.length c) l w) (i : Nat) (hi : i < l.length) : w.cell? ⟨g, i, none⟩ = some (.int .u8 (l[i].toNat : Int)) := by
  rw [World.ownsRow.cellAt h i (by omega)]; simp [Lib.byteCells, hi]
theorem OwnB.frozenAt {B g c : Nat} {l : List UInt8} {w : World} (h : OwnB B (.slice (some ⟨g, 0, none⟩) l.length c) l w) (i : Nat) : w.frozen? ⟨g, i, none⟩ = false := World.ownsRow.frozenAt h i
theorem OwnB.setAt {B g c : Nat} {l : List UInt8} {w : World} (h : OwnB B (.slice (some ⟨g, 0, none⟩) l.length c) l w) (i : Nat) (hi : i < l.length) (y : Int) (h0 : 0 ≤ y) (h1 : y ≤ 255) :
    OwnB B (.slice (some ⟨g, 0, none⟩) l.length c) (l.set i (UInt8.ofNat y.toNat)) (w.setCell ⟨g, i, none⟩ (.int .u8 y)) := by
  have h2 := World.ownsRow.stored h i (.int .u8 y)
  unfold OwnB
  have e : Lib.byteCells (l.set i (UInt8.ofNat y.toNat)) = (Lib.byteCells l).set i (.int .u8 y) := by
    unfold Lib.byteCells
    rw [List.map_set, u8_back y h0 h1]
  rw [e, List.length_set]
  exact h2.1
theorem xor_u8 (a b : Int) : 0 ≤ bits BinOp.xor .u8 a b ∧ bits BinOp.xor .u8 a b ≤ 255 := by
  have := bounds_u8 (wf_bits BinOp.xor .u8 a b); omega
theorem rem_nat (a : Int) (n : Nat) (h : 0 ≤ a) (hn : 1 ≤ n) : ∃ i : Nat, a.tmod (n : Int) = (i : Int) ∧ i < n := by
  have h1 : 0 ≤ a.tmod (n : Int) := Int.tmod_nonneg _ h
  have h2 : a.tmod (n : Int) < n := Int.tmod_lt_of_pos _ (by omega)
  exact ⟨(a.tmod n).toNat, by omega, by omega⟩
end Go.Proofs.Ytffklbkdmfeimaa
