/-
  A slice of bytes that is there: what it reads as, and that it goes on reading so where the memory below a block stands.
  There are no conditions beyond those that each lemma names.
-/
import Derived.Test.YtoekiencnbgmhaaWInfo
set_option linter.unusedSimpArgs false
set_option linter.unusedVariables false
namespace Go.Proofs.Ytoekiencnbgmhaa
open Go.RowKit
set_option maxRecDepth 100000

/-- the slice value v reads as the bytes l; its cells lie below block B -/
def Byt (w : World) (B : Nat) (v : Value) (l : List UInt8) : Prop :=
  ∃ A c, v = .slice A l.length c ∧ l.length ≤ c ∧ (0 < l.length → ∃ g o, A = some ⟨g, o, Option.none⟩ ∧ g < B ∧ ∀ k (h : k < l.length), w.cell? ⟨g, o + k, Option.none⟩ = some (.int .u8 (l[k].toNat : Int)))
theorem Byt.keep {w w' : World} {B : Nat} {v : Value} {l : List UInt8} (h : Byt w B v l) (hk : ∀ p : Addr, p.block < B → w'.cell? p = w.cell? p) : Byt w' B v l := by
  obtain ⟨A, c, hv, hc, h⟩ := h
  refine ⟨A, c, hv, hc, fun hn => ?_⟩
  obtain ⟨g, o, hA, hg, hcell⟩ := h hn
  exact ⟨g, o, hA, hg, fun k hk2 => (hk ⟨g, o + k, Option.none⟩ hg).trans (hcell k hk2)⟩
theorem Byt.below {w w' : World} {B C : Nat} {v : Value} {l : List UInt8} (h : Byt w B v l) (hb : Below C w w') (hC : B ≤ C) : Byt w' B v l := h.keep fun _ hp => hb.cell (Nat.lt_of_lt_of_le hp hC)
theorem Byt.more {w : World} {B C : Nat} {v : Value} {l : List UInt8} (h : Byt w B v l) (hC : B ≤ C) : Byt w C v l := by
  obtain ⟨A, c, hv, hc, h⟩ := h
  refine ⟨A, c, hv, hc, fun hn => ?_⟩
  obtain ⟨g, o, hA, hg, hcell⟩ := h hn
  exact ⟨g, o, hA, Nat.lt_of_lt_of_le hg hC, hcell⟩
/-- the tail from place k on, as Go's s[k:] writes it -/
theorem Byt.cut {w : World} {B : Nat} {A : Option Addr} {c k : Nat} {l : List UInt8} (h : Byt w B (.slice A l.length c) l) (hk : k ≤ l.length) : Byt w B (.slice (if c = k then A else A.map (·.add k)) (l.length - k) (c - k)) (l.drop k) := by
  obtain ⟨A', c', hv, hc, h⟩ := h
  injection hv with hA _ hcc; subst hA; subst hcc
  refine ⟨_, _, by rw [List.length_drop], by rw [List.length_drop]; omega, fun hn => ?_⟩
  rw [List.length_drop] at hn
  obtain ⟨g, o, rfl, hg, hcell⟩ := h (by omega)
  rw [if_neg (by omega)]
  refine ⟨g, o + k, ?_, hg, fun j hj => ?_⟩
  · show some (Addr.add ⟨g, o, Option.none⟩ k) = _
    unfold Addr.add; split <;> simp_all
  · rw [List.length_drop] at hj
    rw [Nat.add_assoc, hcell (k + j) (by omega)]; simp
theorem Byt.of_own {w : World} {B : Nat} {v : Value} {l : List UInt8} (h : OwnB B v l w) : Byt w w.heap.size v l := by
  unfold OwnB at h
  have hc := fun (g : Nat) (hg : v.ownBlock = some g) => World.ownsRow.cells h hg
  have hlt := World.ownsRow.lt h
  rcases h.2 with ⟨rfl, h0⟩ | ⟨g, c, cur, rfl, _, _, hnc, _⟩
  · exact ⟨Option.none, 0, by rw [h0], by rw [h0]; exact Nat.le_refl _, fun h => absurd h (by omega)⟩
  · refine ⟨_, c, rfl, hnc, fun _ => ⟨g, 0, rfl, (hlt g rfl).2, fun k hk => ?_⟩⟩
    have h2 := hc g rfl k (.int .u8 (l[k].toNat : Int)) (by simp [Lib.byteCells, hk])
    have e1 : (⟨g, 0, Option.none⟩ : Addr).add k = ⟨g, 0 + k, Option.none⟩ := by unfold Addr.add; split <;> simp_all
    rw [e1] at h2; exact h2
theorem OwnB.below {B : Nat} {v : Value} {l : List UInt8} {w w' : World} (h : OwnB B v l w) (hb : Below w.heap.size w w') : OwnB B v l w' := by
  have hlt := World.ownsRow.lt h
  unfold OwnB at *
  refine ⟨h.1, ?_⟩
  rcases h.2 with h2 | ⟨g, c, cur, hv, hB, hg, r⟩
  · exact .inl h2
  · exact .inr ⟨g, c, cur, hv, hB, (hb.block g (by rw [hv] at hlt; exact (hlt g rfl).2)).trans hg, r⟩
theorem OwnB.lt {B : Nat} {v : Value} {l : List UInt8} {w : World} (h : OwnB B v l w) : ∀ k, v.ownBlock = some k → B ≤ k ∧ k < w.heap.size := World.ownsRow.lt h
theorem OwnB.down {B C : Nat} {v : Value} {l : List UInt8} {w : World} (h : OwnB C v l w) (hB : B ≤ C) : OwnB B v l w := by
  unfold OwnB at *
  refine ⟨h.1, ?_⟩
  rcases h.2 with h2 | ⟨g, c, cur, hv, hb, r⟩
  · exact .inl h2
  · exact .inr ⟨g, c, cur, hv, Nat.le_trans hB hb, r⟩
/-- a row that holds something lies at a block's head -/
theorem OwnB.at_ {B : Nat} {v : Value} {l : List UInt8} {w : World} (h : OwnB B v l w) (hl : 1 ≤ l.length) : ∃ g c, v = .slice (some ⟨g, 0, Option.none⟩) l.length c ∧ g < w.heap.size ∧ ∀ j u, (Lib.byteCells l)[j]? = some u → w.cell? ((⟨g, 0, Option.none⟩ : Addr).add j) = some u := by
  unfold OwnB at h
  have hc := fun (g : Nat) (hg : v.ownBlock = some g) => World.ownsRow.cells h hg
  have hlt := World.ownsRow.lt h
  rcases h.2 with ⟨_, h0⟩ | ⟨g, c, cur, rfl, _⟩
  · omega
  · exact ⟨g, c, rfl, (hlt g rfl).2, hc g rfl⟩
theorem byteCells_one (l : List UInt8) : ∀ u ∈ Lib.byteCells l, u.oneCell' = true := by
  intro u hu; unfold Lib.byteCells at hu
  obtain ⟨b, _, rfl⟩ := List.mem_map.1 hu; rfl
end Go.Proofs.Ytoekiencnbgmhaa
