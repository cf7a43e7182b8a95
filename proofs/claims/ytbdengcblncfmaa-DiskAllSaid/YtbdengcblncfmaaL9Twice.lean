/-
  A crash of a crash; a disk's names in memory; an operation applied.
  There are no conditions beyond those that each lemma names.
-/
import Derived.Test.YtbdengcblncfmaaD9Kit
import Derived.Test.YtbdengcblncfmaaL9Open
set_option linter.unusedSimpArgs false
set_option linter.unusedVariables false
namespace Go.Proofs.Ytbdengcblncfmaa
open Go.RowKit
set_option maxRecDepth 100000

theorem left9_full (m : Int) (f : Fil) (h1 : f.fast = f.b.length) (h2 : f.there = true) : left9 m f = [f] := by
  obtain ⟨nm, b, fa, th⟩ := f
  simp only at h1 h2
  subst h1; subst h2
  have hk : kOf9 m ⟨nm, b, b.length, true⟩ = 0 := by
    unfold kOf9
    split
    · show (m.tmod ((b.length : Int) - (b.length : Nat) + 1)).toNat = 0
      rw [Int.sub_self, Int.zero_add]; simp
    · rfl
  unfold left9
  rw [if_pos (.inl rfl), hk]
  simp
theorem crash9_full {m : Int} {l : List Fil} (h : ∀ f ∈ l, f.fast = f.b.length ∧ f.there = true) : crash9 m l = l := by
  unfold crash9
  induction l with
  | nil => rfl
  | cons f t ih =>
    rw [List.flatMap_cons, left9_full m f (h f List.mem_cons_self).1 (h f List.mem_cons_self).2, ih (fun x hx => h x (List.mem_cons_of_mem _ hx))]
    rfl
theorem crash9_lasts {n : Int} {l : List Fil} (hg : ∀ f ∈ l, Good9 f) : ∀ f ∈ crash9 n l, f.fast = f.b.length ∧ f.there = true := by
  intro x hx
  unfold crash9 at hx
  obtain ⟨f, hf, hx⟩ := List.mem_flatMap.1 hx
  have hk := kOf9_le (n := n) (hg f hf).2.1
  unfold left9 at hx
  split at hx
  · rw [List.mem_singleton] at hx
    subst hx
    refine ⟨?_, rfl⟩
    show f.fast + kOf9 n f = (f.b.take _).length
    rw [List.length_take]; omega
  · cases hx
/-- a file of a sorted list is found by its name -/
theorem getF_at {l : List Fil} (hs : Sorted9 l) (k : Nat) (hk : k < l.length) : getF l[k].name l = some l[k] := by
  unfold Sorted9 at hs
  unfold getF
  induction l generalizing k with
  | nil => exact absurd hk (Nat.not_lt_zero _)
  | cons x t ih =>
    obtain ⟨h1, h2⟩ := List.pairwise_cons.1 hs
    cases k with
    | zero => simp
    | succ k =>
      have hk2 : k < t.length := by simpa using hk
      rw [List.getElem_cons_succ, List.find?_cons_of_neg (by simpa using ltK_ne (h1 _ (List.getElem_mem hk2)))]
      exact ih h2 k hk2
theorem names_at {w : World} {B z c : Nat} {A : Option Addr} {l : List Fil} (h : w.ownsRow B 9 1 (.slice A z c) z (l.map fun f => .string f.name)) (k : Nat) (hk : k < l.length) (hz : l.length = z) :
    ∃ g, A = some ⟨g, 0, none⟩ ∧ g < w.heap.size ∧ w.cell? ⟨g, k, none⟩ = some (.string l[k].name) := by
  have hlt := World.ownsRow.lt h
  have hc := fun (g : Nat) (hg : (Value.slice A z c).ownBlock = some g) => World.ownsRow.cells h hg
  rcases h.2 with ⟨hv, h0⟩ | ⟨g, c2, cur, hv, hB, hg, _⟩
  · omega
  · injection hv with e1 _ _
    subst e1
    refine ⟨g, rfl, (hlt g rfl).2, ?_⟩
    have h2 := hc g rfl k (.string l[k].name) (by rw [List.getElem?_map, List.getElem?_eq_getElem hk]; rfl)
    rw [Addr.add_mid, Nat.zero_add] at h2; exact h2
theorem app9_len (n : ByteArray) (bs : List UInt8) (l : List Fil) : (app9 n bs l).2.length ≤ l.length + 1 := by
  unfold app9
  split
  · exact Nat.le_succ _
  · split
    · exact Nat.le_succ _
    · exact setF_len _ _
theorem swap9_len (n : ByteArray) (bs : List UInt8) (l : List Fil) : (swap9 n bs l).2.length ≤ l.length + 1 := by
  unfold swap9
  split
  · exact Nat.le_succ _
  · split
    · exact Nat.le_succ _
    · exact setF_len _ _
theorem sync9_len (n : ByteArray) (l : List Fil) : (sync9 n l).2.length ≤ l.length + 1 := by
  unfold sync9
  split
  · exact Nat.le_succ _
  · exact setF_len _ _
end Go.Proofs.Ytbdengcblncfmaa
