/-
  The reference's Apply does a group of operations on a document as the plain function says, or leaves it, with the first error.
  The document has at most 100 pairs; the texts have at most 1,000,000 bytes; the integers are in their ranges.
-/
import Derived.Test.YtegkhkcnoahhdaaReDocSet
import Derived.Test.YtegkhkcnoahhdaaOpPlain
set_option linter.unusedSimpArgs false
set_option linter.unusedVariables false
namespace Go.Proofs.Ytegkhkcnoahhdaa
open Go.RowKit
set_option maxRecDepth 100000

def apV (g : Raw) (o : Opn) : Raw := if o.kind = 4 then ⟨1, g.n + o.n, ⟨#[]⟩⟩ else o.val
/-- operations, one behind the other, on the pairs x; d0: what stood there -/
def apGo (d0 : List Par) : List Par → List Opn → List Par × Nat
  | x, [] => (x, 0)
  | x, o :: t =>
    if mayO o = false then (d0, 1)
    else if o.kind = 3 ∧ eqR (dGet x o.key).1 o.old = false then (d0, 8)
    else if o.kind = 4 ∧ (dGet x o.key).2 = true ∧ (dGet x o.key).1.kind ≠ 1 then (d0, 7)
    else if o.kind = 4 ∧ (farB (dGet x o.key).1.n = true ∨ farB ((dGet x o.key).1.n + o.n) = true) then (d0, 4)
    else if (apV (dGet x o.key).1 o).kind ≠ 0 ∧ (dGet x o.key).2 = false ∧ 50 ≤ x.length then (d0, 6)
    else apGo d0 (dSet x o.key (apV (dGet x o.key).1 o)) t
def dApply (l : List Par) (os : List Opn) : List Par × Nat := if os.length < 1 ∨ 8 < os.length then (l, 1) else apGo l l os
/-- pairs whose cells lie in no block from lo to hi -/
def PrsF (w : World) (lo hi : Nat) (v : Value) (l : List Par) : Prop :=
  ∃ A c, v = .slice A l.length c ∧ l.length ≤ c ∧ (0 < l.length → ∃ g o, A = some ⟨g, o, Option.none⟩ ∧ g < w.heap.size ∧ (g < lo ∨ hi ≤ g) ∧ ∀ k (h : k < l.length), w.rangeAt g (o + k * 4) l[k].cs)
theorem PrsF.prs {w : World} {lo hi : Nat} {v : Value} {l : List Par} (h : PrsF w lo hi v l) : Prs w w.heap.size v l := by
  obtain ⟨A, c, hv, hc, h⟩ := h
  refine ⟨A, c, hv, hc, fun hn => ?_⟩
  obtain ⟨g, o, hA, hg, _, hcs⟩ := h hn
  exact ⟨g, o, hA, hg, hcs⟩
theorem PrsF.below {w w' : World} {lo hi : Nat} {v : Value} {l : List Par} (h : PrsF w lo hi v l) (hb : Below w.heap.size w w') : PrsF w' lo hi v l := by
  obtain ⟨A, c, hv, hc, h⟩ := h
  refine ⟨A, c, hv, hc, fun hn => ?_⟩
  obtain ⟨g, o, hA, hg, hlh, hcs⟩ := h hn
  exact ⟨g, o, hA, Nat.lt_of_lt_of_le hg hb.size, hlh, fun k hk => range_below (hcs k hk) hb hg⟩
theorem nblk_set (w : World) (p : Addr) (v : Value) : (w.setCell p v).heap.size = w.heap.size := by simp [World.setCell]
theorem PrsF.set {w : World} {lo hi : Nat} {v u : Value} {l : List Par} {p : Addr} (h : PrsF w lo hi v l) (h1 : lo ≤ p.block) (h2 : p.block < hi) : PrsF (w.setCell p u) lo hi v l := by
  obtain ⟨A, c, hv, hc, h⟩ := h
  refine ⟨A, c, hv, hc, fun hn => ?_⟩
  obtain ⟨g, o, hA, hg, hlh, hcs⟩ := h hn
  refine ⟨g, o, hA, by rw [nblk_set]; exact hg, hlh, fun k hk j v hv => ?_⟩
  exact (setCell_grown w p u).cell (hcs k hk j v hv) (fun e => by injection e with e; simp only at e; omega)
theorem flat4_at : ∀ (l : List Par) (k : Nat) (h : k < l.length) (j : Nat) (v : Value), l[k].cs[j]? = some v → (l.flatMap Par.cs)[k * 4 + j]? = some v
  | x :: t, 0, _, j, v, hv => by
    have hj : j < x.cs.length := (List.getElem?_eq_some_iff.1 hv).1
    rw [List.flatMap_cons, Nat.zero_mul, Nat.zero_add, List.getElem?_append_left hj]; exact hv
  | x :: t, k + 1, h, j, v, hv => by
    have h9 : x.cs.length = 4 := rfl
    rw [List.flatMap_cons, List.getElem?_append_right (by omega), h9, show (k + 1) * 4 + j - 4 = k * 4 + j by omega]
    exact flat4_at t k (by simpa using h) j v hv
theorem Prs.keep {w w' : World} {B C : Nat} {v : Value} {l : List Par} (h : Prs w B v l) (hb : Below C w w') (hC : B ≤ C) : Prs w' B v l := by
  obtain ⟨A, c, hv, hc, h⟩ := h
  refine ⟨A, c, hv, hc, fun hn => ?_⟩
  obtain ⟨g, o, hA, hg, hcs⟩ := h hn
  exact ⟨g, o, hA, hg, fun k hk => range_below (hcs k hk) hb (Nat.lt_of_lt_of_le hg hC)⟩
theorem Prs.more {w : World} {B C : Nat} {v : Value} {l : List Par} (h : Prs w B v l) (hC : B ≤ C) : Prs w C v l := by
  obtain ⟨A, c, hv, hc, h⟩ := h
  refine ⟨A, c, hv, hc, fun hn => ?_⟩
  obtain ⟨g, o, hA, hg, hcs⟩ := h hn
  exact ⟨g, o, hA, Nat.lt_of_lt_of_le hg hC, hcs⟩
theorem setGo_len (key : ByteArray) (x : Raw) : ∀ (l : List Par) (b : Bool), (setGo key x b l).length ≤ l.length + (if b then 0 else 1)
  | [], b => by cases b <;> simp [setGo]
  | p :: t, b => by
    have ih := setGo_len key x t
    simp only [setGo, List.length_append, List.length_cons]
    cases b <;> cases lesB p.k key <;> cases (p.k.data.toList == key.data.toList) <;> simp
    all_goals first | (have := ih true; simp at this; omega) | (have := ih false; simp at this; omega)
theorem dSet_len (l : List Par) (key : ByteArray) (x : Raw) : (dSet l key x).length ≤ l.length + 1 := by
  have := setGo_len key x l (x.kind == 0)
  unfold dSet
  split at this <;> omega
theorem setGo_mem (key : ByteArray) (x : Raw) : ∀ (l : List Par) (b : Bool) (p : Par), p ∈ setGo key x b l → p = ⟨key, x⟩ ∨ p ∈ l
  | [], b, p, h => by cases b <;> simp [setGo] at h; exact .inl h
  | q :: t, b, p, h => by
    simp only [setGo, List.mem_append] at h
    rcases h with (h | h) | h
    · split at h <;> simp at h; exact .inl h
    · split at h <;> simp at h; exact .inr (by simp [h])
    · rcases setGo_mem key x t _ p h with h | h
      · exact .inl h
      · exact .inr (by simp [h])
theorem dSet_keys {l : List Par} {key : ByteArray} {x : Raw} (h : ∀ p ∈ l, p.k.size ≤ 1000000) (hk : key.size ≤ 1000000) : ∀ p ∈ dSet l key x, p.k.size ≤ 1000000 := by
  intro p hp
  rcases setGo_mem key x l _ p hp with rfl | hp
  · exact hk
  · exact h p hp
theorem vset (w : World) (g : Nat) (a b c a1 b1 c1 : Value) (h0 : w.cell? ⟨g, 0, Option.none⟩ = some a1) (h1 : w.cell? ⟨g, 1, Option.none⟩ = some b1) (h2 : w.cell? ⟨g, 2, Option.none⟩ = some c1) :
    (w.setCells g 0 [a, b, c]).cell? ⟨g, 0, Option.none⟩ = some a ∧ (w.setCells g 0 [a, b, c]).cell? ⟨g, 1, Option.none⟩ = some b ∧ (w.setCells g 0 [a, b, c]).cell? ⟨g, 2, Option.none⟩ = some c := by
  have hin := World.cell?_setCells_in g [a, b, c] 0 w (by
    intro j hj
    have h7 : j = 0 ∨ j = 1 ∨ j = 2 := by simp at hj; omega
    rcases h7 with rfl | rfl | rfl
    · rw [h0]; rfl
    · rw [h1]; rfl
    · rw [h2]; rfl)
  exact ⟨hin 0 (by simp), hin 1 (by simp), hin 2 (by simp)⟩
def GotA (r : List Par × Nat) (w : World) (e : Ending) (w' : World) : Prop := ∃ u, e = .returned (.tuple #[.agg #[u], .int .i64 (r.2 : Nat)]) ∧ Prs w' w'.heap.size u r.1 ∧ Below w.heap.size w w'
end Go.Proofs.Ytegkhkcnoahhdaa
