/-
  How a law's arguments that are slices of slices of operations, or slices of texts, are opened.
  There are no conditions.
-/
import Derived.Test.YtkgfbfopopmbhaaL5Open
import Derived.Test.YtkgfbfopopmbhaaL5CutBatch
set_option linter.unusedSimpArgs false
set_option linter.unusedVariables false
namespace Go.Proofs.Ytkgfbfopopmbhaa
open Go.RowKit Go.WideShapes Go.ChangeShapes Go.Joins Go.Deep
set_option maxRecDepth 100000

/-- a slice value of slices of operations; its cells lie below block B -/
def Opss (w : World) (B : Nat) (v : Value) (L : List (List Opn)) : Prop :=
  ∃ A c, v = .slice A L.length c ∧ L.length ≤ c ∧ (0 < L.length → ∃ g o, A = some ⟨g, o, Option.none⟩ ∧ g < B ∧ ∀ k (h : k < L.length), ∃ u, w.cell? ⟨g, o + k, Option.none⟩ = some u ∧ Ops w B u L[k])
/-- a slice value of texts -/
def Strs (w : World) (B : Nat) (v : Value) (L : List ByteArray) : Prop :=
  ∃ A c, v = .slice A L.length c ∧ L.length ≤ c ∧ (0 < L.length → ∃ g o, A = some ⟨g, o, Option.none⟩ ∧ g < B ∧ ∀ k (h : k < L.length), w.cell? ⟨g, o + k, Option.none⟩ = some (.string L[k]))
theorem Try.cellsStr6 : Try.prog.cellsOf 9 = 1 := by kernel_rfl
theorem Try.cellsOps6 : Try.prog.cellsOf 29 = 1 := by kernel_rfl
theorem add6 (g o k : Nat) : (⟨g, o, Option.none⟩ : Addr).add k = ⟨g, o + k, Option.none⟩ := by unfold Addr.add; split <;> simp_all
section
variable {H : Type} {enc : TypeId × Value → H} {W : World} {b0 : Nat} {r : Reach} {v : Value} {d : DataW H} {p : List MemPlace}
theorem open_strs (hv : Value.okWide Try.prog W r b0 50 v) (h : DataW.Trod enc Try.prog W 0 (fun _ => true) true 50 v d p) :
    ∃ (A : Option Addr) (c : Nat) (l : List ByteArray), v = .slice A l.length c ∧ Strs W W.heap.size (.slice A l.length c) l ∧ ∀ x ∈ l, x.size ≤ maxLen := by
  obtain ⟨a0, len, cap, rfl⟩ := okWide_slice Try.underlying50 hv
  obtain ⟨fuel, hf⟩ := h
  have hf2 : DataW.trod enc Try.prog W 0 (fun _ => true) true fuel 50 [.slice a0 len cap] = some (d, p) := by simpa [Value.cells] using hf
  rcases open_slice1 Try.underlying50 Try.cellsStr6 hf2 with ⟨hcs, _⟩ | ⟨a, len', cap', m, n, V, D, Pl, hcs, _, hl, hm, hmm, _, hx⟩
  · simp only [List.cons.injEq, and_true] at hcs
    injection hcs with e1 e2 e3
    subst e1; subst e2; subst e3
    exact ⟨none, 0, [], rfl, ⟨none, 0, rfl, Nat.le_refl _, fun h => absurd h (by decide)⟩, fun x hx => by cases hx⟩
  · simp only [List.cons.injEq, and_true] at hcs
    injection hcs with e1 e2 e3
    subst e1; subst e2; subst e3
    simp only [if_true] at hmm
    subst hmm
    have hS : ∀ i, i < len → ∃ s : ByteArray, W.cell? (a.add i) = some (.string s) ∧ s.size ≤ maxLen := fun i hi => by
      obtain ⟨h1, h2⟩ := hx i (by omega)
      obtain ⟨s, e, _, hs⟩ := DataW.trod_string Try.underlying9 h2
      simp only [List.cons.injEq, and_true] at e
      exact ⟨s, by rw [h1, e], hs⟩
    have hz : Inhabited ByteArray := ⟨⟨#[]⟩⟩
    obtain ⟨f, hf⟩ := choose_lt (α := ByteArray) (p := fun i s => W.cell? (a.add i) = some (.string s) ∧ s.size ≤ maxLen) hS
    have hln : ((List.range len).map f).length = len := by simp
    refine ⟨some a, m, (List.range len).map f, by rw [hln], ?_, fun x hx => ?_⟩
    · refine ⟨some a, m, rfl, by rw [hln]; exact hl, fun h0 => ?_⟩
      rw [hln] at h0
      have hc0 := (hf 0 h0).1
      obtain ⟨g, o, spot⟩ := a
      have hspot : spot = Option.none := by simpa [Addr.add] using World.cell?_spot hc0
      subst hspot
      refine ⟨g, o, rfl, ?_, fun k hk => ?_⟩
      · have := cell_in hc0; simpa [Addr.add] using this
      · rw [hln] at hk
        have := (hf k hk).1
        rw [add6] at this
        rw [this]; simp
    · obtain ⟨i, hi, rfl⟩ := List.mem_map.1 hx
      exact (hf i (List.mem_range.1 hi)).2
theorem open_opss (hv : Value.okWide Try.prog W r b0 22 v) (h : DataW.Trod enc Try.prog W 0 (fun _ => true) true 22 v d p) :
    ∃ (A : Option Addr) (c : Nat) (L : List (List Opn)), v = .slice A L.length c ∧ Opss W W.heap.size (.slice A L.length c) L ∧ ∀ l ∈ L, ∀ x ∈ l, x.fit := by
  obtain ⟨a0, len, cap, rfl⟩ := okWide_slice Try.underlying22 hv
  obtain ⟨fuel, hf⟩ := h
  have hf2 : DataW.trod enc Try.prog W 0 (fun _ => true) true fuel 22 [.slice a0 len cap] = some (d, p) := by simpa [Value.cells] using hf
  rcases open_slice1 Try.underlying22 Try.cellsOps6 hf2 with ⟨hcs, _⟩ | ⟨a, len', cap', m, n, V, D, Pl, hcs, _, hl, hm, hmm, _, hx⟩
  · simp only [List.cons.injEq, and_true] at hcs
    injection hcs with e1 e2 e3
    subst e1; subst e2; subst e3
    exact ⟨none, 0, [], rfl, ⟨none, 0, rfl, Nat.le_refl _, fun h => absurd h (by decide)⟩, fun x hx => by cases hx⟩
  · simp only [List.cons.injEq, and_true] at hcs
    injection hcs with e1 e2 e3
    subst e1; subst e2; subst e3
    simp only [if_true] at hmm
    subst hmm
    obtain ⟨f, hf⟩ := choose_lt (α := List Opn) (p := fun i l => ∃ u, W.cell? (a.add i) = some u ∧ Ops W W.heap.size u l ∧ ∀ x ∈ l, x.fit) (fun i (hi : i < len) => by
      obtain ⟨h1, h2⟩ := hx i (by omega)
      obtain ⟨n', C, ho⟩ := ops_cells h2
      obtain ⟨l, _, h3, h4⟩ := ops_of ho
      exact ⟨l, V i, h1, h3, h4⟩)
    have hln : ((List.range len).map f).length = len := by simp
    refine ⟨some a, m, (List.range len).map f, by rw [hln], ?_, fun x hx => ?_⟩
    · refine ⟨some a, m, rfl, by rw [hln]; exact hl, fun h0 => ?_⟩
      rw [hln] at h0
      obtain ⟨u, hc0, _⟩ := hf 0 h0
      obtain ⟨g, o, spot⟩ := a
      have hspot : spot = Option.none := by simpa [Addr.add] using World.cell?_spot hc0
      subst hspot
      refine ⟨g, o, rfl, ?_, fun k hk => ?_⟩
      · have := cell_in hc0; simpa [Addr.add] using this
      · rw [hln] at hk
        obtain ⟨u, h1, h2, h3⟩ := hf k hk
        rw [add6] at h1
        exact ⟨u, h1, by simpa using h2⟩
    · obtain ⟨i, hi, rfl⟩ := List.mem_map.1 hx
      obtain ⟨u, h1, h2, h3⟩ := hf i (List.mem_range.1 hi)
      exact h3
end
theorem Opss.keep {w w' : World} {B C : Nat} {v : Value} {L : List (List Opn)} (h : Opss w B v L) (hb : Below C w w') (hC : B ≤ C) : Opss w' B v L := by
  obtain ⟨A, c, hv, hc, h⟩ := h
  refine ⟨A, c, hv, hc, fun hn => ?_⟩
  obtain ⟨g, o, hA, hg, hcs⟩ := h hn
  refine ⟨g, o, hA, hg, fun k hk => ?_⟩
  obtain ⟨u, h1, h2⟩ := hcs k hk
  exact ⟨u, (hb.cell (p := ⟨g, o + k, Option.none⟩) (Nat.lt_of_lt_of_le hg hC)).trans h1, h2.keep hb hC⟩
theorem Opss.at_ {w : World} {B n c : Nat} {A : Option Addr} {L : List (List Opn)} (h : Opss w B (.slice A n c) L) (k : Nat) (hk : k < L.length) :
    ∃ g o Ak ck, A = some ⟨g, o, Option.none⟩ ∧ g < B ∧ w.cell? ⟨g, o + k, Option.none⟩ = some (.slice Ak L[k].length ck) ∧ Ops w B (.slice Ak L[k].length ck) L[k] := by
  obtain ⟨A', c', hv, _, h⟩ := h
  injection hv with e1 e2 e3
  subst e1
  obtain ⟨g, o, rfl, hg, hcs⟩ := h (by omega)
  obtain ⟨u, h1, h2⟩ := hcs k hk
  obtain ⟨Ak, ck, rfl, r⟩ := id h2
  exact ⟨g, o, Ak, ck, rfl, hg, h1, h2⟩
theorem Strs.keep {w w' : World} {B C : Nat} {v : Value} {L : List ByteArray} (h : Strs w B v L) (hb : Below C w w') (hC : B ≤ C) : Strs w' B v L := by
  obtain ⟨A, c, hv, hc, h⟩ := h
  refine ⟨A, c, hv, hc, fun hn => ?_⟩
  obtain ⟨g, o, hA, hg, hcs⟩ := h hn
  exact ⟨g, o, hA, hg, fun k hk => (hb.cell (p := ⟨g, o + k, Option.none⟩) (Nat.lt_of_lt_of_le hg hC)).trans (hcs k hk)⟩
theorem Strs.at_ {w : World} {B n c : Nat} {A : Option Addr} {L : List ByteArray} (h : Strs w B (.slice A n c) L) (k : Nat) (hk : k < L.length) :
    ∃ g o, A = some ⟨g, o, Option.none⟩ ∧ g < B ∧ w.cell? ⟨g, o + k, Option.none⟩ = some (.string L[k]) := by
  obtain ⟨A', c', hv, _, h⟩ := h
  injection hv with e1 e2 e3
  subst e1
  obtain ⟨g, o, rfl, hg, hcs⟩ := h (by omega)
  exact ⟨g, o, rfl, hg, hcs k hk⟩
end Go.Proofs.Ytkgfbfopopmbhaa
