/-
  How a law's argument that is a slice of slices of bytes is opened.
  There are no conditions.
-/
import Derived.Test.YtmpdjioclalifaaDoorL7Ints
import Derived.Test.YtmpdjioclalifaaDoorLawKit
set_option linter.unusedSimpArgs false
set_option linter.unusedVariables false
namespace Go.Proofs.YtmpdjioclalifaaDoor
open Go.RowKit Go.WideShapes Go.ChangeShapes Go.Joins Go.Deep
set_option maxRecDepth 100000

/-- a slice value of slices of bytes; its cells lie below block B -/
def Btss (w : World) (B : Nat) (v : Value) (L : List (List UInt8)) : Prop :=
  ∃ A c, v = .slice A L.length c ∧ L.length ≤ c ∧ (0 < L.length → ∃ g o, A = some ⟨g, o, Option.none⟩ ∧ g < B ∧ ∀ k (h : k < L.length), ∃ u, w.cell? ⟨g, o + k, Option.none⟩ = some u ∧ Byt w B u L[k])
theorem Tryd.cellsBts8 : Tryd.prog.cellsOf 22 = 1 := by kernel_rfl
theorem add8 (g o k : Nat) : (⟨g, o, Option.none⟩ : Addr).add k = ⟨g, o + k, Option.none⟩ := by unfold Addr.add; split <;> simp_all
section
variable {H : Type} {enc : TypeId × Value → H} {W : World} {b0 : Nat} {r : Reach} {v : Value} {d : DataW H} {p : List MemPlace}
theorem bytes_cells {fuel : Nat} {cs : List Value} {x : DataW H × List MemPlace} (hf : DataW.trod enc Tryd.prog W 0 (fun _ => true) true fuel 22 cs = some x) :
    ∃ (u : Value) (l : List UInt8), cs = [u] ∧ Byt W W.heap.size u l ∧ l.length ≤ maxLen := by
  obtain ⟨d, p⟩ := x
  rcases open_ints Tryd.underlying22 Tryd.underlying5 (by kernel_rfl) hf with ⟨hcs, _⟩ | ⟨x, len, cap, zs, hcs, _, hl, hm, hz, _, hcell, hwz⟩
  · exact ⟨_, [], hcs, ⟨none, 0, rfl, Nat.le_refl _, fun h => absurd h (by simp)⟩, Nat.zero_le _⟩
  · have hz : zs.length = cap := by simpa using hz
    have hlen : ((zs.take len).map fun z => UInt8.ofNat z.toNat).length = len := by rw [List.length_map, List.length_take]; omega
    refine ⟨_, (zs.take len).map fun z => UInt8.ofNat z.toNat, hcs, ?_, by rw [hlen]; omega⟩
    refine ⟨some x, cap, by rw [hlen], by rw [hlen]; exact hl, fun hn => ?_⟩
    rw [hlen] at hn
    have hc0 := hcell 0 (by omega)
    obtain ⟨b, off, spot⟩ := x
    have hspot : spot = none := by simpa [Addr.add] using World.cell?_spot hc0
    subst hspot
    refine ⟨b, off, rfl, ?_, fun k hk => ?_⟩
    · have := cell_lt hc0; simpa [Addr.add] using this
    · rw [hlen] at hk
      have hk2 : k < zs.length := by omega
      have hc := hcell k hk2
      rw [add8] at hc
      rw [hc]
      have hw := bounds_u8 (hwz zs[k] (List.getElem_mem hk2))
      simp only [List.getElem_map, List.getElem_take]
      rw [u8_back _ hw.1 (by omega), List.getD, List.getElem?_eq_getElem hk2]; rfl
theorem open_btss (hv : Value.okWide Tryd.prog W r b0 32 v) (h : DataW.Trod enc Tryd.prog W 0 (fun _ => true) true 32 v d p) :
    ∃ (A : Option Addr) (c : Nat) (L : List (List UInt8)), v = .slice A L.length c ∧ Btss W W.heap.size (.slice A L.length c) L ∧ ∀ l ∈ L, l.length ≤ maxLen := by
  obtain ⟨a0, len, cap, rfl⟩ := okWide_slice Tryd.underlying32 hv
  obtain ⟨fuel, hf⟩ := h
  have hf2 : DataW.trod enc Tryd.prog W 0 (fun _ => true) true fuel 32 [.slice a0 len cap] = some (d, p) := by simpa [Value.cells] using hf
  rcases open_slice1 Tryd.underlying32 Tryd.cellsBts8 hf2 with ⟨hcs, _⟩ | ⟨a, len', cap', m, n, V, D, Pl, hcs, _, hl, hm, hmm, _, hx⟩
  · simp only [List.cons.injEq, and_true] at hcs
    injection hcs with e1 e2 e3
    subst e1; subst e2; subst e3
    exact ⟨none, 0, [], rfl, ⟨none, 0, rfl, Nat.le_refl _, fun h => absurd h (by decide)⟩, fun x hx => by cases hx⟩
  · simp only [List.cons.injEq, and_true] at hcs
    injection hcs with e1 e2 e3
    subst e1; subst e2; subst e3
    simp only [if_true] at hmm
    subst hmm
    obtain ⟨f, hf⟩ := choose_lt (α := List UInt8) (p := fun i l => ∃ u, W.cell? (a.add i) = some u ∧ Byt W W.heap.size u l ∧ l.length ≤ maxLen) (fun i (hi : i < len) => by
      obtain ⟨h1, h2⟩ := hx i (by omega)
      obtain ⟨u, l, hu, h3, h4⟩ := bytes_cells h2
      simp only [List.cons.injEq, and_true] at hu
      exact ⟨l, u, by rw [h1, hu], h3, h4⟩)
    have hln : ((List.range len).map f).length = len := by simp
    refine ⟨some a, m, (List.range len).map f, by rw [hln], ?_, fun x hx => ?_⟩
    · refine ⟨some a, m, rfl, by rw [hln]; exact hl, fun h0 => ?_⟩
      rw [hln] at h0
      obtain ⟨u, hc0, _⟩ := hf 0 h0
      obtain ⟨g, o, spot⟩ := a
      have hspot : spot = Option.none := by simpa [Addr.add] using World.cell?_spot hc0
      subst hspot
      refine ⟨g, o, rfl, ?_, fun k hk => ?_⟩
      · have := cell_lt hc0; simpa [Addr.add] using this
      · rw [hln] at hk
        obtain ⟨u, h1, h2, h3⟩ := hf k hk
        rw [add8] at h1
        exact ⟨u, h1, by simpa using h2⟩
    · obtain ⟨i, hi, rfl⟩ := List.mem_map.1 hx
      obtain ⟨u, h1, h2, h3⟩ := hf i (List.mem_range.1 hi)
      exact h3
end
theorem Btss.keep {w w' : World} {B C : Nat} {v : Value} {L : List (List UInt8)} (h : Btss w B v L) (hb : Below C w w') (hC : B ≤ C) : Btss w' B v L := by
  obtain ⟨A, c, hv, hc, h⟩ := h
  refine ⟨A, c, hv, hc, fun hn => ?_⟩
  obtain ⟨g, o, hA, hg, hcs⟩ := h hn
  refine ⟨g, o, hA, hg, fun k hk => ?_⟩
  obtain ⟨u, h1, h2⟩ := hcs k hk
  exact ⟨u, (hb.cell (p := ⟨g, o + k, Option.none⟩) (Nat.lt_of_lt_of_le hg hC)).trans h1, h2.below hb hC⟩
theorem Btss.at_ {w : World} {B n c : Nat} {A : Option Addr} {L : List (List UInt8)} (h : Btss w B (.slice A n c) L) (k : Nat) (hk : k < L.length) :
    ∃ g o Ak ck, A = some ⟨g, o, Option.none⟩ ∧ g < B ∧ w.cell? ⟨g, o + k, Option.none⟩ = some (.slice Ak L[k].length ck) ∧ Byt w B (.slice Ak L[k].length ck) L[k] := by
  obtain ⟨A', c', hv, _, h⟩ := h
  injection hv with e1 e2 e3
  subst e1
  obtain ⟨g, o, rfl, hg, hcs⟩ := h (by omega)
  obtain ⟨u, h1, h2⟩ := hcs k hk
  obtain ⟨Ak, ck, rfl, r⟩ := id h2
  exact ⟨g, o, Ak, ck, rfl, hg, h1, h2⟩
end Go.Proofs.YtmpdjioclalifaaDoor
