/-
  How a law's arguments are opened that are a slice of votes, and a slice of truths.
  There are no conditions.
-/
import Derived.Test.YtoekiencnbgmhaaLawKit
import Derived.Test.YtoekiencnbgmhaaL7Ints
set_option linter.unusedSimpArgs false
set_option linter.unusedVariables false
namespace Go.Proofs.Ytoekiencnbgmhaa
open Go.RowKit Go.WideShapes Go.ChangeShapes Go.Joins Go.Deep
set_option maxRecDepth 100000

/-- a slice value of votes: a number and a truth each; its cells lie below block B -/
def Vops (w : World) (B : Nat) (v : Value) (L : List (Int × Bool)) : Prop :=
  ∃ A c, v = .slice A L.length c ∧ L.length ≤ c ∧ (0 < L.length → ∃ g o, A = some ⟨g, o, Option.none⟩ ∧ g < B ∧ ∀ k (h : k < L.length), w.rangeAt g (o + k * 2) [.int .i64 L[k].1, .bool L[k].2])
/-- a slice value of truths -/
def Bls (w : World) (B : Nat) (v : Value) (L : List Bool) : Prop :=
  ∃ A c, v = .slice A L.length c ∧ L.length ≤ c ∧ (0 < L.length → ∃ g o, A = some ⟨g, o, Option.none⟩ ∧ g < B ∧ ∀ k (h : k < L.length), w.cell? ⟨g, o + k, Option.none⟩ = some (.bool L[k]))
theorem Try.cellsVop14 : Try.prog.cellsOf 56 = 2 := by kernel_rfl
theorem Try.cellsBool14 : Try.prog.cellsOf 4 = 1 := by kernel_rfl
section
variable {H : Type} {enc : TypeId × Value → H} {W : World} {b0 : Nat} {r : Reach} {v : Value} {d : DataW H} {p : List MemPlace}
theorem trod_struct2_14 {P : Program} {w : World} {base : Nat} {spare : Nat → Bool} {held : Bool} {t : TypeId} {f0 f1 : Field} {fuel : Nat} {cs : List Value} {x : DataW H × List MemPlace} (ht : P.underlying t = some (.struct #[f0, f1])) (h : DataW.trod enc P w base spare held fuel t cs = some x) :
    ∃ y0 y1 n, cs.length = P.cellsOf t ∧ DataW.trod enc P w base spare held n f0.type ((cs.drop f0.offset).take (P.cellsOf f0.type)) = some y0 ∧
      DataW.trod enc P w base spare held n f1.type ((cs.drop f1.offset).take (P.cellsOf f1.type)) = some y1 := by
  obtain ⟨xs, n, _, rfl, hl, hlen, hf⟩ := DataW.trod_struct ht h
  match xs, hlen with
  | [y0, y1], _ => exact ⟨y0, y1, n, hl, by simpa using hf 0 f0 rfl, by simpa using hf 1 f1 rfl⟩
theorem vop_cells {fuel : Nat} {cs : List Value} {x : DataW H × List MemPlace} (h : DataW.trod enc Try.prog W 0 (fun _ => true) true fuel 56 cs = some x) : ∃ (o : Int × Bool), cs = [.int .i64 o.1, .bool o.2] ∧ I64 o.1 := by
  obtain ⟨y0, y1, n, hl, h0, h1⟩ := trod_struct2_14 Try.underlying56 h
  rw [Try.cellsVop14] at hl
  match cs, hl with
  | [c0, c1], _ =>
    simp only [Try.cellsInt, Try.cellsBool14, List.drop_zero, List.drop_succ_cons, List.take_succ_cons, List.take_zero] at h0 h1
    obtain ⟨a, e0, _, wa⟩ := DataW.trod_int Try.underlying3 h0
    obtain ⟨b, e1, _⟩ := DataW.trod_bool Try.underlying4 h1
    simp only [List.cons.injEq, and_true] at e0 e1
    subst e0; subst e1
    exact ⟨(a, b), rfl, i64_wf wa⟩
theorem open_vops (hv : Value.okWide Try.prog W r b0 51 v) (h : DataW.Trod enc Try.prog W 0 (fun _ => true) true 51 v d p) :
    ∃ (A : Option Addr) (c : Nat) (L : List (Int × Bool)), v = .slice A L.length c ∧ Vops W W.heap.size (.slice A L.length c) L ∧ ∀ b ∈ L, I64 b.1 := by
  obtain ⟨a0, len, cap, rfl⟩ := okWide_slice Try.underlying51 hv
  obtain ⟨fuel, hf⟩ := h
  have hf2 : DataW.trod enc Try.prog W 0 (fun _ => true) true fuel 51 [.slice a0 len cap] = some (d, p) := by simpa [Value.cells] using hf
  rcases open_slice Try.underlying51 hf2 with ⟨hcs, _⟩ | ⟨a, len', cap', m, n, D, Pl, hcs, _, hl, hm, hmm, _, hx⟩
  · simp only [List.cons.injEq, and_true] at hcs
    injection hcs with e1 e2 e3
    subst e1; subst e2; subst e3
    exact ⟨none, 0, [], rfl, ⟨none, 0, rfl, Nat.le_refl _, fun h => absurd h (by decide)⟩, fun x hx => by cases hx⟩
  · simp only [List.cons.injEq, and_true] at hcs
    injection hcs with e1 e2 e3
    subst e1; subst e2; subst e3
    simp only [if_true] at hmm
    subst hmm
    rw [Try.cellsVop14] at hx
    obtain ⟨f, hf⟩ := choose_lt (α := Int × Bool) (p := fun i b => W.cells? 0 (a.add (i * 2)) 2 = some [.int .i64 b.1, .bool b.2] ∧ I64 b.1) (fun i (hi : i < len) => by
      obtain ⟨cs', h1, h2⟩ := hx i (by omega)
      obtain ⟨b, rfl, h3⟩ := vop_cells h2
      exact ⟨b, h1, h3⟩)
    have hln : ((List.range len).map f).length = len := by simp
    refine ⟨some a, m, (List.range len).map f, by rw [hln], ?_, fun x hx => ?_⟩
    · refine ⟨some a, m, rfl, by rw [hln]; exact hl, fun h0 => ?_⟩
      rw [hln] at h0
      obtain ⟨hc0, _⟩ := hf 0 h0
      obtain ⟨_, hl0, hcc⟩ := World.cells?_some hc0
      have hc := hcc 0 (by decide)
      obtain ⟨g, o, spot⟩ := a
      have hspot : spot = Option.none := by simpa [Addr.add] using World.cell?_spot hc
      subst hspot
      refine ⟨g, o, rfl, ?_, fun k hk => ?_⟩
      · have := cell_in hc; simpa [Addr.add] using this
      · rw [hln] at hk
        obtain ⟨h1, h3⟩ := hf k hk
        have e : ((List.range len).map f)[k]'(by rw [hln]; exact hk) = f k := by simp
        rw [e]
        intro j v hj
        obtain ⟨_, hli, hci⟩ := World.cells?_some h1
        have hj3 : j < 2 := (List.getElem?_eq_some_iff.1 hj).1
        have e2 : ((⟨g, o, Option.none⟩ : Addr).add (k * 2)).add j = ⟨g, o + k * 2 + j, Option.none⟩ := by
          rw [add7, add7]
        rw [← e2, hci j hj3]; exact hj
    · obtain ⟨i, hi, rfl⟩ := List.mem_map.1 hx
      exact (hf i (List.mem_range.1 hi)).2
theorem open_bls (hv : Value.okWide Try.prog W r b0 61 v) (h : DataW.Trod enc Try.prog W 0 (fun _ => true) true 61 v d p) :
    ∃ (A : Option Addr) (c : Nat) (l : List Bool), v = .slice A l.length c ∧ Bls W W.heap.size (.slice A l.length c) l := by
  obtain ⟨a0, len, cap, rfl⟩ := okWide_slice Try.underlying61 hv
  obtain ⟨fuel, hf⟩ := h
  have hf2 : DataW.trod enc Try.prog W 0 (fun _ => true) true fuel 61 [.slice a0 len cap] = some (d, p) := by simpa [Value.cells] using hf
  rcases open_slice1 Try.underlying61 Try.cellsBool14 hf2 with ⟨hcs, _⟩ | ⟨a, len', cap', m, n, V, D, Pl, hcs, _, hl, hm, hmm, _, hx⟩
  · simp only [List.cons.injEq, and_true] at hcs
    injection hcs with e1 e2 e3
    subst e1; subst e2; subst e3
    exact ⟨none, 0, [], rfl, ⟨none, 0, rfl, Nat.le_refl _, fun h => absurd h (by decide)⟩⟩
  · simp only [List.cons.injEq, and_true] at hcs
    injection hcs with e1 e2 e3
    subst e1; subst e2; subst e3
    simp only [if_true] at hmm
    subst hmm
    have hS : ∀ i, i < len → ∃ s : Bool, W.cell? (a.add i) = some (.bool s) := fun i hi => by
      obtain ⟨h1, h2⟩ := hx i (by omega)
      obtain ⟨s, e, _⟩ := DataW.trod_bool Try.underlying4 h2
      simp only [List.cons.injEq, and_true] at e
      exact ⟨s, by rw [h1, e]⟩
    obtain ⟨f, hf⟩ := choose_lt (α := Bool) (p := fun i s => W.cell? (a.add i) = some (.bool s)) hS
    have hln : ((List.range len).map f).length = len := by simp
    refine ⟨some a, m, (List.range len).map f, by rw [hln], ?_⟩
    refine ⟨some a, m, rfl, by rw [hln]; exact hl, fun h0 => ?_⟩
    rw [hln] at h0
    have hc0 := hf 0 h0
    obtain ⟨g, o, spot⟩ := a
    have hspot : spot = Option.none := by simpa [Addr.add] using World.cell?_spot hc0
    subst hspot
    refine ⟨g, o, rfl, ?_, fun k hk => ?_⟩
    · have := cell_in hc0; simpa [Addr.add] using this
    · rw [hln] at hk
      have := hf k hk
      rw [add7] at this
      rw [this]; simp
end
theorem Vops.keep {w w' : World} {B C : Nat} {v : Value} {L : List (Int × Bool)} (h : Vops w B v L) (hb : Below C w w') (hC : B ≤ C) : Vops w' B v L := by
  obtain ⟨A, c, hv, hc, h⟩ := h
  refine ⟨A, c, hv, hc, fun hn => ?_⟩
  obtain ⟨g, o, hA, hg, hcs⟩ := h hn
  exact ⟨g, o, hA, hg, fun k hk j z hj => (hb.cell (p := ⟨g, o + k * 2 + j, Option.none⟩) (Nat.lt_of_lt_of_le hg hC)).trans (hcs k hk j z hj)⟩
theorem Vops.at_ {w : World} {B n c : Nat} {A : Option Addr} {L : List (Int × Bool)} (h : Vops w B (.slice A n c) L) (k : Nat) (hk : k < L.length) :
    ∃ g o, A = some ⟨g, o, Option.none⟩ ∧ g < B ∧ w.rangeAt g (o + k * 2) [.int .i64 L[k].1, .bool L[k].2] := by
  obtain ⟨A', c', hv, _, h⟩ := h
  injection hv with e1 e2 e3
  subst e1
  obtain ⟨g, o, rfl, hg, hcs⟩ := h (by omega)
  exact ⟨g, o, rfl, hg, hcs k hk⟩
theorem Bls.keep {w w' : World} {B C : Nat} {v : Value} {L : List Bool} (h : Bls w B v L) (hb : Below C w w') (hC : B ≤ C) : Bls w' B v L := by
  obtain ⟨A, c, hv, hc, h⟩ := h
  refine ⟨A, c, hv, hc, fun hn => ?_⟩
  obtain ⟨g, o, hA, hg, hcs⟩ := h hn
  exact ⟨g, o, hA, hg, fun k hk => (hb.cell (p := ⟨g, o + k, Option.none⟩) (Nat.lt_of_lt_of_le hg hC)).trans (hcs k hk)⟩
theorem Bls.at_ {w : World} {B n c : Nat} {A : Option Addr} {L : List Bool} (h : Bls w B (.slice A n c) L) (k : Nat) (hk : k < L.length) :
    ∃ g o, A = some ⟨g, o, Option.none⟩ ∧ g < B ∧ w.cell? ⟨g, o + k, Option.none⟩ = some (.bool L[k]) := by
  obtain ⟨A', c', hv, _, h⟩ := h
  injection hv with e1 e2 e3
  subst e1
  obtain ⟨g, o, rfl, hg, hcs⟩ := h (by omega)
  exact ⟨g, o, rfl, hg, hcs k hk⟩
end Go.Proofs.Ytoekiencnbgmhaa
