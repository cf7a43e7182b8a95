/-
  What the statements cut lists of operations to: at most ten, each of the same kinds and numbers, with short texts, in new memory.
-/
import Derived.Test.YtegkhkcnoahhdaaReDocSet
import Derived.Test.YtegkhkcnoahhdaaWAppend
import Derived.Test.YtegkhkcnoahhdaaVaPlain
import Derived.Deep.RegionHeld3
import Derived.Test.YtegkhkcnoahhdaaOpPlain
set_option linter.unusedSimpArgs false
set_option linter.unusedVariables false
namespace Go.Proofs.Ytegkhkcnoahhdaa
open Go.RowKit
set_option maxRecDepth 100000

/-- an operation with other texts, which are short -/
def CutO (o p : Opn) : Prop := p.kind = o.kind ∧ p.n = o.n ∧ p.val.kind = o.val.kind ∧ p.val.n = o.val.n ∧ p.old.kind = o.old.kind ∧ p.old.n = o.old.n ∧ p.key.size ≤ 90 ∧ p.val.s.size ≤ 220 ∧ p.old.s.size ≤ 220
/-- a slice value that owns operations among the blocks from B on -/
def OwnO (B : Nat) (v : Value) (l : List Opn) (w : World) : Prop := w.ownsRow B 38 9 v l.length (l.flatMap Opn.cs)
/-- the fields of an operation that lies at block g, all but its kind and its number; they may be written -/
def Bx (w : World) (g : Nat) (a b c d e f h : Value) : Prop :=
  (w.cell? ⟨g, 1, Option.none⟩ = some a ∧ w.cell? ⟨g, 2, Option.none⟩ = some b ∧ w.cell? ⟨g, 3, Option.none⟩ = some c ∧ w.cell? ⟨g, 4, Option.none⟩ = some d ∧ w.cell? ⟨g, 5, Option.none⟩ = some e ∧ w.cell? ⟨g, 6, Option.none⟩ = some f ∧ w.cell? ⟨g, 7, Option.none⟩ = some h) ∧
  (w.frozen? ⟨g, 1, Option.none⟩ = false ∧ w.frozen? ⟨g, 2, Option.none⟩ = false ∧ w.frozen? ⟨g, 3, Option.none⟩ = false ∧ w.frozen? ⟨g, 4, Option.none⟩ = false ∧ w.frozen? ⟨g, 5, Option.none⟩ = false ∧ w.frozen? ⟨g, 6, Option.none⟩ = false ∧ w.frozen? ⟨g, 7, Option.none⟩ = false)
theorem Bx.below {w w' : World} {C g : Nat} {a b c d e f h : Value} (k : Bx w g a b c d e f h) (hb : Below C w w') (hg : g < C) : Bx w' g a b c d e f h := by
  obtain ⟨⟨p1, p2, p3, p4, p5, p6, p7⟩, f1, f2, f3, f4, f5, f6, f7⟩ := k
  exact ⟨⟨(hb.cell (p := ⟨g, 1, none⟩) hg).trans p1, (hb.cell (p := ⟨g, 2, none⟩) hg).trans p2, (hb.cell (p := ⟨g, 3, none⟩) hg).trans p3, (hb.cell (p := ⟨g, 4, none⟩) hg).trans p4, (hb.cell (p := ⟨g, 5, none⟩) hg).trans p5, (hb.cell (p := ⟨g, 6, none⟩) hg).trans p6, (hb.cell (p := ⟨g, 7, none⟩) hg).trans p7⟩,
    (hb.frozen (p := ⟨g, 1, none⟩) hg).trans f1, (hb.frozen (p := ⟨g, 2, none⟩) hg).trans f2, (hb.frozen (p := ⟨g, 3, none⟩) hg).trans f3, (hb.frozen (p := ⟨g, 4, none⟩) hg).trans f4, (hb.frozen (p := ⟨g, 5, none⟩) hg).trans f5, (hb.frozen (p := ⟨g, 6, none⟩) hg).trans f6, (hb.frozen (p := ⟨g, 7, none⟩) hg).trans f7⟩
/-- behind the three cuts: three short texts, a frame and a world that hang on them -/
def CutMid (wb : World) (g : Nat) (a1 b1 c1 d1 e1 f1 h1 : Value) (F : ByteArray → ByteArray → ByteArray → Act) (G : World → ByteArray → ByteArray → ByteArray → World) : Exit → Act → World → Prop
  | .normal, a, w' => ∃ (tk tv to : ByteArray) (wo : World), (tk.size : Int) ≤ 90 ∧ (tv.size : Int) ≤ 220 ∧ (to.size : Int) ≤ 220 ∧ Below wb.heap.size wb wo ∧ Bx wo g a1 b1 c1 d1 e1 f1 h1 ∧ a = F tk tv to ∧ w' = G wo tk tv to
  | _, _, _ => False
theorem Try.infoOp3 : (Try.prog.info? 38).map (fun i => (i.zero, i.size, i.bytes)) = some (some (.agg #[.int .i64 0, .string ⟨#[]⟩, .int .i64 0, .int .i64 0, .string ⟨#[]⟩, .int .i64 0, .int .i64 0, .string ⟨#[]⟩, .int .i64 0]), 9, 96) := by kernel_rfl
theorem grown_setCells (g : Nat) : ∀ (vs : List Value) (o : Nat) (w : World), w.grownBy (w.setCells g o vs) (some g)
  | [], _, w => grownBy_refl w _
  | v :: r, o, w => by
    have h1 : w.grownBy (w.setCell ⟨g, o, Option.none⟩ v) (some g) := ⟨rfl, rfl, rfl, by simp [World.setCell], fun k _ hk => Below.heap_setCell w _ _ k (fun e => hk (by rw [e]))⟩
    exact h1.trans (grown_setCells g r (o + 1) _)
theorem below_grown {w w' : World} {r : Option Nat} (h : Below w.heap.size w w') : w.grownBy w' r := ⟨h.os, h.tape, h.output, h.size, fun k hk _ => h.block k hk⟩
theorem opn_cells (l : List Opn) (x : Opn) : l.flatMap Opn.cs ++ x.cs = (l ++ [x]).flatMap Opn.cs := by simp
theorem opn_one (x : Opn) : ∀ u ∈ x.cs, u.oneCell' = true := by
  intro u hu; unfold Opn.cs at hu; simp at hu
  rcases hu with rfl | rfl | rfl | rfl | rfl | rfl | rfl | rfl | rfl <;> rfl
/-- the cells of the operation behind the three stores -/
theorem seven (w : World) (g : Nat) (z0 z8 a b c d e f h a1 b1 c1 d1 e1 f1 h1 : Value) (k : Bx w g a1 b1 c1 d1 e1 f1 h1) (k0 : w.cell? ⟨g, 0, Option.none⟩ = some z0) (k8 : w.cell? ⟨g, 8, Option.none⟩ = some z8) :
    (w.setCells g 1 [a, b, c, d, e, f, h]).rangeAt g 0 [z0, a, b, c, d, e, f, h, z8] := by
  obtain ⟨⟨p1, p2, p3, p4, p5, p6, p7⟩, -⟩ := k
  have hin := World.cell?_setCells_in g [a, b, c, d, e, f, h] 1 w (by
    intro j hj
    have h7 : j = 0 ∨ j = 1 ∨ j = 2 ∨ j = 3 ∨ j = 4 ∨ j = 5 ∨ j = 6 := by simp at hj; omega
    rcases h7 with rfl | rfl | rfl | rfl | rfl | rfl | rfl
    · rw [p1]; rfl
    · rw [p2]; rfl
    · rw [p3]; rfl
    · rw [p4]; rfl
    · rw [p5]; rfl
    · rw [p6]; rfl
    · rw [p7]; rfl)
  have hout := fun (x : Addr) => World.cell?_setCells_out g [a, b, c, d, e, f, h] 1 w x
  intro j v hv
  rw [Nat.zero_add]
  have hj : j < 9 := by have := (List.getElem?_eq_some_iff.1 hv).1; simpa using this
  have h9 : j = 0 ∨ j = 1 ∨ j = 2 ∨ j = 3 ∨ j = 4 ∨ j = 5 ∨ j = 6 ∨ j = 7 ∨ j = 8 := by omega
  rcases h9 with rfl | rfl | rfl | rfl | rfl | rfl | rfl | rfl | rfl
  · rw [hout ⟨g, 0, Option.none⟩ (fun _ _ => .inl (show 0 < 1 by decide)), k0]; exact hv
  · exact (hin 0 (by simp)).trans hv
  · exact (hin 1 (by simp)).trans hv
  · exact (hin 2 (by simp)).trans hv
  · exact (hin 3 (by simp)).trans hv
  · exact (hin 4 (by simp)).trans hv
  · exact (hin 5 (by simp)).trans hv
  · exact (hin 6 (by simp)).trans hv
  · rw [hout ⟨g, 8, Option.none⟩ (fun _ _ => .inr (show 1 + 7 ≤ 8 by decide)), k8]; exact hv
end Go.Proofs.Ytegkhkcnoahhdaa
/-
  What the statements cut batches to: the same client and number, at most ten operations with short texts, in new memory.
-/
namespace Go.Proofs.Ytegkhkcnoahhdaa
open Go.RowKit
set_option maxRecDepth 100000

theorem flat_at : ∀ (l : List Opn) (k : Nat) (h : k < l.length) (j : Nat) (v : Value), l[k].cs[j]? = some v → (l.flatMap Opn.cs)[k * 9 + j]? = some v
  | x :: t, 0, _, j, v, hv => by
    have hj : j < x.cs.length := (List.getElem?_eq_some_iff.1 hv).1
    rw [List.flatMap_cons, Nat.zero_mul, Nat.zero_add, List.getElem?_append_left hj]; exact hv
  | x :: t, k + 1, h, j, v, hv => by
    have h9 : x.cs.length = 9 := rfl
    rw [List.flatMap_cons, List.getElem?_append_right (by omega), h9, show (k + 1) * 9 + j - 9 = k * 9 + j by omega]
    exact flat_at t k (by simpa using h) j v hv
/-- operations of one's own are operations -/
theorem Ops.of_own {w : World} {B : Nat} {v : Value} {l : List Opn} (h : OwnO B v l w) : Ops w w.heap.size v l := by
  unfold OwnO at h
  have hc := fun (g : Nat) (hg : v.ownBlock = some g) => World.ownsRow.cells h hg
  have hlt := World.ownsRow.lt h
  rcases h.2 with ⟨rfl, h0⟩ | ⟨g, c, cur, rfl, _, _, hnc, _⟩
  · exact ⟨Option.none, 0, by rw [h0], by rw [h0]; exact Nat.le_refl _, fun h => absurd h (by omega)⟩
  · refine ⟨_, c, rfl, hnc, fun _ => ⟨g, 0, rfl, (hlt g rfl).2, fun k hk j v hv => ?_⟩⟩
    have h2 := hc g rfl (k * 9 + j) v (flat_at l k hk j v hv)
    rw [Addr.add_mid] at h2
    rw [← h2]; congr 2; omega
theorem OwnO.below {B : Nat} {v : Value} {l : List Opn} {w w' : World} (h : OwnO B v l w) (hb : Below w.heap.size w w') : OwnO B v l w' := by
  have hlt := World.ownsRow.lt h
  unfold OwnO at *
  refine ⟨h.1, ?_⟩
  rcases h.2 with h2 | ⟨g, c, cur, hv, hB, hg, r⟩
  · exact .inl h2
  · exact .inr ⟨g, c, cur, hv, hB, (hb.block g (by rw [hv] at hlt; exact (hlt g rfl).2)).trans hg, r⟩
theorem ownO_down {B C : Nat} {v : Value} {l : List Opn} {w : World} (h : OwnO C v l w) (hB : B ≤ C) : OwnO B v l w := by
  unfold OwnO at *
  refine ⟨h.1, ?_⟩
  rcases h.2 with h2 | ⟨g, c, cur, hv, hb, r⟩
  · exact .inl h2
  · exact .inr ⟨g, c, cur, hv, Nat.le_trans hB hb, r⟩
def i64r (n : Int) : Prop := -9223372036854775808 ≤ n ∧ n ≤ 9223372036854775807
/-- its integers are in their ranges -/
def Opn.ints (o : Opn) : Prop := i64r o.kind ∧ i64r o.n ∧ i64r o.val.kind ∧ i64r o.val.n ∧ i64r o.old.kind ∧ i64r o.old.n
theorem CutO.ok {o p : Opn} (h : CutO o p) (hi : o.ints) : p.ok := by
  obtain ⟨a, b, c, d, e, f, k1, k2, k3⟩ := h
  obtain ⟨i1, i2, i3, i4, i5, i6⟩ := hi
  exact ⟨by rw [a]; exact i1, by omega, ⟨by rw [c]; exact i3, by rw [d]; exact i4, by omega⟩, ⟨by rw [e]; exact i5, by rw [f]; exact i6, by omega⟩, by rw [b]; exact i2⟩
theorem cut_ok {l m : List Opn} (hl : m.length = min l.length 10) (hc : ∀ k (h : k < m.length) (h2 : k < l.length), CutO l[k] m[k]) (hi : ∀ x ∈ l, x.ints) : ∀ x ∈ m, x.ok := by
  intro x hx
  obtain ⟨k, hk, rfl⟩ := List.getElem_of_mem hx
  have h2 : k < l.length := by omega
  exact (hc k hk h2).ok (hi _ (List.getElem_mem h2))
end Go.Proofs.Ytegkhkcnoahhdaa
