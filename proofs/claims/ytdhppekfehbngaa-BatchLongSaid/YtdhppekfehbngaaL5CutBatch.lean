/-
  What the statements cut batches to: the same client and number, at most ten operations with short texts, in new memory.
-/
import Derived.Test.YtdhppekfehbngaaL5Cut
import Derived.Test.YtdhppekfehbngaaReEncodeBatch
set_option linter.unusedSimpArgs false
set_option linter.unusedVariables false
namespace Go.Proofs.Ytdhppekfehbngaa
open Go.RowKit
set_option maxRecDepth 100000

theorem flat_at : ∀ (l : List Opn) (k : Nat) (h : k < l.length) (j : Nat) (v : Value), l[k].cs[j]? = some v → (l.flatMap Opn.cs)[k * 9 + j]? = some v
  | x :: t, 0, _, j, v, hv => by
    have hj : j < x.cs.length := (List.getElem?_eq_some_iff.1 hv).1
    rw [List.flatMap_cons, Nat.zero_mul, Nat.zero_add, List.getElem?_append_left hj]; exact hv
  | x :: t, k + 1, h, j, v, hv => by
    have h9 : x.cs.length = 9 := rfl
    rw [List.flatMap_cons, List.getElem?_append_right (by omega), h9, show (k + 1) * 9 + j - 9 = k * 9 + j by omega]
    exact flat_at t k (by simpa using h) j v hv
/-- operations of one's own are operations -/
theorem Ops.of_own {w : World} {B : Nat} {v : Value} {l : List Opn} (h : OwnO B v l w) : Ops w w.heap.size v l := by
  unfold OwnO at h
  have hc := fun (g : Nat) (hg : v.ownBlock = some g) => World.ownsRow.cells h hg
  have hlt := World.ownsRow.lt h
  rcases h.2 with ⟨rfl, h0⟩ | ⟨g, c, cur, rfl, _, _, hnc, _⟩
  · exact ⟨Option.none, 0, by rw [h0], by rw [h0]; exact Nat.le_refl _, fun h => absurd h (by omega)⟩
  · refine ⟨_, c, rfl, hnc, fun _ => ⟨g, 0, rfl, (hlt g rfl).2, fun k hk j v hv => ?_⟩⟩
    have h2 := hc g rfl (k * 9 + j) v (flat_at l k hk j v hv)
    rw [Addr.add_mid] at h2
    rw [← h2]; congr 2; omega
theorem OwnO.below {B : Nat} {v : Value} {l : List Opn} {w w' : World} (h : OwnO B v l w) (hb : Below w.heap.size w w') : OwnO B v l w' := by
  have hlt := World.ownsRow.lt h
  unfold OwnO at *
  refine ⟨h.1, ?_⟩
  rcases h.2 with h2 | ⟨g, c, cur, hv, hB, hg, r⟩
  · exact .inl h2
  · exact .inr ⟨g, c, cur, hv, hB, (hb.block g (by rw [hv] at hlt; exact (hlt g rfl).2)).trans hg, r⟩
theorem ownO_down {B C : Nat} {v : Value} {l : List Opn} {w : World} (h : OwnO C v l w) (hB : B ≤ C) : OwnO B v l w := by
  unfold OwnO at *
  refine ⟨h.1, ?_⟩
  rcases h.2 with h2 | ⟨g, c, cur, hv, hb, r⟩
  · exact .inl h2
  · exact .inr ⟨g, c, cur, hv, Nat.le_trans hB hb, r⟩
def i64r (n : Int) : Prop := -9223372036854775808 ≤ n ∧ n ≤ 9223372036854775807
/-- its integers are in their ranges -/
def Opn.ints (o : Opn) : Prop := i64r o.kind ∧ i64r o.n ∧ i64r o.val.kind ∧ i64r o.val.n ∧ i64r o.old.kind ∧ i64r o.old.n
theorem CutO.ok {o p : Opn} (h : CutO o p) (hi : o.ints) : p.ok := by
  obtain ⟨a, b, c, d, e, f, k1, k2, k3⟩ := h
  obtain ⟨i1, i2, i3, i4, i5, i6⟩ := hi
  exact ⟨by rw [a]; exact i1, by omega, ⟨by rw [c]; exact i3, by rw [d]; exact i4, by omega⟩, ⟨by rw [e]; exact i5, by rw [f]; exact i6, by omega⟩, by rw [b]; exact i2⟩
theorem cut_ok {l m : List Opn} (hl : m.length = min l.length 10) (hc : ∀ k (h : k < m.length) (h2 : k < l.length), CutO l[k] m[k]) (hi : ∀ x ∈ l, x.ints) : ∀ x ∈ m, x.ok := by
  intro x hx
  obtain ⟨k, hk, rfl⟩ := List.getElem_of_mem hx
  have h2 : k < l.length := by omega
  exact (hc k hk h2).ok (hi _ (List.getElem_mem h2))
set_option maxRecDepth 100000 in
set_option maxHeartbeats 1000000 in
theorem l5cutBatch_any (B : Nat) (v : Value) (b : Bat) (w : World) (h : BatV w B v b) (hB : B ≤ w.heap.size) (hi : ∀ x ∈ b.ops, x.ints) : Calls Try.prog 14 #[v] w fun e w' => ∃ u m, e = .returned (.agg #[.int .i64 b.client, .int .i64 b.seq, u]) ∧ OwnO w.heap.size u m w' ∧ Below w.heap.size w w' ∧ m.length = min b.ops.length 10 ∧ ∀ x ∈ m, x.ok := by
  obtain ⟨s, rfl, hs⟩ := h
  have HS := Lib.hid hs; clear hs
  have HI := Lib.hid hi; clear hi
  obtain ⟨W0, hW0⟩ : ∃ W0, w.alloc (Obj.cells #[Value.int IntKind.i64 b.client, Value.int IntKind.i64 b.seq, s] 31) = W0 := ⟨_, rfl⟩
  have hb0 : Below w.heap.size w W0 := by rw [← hW0]; exact below_one w _
  have hlt : w.heap.size < W0.heap.size := by rw [← hW0]; simp
  have q0 : W0.cell? ⟨w.heap.size, 0, none⟩ = some (.int .i64 b.client) := by rw [← hW0]; exact World.cell?_alloc_mark w _ _ _ 0
  have q1 : W0.cell? ⟨w.heap.size, 1, none⟩ = some (.int .i64 b.seq) := by rw [← hW0]; exact World.cell?_alloc_mark w _ _ _ 1
  have q2 : W0.cell? ⟨w.heap.size, 2, none⟩ = some s := by rw [← hW0]; exact World.cell?_alloc_mark w _ _ _ 2
  have z2 : W0.frozen? ⟨w.heap.size, 2, none⟩ = false := by rw [← hW0]; exact World.frozen?_alloc_at _ _ _ 2 rfl
  obtain ⟨W9, hW9⟩ : ∃ W9, W0.alloc (Obj.cells #[Value.int IntKind.i64 0, Value.int IntKind.i64 0, Value.slice none 0 0] 31) = W9 := ⟨_, rfl⟩
  have hb9 : Below W0.heap.size W0 W9 := by rw [← hW9]; exact below_one W0 _
  have hbw9 := hb0.trans (hb9.mono (Nat.le_of_lt hlt))
  have hlt9 : w.heap.size < W9.heap.size := Nat.lt_of_lt_of_le hlt hb9.size
  have p0 := (hb9.cell (p := ⟨w.heap.size, 0, none⟩) hlt).trans q0
  have p1 := (hb9.cell (p := ⟨w.heap.size, 1, none⟩) hlt).trans q1
  have p2 := (hb9.cell (p := ⟨w.heap.size, 2, none⟩) hlt).trans q2
  have x2 := (hb9.frozen (p := ⟨w.heap.size, 2, none⟩) hlt).trans z2
  have hs9 : w.heap.size + 1 = W0.heap.size := by rw [← hW0]; simp
  have hl9 : w.heap.size + 1 < W9.heap.size := by rw [hs9, ← hW9]; simp
  have t0 : W9.cell? ⟨w.heap.size + 1, 0, none⟩ = some (.int .i64 0) := by rw [hs9, ← hW9]; exact World.cell?_alloc_mark W0 _ _ _ 0
  have t1 : W9.cell? ⟨w.heap.size + 1, 1, none⟩ = some (.int .i64 0) := by rw [hs9, ← hW9]; exact World.cell?_alloc_mark W0 _ _ _ 1
  have t2 : W9.cell? ⟨w.heap.size + 1, 2, none⟩ = some (.slice none 0 0) := by rw [hs9, ← hW9]; exact World.cell?_alloc_mark W0 _ _ _ 2
  have tz : ∀ j, W9.frozen? ⟨w.heap.size + 1, j, none⟩ = false := fun j => by rw [hs9, ← hW9]; exact World.frozen?_alloc_at _ _ _ j rfl
  clear q0 q1 q2 z2 hs9
  have HW := Lib.hid hW0; clear hW0
  have HW9 := Lib.hid hW9; clear hW9
  go_enter Try.func14, Try.ntmps14
  go_wp2_with fail
  rw [HW.out, HW9.out]
  refine (l5cut_any B s b.ops _ (HS.out.keep hbw9 hB) (Nat.le_trans hB hbw9.size)).mono ?_
  rintro e w1 ⟨u, m, rfl, hown, hb1, hml, hcut⟩
  have hbw1 := hbw9.trans (hb1.mono hbw9.size)
  have r0 : w1.cell? ⟨w.heap.size, 0, none⟩ = some (.int .i64 b.client) := (hb1.cell (p := ⟨w.heap.size, 0, none⟩) hlt9).trans p0
  have r1 : w1.cell? ⟨w.heap.size, 1, none⟩ = some (.int .i64 b.seq) := (hb1.cell (p := ⟨w.heap.size, 1, none⟩) hlt9).trans p1
  have r2 : w1.cell? ⟨w.heap.size, 2, none⟩ = some s := (hb1.cell (p := ⟨w.heap.size, 2, none⟩) hlt9).trans p2
  have y2 : w1.frozen? ⟨w.heap.size, 2, none⟩ = false := (hb1.frozen (p := ⟨w.heap.size, 2, none⟩) hlt9).trans x2
  have s0 : w1.cell? ⟨w.heap.size + 1, 0, none⟩ = some (.int .i64 0) := (hb1.cell (p := ⟨w.heap.size + 1, 0, none⟩) hl9).trans t0
  have s1 : w1.cell? ⟨w.heap.size + 1, 1, none⟩ = some (.int .i64 0) := (hb1.cell (p := ⟨w.heap.size + 1, 1, none⟩) hl9).trans t1
  have s2 : w1.cell? ⟨w.heap.size + 1, 2, none⟩ = some (.slice none 0 0) := (hb1.cell (p := ⟨w.heap.size + 1, 2, none⟩) hl9).trans t2
  have z0 : w1.frozen? ⟨w.heap.size + 1, 0, none⟩ = false := (hb1.frozen (p := ⟨w.heap.size + 1, 0, none⟩) hl9).trans (tz 0)
  have z1 : w1.frozen? ⟨w.heap.size + 1, 1, none⟩ = false := (hb1.frozen (p := ⟨w.heap.size + 1, 1, none⟩) hl9).trans (tz 1)
  have z2 : w1.frozen? ⟨w.heap.size + 1, 2, none⟩ = false := (hb1.frozen (p := ⟨w.heap.size + 1, 2, none⟩) hl9).trans (tz 2)
  have hok := cut_ok hml hcut HI.out
  obtain ⟨A, c, rfl, -⟩ := id (Ops.of_own hown)
  have hap : (Value.slice A m.length c).ownBlock ≠ some w.heap.size := fun e => by have := (World.ownsRow.lt hown _ e).1; omega
  have hap2 : (Value.slice A m.length c).ownBlock ≠ some (w.heap.size + 1) := fun e => by have := (World.ownsRow.lt hown _ e).1; omega
  have HOK := Lib.hid hok; have HML := Lib.hid hml
  clear p0 p1 p2 t0 t1 t2 tz hb1 hcut hok hml x2
  go_wp2
  have hg1 : w1.grownBy (w1.setCells w.heap.size 2 [.slice A m.length c]) (some w.heap.size) := grown_setCells _ _ _ _
  have hg2 := grown_setCells (w.heap.size + 1) [.int .i64 b.client, .int .i64 b.seq, .slice A m.length c] 0 (w1.setCells w.heap.size 2 [.slice A m.length c])
  have hbA := hbw1.grown hg1 hbw1.size (fun k e => by injection e with e; rw [← e]; exact Nat.le_refl _)
  have hbB := hbA.grown hg2 hbA.size (fun k e => by injection e with e; omega)
  have hownA : OwnO W9.heap.size (.slice A m.length c) m _ := World.ownsRow.kept hown hg1 (.inr hap)
  have hownB : OwnO W9.heap.size (.slice A m.length c) m _ := World.ownsRow.kept hownA hg2 (.inr hap2)
  refine bodyPost_ret (v := .agg #[.int .i64 b.client, .int .i64 b.seq, .slice A m.length c]) ?_ rfl ⟨.slice A m.length c, m, rfl, ?_, hbB, HML.out, HOK.out⟩
  · simp [results, Try.results14, go_sem, s0, s1, s2, r0, r1, r2]
  · exact ownO_down hownB (Nat.le_of_lt hlt9)
end Go.Proofs.Ytdhppekfehbngaa
