/-
  What the program's table says of bytes: one cell, one byte, zero at first; and how an owned row of bytes is told.
  There are no conditions.
-/
import Derived.Test.YtegkhkcnoahhdaaProg
import Derived.Test.YtegkhkcnoahhdaaWBase
import Derived.Laws.AppendOwnNone
import Derived.Lib.AppendStr
import Derived.Maps.AppendAt
import Derived.Deep.MidRow
set_option linter.unusedSimpArgs false
set_option linter.unusedVariables false
namespace Go.Proofs.Ytegkhkcnoahhdaa
open Go.RowKit
set_option maxRecDepth 100000
theorem Try.infoU8 : (Try.prog.info? 5).map (fun i => (i.zero, i.size, i.bytes)) = some (some (.int .u8 0), 1, 1) := by kernel_rfl
/-- a slice value that owns the bytes l among the blocks from B on -/
def OwnB (B : Nat) (v : Value) (l : List UInt8) (w : World) : Prop := w.ownsRow B 5 1 v l.length (Lib.byteCells l)
theorem ownB_nil (B : Nat) (w : World) : OwnB B (.slice none 0 0) [] w := World.ownsRow_nil _ _ _ _
theorem OwnB.alloc {B : Nat} {v : Value} {l : List UInt8} {w : World} (h : OwnB B v l w) (o : Obj) : OwnB B v l (w.alloc o) := World.ownsRow.alloc h o
/-- a function that makes bytes: a new row, what was there stands -/
def Made (l : List UInt8) (w : World) (e : Ending) (w' : World) : Prop := ∃ v, e = .returned v ∧ OwnB w.heap.size v l w' ∧ Below w.heap.size w w'
end Go.Proofs.Ytegkhkcnoahhdaa
/-
  A slice of bytes that is there: what it reads as, and that it goes on reading so where the memory below a block stands.
  There are no conditions beyond those that each lemma names.
-/
namespace Go.Proofs.Ytegkhkcnoahhdaa
open Go.RowKit
set_option maxRecDepth 100000

/-- the slice value v reads as the bytes l; its cells lie below block B -/
def Byt (w : World) (B : Nat) (v : Value) (l : List UInt8) : Prop :=
  ∃ A c, v = .slice A l.length c ∧ l.length ≤ c ∧ (0 < l.length → ∃ g o, A = some ⟨g, o, Option.none⟩ ∧ g < B ∧ ∀ k (h : k < l.length), w.cell? ⟨g, o + k, Option.none⟩ = some (.int .u8 (l[k].toNat : Int)))
theorem Byt.keep {w w' : World} {B : Nat} {v : Value} {l : List UInt8} (h : Byt w B v l) (hk : ∀ p : Addr, p.block < B → w'.cell? p = w.cell? p) : Byt w' B v l := by
  obtain ⟨A, c, hv, hc, h⟩ := h
  refine ⟨A, c, hv, hc, fun hn => ?_⟩
  obtain ⟨g, o, hA, hg, hcell⟩ := h hn
  exact ⟨g, o, hA, hg, fun k hk2 => (hk ⟨g, o + k, Option.none⟩ hg).trans (hcell k hk2)⟩
theorem Byt.below {w w' : World} {B C : Nat} {v : Value} {l : List UInt8} (h : Byt w B v l) (hb : Below C w w') (hC : B ≤ C) : Byt w' B v l := h.keep fun _ hp => hb.cell (Nat.lt_of_lt_of_le hp hC)
theorem Byt.more {w : World} {B C : Nat} {v : Value} {l : List UInt8} (h : Byt w B v l) (hC : B ≤ C) : Byt w C v l := by
  obtain ⟨A, c, hv, hc, h⟩ := h
  refine ⟨A, c, hv, hc, fun hn => ?_⟩
  obtain ⟨g, o, hA, hg, hcell⟩ := h hn
  exact ⟨g, o, hA, Nat.lt_of_lt_of_le hg hC, hcell⟩
/-- the tail from place k on, as Go's s[k:] writes it -/
theorem Byt.cut {w : World} {B : Nat} {A : Option Addr} {c k : Nat} {l : List UInt8} (h : Byt w B (.slice A l.length c) l) (hk : k ≤ l.length) : Byt w B (.slice (if c = k then A else A.map (·.add k)) (l.length - k) (c - k)) (l.drop k) := by
  obtain ⟨A', c', hv, hc, h⟩ := h
  injection hv with hA _ hcc; subst hA; subst hcc
  refine ⟨_, _, by rw [List.length_drop], by rw [List.length_drop]; omega, fun hn => ?_⟩
  rw [List.length_drop] at hn
  obtain ⟨g, o, rfl, hg, hcell⟩ := h (by omega)
  rw [if_neg (by omega)]
  refine ⟨g, o + k, ?_, hg, fun j hj => ?_⟩
  · show some (Addr.add ⟨g, o, Option.none⟩ k) = _
    unfold Addr.add; split <;> simp_all
  · rw [List.length_drop] at hj
    rw [Nat.add_assoc, hcell (k + j) (by omega)]; simp
theorem Byt.of_own {w : World} {B : Nat} {v : Value} {l : List UInt8} (h : OwnB B v l w) : Byt w w.heap.size v l := by
  unfold OwnB at h
  have hc := fun (g : Nat) (hg : v.ownBlock = some g) => World.ownsRow.cells h hg
  have hlt := World.ownsRow.lt h
  rcases h.2 with ⟨rfl, h0⟩ | ⟨g, c, cur, rfl, _, _, hnc, _⟩
  · exact ⟨Option.none, 0, by rw [h0], by rw [h0]; exact Nat.le_refl _, fun h => absurd h (by omega)⟩
  · refine ⟨_, c, rfl, hnc, fun _ => ⟨g, 0, rfl, (hlt g rfl).2, fun k hk => ?_⟩⟩
    have h2 := hc g rfl k (.int .u8 (l[k].toNat : Int)) (by simp [Lib.byteCells, hk])
    have e1 : (⟨g, 0, Option.none⟩ : Addr).add k = ⟨g, 0 + k, Option.none⟩ := by unfold Addr.add; split <;> simp_all
    rw [e1] at h2; exact h2
theorem OwnB.below {B : Nat} {v : Value} {l : List UInt8} {w w' : World} (h : OwnB B v l w) (hb : Below w.heap.size w w') : OwnB B v l w' := by
  have hlt := World.ownsRow.lt h
  unfold OwnB at *
  refine ⟨h.1, ?_⟩
  rcases h.2 with h2 | ⟨g, c, cur, hv, hB, hg, r⟩
  · exact .inl h2
  · exact .inr ⟨g, c, cur, hv, hB, (hb.block g (by rw [hv] at hlt; exact (hlt g rfl).2)).trans hg, r⟩
theorem OwnB.lt {B : Nat} {v : Value} {l : List UInt8} {w : World} (h : OwnB B v l w) : ∀ k, v.ownBlock = some k → B ≤ k ∧ k < w.heap.size := World.ownsRow.lt h
theorem OwnB.down {B C : Nat} {v : Value} {l : List UInt8} {w : World} (h : OwnB C v l w) (hB : B ≤ C) : OwnB B v l w := by
  unfold OwnB at *
  refine ⟨h.1, ?_⟩
  rcases h.2 with h2 | ⟨g, c, cur, hv, hb, r⟩
  · exact .inl h2
  · exact .inr ⟨g, c, cur, hv, Nat.le_trans hB hb, r⟩
/-- a row that holds something lies at a block's head -/
theorem OwnB.at_ {B : Nat} {v : Value} {l : List UInt8} {w : World} (h : OwnB B v l w) (hl : 1 ≤ l.length) : ∃ g c, v = .slice (some ⟨g, 0, Option.none⟩) l.length c ∧ g < w.heap.size ∧ ∀ j u, (Lib.byteCells l)[j]? = some u → w.cell? ((⟨g, 0, Option.none⟩ : Addr).add j) = some u := by
  unfold OwnB at h
  have hc := fun (g : Nat) (hg : v.ownBlock = some g) => World.ownsRow.cells h hg
  have hlt := World.ownsRow.lt h
  rcases h.2 with ⟨_, h0⟩ | ⟨g, c, cur, rfl, _⟩
  · omega
  · exact ⟨g, c, rfl, (hlt g rfl).2, hc g rfl⟩
theorem byteCells_one (l : List UInt8) : ∀ u ∈ Lib.byteCells l, u.oneCell' = true := by
  intro u hu; unfold Lib.byteCells at hu
  obtain ⟨b, _, rfl⟩ := List.mem_map.1 hu; rfl
end Go.Proofs.Ytegkhkcnoahhdaa
/-
  Rows of one's own: that they stand where nothing below has turned, and how their values are told.
  There are no conditions.
-/
namespace Go.Proofs.Ytegkhkcnoahhdaa
open Go.RowKit
set_option maxRecDepth 100000

theorem ownsRow_below {B e s n : Nat} {v : Value} {xs : List Value} {w w' : World} (h : w.ownsRow B e s v n xs) (hb : Below w.heap.size w w') : w'.ownsRow B e s v n xs := by
  have hlt := World.ownsRow.lt h
  refine ⟨h.1, ?_⟩
  rcases h.2 with h2 | ⟨g, c, cur, hv, hB, hg, r⟩
  · exact .inl h2
  · exact .inr ⟨g, c, cur, hv, hB, (hb.block g (by rw [hv] at hlt; exact (hlt g rfl).2)).trans hg, r⟩
theorem own_slice {B e s n : Nat} {v : Value} {xs : List Value} {w : World} (h : w.ownsRow B e s v n xs) : ∃ A c, v = .slice A n c := by
  rcases h.2 with ⟨rfl, rfl⟩ | ⟨g, c, cur, rfl, _⟩
  · exact ⟨none, 0, rfl⟩
  · exact ⟨_, c, rfl⟩
theorem ownsRow_down {B C e s n : Nat} {v : Value} {xs : List Value} {w : World} (h : w.ownsRow C e s v n xs) (hB : B ≤ C) : w.ownsRow B e s v n xs := by
  refine ⟨h.1, ?_⟩
  rcases h.2 with h2 | ⟨g, c, cur, hv, hb, r⟩
  · exact .inl h2
  · exact .inr ⟨g, c, cur, hv, Nat.le_trans hB hb, r⟩
theorem setCell_grown (w : World) (p : Addr) (v : Value) : w.grownBy (w.setCell p v) (some p.block) := ⟨rfl, rfl, rfl, by simp [World.setCell], fun k _ hk => Below.heap_setCell w _ _ k (fun e => hk (by rw [e]))⟩
/-- a store below the row leaves it -/
theorem ownsRow_set {B e s n : Nat} {v u : Value} {xs : List Value} {w : World} {p : Addr} (h : w.ownsRow B e s v n xs) (hp : p.block < B) : (w.setCell p u).ownsRow B e s v n xs :=
  World.ownsRow.kept h (setCell_grown w p u) (.inr (fun e => by have := (World.ownsRow.lt h _ e).1; omega))
end Go.Proofs.Ytegkhkcnoahhdaa
/-
  A row of bytes that the call owns, and what is put behind it: the bytes of any slice that is there, one byte, a text.
  The rows are shorter than the model's bound on what append makes.
-/
namespace Go.Proofs.Ytegkhkcnoahhdaa
open Go.RowKit
set_option maxRecDepth 100000

theorem append_nil {w : World} {B n c : Nat} {v : Value} {xs : List Value} (ty : TypeId) (hown : w.ownsRow B 5 1 v n xs) :
    (Builtin.append_ #[22, 22] ty #[v, .slice none 0 c]).run Try.prog w = .ok v w := by
  obtain ⟨iR, hiR, _, _, _⟩ := info_parts Try.infoU8
  rcases hown.2 with ⟨rfl, rfl⟩ | ⟨g, cap, cur, rfl, _, _, hnc, _⟩
  · simp [Builtin.append_, run_underlying Try.underlying22, sizeOf, typeInfo, hiR, Builtin.lenOf, Builtin.firstCells]
  · simp [Builtin.append_, run_underlying Try.underlying22, sizeOf, typeInfo, hiR, Builtin.lenOf, Builtin.firstCells, hnc, storeCells]

theorem grownBy_refl (w : World) (r : Option Nat) : w.grownBy w r := ⟨rfl, rfl, rfl, Nat.le_refl _, fun _ _ _ => rfl⟩
theorem bytes_len (l : List UInt8) : (Lib.byteCells l).length = l.length := by simp [Lib.byteCells]

/-- append: nothing but the old row may have turned; the new row lies in the old one's block or in a new one -/
def Grew (v : Value) (w : World) (v' : Value) (w' : World) : Prop := w.grownBy w' v.ownBlock ∧ (v'.ownBlock = v.ownBlock ∨ v'.ownBlock = some w.heap.size)
theorem Grew.range {v v' : Value} {w w' : World} {g o : Nat} {cs : List Value} (h : Grew v w v' w') (hr : w.rangeAt g o cs) (hg : v.ownBlock ≠ some g) : w'.rangeAt g o cs := fun j u hj => h.1.cell (hr j u hj) (fun e => hg e.symm)
theorem Grew.cell {v v' : Value} {w w' : World} {p : Addr} {u : Value} (h : Grew v w v' w') (hr : w.cell? p = some u) (hg : v.ownBlock ≠ some p.block) : w'.cell? p = some u := h.1.cell hr (fun e => hg e.symm)
theorem Grew.apart {v v' : Value} {w w' : World} {g : Nat} (h : Grew v w v' w') (hs : g < w.heap.size) (hg : v.ownBlock ≠ some g) : v'.ownBlock ≠ some g := by
  rcases h.2 with e | e
  · rw [e]; exact hg
  · rw [e]; intro e2; injection e2 with e2; omega
/-- what stands in a slice is put behind a row of one's own -/
theorem wp_append_byt_at {w : World} {o : Oper} {a : Act} {K : Act → World → Prop} {Q : Exit → Act → World → Prop} (s x : Operand)
    (ho : o.op = .call { callee := .builtin .append, args := #[s, x], argTypes := #[22, 22] })
    (B C : Nat) (v u : Value) (l m : List UInt8) (hs : a.eval s = v) (hown : OwnB B v l w) (hx : a.eval x = u) (hu : Byt w C u m) (hlm : l.length + m.length ≤ 140737488355328) (hB : B ≤ w.heap.size)
    (h : ∀ v' w', OwnB B v' (l ++ m) w' → Below B w w' → Grew v w v' w' → K (a.put o.dst v') w') : o.wp Try.prog a w K Q := by
  obtain ⟨iR, hiR, hzR0, hzR1, hzR2⟩ := info_parts Try.infoU8
  obtain ⟨A, c, rfl, hc, hcell⟩ := hu
  have hgr := fun (w' : World) (hg : w.grownBy w' v.ownBlock) => (Below.refl B w).grown hg hB (fun g hg => (hown.lt g hg).1)
  unfold OwnB at hown
  cases A with
  | some ad =>
    obtain ⟨v', w', hr, h2, h3, _, h5⟩ := run_append_own_at (P := Try.prog) w B 22 o.type 5 iR (.int .u8 0) 1 1 Try.underlying22 hiR hzR0 hzR1 hzR2 rfl (by decide) v l.length _ hown ad m.length c (Lib.byteCells m) (by rw [bytes_len]; omega)
      (by
        intro j z hj
        have hjm : j < m.length := by
          have := (List.getElem?_eq_some_iff.1 hj).1; rwa [bytes_len] at this
        obtain ⟨g, oo, hA, _, hcs⟩ := hcell (by omega)
        injection hA with hA; subst hA
        have e1 : (⟨g, oo, Option.none⟩ : Addr).add j = ⟨g, oo + j, Option.none⟩ := by unfold Addr.add; split <;> simp_all
        rw [e1, hcs j hjm]
        unfold Lib.byteCells at hj; rw [List.getElem?_map, List.getElem?_eq_getElem hjm] at hj; simpa using hj) (byteCells_one m) (by unfold maxLen; omega) (by omega) hB
    unfold Oper.wp execOp
    simp only [ho, resolve, invoke, builtin, Sem.run_bind, Sem.run_pure, Result.andThen_ok, List.map_toArray, List.map_cons, List.map_nil, hs, hx, hr]
    refine h v' w' ?_ (hgr w' h3) ⟨h3, h5⟩
    unfold OwnB; rw [Lib.byteCells_append, List.length_append]; exact h2
  | none =>
    have hm : m = [] := by
      cases m with
      | nil => rfl
      | cons y t => obtain ⟨g, oo, hA, _⟩ := hcell (by simp); cases hA
    subst hm
    have hrun := append_nil (c := c) o.type hown
    unfold Oper.wp
    simp [execOp, ho, resolve, invoke, builtin, hs, hx, hrun, Result.andThen]
    refine h v w ?_ (Below.refl _ _) ⟨grownBy_refl _ _, .inl rfl⟩
    unfold OwnB; rw [List.append_nil]; exact hown
theorem wpList_append_byt_at {w : World} {ops : Array Oper} {rest : List Oper} {o : Oper} {a : Act} {Q : Exit → Act → World → Prop} (hgd : o.guard = none) (s x : Operand)
    (ho : o.op = .call { callee := .builtin .append, args := #[s, x], argTypes := #[22, 22] })
    (B C : Nat) (v u : Value) (l m : List UInt8) (hs : a.eval s = v) (hown : OwnB B v l w) (hx : a.eval x = u) (hu : Byt w C u m) (hlm : l.length + m.length ≤ 140737488355328) (hB : B ≤ w.heap.size)
    (h : ∀ v' w', OwnB B v' (l ++ m) w' → Below B w w' → Grew v w v' w' → wpList Try.prog ops Q rest (a.put o.dst v') w') : wpList Try.prog ops Q (o :: rest) a w :=
  wpList_plain hgd fun _ hK => wp_append_byt_at s x ho B C v u l m hs hown hx hu hlm hB fun v' w' h1 h2 h3 => hK _ _ (h v' w' h1 h2 h3)
/-- cells of block g stand -/
def Stands (g : Nat) (w w' : World) : Prop := ∀ (p : Addr) (v : Value), p.block = g → w.cell? p = some v → w'.cell? p = some v
theorem stands_below {w w' : World} {B g : Nat} (hb : Below B w w') (hg : g < B) : Stands g w w' := fun p _ hp h => (hb.cell (p := p) (by rw [hp]; exact hg)).trans h
theorem stands_grew {w w' : World} {v v' : Value} {g : Nat} (h : Grew v w v' w') (hg : v.ownBlock ≠ some g) : Stands g w w' := fun p _ hp hc => h.cell hc (by rw [hp]; exact hg)
theorem Stands.six {g a b c d e f : Nat} {va vb vc vd ve vf : Value} {w w' : World} (h : Stands g w w')
    (k : w.cell? ⟨g, a, Option.none⟩ = some va ∧ w.cell? ⟨g, b, Option.none⟩ = some vb ∧ w.cell? ⟨g, c, Option.none⟩ = some vc ∧ w.cell? ⟨g, d, Option.none⟩ = some vd ∧ w.cell? ⟨g, e, Option.none⟩ = some ve ∧ w.cell? ⟨g, f, Option.none⟩ = some vf) :
    w'.cell? ⟨g, a, Option.none⟩ = some va ∧ w'.cell? ⟨g, b, Option.none⟩ = some vb ∧ w'.cell? ⟨g, c, Option.none⟩ = some vc ∧ w'.cell? ⟨g, d, Option.none⟩ = some vd ∧ w'.cell? ⟨g, e, Option.none⟩ = some ve ∧ w'.cell? ⟨g, f, Option.none⟩ = some vf :=
  ⟨h _ _ rfl k.1, h _ _ rfl k.2.1, h _ _ rfl k.2.2.1, h _ _ rfl k.2.2.2.1, h _ _ rfl k.2.2.2.2.1, h _ _ rfl k.2.2.2.2.2⟩
theorem wpList_append_byt {w : World} {ops : Array Oper} {rest : List Oper} {o : Oper} {a : Act} {Q : Exit → Act → World → Prop} (hgd : o.guard = none) (s x : Operand)
    (ho : o.op = .call { callee := .builtin .append, args := #[s, x], argTypes := #[22, 22] })
    (B C : Nat) (v u : Value) (l m : List UInt8) (hs : a.eval s = v) (hown : OwnB B v l w) (hx : a.eval x = u) (hu : Byt w C u m) (hlm : l.length + m.length ≤ 140737488355328) (hB : B ≤ w.heap.size)
    (h : ∀ v' w', OwnB B v' (l ++ m) w' → Below B w w' → wpList Try.prog ops Q rest (a.put o.dst v') w') : wpList Try.prog ops Q (o :: rest) a w :=
  wpList_append_byt_at hgd s x ho B C v u l m hs hown hx hu hlm hB fun v' w' h1 h2 _ => h v' w' h1 h2

/-- a block of bytes that has just been laid -/
theorem byt_new (w : World) (C : Array Value) (t : TypeId) (m : List UInt8) (hC : C = (Lib.byteCells m).toArray) : Byt (w.alloc (.cells C t)) (w.heap.size + 1) (.slice (some ⟨w.heap.size, 0, Option.none⟩) m.length m.length) m := by
  refine ⟨_, _, rfl, Nat.le_refl _, fun _ => ⟨w.heap.size, 0, rfl, by omega, fun k hk => ?_⟩⟩
  rw [World.cell?_alloc_mark, hC]
  simp [Lib.byteCells, hk]
theorem byt_new1 (w : World) (t : TypeId) (a : Int) (c : UInt8) (h : a = (c.toNat : Int)) : Byt (w.alloc (.cells #[.int .u8 a] t)) (w.heap.size + 1) (.slice (some ⟨w.heap.size, 0, Option.none⟩) 1 1) [c] :=
  byt_new w _ t [c] (by rw [h]; rfl)
theorem byt_new4 (w : World) (t : TypeId) (a b c d : Int) (x y z u : UInt8) (h : a = (x.toNat : Int)) (h2 : b = (y.toNat : Int)) (h3 : c = (z.toNat : Int)) (h4 : d = (u.toNat : Int)) : Byt (w.alloc (.cells #[.int .u8 a, .int .u8 b, .int .u8 c, .int .u8 d] t)) (w.heap.size + 1) (.slice (some ⟨w.heap.size, 0, Option.none⟩) 4 4) [x, y, z, u] :=
  byt_new w _ t [x, y, z, u] (by rw [h, h2, h3, h4]; rfl)
/-- a block of bytes that has just been laid is one's own -/
theorem own_new (w : World) (C : Array Value) (m : List UInt8) (hC : C = (Lib.byteCells m).toArray) (hm : m.length ≤ 1000000) : OwnB w.heap.size (.slice (some ⟨w.heap.size, 0, Option.none⟩) m.length m.length) m (w.alloc (.cells C 5)) := by
  have h := World.ownsRow_lit (base := w.heap.size) (e := 5) (size := 1) w C m.length (Nat.le_refl _) (by unfold maxLen; omega) (by rw [hC]; simp [bytes_len])
  rw [hC] at h ⊢
  exact h
/-- a text is put behind a row of one's own -/
theorem wpList_append_text {w : World} {ops : Array Oper} {rest : List Oper} {o : Oper} {a : Act} {Q : Exit → Act → World → Prop} (hgd : o.guard = none) (s x : Operand)
    (ho : o.op = .call { callee := .builtin .append, args := #[s, x], argTypes := #[22, 9] })
    (B : Nat) (v : Value) (l : List UInt8) (m : ByteArray) (hs : a.eval s = v) (hown : OwnB B v l w) (hx : a.eval x = .string m) (hlm : l.length + m.size ≤ 140737488355328) (hB : B ≤ w.heap.size)
    (h : ∀ v' w', OwnB B v' (l ++ m.data.toList) w' → Below B w w' → wpList Try.prog ops Q rest (a.put o.dst v') w') : wpList Try.prog ops Q (o :: rest) a w := by
  obtain ⟨iR, hiR, hzR0, hzR1, hzR2⟩ := info_parts Try.infoU8
  have hgr := fun (w' : World) (hg : w.grownBy w' v.ownBlock) => (Below.refl B w).grown hg hB (fun g hg => (hown.lt g hg).1)
  unfold OwnB at hown
  refine Lib.wpList_append_own_string w hgd s x 22 9 ho B 5 iR Try.underlying22 Try.underlying9 hiR hzR0 hzR1 hzR2 v l.length _ hs hown m hx (by unfold maxLen; omega) (by omega) hB ?_
  intro v' w' h1 h2 _
  refine h v' w' ?_ (hgr w' h2)
  have e : m.data.toList.length = m.size := by rw [Array.length_toList]; rfl
  unfold OwnB; rw [Lib.byteCells_append, List.length_append, e]; exact h1
end Go.Proofs.Ytegkhkcnoahhdaa
