/-
  A row of bytes that the call owns, and what is put behind it: the bytes of any slice that is there, one byte, a text.
  The rows are shorter than the model's bound on what append makes.
-/
import Derived.Test.YtoekiencnbgmhaaWBytes
import Derived.Laws.AppendOwnNone
import Derived.Lib.AppendStr
import Derived.Maps.AppendAt
import Derived.Deep.MidRow
set_option linter.unusedSimpArgs false
set_option linter.unusedVariables false
namespace Go.Proofs.Ytoekiencnbgmhaa
open Go.RowKit
set_option maxRecDepth 100000

theorem append_nil {w : World} {B n c : Nat} {v : Value} {xs : List Value} (ty : TypeId) (hown : w.ownsRow B 5 1 v n xs) :
    (Builtin.append_ #[109, 109] ty #[v, .slice none 0 c]).run Try.prog w = .ok v w := by
  obtain ⟨iR, hiR, _, _, _⟩ := info_parts Try.infoU8
  rcases hown.2 with ⟨rfl, rfl⟩ | ⟨g, cap, cur, rfl, _, _, hnc, _⟩
  · simp [Builtin.append_, run_underlying Try.underlying109, sizeOf, typeInfo, hiR, Builtin.lenOf, Builtin.firstCells]
  · simp [Builtin.append_, run_underlying Try.underlying109, sizeOf, typeInfo, hiR, Builtin.lenOf, Builtin.firstCells, hnc, storeCells]

theorem grownBy_refl (w : World) (r : Option Nat) : w.grownBy w r := ⟨rfl, rfl, rfl, Nat.le_refl _, fun _ _ _ => rfl⟩
theorem bytes_len (l : List UInt8) : (Lib.byteCells l).length = l.length := by simp [Lib.byteCells]

/-- append: nothing but the old row may have turned; the new row lies in the old one's block or in a new one -/
def Grew (v : Value) (w : World) (v' : Value) (w' : World) : Prop := w.grownBy w' v.ownBlock ∧ (v'.ownBlock = v.ownBlock ∨ v'.ownBlock = some w.heap.size)
theorem Grew.range {v v' : Value} {w w' : World} {g o : Nat} {cs : List Value} (h : Grew v w v' w') (hr : w.rangeAt g o cs) (hg : v.ownBlock ≠ some g) : w'.rangeAt g o cs := fun j u hj => h.1.cell (hr j u hj) (fun e => hg e.symm)
theorem Grew.cell {v v' : Value} {w w' : World} {p : Addr} {u : Value} (h : Grew v w v' w') (hr : w.cell? p = some u) (hg : v.ownBlock ≠ some p.block) : w'.cell? p = some u := h.1.cell hr (fun e => hg e.symm)
theorem Grew.apart {v v' : Value} {w w' : World} {g : Nat} (h : Grew v w v' w') (hs : g < w.heap.size) (hg : v.ownBlock ≠ some g) : v'.ownBlock ≠ some g := by
  rcases h.2 with e | e
  · rw [e]; exact hg
  · rw [e]; intro e2; injection e2 with e2; omega
/-- what stands in a slice is put behind a row of one's own -/
theorem wp_append_byt_at {w : World} {o : Oper} {a : Act} {K : Act → World → Prop} {Q : Exit → Act → World → Prop} (s x : Operand)
    (ho : o.op = .call { callee := .builtin .append, args := #[s, x], argTypes := #[109, 109] })
    (B C : Nat) (v u : Value) (l m : List UInt8) (hs : a.eval s = v) (hown : OwnB B v l w) (hx : a.eval x = u) (hu : Byt w C u m) (hlm : l.length + m.length ≤ 140737488355328) (hB : B ≤ w.heap.size)
    (h : ∀ v' w', OwnB B v' (l ++ m) w' → Below B w w' → Grew v w v' w' → K (a.put o.dst v') w') : o.wp Try.prog a w K Q := by
  obtain ⟨iR, hiR, hzR0, hzR1, hzR2⟩ := info_parts Try.infoU8
  obtain ⟨A, c, rfl, hc, hcell⟩ := hu
  have hgr := fun (w' : World) (hg : w.grownBy w' v.ownBlock) => (Below.refl B w).grown hg hB (fun g hg => (hown.lt g hg).1)
  unfold OwnB at hown
  cases A with
  | some ad =>
    obtain ⟨v', w', hr, h2, h3, _, h5⟩ := run_append_own_at (P := Try.prog) w B 109 o.type 5 iR (.int .u8 0) 1 1 Try.underlying109 hiR hzR0 hzR1 hzR2 rfl (by decide) v l.length _ hown ad m.length c (Lib.byteCells m) (by rw [bytes_len]; omega)
      (by
        intro j z hj
        have hjm : j < m.length := by
          have := (List.getElem?_eq_some_iff.1 hj).1; rwa [bytes_len] at this
        obtain ⟨g, oo, hA, _, hcs⟩ := hcell (by omega)
        injection hA with hA; subst hA
        have e1 : (⟨g, oo, Option.none⟩ : Addr).add j = ⟨g, oo + j, Option.none⟩ := by unfold Addr.add; split <;> simp_all
        rw [e1, hcs j hjm]
        unfold Lib.byteCells at hj; rw [List.getElem?_map, List.getElem?_eq_getElem hjm] at hj; simpa using hj) (byteCells_one m) (by unfold maxLen; omega) (by omega) hB
    unfold Oper.wp execOp
    simp only [ho, resolve, invoke, builtin, Sem.run_bind, Sem.run_pure, Result.andThen_ok, List.map_toArray, List.map_cons, List.map_nil, hs, hx, hr]
    refine h v' w' ?_ (hgr w' h3) ⟨h3, h5⟩
    unfold OwnB; rw [Lib.byteCells_append, List.length_append]; exact h2
  | none =>
    have hm : m = [] := by
      cases m with
      | nil => rfl
      | cons y t => obtain ⟨g, oo, hA, _⟩ := hcell (by simp); cases hA
    subst hm
    have hrun := append_nil (c := c) o.type hown
    unfold Oper.wp
    simp [execOp, ho, resolve, invoke, builtin, hs, hx, hrun, Result.andThen]
    refine h v w ?_ (Below.refl _ _) ⟨grownBy_refl _ _, .inl rfl⟩
    unfold OwnB; rw [List.append_nil]; exact hown
theorem wpList_append_byt_at {w : World} {ops : Array Oper} {rest : List Oper} {o : Oper} {a : Act} {Q : Exit → Act → World → Prop} (hgd : o.guard = none) (s x : Operand)
    (ho : o.op = .call { callee := .builtin .append, args := #[s, x], argTypes := #[109, 109] })
    (B C : Nat) (v u : Value) (l m : List UInt8) (hs : a.eval s = v) (hown : OwnB B v l w) (hx : a.eval x = u) (hu : Byt w C u m) (hlm : l.length + m.length ≤ 140737488355328) (hB : B ≤ w.heap.size)
    (h : ∀ v' w', OwnB B v' (l ++ m) w' → Below B w w' → Grew v w v' w' → wpList Try.prog ops Q rest (a.put o.dst v') w') : wpList Try.prog ops Q (o :: rest) a w :=
  wpList_plain hgd fun _ hK => wp_append_byt_at s x ho B C v u l m hs hown hx hu hlm hB fun v' w' h1 h2 h3 => hK _ _ (h v' w' h1 h2 h3)
/-- cells of block g stand -/
def Stands (g : Nat) (w w' : World) : Prop := ∀ (p : Addr) (v : Value), p.block = g → w.cell? p = some v → w'.cell? p = some v
theorem stands_below {w w' : World} {B g : Nat} (hb : Below B w w') (hg : g < B) : Stands g w w' := fun p _ hp h => (hb.cell (p := p) (by rw [hp]; exact hg)).trans h
theorem stands_grew {w w' : World} {v v' : Value} {g : Nat} (h : Grew v w v' w') (hg : v.ownBlock ≠ some g) : Stands g w w' := fun p _ hp hc => h.cell hc (by rw [hp]; exact hg)
theorem Stands.six {g a b c d e f : Nat} {va vb vc vd ve vf : Value} {w w' : World} (h : Stands g w w')
    (k : w.cell? ⟨g, a, Option.none⟩ = some va ∧ w.cell? ⟨g, b, Option.none⟩ = some vb ∧ w.cell? ⟨g, c, Option.none⟩ = some vc ∧ w.cell? ⟨g, d, Option.none⟩ = some vd ∧ w.cell? ⟨g, e, Option.none⟩ = some ve ∧ w.cell? ⟨g, f, Option.none⟩ = some vf) :
    w'.cell? ⟨g, a, Option.none⟩ = some va ∧ w'.cell? ⟨g, b, Option.none⟩ = some vb ∧ w'.cell? ⟨g, c, Option.none⟩ = some vc ∧ w'.cell? ⟨g, d, Option.none⟩ = some vd ∧ w'.cell? ⟨g, e, Option.none⟩ = some ve ∧ w'.cell? ⟨g, f, Option.none⟩ = some vf :=
  ⟨h _ _ rfl k.1, h _ _ rfl k.2.1, h _ _ rfl k.2.2.1, h _ _ rfl k.2.2.2.1, h _ _ rfl k.2.2.2.2.1, h _ _ rfl k.2.2.2.2.2⟩
theorem wpList_append_byt {w : World} {ops : Array Oper} {rest : List Oper} {o : Oper} {a : Act} {Q : Exit → Act → World → Prop} (hgd : o.guard = none) (s x : Operand)
    (ho : o.op = .call { callee := .builtin .append, args := #[s, x], argTypes := #[109, 109] })
    (B C : Nat) (v u : Value) (l m : List UInt8) (hs : a.eval s = v) (hown : OwnB B v l w) (hx : a.eval x = u) (hu : Byt w C u m) (hlm : l.length + m.length ≤ 140737488355328) (hB : B ≤ w.heap.size)
    (h : ∀ v' w', OwnB B v' (l ++ m) w' → Below B w w' → wpList Try.prog ops Q rest (a.put o.dst v') w') : wpList Try.prog ops Q (o :: rest) a w :=
  wpList_append_byt_at hgd s x ho B C v u l m hs hown hx hu hlm hB fun v' w' h1 h2 _ => h v' w' h1 h2

/-- a block of bytes that has just been laid -/
theorem byt_new (w : World) (C : Array Value) (t : TypeId) (m : List UInt8) (hC : C = (Lib.byteCells m).toArray) : Byt (w.alloc (.cells C t)) (w.heap.size + 1) (.slice (some ⟨w.heap.size, 0, Option.none⟩) m.length m.length) m := by
  refine ⟨_, _, rfl, Nat.le_refl _, fun _ => ⟨w.heap.size, 0, rfl, by omega, fun k hk => ?_⟩⟩
  rw [World.cell?_alloc_mark, hC]
  simp [Lib.byteCells, hk]
theorem byt_new1 (w : World) (t : TypeId) (a : Int) (c : UInt8) (h : a = (c.toNat : Int)) : Byt (w.alloc (.cells #[.int .u8 a] t)) (w.heap.size + 1) (.slice (some ⟨w.heap.size, 0, Option.none⟩) 1 1) [c] :=
  byt_new w _ t [c] (by rw [h]; rfl)
theorem byt_new4 (w : World) (t : TypeId) (a b c d : Int) (x y z u : UInt8) (h : a = (x.toNat : Int)) (h2 : b = (y.toNat : Int)) (h3 : c = (z.toNat : Int)) (h4 : d = (u.toNat : Int)) : Byt (w.alloc (.cells #[.int .u8 a, .int .u8 b, .int .u8 c, .int .u8 d] t)) (w.heap.size + 1) (.slice (some ⟨w.heap.size, 0, Option.none⟩) 4 4) [x, y, z, u] :=
  byt_new w _ t [x, y, z, u] (by rw [h, h2, h3, h4]; rfl)
/-- a block of bytes that has just been laid is one's own -/
theorem own_new (w : World) (C : Array Value) (m : List UInt8) (hC : C = (Lib.byteCells m).toArray) (hm : m.length ≤ 1050000) : OwnB w.heap.size (.slice (some ⟨w.heap.size, 0, Option.none⟩) m.length m.length) m (w.alloc (.cells C 5)) := by
  have h := World.ownsRow_lit (base := w.heap.size) (e := 5) (size := 1) w C m.length (Nat.le_refl _) (by unfold maxLen; omega) (by rw [hC]; simp [bytes_len])
  rw [hC] at h ⊢
  exact h
/-- a text is put behind a row of one's own -/
theorem wpList_append_text {w : World} {ops : Array Oper} {rest : List Oper} {o : Oper} {a : Act} {Q : Exit → Act → World → Prop} (hgd : o.guard = none) (s x : Operand)
    (ho : o.op = .call { callee := .builtin .append, args := #[s, x], argTypes := #[109, 9] })
    (B : Nat) (v : Value) (l : List UInt8) (m : ByteArray) (hs : a.eval s = v) (hown : OwnB B v l w) (hx : a.eval x = .string m) (hlm : l.length + m.size ≤ 140737488355328) (hB : B ≤ w.heap.size)
    (h : ∀ v' w', OwnB B v' (l ++ m.data.toList) w' → Below B w w' → wpList Try.prog ops Q rest (a.put o.dst v') w') : wpList Try.prog ops Q (o :: rest) a w := by
  obtain ⟨iR, hiR, hzR0, hzR1, hzR2⟩ := info_parts Try.infoU8
  have hgr := fun (w' : World) (hg : w.grownBy w' v.ownBlock) => (Below.refl B w).grown hg hB (fun g hg => (hown.lt g hg).1)
  unfold OwnB at hown
  refine Lib.wpList_append_own_string w hgd s x 109 9 ho B 5 iR Try.underlying109 Try.underlying9 hiR hzR0 hzR1 hzR2 v l.length _ hs hown m hx (by unfold maxLen; omega) (by omega) hB ?_
  intro v' w' h1 h2 _
  refine h v' w' ?_ (hgr w' h2)
  have e : m.data.toList.length = m.size := by rw [Array.length_toList]; rfl
  unfold OwnB; rw [Lib.byteCells_append, List.length_append, e]; exact h1
end Go.Proofs.Ytoekiencnbgmhaa
