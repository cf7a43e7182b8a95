/- Rows as data, as the reference of stage 7 holds them; its EqRow says whether two are the same. -/
import Derived.Test.YtegkhkcnoahhdaaGreatOpPlain
import Derived.Test.YtegkhkcnoahhdaaGreatLawKit
set_option linter.unusedSimpArgs false
set_option linter.unusedVariables false
namespace Go.Proofs.YtegkhkcnoahhdaaGreat
open Lib (hid)
open Go.RowKit
set_option maxRecDepth 100000
structure Rw where
 place : Int
 b : Bat
 err : Int
def Rw.cs (r : Rw) (s : Value) : List Value := [.int .i64 r.place, .int .i64 r.b.client, .int .i64 r.b.seq, s, .int .i64 r.err]
def RowV (w : World) (B : Nat) (v : Value) (r : Rw) : Prop := ∃ s, v = .agg #[.int .i64 r.place, .int .i64 r.b.client, .int .i64 r.b.seq, s, .int .i64 r.err] ∧ Ops w B s r.b.ops
def eqRw (a b : Rw) : Bool := a.place == b.place && a.err == b.err && eqB a.b b.b
theorem ops_below {w w' : World} {B C : Nat} {v : Value} {l : List Opn} (h : Ops w B v l) (hb : Below C w w') (hC : B ≤ C) : Ops w' B v l := by
 obtain ⟨A, c, hv, hc, h⟩ := h
 refine ⟨A, c, hv, hc, fun hn => ?_⟩
 obtain ⟨g, o, hA, hg, hcs⟩ := h hn
 exact ⟨g, o, hA, hg, fun k hk j z hj => (hb.cell (p := ⟨g, o + k * 9 + j, Option.none⟩) (Nat.lt_of_lt_of_le hg hC)).trans (hcs k hk j z hj)⟩
theorem reqb_v (B : Nat) (ac aq bc bq : Int) (s t : Value) (ao bo : List Opn) (x : Bool) (w : World) (ha : Ops w B s ao) (hb : Ops w B t bo) (hB : B ≤ w.heap.size) (hl : ao.length ≤ 1000000) (hx : eqB ⟨ac, aq, ao⟩ ⟨bc, bq, bo⟩ = x) :
  Calls Tryz.prog 30 #[.agg #[.int .i64 ac, .int .i64 aq, s], .agg #[.int .i64 bc, .int .i64 bq, t]] w (Bl x w) := by
 rw [← hx]; exact reqBatch_any B _ _ ⟨ac, aq, ao⟩ ⟨bc, bq, bo⟩ w ⟨s, rfl, ha⟩ ⟨t, rfl, hb⟩ hB hl
set_option maxHeartbeats 2000000 in
theorem reqRow_any (B : Nat) (u v : Value) (a b : Rw) (w : World) (ha : RowV w B u a) (hb0 : RowV w B v b) (hB : B ≤ w.heap.size) (hl : a.b.ops.length ≤ 1000000) :
  Calls Tryz.prog 11 #[u, v] w (Bl (eqRw a b) w) := by
 obtain ⟨s, rfl, hs⟩ := ha
 obtain ⟨t, rfl, ht⟩ := hb0
 obtain ⟨ap, ⟨ac, aq, ao⟩, ae⟩ := a
 obtain ⟨bp, ⟨bc, bq, bo⟩, be⟩ := b
 simp only at hs ht hl
 have HS := hid hs; clear hs
 have HT := hid ht; clear ht
 obtain ⟨x, hx⟩ : ∃ x, eqB ⟨ac, aq, ao⟩ ⟨bc, bq, bo⟩ = x := ⟨_, rfl⟩
 have he : eqRw ⟨ap, ⟨ac, aq, ao⟩, ae⟩ ⟨bp, ⟨bc, bq, bo⟩, be⟩ = (ap == bp && ae == be && x) := by unfold eqRw; rw [hx]
 have HX := hid hx; clear hx
 rw [he]
 have HE := hid he; clear he
 simp only
 have hb := Below.refl w.heap.size w
 have hbb := below_two w (.cells #[.int .i64 ap, .int .i64 ac, .int .i64 aq, s, .int .i64 ae] 36) (.cells #[.int .i64 bp, .int .i64 bc, .int .i64 bq, t, .int .i64 be] 36)
 by_cases h1 : ap = bp
 ·have e1 : (ap == bp) = true := by rw [h1]; exact beq_self_eq_true _
  by_cases h2 : ae = be
  ·have e2 : (ae == be) = true := by rw [h2]; exact beq_self_eq_true _
   rw [e1, e2]
   subst h1
   subst h2
   go_enter Tryz.func11, Tryz.ntmps11
   go_wp2_with fail
   refine (reqb_v B ac aq bc bq s t ao bo x _ (ops_below HS.out hbb hB) (ops_below HT.out hbb hB) (Nat.le_trans hB hbb.size) hl HX.out).mono ?_
   rintro e k ⟨rfl, h⟩
   have hk : Below w.heap.size w k := hbb.trans (h.mono hbb.size)
   clear h hbb
   go_wp2
   go_ret
   exact ⟨by simp, hk⟩
  ·have e2 : (ae == be) = false := by rw [beq_eq_false_iff_ne]; exact h2
   rw [e1, e2]
   subst h1
   clear HE HX
   go_enter Tryz.func11, Tryz.ntmps11
   go_wp2
   go_ret
   exact ⟨by simp, hbb⟩
 ·have e1 : (ap == bp) = false := by rw [beq_eq_false_iff_ne]; exact h1
  rw [e1]
  clear HE HX
  go_enter Tryz.func11, Tryz.ntmps11
  go_wp2
  go_ret
  exact ⟨by simp, hbb⟩
theorem eqRw_iff {a b : Rw} : eqRw a b = true ↔ a = b := by
 obtain ⟨ap, ab, ae⟩ := a
 obtain ⟨bp, bb, be⟩ := b
 unfold eqRw
 simp only [Bool.and_eq_true, beq_iff_eq, Rw.mk.injEq, eqB_iff]
 constructor
 ·rintro ⟨⟨h1, h2⟩, h3⟩; exact ⟨h1, h3, h2⟩
 ·rintro ⟨h1, h2, h3⟩; exact ⟨⟨h1, h3⟩, h2⟩
end Go.Proofs.YtegkhkcnoahhdaaGreat
