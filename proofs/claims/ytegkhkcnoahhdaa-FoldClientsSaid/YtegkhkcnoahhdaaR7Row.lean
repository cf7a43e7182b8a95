/-
  Rows as data, as the reference of stage 7 holds them; its EqRow says whether two are the same.
  The operations are at most 1,000,000.
-/
import Derived.Test.YtegkhkcnoahhdaaOpPlain
import Derived.Test.YtegkhkcnoahhdaaLawKit
set_option linter.unusedSimpArgs false
set_option linter.unusedVariables false
namespace Go.Proofs.Ytegkhkcnoahhdaa
open Go.RowKit
set_option maxRecDepth 100000

structure Rw where
  place : Int
  b : Bat
  err : Int
/-- a row's cells, its operations being the slice s -/
def Rw.cs (r : Rw) (s : Value) : List Value := [.int .i64 r.place, .int .i64 r.b.client, .int .i64 r.b.seq, s, .int .i64 r.err]
/-- the value v is the row r -/
def RowV (w : World) (B : Nat) (v : Value) (r : Rw) : Prop := ∃ s, v = .agg #[.int .i64 r.place, .int .i64 r.b.client, .int .i64 r.b.seq, s, .int .i64 r.err] ∧ Ops w B s r.b.ops
def eqRw (a b : Rw) : Bool := a.place == b.place && a.err == b.err && eqB a.b b.b
theorem ops_below {w w' : World} {B C : Nat} {v : Value} {l : List Opn} (h : Ops w B v l) (hb : Below C w w') (hC : B ≤ C) : Ops w' B v l := by
  obtain ⟨A, c, hv, hc, h⟩ := h
  refine ⟨A, c, hv, hc, fun hn => ?_⟩
  obtain ⟨g, o, hA, hg, hcs⟩ := h hn
  exact ⟨g, o, hA, hg, fun k hk j z hj => (hb.cell (p := ⟨g, o + k * 9 + j, Option.none⟩) (Nat.lt_of_lt_of_le hg hC)).trans (hcs k hk j z hj)⟩
theorem eqRw_iff {a b : Rw} : eqRw a b = true ↔ a = b := by
  obtain ⟨ap, ab, ae⟩ := a
  obtain ⟨bp, bb, be⟩ := b
  unfold eqRw
  simp only [Bool.and_eq_true, beq_iff_eq, Rw.mk.injEq, eqB_iff]
  constructor
  · rintro ⟨⟨h1, h2⟩, h3⟩; exact ⟨h1, h3, h2⟩
  · rintro ⟨h1, h2, h3⟩; exact ⟨⟨h1, h3⟩, h2⟩
end Go.Proofs.Ytegkhkcnoahhdaa
