/-
  Contracts of what writes and reads values, where the walk names the bytes itself.
  The conditions are those of the contracts that they come from.
-/
import Derived.Test.YtkgfbfopopmbhaaVaPlain
import Derived.Test.YtkgfbfopopmbhaaOpPlain
import Derived.Test.YtkgfbfopopmbhaaLawKit
set_option linter.unusedSimpArgs false
set_option linter.unusedVariables false
namespace Go.Proofs.Ytkgfbfopopmbhaa
open Go.RowKit
set_option maxRecDepth 100000

/-- a slice at a block's head that reads as the bytes l -/
def Head (g c : Nat) (l : List UInt8) (w : World) : Prop := g < w.heap.size ∧ Byt w (g + 1) (.slice (some ⟨g, 0, none⟩) l.length c) l
theorem OwnB.head {B : Nat} {v : Value} {l : List UInt8} {w : World} (h : OwnB B v l w) (hl : 1 ≤ l.length) : ∃ g c, v = .slice (some ⟨g, 0, none⟩) l.length c ∧ Head g c l w := by
  have hb := Byt.of_own h
  obtain ⟨g, c, rfl, hg, _⟩ := h.at_ hl
  refine ⟨g, c, rfl, hg, ?_⟩
  obtain ⟨A, c', hv, hc, hcell⟩ := hb
  injection hv with e1 _ e2; subst e1; subst e2
  refine ⟨_, c, rfl, hc, fun hn => ?_⟩
  obtain ⟨g', o, hA, _, hcs⟩ := hcell hn
  simp only [Option.some.injEq, Addr.mk.injEq] at hA
  obtain ⟨rfl, rfl, _⟩ := hA
  exact ⟨g, 0, rfl, by omega, hcs⟩
theorem Head.below {g c : Nat} {l : List UInt8} {w w' : World} (h : Head g c l w) (hb : Below w.heap.size w w') : Head g c l w' := ⟨Nat.lt_of_lt_of_le h.1 hb.size, h.2.below hb (by have := h.1; omega)⟩
theorem conv_head {g c : Nat} {l : List UInt8} {w : World} (h : Head g c l w) (hl : 1 ≤ l.length) : (convert 37 9 (.slice (some ⟨g, 0, none⟩) l.length c)).run Try.prog w = .ok (.string ⟨l.toArray⟩) w := by
  obtain ⟨A, c', hv, hc, hcell⟩ := h.2
  injection hv with e1 _ e2; subst e1; subst e2
  obtain ⟨g', o, hA, _, hcs⟩ := hcell (by omega)
  simp only [Option.some.injEq, Addr.mk.injEq] at hA
  obtain ⟨rfl, rfl, _⟩ := hA
  have := conv_part w g 0 l 0 l.length c (by omega) hcs
  simpa using this
theorem conv_to {g c : Nat} {l : List UInt8} {w : World} {S : ByteArray} (h : Head g c l w) (hl : 1 ≤ l.length) (hS : (⟨l.toArray⟩ : ByteArray) = S) : (convert 37 9 (.slice (some ⟨g, 0, none⟩) l.length c)).run Try.prog w = .ok (.string S) w := by
  rw [← hS]; exact conv_head h hl
theorem putR_ne (r : Raw) : 1 ≤ (putR r).length := by have := Nu.put_ne r.kind; unfold putR; rw [List.length_append]; omega
theorem putR_le30 (r : Raw) (h : r.s.size ≤ 1000000) : (putR r).length ≤ 1000030 := by
  have h1 := Nu.put_len r.kind; have h2 := Nu.put_len r.n; have h3 := putT_len r.s
  unfold putR; rw [List.length_append]
  split
  · omega
  · split
    · omega
    · simp; omega
theorem putR_len220 (r : Raw) (h : r.s.size ≤ 220) : (putR r).length ≤ 260 := by
  have h1 := Nu.put_len r.kind; have h2 := Nu.put_len r.n; have h3 := putT_len r.s
  unfold putR; rw [List.length_append]
  split
  · omega
  · split
    · omega
    · simp; omega
theorem vput_to (u : Value) (r : Raw) (l : List UInt8) (w : World) (hu : u = r.val) (hr : r.ok) (hm : mayR r = true) (hl : putR r = l) :
    Calls Try.prog 39 #[.slice none 0 0, u] w fun e w' => ∃ g c, e = .returned (.slice (some ⟨g, 0, none⟩) l.length c) ∧ Head g c l w' ∧ Below w.heap.size w w' := by
  subst hu; subst hl
  have hB : Byt w 0 (.slice none 0 0) [] := ⟨none, 0, rfl, Nat.le_refl _, fun h => absurd h (by simp)⟩
  refine (vput_any r _ 0 [] w hB (by simp) (Nat.zero_le _) hr hm).mono ?_
  rintro e w' ⟨v, rfl, hown, hb⟩
  rw [List.nil_append] at hown
  obtain ⟨g, c, rfl, hh⟩ := hown.head (putR_ne r)
  exact ⟨g, c, rfl, hh, hb⟩
theorem rputRaw_to (u : Value) (r : Raw) (l : List UInt8) (w : World) (hu : u = r.val) (hr : r.ok) (hl : putR r = l) :
    Calls Try.prog 46 #[u] w fun e w' => ∃ g c, e = .returned (.slice (some ⟨g, 0, none⟩) l.length c) ∧ Head g c l w' ∧ Below w.heap.size w w' := by
  subst hu; subst hl
  refine (rputRaw_any r w hr).mono ?_
  rintro e w' ⟨v, rfl, hown, hb⟩
  obtain ⟨g, c, rfl, hh⟩ := hown.head (putR_ne r)
  exact ⟨g, c, rfl, hh, hb⟩
theorem vget_is (A : Option Addr) (n c B : Nat) (l : List UInt8) (k m : Int) (s : ByteArray) (j e : Nat) (w : World) (h : Byt w B (.slice A n c) l) (hB : B ≤ w.heap.size) (hl : l.length ≤ 1000000) (hg : getR l = (⟨k, m, s⟩, j, e)) :
    Calls Try.prog 65 #[.slice A n c] w fun x w' => x = .returned (.tuple #[.agg #[.int .i64 k, .int .i64 m, .string s], .int .i64 j, .int .i64 e]) ∧ Below w.heap.size w w' := by
  have := vget_any A n c B l w h hB hl
  rw [hg] at this; exact this
theorem rmay_to (u : Value) (r : Raw) (b : Bool) (w : World) (hu : u = r.val) (hs : r.s.size ≤ 1000000) (h : mayR r = b) :
    Calls Try.prog 54 #[u] w fun e w' => e = .returned (.bool b) ∧ Below w.heap.size w w' := rmay_is u r b w hu hs h
theorem beq_bytes (s : ByteArray) : (s == s) = true := (bytes_beq2 s s).2 rfl
end Go.Proofs.Ytkgfbfopopmbhaa
/-
  What bytes begin with is told as the reference tells it, whatever the bytes; a row of one's own of which a byte is changed.
  The bytes are there in memory, at most 1,000,000.
-/
namespace Go.Proofs.Ytkgfbfopopmbhaa
open Go.RowKit
set_option maxRecDepth 100000

theorem rputRaw_own (u : Value) (r : Raw) (l : List UInt8) (w : World) (hu : u = r.val) (hr : r.ok) (hl : putR r = l) :
    Calls Try.prog 46 #[u] w fun e w' => ∃ g c, e = .returned (.slice (some ⟨g, 0, none⟩) l.length c) ∧ OwnB w.heap.size (.slice (some ⟨g, 0, none⟩) l.length c) l w' ∧ Below w.heap.size w w' := by
  subst hu; subst hl
  refine (rputRaw_any r w hr).mono ?_
  rintro e w' ⟨v, rfl, hown, hb⟩
  obtain ⟨g, c, rfl, _⟩ := hown.at_ (putR_ne r)
  exact ⟨g, c, rfl, hown, hb⟩
theorem OwnB.cellAt {B g c : Nat} {l : List UInt8} {w : World} (h : OwnB B (.slice (some ⟨g, 0, none⟩) l.length c) l w) (i : Nat) (hi : i < l.length) : w.cell? ⟨g, i, none⟩ = some (.int .u8 (l[i].toNat : Int)) := by
  rw [World.ownsRow.cellAt h i (by omega)]; simp [Lib.byteCells, hi]
theorem OwnB.frozenAt {B g c : Nat} {l : List UInt8} {w : World} (h : OwnB B (.slice (some ⟨g, 0, none⟩) l.length c) l w) (i : Nat) : w.frozen? ⟨g, i, none⟩ = false := World.ownsRow.frozenAt h i
theorem OwnB.setAt {B g c : Nat} {l : List UInt8} {w : World} (h : OwnB B (.slice (some ⟨g, 0, none⟩) l.length c) l w) (i : Nat) (hi : i < l.length) (y : Int) (h0 : 0 ≤ y) (h1 : y ≤ 255) :
    OwnB B (.slice (some ⟨g, 0, none⟩) l.length c) (l.set i (UInt8.ofNat y.toNat)) (w.setCell ⟨g, i, none⟩ (.int .u8 y)) := by
  have h2 := World.ownsRow.stored h i (.int .u8 y)
  unfold OwnB
  have e : Lib.byteCells (l.set i (UInt8.ofNat y.toNat)) = (Lib.byteCells l).set i (.int .u8 y) := by
    unfold Lib.byteCells
    rw [List.map_set, u8_back y h0 h1]
  rw [e, List.length_set]
  exact h2.1
theorem xor_u8 (a b : Int) : 0 ≤ bits BinOp.xor .u8 a b ∧ bits BinOp.xor .u8 a b ≤ 255 := by
  have := bounds_u8 (wf_bits BinOp.xor .u8 a b); omega
theorem rem_nat (a : Int) (n : Nat) (h : 0 ≤ a) (hn : 1 ≤ n) : ∃ i : Nat, a.tmod (n : Int) = (i : Int) ∧ i < n := by
  have h1 : 0 ≤ a.tmod (n : Int) := Int.tmod_nonneg _ h
  have h2 : a.tmod (n : Int) < n := Int.tmod_lt_of_pos _ (by omega)
  exact ⟨(a.tmod n).toNat, by omega, by omega⟩
end Go.Proofs.Ytkgfbfopopmbhaa
