/-
  The reference's PutRaw writes a value's kind, and its number or text, in new memory.
  Integers are in their ranges; a text has at most 1,000,000 bytes.
-/
import Derived.Test.YtegkhkcnoahhdaaRePut
import Derived.Test.YtegkhkcnoahhdaaReMayOp
import Derived.Test.YtegkhkcnoahhdaaReDocSet
import Derived.Test.YtegkhkcnoahhdaaWAppend
import Derived.Deep.RegionHeld3
set_option linter.unusedSimpArgs false
set_option linter.unusedVariables false
namespace Go.Proofs.Ytegkhkcnoahhdaa
open Go.RowKit
set_option maxRecDepth 100000

def putR (r : Raw) : List UInt8 := Nu.put r.kind ++ (if r.kind = 1 then Nu.put r.n else if r.kind = 2 then Nu.putT r.s.data.toList else [])
def Raw.ok (r : Raw) : Prop := (-9223372036854775808 ≤ r.kind ∧ r.kind ≤ 9223372036854775807) ∧ (-9223372036854775808 ≤ r.n ∧ r.n ≤ 9223372036854775807) ∧ r.s.size ≤ 1000000
theorem made_app {l m : List UInt8} {w w' : World} {v : Value} (hown : w'.ownsRow w.heap.size 5 1 v (l.length + m.length) (Lib.byteCells l ++ Lib.byteCells m)) (hb : Below w.heap.size w w') : Made (l ++ m) w (.returned v) w' :=
  ⟨v, rfl, by unfold OwnB; rw [List.length_append, Lib.byteCells_append]; exact hown, hb⟩
theorem putT_len (s : ByteArray) : (Nu.putT s.data.toList).length ≤ s.size + 10 := by
  have h1 := Nu.put_len (s.data.toList.length : Int)
  unfold Nu.putT; rw [List.length_append]
  have e : s.data.toList.length = s.size := by rw [Array.length_toList]; rfl
  omega
theorem putT_ne (l : List UInt8) : 1 ≤ (Nu.putT l).length := by
  have h1 := Nu.put_ne (l.length : Int); unfold Nu.putT; rw [List.length_append]; omega

end Go.Proofs.Ytegkhkcnoahhdaa
/-
  The reference's GetRaw reads a value as the plain function says, whatever the bytes.
  The bytes are there in memory, at most 1,000,000.
-/
namespace Go.Proofs.Ytegkhkcnoahhdaa
open Go.RowKit
set_option maxRecDepth 100000

def noRaw : Raw := ⟨0, 0, ⟨#[]⟩⟩
/-- what GetRaw reads -/
def getR (l : List UInt8) : Raw × Nat × Nat :=
  if (Nu.get l).2.2 ≠ 0 then (noRaw, 0, (Nu.get l).2.2)
  else if (Nu.get l).1 = 0 then (noRaw, (Nu.get l).2.1, 0)
  else if (Nu.get l).1 = 1 then
    (if (Nu.get (l.drop (Nu.get l).2.1)).2.2 ≠ 0 then (noRaw, 0, (Nu.get (l.drop (Nu.get l).2.1)).2.2)
     else (⟨1, (Nu.get (l.drop (Nu.get l).2.1)).1, ⟨#[]⟩⟩, (Nu.get l).2.1 + (Nu.get (l.drop (Nu.get l).2.1)).2.1, 0))
  else if (Nu.get l).1 = 2 then
    (if (Nu.getT (l.drop (Nu.get l).2.1)).2.2 ≠ 0 then (noRaw, 0, (Nu.getT (l.drop (Nu.get l).2.1)).2.2)
     else if (Ru.vld (Nu.getT (l.drop (Nu.get l).2.1)).1 && decide ((Nu.getT (l.drop (Nu.get l).2.1)).1.length ≤ 200)) = true then (⟨2, 0, ⟨(Nu.getT (l.drop (Nu.get l).2.1)).1.toArray⟩⟩, (Nu.get l).2.1 + (Nu.getT (l.drop (Nu.get l).2.1)).2.1, 0)
     else (noRaw, 0, 1))
  else (noRaw, 0, 1)
def GotR (r : Raw × Nat × Nat) (w : World) (e : Ending) (w' : World) : Prop := e = .returned (.tuple #[r.1.val, .int .i64 r.2.1, .int .i64 r.2.2]) ∧ Below w.heap.size w w'

theorem getR_err (l : List UInt8) (k : Int) (n e : Nat) (h : Nu.get l = (k, n, e)) (he : e ≠ 0) : getR l = (noRaw, 0, e) := by
  unfold getR; rw [h]; exact if_pos he
theorem getR_0 (l : List UInt8) (n : Nat) (h : Nu.get l = (0, n, 0)) : getR l = (noRaw, n, 0) := by
  unfold getR; rw [h]; simp
theorem getR_1e (l : List UInt8) (n : Nat) (m : Int) (j e : Nat) (h : Nu.get l = (1, n, 0)) (h1 : Nu.get (l.drop n) = (m, j, e)) (he : e ≠ 0) : getR l = (noRaw, 0, e) := by
  unfold getR; rw [h]; simp [h1, he]
theorem getR_1 (l : List UInt8) (n : Nat) (m : Int) (j : Nat) (h : Nu.get l = (1, n, 0)) (h1 : Nu.get (l.drop n) = (m, j, 0)) : getR l = (⟨1, m, ⟨#[]⟩⟩, n + j, 0) := by
  unfold getR; rw [h]; simp [h1]
theorem getR_2e (l : List UInt8) (n : Nat) (t : List UInt8) (j e : Nat) (h : Nu.get l = (2, n, 0)) (h1 : Nu.getT (l.drop n) = (t, j, e)) (he : e ≠ 0) : getR l = (noRaw, 0, e) := by
  unfold getR; rw [h]; simp [h1, he]
theorem getR_2 (l : List UInt8) (n : Nat) (t : List UInt8) (j : Nat) (h : Nu.get l = (2, n, 0)) (h1 : Nu.getT (l.drop n) = (t, j, 0)) : getR l = if (Ru.vld t && decide (t.length ≤ 200)) = true then (⟨2, 0, ⟨t.toArray⟩⟩, n + j, 0) else (noRaw, 0, 1) := by
  unfold getR; rw [h]; simp [h1]
theorem getR_x (l : List UInt8) (k : Int) (n : Nat) (h : Nu.get l = (k, n, 0)) (h0 : k ≠ 0) (h1 : k ≠ 1) (h2 : k ≠ 2) : getR l = (noRaw, 0, 1) := by
  unfold getR; rw [h]; simp [h0, h1, h2]
theorem getT_le (l : List UInt8) : (Nu.getT l).1.length ≤ l.length := by
  rw [getT_of]; split
  · simp
  · split
    · simp
    · split
      · simp
      · simp only [List.length_take, List.length_drop]; omega
theorem getT_len (l : List UInt8) : (Nu.getT l).2.1 ≤ l.length := by
  have h := Nu.get_len l
  rw [getT_of]; split
  · simp
  · split
    · simp
    · split
      · simp
      · simp only; omega
theorem add_lit (g o j : Nat) : (some (⟨g, o, Option.none⟩ : Addr)).map (·.add j) = some ⟨g, o + j, Option.none⟩ := by
  show some (Addr.add ⟨g, o, Option.none⟩ j) = _
  unfold Addr.add; split <;> simp_all
end Go.Proofs.Ytegkhkcnoahhdaa
/-
  The reference's bytesOf writes a batch as the plain function says, in new memory.
-/
namespace Go.Proofs.Ytegkhkcnoahhdaa
open Go.RowKit
set_option maxRecDepth 100000

/-- a batch as data -/
structure Bat where
  client : Int
  seq : Int
  ops : List Opn
def bytesO (o : Opn) : List UInt8 := Nu.put o.kind ++ Nu.putT o.key.data.toList ++ (if o.kind = 1 then putR o.val else if o.kind = 3 then putR o.val ++ putR o.old else if o.kind = 4 then Nu.put o.n else [])
def bytesB (b : Bat) : List UInt8 := Nu.put b.client ++ Nu.put b.seq ++ Nu.put (b.ops.length : Int) ++ b.ops.flatMap bytesO
/-- the value v is the batch b -/
def BatV (w : World) (B : Nat) (v : Value) (b : Bat) : Prop := ∃ s, v = .agg #[.int .i64 b.client, .int .i64 b.seq, s] ∧ Ops w B s b.ops
def i64 (n : Int) : Prop := -9223372036854775808 ≤ n ∧ n ≤ 9223372036854775807
def Opn.ok (o : Opn) : Prop := i64 o.kind ∧ o.key.size ≤ 1000000 ∧ o.val.ok ∧ o.old.ok ∧ i64 o.n
def Bat.ok (b : Bat) : Prop := i64 b.client ∧ i64 b.seq ∧ ∀ x ∈ b.ops, x.ok
theorem putR_le (r : Raw) (h : r.ok) : (putR r).length ≤ 1000020 := by
  have h1 := Nu.put_len r.kind
  have h2 := Nu.put_len r.n
  have h3 := putT_len r.s
  have h4 := h.2.2
  unfold putR
  rw [List.length_append]
  split
  · omega
  · split
    · omega
    · simp; omega
end Go.Proofs.Ytegkhkcnoahhdaa
/-
  The reference's MayBatch says which batches may be, as the plain function does.
  The batch lies in memory; its integers are in their ranges; it has at most 1,000 operations, whose texts have at most 1,000,000 bytes.
-/
namespace Go.Proofs.Ytegkhkcnoahhdaa
open Go.RowKit
set_option maxRecDepth 100000

def mayB (b : Bat) : Bool := decide (1 ≤ b.client) && decide (b.client ≤ 5) && decide (1 ≤ b.seq) && decide (b.seq ≤ 1099511627776) && mayOs b.ops && decide ((bytesB b).length ≤ 1200)
theorem Bat.small {b : Bat} (h : b.ok) : ∀ x ∈ b.ops, x.small := fun x hx => by
  obtain ⟨_, h2, h3, h4, _⟩ := h.2.2 x hx
  exact ⟨h2, h3.2.2, h4.2.2⟩
theorem Ops.keep {w w' : World} {B C : Nat} {v : Value} {l : List Opn} (h : Ops w B v l) (hb : Below C w w') (hC : B ≤ C) : Ops w' B v l := by
  obtain ⟨A, c, hv, hc, h⟩ := h
  refine ⟨A, c, hv, hc, fun hn => ?_⟩
  obtain ⟨g, o, hA, hg, hcs⟩ := h hn
  exact ⟨g, o, hA, hg, fun k hk => range_below (hcs k hk) hb (Nat.lt_of_lt_of_le hg hC)⟩
theorem BatV.keep {w w' : World} {B C : Nat} {v : Value} {b : Bat} (h : BatV w B v b) (hb : Below C w w') (hC : B ≤ C) : BatV w' B v b := by
  obtain ⟨s, hv, h⟩ := h
  exact ⟨s, hv, h.keep hb hC⟩
end Go.Proofs.Ytegkhkcnoahhdaa
/-
  The reference's EncodeBatch writes a batch that may be, and nothing of another one.
  The batch lies in memory; its integers are in their ranges; it has at most 1,000 operations, whose texts have at most 1,000,000 bytes.
-/
namespace Go.Proofs.Ytegkhkcnoahhdaa
open Go.RowKit
set_option maxRecDepth 100000

def encB (b : Bat) : List UInt8 := if mayB b then bytesB b else []
end Go.Proofs.Ytegkhkcnoahhdaa
/-
  The reference's EqBatch says whether two batches are one, as the plain function does.
  The batches lie in memory; they have at most 1,000,000 operations.
-/
namespace Go.Proofs.Ytegkhkcnoahhdaa
open Go.RowKit
set_option maxRecDepth 100000

def eqO (x y : Opn) : Bool := x.kind == y.kind && x.key.data.toList == y.key.data.toList && eqR x.val y.val && eqR x.old y.old && x.n == y.n
def eqOs (l m : List Opn) : Bool := decide (l.length = m.length) && (l.zip m).all fun p => eqO p.1 p.2
def eqB (a b : Bat) : Bool := a.client == b.client && a.seq == b.seq && eqOs a.ops b.ops
theorem toList_inj {a b : ByteArray} (h : a.toList = b.toList) : a = b := by
  rw [ByteArray.toList_eq, ByteArray.toList_eq] at h; exact bytes_eq h
theorem zip_take (al bl : List Opn) (k : Nat) (h1 : k < al.length) (h2 : k < bl.length) : (al.take (k + 1)).zip (bl.take (k + 1)) = (al.take k).zip (bl.take k) ++ [(al[k], bl[k])] := by
  rw [List.take_add_one, List.take_add_one, List.getElem?_eq_getElem h1, List.getElem?_eq_getElem h2, List.zip_append (by simp; omega)]; rfl
theorem eqB_go {al bl : List Opn} {k : Nat} {x y : Opn} {h1 : k < al.length} {h2 : k < bl.length} (h : ((al.take k).zip (bl.take k)).all (fun p => eqO p.1 p.2) = true) (hx : al[k] = x) (hy : bl[k] = y) (he : eqO x y = true) :
    ((al.take (k + 1)).zip (bl.take (k + 1))).all (fun p => eqO p.1 p.2) = true := by
  rw [zip_take al bl k h1 h2, List.all_append, h, hx, hy]; simp [he]
theorem eqB_no {ac aq bc bq : Int} {al bl : List Opn} {k : Nat} {x y : Opn} {h1 : k < al.length} {h2 : k < bl.length} (hx : al[k] = x) (hy : bl[k] = y) (he : eqO x y = false) : eqB ⟨ac, aq, al⟩ ⟨bc, bq, bl⟩ = false := by
  have : ((al.zip bl).all fun p => eqO p.1 p.2) = false := by
    rw [List.all_eq_false]
    refine ⟨(x, y), ?_, by rw [he]; simp⟩
    rw [← hx, ← hy, ← List.getElem_zip (h := by rw [List.length_zip]; omega)]
    exact List.getElem_mem _
  unfold eqB eqOs
  rw [this]; simp
end Go.Proofs.Ytegkhkcnoahhdaa
/-
  Plain facts on numbers written seven bits a byte, with no program in them: what is read has just one text of bytes.
  There are no conditions beyond those that each lemma names.
-/
set_option linter.unusedVariables false
namespace Go.Proofs.Ytegkhkcnoahhdaa.Nu
open Go

theorem getF_canon : ∀ (l : List UInt8) (i u : Nat) (n : Int) (k : Nat), i ≤ 9 → u < 128 ^ i → getF i u (128 ^ i) l = (n, k, 0) →
    ∃ q : Nat, n = unzz (u + q * 128 ^ i) ∧ i ≤ k ∧ l.take (k - i) = vr (10 - i) q ∧ q < 2 * 128 ^ (9 - i) ∧ (0 < i → q ≠ 0) := by
  intro l; induction l with
  | nil => intro i u n k _ _ h; simp [getF] at h
  | cons c t ih =>
    intro i u n k hi hu h
    have hc := c.toNat_lt
    simp only [getF] at h
    by_cases hbad : (i = 9 ∧ 1 < c.toNat) ∨ (0 < i ∧ c.toNat = 0)
    · rw [if_pos hbad] at h; simp at h
    · rw [if_neg hbad] at h
      by_cases hlt : c.toNat < 128
      · rw [if_pos hlt] at h
        simp only [Prod.mk.injEq] at h
        obtain ⟨rfl, rfl, _⟩ := h
        refine ⟨c.toNat, by rw [Nat.mod_eq_of_lt hlt], by omega, ?_, ?_, fun h0 => by omega⟩
        · rw [show i + 1 - i = 1 by omega]
          have hf : 10 - i = (9 - i) + 1 := by omega
          rw [hf]; simp only [vr, if_pos hlt, List.take_succ_cons, List.take_zero]
          simp [Nat.toUInt8]
        · by_cases h9 : i = 9
          · subst h9; simp; omega
          · have : (128 : Nat) ^ 1 ≤ 128 ^ (9 - i) := Nat.pow_le_pow_right (by decide) (by omega)
            simp at this; omega
      · rw [if_neg hlt] at h
        have hi8 : i ≤ 8 := by omega
        have hp : (128 : Nat) ^ (i + 1) = 128 ^ i * 128 := Nat.pow_succ ..
        have hu2 : u + c.toNat % 128 * 128 ^ i < 128 ^ (i + 1) := by
          have h2 : c.toNat % 128 * 128 ^ i ≤ 127 * 128 ^ i := Nat.mul_le_mul_right _ (by omega)
          omega
        rw [← hp] at h
        obtain ⟨q, hq1, hq2, hq3, hq4, hq5⟩ := ih (i + 1) _ n k (by omega) hu2 h
        have hq0 := hq5 (by omega)
        refine ⟨c.toNat % 128 + q * 128, ?_, by omega, ?_, ?_, fun _ => by omega⟩
        · rw [hq1, hp]; congr 1
          rw [Nat.add_mul, Nat.mul_assoc, Nat.mul_comm 128, Nat.add_assoc]
        · have hki : k - i = (k - (i + 1)) + 1 := by omega
          have hf : 10 - i = (10 - (i + 1)) + 1 := by omega
          rw [hki, hf]
          simp only [vr]
          rw [if_neg (by omega), List.take_succ_cons, hq3]
          congr 1
          · have e1 : (c.toNat % 128 + q * 128) % 128 + 128 = c.toNat := by omega
            rw [e1]; simp [Nat.toUInt8]
          · congr 1; omega
        · have hf : 9 - i = (9 - (i + 1)) + 1 := by omega
          rw [hf, Nat.pow_succ]
          omega
theorem get_canon (l : List UInt8) (n : Int) (k : Nat) (h : get l = (n, k, 0)) : l.take k = put n ∧ k = (put n).length ∧ -9223372036854775808 ≤ n ∧ n ≤ 9223372036854775807 := by
  obtain ⟨q, hq1, _, hq3, hq4, _⟩ := getF_canon l 0 0 n k (by decide) (by decide) h
  have h9 : (128 : Nat) ^ 9 = 9223372036854775808 := by decide
  simp only [Nat.zero_add, Nat.pow_zero, Nat.mul_one, Nat.sub_zero] at hq1 hq3 hq4
  rw [h9] at hq4
  have hz : zz n = q := by rw [hq1, zz_unzz]
  have hp : put n = vr 10 q := by unfold put var; rw [hz]
  have hlen : k ≤ l.length := by have := get_len l; rw [h] at this; exact this
  refine ⟨by rw [hp, hq3], ?_, ?_, ?_⟩
  · have := congrArg List.length hq3
    rw [List.length_take, Nat.min_eq_left hlen] at this
    rw [hp]; exact this
  · rw [hq1]; unfold unzz; split <;> omega
  · rw [hq1]; unfold unzz; split <;> omega
theorem get_split (l : List UInt8) (n : Int) (k : Nat) (h : get l = (n, k, 0)) : l = put n ++ l.drop k := by
  have h1 := (get_canon l n k h).1
  conv => lhs; rw [← List.take_append_drop k l, h1]
theorem getT_canon (l t : List UInt8) (k : Nat) (h : getT l = (t, k, 0)) : l = putT t ++ l.drop k ∧ k = (putT t).length ∧ t.length ≤ 1048576 := by
  unfold getT at h
  obtain ⟨x, hg⟩ : ∃ x, get l = x := ⟨_, rfl⟩
  obtain ⟨n, j, e⟩ := x
  rw [hg] at h
  simp only at h
  by_cases he : e = 0
  · subst he
    simp only [ne_eq, not_true_eq_false, if_false] at h
    by_cases h1 : n < 0 ∨ 1048576 < n
    · rw [if_pos h1] at h; simp at h
    · rw [if_neg h1] at h
      by_cases h2 : (l.length : Int) - j < n
      · rw [if_pos h2] at h; simp at h
      · rw [if_neg h2] at h
        simp only [Prod.mk.injEq] at h
        obtain ⟨rfl, rfl, _⟩ := h
        have hs := get_split l n j hg
        have hk := (get_canon l n j hg).2.1
        have hj : j ≤ l.length := by have := get_len l; rw [hg] at this; exact this
        have hlen : ((l.drop j).take n.toNat).length = n.toNat := by rw [List.length_take, List.length_drop]; omega
        have hn : ((((l.drop j).take n.toNat).length : Nat) : Int) = n := by rw [hlen]; omega
        unfold putT
        rw [hn]
        refine ⟨?_, by rw [List.length_append, ← hk, hlen], by omega⟩
        rw [List.append_assoc, ← List.drop_drop, List.take_append_drop]
        exact hs
  · rw [if_pos he] at h
    simp only [Prod.mk.injEq] at h
    omega
end Go.Proofs.Ytegkhkcnoahhdaa.Nu
/-
  Plain facts on values written as bytes, with no program's run in them: what is written is read again.
  The conditions are the ranges of the integers and that the value may be.
-/
namespace Go.Proofs.Ytegkhkcnoahhdaa
open Go.RowKit
set_option maxRecDepth 100000

def pNum (l : List UInt8) : Option (Int × List UInt8) := if (Nu.get l).2.2 = 0 then some ((Nu.get l).1, l.drop (Nu.get l).2.1) else none
def pTxt (l : List UInt8) : Option (ByteArray × List UInt8) := if (Nu.getT l).2.2 = 0 then some (⟨(Nu.getT l).1.toArray⟩, l.drop (Nu.getT l).2.1) else none
def pRaw (l : List UInt8) : Option (Raw × List UInt8) := if (getR l).2.2 = 0 then some ((getR l).1, l.drop (getR l).2.1) else none
theorem pNum_put (n : Int) (r : List UInt8) (h0 : -9223372036854775808 ≤ n) (h1 : n ≤ 9223372036854775807) : pNum (Nu.put n ++ r) = some (n, r) := by
  unfold pNum; rw [Nu.get_put n r h0 h1]; simp
theorem pTxt_putT (s : ByteArray) (r : List UInt8) (h : s.size ≤ 1000000) : pTxt (Nu.putT s.data.toList ++ r) = some (s, r) := by
  have hl : s.data.toList.length = s.size := by rw [Array.length_toList]; rfl
  unfold pTxt; rw [Nu.getT_putT s.data.toList r (by omega)]; simp
theorem data_nil {s : ByteArray} (h : s.data.toList.isEmpty = true) : s = ⟨#[]⟩ := by
  apply bytes_eq; simpa using h
theorem getR_putR (r : Raw) (t : List UInt8) (h : mayR r = true) (hok : r.ok) : getR (putR r ++ t) = (r, (putR r).length, 0) := by
  obtain ⟨k, n, s⟩ := r
  obtain ⟨⟨k0, k1⟩, ⟨n0, n1⟩, hs⟩ := hok
  simp only at k0 k1 n0 n1 hs
  have hl : s.data.toList.length = s.size := by rw [Array.length_toList]; rfl
  unfold mayR at h
  simp only at h
  by_cases h0 : k = 0
  · subst h0
    simp at h
    have hs0 : s = ⟨#[]⟩ := bytes_eq (by simp [h.2])
    have e : putR ⟨0, n, s⟩ = Nu.put 0 := by unfold putR; simp
    rw [e, getR_0 _ _ (Nu.get_put 0 t (by decide) (by decide)), h.1, hs0]; rfl
  · by_cases h1 : k = 1
    · subst h1
      simp at h
      have hs0 : s = ⟨#[]⟩ := bytes_eq (by simp [h])
      have e : putR ⟨1, n, s⟩ = Nu.put 1 ++ Nu.put n := by unfold putR; simp
      rw [e, List.append_assoc, getR_1 _ _ n (Nu.put n).length (Nu.get_put 1 _ (by decide) (by decide)) (by rw [List.drop_left]; exact Nu.get_put n t n0 n1), hs0, List.length_append]
    · by_cases h2 : k = 2
      · subst h2
        simp at h
        have e : putR ⟨2, n, s⟩ = Nu.put 2 ++ Nu.putT s.data.toList := by unfold putR; simp
        rw [e, List.append_assoc, getR_2 _ _ s.data.toList (Nu.putT s.data.toList).length (Nu.get_put 2 _ (by decide) (by decide)) (by rw [List.drop_left]; exact Nu.getT_putT _ t (by omega))]
        rw [if_pos (by rw [h.1.2, hl]; simpa using h.2), List.length_append, h.1.1]
      · simp [h0, h1, h2] at h
theorem pRaw_putR (r : Raw) (t : List UInt8) (h : mayR r = true) (hok : r.ok) : pRaw (putR r ++ t) = some (r, t) := by
  unfold pRaw; rw [getR_putR r t h hok]; simp
theorem getR_canon (l : List UInt8) (r : Raw) (k : Nat) (h : getR l = (r, k, 0)) : l = putR r ++ l.drop k ∧ k = (putR r).length ∧ mayR r = true ∧ r.ok := by
  obtain ⟨x, hg⟩ : ∃ x, Nu.get l = x := ⟨_, rfl⟩
  obtain ⟨n, j, e⟩ := x
  by_cases he : e = 0
  · subst he
    have hs := Nu.get_split l n j hg
    have hc := Nu.get_canon l n j hg
    by_cases h0 : n = 0
    · subst h0
      rw [getR_0 l j hg] at h
      simp only [Prod.mk.injEq] at h
      obtain ⟨rfl, rfl, _⟩ := h
      have e1 : putR noRaw = Nu.put 0 := by unfold putR noRaw; simp
      rw [e1]
      exact ⟨hs, hc.2.1, rfl, ⟨by decide, by decide⟩, ⟨by decide, by decide⟩, by decide⟩
    · by_cases h1 : n = 1
      · subst h1
        obtain ⟨y, hy⟩ : ∃ y, Nu.get (l.drop j) = y := ⟨_, rfl⟩
        obtain ⟨m, i, e2⟩ := y
        by_cases he2 : e2 = 0
        · subst he2
          rw [getR_1 l j m i hg hy] at h
          simp only [Prod.mk.injEq] at h
          obtain ⟨rfl, rfl, _⟩ := h
          have hs2 := Nu.get_split _ m i hy
          have hc2 := Nu.get_canon _ m i hy
          have e1 : putR ⟨1, m, ⟨#[]⟩⟩ = Nu.put 1 ++ Nu.put m := by unfold putR; simp
          rw [e1]
          refine ⟨?_, by rw [List.length_append, ← hc.2.1, ← hc2.2.1], rfl, ⟨(by decide : (-9223372036854775808 : Int) ≤ 1), (by decide : (1 : Int) ≤ 9223372036854775807)⟩, hc2.2.2, by show (0 : Nat) ≤ _; omega⟩
          rw [List.append_assoc, ← List.drop_drop, ← hs2]; exact hs
        · rw [getR_1e l j m i e2 hg hy he2] at h
          simp only [Prod.mk.injEq] at h; omega
      · by_cases h2 : n = 2
        · subst h2
          obtain ⟨y, hy⟩ : ∃ y, Nu.getT (l.drop j) = y := ⟨_, rfl⟩
          obtain ⟨t, i, e2⟩ := y
          by_cases he2 : e2 = 0
          · subst he2
            rw [getR_2 l j t i hg hy] at h
            by_cases hv : (Ru.vld t && decide (t.length ≤ 200)) = true
            · rw [if_pos hv] at h
              simp only [Prod.mk.injEq] at h
              obtain ⟨rfl, rfl, _⟩ := h
              have hs2 := Nu.getT_canon _ t i hy
              have e1 : putR ⟨2, 0, ⟨t.toArray⟩⟩ = Nu.put 2 ++ Nu.putT t := by unfold putR; simp
              rw [e1]
              have hv2 : Ru.vld t = true ∧ t.length ≤ 200 := by simpa using hv
              refine ⟨?_, by rw [List.length_append, ← hc.2.1, ← hs2.2.1], ?_, ⟨(by decide : (-9223372036854775808 : Int) ≤ 2), (by decide : (2 : Int) ≤ 9223372036854775807)⟩, ⟨(by decide : (-9223372036854775808 : Int) ≤ 0), (by decide : (0 : Int) ≤ 9223372036854775807)⟩, ?_⟩
              · rw [List.append_assoc, ← List.drop_drop, ← hs2.1]; exact hs
              · have hz : (ByteArray.mk t.toArray).size = t.length := by show t.toArray.size = _; simp
                unfold mayR; simp [hv2.1]; rw [hz]; exact hv2.2
              · show t.toArray.size ≤ _; simp; omega
            · rw [if_neg hv] at h
              simp only [Prod.mk.injEq] at h; omega
          · rw [getR_2e l j t i e2 hg hy he2] at h
            simp only [Prod.mk.injEq] at h; omega
        · rw [getR_x l n j hg h0 h1 h2] at h
          simp only [Prod.mk.injEq] at h; omega
  · rw [getR_err l n j e hg he] at h
    simp only [Prod.mk.injEq] at h; omega

theorem eqR_rfl (r : Raw) : eqR r r = true := by unfold eqR; simp
theorem eqR_eq {a b : Raw} (h : eqR a b = true) : a = b := by
  obtain ⟨k, n, s⟩ := a
  obtain ⟨k2, n2, s2⟩ := b
  unfold eqR at h
  simp only [Bool.and_eq_true, beq_iff_eq] at h
  rw [h.1.1, h.1.2, bytes_eq h.2]
end Go.Proofs.Ytegkhkcnoahhdaa
/-
  Plain facts on batches written as bytes, with no program's run in them: what is written is read again, so two that may be have one text of bytes only if they are one.
  The conditions are the ranges of the integers and that the batch may be.
-/
namespace Go.Proofs.Ytegkhkcnoahhdaa
open Go.RowKit
set_option maxRecDepth 100000

theorem zR_of {r : Raw} (h : eqR r zR = true) : r = zR := by
  obtain ⟨k, n, s⟩ := r
  unfold eqR zR at h
  simp at h
  have : s = ⟨#[]⟩ := bytes_eq (by simp [h.2])
  rw [h.1.1, h.1.2, this]; rfl
/-- an operation at the beginning of bytes, and what stands behind it -/
def pOp (l : List UInt8) : Option (Opn × List UInt8) :=
  (pNum l).bind fun a => (pTxt a.2).bind fun b =>
    if a.1 = 1 then (pRaw b.2).bind fun c => some (⟨1, b.1, c.1, zR, 0⟩, c.2)
    else if a.1 = 2 then some (⟨2, b.1, zR, zR, 0⟩, b.2)
    else if a.1 = 3 then (pRaw b.2).bind fun c => (pRaw c.2).bind fun d => some (⟨3, b.1, c.1, d.1, 0⟩, d.2)
    else if a.1 = 4 then (pNum b.2).bind fun c => some (⟨4, b.1, zR, zR, c.1⟩, c.2)
    else none
theorem pOp_bytesO (o : Opn) (r : List UInt8) (h : mayO o = true) (hok : o.ok) : pOp (bytesO o ++ r) = some (o, r) := by
  obtain ⟨k, y, v, q, n⟩ := o
  obtain ⟨⟨k0, k1⟩, hy, hv, hq, ⟨n0, n1⟩⟩ := hok
  simp only at k0 k1 hy hv hq n0 n1
  unfold mayO mayKind at h
  simp only [Bool.and_eq_true] at h
  obtain ⟨_, h⟩ := h
  unfold bytesO pOp
  simp only [List.append_assoc]
  rw [pNum_put k _ k0 k1]
  simp only [Option.bind_some]
  rw [pTxt_putT y _ hy]
  simp only [Option.bind_some]
  by_cases h1 : k = 1
  · subst h1
    simp at h
    simp only [if_true]
    rw [pRaw_putR v r h.1.1.2 hv]
    simp only [Option.bind_some]
    rw [zR_of h.1.2, h.2]
  · by_cases h2 : k = 2
    · subst h2
      simp at h
      simp only [show ¬ (2 : Int) = 1 by decide, show ¬ (2 : Int) = 3 by decide, show ¬ (2 : Int) = 4 by decide, if_false, if_true, List.nil_append]
      rw [zR_of h.1.1, zR_of h.1.2, h.2]
    · by_cases h3 : k = 3
      · subst h3
        simp at h
        simp only [show ¬ (3 : Int) = 1 by decide, show ¬ (3 : Int) = 2 by decide, if_false, if_true, List.append_assoc]
        rw [pRaw_putR v _ h.1.1.1 hv]
        simp only [Option.bind_some]
        rw [pRaw_putR q _ h.1.1.2 hq]
        simp only [Option.bind_some]
        rw [h.2]
      · by_cases h4 : k = 4
        · subst h4
          simp at h
          simp only [show ¬ (4 : Int) = 1 by decide, show ¬ (4 : Int) = 2 by decide, show ¬ (4 : Int) = 3 by decide, if_false, if_true]
          rw [pNum_put n r n0 n1]
          simp only [Option.bind_some]
          rw [zR_of h.1.1.1, zR_of h.1.1.2]
        · simp [h1, h2, h3, h4] at h
/-- so many operations -/
def pOps : Nat → List UInt8 → Option (List Opn × List UInt8)
  | 0, l => some ([], l)
  | n + 1, l => (pOp l).bind fun a => (pOps n a.2).bind fun b => some (a.1 :: b.1, b.2)
theorem pOps_flat : ∀ (os : List Opn) (r : List UInt8), (∀ x ∈ os, mayO x = true) → (∀ x ∈ os, x.ok) → pOps os.length (os.flatMap bytesO ++ r) = some (os, r)
  | [], r, _, _ => by simp [pOps]
  | x :: t, r, h, hok => by
    simp only [List.length_cons, pOps, List.flatMap_cons, List.append_assoc]
    rw [pOp_bytesO x _ (h x (by simp)) (hok x (by simp))]
    simp only [Option.bind_some]
    rw [pOps_flat t r (fun z hz => h z (by simp [hz])) (fun z hz => hok z (by simp [hz]))]
    simp
/-- a batch at the beginning of bytes -/
def pBat (l : List UInt8) : Option (Bat × List UInt8) :=
  (pNum l).bind fun a => (pNum a.2).bind fun b => (pNum b.2).bind fun c => (pOps c.1.toNat c.2).bind fun d => some (⟨a.1, b.1, d.1⟩, d.2)
theorem mayB_ops {b : Bat} (h : mayB b = true) : ∀ x ∈ b.ops, mayO x = true := by
  unfold mayB mayOs at h
  simp only [Bool.and_eq_true] at h
  exact List.all_eq_true.1 h.1.2.2
theorem mayB_len {b : Bat} (h : mayB b = true) : 1 ≤ b.ops.length ∧ b.ops.length ≤ 8 := by
  unfold mayB mayOs at h
  simp only [Bool.and_eq_true, decide_eq_true_eq] at h
  exact ⟨h.1.2.1.1, h.1.2.1.2⟩
theorem pBat_bytesB (b : Bat) (r : List UInt8) (h : mayB b = true) (hok : b.ok) : pBat (bytesB b ++ r) = some (b, r) := by
  have hl := mayB_len h
  unfold pBat bytesB
  simp only [List.append_assoc]
  rw [pNum_put _ _ hok.1.1 hok.1.2]
  simp only [Option.bind_some]
  rw [pNum_put _ _ hok.2.1.1 hok.2.1.2]
  simp only [Option.bind_some]
  rw [pNum_put _ _ (by omega) (by omega)]
  simp only [Option.bind_some, Int.toNat_natCast]
  rw [pOps_flat b.ops r (mayB_ops h) hok.2.2]
  rfl
/-- two batches that may be, whose bytes begin one text: they are one -/
theorem bytesB_inj {a b : Bat} {r t : List UInt8} (ha : mayB a = true) (hb : mayB b = true) (hao : a.ok) (hbo : b.ok) (h : bytesB a ++ r = bytesB b ++ t) : a = b ∧ r = t := by
  have h1 := pBat_bytesB a r ha hao
  rw [h, pBat_bytesB b t hb hbo] at h1
  simp only [Option.some.injEq, Prod.mk.injEq] at h1
  exact ⟨h1.1.symm, h1.2.symm⟩
theorem eqO_rfl (o : Opn) : eqO o o = true := by unfold eqO; simp [eqR_rfl]
theorem eqOs_rfl (l : List Opn) : eqOs l l = true := by
    have hl : l.length = l.length := rfl
    unfold eqOs
    rw [decide_eq_true hl, Bool.true_and, List.all_eq_true]
    intro p hp
    have : p.1 = p.2 := by
      obtain ⟨k, hk, rfl⟩ := List.getElem_of_mem hp
      simp
    rw [this]; exact eqO_rfl _
theorem eqB_rfl (b : Bat) : eqB b b = true := by unfold eqB; simp [eqOs_rfl]
theorem eqO_eq {a b : Opn} (h : eqO a b = true) : a = b := by
  obtain ⟨k, y, v, q, n⟩ := a
  obtain ⟨k2, y2, v2, q2, n2⟩ := b
  unfold eqO at h
  simp only [Bool.and_eq_true, beq_iff_eq] at h
  obtain ⟨⟨⟨⟨h1, h2⟩, h3⟩, h4⟩, h5⟩ := h
  rw [h1, bytes_eq h2, eqR_eq h3, eqR_eq h4, h5]
theorem eqOs_eq : ∀ {l m : List Opn}, eqOs l m = true → l = m
  | [], [], _ => rfl
  | [], _ :: _, h => by simp [eqOs] at h
  | _ :: _, [], h => by simp [eqOs] at h
  | x :: l, y :: m, h => by
    unfold eqOs at h
    simp only [Bool.and_eq_true, decide_eq_true_eq, List.length_cons, List.zip_cons_cons, List.all_cons] at h
    have h2 : eqOs l m = true := by
      have hl : l.length = m.length := by omega
      unfold eqOs; rw [decide_eq_true hl, Bool.true_and]; exact h.2.2
    rw [eqO_eq h.2.1, eqOs_eq h2]
theorem eqB_iff {a b : Bat} : eqB a b = true ↔ a = b := by
  constructor
  · intro h
    obtain ⟨c, s, l⟩ := a
    obtain ⟨c2, s2, l2⟩ := b
    unfold eqB at h
    simp only [Bool.and_eq_true, beq_iff_eq] at h
    rw [h.1.1, h.1.2, eqOs_eq h.2]
  · rintro rfl; exact eqB_rfl _
end Go.Proofs.Ytegkhkcnoahhdaa
