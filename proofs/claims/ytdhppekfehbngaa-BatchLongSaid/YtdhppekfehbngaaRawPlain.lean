/-
  Plain facts on numbers written seven bits a byte, with no program in them: what is read has just one text of bytes.
  There are no conditions beyond those that each lemma names.
-/
import Derived.Test.YtdhppekfehbngaaNumPlain
import Derived.Test.YtdhppekfehbngaaReGetRaw
set_option linter.unusedVariables false
set_option linter.unusedSimpArgs false
set_option linter.unusedVariables false
namespace Go.Proofs.Ytdhppekfehbngaa.Nu
open Go

theorem getF_canon : ∀ (l : List UInt8) (i u : Nat) (n : Int) (k : Nat), i ≤ 9 → u < 128 ^ i → getF i u (128 ^ i) l = (n, k, 0) →
    ∃ q : Nat, n = unzz (u + q * 128 ^ i) ∧ i ≤ k ∧ l.take (k - i) = vr (10 - i) q ∧ q < 2 * 128 ^ (9 - i) ∧ (0 < i → q ≠ 0) := by
  intro l; induction l with
  | nil => intro i u n k _ _ h; simp [getF] at h
  | cons c t ih =>
    intro i u n k hi hu h
    have hc := c.toNat_lt
    simp only [getF] at h
    by_cases hbad : (i = 9 ∧ 1 < c.toNat) ∨ (0 < i ∧ c.toNat = 0)
    · rw [if_pos hbad] at h; simp at h
    · rw [if_neg hbad] at h
      by_cases hlt : c.toNat < 128
      · rw [if_pos hlt] at h
        simp only [Prod.mk.injEq] at h
        obtain ⟨rfl, rfl, _⟩ := h
        refine ⟨c.toNat, by rw [Nat.mod_eq_of_lt hlt], by omega, ?_, ?_, fun h0 => by omega⟩
        · rw [show i + 1 - i = 1 by omega]
          have hf : 10 - i = (9 - i) + 1 := by omega
          rw [hf]; simp only [vr, if_pos hlt, List.take_succ_cons, List.take_zero]
          simp [Nat.toUInt8]
        · by_cases h9 : i = 9
          · subst h9; simp; omega
          · have : (128 : Nat) ^ 1 ≤ 128 ^ (9 - i) := Nat.pow_le_pow_right (by decide) (by omega)
            simp at this; omega
      · rw [if_neg hlt] at h
        have hi8 : i ≤ 8 := by omega
        have hp : (128 : Nat) ^ (i + 1) = 128 ^ i * 128 := Nat.pow_succ ..
        have hu2 : u + c.toNat % 128 * 128 ^ i < 128 ^ (i + 1) := by
          have h2 : c.toNat % 128 * 128 ^ i ≤ 127 * 128 ^ i := Nat.mul_le_mul_right _ (by omega)
          omega
        rw [← hp] at h
        obtain ⟨q, hq1, hq2, hq3, hq4, hq5⟩ := ih (i + 1) _ n k (by omega) hu2 h
        have hq0 := hq5 (by omega)
        refine ⟨c.toNat % 128 + q * 128, ?_, by omega, ?_, ?_, fun _ => by omega⟩
        · rw [hq1, hp]; congr 1
          rw [Nat.add_mul, Nat.mul_assoc, Nat.mul_comm 128, Nat.add_assoc]
        · have hki : k - i = (k - (i + 1)) + 1 := by omega
          have hf : 10 - i = (10 - (i + 1)) + 1 := by omega
          rw [hki, hf]
          simp only [vr]
          rw [if_neg (by omega), List.take_succ_cons, hq3]
          congr 1
          · have e1 : (c.toNat % 128 + q * 128) % 128 + 128 = c.toNat := by omega
            rw [e1]; simp [Nat.toUInt8]
          · congr 1; omega
        · have hf : 9 - i = (9 - (i + 1)) + 1 := by omega
          rw [hf, Nat.pow_succ]
          omega
theorem get_canon (l : List UInt8) (n : Int) (k : Nat) (h : get l = (n, k, 0)) : l.take k = put n ∧ k = (put n).length ∧ -9223372036854775808 ≤ n ∧ n ≤ 9223372036854775807 := by
  obtain ⟨q, hq1, _, hq3, hq4, _⟩ := getF_canon l 0 0 n k (by decide) (by decide) h
  have h9 : (128 : Nat) ^ 9 = 9223372036854775808 := by decide
  simp only [Nat.zero_add, Nat.pow_zero, Nat.mul_one, Nat.sub_zero] at hq1 hq3 hq4
  rw [h9] at hq4
  have hz : zz n = q := by rw [hq1, zz_unzz]
  have hp : put n = vr 10 q := by unfold put var; rw [hz]
  have hlen : k ≤ l.length := by have := get_len l; rw [h] at this; exact this
  refine ⟨by rw [hp, hq3], ?_, ?_, ?_⟩
  · have := congrArg List.length hq3
    rw [List.length_take, Nat.min_eq_left hlen] at this
    rw [hp]; exact this
  · rw [hq1]; unfold unzz; split <;> omega
  · rw [hq1]; unfold unzz; split <;> omega
theorem get_split (l : List UInt8) (n : Int) (k : Nat) (h : get l = (n, k, 0)) : l = put n ++ l.drop k := by
  have h1 := (get_canon l n k h).1
  conv => lhs; rw [← List.take_append_drop k l, h1]
theorem getT_canon (l t : List UInt8) (k : Nat) (h : getT l = (t, k, 0)) : l = putT t ++ l.drop k ∧ k = (putT t).length ∧ t.length ≤ 1048576 := by
  unfold getT at h
  obtain ⟨x, hg⟩ : ∃ x, get l = x := ⟨_, rfl⟩
  obtain ⟨n, j, e⟩ := x
  rw [hg] at h
  simp only at h
  by_cases he : e = 0
  · subst he
    simp only [ne_eq, not_true_eq_false, if_false] at h
    by_cases h1 : n < 0 ∨ 1048576 < n
    · rw [if_pos h1] at h; simp at h
    · rw [if_neg h1] at h
      by_cases h2 : (l.length : Int) - j < n
      · rw [if_pos h2] at h; simp at h
      · rw [if_neg h2] at h
        simp only [Prod.mk.injEq] at h
        obtain ⟨rfl, rfl, _⟩ := h
        have hs := get_split l n j hg
        have hk := (get_canon l n j hg).2.1
        have hj : j ≤ l.length := by have := get_len l; rw [hg] at this; exact this
        have hlen : ((l.drop j).take n.toNat).length = n.toNat := by rw [List.length_take, List.length_drop]; omega
        have hn : ((((l.drop j).take n.toNat).length : Nat) : Int) = n := by rw [hlen]; omega
        unfold putT
        rw [hn]
        refine ⟨?_, by rw [List.length_append, ← hk, hlen], by omega⟩
        rw [List.append_assoc, ← List.drop_drop, List.take_append_drop]
        exact hs
  · rw [if_pos he] at h
    simp only [Prod.mk.injEq] at h
    omega
end Go.Proofs.Ytdhppekfehbngaa.Nu
/-
  Plain facts on values written as bytes, with no program's run in them: what is written is read again.
  The conditions are the ranges of the integers and that the value may be.
-/
namespace Go.Proofs.Ytdhppekfehbngaa
open Go.RowKit
set_option maxRecDepth 100000

def pNum (l : List UInt8) : Option (Int × List UInt8) := if (Nu.get l).2.2 = 0 then some ((Nu.get l).1, l.drop (Nu.get l).2.1) else none
def pTxt (l : List UInt8) : Option (ByteArray × List UInt8) := if (Nu.getT l).2.2 = 0 then some (⟨(Nu.getT l).1.toArray⟩, l.drop (Nu.getT l).2.1) else none
def pRaw (l : List UInt8) : Option (Raw × List UInt8) := if (getR l).2.2 = 0 then some ((getR l).1, l.drop (getR l).2.1) else none
theorem pNum_put (n : Int) (r : List UInt8) (h0 : -9223372036854775808 ≤ n) (h1 : n ≤ 9223372036854775807) : pNum (Nu.put n ++ r) = some (n, r) := by
  unfold pNum; rw [Nu.get_put n r h0 h1]; simp
theorem pTxt_putT (s : ByteArray) (r : List UInt8) (h : s.size ≤ 1000000) : pTxt (Nu.putT s.data.toList ++ r) = some (s, r) := by
  have hl : s.data.toList.length = s.size := by rw [Array.length_toList]; rfl
  unfold pTxt; rw [Nu.getT_putT s.data.toList r (by omega)]; simp
theorem data_nil {s : ByteArray} (h : s.data.toList.isEmpty = true) : s = ⟨#[]⟩ := by
  apply bytes_eq; simpa using h
theorem getR_putR (r : Raw) (t : List UInt8) (h : mayR r = true) (hok : r.ok) : getR (putR r ++ t) = (r, (putR r).length, 0) := by
  obtain ⟨k, n, s⟩ := r
  obtain ⟨⟨k0, k1⟩, ⟨n0, n1⟩, hs⟩ := hok
  simp only at k0 k1 n0 n1 hs
  have hl : s.data.toList.length = s.size := by rw [Array.length_toList]; rfl
  unfold mayR at h
  simp only at h
  by_cases h0 : k = 0
  · subst h0
    simp at h
    have hs0 : s = ⟨#[]⟩ := bytes_eq (by simp [h.2])
    have e : putR ⟨0, n, s⟩ = Nu.put 0 := by unfold putR; simp
    rw [e, getR_0 _ _ (Nu.get_put 0 t (by decide) (by decide)), h.1, hs0]; rfl
  · by_cases h1 : k = 1
    · subst h1
      simp at h
      have hs0 : s = ⟨#[]⟩ := bytes_eq (by simp [h])
      have e : putR ⟨1, n, s⟩ = Nu.put 1 ++ Nu.put n := by unfold putR; simp
      rw [e, List.append_assoc, getR_1 _ _ n (Nu.put n).length (Nu.get_put 1 _ (by decide) (by decide)) (by rw [List.drop_left]; exact Nu.get_put n t n0 n1), hs0, List.length_append]
    · by_cases h2 : k = 2
      · subst h2
        simp at h
        have e : putR ⟨2, n, s⟩ = Nu.put 2 ++ Nu.putT s.data.toList := by unfold putR; simp
        rw [e, List.append_assoc, getR_2 _ _ s.data.toList (Nu.putT s.data.toList).length (Nu.get_put 2 _ (by decide) (by decide)) (by rw [List.drop_left]; exact Nu.getT_putT _ t (by omega))]
        rw [if_pos (by rw [h.1.2, hl]; simpa using h.2), List.length_append, h.1.1]
      · simp [h0, h1, h2] at h
theorem pRaw_putR (r : Raw) (t : List UInt8) (h : mayR r = true) (hok : r.ok) : pRaw (putR r ++ t) = some (r, t) := by
  unfold pRaw; rw [getR_putR r t h hok]; simp
theorem getR_canon (l : List UInt8) (r : Raw) (k : Nat) (h : getR l = (r, k, 0)) : l = putR r ++ l.drop k ∧ k = (putR r).length ∧ mayR r = true ∧ r.ok := by
  obtain ⟨x, hg⟩ : ∃ x, Nu.get l = x := ⟨_, rfl⟩
  obtain ⟨n, j, e⟩ := x
  by_cases he : e = 0
  · subst he
    have hs := Nu.get_split l n j hg
    have hc := Nu.get_canon l n j hg
    by_cases h0 : n = 0
    · subst h0
      rw [getR_0 l j hg] at h
      simp only [Prod.mk.injEq] at h
      obtain ⟨rfl, rfl, _⟩ := h
      have e1 : putR noRaw = Nu.put 0 := by unfold putR noRaw; simp
      rw [e1]
      exact ⟨hs, hc.2.1, rfl, ⟨by decide, by decide⟩, ⟨by decide, by decide⟩, by decide⟩
    · by_cases h1 : n = 1
      · subst h1
        obtain ⟨y, hy⟩ : ∃ y, Nu.get (l.drop j) = y := ⟨_, rfl⟩
        obtain ⟨m, i, e2⟩ := y
        by_cases he2 : e2 = 0
        · subst he2
          rw [getR_1 l j m i hg hy] at h
          simp only [Prod.mk.injEq] at h
          obtain ⟨rfl, rfl, _⟩ := h
          have hs2 := Nu.get_split _ m i hy
          have hc2 := Nu.get_canon _ m i hy
          have e1 : putR ⟨1, m, ⟨#[]⟩⟩ = Nu.put 1 ++ Nu.put m := by unfold putR; simp
          rw [e1]
          refine ⟨?_, by rw [List.length_append, ← hc.2.1, ← hc2.2.1], rfl, ⟨(by decide : (-9223372036854775808 : Int) ≤ 1), (by decide : (1 : Int) ≤ 9223372036854775807)⟩, hc2.2.2, by show (0 : Nat) ≤ _; omega⟩
          rw [List.append_assoc, ← List.drop_drop, ← hs2]; exact hs
        · rw [getR_1e l j m i e2 hg hy he2] at h
          simp only [Prod.mk.injEq] at h; omega
      · by_cases h2 : n = 2
        · subst h2
          obtain ⟨y, hy⟩ : ∃ y, Nu.getT (l.drop j) = y := ⟨_, rfl⟩
          obtain ⟨t, i, e2⟩ := y
          by_cases he2 : e2 = 0
          · subst he2
            rw [getR_2 l j t i hg hy] at h
            by_cases hv : (Ru.vld t && decide (t.length ≤ 200)) = true
            · rw [if_pos hv] at h
              simp only [Prod.mk.injEq] at h
              obtain ⟨rfl, rfl, _⟩ := h
              have hs2 := Nu.getT_canon _ t i hy
              have e1 : putR ⟨2, 0, ⟨t.toArray⟩⟩ = Nu.put 2 ++ Nu.putT t := by unfold putR; simp
              rw [e1]
              have hv2 : Ru.vld t = true ∧ t.length ≤ 200 := by simpa using hv
              refine ⟨?_, by rw [List.length_append, ← hc.2.1, ← hs2.2.1], ?_, ⟨(by decide : (-9223372036854775808 : Int) ≤ 2), (by decide : (2 : Int) ≤ 9223372036854775807)⟩, ⟨(by decide : (-9223372036854775808 : Int) ≤ 0), (by decide : (0 : Int) ≤ 9223372036854775807)⟩, ?_⟩
              · rw [List.append_assoc, ← List.drop_drop, ← hs2.1]; exact hs
              · have hz : (ByteArray.mk t.toArray).size = t.length := by show t.toArray.size = _; simp
                unfold mayR; simp [hv2.1]; rw [hz]; exact hv2.2
              · show t.toArray.size ≤ _; simp; omega
            · rw [if_neg hv] at h
              simp only [Prod.mk.injEq] at h; omega
          · rw [getR_2e l j t i e2 hg hy he2] at h
            simp only [Prod.mk.injEq] at h; omega
        · rw [getR_x l n j hg h0 h1 h2] at h
          simp only [Prod.mk.injEq] at h; omega
  · rw [getR_err l n j e hg he] at h
    simp only [Prod.mk.injEq] at h; omega

theorem eqR_rfl (r : Raw) : eqR r r = true := by unfold eqR; simp
theorem eqR_eq {a b : Raw} (h : eqR a b = true) : a = b := by
  obtain ⟨k, n, s⟩ := a
  obtain ⟨k2, n2, s2⟩ := b
  unfold eqR at h
  simp only [Bool.and_eq_true, beq_iff_eq] at h
  rw [h.1.1, h.1.2, bytes_eq h.2]
end Go.Proofs.Ytdhppekfehbngaa
