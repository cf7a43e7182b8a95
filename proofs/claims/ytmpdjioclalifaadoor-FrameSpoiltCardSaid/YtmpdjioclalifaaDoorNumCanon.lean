/-
  Plain facts on numbers written seven bits a byte, with no program in them: what is read has just one text of bytes.
  There are no conditions beyond those that each lemma names.
-/
import Derived.Test.YtmpdjioclalifaaDoorNumPlain
set_option linter.unusedVariables false
set_option linter.unusedSimpArgs false
set_option linter.unusedVariables false
namespace Go.Proofs.YtmpdjioclalifaaDoor.Nu
open Go

theorem getF_canon : ∀ (l : List UInt8) (i u : Nat) (n : Int) (k : Nat), i ≤ 9 → u < 128 ^ i → getF i u (128 ^ i) l = (n, k, 0) →
    ∃ q : Nat, n = unzz (u + q * 128 ^ i) ∧ i ≤ k ∧ l.take (k - i) = vr (10 - i) q ∧ q < 2 * 128 ^ (9 - i) ∧ (0 < i → q ≠ 0) := by
  intro l; induction l with
  | nil => intro i u n k _ _ h; simp [getF] at h
  | cons c t ih =>
    intro i u n k hi hu h
    have hc := c.toNat_lt
    simp only [getF] at h
    by_cases hbad : (i = 9 ∧ 1 < c.toNat) ∨ (0 < i ∧ c.toNat = 0)
    · rw [if_pos hbad] at h; simp at h
    · rw [if_neg hbad] at h
      by_cases hlt : c.toNat < 128
      · rw [if_pos hlt] at h
        simp only [Prod.mk.injEq] at h
        obtain ⟨rfl, rfl, _⟩ := h
        refine ⟨c.toNat, by rw [Nat.mod_eq_of_lt hlt], by omega, ?_, ?_, fun h0 => by omega⟩
        · rw [show i + 1 - i = 1 by omega]
          have hf : 10 - i = (9 - i) + 1 := by omega
          rw [hf]; simp only [vr, if_pos hlt, List.take_succ_cons, List.take_zero]
          simp [Nat.toUInt8]
        · by_cases h9 : i = 9
          · subst h9; simp; omega
          · have : (128 : Nat) ^ 1 ≤ 128 ^ (9 - i) := Nat.pow_le_pow_right (by decide) (by omega)
            simp at this; omega
      · rw [if_neg hlt] at h
        have hi8 : i ≤ 8 := by omega
        have hp : (128 : Nat) ^ (i + 1) = 128 ^ i * 128 := Nat.pow_succ ..
        have hu2 : u + c.toNat % 128 * 128 ^ i < 128 ^ (i + 1) := by
          have h2 : c.toNat % 128 * 128 ^ i ≤ 127 * 128 ^ i := Nat.mul_le_mul_right _ (by omega)
          omega
        rw [← hp] at h
        obtain ⟨q, hq1, hq2, hq3, hq4, hq5⟩ := ih (i + 1) _ n k (by omega) hu2 h
        have hq0 := hq5 (by omega)
        refine ⟨c.toNat % 128 + q * 128, ?_, by omega, ?_, ?_, fun _ => by omega⟩
        · rw [hq1, hp]; congr 1
          rw [Nat.add_mul, Nat.mul_assoc, Nat.mul_comm 128, Nat.add_assoc]
        · have hki : k - i = (k - (i + 1)) + 1 := by omega
          have hf : 10 - i = (10 - (i + 1)) + 1 := by omega
          rw [hki, hf]
          simp only [vr]
          rw [if_neg (by omega), List.take_succ_cons, hq3]
          congr 1
          · have e1 : (c.toNat % 128 + q * 128) % 128 + 128 = c.toNat := by omega
            rw [e1]; simp [Nat.toUInt8]
          · congr 1; omega
        · have hf : 9 - i = (9 - (i + 1)) + 1 := by omega
          rw [hf, Nat.pow_succ]
          omega
theorem get_canon (l : List UInt8) (n : Int) (k : Nat) (h : get l = (n, k, 0)) : l.take k = put n ∧ k = (put n).length ∧ -9223372036854775808 ≤ n ∧ n ≤ 9223372036854775807 := by
  obtain ⟨q, hq1, _, hq3, hq4, _⟩ := getF_canon l 0 0 n k (by decide) (by decide) h
  have h9 : (128 : Nat) ^ 9 = 9223372036854775808 := by decide
  simp only [Nat.zero_add, Nat.pow_zero, Nat.mul_one, Nat.sub_zero] at hq1 hq3 hq4
  rw [h9] at hq4
  have hz : zz n = q := by rw [hq1, zz_unzz]
  have hp : put n = vr 10 q := by unfold put var; rw [hz]
  have hlen : k ≤ l.length := by have := get_len l; rw [h] at this; exact this
  refine ⟨by rw [hp, hq3], ?_, ?_, ?_⟩
  · have := congrArg List.length hq3
    rw [List.length_take, Nat.min_eq_left hlen] at this
    rw [hp]; exact this
  · rw [hq1]; unfold unzz; split <;> omega
  · rw [hq1]; unfold unzz; split <;> omega
theorem get_split (l : List UInt8) (n : Int) (k : Nat) (h : get l = (n, k, 0)) : l = put n ++ l.drop k := by
  have h1 := (get_canon l n k h).1
  conv => lhs; rw [← List.take_append_drop k l, h1]
theorem getT_canon (l t : List UInt8) (k : Nat) (h : getT l = (t, k, 0)) : l = putT t ++ l.drop k ∧ k = (putT t).length ∧ t.length ≤ 1048576 := by
  unfold getT at h
  obtain ⟨x, hg⟩ : ∃ x, get l = x := ⟨_, rfl⟩
  obtain ⟨n, j, e⟩ := x
  rw [hg] at h
  simp only at h
  by_cases he : e = 0
  · subst he
    simp only [ne_eq, not_true_eq_false, if_false] at h
    by_cases h1 : n < 0 ∨ 1048576 < n
    · rw [if_pos h1] at h; simp at h
    · rw [if_neg h1] at h
      by_cases h2 : (l.length : Int) - j < n
      · rw [if_pos h2] at h; simp at h
      · rw [if_neg h2] at h
        simp only [Prod.mk.injEq] at h
        obtain ⟨rfl, rfl, _⟩ := h
        have hs := get_split l n j hg
        have hk := (get_canon l n j hg).2.1
        have hj : j ≤ l.length := by have := get_len l; rw [hg] at this; exact this
        have hlen : ((l.drop j).take n.toNat).length = n.toNat := by rw [List.length_take, List.length_drop]; omega
        have hn : ((((l.drop j).take n.toNat).length : Nat) : Int) = n := by rw [hlen]; omega
        unfold putT
        rw [hn]
        refine ⟨?_, by rw [List.length_append, ← hk, hlen], by omega⟩
        rw [List.append_assoc, ← List.drop_drop, List.take_append_drop]
        exact hs
  · rw [if_pos he] at h
    simp only [Prod.mk.injEq] at h
    omega
end Go.Proofs.YtmpdjioclalifaaDoor.Nu
