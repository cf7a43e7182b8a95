/-
  Frames as plain functions: what is sealed is read again; a frame that is cut off is the beginning of one; a frame of which a byte was changed, but for its length, is none.
  There are no conditions beyond those that each lemma names.
-/
import Derived.Test.YtmpdjioclalifaaDoorReOpenP
import Derived.Test.YtmpdjioclalifaaDoorCrcPlain
import Derived.Test.YtmpdjioclalifaaDoorNumCanon
set_option linter.unusedSimpArgs false
set_option linter.unusedVariables false
namespace Go.Proofs.YtmpdjioclalifaaDoor
open Go.RowKit
set_option maxRecDepth 100000

theorem put_1 (n : Nat) (h : n < 64) : Nu.put (n : Int) = [(2 * n).toUInt8] := by
  have hz : Nu.zz (n : Int) = 2 * n := by unfold Nu.zz; rw [if_neg (by omega)]; omega
  unfold Nu.put Nu.var; rw [hz]
  exact vr_end 10 (2 * n) (by omega) (by decide)
theorem put_2 (n : Nat) (h : 64 ≤ n) (h2 : n < 8192) : Nu.put (n : Int) = [(2 * n % 128 + 128).toUInt8, (2 * n / 128).toUInt8] := by
  have hz : Nu.zz (n : Int) = 2 * n := by unfold Nu.zz; rw [if_neg (by omega)]; omega
  unfold Nu.put Nu.var; rw [hz, vr_more 9 _ (by omega), vr_end 9 _ (by omega) (by decide)]
theorem get_hi (x : UInt8) (h : 128 ≤ x.toNat) : Nu.get [x] = (0, 0, 2) := by
  unfold Nu.get; simp only [Nu.getF]; rw [if_neg (by omega), if_neg (by omega)]
theorem fourB_len (n : Nat) : (fourB n).length = 4 := rfl
theorem fourB_inj {n m : Nat} (hn : n < 4294967296) (hm : m < 4294967296) (h : fourB n = fourB m) : n = m := by
  unfold fourB at h
  simp only [List.cons.injEq, and_true] at h
  obtain ⟨h1, h2, h3, h4⟩ := h
  have e := fun (a b : Nat) (h : (a % 256).toUInt8 = (b % 256).toUInt8) => by
    have := congrArg UInt8.toNat h
    rwa [Nu.u8n _ (Nat.mod_lt _ (by decide)), Nu.u8n _ (Nat.mod_lt _ (by decide))] at this
  have h1 := e _ _ h1; have h2 := e _ _ h2; have h3 := e _ _ h3; have h4 := e _ _ h4
  omega
theorem crcSum_lt (l : List UInt8) : crcSum l < 4294967296 := by unfold crcSum; omega
theorem put_len12 (n : Nat) (h : n ≤ 4000) : (Nu.put (n : Int)).length = if n < 64 then 1 else 2 := by
  by_cases h1 : n < 64
  · rw [put_1 n h1, if_pos h1]; rfl
  · rw [put_2 n (by omega) (by omega), if_neg h1]; rfl
/-- bytes that begin with a kind and a length -/
theorem openB_at (x : UInt8) (n : Nat) (r : List UInt8) (hx : x.toNat ≠ 0) (hn : n ≤ 4000) :
    openB (x :: (Nu.put (n : Int) ++ r)) = if r.length < 4 + n then (0, [], 0, 2)
      else if fourB (crcSum (x :: Nu.put (n : Int) ++ (r.drop 4).take n)) ≠ r.take 4 then (0, [], 0, 3)
      else (x.toNat, (r.drop 4).take n, 5 + (Nu.put (n : Int)).length + n, 0) := by
  have hg := Nu.get_put (n : Int) r (by omega) (by omega)
  obtain ⟨P, hP⟩ : ∃ P, Nu.put (n : Int) = P := ⟨_, rfl⟩
  rw [hP] at hg ⊢
  unfold openB
  simp only [List.length_cons, List.headD_cons, List.drop_succ_cons, List.drop_zero, hg]
  rw [if_neg (by omega), if_neg hx, if_neg (by omega), if_neg (by omega), if_neg (by omega)]
  by_cases hr : r.length < 4 + n
  · rw [if_pos hr, if_pos (by rw [List.length_append]; omega)]
  · rw [if_neg hr, if_neg (by rw [List.length_append]; omega)]
    have hd : (x :: (P ++ r)).drop (5 + P.length) = r.drop 4 := by
      rw [show 5 + P.length = (P.length + 4) + 1 by omega, List.drop_succ_cons, ← List.drop_drop, List.drop_left]
    rw [hd, Int.toNat_natCast]
    obtain ⟨b, hb⟩ : ∃ b, (r.drop 4).take n = b := ⟨_, rfl⟩
    have hbl : b.length = n := by rw [← hb, List.length_take, List.length_drop]; omega
    have ht : (x :: (P ++ r)).take (5 + P.length + n) = x :: P ++ (r.take 4 ++ b) := by
      rw [show 5 + P.length + n = (P.length + (4 + n)) + 1 by omega, List.take_succ_cons, List.take_append, List.take_of_length_le (by omega), show P.length + (4 + n) - P.length = 4 + n by omega, List.take_add, hb]
      rfl
    have hs : sealB (x.toNat : Int) b = x :: P ++ (fourB (crcSum (x :: P ++ b)) ++ b) := by
      have := x.toNat_lt
      unfold sealB headB
      rw [if_neg (by omega), hbl, hP]
      have hxx : ((x.toNat : Int)).toNat.toUInt8 = x := by
        rw [Int.toNat_natCast]; apply UInt8.toNat_inj.1; rw [Nu.u8n _ (by omega)]
      rw [hxx, List.append_assoc]
    rw [hb, ht, hs]
    by_cases hf : fourB (crcSum (x :: P ++ b)) = r.take 4
    · rw [if_neg (fun h => h (by rw [hf])), if_neg (fun h => h hf)]
    · rw [if_pos (fun e => hf (List.append_cancel_right (List.append_cancel_left e))), if_pos hf]
/-- a frame, told in its parts -/
theorem sealB_is (k : Int) (l : List UInt8) (h0 : 1 ≤ k) (h1 : k ≤ 255) (hl : l.length ≤ 4000) : sealB k l = k.toNat.toUInt8 :: (Nu.put ((l.length : Nat) : Int) ++ (fourB (crcSum (k.toNat.toUInt8 :: Nu.put ((l.length : Nat) : Int) ++ l)) ++ l)) := by
  unfold sealB headB
  rw [if_neg (by omega)]
  simp
theorem kind_back (k : Int) (h0 : 1 ≤ k) (h1 : k ≤ 255) : (k.toNat.toUInt8).toNat = k.toNat := Nu.u8n _ (by omega)
theorem sealB_len (k : Int) (l : List UInt8) (h0 : 1 ≤ k) (h1 : k ≤ 255) (hl : l.length ≤ 4000) : (sealB k l).length = 5 + (Nu.put ((l.length : Nat) : Int)).length + l.length := by
  rw [sealB_is k l h0 h1 hl]; simp only [List.length_cons, List.length_append, fourB_len]; omega
theorem sealB_no (k : Int) (l : List UInt8) (h : k < 1 ∨ 255 < k ∨ 4000 < l.length) : sealB k l = [] := by unfold sealB; rw [if_pos h]
theorem sealB_some {k : Int} {l : List UInt8} (h : 1 ≤ (sealB k l).length) : 1 ≤ k ∧ k ≤ 255 ∧ l.length ≤ 4000 := by
  by_cases hb : k < 1 ∨ 255 < k ∨ 4000 < l.length
  · rw [sealB_no k l hb] at h; simp at h
  · omega
theorem sealB_short (k : Int) (l : List UInt8) : (sealB k l).length ≤ 4007 := by
  by_cases h : k < 1 ∨ 255 < k ∨ 4000 < l.length
  · rw [sealB_no k l h]; simp
  · have := sealB_len k l (by omega) (by omega) (by omega)
    have h2 := put_len12 l.length (by omega)
    split at h2 <;> omega
theorem openB_seal (k : Int) (l r : List UInt8) (h0 : 1 ≤ k) (h1 : k ≤ 255) (hl : l.length ≤ 4000) : openB (sealB k l ++ r) = (k.toNat, l, (sealB k l).length, 0) := by
  have hk := kind_back k h0 h1
  rw [sealB_len k l h0 h1 hl, sealB_is k l h0 h1 hl, List.cons_append, List.append_assoc, openB_at _ l.length _ (by omega) hl]
  have hd : ((fourB (crcSum (k.toNat.toUInt8 :: Nu.put ((l.length : Nat) : Int) ++ l)) ++ l ++ r).drop 4).take l.length = l := by
    rw [List.append_assoc, List.drop_left' (fourB_len _), List.take_left' rfl]
  have ht : (fourB (crcSum (k.toNat.toUInt8 :: Nu.put ((l.length : Nat) : Int) ++ l)) ++ l ++ r).take 4 = fourB (crcSum (k.toNat.toUInt8 :: Nu.put ((l.length : Nat) : Int) ++ l)) := by
    rw [List.append_assoc, List.take_left' (fourB_len _)]
  rw [hd, ht, if_neg (by simp only [List.length_append, fourB_len]; omega), if_neg (by simp), hk]
theorem openB_cut (k : Int) (l : List UInt8) (m : Nat) (h0 : 1 ≤ k) (h1 : k ≤ 255) (hl : l.length ≤ 4000) (hm : m < (sealB k l).length) : openB ((sealB k l).take m) = (0, [], 0, 2) := by
  have hk := kind_back k h0 h1
  have hlen := sealB_len k l h0 h1 hl
  rw [hlen] at hm
  have h12 := put_len12 l.length hl
  rw [sealB_is k l h0 h1 hl]
  obtain ⟨R, hR⟩ : ∃ R, fourB (crcSum (k.toNat.toUInt8 :: Nu.put ((l.length : Nat) : Int) ++ l)) ++ l = R := ⟨_, rfl⟩
  have hRl : R.length = 4 + l.length := by rw [← hR, List.length_append, fourB_len]
  rw [hR]
  cases m with
  | zero => rfl
  | succ m =>
    rw [List.take_succ_cons]
    by_cases hP : (Nu.put ((l.length : Nat) : Int)).length ≤ m
    · rw [List.take_append, List.take_of_length_le hP, openB_at _ l.length _ (by omega) hl, if_pos]
      rw [List.length_take]; omega
    · rw [List.take_append_of_le_length (by omega)]
      have hone : ∀ y : List UInt8, Nu.get y = (0, 0, 2) → y.length ≤ 1 → openB (k.toNat.toUInt8 :: y) = (0, [], 0, 2) := fun y hy hyl => by
        unfold openB
        simp only [List.length_cons, List.headD_cons, List.drop_succ_cons, List.drop_zero, hy]
        rw [if_neg (by omega), if_neg (by omega), if_neg (by omega), if_pos trivial]
      cases m with
      | zero => exact hone [] rfl (by simp)
      | succ m =>
        by_cases h6 : l.length < 64
        · rw [if_pos h6] at h12; omega
        · rw [if_neg h6] at h12
          have h8 : m = 0 := by omega
          subst h8
          rw [put_2 _ (by omega) (by omega)]
          simp only [List.take_succ_cons, List.take_zero]
          exact hone _ (get_hi _ (by rw [Nu.u8n _ (by omega)]; omega)) (by simp)
/-- what openB tells of a good frame -/
theorem openB_good {l b : List UInt8} {k n : Nat} (h : openB l = (k, b, n, 0)) : 6 ≤ n ∧ n ≤ l.length ∧ b.length ≤ 4000 ∧ b.length + 6 ≤ l.length ∧ 1 ≤ k ∧ k ≤ 255 := by
  unfold openB at h
  by_cases h1 : l.length = 0
  · rw [if_pos h1] at h; simp at h
  rw [if_neg h1] at h
  by_cases h2 : (l.headD 0).toNat = 0
  · rw [if_pos h2] at h; simp at h
  rw [if_neg h2] at h
  by_cases h3 : (Nu.get (l.drop 1)).2.2 = 2 ∧ 2 < l.length
  · rw [if_pos h3] at h; simp at h
  rw [if_neg h3] at h
  by_cases h4 : (Nu.get (l.drop 1)).2.2 = 2
  · rw [if_pos h4] at h; simp at h
  rw [if_neg h4] at h
  by_cases h5 : (Nu.get (l.drop 1)).2.2 ≠ 0 ∨ (Nu.get (l.drop 1)).1 < 0 ∨ 4000 < (Nu.get (l.drop 1)).1
  · rw [if_pos h5] at h; simp at h
  rw [if_neg h5] at h
  by_cases h6 : (l.length : Int) < 5 + (Nu.get (l.drop 1)).2.1 + (Nu.get (l.drop 1)).1
  · rw [if_pos h6] at h; simp at h
  rw [if_neg h6] at h
  split at h
  · simp at h
  · have hp := Nu.get_pos (l.drop 1) (by omega)
    have hx := (l.headD 0).toNat_lt
    simp only [Prod.mk.injEq, and_true] at h
    obtain ⟨rfl, rfl, rfl⟩ := h
    have : ((l.drop (5 + (Nu.get (l.drop 1)).2.1)).take (Nu.get (l.drop 1)).1.toNat).length ≤ (Nu.get (l.drop 1)).1.toNat := by rw [List.length_take]; omega
    omega
theorem openB_err (l : List UInt8) : (openB l).2.2.2 = 0 ∨ (∃ e, openB l = (0, [], 0, e) ∧ (e = 2 ∨ e = 3)) := by
  unfold openB
  repeat' split
  all_goals first | exact .inl rfl | exact .inr ⟨_, rfl, .inl rfl⟩ | exact .inr ⟨_, rfl, .inr rfl⟩

/-! ### a byte that is another one makes another sum -/
theorem crcBit_inj {c d : Nat} (hc : c < 4294967296) (hd : d < 4294967296) (h : crcBit c = crcBit d) : c = d := by
  rw [crcBit_m, crcBit_m] at h
  have key : ∀ a, a < 4294967296 → ((a / 2 ^^^ crcM (a % 2)).testBit 31 = decide (a % 2 = 1)) := fun a ha => by
    rw [Nat.testBit_xor, Nat.testBit_lt_two_pow (x := a / 2) (i := 31) (by omega)]
    unfold crcM
    split
    · rename_i h; simp [h]; decide
    · rename_i h; simp [h]
  have e1 := key c hc
  rw [h, key d hd] at e1
  have e2 : c % 2 = d % 2 := by
    rcases Nat.mod_two_eq_zero_or_one c with h1 | h1 <;> rcases Nat.mod_two_eq_zero_or_one d with h2 | h2 <;> simp [h1, h2] at e1 ⊢
  rw [e2] at h
  have e3 : c / 2 = d / 2 := by
    have := congrArg (· ^^^ crcM (d % 2)) h
    simpa [Nat.xor_assoc, Nat.xor_self] using this
  omega
theorem crcBits_inj : ∀ (k : Nat) {c d : Nat}, c < 4294967296 → d < 4294967296 → crcBits k c = crcBits k d → c = d
  | 0, _, _, _, _, h => h
  | k + 1, _, _, hc, hd, h => crcBit_inj hc hd (crcBits_inj k (crcBit_lt _ hc) (crcBit_lt _ hd) h)
theorem xor_left {a b c : Nat} (h : a ^^^ b = a ^^^ c) : b = c := by
  have := congrArg (a ^^^ ·) h
  simpa [← Nat.xor_assoc, Nat.xor_self] using this
theorem xor_right {a b c : Nat} (h : a ^^^ c = b ^^^ c) : a = b := by
  have := congrArg (· ^^^ c) h
  simpa [Nat.xor_assoc, Nat.xor_self] using this
theorem crcL_inj : ∀ (l : List UInt8) {c d : Nat}, c < 4294967296 → d < 4294967296 → crcL c l = crcL d l → c = d
  | [], _, _, _, _, h => h
  | b :: t, c, d, hc, hd, h => xor_right (c := b.toNat) (crcBits_inj 8 (crcX_lt c b hc) (crcX_lt d b hd) (crcL_inj t (crcBits_lt 8 _ (crcX_lt c b hc)) (crcBits_lt 8 _ (crcX_lt d b hd)) h))
theorem crcSum_one {a b : List UInt8} {x y : UInt8} (h : crcSum (a ++ x :: b) = crcSum (a ++ y :: b)) : x = y := by
  have h1 := crcL_lt (a ++ x :: b) 4294967295 (by omega)
  have h2 := crcL_lt (a ++ y :: b) 4294967295 (by omega)
  unfold crcSum at h
  have h3 : crcL 4294967295 (a ++ x :: b) = crcL 4294967295 (a ++ y :: b) := by omega
  rw [crcL_append, crcL_append] at h3
  have ha := crcL_lt a 4294967295 (by omega)
  have h4 := crcL_inj b (crcBits_lt 8 _ (crcX_lt _ x ha)) (crcBits_lt 8 _ (crcX_lt _ y ha)) h3
  exact UInt8.toNat_inj.1 (xor_left (crcBits_inj 8 (crcX_lt _ x ha) (crcX_lt _ y ha) h4))
theorem crcSum_set {a l b : List UInt8} {j : Nat} (hj : j < l.length) {y : UInt8} (h : crcSum (a ++ l.set j y ++ b) = crcSum (a ++ l ++ b)) : y = l[j] := by
  have e1 : a ++ l.set j y ++ b = (a ++ l.take j) ++ y :: (l.drop (j + 1) ++ b) := by rw [List.set_eq_take_append_cons_drop, if_pos hj]; simp
  have e2 : a ++ l ++ b = (a ++ l.take j) ++ l[j] :: (l.drop (j + 1) ++ b) := by
    calc a ++ l ++ b = a ++ (l.take j ++ l.drop j) ++ b := by rw [List.take_append_drop]
      _ = _ := by rw [List.drop_eq_getElem_cons hj]; simp only [List.append_assoc, List.cons_append]
  rw [e1, e2] at h
  exact crcSum_one h
/-- a frame of which one byte was changed, but for its length, is none -/
theorem openB_spoilt (k : Int) (l : List UInt8) (j : Nat) (y : UInt8) (h0 : 1 ≤ k) (h1 : k ≤ 255) (hl : l.length ≤ 4000) (hj : j < (sealB k l).length) (hj1 : j ≠ 1) (hj2 : j ≠ 2) (hy : y ≠ (sealB k l)[j]) : openB ((sealB k l).set j y) = (0, [], 0, 3) := by
  have hk := kind_back k h0 h1
  have hlen := sealB_len k l h0 h1 hl
  have h12 := put_len12 l.length hl
  have hs := sealB_is k l h0 h1 hl
  obtain ⟨P, hP⟩ : ∃ P, Nu.put ((l.length : Nat) : Int) = P := ⟨_, rfl⟩
  obtain ⟨x, hx⟩ : ∃ x, k.toNat.toUInt8 = x := ⟨_, rfl⟩
  rw [hP] at hs h12 hlen
  rw [hx] at hs hk
  obtain ⟨n, hn⟩ : ∃ n, crcSum (x :: P ++ l) = n := ⟨_, rfl⟩
  rw [hn] at hs
  obtain ⟨s, hss⟩ : ∃ s, sealB k l = s := ⟨_, rfl⟩
  rw [hss] at hs hlen
  simp only [hss] at hj hy ⊢
  have hgo : ∀ (z : UInt8) (r : List UInt8), openB (z :: (P ++ r)) = if z.toNat = 0 then (0, [], 0, 3) else if r.length < 4 + l.length then (0, [], 0, 2)
      else if fourB (crcSum (z :: P ++ (r.drop 4).take l.length)) ≠ r.take 4 then (0, [], 0, 3)
      else (z.toNat, (r.drop 4).take l.length, 5 + P.length + l.length, 0) := fun z r => by
    by_cases hz : z.toNat = 0
    · rw [if_pos hz]; unfold openB; rw [if_neg (by simp), if_pos (show ((z :: (P ++ r)).headD 0).toNat = 0 from hz)]
    · rw [if_neg hz, ← hP]; exact openB_at z l.length r hz hl
  have hPl : 1 ≤ P.length ∧ P.length ≤ 2 := by split at h12 <;> omega
  by_cases hj0 : j = 0
  · subst hj0
    simp only [hs, List.set_cons_zero, List.getElem_cons_zero] at hy ⊢
    rw [hgo]
    by_cases hz : y.toNat = 0
    · rw [if_pos hz]
    · rw [if_neg hz, if_neg (by rw [List.length_append, fourB_len]; omega), List.drop_left' (fourB_len _), List.take_left' (fourB_len _), List.take_of_length_le (Nat.le_refl _), if_pos]
      intro e
      have e2 := fourB_inj (crcSum_lt _) (by rw [← hn]; exact crcSum_lt _) e
      rw [← hn] at e2
      exact hy (crcSum_one (a := []) e2)
  · obtain ⟨j', rfl⟩ : ∃ j', j = 1 + P.length + j' := ⟨j - 1 - P.length, by
      by_cases h6 : P.length = 1 <;> omega⟩
    have hset : s.set (1 + P.length + j') y = x :: (P ++ (fourB n ++ l).set j' y) := by
      rw [hs, show 1 + P.length + j' = (P.length + j') + 1 by omega, List.set_cons_succ, List.set_append_right _ _ (by omega), show P.length + j' - P.length = j' by omega]
    have hyj : y ≠ (fourB n ++ l)[j']'(by rw [List.length_append, fourB_len]; omega) := by
      intro e
      apply hy
      rw [e]
      have : s[1 + P.length + j']? = (fourB n ++ l)[j']? := by
        rw [hs, show 1 + P.length + j' = (P.length + j') + 1 by omega, List.getElem?_cons_succ, List.getElem?_append_right (by omega), show P.length + j' - P.length = j' by omega]
      rw [List.getElem?_eq_getElem hj, List.getElem?_eq_getElem (by rw [List.length_append, fourB_len]; omega)] at this
      exact (Option.some.inj this).symm
    rw [hset, hgo, if_neg (by omega), if_neg (by rw [List.length_set, List.length_append, fourB_len]; omega), if_pos]
    intro e
    by_cases hj4 : j' < 4
    · have e3 : (fourB n ++ l).set j' y = (fourB n).set j' y ++ l := List.set_append_left _ _ (by rw [fourB_len]; exact hj4)
      rw [e3, List.drop_left' (by rw [List.length_set, fourB_len]), List.take_left' (by rw [List.length_set, fourB_len]), List.take_of_length_le (Nat.le_refl _), hn] at e
      apply hyj
      have e4 : (fourB n)[j']? = ((fourB n).set j' y)[j']? := congrArg (·[j']?) e
      rw [List.getElem?_set_self (by rw [fourB_len]; exact hj4)] at e4
      rw [List.getElem_append_left (by rw [fourB_len]; exact hj4)]
      rw [List.getElem?_eq_getElem (by rw [fourB_len]; exact hj4)] at e4
      exact (Option.some.inj e4).symm
    · have e3 : (fourB n ++ l).set j' y = fourB n ++ l.set (j' - 4) y := by rw [List.set_append_right _ _ (by rw [fourB_len]; omega), fourB_len]
      rw [e3, List.drop_left' (fourB_len _), List.take_left' (fourB_len _), List.take_of_length_le (by rw [List.length_set]; exact Nat.le_refl _)] at e
      have e4 := fourB_inj (crcSum_lt _) (by rw [← hn]; exact crcSum_lt _) e
      rw [← hn] at e4
      apply hyj
      rw [List.getElem_append_right (by rw [fourB_len]; omega)]
      exact crcSum_set (a := x :: P) (b := []) (j := j' - 4) (by omega) (by simpa using e4)
end Go.Proofs.YtmpdjioclalifaaDoor
