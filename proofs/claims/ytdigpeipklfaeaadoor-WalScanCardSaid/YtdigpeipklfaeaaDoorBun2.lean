/-
  Contracts of the program's functions, of the reference's, and plain lemmas on what they answer (part 2 of 4).
  Each lemma names its conditions.
-/
import Derived.Test.YtdigpeipklfaeaaDoorBun1
import Derived.Deep.AppendLies
import Derived.Great.Walk
import Derived.Shelf.Bytes.SlSearch0
import Derived.Ground.SlbCloneProg
import Derived.Shelf.Bytes.SlClone
import Derived.Shelf.Bytes.SlEqualAll
import Derived.Shelf.Bytes.Small
import Derived.Test.YtdigpeipklfaeaaDoorProg
import Derived.WalkKit
import Derived.Deep.Cut
import Derived.IntWalk
import Derived.Deep.MidRow
/-
  Frames as plain functions: what is sealed is read again; a frame that is cut off is the beginning of one; a frame of which a byte was changed, but for its length, is none.
  There are no conditions beyond those that each lemma names.
-/
set_option linter.unusedSimpArgs false
set_option linter.unusedVariables false
namespace Go.Proofs.YtdigpeipklfaeaaDoor
open Go.RowKit
set_option maxRecDepth 100000

theorem put_1 (n : Nat) (h : n < 64) : Nu.put (n : Int) = [(2 * n).toUInt8] := by
  have hz : Nu.zz (n : Int) = 2 * n := by unfold Nu.zz; rw [if_neg (by omega)]; omega
  unfold Nu.put Nu.var; rw [hz]
  exact vr_end 10 (2 * n) (by omega) (by decide)
theorem put_2 (n : Nat) (h : 64 ≤ n) (h2 : n < 8192) : Nu.put (n : Int) = [(2 * n % 128 + 128).toUInt8, (2 * n / 128).toUInt8] := by
  have hz : Nu.zz (n : Int) = 2 * n := by unfold Nu.zz; rw [if_neg (by omega)]; omega
  unfold Nu.put Nu.var; rw [hz, vr_more 9 _ (by omega), vr_end 9 _ (by omega) (by decide)]
theorem get_hi (x : UInt8) (h : 128 ≤ x.toNat) : Nu.get [x] = (0, 0, 2) := by
  unfold Nu.get; simp only [Nu.getF]; rw [if_neg (by omega), if_neg (by omega)]
theorem fourB_len (n : Nat) : (fourB n).length = 4 := rfl
theorem fourB_inj {n m : Nat} (hn : n < 4294967296) (hm : m < 4294967296) (h : fourB n = fourB m) : n = m := by
  unfold fourB at h
  simp only [List.cons.injEq, and_true] at h
  obtain ⟨h1, h2, h3, h4⟩ := h
  have e := fun (a b : Nat) (h : (a % 256).toUInt8 = (b % 256).toUInt8) => by
    have := congrArg UInt8.toNat h
    rwa [Nu.u8n _ (Nat.mod_lt _ (by decide)), Nu.u8n _ (Nat.mod_lt _ (by decide))] at this
  have h1 := e _ _ h1; have h2 := e _ _ h2; have h3 := e _ _ h3; have h4 := e _ _ h4
  omega
theorem crcSum_lt (l : List UInt8) : crcSum l < 4294967296 := by unfold crcSum; omega
theorem put_len12 (n : Nat) (h : n ≤ 4000) : (Nu.put (n : Int)).length = if n < 64 then 1 else 2 := by
  by_cases h1 : n < 64
  · rw [put_1 n h1, if_pos h1]; rfl
  · rw [put_2 n (by omega) (by omega), if_neg h1]; rfl
/-- bytes that begin with a kind and a length -/
theorem openB_at (x : UInt8) (n : Nat) (r : List UInt8) (hx : x.toNat ≠ 0) (hn : n ≤ 4000) :
    openB (x :: (Nu.put (n : Int) ++ r)) = if r.length < 4 + n then (0, [], 0, 2)
      else if fourB (crcSum (x :: Nu.put (n : Int) ++ (r.drop 4).take n)) ≠ r.take 4 then (0, [], 0, 3)
      else (x.toNat, (r.drop 4).take n, 5 + (Nu.put (n : Int)).length + n, 0) := by
  have hg := Nu.get_put (n : Int) r (by omega) (by omega)
  obtain ⟨P, hP⟩ : ∃ P, Nu.put (n : Int) = P := ⟨_, rfl⟩
  rw [hP] at hg ⊢
  unfold openB
  simp only [List.length_cons, List.headD_cons, List.drop_succ_cons, List.drop_zero, hg]
  rw [if_neg (by omega), if_neg hx, if_neg (by omega), if_neg (by omega), if_neg (by omega)]
  by_cases hr : r.length < 4 + n
  · rw [if_pos hr, if_pos (by rw [List.length_append]; omega)]
  · rw [if_neg hr, if_neg (by rw [List.length_append]; omega)]
    have hd : (x :: (P ++ r)).drop (5 + P.length) = r.drop 4 := by
      rw [show 5 + P.length = (P.length + 4) + 1 by omega, List.drop_succ_cons, ← List.drop_drop, List.drop_left]
    rw [hd, Int.toNat_natCast]
    obtain ⟨b, hb⟩ : ∃ b, (r.drop 4).take n = b := ⟨_, rfl⟩
    have hbl : b.length = n := by rw [← hb, List.length_take, List.length_drop]; omega
    have ht : (x :: (P ++ r)).take (5 + P.length + n) = x :: P ++ (r.take 4 ++ b) := by
      rw [show 5 + P.length + n = (P.length + (4 + n)) + 1 by omega, List.take_succ_cons, List.take_append, List.take_of_length_le (by omega), show P.length + (4 + n) - P.length = 4 + n by omega, List.take_add, hb]
      rfl
    have hs : sealB (x.toNat : Int) b = x :: P ++ (fourB (crcSum (x :: P ++ b)) ++ b) := by
      have := x.toNat_lt
      unfold sealB headB
      rw [if_neg (by omega), hbl, hP]
      have hxx : ((x.toNat : Int)).toNat.toUInt8 = x := by
        rw [Int.toNat_natCast]; apply UInt8.toNat_inj.1; rw [Nu.u8n _ (by omega)]
      rw [hxx, List.append_assoc]
    rw [hb, ht, hs]
    by_cases hf : fourB (crcSum (x :: P ++ b)) = r.take 4
    · rw [if_neg (fun h => h (by rw [hf])), if_neg (fun h => h hf)]
    · rw [if_pos (fun e => hf (List.append_cancel_right (List.append_cancel_left e))), if_pos hf]
/-- a frame, told in its parts -/
theorem sealB_is (k : Int) (l : List UInt8) (h0 : 1 ≤ k) (h1 : k ≤ 255) (hl : l.length ≤ 4000) : sealB k l = k.toNat.toUInt8 :: (Nu.put ((l.length : Nat) : Int) ++ (fourB (crcSum (k.toNat.toUInt8 :: Nu.put ((l.length : Nat) : Int) ++ l)) ++ l)) := by
  unfold sealB headB
  rw [if_neg (by omega)]
  simp
theorem kind_back (k : Int) (h0 : 1 ≤ k) (h1 : k ≤ 255) : (k.toNat.toUInt8).toNat = k.toNat := Nu.u8n _ (by omega)
theorem sealB_len (k : Int) (l : List UInt8) (h0 : 1 ≤ k) (h1 : k ≤ 255) (hl : l.length ≤ 4000) : (sealB k l).length = 5 + (Nu.put ((l.length : Nat) : Int)).length + l.length := by
  rw [sealB_is k l h0 h1 hl]; simp only [List.length_cons, List.length_append, fourB_len]; omega
theorem sealB_no (k : Int) (l : List UInt8) (h : k < 1 ∨ 255 < k ∨ 4000 < l.length) : sealB k l = [] := by unfold sealB; rw [if_pos h]
theorem sealB_some {k : Int} {l : List UInt8} (h : 1 ≤ (sealB k l).length) : 1 ≤ k ∧ k ≤ 255 ∧ l.length ≤ 4000 := by
  by_cases hb : k < 1 ∨ 255 < k ∨ 4000 < l.length
  · rw [sealB_no k l hb] at h; simp at h
  · omega
theorem sealB_short (k : Int) (l : List UInt8) : (sealB k l).length ≤ 4007 := by
  by_cases h : k < 1 ∨ 255 < k ∨ 4000 < l.length
  · rw [sealB_no k l h]; simp
  · have := sealB_len k l (by omega) (by omega) (by omega)
    have h2 := put_len12 l.length (by omega)
    split at h2 <;> omega
theorem openB_seal (k : Int) (l r : List UInt8) (h0 : 1 ≤ k) (h1 : k ≤ 255) (hl : l.length ≤ 4000) : openB (sealB k l ++ r) = (k.toNat, l, (sealB k l).length, 0) := by
  have hk := kind_back k h0 h1
  rw [sealB_len k l h0 h1 hl, sealB_is k l h0 h1 hl, List.cons_append, List.append_assoc, openB_at _ l.length _ (by omega) hl]
  have hd : ((fourB (crcSum (k.toNat.toUInt8 :: Nu.put ((l.length : Nat) : Int) ++ l)) ++ l ++ r).drop 4).take l.length = l := by
    rw [List.append_assoc, List.drop_left' (fourB_len _), List.take_left' rfl]
  have ht : (fourB (crcSum (k.toNat.toUInt8 :: Nu.put ((l.length : Nat) : Int) ++ l)) ++ l ++ r).take 4 = fourB (crcSum (k.toNat.toUInt8 :: Nu.put ((l.length : Nat) : Int) ++ l)) := by
    rw [List.append_assoc, List.take_left' (fourB_len _)]
  rw [hd, ht, if_neg (by simp only [List.length_append, fourB_len]; omega), if_neg (by simp), hk]
theorem openB_cut (k : Int) (l : List UInt8) (m : Nat) (h0 : 1 ≤ k) (h1 : k ≤ 255) (hl : l.length ≤ 4000) (hm : m < (sealB k l).length) : openB ((sealB k l).take m) = (0, [], 0, 2) := by
  have hk := kind_back k h0 h1
  have hlen := sealB_len k l h0 h1 hl
  rw [hlen] at hm
  have h12 := put_len12 l.length hl
  rw [sealB_is k l h0 h1 hl]
  obtain ⟨R, hR⟩ : ∃ R, fourB (crcSum (k.toNat.toUInt8 :: Nu.put ((l.length : Nat) : Int) ++ l)) ++ l = R := ⟨_, rfl⟩
  have hRl : R.length = 4 + l.length := by rw [← hR, List.length_append, fourB_len]
  rw [hR]
  cases m with
  | zero => rfl
  | succ m =>
    rw [List.take_succ_cons]
    by_cases hP : (Nu.put ((l.length : Nat) : Int)).length ≤ m
    · rw [List.take_append, List.take_of_length_le hP, openB_at _ l.length _ (by omega) hl, if_pos]
      rw [List.length_take]; omega
    · rw [List.take_append_of_le_length (by omega)]
      have hone : ∀ y : List UInt8, Nu.get y = (0, 0, 2) → y.length ≤ 1 → openB (k.toNat.toUInt8 :: y) = (0, [], 0, 2) := fun y hy hyl => by
        unfold openB
        simp only [List.length_cons, List.headD_cons, List.drop_succ_cons, List.drop_zero, hy]
        rw [if_neg (by omega), if_neg (by omega), if_neg (by omega), if_pos trivial]
      cases m with
      | zero => exact hone [] rfl (by simp)
      | succ m =>
        by_cases h6 : l.length < 64
        · rw [if_pos h6] at h12; omega
        · rw [if_neg h6] at h12
          have h8 : m = 0 := by omega
          subst h8
          rw [put_2 _ (by omega) (by omega)]
          simp only [List.take_succ_cons, List.take_zero]
          exact hone _ (get_hi _ (by rw [Nu.u8n _ (by omega)]; omega)) (by simp)
/-- what openB tells of a good frame -/
theorem openB_good {l b : List UInt8} {k n : Nat} (h : openB l = (k, b, n, 0)) : 6 ≤ n ∧ n ≤ l.length ∧ b.length ≤ 4000 ∧ b.length + 6 ≤ l.length ∧ 1 ≤ k ∧ k ≤ 255 := by
  unfold openB at h
  by_cases h1 : l.length = 0
  · rw [if_pos h1] at h; simp at h
  rw [if_neg h1] at h
  by_cases h2 : (l.headD 0).toNat = 0
  · rw [if_pos h2] at h; simp at h
  rw [if_neg h2] at h
  by_cases h3 : (Nu.get (l.drop 1)).2.2 = 2 ∧ 2 < l.length
  · rw [if_pos h3] at h; simp at h
  rw [if_neg h3] at h
  by_cases h4 : (Nu.get (l.drop 1)).2.2 = 2
  · rw [if_pos h4] at h; simp at h
  rw [if_neg h4] at h
  by_cases h5 : (Nu.get (l.drop 1)).2.2 ≠ 0 ∨ (Nu.get (l.drop 1)).1 < 0 ∨ 4000 < (Nu.get (l.drop 1)).1
  · rw [if_pos h5] at h; simp at h
  rw [if_neg h5] at h
  by_cases h6 : (l.length : Int) < 5 + (Nu.get (l.drop 1)).2.1 + (Nu.get (l.drop 1)).1
  · rw [if_pos h6] at h; simp at h
  rw [if_neg h6] at h
  split at h
  · simp at h
  · have hp := Nu.get_pos (l.drop 1) (by omega)
    have hx := (l.headD 0).toNat_lt
    simp only [Prod.mk.injEq, and_true] at h
    obtain ⟨rfl, rfl, rfl⟩ := h
    have : ((l.drop (5 + (Nu.get (l.drop 1)).2.1)).take (Nu.get (l.drop 1)).1.toNat).length ≤ (Nu.get (l.drop 1)).1.toNat := by rw [List.length_take]; omega
    omega
theorem openB_err (l : List UInt8) : (openB l).2.2.2 = 0 ∨ (∃ e, openB l = (0, [], 0, e) ∧ (e = 2 ∨ e = 3)) := by
  unfold openB
  repeat' split
  all_goals first | exact .inl rfl | exact .inr ⟨_, rfl, .inl rfl⟩ | exact .inr ⟨_, rfl, .inr rfl⟩

/-! ### a byte that is another one makes another sum -/
theorem crcBit_inj {c d : Nat} (hc : c < 4294967296) (hd : d < 4294967296) (h : crcBit c = crcBit d) : c = d := by
  rw [crcBit_m, crcBit_m] at h
  have key : ∀ a, a < 4294967296 → ((a / 2 ^^^ crcM (a % 2)).testBit 31 = decide (a % 2 = 1)) := fun a ha => by
    rw [Nat.testBit_xor, Nat.testBit_lt_two_pow (x := a / 2) (i := 31) (by omega)]
    unfold crcM
    split
    · rename_i h; simp [h]; decide
    · rename_i h; simp [h]
  have e1 := key c hc
  rw [h, key d hd] at e1
  have e2 : c % 2 = d % 2 := by
    rcases Nat.mod_two_eq_zero_or_one c with h1 | h1 <;> rcases Nat.mod_two_eq_zero_or_one d with h2 | h2 <;> simp [h1, h2] at e1 ⊢
  rw [e2] at h
  have e3 : c / 2 = d / 2 := by
    have := congrArg (· ^^^ crcM (d % 2)) h
    simpa [Nat.xor_assoc, Nat.xor_self] using this
  omega
theorem crcBits_inj : ∀ (k : Nat) {c d : Nat}, c < 4294967296 → d < 4294967296 → crcBits k c = crcBits k d → c = d
  | 0, _, _, _, _, h => h
  | k + 1, _, _, hc, hd, h => crcBit_inj hc hd (crcBits_inj k (crcBit_lt _ hc) (crcBit_lt _ hd) h)
theorem xor_left {a b c : Nat} (h : a ^^^ b = a ^^^ c) : b = c := by
  have := congrArg (a ^^^ ·) h
  simpa [← Nat.xor_assoc, Nat.xor_self] using this
theorem xor_right {a b c : Nat} (h : a ^^^ c = b ^^^ c) : a = b := by
  have := congrArg (· ^^^ c) h
  simpa [Nat.xor_assoc, Nat.xor_self] using this
theorem crcL_inj : ∀ (l : List UInt8) {c d : Nat}, c < 4294967296 → d < 4294967296 → crcL c l = crcL d l → c = d
  | [], _, _, _, _, h => h
  | b :: t, c, d, hc, hd, h => xor_right (c := b.toNat) (crcBits_inj 8 (crcX_lt c b hc) (crcX_lt d b hd) (crcL_inj t (crcBits_lt 8 _ (crcX_lt c b hc)) (crcBits_lt 8 _ (crcX_lt d b hd)) h))
theorem crcSum_one {a b : List UInt8} {x y : UInt8} (h : crcSum (a ++ x :: b) = crcSum (a ++ y :: b)) : x = y := by
  have h1 := crcL_lt (a ++ x :: b) 4294967295 (by omega)
  have h2 := crcL_lt (a ++ y :: b) 4294967295 (by omega)
  unfold crcSum at h
  have h3 : crcL 4294967295 (a ++ x :: b) = crcL 4294967295 (a ++ y :: b) := by omega
  rw [crcL_append, crcL_append] at h3
  have ha := crcL_lt a 4294967295 (by omega)
  have h4 := crcL_inj b (crcBits_lt 8 _ (crcX_lt _ x ha)) (crcBits_lt 8 _ (crcX_lt _ y ha)) h3
  exact UInt8.toNat_inj.1 (xor_left (crcBits_inj 8 (crcX_lt _ x ha) (crcX_lt _ y ha) h4))
theorem crcSum_set {a l b : List UInt8} {j : Nat} (hj : j < l.length) {y : UInt8} (h : crcSum (a ++ l.set j y ++ b) = crcSum (a ++ l ++ b)) : y = l[j] := by
  have e1 : a ++ l.set j y ++ b = (a ++ l.take j) ++ y :: (l.drop (j + 1) ++ b) := by rw [List.set_eq_take_append_cons_drop, if_pos hj]; simp
  have e2 : a ++ l ++ b = (a ++ l.take j) ++ l[j] :: (l.drop (j + 1) ++ b) := by
    calc a ++ l ++ b = a ++ (l.take j ++ l.drop j) ++ b := by rw [List.take_append_drop]
      _ = _ := by rw [List.drop_eq_getElem_cons hj]; simp only [List.append_assoc, List.cons_append]
  rw [e1, e2] at h
  exact crcSum_one h
/-- a frame of which one byte was changed, but for its length, is none -/
theorem openB_spoilt (k : Int) (l : List UInt8) (j : Nat) (y : UInt8) (h0 : 1 ≤ k) (h1 : k ≤ 255) (hl : l.length ≤ 4000) (hj : j < (sealB k l).length) (hj1 : j ≠ 1) (hj2 : j ≠ 2) (hy : y ≠ (sealB k l)[j]) : openB ((sealB k l).set j y) = (0, [], 0, 3) := by
  have hk := kind_back k h0 h1
  have hlen := sealB_len k l h0 h1 hl
  have h12 := put_len12 l.length hl
  have hs := sealB_is k l h0 h1 hl
  obtain ⟨P, hP⟩ : ∃ P, Nu.put ((l.length : Nat) : Int) = P := ⟨_, rfl⟩
  obtain ⟨x, hx⟩ : ∃ x, k.toNat.toUInt8 = x := ⟨_, rfl⟩
  rw [hP] at hs h12 hlen
  rw [hx] at hs hk
  obtain ⟨n, hn⟩ : ∃ n, crcSum (x :: P ++ l) = n := ⟨_, rfl⟩
  rw [hn] at hs
  obtain ⟨s, hss⟩ : ∃ s, sealB k l = s := ⟨_, rfl⟩
  rw [hss] at hs hlen
  simp only [hss] at hj hy ⊢
  have hgo : ∀ (z : UInt8) (r : List UInt8), openB (z :: (P ++ r)) = if z.toNat = 0 then (0, [], 0, 3) else if r.length < 4 + l.length then (0, [], 0, 2)
      else if fourB (crcSum (z :: P ++ (r.drop 4).take l.length)) ≠ r.take 4 then (0, [], 0, 3)
      else (z.toNat, (r.drop 4).take l.length, 5 + P.length + l.length, 0) := fun z r => by
    by_cases hz : z.toNat = 0
    · rw [if_pos hz]; unfold openB; rw [if_neg (by simp), if_pos (show ((z :: (P ++ r)).headD 0).toNat = 0 from hz)]
    · rw [if_neg hz, ← hP]; exact openB_at z l.length r hz hl
  have hPl : 1 ≤ P.length ∧ P.length ≤ 2 := by split at h12 <;> omega
  by_cases hj0 : j = 0
  · subst hj0
    simp only [hs, List.set_cons_zero, List.getElem_cons_zero] at hy ⊢
    rw [hgo]
    by_cases hz : y.toNat = 0
    · rw [if_pos hz]
    · rw [if_neg hz, if_neg (by rw [List.length_append, fourB_len]; omega), List.drop_left' (fourB_len _), List.take_left' (fourB_len _), List.take_of_length_le (Nat.le_refl _), if_pos]
      intro e
      have e2 := fourB_inj (crcSum_lt _) (by rw [← hn]; exact crcSum_lt _) e
      rw [← hn] at e2
      exact hy (crcSum_one (a := []) e2)
  · obtain ⟨j', rfl⟩ : ∃ j', j = 1 + P.length + j' := ⟨j - 1 - P.length, by
      by_cases h6 : P.length = 1 <;> omega⟩
    have hset : s.set (1 + P.length + j') y = x :: (P ++ (fourB n ++ l).set j' y) := by
      rw [hs, show 1 + P.length + j' = (P.length + j') + 1 by omega, List.set_cons_succ, List.set_append_right _ _ (by omega), show P.length + j' - P.length = j' by omega]
    have hyj : y ≠ (fourB n ++ l)[j']'(by rw [List.length_append, fourB_len]; omega) := by
      intro e
      apply hy
      rw [e]
      have : s[1 + P.length + j']? = (fourB n ++ l)[j']? := by
        rw [hs, show 1 + P.length + j' = (P.length + j') + 1 by omega, List.getElem?_cons_succ, List.getElem?_append_right (by omega), show P.length + j' - P.length = j' by omega]
      rw [List.getElem?_eq_getElem hj, List.getElem?_eq_getElem (by rw [List.length_append, fourB_len]; omega)] at this
      exact (Option.some.inj this).symm
    rw [hset, hgo, if_neg (by omega), if_neg (by rw [List.length_set, List.length_append, fourB_len]; omega), if_pos]
    intro e
    by_cases hj4 : j' < 4
    · have e3 : (fourB n ++ l).set j' y = (fourB n).set j' y ++ l := List.set_append_left _ _ (by rw [fourB_len]; exact hj4)
      rw [e3, List.drop_left' (by rw [List.length_set, fourB_len]), List.take_left' (by rw [List.length_set, fourB_len]), List.take_of_length_le (Nat.le_refl _), hn] at e
      apply hyj
      have e4 : (fourB n)[j']? = ((fourB n).set j' y)[j']? := congrArg (·[j']?) e
      rw [List.getElem?_set_self (by rw [fourB_len]; exact hj4)] at e4
      rw [List.getElem_append_left (by rw [fourB_len]; exact hj4)]
      rw [List.getElem?_eq_getElem (by rw [fourB_len]; exact hj4)] at e4
      exact (Option.some.inj e4).symm
    · have e3 : (fourB n ++ l).set j' y = fourB n ++ l.set (j' - 4) y := by rw [List.set_append_right _ _ (by rw [fourB_len]; omega), fourB_len]
      rw [e3, List.drop_left' (fourB_len _), List.take_left' (fourB_len _), List.take_of_length_le (by rw [List.length_set]; exact Nat.le_refl _)] at e
      have e4 := fourB_inj (crcSum_lt _) (by rw [← hn]; exact crcSum_lt _) e
      rw [← hn] at e4
      apply hyj
      rw [List.getElem_append_right (by rw [fourB_len]; omega)]
      exact crcSum_set (a := x :: P) (b := []) (j := j' - 4) (by omega) (by simpa using e4)
end Go.Proofs.YtdigpeipklfaeaaDoor
/-
  Package crc's More and Sum reckon sums as the plain function does.
  The bytes are there in memory, and the package's table as it was laid.
-/
set_option linter.unusedSimpArgs false
set_option linter.unusedVariables false
namespace Go.Proofs.YtdigpeipklfaeaaDoor
open Go.RowKit
set_option maxRecDepth 100000

set_option maxHeartbeats 2000000 in
theorem cmore_any (A : Option Addr) (c B s : Nat) (l : List UInt8) (w : World) (h : Byt w B (.slice A l.length c) l) (hT : Tbl w) (hs : s < 4294967296) (hl : l.length ≤ 1000000) : Calls Tryd.prog 72 #[.int .u32 s, .slice A l.length c] w (Num32 (crcMore s l) w) := by
  obtain ⟨A', c', hv, hc, hcell⟩ := h
  injection hv with e1 _ e2; subst e1; subst e2
  have HC := Lib.hid hcell; clear hcell
  have HT := Lib.hid hT; clear hT
  have hn0 := u32_not s hs
  obtain ⟨s0, hs0⟩ : ∃ s0, 4294967295 - s = s0 := ⟨_, rfl⟩
  have hmore : crcMore s l = 4294967295 - crcL s0 l := by rw [← hs0]; rfl
  have hs1 : s0 < 4294967296 := by omega
  rw [hs0] at hn0
  have HM := Lib.hid hmore
  clear hmore hs0
  go_enter Tryd.func72, Tryd.ntmps72
  go_wp2
  have HN := Lib.hid hn0; clear hn0
  go_loop [5, 12] (fun v i => ∃ cn k : Nat, v = .int .u32 cn ∧ i = .int .i64 k ∧ k ≤ l.length ∧ cn < 4294967296 ∧ crcL cn (l.drop k) = crcL s0 l) (fun _ i => l.length - (intOf i).toNat)
  case atStart => exact ⟨s0, 0, rfl, rfl, by omega, hs1, rfl⟩
  case round =>
    obtain ⟨cn, k, rfl, rfl, hk, hcn, hcr⟩ := hrel
    have HCR := Lib.hid hcr; clear hcr
    by_cases hlt : k < l.length
    · obtain ⟨g, o, rfl, hg, hcs⟩ := HC.out (by omega)
      have hc1 := hcs k hlt
      obtain ⟨x, hx⟩ : ∃ x, l[k] = x := ⟨_, rfl⟩
      rw [hx] at hc1
      have hb := x.toNat_lt
      have hst : crcL cn (l.drop k) = crcL (crcBits 8 (cn ^^^ x.toNat)) (l.drop (k + 1)) := by rw [List.drop_eq_getElem_cons hlt, hx]; rfl
      have hxl := crcX_lt cn x hcn
      have hbx : bits BinOp.xor IntKind.u32 (cn : Int) (x.toNat : Int) = ((cn ^^^ x.toNat : Nat) : Int) := u32_xor_nat _ _ hcn (by omega)
      obtain ⟨m, hm⟩ : ∃ m, cn ^^^ x.toNat = m := ⟨_, rfl⟩
      rw [hm] at hst hxl hbx
      obtain ⟨q, hq⟩ : ∃ q, m % 16 = q := ⟨_, rfl⟩
      have hq16 : q < 16 := by omega
      obtain ⟨tq, htq⟩ : ∃ tq, crcTab.getD q 0 = tq := ⟨_, rfl⟩
      have htl : tq < 4294967296 := by rw [← htq]; exact crcTab_lt q hq16
      have hand : bits BinOp.and IntKind.u32 (m : Int) 15 = (q : Int) := by
        have := u32_and_nat m 15 hxl (by omega)
        rw [show (15 : Nat) = 2 ^ 4 - 1 from rfl, Nat.and_two_pow_sub_one_eq_mod, show (2 : Nat) ^ 4 = 16 from rfl, hq] at this
        exact this
      have hcq := HT.out q hq16
      rw [htq] at hcq
      have hb4 : crcBits 4 m = m / 16 ^^^ tq := by rw [crcBits_at m q hq, htq]
      have hx4 : bits BinOp.xor IntKind.u32 ((m : Int) / 16) (tq : Int) = ((m / 16 ^^^ tq : Nat) : Int) := by
        have := u32_xor_nat (m / 16) tq (by omega) htl
        rw [← this]; congr 1
      obtain ⟨n, hn⟩ : ∃ n, m / 16 ^^^ tq = n := ⟨_, rfl⟩
      rw [hn] at hb4 hx4
      have hnl : n < 4294967296 := by rw [← hn]; exact Nat.xor_lt_two_pow (n := 32) (by omega) (by omega)
      obtain ⟨r, hr⟩ : ∃ r, n % 16 = r := ⟨_, rfl⟩
      have hr16 : r < 16 := by omega
      obtain ⟨tr, htr⟩ : ∃ tr, crcTab.getD r 0 = tr := ⟨_, rfl⟩
      have htrl : tr < 4294967296 := by rw [← htr]; exact crcTab_lt r hr16
      have hand2 : bits BinOp.and IntKind.u32 (n : Int) 15 = (r : Int) := by
        have := u32_and_nat n 15 hnl (by omega)
        rw [show (15 : Nat) = 2 ^ 4 - 1 from rfl, Nat.and_two_pow_sub_one_eq_mod, show (2 : Nat) ^ 4 = 16 from rfl, hr] at this
        exact this
      have hcr := HT.out r hr16
      rw [htr] at hcr
      have hb5 : crcBits 4 n = n / 16 ^^^ tr := by rw [crcBits_at n r hr, htr]
      have hx5 : bits BinOp.xor IntKind.u32 ((n : Int) / 16) (tr : Int) = ((n / 16 ^^^ tr : Nat) : Int) := by
        have := u32_xor_nat (n / 16) tr (by omega) htrl
        rw [← this]; congr 1
      obtain ⟨p, hp⟩ : ∃ p, n / 16 ^^^ tr = p := ⟨_, rfl⟩
      rw [hp] at hb5 hx5
      have hpl : p < 4294967296 := by rw [← hp]; exact Nat.xor_lt_two_pow (n := 32) (by omega) (by omega)
      have hst2 : crcL cn (l.drop k) = crcL p (l.drop (k + 1)) := by rw [hst, crcBits_8, hb4, hb5]
      have HST := Lib.hid hst2
      clear hcs HC HT hx hst hst2 hm hq htq hb4 hn hr htr hb5 hp
      go_wp2
      go_round
      case rel => exact ⟨p, k + 1, rfl, by go_num, by omega, hpl, by rw [← HST.out]; exact HCR.out⟩
      case measure => simp [intOf]; omega
    · have hend : crcL s0 l = cn := by rw [← HCR.out, List.drop_of_length_le (by omega)]; rfl
      have hnot := u32_not cn hcn
      have HE := Lib.hid hend; clear hend
      go_wp2
      go_ret
      exact ⟨by rw [HM.out, HE.out]; rfl, rfl⟩
theorem csum_any (A : Option Addr) (c B : Nat) (l : List UInt8) (w : World) (h : Byt w B (.slice A l.length c) l) (hT : Tbl w) (hl : l.length ≤ 1000000) : Calls Tryd.prog 73 #[.slice A l.length c] w (Num32 (crcSum l) w) := by
  go_enter Tryd.func73, Tryd.ntmps73
  go_wp2_with fail
  refine (cmore_any A c B 0 l w h hT (by omega) hl).mono ?_
  rintro e w1 ⟨rfl, rfl⟩
  go_wp2
  go_ret
  exact ⟨by rw [crcMore_zero]; rfl, rfl⟩
end Go.Proofs.YtdigpeipklfaeaaDoor
/-
  Package num's Put writes the bytes that come in, and a number behind them, in new memory.
  The bytes are there in memory; they are shorter than the model's bound on what append makes.
-/
set_option linter.unusedSimpArgs false
set_option linter.unusedVariables false
namespace Go.Proofs.YtdigpeipklfaeaaDoor
open Go.RowKit
set_option maxRecDepth 100000

set_option maxRecDepth 100000 in
set_option maxHeartbeats 4000000 in
theorem nput_any (u : Value) (B : Nat) (l : List UInt8) (n : Int) (w : World) (h : Byt w B u l) (hl : l.length ≤ 35184372088832) (hB : B ≤ w.heap.size) (h0 : -9223372036854775808 ≤ n) (h1 : n ≤ 9223372036854775807) :
    Calls Tryd.prog 54 #[u, .int .i64 n] w (Made (l ++ Nu.put n) w) := by
  have hA : l.length + 10 ≤ 140737488355328 := by omega
  have hA2 : l.length ≤ 70368744177664 := by omega
  go_enter Tryd.func54, Tryd.ntmps54
  go_wp2_with (go_at_call 70; refine (ncopyOf_any u B 10 l w h hA hB).mono ?_; rintro e w1 ⟨v1, rfl, hown1, hb1⟩)
  go_wp2_with (go_at_call 69; refine (nadd_any v1 w.heap.size l n w1 hown1 hb1.size hA2 h0 h1).mono ?_; rintro e w2 ⟨v2, rfl, hown2, hb2⟩)
  have hb := hb1.trans hb2
  clear hb1 hb2 hown1
  go_wp2
  go_ret
  exact ⟨v2, rfl, hown2, hb⟩
end Go.Proofs.YtdigpeipklfaeaaDoor
/-
  Package num's Four writes a number's four bytes, the highest first, in new memory.
  There are no conditions beyond the number's range.
-/
set_option linter.unusedSimpArgs false
set_option linter.unusedVariables false
namespace Go.Proofs.YtdigpeipklfaeaaDoor
open Go.RowKit
set_option maxRecDepth 100000

def four (n : Nat) : List UInt8 := [(n / 16777216 % 256).toUInt8, (n / 65536 % 256).toUInt8, (n / 256 % 256).toUInt8, (n % 256).toUInt8]
set_option maxRecDepth 100000 in
set_option maxHeartbeats 4000000 in
theorem nfour_any (n : Nat) (w : World) (h : n < 4294967296) : Calls Tryd.prog 71 #[.int .u32 n] w (Made (four n) w) := by
  go_enter Tryd.func71, Tryd.ntmps71
  go_wp2
  go_ret
  refine ⟨_, rfl, own_new w _ (four n) ?_ (by simp [four]), below_new w _⟩
  unfold four Lib.byteCells
  simp only [List.map]
  rw [Nu.u8n _ (Nat.mod_lt _ (by decide)), Nu.u8n _ (Nat.mod_lt _ (by decide)), Nu.u8n _ (Nat.mod_lt _ (by decide)), Nu.u8n _ (Nat.mod_lt _ (by decide))]
  have e1 : ((n / 16777216 % 256 : Nat) : Int) = (n : Int) / 16777216 := by omega
  rw [e1]
  rfl
end Go.Proofs.YtdigpeipklfaeaaDoor
/-
  Package frame's Seal makes a frame as the plain function says, in new memory.
  The bytes are there in memory, at most 1,000,000; package crc's table lies as it was laid.
-/
set_option linter.unusedSimpArgs false
set_option linter.unusedVariables false
namespace Go.Proofs.YtdigpeipklfaeaaDoor
open Go.RowKit
set_option maxRecDepth 100000

theorem tbl_keep {w w' : World} (h : Tbl w) (hb : Below w.heap.size w w') : Tbl w' := fun k hk =>
  (hb.cell (p := ⟨0, k, none⟩) (cell_lt (h k hk))).trans (h k hk)
theorem byt_slice {w : World} {B : Nat} {v : Value} {l : List UInt8} (h : Byt w B v l) : ∃ A c, v = .slice A l.length c := by obtain ⟨A, c, hv, _⟩ := h; exact ⟨A, c, hv⟩
theorem fsum_any (u v : Value) (B C : Nat) (h l : List UInt8) (n : Nat) (w : World) (hu : Byt w B u h) (hv : Byt w C v l) (hT : Tbl w) (hh : h.length ≤ 1000000) (hl : l.length ≤ 1000000) (hn : crcSum (h ++ l) = n) :
    Calls Tryd.prog 55 #[u, v] w (Made (fourB n) w) := by
  obtain ⟨A1, c1, rfl⟩ := byt_slice hu
  obtain ⟨A2, c2, rfl⟩ := byt_slice hv
  have hlt := crcSum_lt h
  have hlt2 : n < 4294967296 := by rw [← hn]; exact crcSum_lt _
  have hm : crcMore (crcSum h) l = n := by rw [crcMore_append]; exact hn
  obtain ⟨s, hs⟩ : ∃ s, crcSum h = s := ⟨_, rfl⟩
  have HS := Lib.hid hs
  rw [hs] at hm hlt
  have HM := Lib.hid hm
  clear hs hm hn
  go_enter Tryd.func55, Tryd.ntmps55
  go_wp2_with fail
  refine (csum_any A1 c1 B h w hu hT hh).mono ?_
  rintro e w1 ⟨rfl, rfl⟩
  rw [HS.out]
  go_wp2_with fail
  refine (cmore_any A2 c2 C s l w hv hT hlt hl).mono ?_
  rintro e w1 ⟨rfl, rfl⟩
  rw [HM.out]
  go_wp2_with fail
  refine (nfour_any n w hlt2).mono ?_
  rintro e w1 ⟨v1, rfl, ho, hb⟩
  go_wp2
  go_ret
  exact ⟨v1, rfl, ho, hb⟩
set_option maxHeartbeats 1000000 in
theorem fseal_any (kind : Int) (u : Value) (B : Nat) (l : List UInt8) (w : World) (h : Byt w B u l) (hB : B ≤ w.heap.size) (hl : l.length ≤ 1000000) (hT : Tbl w) :
    Calls Tryd.prog 31 #[.int .i64 kind, u] w (Made (sealB kind l) w) := by
  obtain ⟨A, c, rfl⟩ := byt_slice h
  have HB := Lib.hid h; clear h
  have HT := Lib.hid hT; clear hT
  by_cases hbad : kind < 1 ∨ 255 < kind ∨ 4000 < l.length
  · have HF := Lib.hid (sealB_no kind l hbad)
    have hcs : kind < 1 ∨ (1 ≤ kind ∧ 255 < kind) ∨ (1 ≤ kind ∧ kind ≤ 255 ∧ 4000 < (l.length : Int)) := by omega
    clear hbad
    rcases hcs with h1 | ⟨h1, h2⟩ | ⟨h1, h2, h3⟩
    all_goals
      go_enter Tryd.func31, Tryd.ntmps31
      go_wp2
      go_ret
      exact ⟨_, rfl, by rw [HF.out]; exact ownB_nil _ _, Below.refl _ _⟩
  · have g1 : 1 ≤ kind := by omega
    have g2 : kind ≤ 255 := by omega
    have g3 : (l.length : Int) ≤ 4000 := by omega
    have hf := sealB_is kind l g1 g2 (by omega)
    obtain ⟨P, hP⟩ : ∃ P, Nu.put ((l.length : Nat) : Int) = P := ⟨_, rfl⟩
    have hPl : P.length ≤ 10 := by rw [← hP]; exact Nu.put_len _
    obtain ⟨x, hx⟩ : ∃ x, kind.toNat.toUInt8 = x := ⟨_, rfl⟩
    have hkx : kind = (x.toNat : Int) := by rw [← hx, Nu.u8n _ (by omega)]; omega
    rw [hx, hP] at hf
    obtain ⟨n, hn⟩ : ∃ n, crcSum (x :: P ++ l) = n := ⟨_, rfl⟩
    rw [hn] at hf
    have HF := Lib.hid hf; have HN := Lib.hid hn; have HP := Lib.hid hP
    have hwk : IntKind.u8.wrap kind = kind := by rw [IntKind.wrap_u8]; omega
    have l0 : -9223372036854775808 ≤ (l.length : Int) := by omega
    have l1 : (l.length : Int) ≤ 9223372036854775807 := by omega
    clear hbad hf hn hP hx
    go_enter Tryd.func31, Tryd.ntmps31
    have hbyk := byt_new1 w 5 (x.toNat : Int) x rfl
    have hbk : Below w.heap.size w (w.alloc (Obj.cells #[.int .u8 (x.toNat : Int)] 5)) := below_new w _
    have hzk : (w.alloc (Obj.cells #[.int .u8 (x.toNat : Int)] 5)).heap.size = w.heap.size + 1 := by simp
    go_wp2_with fail
    refine (nput_any _ _ [x] _ _ hbyk (by simp) (by omega) l0 l1).mono ?_
    rintro e w1 ⟨v1, rfl, ho1, hb1⟩
    rw [hzk] at ho1 hb1
    rw [HP.out] at ho1
    have hown1 : OwnB w.heap.size v1 (x :: P) w1 := ho1.down (Nat.le_succ _)
    have hbw1 := hbk.trans (hb1.mono (Nat.le_succ _))
    have hT1 := tbl_keep HT.out hbw1
    clear ho1 hb1 hbk hzk hbyk
    go_wp2_with fail
    refine (fsum_any _ _ _ _ (x :: P) l n _ (Byt.of_own hown1) (HB.out.below hbw1 hB) hT1 (by simp; omega) hl HN.out).mono ?_
    rintro e w2 ⟨v2, rfl, ho2, hb2⟩
    have hown2 := hown1.below hb2
    have hbw2 := hbw1.trans (hb2.mono hbw1.size)
    have hby2 := Byt.of_own ho2
    clear ho2 hb2 hown1 hbw1 hT1
    go_wp2_with (at_builtin; refine wpList_append_byt_at rfl _ _ rfl w.heap.size _ _ _ _ _ rfl hown2 rfl hby2 ?x1 hbw2.size ?_)
    case x1 => first | omega | (simp [fourB_len]; omega)
    intro v3 w3 hown3 hb3 _
    have hbw3 := hbw2.trans hb3
    have hbu3 := HB.out.below hbw3 hB
    clear hown2 hby2 hb3 hbw2
    go_wp2_with (at_builtin; refine wpList_append_byt_at rfl _ _ rfl w.heap.size _ _ _ _ _ rfl hown3 rfl hbu3 ?x2 hbw3.size ?_)
    case x2 => first | omega | (simp [fourB_len]; omega)
    intro v4 w4 hown4 hb4 _
    have hbw4 := hbw3.trans hb4
    clear hown3 hbu3 hb4
    go_wp2
    go_ret
    refine ⟨v4, rfl, ?_, hbw4⟩
    rw [HF.out]
    simpa using hown4
theorem fseal_is (kind : Int) (u : Value) (B : Nat) (l m : List UInt8) (w : World) (h : Byt w B u l) (hB : B ≤ w.heap.size) (hl : l.length ≤ 1000000) (hT : Tbl w) (hm : sealB kind l = m) : Calls Tryd.prog 31 #[.int .i64 kind, u] w (Made m w) := by
  rw [← hm]; exact fseal_any kind u B l w h hB hl hT
end Go.Proofs.YtdigpeipklfaeaaDoor
/-
  Package num's Get reads a number as the plain function says, whatever the bytes.
  The bytes are there in memory, at most as many as the model lets a slice have.
-/
set_option linter.unusedSimpArgs false
set_option linter.unusedVariables false
namespace Go.Proofs.YtdigpeipklfaeaaDoor
open Go.RowKit
set_option maxRecDepth 100000

set_option maxRecDepth 100000 in
theorem u8_low7 (x : UInt8) : bits BinOp.andNot IntKind.u8 (x.toNat : Int) 128 = ((x.toNat % 128 : Nat) : Int) := by
  have hb := x.toNat_lt
  rw [show (128 : Int) = ((128 : Nat) : Int) from rfl, u8_andNot_nat _ _ (by omega) (by omega), nat_mask7]
theorem pow7 (k : Nat) : (2 : Int) ^ (7 * k) = ((128 ^ k : Nat) : Int) := by
  rw [Int.pow_mul, Int.natCast_pow]; rfl
theorem get_facts (x : UInt8) (k un : Nat) (hk : k ≤ 9) (h9 : k = 9 → x.toNat ≤ 1) (hun : un < 128 ^ k) :
    ∃ N m d : Nat, N = un + x.toNat % 128 * 128 ^ k ∧ N < 18446744073709551616 ∧ N < 128 ^ (k + 1) ∧ bits BinOp.andNot IntKind.u8 (x.toNat : Int) 128 = (d : Int) ∧ IntKind.u64.wrap (d : Int) = (d : Int) ∧ IntKind.u64.wrap ((d : Int) * 2 ^ (7 * k)) = (m : Int) ∧ bits BinOp.or IntKind.u64 (un : Int) (m : Int) = (N : Int) := by
  have hb := x.toNat_lt
  have hw : ∀ z : Nat, z < 18446744073709551616 → IntKind.u64.wrap (z : Int) = (z : Int) := fun z hz => by rw [IntKind.wrap_u64]; omega
  have hx : x.toNat % 128 < 128 := Nat.mod_lt _ (by decide)
  have h8 : (128 : Nat) ^ 8 = 72057594037927936 := by decide
  have h99 : (128 : Nat) ^ 9 = 9223372036854775808 := by decide
  have hN : un + x.toNat % 128 * 128 ^ k < 18446744073709551616 := by
    by_cases hk9 : k = 9
    · have := h9 hk9
      subst hk9
      rw [h99] at hun ⊢
      have : x.toNat % 128 ≤ 1 := by omega
      have := Nat.mul_le_mul_right 9223372036854775808 this
      omega
    · have h1 : (128 : Nat) ^ k ≤ 128 ^ 8 := Nat.pow_le_pow_right (by decide) (by omega)
      have h2 : x.toNat % 128 * 128 ^ k ≤ 127 * 128 ^ k := Nat.mul_le_mul_right _ (by omega)
      omega
  have hN2 : un + x.toNat % 128 * 128 ^ k < 128 ^ (k + 1) := by
    have h2 : x.toNat % 128 * 128 ^ k ≤ 127 * 128 ^ k := Nat.mul_le_mul_right _ (by omega)
    rw [Nat.pow_succ]; omega
  refine ⟨_, x.toNat % 128 * 128 ^ k, x.toNat % 128, rfl, hN, hN2, u8_low7 x, hw _ (by omega), ?_, ?_⟩
  · rw [pow7, ← Int.natCast_mul]; exact hw _ (by omega)
  · rw [u64_or_nat _ _ (by omega) (by omega), Nat.or_comm, nat_join (7 * k) _ un ?_ ?_]
    · rw [Nat.add_comm]
    · rw [Nat.pow_mul]; exact Nat.mul_mod_left _ _
    · rw [Nat.pow_mul]; exact hun
theorem nstep (l : List UInt8) (i u : Nat) (x : UInt8) (h : Nu.getF i u (128 ^ i) (l.drop i) = Nu.get l) (hi : i < l.length) (hx : l[i] = x) :
    Nu.get l = if (i = 9 ∧ 1 < x.toNat) ∨ (0 < i ∧ x.toNat = 0) then (0, 0, 1) else if x.toNat < 128 then (Nu.unzz (u + x.toNat % 128 * 128 ^ i), i + 1, 0) else Nu.getF (i + 1) (u + x.toNat % 128 * 128 ^ i) (128 ^ (i + 1)) (l.drop (i + 1)) := by
  have := gstep l i u _ h hi
  rw [hx, ← Nat.pow_succ] at this
  exact this

set_option maxRecDepth 100000 in
set_option maxHeartbeats 4000000 in
theorem nget_any (A : Option Addr) (c B : Nat) (l : List UInt8) (w : World) (h : Byt w B (.slice A l.length c) l) (hl : l.length ≤ 1000000) :
    Calls Tryd.prog 74 #[.slice A l.length c] w (GotN (Nu.get l) w) := by
  obtain ⟨A', c', hv, hc, hcell⟩ := h
  injection hv with e1 _ e2; subst e1; subst e2
  have HCELL := Lib.hid hcell; clear hcell
  go_enter Tryd.func74, Tryd.ntmps74
  go_wp2
  go_loop [5, 10] (fun u i => ∃ un k : Nat, u = .int .u64 un ∧ i = .int .i64 k ∧ k ≤ 9 ∧ k ≤ l.length ∧ un < 128 ^ k ∧ Nu.getF k un (128 ^ k) (l.drop k) = Nu.get l) (fun _ i => l.length - (intOf i).toNat)
  case atStart => exact ⟨0, 0, rfl, rfl, by omega, by omega, by decide, rfl⟩
  case round =>
    obtain ⟨un, k, rfl, rfl, hk9, hkl, hun, hget⟩ := hrel
    have HU := Lib.hid hun; clear hun
    have HG := Lib.hid hget; clear hget
    by_cases hlt : k < l.length
    · obtain ⟨g, o, rfl, hg, hcs⟩ := HCELL.out (by omega)
      obtain ⟨x, hxl⟩ : ∃ x, l[k] = x := ⟨_, rfl⟩
      have hc1 := hcs k hlt
      rw [hxl] at hc1
      have hstep := nstep l k un x HG.out hlt hxl
      clear hcs HCELL hxl
      have hb := x.toNat_lt
      have HS := Lib.hid hstep; clear hstep
      by_cases hbad : k = 9 ∧ 1 < x.toNat
      · obtain ⟨rfl, hx1⟩ := hbad
        have hform : Nu.get l = (0, 0, 1) := by rw [HS.out, if_pos (.inl ⟨rfl, hx1⟩)]
        have HF := Lib.hid hform; clear hform HS HU HG
        have hx1' : 1 < (x.toNat : Int) := by omega
        go_wp2
        go_ret3
        refine got3 ?_ ?_ ?_ <;> (rw [HF.out]; first | done | rfl)
      · obtain ⟨N, m, d, hNe, hN, hN2, f1, f2, f3, f4⟩ := get_facts x k un hk9 (fun h => by omega) HU.out
        have HN := Lib.hid hNe; clear hNe
        have HN2 := Lib.hid hN2; clear hN2 HU HG
        have HB := Lib.hid hbad; clear hbad
        have t1 : ((k : Int) == 9) = decide (k = 9) := by
          by_cases h : k = 9
          · subst h; rfl
          · rw [decide_eq_false h, beq_eq_false_iff_ne]; omega
        by_cases h9 : k = 9
        · rw [decide_eq_true h9] at t1
          have hx1 : (x.toNat : Int) ≤ 1 := by have := HB.out; omega
          have hx128 : (x.toNat : Int) < 128 := by omega
          have hk0 : 0 < k := by omega
          have H9 := Lib.hid h9; clear h9
          by_cases hx0 : x.toNat = 0
          · have hz : ((x.toNat : Int) == 0) = true := by rw [hx0]; rfl
            have H0 := Lib.hid hx0; clear hx0
            have hform : Nu.get l = (0, 0, 1) := by rw [HS.out, if_pos (.inr ⟨hk0, H0.out⟩)]
            have HF := Lib.hid hform; clear hform HS
            go_wp2
            go_ret3
            refine got3 ?_ ?_ ?_ <;> (rw [HF.out]; first | done | rfl)
          · have hz : ((x.toNat : Int) == 0) = false := by rw [beq_eq_false_iff_ne]; omega
            have hval : Nu.get l = (Nu.unzz N, k + 1, 0) := by rw [HS.out, if_neg (by omega), if_pos (by omega), HN.out]
            have HV := Lib.hid hval; clear hval HS
            have H0 := Lib.hid hx0; clear hx0
            go_wp2_with (go_at_call 78; refine (nsigned_any N _ hN).mono ?_; rintro e w1 ⟨rfl, rfl⟩)
            go_ret3
            refine got3 (by rw [HV.out]) (by rw [HV.out]; first | done | rfl | (show _ = ((_ : Nat) : Int); omega)) (by rw [HV.out]; first | done | rfl)
        · rw [decide_eq_false h9] at t1
          by_cases hx128 : x.toNat < 128
          · have hx128' : (x.toNat : Int) < 128 := by omega
            by_cases hx0 : 0 < k ∧ x.toNat = 0
            · obtain ⟨hk0, hx0⟩ := hx0
              have hz : ((x.toNat : Int) == 0) = true := by rw [hx0]; rfl
              have H0 := Lib.hid hx0; clear hx0
              have hform : Nu.get l = (0, 0, 1) := by rw [HS.out, if_pos (.inr ⟨hk0, H0.out⟩)]
              have HF := Lib.hid hform; clear hform HS
              go_wp2
              go_ret3
              refine got3 ?_ ?_ ?_ <;> (rw [HF.out]; first | done | rfl)
            · have hval : Nu.get l = (Nu.unzz N, k + 1, 0) := by rw [HS.out, if_neg (by omega), if_pos (by omega), HN.out]
              have HV := Lib.hid hval; clear hval HS
              have hz : ((x.toNat : Int) == 0) = decide (x.toNat = 0) := by
                by_cases h : x.toNat = 0
                · rw [h]; rfl
                · rw [decide_eq_false h, beq_eq_false_iff_ne]; omega
              have hor : x.toNat = 0 ∨ x.toNat ≠ 0 := by omega
              rcases hor with h | h
              · rw [decide_eq_true h] at hz
                have hk0' : ¬ 0 < k := by omega
                have HX := Lib.hid hx0; clear hx0
                have HH := Lib.hid h; clear h
                go_wp2_with (go_at_call 78; refine (nsigned_any N _ hN).mono ?_; rintro e w1 ⟨rfl, rfl⟩)
                go_ret3
                refine got3 (by rw [HV.out]) (by rw [HV.out]; first | done | rfl | (show _ = ((_ : Nat) : Int); omega)) (by rw [HV.out]; first | done | rfl)
              · rw [decide_eq_false h] at hz
                have HX := Lib.hid hx0; clear hx0
                have HH := Lib.hid h; clear h
                go_wp2_with (go_at_call 78; refine (nsigned_any N _ hN).mono ?_; rintro e w1 ⟨rfl, rfl⟩)
                go_ret3
                refine got3 (by rw [HV.out]) (by rw [HV.out]; first | done | rfl | (show _ = ((_ : Nat) : Int); omega)) (by rw [HV.out]; first | done | rfl)
          · have hx128' : 128 ≤ (x.toNat : Int) := by omega
            have hnx : Nu.getF (k + 1) N (128 ^ (k + 1)) (l.drop (k + 1)) = Nu.get l := by rw [HS.out, if_neg (by omega), if_neg hx128, HN.out]
            have HX := Lib.hid hnx; clear hnx HS
            go_wp2
            go_round
            case rel => exact ⟨N, k + 1, by first | rfl | simp, by go_num, by omega, by omega, HN2.out, HX.out⟩
            case measure => simp [intOf]; omega
    · have hend : Nu.get l = (0, 0, 2) := by rw [← HG.out, List.drop_of_length_le (by omega)]; rfl
      have HE := Lib.hid hend; clear hend HG
      go_wp2
      go_ret3
      refine got3 ?_ ?_ ?_ <;> (rw [HE.out]; first | done | rfl)
end Go.Proofs.YtdigpeipklfaeaaDoor
/-
  Package num's GetText reads a text behind its length as the plain function says, whatever the bytes.
  The bytes are there in memory, at most 1,000,000.
-/
set_option linter.unusedSimpArgs false
set_option linter.unusedVariables false
namespace Go.Proofs.YtdigpeipklfaeaaDoor
open Go.RowKit
set_option maxRecDepth 100000

set_option maxRecDepth 100000 in
set_option maxHeartbeats 4000000 in
theorem ngetText_any (A : Option Addr) (c B : Nat) (l : List UInt8) (w : World) (h : Byt w B (.slice A l.length c) l) (hl : l.length ≤ 1000000) :
    Calls Tryd.prog 76 #[.slice A l.length c] w (GotT (Nu.getT l) w) := by
  have hget := nget_any A c B l w h hl
  obtain ⟨A', c', hv, hc, hcell⟩ := h
  injection hv with e1 _ e2; subst e1; subst e2
  have hlen := Nu.get_len l
  have hpos := Nu.get_pos l
  have hT := getT_of l
  obtain ⟨r, hr⟩ : ∃ r, Nu.get l = r := ⟨_, rfl⟩
  rw [hr] at hget hlen hpos hT
  obtain ⟨rn, rk, re⟩ := r
  simp only at hlen hpos hT
  have HG := Lib.hid hget; clear hget
  have HCELL := Lib.hid hcell; clear hcell
  clear hr
  by_cases he : re = 0
  · subst he
    have hk1 := hpos rfl
    clear hpos
    simp only [ne_eq, not_true_eq_false, if_false] at hT
    by_cases hn0 : rn < 0
    · have h2 : Nu.getT l = ([], 0, 1) := by rw [hT, if_pos (.inl hn0)]
      have H2 := Lib.hid h2; clear h2 hT
      go_enter Tryd.func76, Tryd.ntmps76
      go_wp2_with fail
      refine HG.out.mono ?_
      rintro e w' ⟨rfl, rfl⟩
      go_wp2
      go_ret3
      exact gotT H2.out rfl rfl rfl
    · by_cases hn1 : 1048576 < rn
      · have h2 : Nu.getT l = ([], 0, 1) := by rw [hT, if_pos (.inr hn1)]
        have H2 := Lib.hid h2; clear h2 hT
        go_enter Tryd.func76, Tryd.ntmps76
        go_wp2_with fail
        refine HG.out.mono ?_
        rintro e w' ⟨rfl, rfl⟩
        go_wp2
        go_ret3
        exact gotT H2.out rfl rfl rfl
      · rw [if_neg (by omega)] at hT
        by_cases hm : (l.length : Int) - rk < rn
        · have h2 : Nu.getT l = ([], 0, 2) := by rw [hT, if_pos hm]
          have H2 := Lib.hid h2; clear h2 hT
          go_enter Tryd.func76, Tryd.ntmps76
          go_wp2_with fail
          refine HG.out.mono ?_
          rintro e w' ⟨rfl, rfl⟩
          go_wp2
          go_ret3
          exact gotT H2.out rfl rfl rfl
        · obtain ⟨n, rfl⟩ := Int.eq_ofNat_of_zero_le (show 0 ≤ rn by omega)
          have h2 : Nu.getT l = ((l.drop rk).take n, rk + n, 0) := by rw [hT, if_neg hm]; rfl
          have H2 := Lib.hid h2; clear h2 hT
          obtain ⟨g, o, rfl, hg, hcs⟩ := HCELL.out (by omega)
          have hkn : rk + n ≤ l.length := by omega
          by_cases hcap : c = rk
          · obtain rfl : n = 0 := by omega
            have kc := conv_zero w g o
            have HC := Lib.hid hcap; clear hcap hcs HCELL
            go_enter Tryd.func76, Tryd.ntmps76
            go_wp2_with fail
            refine HG.out.mono ?_
            rintro e w' ⟨rfl, rfl⟩
            go_wp2
            go_ret3
            exact gotT H2.out (by simp) (by omega) rfl
          · have kc := fun cap => conv_part w g o l rk n cap hkn hcs
            clear hcs HCELL
            go_enter Tryd.func76, Tryd.ntmps76
            go_wp2_with fail
            refine HG.out.mono ?_
            rintro e w' ⟨rfl, rfl⟩
            go_wp2
            go_ret3
            exact gotT H2.out rfl (by omega) rfl
  · have h2 : Nu.getT l = ([], 0, re) := by rw [hT, if_pos he]
    have H2 := Lib.hid h2; clear h2 hT
    have hne : ((re : Int) != 0) = true := by rw [bne_iff_ne]; omega
    have HE := Lib.hid he; clear he
    go_enter Tryd.func76, Tryd.ntmps76
    go_wp2_with fail
    refine HG.out.mono ?_
    rintro e w' ⟨rfl, rfl⟩
    go_wp2
    go_ret3
    exact gotT H2.out rfl rfl rfl
end Go.Proofs.YtdigpeipklfaeaaDoor
/-
  Whole rows in blocks; a reader's state as data; what of them stays where another block is turned.
  There are no conditions beyond those that each lemma names.
-/
set_option linter.unusedSimpArgs false
set_option linter.unusedVariables false
namespace Go.Proofs.YtdigpeipklfaeaaDoor
open Go.RowKit
set_option maxRecDepth 100000

/-- block g is a row of type t, and holds the cells cs -/
def Rt (w : World) (g : Nat) (t : TypeId) (cs : List Value) : Prop := w.heap[g]? = some (.cells cs.toArray t (0, 0))
theorem Rt.lt {w : World} {g : Nat} {t : TypeId} {cs : List Value} (h : Rt w g t cs) : g < w.heap.size := (Array.getElem?_eq_some_iff.1 h).1
theorem Rt.new (w : World) (t : TypeId) (cs : List Value) : Rt (w.alloc (.cells cs.toArray t)) w.heap.size t cs := heap_alloc_new _ _
theorem Rt.new_at (w : World) (g : Nat) (t : TypeId) (cs : List Value) (hg : w.heap.size = g) : Rt (w.alloc (.cells cs.toArray t)) g t cs := by rw [← hg]; exact Rt.new w t cs
theorem Rt.below {w w' : World} {g : Nat} {t : TypeId} {cs : List Value} (h : Rt w g t cs) (hb : Below w.heap.size w w') : Rt w' g t cs := (hb.block g h.lt).trans h
theorem Rt.under {w w' : World} {B g : Nat} {t : TypeId} {cs : List Value} (h : Rt w g t cs) (hb : Below B w w') (hg : g < B) : Rt w' g t cs := (hb.block g hg).trans h
theorem Rt.cell {w : World} {g j : Nat} {t : TypeId} {cs : List Value} {v : Value} (h : Rt w g t cs) (hj : cs[j]? = some v) : w.cell? ⟨g, j, none⟩ = some v := by
  rw [cell_of_row w g _ cs.toArray t (0, 0) h]
  simpa using hj
theorem Rt.frz {w : World} {g : Nat} {t : TypeId} {cs : List Value} (h : Rt w g t cs) (j : Nat) : w.frozen? ⟨g, j, none⟩ = false := frozen_of_row w g j cs.toArray t h
theorem Rt.set {w : World} {g : Nat} {t : TypeId} {cs : List Value} (h : Rt w g t cs) (j : Nat) (u : Value) : Rt (w.setCell ⟨g, j, none⟩ u) g t (cs.set j u) := by
  unfold Rt at *
  rw [heap_setCell_same w g j _ _ u h]
  simp
theorem Rt.other {w : World} {g g' : Nat} {t : TypeId} {cs : List Value} (h : Rt w g t cs) (j : Nat) (u : Value) (hne : g ≠ g') : Rt (w.setCell ⟨g', j, none⟩ u) g t cs := by
  unfold Rt at *
  exact (Below.heap_setCell w _ u g (fun e => hne e)).trans h
theorem grown_trans10 {a b c : World} {row : Option Nat} (h : a.grownBy b row) (k : b.grownBy c row) : a.grownBy c row :=
  ⟨k.os.trans h.os, k.tape.trans h.tape, k.output.trans h.output, Nat.le_trans h.size k.size, fun j hj hne => (k.block j (Nat.lt_of_lt_of_le hj h.size) hne).trans (h.block j hj hne)⟩
theorem Rt.grown {w w' : World} {g g' : Nat} {t : TypeId} {cs : List Value} (h : Rt w g t cs) (hb : w.grownBy w' (some g')) (hne : g ≠ g') : Rt w' g t cs := (hb.block g h.lt (by simpa using hne)).trans h
theorem byt_grown10 {w w' : World} {B g : Nat} {v : Value} {l : List UInt8} (h : Byt w B v l) (hg : w.grownBy w' (some g)) (hB : B ≤ g) (hw : g < w.heap.size) : Byt w' B v l := h.keep fun p hp => hg.cell_far p (by omega) (by simp; omega)
theorem below_grown10 {w w' : World} {B g : Nat} (hg : w.grownBy w' (some g)) (hB : B ≤ g) (hw : g < w.heap.size) : Below B w w' := (Below.refl B w).grown hg (by omega) (fun k e => by cases e; exact hB)
theorem nget_c10 (A : Option Addr) (n c B : Nat) (l : List UInt8) (w : World) (h : Byt w B (.slice A n c) l) (hl : l.length ≤ 1000000) : Calls Tryd.prog 74 #[.slice A n c] w (GotN (Nu.get l) w) := by
  obtain rfl : n = l.length := by obtain ⟨_, _, hv, _⟩ := h; injection hv
  exact nget_any A c B l w h hl
theorem ngetText_c10 (A : Option Addr) (n c B : Nat) (l : List UInt8) (w : World) (h : Byt w B (.slice A n c) l) (hl : l.length ≤ 1000000) : Calls Tryd.prog 76 #[.slice A n c] w (GotT (Nu.getT l) w) := by
  obtain rfl : n = l.length := by obtain ⟨_, _, hv, _⟩ := h; injection hv
  exact ngetText_any A c B l w h hl
theorem getT_len10 (l : List UInt8) : (Nu.getT l).2.1 ≤ l.length := by
  by_cases he : (Nu.getT l).2.2 = 0
  · have h := Nu.getT_canon l (Nu.getT l).1 (Nu.getT l).2.1 (by rw [← he])
    have h1 := congrArg List.length h.1
    rw [List.length_append, List.length_drop, ← h.2.1] at h1; omega
  · have : (Nu.getT l).2.1 = 0 := by
      revert he; rw [getT_of]; repeat' split
      all_goals simp
    omega
theorem add_lit_10 (g o j : Nat) : (some (⟨g, o, Option.none⟩ : Addr)).map (·.add j) = some ⟨g, o + j, Option.none⟩ := by
  show some (Addr.add ⟨g, o, Option.none⟩ j) = _
  unfold Addr.add; split
  · subst_vars; rfl
  · rfl
abbrev RdS10 := List UInt8 × Bool
def rdN10 (s : RdS10) : Int × RdS10 := ((Nu.get s.1).1, if (Nu.get s.1).2.2 = 0 then (s.1.drop (Nu.get s.1).2.1, s.2) else ([], true))
def rdT10 (s : RdS10) : ByteArray × RdS10 := (⟨(Nu.getT s.1).1.toArray⟩, if (Nu.getT s.1).2.2 = 0 then (s.1.drop (Nu.getT s.1).2.1, s.2) else ([], true))
theorem rdN10_len (s : RdS10) : (rdN10 s).2.1.length ≤ s.1.length := by
  unfold rdN10; simp only; split <;> simp
theorem rdT10_len (s : RdS10) : (rdT10 s).2.1.length ≤ s.1.length := by
  unfold rdT10; simp only; split <;> simp
theorem byt_set10 {w : World} {B g j : Nat} {v u : Value} {l : List UInt8} (h : Byt w B v l) (hB : B ≤ g) : Byt (w.setCell ⟨g, j, none⟩ u) B v l :=
  h.keep fun p hp => World.cell?_setCell_other _ _ _ _ (fun e => by rw [← e] at hp; simp at hp; omega)
/-- a reader at block g, with what rests and whether it is bad; its bytes lie below block B -/
def WRd (w : World) (g B : Nat) (s : RdS10) : Prop := ∃ A c, Rt w g 91 [.slice A s.1.length c, .bool s.2] ∧ Byt w B (.slice A s.1.length c) s.1 ∧ B ≤ g
def WRo (g B : Nat) (v : Value) (s : RdS10) (w : World) (e : Ending) (w' : World) : Prop := e = .returned v ∧ WRd w' g B s ∧ w.grownBy w' (some g)
theorem WRd.lt {w : World} {g B : Nat} {s : RdS10} (h : WRd w g B s) : g < w.heap.size := by
  obtain ⟨A, c, h, _⟩ := h; exact Rt.lt h
theorem WRd.then_ {w w' : World} {g B : Nat} {s : RdS10} (h : WRd w g B s) (hb : Below w.heap.size w w') : WRd w' g B s := by
  obtain ⟨A, c, h1, h2, h3⟩ := h
  exact ⟨A, c, h1.below hb, h2.below hb (by have := Rt.lt h1; omega), h3⟩
theorem WRd.new (w : World) (B : Nat) (l : List UInt8) (A : Option Addr) (n c : Nat) (h : Byt w B (.slice A n c) l) (hB : B ≤ w.heap.size) : WRd (w.alloc (.cells #[.slice A n c, .bool false] 91)) w.heap.size B (l, false) := by
  obtain rfl : n = l.length := by obtain ⟨_, _, hv, _⟩ := h; injection hv
  exact ⟨A, c, Rt.new w _ [.slice A l.length c, .bool false], h.below (below_new w _) hB, hB⟩
end Go.Proofs.YtdigpeipklfaeaaDoor
/-
  Package wal's Encode makes what the plain function says, in new memory; a snapshot's head.
  Texts have at most 1,000,000 bytes; package crc's table lies as it was laid.
-/
set_option linter.unusedSimpArgs false
set_option linter.unusedVariables false
namespace Go.Proofs.YtdigpeipklfaeaaDoor
open Go.RowKit
set_option maxRecDepth 100000

set_option maxHeartbeats 1000000 in
theorem wputHard (t v : Int) (w : World) (h0 : 0 ≤ t) (h1 : t ≤ 1099511627776) (h2 : 0 ≤ v) (h3 : v ≤ 7) : Calls Tryd.prog 32 #[.agg #[.int .i64 t, .int .i64 v]] w (Made (Nu.put t ++ Nu.put v) w) := by
  obtain ⟨W0, hW0⟩ : ∃ W0, w.alloc (.cells #[.int .i64 t, .int .i64 v] 23) = W0 := ⟨_, rfl⟩
  have hb : Below w.heap.size w W0 := by rw [← hW0]; exact below_one _ _
  have hlt : w.heap.size < W0.heap.size := by rw [← hW0]; simp
  have d0 : W0.cell? ⟨w.heap.size, 0, none⟩ = some (.int .i64 t) := by rw [← hW0]; exact new_cell10 rfl
  have d1 : W0.cell? ⟨w.heap.size, 1, none⟩ = some (.int .i64 v) := by rw [← hW0]; exact new_cell10 rfl
  have hp1 := Nu.put_len t
  go_enter Tryd.func32, Tryd.ntmps32
  go_wp2_with fail
  refine (nput_any _ W0.heap.size [] t _ (byt_nil _ _) (by simp) (Nat.le_refl _) (by omega) (by omega)).mono ?_
  rintro e k1 ⟨v1, rfl, ho, h⟩
  rw [List.nil_append] at ho
  replace d1 := (h.cell (p := ⟨w.heap.size, 1, none⟩) hlt).trans d1
  have HO := Lib.hid ho
  have HB := Lib.hid (hb.trans (h.mono hb.size))
  clear h hb hW0 ho d0
  go_wp2_with fail
  refine (nput_any v1 _ (Nu.put t) v _ (Byt.of_own HO.out) (by omega) (Nat.le_refl _) (by omega) (by omega)).mono ?_
  rintro e k2 ⟨v2, rfl, ho2, h2⟩
  have HO2 := Lib.hid ho2
  have HB2 := Lib.hid (HB.out.trans (h2.mono HB.out.size))
  clear h2 ho2
  go_wp2
  go_ret
  exact ⟨v2, rfl, HO2.out.down HB.out.size, HB2.out⟩
set_option maxHeartbeats 2000000 in
theorem wputEntry (ix et kd : Int) (dt : ByteArray) (w : World) (h0 : 1 ≤ ix) (h1 : ix ≤ 1099511627776) (h2 : 1 ≤ et) (h3 : et ≤ 1099511627776) (h4 : 1 ≤ kd) (h5 : kd ≤ 3) (hs : dt.size ≤ 1000000) : Calls Tryd.prog 33 #[Ent.val ⟨ix, et, kd, dt⟩] w (Made (bodyE10 ⟨ix, et, kd, dt⟩) w) := by
  unfold Ent.val bodyE10
  simp only
  have hp1 := Nu.put_len ix
  have hp2 := Nu.put_len et
  have hp3 := Nu.put_len kd
  obtain ⟨W0, hW0⟩ : ∃ W0, w.alloc (.cells #[.int .i64 ix, .int .i64 et, .int .i64 kd, .string dt] 25) = W0 := ⟨_, rfl⟩
  have hb : Below w.heap.size w W0 := by rw [← hW0]; exact below_one _ _
  have hlt : w.heap.size < W0.heap.size := by rw [← hW0]; simp
  have d0 : W0.cell? ⟨w.heap.size, 0, none⟩ = some (.int .i64 ix) := by rw [← hW0]; exact new_cell10 rfl
  have d1 : W0.cell? ⟨w.heap.size, 1, none⟩ = some (.int .i64 et) := by rw [← hW0]; exact new_cell10 rfl
  have d2 : W0.cell? ⟨w.heap.size, 2, none⟩ = some (.int .i64 kd) := by rw [← hW0]; exact new_cell10 rfl
  have d3 : W0.cell? ⟨w.heap.size, 3, none⟩ = some (.string dt) := by rw [← hW0]; exact new_cell10 rfl
  have HB0 := Lib.hid hb
  clear hb
  go_enter Tryd.func33, Tryd.ntmps33
  go_wp2_with fail
  refine (nput_any _ W0.heap.size [] ix _ (byt_nil _ _) (by simp) (Nat.le_refl _) (by omega) (by omega)).mono ?_
  rintro e k1 ⟨v1, rfl, ho, h⟩
  rw [List.nil_append] at ho
  replace d1 := (h.cell (p := ⟨w.heap.size, 1, none⟩) hlt).trans d1
  replace d2 := (h.cell (p := ⟨w.heap.size, 2, none⟩) hlt).trans d2
  replace d3 := (h.cell (p := ⟨w.heap.size, 3, none⟩) hlt).trans d3
  have HO1 := Lib.hid ho
  have HB1 := Lib.hid (HB0.out.trans (h.mono HB0.out.size))
  have lt1 : w.heap.size < k1.heap.size := Nat.lt_of_lt_of_le hlt h.size
  clear h ho d0 hW0
  go_wp2_with fail
  refine (nput_any _ k1.heap.size (Nu.put ix) et _ (Byt.of_own HO1.out) (by first | omega | (simp only [List.length_append]; omega)) (Nat.le_refl _) (by omega) (by omega)).mono ?_
  rintro e k2 ⟨v2, rfl, ho, h⟩
  replace d2 := (h.cell (p := ⟨w.heap.size, 2, none⟩) lt1).trans d2
  replace d3 := (h.cell (p := ⟨w.heap.size, 3, none⟩) lt1).trans d3
  have HO2 := Lib.hid ho
  have HB2 := Lib.hid (HB1.out.trans (h.mono HB1.out.size))
  have lt2 : w.heap.size < k2.heap.size := Nat.lt_of_lt_of_le lt1 h.size
  clear h ho d1
  go_wp2_with fail
  refine (nput_any _ k2.heap.size (Nu.put ix ++ Nu.put et) kd _ (Byt.of_own HO2.out) (by first | omega | (simp only [List.length_append]; omega)) (Nat.le_refl _) (by omega) (by omega)).mono ?_
  rintro e k3 ⟨v3, rfl, ho, h⟩
  replace d3 := (h.cell (p := ⟨w.heap.size, 3, none⟩) lt2).trans d3
  have HO3 := Lib.hid ho
  have HB3 := Lib.hid (HB2.out.trans (h.mono HB2.out.size))
  have lt3 : w.heap.size < k3.heap.size := Nat.lt_of_lt_of_le lt2 h.size
  clear h ho d2
  go_wp2_with fail
  refine (nputText_any _ k3.heap.size (Nu.put ix ++ Nu.put et ++ Nu.put kd) dt _ (Byt.of_own HO3.out) (by first | omega | (simp only [List.length_append]; omega)) (by omega) (Nat.le_refl _)).mono ?_
  rintro e k4 ⟨v4, rfl, ho, h⟩
  have HO4 := Lib.hid ho
  have HB4 := Lib.hid (HB3.out.trans (h.mono HB3.out.size))
  have lt4 : w.heap.size < k4.heap.size := Nat.lt_of_lt_of_le lt3 h.size
  clear h ho d3
  go_wp2
  go_ret
  refine ⟨v4, rfl, ?_, HB4.out⟩
  have := HO4.out.down HB3.out.size
  simpa only [List.append_assoc] using this
def headB10 (ix st : Int) (cf : ByteArray) (n : Int) : List UInt8 := Nu.put ix ++ (Nu.put st ++ (Nu.putT cf.data.toList ++ Nu.put n))
set_option maxHeartbeats 2000000 in
theorem wputHead (ix st : Int) (cf dt : ByteArray) (w : World) (h0 : 0 ≤ ix) (h1 : ix ≤ 1099511627776) (h2 : 0 ≤ st) (h3 : st ≤ 1099511627776) (hc : cf.size ≤ 1000000) (hs : dt.size ≤ 1000000) : Calls Tryd.prog 48 #[Snp.val ⟨ix, st, cf, dt⟩] w (Made (headB10 ix st cf (dt.size : Int)) w) := by
  unfold Snp.val headB10
  simp only
  have hp1 := Nu.put_len ix
  have hp2 := Nu.put_len st
  have hp3 : (Nu.putT cf.data.toList).length ≤ cf.size + 10 := by
    unfold Nu.putT; have := Nu.put_len (cf.data.toList.length : Int); have : cf.data.toList.length = cf.size := by simp
    rw [List.length_append]; omega
  obtain ⟨W0, hW0⟩ : ∃ W0, w.alloc (.cells #[.int .i64 ix, .int .i64 st, .string cf, .string dt] 55) = W0 := ⟨_, rfl⟩
  have hb : Below w.heap.size w W0 := by rw [← hW0]; exact below_one _ _
  have hlt : w.heap.size < W0.heap.size := by rw [← hW0]; simp
  have d0 : W0.cell? ⟨w.heap.size, 0, none⟩ = some (.int .i64 ix) := by rw [← hW0]; exact new_cell10 rfl
  have d1 : W0.cell? ⟨w.heap.size, 1, none⟩ = some (.int .i64 st) := by rw [← hW0]; exact new_cell10 rfl
  have d2 : W0.cell? ⟨w.heap.size, 2, none⟩ = some (.string cf) := by rw [← hW0]; exact new_cell10 rfl
  have d3 : W0.cell? ⟨w.heap.size, 3, none⟩ = some (.string dt) := by rw [← hW0]; exact new_cell10 rfl
  have HB0 := Lib.hid hb
  clear hb
  go_enter Tryd.func48, Tryd.ntmps48
  go_wp2_with fail
  refine (nput_any _ W0.heap.size [] ix _ (byt_nil _ _) (by simp) (Nat.le_refl _) (by omega) (by omega)).mono ?_
  rintro e k1 ⟨v1, rfl, ho, h⟩
  rw [List.nil_append] at ho
  replace d1 := (h.cell (p := ⟨w.heap.size, 1, none⟩) hlt).trans d1
  replace d2 := (h.cell (p := ⟨w.heap.size, 2, none⟩) hlt).trans d2
  replace d3 := (h.cell (p := ⟨w.heap.size, 3, none⟩) hlt).trans d3
  have HO1 := Lib.hid ho
  have HB1 := Lib.hid (HB0.out.trans (h.mono HB0.out.size))
  have lt1 : w.heap.size < k1.heap.size := Nat.lt_of_lt_of_le hlt h.size
  clear h ho d0 hW0
  go_wp2_with fail
  refine (nput_any _ k1.heap.size (Nu.put ix) st _ (Byt.of_own HO1.out) (by first | omega | (simp only [List.length_append]; omega)) (Nat.le_refl _) (by omega) (by omega)).mono ?_
  rintro e k2 ⟨v2, rfl, ho, h⟩
  replace d2 := (h.cell (p := ⟨w.heap.size, 2, none⟩) lt1).trans d2
  replace d3 := (h.cell (p := ⟨w.heap.size, 3, none⟩) lt1).trans d3
  have HO2 := Lib.hid ho
  have HB2 := Lib.hid (HB1.out.trans (h.mono HB1.out.size))
  have lt2 : w.heap.size < k2.heap.size := Nat.lt_of_lt_of_le lt1 h.size
  clear h ho d1
  go_wp2_with fail
  refine (nputText_any _ k2.heap.size (Nu.put ix ++ Nu.put st) cf _ (Byt.of_own HO2.out) (by first | omega | (simp only [List.length_append]; omega)) (by omega) (Nat.le_refl _)).mono ?_
  rintro e k3 ⟨v3, rfl, ho, h⟩
  replace d3 := (h.cell (p := ⟨w.heap.size, 3, none⟩) lt2).trans d3
  have HO3 := Lib.hid ho
  have HB3 := Lib.hid (HB2.out.trans (h.mono HB2.out.size))
  have lt3 : w.heap.size < k3.heap.size := Nat.lt_of_lt_of_le lt2 h.size
  clear h ho d2
  go_wp2_with fail
  refine (nput_any _ k3.heap.size (Nu.put ix ++ Nu.put st ++ Nu.putT cf.data.toList) (dt.size : Int) _ (Byt.of_own HO3.out) (by first | omega | (simp only [List.length_append]; omega)) (Nat.le_refl _) (by omega) (by omega)).mono ?_
  rintro e k4 ⟨v4, rfl, ho, h⟩
  have HO4 := Lib.hid ho
  have HB4 := Lib.hid (HB3.out.trans (h.mono HB3.out.size))
  have lt4 : w.heap.size < k4.heap.size := Nat.lt_of_lt_of_le lt3 h.size
  clear h ho d3
  go_wp2
  go_ret
  refine ⟨v4, rfl, ?_, HB4.out⟩
  have := HO4.out.down HB3.out.size
  simpa only [List.append_assoc] using this
theorem wenc10_nil (r : Rcd) (w : World) (hs : r.e.data.size ≤ 1000000) (hm : may10 r = false) : Calls Tryd.prog 12 #[r.val] w (Made [] w) := by
  have hmay := fun W => wmay10_any r W hs
  simp only [hm] at hmay
  clear hm
  obtain ⟨hd, ht, hv, ⟨ix, et, kd, dt⟩⟩ := r
  unfold Rcd.val at *
  simp only at *
  obtain ⟨W0, hW0⟩ : ∃ W0, w.alloc (.cells #[.bool hd, .int .i64 ht, .int .i64 hv, .int .i64 ix, .int .i64 et, .int .i64 kd, .string dt] 32) = W0 := ⟨_, rfl⟩
  have hb : Below w.heap.size w W0 := by rw [← hW0]; exact below_one _ _
  have hlt : w.heap.size < W0.heap.size := by rw [← hW0]; simp
  have d0 : W0.cell? ⟨w.heap.size, 0, none⟩ = some (.bool hd) := by rw [← hW0]; exact new_cell10 rfl
  have d1 : W0.cell? ⟨w.heap.size, 1, none⟩ = some (.int .i64 ht) := by rw [← hW0]; exact new_cell10 rfl
  have d2 : W0.cell? ⟨w.heap.size, 2, none⟩ = some (.int .i64 hv) := by rw [← hW0]; exact new_cell10 rfl
  have d3 : W0.cell? ⟨w.heap.size, 3, none⟩ = some (.int .i64 ix) := by rw [← hW0]; exact new_cell10 rfl
  have d4 : W0.cell? ⟨w.heap.size, 4, none⟩ = some (.int .i64 et) := by rw [← hW0]; exact new_cell10 rfl
  have d5 : W0.cell? ⟨w.heap.size, 5, none⟩ = some (.int .i64 kd) := by rw [← hW0]; exact new_cell10 rfl
  have d6 : W0.cell? ⟨w.heap.size, 6, none⟩ = some (.string dt) := by rw [← hW0]; exact new_cell10 rfl
  go_enter Tryd.func12, Tryd.ntmps12
  go_wp2_with fail
  refine (hmay _).mono ?_
  rintro e k1 ⟨rfl, h⟩
  have HB := Lib.hid (hb.trans (h.mono hb.size))
  have lt1 : w.heap.size < k1.heap.size := Nat.lt_of_lt_of_le hlt h.size
  replace d0 := (h.cell (p := ⟨w.heap.size, 0, none⟩) hlt).trans d0
  replace d1 := (h.cell (p := ⟨w.heap.size, 1, none⟩) hlt).trans d1
  replace d2 := (h.cell (p := ⟨w.heap.size, 2, none⟩) hlt).trans d2
  replace d3 := (h.cell (p := ⟨w.heap.size, 3, none⟩) hlt).trans d3
  replace d4 := (h.cell (p := ⟨w.heap.size, 4, none⟩) hlt).trans d4
  replace d5 := (h.cell (p := ⟨w.heap.size, 5, none⟩) hlt).trans d5
  replace d6 := (h.cell (p := ⟨w.heap.size, 6, none⟩) hlt).trans d6
  clear h hb hlt hW0 hmay
  go_wp2
  go_ret
  exact ⟨_, rfl, ownB_nil _ _, HB.out⟩
set_option maxHeartbeats 2000000 in
theorem wenc10_hard (r : Rcd) (w : World) (hs : r.e.data.size ≤ 1000000) (hT : Tbl w) (hm : may10 r = true) (hh : r.hard = true) : Calls Tryd.prog 12 #[r.val] w (Made (sealB 1 (Nu.put r.ht ++ Nu.put r.hv)) w) := by
  have hmay := fun W => wmay10_any r W hs
  have hq := hm
  simp only [hm] at hmay
  clear hm
  obtain ⟨hd, ht, hv, ⟨ix, et, kd, dt⟩⟩ := r
  simp only at hh
  subst hh
  have hr : 0 ≤ ht ∧ ht ≤ 1099511627776 ∧ 0 ≤ hv ∧ hv ≤ 7 := by
    unfold may10 at hq
    simp only [if_true, Bool.and_eq_true] at hq
    exact mayHard10_is hq.1
  obtain ⟨r1, r2, r3, r4⟩ := hr
  have p1 := Nu.put_len ht
  have p2 := Nu.put_len hv
  clear hq
  unfold Rcd.val at *
  simp only at *
  obtain ⟨W0, hW0⟩ : ∃ W0, w.alloc (.cells #[.bool true, .int .i64 ht, .int .i64 hv, .int .i64 ix, .int .i64 et, .int .i64 kd, .string dt] 32) = W0 := ⟨_, rfl⟩
  have hb : Below w.heap.size w W0 := by rw [← hW0]; exact below_one _ _
  have hlt : w.heap.size < W0.heap.size := by rw [← hW0]; simp
  have d0 : W0.cell? ⟨w.heap.size, 0, none⟩ = some (.bool true) := by rw [← hW0]; exact new_cell10 rfl
  have d1 : W0.cell? ⟨w.heap.size, 1, none⟩ = some (.int .i64 ht) := by rw [← hW0]; exact new_cell10 rfl
  have d2 : W0.cell? ⟨w.heap.size, 2, none⟩ = some (.int .i64 hv) := by rw [← hW0]; exact new_cell10 rfl
  have d3 : W0.cell? ⟨w.heap.size, 3, none⟩ = some (.int .i64 ix) := by rw [← hW0]; exact new_cell10 rfl
  have d4 : W0.cell? ⟨w.heap.size, 4, none⟩ = some (.int .i64 et) := by rw [← hW0]; exact new_cell10 rfl
  have d5 : W0.cell? ⟨w.heap.size, 5, none⟩ = some (.int .i64 kd) := by rw [← hW0]; exact new_cell10 rfl
  have d6 : W0.cell? ⟨w.heap.size, 6, none⟩ = some (.string dt) := by rw [← hW0]; exact new_cell10 rfl
  go_enter Tryd.func12, Tryd.ntmps12
  go_wp2_with fail
  refine (hmay _).mono ?_
  rintro e k1 ⟨rfl, h⟩
  have HB := Lib.hid (hb.trans (h.mono hb.size))
  have lt1 : w.heap.size < k1.heap.size := Nat.lt_of_lt_of_le hlt h.size
  replace d0 := (h.cell (p := ⟨w.heap.size, 0, none⟩) hlt).trans d0
  replace d1 := (h.cell (p := ⟨w.heap.size, 1, none⟩) hlt).trans d1
  replace d2 := (h.cell (p := ⟨w.heap.size, 2, none⟩) hlt).trans d2
  replace d3 := (h.cell (p := ⟨w.heap.size, 3, none⟩) hlt).trans d3
  replace d4 := (h.cell (p := ⟨w.heap.size, 4, none⟩) hlt).trans d4
  replace d5 := (h.cell (p := ⟨w.heap.size, 5, none⟩) hlt).trans d5
  replace d6 := (h.cell (p := ⟨w.heap.size, 6, none⟩) hlt).trans d6
  clear h hb hlt hW0 hmay
  go_wp2_with fail
  refine (wputHard ht hv _ r1 r2 r3 r4).mono ?_
  rintro e k2 ⟨v2, rfl, ho, h⟩
  have HO := Lib.hid ho
  have HB2 := Lib.hid (HB.out.trans (h.mono HB.out.size))
  clear h ho d0 d1 d2 d3 d4 d5 d6
  go_wp2_with fail
  refine (fseal_any 1 v2 _ _ _ (Byt.of_own HO.out) (Nat.le_refl _) ?_ ?_).mono ?_
  · rw [List.length_append]; omega
  · exact (hT.below HB2.out)
  rintro e k3 ⟨v3, rfl, ho, h⟩
  have HO3 := Lib.hid ho
  have HB3 := Lib.hid (HB2.out.trans (h.mono HB2.out.size))
  clear h ho
  go_wp2
  go_ret
  exact ⟨v3, rfl, HO3.out.down HB2.out.size, HB3.out⟩
set_option maxHeartbeats 2000000 in
theorem wenc10_entry (r : Rcd) (w : World) (hs : r.e.data.size ≤ 1000000) (hT : Tbl w) (hm : may10 r = true) (hh : r.hard = false) : Calls Tryd.prog 12 #[r.val] w (Made (sealB 2 (bodyE10 r.e)) w) := by
  have hmay := fun W => wmay10_any r W hs
  have hq := hm
  simp only [hm] at hmay
  clear hm
  obtain ⟨hd, ht, hv, ⟨ix, et, kd, dt⟩⟩ := r
  simp only at hh
  subst hh
  have hr : 1 ≤ ix ∧ ix ≤ 1099511627776 ∧ 1 ≤ et ∧ et ≤ 1099511627776 ∧ 1 ≤ kd ∧ kd ≤ 3 ∧ dt.size ≤ 2500 := by
    unfold may10 at hq
    rw [if_neg (by simp)] at hq
    simp only [Bool.and_eq_true] at hq
    exact mayEnt10_is hq.2
  obtain ⟨r1, r2, r3, r4, r5, r6, r7⟩ := hr
  have p1 : (bodyE10 ⟨ix, et, kd, dt⟩).length ≤ 1000000 := by
    unfold bodyE10 Nu.putT
    have := Nu.put_len ix; have := Nu.put_len et; have := Nu.put_len kd; have := Nu.put_len (dt.data.toList.length : Int)
    have : dt.data.toList.length = dt.size := by simp
    simp only [List.length_append]; omega
  clear hq
  unfold Rcd.val at *
  simp only at *
  obtain ⟨W0, hW0⟩ : ∃ W0, w.alloc (.cells #[.bool false, .int .i64 ht, .int .i64 hv, .int .i64 ix, .int .i64 et, .int .i64 kd, .string dt] 32) = W0 := ⟨_, rfl⟩
  have hb : Below w.heap.size w W0 := by rw [← hW0]; exact below_one _ _
  have hlt : w.heap.size < W0.heap.size := by rw [← hW0]; simp
  have d0 : W0.cell? ⟨w.heap.size, 0, none⟩ = some (.bool false) := by rw [← hW0]; exact new_cell10 rfl
  have d1 : W0.cell? ⟨w.heap.size, 1, none⟩ = some (.int .i64 ht) := by rw [← hW0]; exact new_cell10 rfl
  have d2 : W0.cell? ⟨w.heap.size, 2, none⟩ = some (.int .i64 hv) := by rw [← hW0]; exact new_cell10 rfl
  have d3 : W0.cell? ⟨w.heap.size, 3, none⟩ = some (.int .i64 ix) := by rw [← hW0]; exact new_cell10 rfl
  have d4 : W0.cell? ⟨w.heap.size, 4, none⟩ = some (.int .i64 et) := by rw [← hW0]; exact new_cell10 rfl
  have d5 : W0.cell? ⟨w.heap.size, 5, none⟩ = some (.int .i64 kd) := by rw [← hW0]; exact new_cell10 rfl
  have d6 : W0.cell? ⟨w.heap.size, 6, none⟩ = some (.string dt) := by rw [← hW0]; exact new_cell10 rfl
  go_enter Tryd.func12, Tryd.ntmps12
  go_wp2_with fail
  refine (hmay _).mono ?_
  rintro e k1 ⟨rfl, h⟩
  have HB := Lib.hid (hb.trans (h.mono hb.size))
  have lt1 : w.heap.size < k1.heap.size := Nat.lt_of_lt_of_le hlt h.size
  replace d0 := (h.cell (p := ⟨w.heap.size, 0, none⟩) hlt).trans d0
  replace d1 := (h.cell (p := ⟨w.heap.size, 1, none⟩) hlt).trans d1
  replace d2 := (h.cell (p := ⟨w.heap.size, 2, none⟩) hlt).trans d2
  replace d3 := (h.cell (p := ⟨w.heap.size, 3, none⟩) hlt).trans d3
  replace d4 := (h.cell (p := ⟨w.heap.size, 4, none⟩) hlt).trans d4
  replace d5 := (h.cell (p := ⟨w.heap.size, 5, none⟩) hlt).trans d5
  replace d6 := (h.cell (p := ⟨w.heap.size, 6, none⟩) hlt).trans d6
  clear h hb hlt hW0 hmay
  go_wp2_with fail
  refine (wputEntry ix et kd dt _ r1 r2 r3 r4 r5 r6 (by omega)).mono ?_
  rintro e k2 ⟨v2, rfl, ho, h⟩
  have HO := Lib.hid ho
  have HB2 := Lib.hid (HB.out.trans (h.mono HB.out.size))
  clear h ho d0 d1 d2 d3 d4 d5 d6
  go_wp2_with fail
  refine (fseal_any 2 v2 _ _ _ (Byt.of_own HO.out) (Nat.le_refl _) ?_ ?_).mono ?_
  · exact p1
  · exact (hT.below HB2.out)
  rintro e k3 ⟨v3, rfl, ho, h⟩
  have HO3 := Lib.hid ho
  have HB3 := Lib.hid (HB2.out.trans (h.mono HB2.out.size))
  clear h ho
  go_wp2
  go_ret
  exact ⟨v3, rfl, HO3.out.down HB2.out.size, HB3.out⟩
theorem wenc10_any (r : Rcd) (w : World) (hs : r.e.data.size ≤ 1000000) (hT : Tbl w) : Calls Tryd.prog 12 #[r.val] w (Made (encR10 r) w) := by
  unfold encR10
  rcases hm : may10 r with _ | _
  · rw [if_pos rfl]; exact wenc10_nil r w hs hm
  · rw [if_neg (by simp)]
    rcases hh : r.hard with _ | _
    · rw [if_neg (by simp)]; exact wenc10_entry r w hs hT hm hh
    · rw [if_pos rfl]; exact wenc10_hard r w hs hT hm hh
end Go.Proofs.YtdigpeipklfaeaaDoor
/-
  Records as plain functions: what is written is read again; what is read is what is written.
  There are no conditions beyond those that each lemma names.
-/
set_option linter.unusedSimpArgs false
set_option linter.unusedVariables false
namespace Go.Proofs.YtdigpeipklfaeaaDoor
open Go.RowKit
set_option maxRecDepth 100000

theorem openB_canon {l b : List UInt8} {k n : Nat} (h : openB l = (k, b, n, 0)) : l.take n = sealB k b ∧ n ≤ l.length ∧ 6 ≤ n ∧ 1 ≤ k ∧ k ≤ 255 ∧ b.length ≤ 4000 := by
  have hg := openB_good h
  refine ⟨?_, hg.2.1, hg.1, hg.2.2.2.2.1, hg.2.2.2.2.2, hg.2.2.1⟩
  unfold openB at h
  by_cases h1 : l.length = 0
  · rw [if_pos h1] at h; simp at h
  rw [if_neg h1] at h
  by_cases h2 : (l.headD 0).toNat = 0
  · rw [if_pos h2] at h; simp at h
  rw [if_neg h2] at h
  by_cases h3 : (Nu.get (l.drop 1)).2.2 = 2 ∧ 2 < l.length
  · rw [if_pos h3] at h; simp at h
  rw [if_neg h3] at h
  by_cases h4 : (Nu.get (l.drop 1)).2.2 = 2
  · rw [if_pos h4] at h; simp at h
  rw [if_neg h4] at h
  by_cases h5 : (Nu.get (l.drop 1)).2.2 ≠ 0 ∨ (Nu.get (l.drop 1)).1 < 0 ∨ 4000 < (Nu.get (l.drop 1)).1
  · rw [if_pos h5] at h; simp at h
  rw [if_neg h5] at h
  by_cases h6 : (l.length : Int) < 5 + (Nu.get (l.drop 1)).2.1 + (Nu.get (l.drop 1)).1
  · rw [if_pos h6] at h; simp at h
  rw [if_neg h6] at h
  split at h
  · simp at h
  · rename_i h7
    simp only [Prod.mk.injEq, and_true] at h
    obtain ⟨rfl, rfl, rfl⟩ := h
    exact (Decidable.not_not.1 h7).symm
theorem openB_bad {l : List UInt8} {k n e : Nat} {b : List UInt8} (h : openB l = (k, b, n, e)) (he : e ≠ 0) : k = 0 ∧ b = [] ∧ n = 0 ∧ (e = 2 ∨ e = 3) := by
  rcases openB_err l with h0 | ⟨e', h1, h2⟩
  · rw [h] at h0; exact absurd h0 he
  · rw [h] at h1
    simp only [Prod.mk.injEq] at h1
    obtain ⟨rfl, rfl, rfl, rfl⟩ := h1
    exact ⟨rfl, rfl, rfl, h2⟩
def zRcd : Rcd := ⟨false, 0, 0, noEnt⟩
def kind10 (r : Rcd) : Nat := if r.hard then 1 else 2
def body10 (r : Rcd) : List UInt8 := if r.hard then Nu.put r.ht ++ Nu.put r.hv else bodyE10 r.e
theorem encR10_is {r : Rcd} (h : may10 r = true) : encR10 r = sealB (kind10 r) (body10 r) := by
  unfold encR10 kind10 body10
  rw [if_neg (by rw [h]; simp)]
  cases r.hard <;> rfl
theorem noEnt_is {e : Ent} (h : eqEnt10 e noEnt = true) : e = noEnt := by
  obtain ⟨a, b, c, d⟩ := e
  unfold eqEnt10 noEnt at h
  simp only [Bool.and_eq_true, beq_iff_eq] at h
  obtain ⟨⟨⟨rfl, rfl⟩, rfl⟩, h⟩ := h
  have : d = ByteArray.empty := by
    apply ByteArray.ext; apply Array.toList_inj.1; exact h
  rw [this]; rfl
/-- what may be, told in its parts -/
theorem may10_hard {r : Rcd} (h : may10 r = true) (hh : r.hard = true) : 0 ≤ r.ht ∧ r.ht ≤ 1099511627776 ∧ 0 ≤ r.hv ∧ r.hv ≤ 7 ∧ r.e = noEnt := by
  unfold may10 at h
  rw [if_pos hh] at h
  simp only [Bool.and_eq_true] at h
  have := mayHard10_is h.1
  exact ⟨this.1, this.2.1, this.2.2.1, this.2.2.2, noEnt_is h.2⟩
theorem may10_ent {r : Rcd} (h : may10 r = true) (hh : r.hard = false) : r.ht = 0 ∧ r.hv = 0 ∧ 1 ≤ r.e.ix ∧ r.e.ix ≤ 1099511627776 ∧ 1 ≤ r.e.et ∧ r.e.et ≤ 1099511627776 ∧ 1 ≤ r.e.kd ∧ r.e.kd ≤ 3 ∧ r.e.data.size ≤ 2500 := by
  unfold may10 at h
  rw [if_neg (by rw [hh]; simp)] at h
  simp only [Bool.and_eq_true, beq_iff_eq] at h
  have := mayEnt10_is h.2
  exact ⟨h.1.1, h.1.2, this⟩
theorem body10_len {r : Rcd} (h : may10 r = true) : (body10 r).length ≤ 2600 := by
  unfold body10
  cases hh : r.hard with
  | true =>
    rw [if_pos rfl, List.length_append]
    have := Nu.put_len r.ht; have := Nu.put_len r.hv; omega
  | false =>
    rw [if_neg (by simp)]
    obtain ⟨_, _, _, _, _, _, _, _, hs⟩ := may10_ent h hh
    unfold bodyE10 Nu.putT
    simp only [List.length_append]
    have := Nu.put_len r.e.ix; have := Nu.put_len r.e.et; have := Nu.put_len r.e.kd; have := Nu.put_len (r.e.data.data.toList.length : Int)
    have : r.e.data.data.toList.length = r.e.data.size := size_list10 _
    omega
theorem kind10_ok (r : Rcd) : 1 ≤ (kind10 r : Int) ∧ (kind10 r : Int) ≤ 255 := by unfold kind10; split <;> decide
theorem enc10_len {r : Rcd} (h : may10 r = true) : 6 ≤ (encR10 r).length ∧ (encR10 r).length ≤ 2607 := by
  have hk := kind10_ok r
  have hb := body10_len h
  rw [encR10_is h, sealB_len _ _ hk.1 hk.2 (by omega)]
  have h2 := put_len12 (body10 r).length (by omega)
  split at h2 <;> omega
theorem enc10_short (r : Rcd) : (encR10 r).length ≤ 2607 := by
  cases h : may10 r with
  | true => exact (enc10_len h).2
  | false => unfold encR10; rw [if_pos h]; exact Nat.zero_le _

/-! ### a reader's steps -/
theorem rdN10_put (n : Int) (r : List UInt8) (b : Bool) (h0 : -9223372036854775808 ≤ n) (h1 : n ≤ 9223372036854775807) : rdN10 (Nu.put n ++ r, b) = (n, (r, b)) := by
  unfold rdN10
  simp only [Nu.get_put n r h0 h1]
  rw [if_pos trivial, List.drop_left]
theorem rdT10_put (s : ByteArray) (r : List UInt8) (b : Bool) (hs : s.size ≤ 1048576) : rdT10 (Nu.putT s.data.toList ++ r, b) = (s, (r, b)) := by
  unfold rdT10
  simp only [Nu.getT_putT s.data.toList r (by rw [size_list10]; exact hs)]
  rw [if_pos trivial, List.drop_left]
theorem rdN10_ok {s s' : RdS10} {n : Int} (h : rdN10 s = (n, s')) (hs : s'.2 = false) : s.2 = false ∧ s.1 = Nu.put n ++ s'.1 ∧ -9223372036854775808 ≤ n ∧ n ≤ 9223372036854775807 := by
  unfold rdN10 at h
  obtain ⟨⟨m, k, e⟩, hg⟩ : ∃ r, Nu.get s.1 = r := ⟨_, rfl⟩
  rw [hg] at h
  simp only [Prod.mk.injEq] at h
  obtain ⟨rfl, rfl⟩ := h
  by_cases he : e = 0
  · subst he
    rw [if_pos rfl] at hs ⊢
    have h1 := Nu.get_split s.1 m k hg
    have h2 := Nu.get_canon s.1 m k hg
    exact ⟨hs, h1, h2.2.2⟩
  · rw [if_neg he] at hs; cases hs
theorem rdT10_ok {s s' : RdS10} {t : ByteArray} (h : rdT10 s = (t, s')) (hs : s'.2 = false) : s.2 = false ∧ s.1 = Nu.putT t.data.toList ++ s'.1 := by
  unfold rdT10 at h
  obtain ⟨⟨m, k, e⟩, hg⟩ : ∃ r, Nu.getT s.1 = r := ⟨_, rfl⟩
  rw [hg] at h
  simp only [Prod.mk.injEq] at h
  obtain ⟨rfl, rfl⟩ := h
  by_cases he : e = 0
  · subst he
    rw [if_pos rfl] at hs ⊢
    exact ⟨hs, (Nu.getT_canon s.1 m k hg).1⟩
  · rw [if_neg he] at hs; cases hs
theorem rdN10_bad {s s' : RdS10} {n : Int} (h : rdN10 s = (n, s')) (hs : s.2 = true) : s'.2 = true := by
  cases h2 : s'.2 with
  | true => rfl
  | false => exact absurd (rdN10_ok h h2).1 (by rw [hs]; simp)

/-! ### records -/
def rdH10 (s : RdS10) : Rcd × RdS10 := (⟨true, (rdN10 s).1, (rdN10 (rdN10 s).2).1, noEnt⟩, (rdN10 (rdN10 s).2).2)
def rdE10 (s : RdS10) : Rcd × RdS10 := (⟨false, 0, 0, ⟨(rdN10 s).1, (rdN10 (rdN10 s).2).1, (rdN10 (rdN10 (rdN10 s).2).2).1, (rdT10 (rdN10 (rdN10 (rdN10 s).2).2).2).1⟩⟩, (rdT10 (rdN10 (rdN10 (rdN10 s).2).2).2).2)
def done10 (s : RdS10) : Bool := !s.2 && s.1.length == 0
/-- the record of a frame, and whether it may be one -/
def readR10 (k : Nat) (l : List UInt8) : Rcd × Bool :=
  if k = 1 then ((rdH10 (l, false)).1, done10 (rdH10 (l, false)).2 && may10 (rdH10 (l, false)).1)
  else if k = 2 then ((rdE10 (l, false)).1, done10 (rdE10 (l, false)).2 && may10 (rdE10 (l, false)).1)
  else (zRcd, false)
def decR10 (l : List UInt8) : Rcd × Nat × Nat :=
  if (openB l).2.2.2 ≠ 0 then (zRcd, 0, (openB l).2.2.2)
  else if (readR10 (openB l).1 (openB l).2.1).2 = true then ((readR10 (openB l).1 (openB l).2.1).1, (openB l).2.2.1, 0)
  else (zRcd, 0, 3)
theorem done10_is {s : RdS10} (h : done10 s = true) : s = ([], false) := by
  obtain ⟨l, b⟩ := s
  unfold done10 at h
  simp only [Bool.and_eq_true, beq_iff_eq, Bool.not_eq_true'] at h
  obtain ⟨rfl, h⟩ := h
  rw [List.eq_nil_of_length_eq_zero h]
theorem readR10_yes {k : Nat} {l : List UInt8} {r : Rcd} (h : readR10 k l = (r, true)) : may10 r = true ∧ k = kind10 r ∧ l = body10 r := by
  unfold readR10 at h
  by_cases h1 : k = 1
  · rw [if_pos h1] at h
    simp only [Prod.mk.injEq, Bool.and_eq_true] at h
    obtain ⟨rfl, hd, hm⟩ := h
    refine ⟨hm, by unfold kind10 rdH10; exact h1, ?_⟩
    have h2 := done10_is hd
    unfold rdH10 at h2
    simp only at h2
    obtain ⟨_, e1, _, _⟩ := rdN10_ok (s := (rdN10 (l, false)).2) (n := _) (s' := ([], false)) (by rw [← h2]) rfl
    obtain ⟨_, e2, _, _⟩ := rdN10_ok (s := (l, false)) (n := _) (s' := (rdN10 (l, false)).2) rfl (by
      cases hb : (rdN10 (l, false)).2.2 with
      | false => rfl
      | true => have := rdN10_bad (s := (rdN10 (l, false)).2) (s' := ([], false)) (n := _) (by rw [← h2]) hb; cases this)
    unfold body10 rdH10
    rw [if_pos rfl]
    simp only at e1 e2 ⊢
    rw [List.append_nil] at e1
    rw [← e1]; exact e2
  · rw [if_neg h1] at h
    by_cases h2 : k = 2
    · rw [if_pos h2] at h
      simp only [Prod.mk.injEq, Bool.and_eq_true] at h
      obtain ⟨rfl, hd, hm⟩ := h
      refine ⟨hm, by unfold kind10 rdE10; exact h2, ?_⟩
      have h3 := done10_is hd
      unfold rdE10 at h3
      simp only at h3
      obtain ⟨⟨ix, s1⟩, q1⟩ : ∃ x, rdN10 (l, false) = x := ⟨_, rfl⟩
      obtain ⟨⟨et, s2⟩, q2⟩ : ∃ x, rdN10 s1 = x := ⟨_, rfl⟩
      obtain ⟨⟨kd, s3⟩, q3⟩ : ∃ x, rdN10 s2 = x := ⟨_, rfl⟩
      obtain ⟨⟨dt, s4⟩, q4⟩ : ∃ x, rdT10 s3 = x := ⟨_, rfl⟩
      unfold rdE10 body10
      rw [if_neg (by simp)]
      simp only [q1, q2, q3, q4] at h3 ⊢
      subst h3
      obtain ⟨b3, e4⟩ := rdT10_ok q4 rfl
      obtain ⟨b2, e3, _⟩ := rdN10_ok q3 b3
      obtain ⟨b1, e2, _⟩ := rdN10_ok q2 b2
      obtain ⟨_, e1, _⟩ := rdN10_ok q1 b1
      unfold bodyE10
      simp only at e1 e4 ⊢
      rw [List.append_nil] at e4
      rw [e1, e2, e3, e4]
    · rw [if_neg h2] at h; simp at h
theorem readR10_back {r : Rcd} (h : may10 r = true) : readR10 (kind10 r) (body10 r) = (r, true) := by
  unfold readR10
  obtain ⟨hd, ht, hv, e⟩ := r
  cases hd with
  | true =>
    obtain ⟨a, b, c, d, he⟩ := may10_hard h rfl
    simp only at a b c d he
    subst he
    have hb : body10 ⟨true, ht, hv, noEnt⟩ = Nu.put ht ++ (Nu.put hv ++ []) := by unfold body10; simp
    have hr : rdH10 (body10 ⟨true, ht, hv, noEnt⟩, false) = (⟨true, ht, hv, noEnt⟩, ([], false)) := by
      unfold rdH10
      rw [hb, rdN10_put ht _ _ (by omega) (by omega)]
      simp only [rdN10_put hv _ _ (by omega) (by omega)]
    rw [show kind10 ⟨true, ht, hv, noEnt⟩ = 1 from rfl, if_pos rfl, hr]
    simp only [h]; rfl
  | false =>
    obtain ⟨z1, z2, a1, a2, a3, a4, a5, a6, a7⟩ := may10_ent h rfl
    obtain ⟨ix, et, kd, dt⟩ := e
    simp only at z1 z2 a1 a2 a3 a4 a5 a6 a7
    subst z1; subst z2
    have hb : body10 ⟨false, 0, 0, ⟨ix, et, kd, dt⟩⟩ = Nu.put ix ++ (Nu.put et ++ (Nu.put kd ++ (Nu.putT dt.data.toList ++ []))) := by unfold body10 bodyE10; simp
    have hr : rdE10 (body10 ⟨false, 0, 0, ⟨ix, et, kd, dt⟩⟩, false) = (⟨false, 0, 0, ⟨ix, et, kd, dt⟩⟩, ([], false)) := by
      unfold rdE10
      rw [hb, rdN10_put ix _ _ (by omega) (by omega)]
      simp only [rdN10_put et _ _ (by omega) (by omega), rdN10_put kd _ _ (by omega) (by omega), rdT10_put dt _ _ (by omega)]
    rw [show kind10 ⟨false, 0, 0, ⟨ix, et, kd, dt⟩⟩ = 2 from rfl, if_neg (by decide), if_pos rfl, hr]
    simp only [h]; rfl
/-- what is written is read again, whatever stands behind it -/
theorem decR10_enc {r : Rcd} (h : may10 r = true) (more : List UInt8) : decR10 (encR10 r ++ more) = (r, (encR10 r).length, 0) := by
  have hk := kind10_ok r
  have hb := body10_len h
  rw [encR10_is h]
  unfold decR10
  rw [openB_seal _ _ more hk.1 hk.2 (by omega)]
  simp only [Int.toNat_natCast]
  rw [if_neg (by simp), readR10_back h, if_pos rfl]
theorem decR10_cut {r : Rcd} (h : may10 r = true) {m : Nat} (hm : m < (encR10 r).length) : decR10 ((encR10 r).take m) = (zRcd, 0, 2) := by
  have hk := kind10_ok r
  have hb := body10_len h
  rw [encR10_is h] at hm ⊢
  unfold decR10
  rw [openB_cut _ _ m hk.1 hk.2 (by omega) hm, if_pos (by simp)]
theorem decR10_good {l : List UInt8} {r : Rcd} {n : Nat} (h : decR10 l = (r, n, 0)) : may10 r = true ∧ l.take n = encR10 r ∧ 6 ≤ n ∧ n ≤ l.length := by
  unfold decR10 at h
  obtain ⟨⟨k, b, m, e⟩, ho⟩ : ∃ x, openB l = x := ⟨_, rfl⟩
  rw [ho] at h
  simp only at h
  by_cases he : e = 0
  · subst he
    rw [if_neg (by simp)] at h
    obtain ⟨⟨q, y⟩, hq⟩ : ∃ x, readR10 k b = x := ⟨_, rfl⟩
    rw [hq] at h
    cases y with
    | false => simp at h
    | true =>
      simp only [if_true, Prod.mk.injEq, and_true] at h
      obtain ⟨rfl, rfl⟩ := h
      obtain ⟨hm, hk, hb⟩ := readR10_yes hq
      obtain ⟨h1, h2, h3, _⟩ := openB_canon ho
      refine ⟨hm, ?_, h3, h2⟩
      rw [encR10_is hm, ← hk, ← hb]; exact h1
  · rw [if_pos he] at h
    simp only [Prod.mk.injEq] at h
    exact absurd h.2.2 he
theorem decR10_bad {l : List UInt8} {r : Rcd} {n e : Nat} (h : decR10 l = (r, n, e)) (he : e ≠ 0) : r = zRcd ∧ n = 0 ∧ (e = 2 ∨ e = 3) := by
  unfold decR10 at h
  obtain ⟨⟨k, b, m, e'⟩, ho⟩ : ∃ x, openB l = x := ⟨_, rfl⟩
  rw [ho] at h
  simp only at h
  by_cases h0 : e' = 0
  · rw [if_neg (by simpa using h0)] at h
    split at h
    · simp only [Prod.mk.injEq] at h; exact absurd h.2.2.symm he
    · simp only [Prod.mk.injEq] at h
      exact ⟨h.1.symm, h.2.1.symm, .inr h.2.2.symm⟩
  · rw [if_pos h0] at h
    simp only [Prod.mk.injEq] at h
    obtain ⟨rfl, rfl, rfl⟩ := h
    exact ⟨rfl, rfl, (openB_bad ho h0).2.2.2⟩
end Go.Proofs.YtdigpeipklfaeaaDoor
/-
  Package wal's reader: what each of its steps answers, and what rests; behind a part that can't be read all is bad.
  The reader lies in a block of its own; the bytes lie below it, at most 1,000,000.
-/
set_option linter.unusedSimpArgs false
set_option linter.unusedVariables false
namespace Go.Proofs.YtdigpeipklfaeaaDoor
open Go.RowKit
set_option maxRecDepth 100000

/-- a slice that reads as bytes, cut at k: how the machine writes it -/
theorem w10took_a (g B k c o gb : Nat) (b : Bool) (l : List UInt8) (w : World) (h : Rt w g 91 [.slice (some ⟨gb, o, none⟩) l.length c, .bool b]) (hby : Byt w B (.slice (some ⟨gb, o, none⟩) l.length c) l) (hB : B ≤ g) (hk : k ≤ l.length) (hkc : ¬ c = k) :
    Calls Tryd.prog 75 #[.pointer (some ⟨g, 0, none⟩), .int .i64 k, .int .i64 0] w (WRo g B (.tuple #[]) (l.drop k, b) w) := by
  have hlc : l.length ≤ c := by obtain ⟨_, _, hv, hc, _⟩ := hby; injection hv with _ _ e; omega
  have hcut := hby.cut hk
  rw [if_neg hkc, add_lit_10] at hcut
  have c0 := h.cell (j := 0) rfl
  have f0 := h.frz 0
  have HR := Lib.hid h; clear h
  have HC := Lib.hid hcut; clear hcut hby
  go_enter Tryd.func75, Tryd.ntmps75
  go_wp2
  refine Go.Great.bodyPost_end0 Tryd.results75 rfl ?_
  exact ⟨rfl, ⟨_, _, by simpa using HR.out.set 0 _, by simpa using byt_set10 HC.out hB, hB⟩, setCell_grown _ _ _⟩
theorem w10took_b (g B k o gb : Nat) (b : Bool) (l : List UInt8) (w : World) (h : Rt w g 91 [.slice (some ⟨gb, o, none⟩) k k, .bool b]) (hby : Byt w B (.slice (some ⟨gb, o, none⟩) k k) l) (hB : B ≤ g) :
    Calls Tryd.prog 75 #[.pointer (some ⟨g, 0, none⟩), .int .i64 k, .int .i64 0] w (WRo g B (.tuple #[]) ([], b) w) := by
  obtain rfl : k = l.length := by obtain ⟨A', c', hv, _⟩ := hby; injection hv
  have hcut := hby.cut (Nat.le_refl _)
  rw [if_pos rfl, Nat.sub_self, List.drop_length] at hcut
  have c0 := h.cell (j := 0) rfl
  have f0 := h.frz 0
  have HR := Lib.hid h; clear h
  have HC := Lib.hid hcut; clear hcut hby
  go_enter Tryd.func75, Tryd.ntmps75
  go_wp2
  refine Go.Great.bodyPost_end0 Tryd.results75 rfl ?_
  exact ⟨rfl, ⟨_, _, HR.out.set 0 _, byt_set10 HC.out hB, hB⟩, setCell_grown _ _ _⟩
/-- no bytes rest: whatever the slice is -/
theorem w10took_c (g B c : Nat) (A : Option Addr) (b : Bool) (w : World) (h : Rt w g 91 [.slice A 0 c, .bool b]) (hby : Byt w B (.slice A 0 c) []) (hB : B ≤ g) :
    Calls Tryd.prog 75 #[.pointer (some ⟨g, 0, none⟩), .int .i64 0, .int .i64 0] w (WRo g B (.tuple #[]) ([], b) w) := by
  have c0 := h.cell (j := 0) rfl
  have f0 := h.frz 0
  have HR := Lib.hid h; clear h
  have HC := Lib.hid hby; clear hby
  go_enter Tryd.func75, Tryd.ntmps75
  go_wp2
  refine Go.Great.bodyPost_end0 Tryd.results75 rfl ?_
  exact ⟨rfl, ⟨_, _, HR.out.set 0 _, byt_set10 HC.out hB, hB⟩, setCell_grown _ _ _⟩
theorem w10took_ok (g B k c : Nat) (A : Option Addr) (b : Bool) (l : List UInt8) (w : World) (h : Rt w g 91 [.slice A l.length c, .bool b]) (hby : Byt w B (.slice A l.length c) l) (hB : B ≤ g) (hk : k ≤ l.length) :
    Calls Tryd.prog 75 #[.pointer (some ⟨g, 0, none⟩), .int .i64 k, .int .i64 0] w (WRo g B (.tuple #[]) (l.drop k, b) w) := by
  rcases Nat.eq_zero_or_pos l.length with h0 | h0
  · obtain rfl := List.eq_nil_of_length_eq_zero h0
    obtain rfl : k = 0 := by simpa using hk
    exact w10took_c g B c A b w h hby hB
  · obtain ⟨A', c', hv, hc, hx⟩ := id hby
    injection hv with e1 _ e3
    subst e1; subst e3
    obtain ⟨gb, o, rfl, _⟩ := hx h0
    by_cases hkc : c = k
    · subst hkc
      obtain rfl : c = l.length := by omega
      rw [List.drop_length]
      exact w10took_b g B _ o gb b l w h hby hB
    · exact w10took_a g B k c o gb b l w h hby hB hk hkc
/-- behind a part with an error nothing rests -/
theorem w10w10took_bad (g B k e c : Nat) (A : Option Addr) (b : Bool) (l : List UInt8) (w : World) (h : Rt w g 91 [.slice A l.length c, .bool b]) (hby : Byt w B (.slice A l.length c) l) (hB : B ≤ g) (he : e ≠ 0) :
    Calls Tryd.prog 75 #[.pointer (some ⟨g, 0, none⟩), .int .i64 k, .int .i64 e] w (WRo g B (.tuple #[]) ([], true) w) := by
  have he2 : ((e : Int) != 0) = true := by simp; omega
  have he3 : ¬ ((e : Int) = 0) := by omega
  rcases Nat.eq_zero_or_pos l.length with h0 | h0
  · obtain rfl := List.eq_nil_of_length_eq_zero h0
    simp only [List.length_nil] at h hby
    have c0 := h.cell (j := 0) rfl
    have c1 := h.cell (j := 1) rfl
    have f0 := h.frz 0
    have f1 := h.frz 1
    have HR := Lib.hid h; clear h
    have HC := Lib.hid hby; clear hby
    go_enter Tryd.func75, Tryd.ntmps75
    go_wp2
    refine Go.Great.bodyPost_end0 Tryd.results75 rfl ?_
    exact ⟨rfl, ⟨_, _, (HR.out.set 1 _).set 0 _, byt_set10 (byt_set10 HC.out hB) hB, hB⟩, grown_trans10 (setCell_grown _ _ _) (setCell_grown _ _ _)⟩
  · obtain ⟨A', c', hv, hc, hx⟩ := id hby
    injection hv with e1 _ e3
    subst e1; subst e3
    obtain ⟨gb, o, rfl, _⟩ := hx h0
    have hcut := hby.cut (Nat.le_refl _)
    have c0 := h.cell (j := 0) rfl
    have c1 := h.cell (j := 1) rfl
    have f0 := h.frz 0
    have f1 := h.frz 1
    rw [List.drop_length, Nat.sub_self] at hcut
    by_cases hkc : c = l.length
    · rw [if_pos hkc, hkc, Nat.sub_self] at hcut
      rw [hkc] at c0 h
      obtain ⟨n, hn⟩ : ∃ n, l.length = n := ⟨_, rfl⟩
      rw [hn] at h c0
      have HR := Lib.hid h; clear h
      have HC := Lib.hid hcut; clear hcut hby hkc hx hn
      go_enter Tryd.func75, Tryd.ntmps75
      go_wp2
      refine Go.Great.bodyPost_end0 Tryd.results75 rfl ?_
      exact ⟨rfl, ⟨_, _, (HR.out.set 1 _).set 0 _, byt_set10 (byt_set10 HC.out hB) hB, hB⟩, grown_trans10 (setCell_grown _ _ _) (setCell_grown _ _ _)⟩
    · rw [if_neg hkc, add_lit_10] at hcut
      obtain ⟨n, hn⟩ : ∃ n, l.length = n := ⟨_, rfl⟩
      rw [hn] at h hcut c0 hkc hc
      have HR := Lib.hid h; clear h
      have HC := Lib.hid hcut; clear hcut hby hx hn
      go_enter Tryd.func75, Tryd.ntmps75
      go_wp2
      refine Go.Great.bodyPost_end0 Tryd.results75 rfl ?_
      exact ⟨rfl, ⟨_, _, (HR.out.set 1 _).set 0 _, byt_set10 (byt_set10 HC.out hB) hB, hB⟩, grown_trans10 (setCell_grown _ _ _) (setCell_grown _ _ _)⟩
/-- took, behind what num.Get or num.GetText answered -/
theorem w10took_is (g B k e : Nat) (s s' : RdS10) (w : World) (h : WRd w g B s) (hk : k ≤ s.1.length) (hs : (if e = 0 then (s.1.drop k, s.2) else ([], true)) = s') :
    Calls Tryd.prog 75 #[.pointer (some ⟨g, 0, none⟩), .int .i64 k, .int .i64 e] w (WRo g B (.tuple #[]) s' w) := by
  obtain ⟨l, b⟩ := s
  obtain ⟨A, c, hr, hby, hB⟩ := h
  subst hs
  by_cases he : e = 0
  · subst he; rw [if_pos rfl]; exact w10took_ok g B k c A b l w hr hby hB hk
  · rw [if_neg he]; exact w10w10took_bad g B k e c A b l w hr hby hB he
set_option maxHeartbeats 400000 in
theorem w10fnum_any (g B : Nat) (s : RdS10) (n : Int) (s' : RdS10) (w : World) (h : WRd w g B s) (hl : s.1.length ≤ 1000000) (hs : rdN10 s = (n, s')) :
    Calls Tryd.prog 67 #[.pointer (some ⟨g, 0, none⟩)] w (WRo g B (.int .i64 n) s' w) := by
  have hk := Nu.get_len s.1
  obtain ⟨⟨m, k, e⟩, hr⟩ : ∃ r, Nu.get s.1 = r := ⟨_, rfl⟩
  have htk := w10took_is g B k e s s' w h (by rw [hr] at hk; exact hk) (by unfold rdN10 at hs; rw [hr] at hs; exact (Prod.mk.inj hs).2)
  obtain rfl : m = n := by unfold rdN10 at hs; rw [hr] at hs; exact (Prod.mk.inj hs).1
  obtain ⟨A, c, hrb, hby, hB⟩ := h
  have hget := nget_c10 _ _ _ B s.1 w hby hl
  rw [hr] at hget
  have c0 := hrb.cell (j := 0) rfl
  obtain ⟨z, hz⟩ : ∃ z, s.1.length = z := ⟨_, rfl⟩
  rw [hz] at c0 hget
  have HG := Lib.hid hget; clear hget hr
  have HT := Lib.hid htk; clear htk
  clear hrb hby hs hk hz
  go_enter Tryd.func67, Tryd.ntmps67
  go_wp2_with fail
  refine HG.out.mono ?_
  rintro e1 k1 ⟨rfl, rfl⟩
  go_wp2_with fail
  refine HT.out.mono ?_
  rintro e1 k1 ⟨rfl, h1, h2⟩
  go_wp2
  go_ret
  exact ⟨rfl, h1, h2⟩
set_option maxHeartbeats 400000 in
theorem w10ftxt_any (g B : Nat) (s : RdS10) (n : ByteArray) (s' : RdS10) (w : World) (h : WRd w g B s) (hl : s.1.length ≤ 1000000) (hs : rdT10 s = (n, s')) :
    Calls Tryd.prog 68 #[.pointer (some ⟨g, 0, none⟩)] w (WRo g B (.string n) s' w) := by
  have hk := getT_len10 s.1
  obtain ⟨⟨m, k, e⟩, hr⟩ : ∃ r, Nu.getT s.1 = r := ⟨_, rfl⟩
  have htk := w10took_is g B k e s s' w h (by rw [hr] at hk; exact hk) (by unfold rdT10 at hs; rw [hr] at hs; exact (Prod.mk.inj hs).2)
  obtain rfl : (⟨m.toArray⟩ : ByteArray) = n := by unfold rdT10 at hs; rw [hr] at hs; exact (Prod.mk.inj hs).1
  obtain ⟨A, c, hrb, hby, hB⟩ := h
  have hget := ngetText_c10 _ _ _ B s.1 w hby hl
  rw [hr] at hget
  have c0 := hrb.cell (j := 0) rfl
  obtain ⟨z, hz⟩ : ∃ z, s.1.length = z := ⟨_, rfl⟩
  rw [hz] at c0 hget
  have HG := Lib.hid hget; clear hget hr
  have HT := Lib.hid htk; clear htk
  clear hrb hby hs hk hz
  go_enter Tryd.func68, Tryd.ntmps68
  go_wp2_with fail
  refine HG.out.mono ?_
  rintro e1 k1 ⟨rfl, rfl⟩
  go_wp2_with fail
  refine HT.out.mono ?_
  rintro e1 k1 ⟨rfl, h1, h2⟩
  go_wp2
  go_ret
  exact ⟨rfl, h1, h2⟩
end Go.Proofs.YtdigpeipklfaeaaDoor
/-
  Package wal's reader reads a Hard, an entry, a snapshot's head; what it leaves.
  The reader lies in a block of its own; the bytes lie below it, at most 1,000,000.
-/
set_option linter.unusedSimpArgs false
set_option linter.unusedVariables false
namespace Go.Proofs.YtdigpeipklfaeaaDoor
open Go.RowKit
set_option maxRecDepth 100000

theorem grows10 {a w : World} {g : Nat} (h : Below a.heap.size a w) : a.grownBy w (some g) := ⟨h.os, h.tape, h.output, h.size, fun k hk _ => h.block k hk⟩
theorem grown_then10 {a w w' : World} {g : Nat} (h : a.grownBy w (some g)) (hb : Below a.heap.size w w') : a.grownBy w' (some g) :=
  ⟨hb.os.trans h.os, hb.tape.trans h.tape, hb.output.trans h.output, Nat.le_trans h.size hb.size, fun k hk hne => (hb.block k hk).trans (h.block k hk hne)⟩
theorem body_world10 {P : Program} {f : Func} {Q : Ending → World → Prop} {ex : Exit} {a : Act} {w : World} (R : World → Prop) (h : R w) (k : ∀ W, R W → bodyPost P f Q ex a W) : bodyPost P f Q ex a w := k w h
theorem WRd.under {w w' : World} {g B C : Nat} {s : RdS10} (h : WRd w g B s) (hb : Below C w w') (hg : g < C) : WRd w' g B s := by
  obtain ⟨A, c, h1, h2, h3⟩ := h
  exact ⟨A, c, h1.under hb hg, h2.below hb (by omega), h3⟩
/-- what a step of a reader leaves, told of a world ahead of it -/
theorem WRo.from_ {g B : Nat} {w0 w W : World} {s : RdS10} {v : Value} {e : Ending} (hb : w0.grownBy w (some g)) (h : WRo g B v s w e W) : WRo g B v s w0 e W := ⟨h.1, h.2.1, grown_trans10 hb h.2.2⟩
set_option maxHeartbeats 1000000 in
theorem w10hard (g B : Nat) (s s1 s2 : RdS10) (t : Int) (v : Int) (w : World) (h : WRd w g B s) (l0 : s.1.length ≤ 1000000) (l1 : s1.1.length ≤ 1000000) (h1 : rdN10 s = (t, s1)) (h2 : rdN10 s1 = (v, s2)) (b0 : -9223372036854775808 ≤ v) (b1 : v ≤ 9223372036854775807) :
    Calls Tryd.prog 63 #[.pointer (some ⟨g, 0, none⟩)] w (WRo g B (.agg #[.int .i64 t, .int .i64 v]) s2 w) := by
  have hgl := h.lt
  obtain ⟨W0, hW0⟩ : ∃ W0, w.alloc (.cells #[.int .i64 0, .int .i64 0] 23) = W0 := ⟨_, rfl⟩
  have hb0 : Below w.heap.size w W0 := by rw [← hW0]; exact below_new _ _
  have hr0 : WRd W0 g B s := h.then_ hb0
  have hx0 : Rt W0 w.heap.size 23 [.int .i64 0, .int .i64 0] := by rw [← hW0]; exact Rt.new w _ _
  have hg0 : w.grownBy W0 (some g) := grows10 hb0
  have hne : w.heap.size ≠ g := by omega
  clear hb0 h
  go_enter Tryd.func63, Tryd.ntmps63
  go_wp2_with fail
  refine (w10fnum_any g B s t s1 _ hr0 l0 h1).mono ?_
  rintro e k1 ⟨rfl, hr1, hq⟩
  have hx1 := hx0.grown hq hne
  have hg1 := grown_trans10 hg0 hq
  clear hq hr0 hx0 hg0
  clear hW0
  go_wp2_with fail
  refine (w10fnum_any g B s1 v s2 _ hr1 l1 h2).mono ?_
  rintro e k2 ⟨rfl, hr2, hq⟩
  have hx2 := hx1.grown hq hne
  have hg2 := grown_trans10 hg1 hq
  clear hq hr1 hx1 hg1
  have c0 := hx2.cell (j := 0) rfl
  have f0 := hx2.frz 0
  have c1 := hx2.cell (j := 1) rfl
  have f1 := hx2.frz 1
  have WBX := Lib.hid hx2
  clear hx2
  have HR := Lib.hid hr2
  have HG := Lib.hid hg2
  clear hr2 hg2
  have hlt : w.heap.size ≤ k2.heap.size := HG.out.size
  go_wp2
  have hbs := (((Below.refl w.heap.size k2)).setCell (p := ⟨w.heap.size, 0, none⟩) (Nat.le_refl _) (.int .i64 t)).setCell (p := ⟨w.heap.size, 1, none⟩) (Nat.le_refl _) (.int .i64 v)
  have hxs : Rt _ w.heap.size 23 [.int .i64 t, .int .i64 v] := ((WBX.out.set 0 (.int .i64 t)).set 1 (.int .i64 v))
  refine body_world10 (fun W => Below w.heap.size k2 W ∧ Rt W w.heap.size 23 [.int .i64 t, .int .i64 v]) ⟨hbs, hxs⟩ ?_
  clear hbs hxs
  rintro W ⟨hbs, hxs⟩
  have d0 := hxs.cell (j := 0) rfl
  have d1 := hxs.cell (j := 1) rfl
  refine bodyPost_ret (v := .agg #[.int .i64 t, .int .i64 v]) (by simp [results, Tryd.results63, go_sem, d0, d1]) rfl ?_
  exact ⟨rfl, HR.out.under hbs hgl, grown_then10 HG.out hbs⟩
set_option maxHeartbeats 1000000 in
theorem w10entry (g B : Nat) (s s1 s2 s3 s4 : RdS10) (t : Int) (v : Int) (k : Int) (d : ByteArray) (w : World) (h : WRd w g B s) (l0 : s.1.length ≤ 1000000) (l1 : s1.1.length ≤ 1000000) (l2 : s2.1.length ≤ 1000000) (l3 : s3.1.length ≤ 1000000) (h1 : rdN10 s = (t, s1)) (h2 : rdN10 s1 = (v, s2)) (h3 : rdN10 s2 = (k, s3)) (h4 : rdT10 s3 = (d, s4)) (b0 : -9223372036854775808 ≤ k) (b1 : k ≤ 9223372036854775807) :
    Calls Tryd.prog 64 #[.pointer (some ⟨g, 0, none⟩)] w (WRo g B (.agg #[.int .i64 t, .int .i64 v, .int .i64 k, .string d]) s4 w) := by
  have hgl := h.lt
  obtain ⟨W0, hW0⟩ : ∃ W0, w.alloc (.cells #[.int .i64 0, .int .i64 0, .int .i64 0, .string ⟨#[]⟩] 25) = W0 := ⟨_, rfl⟩
  have hb0 : Below w.heap.size w W0 := by rw [← hW0]; exact below_new _ _
  have hr0 : WRd W0 g B s := h.then_ hb0
  have hx0 : Rt W0 w.heap.size 25 [.int .i64 0, .int .i64 0, .int .i64 0, .string ⟨#[]⟩] := by rw [← hW0]; exact Rt.new w _ _
  have hg0 : w.grownBy W0 (some g) := grows10 hb0
  have hne : w.heap.size ≠ g := by omega
  clear hb0 h
  go_enter Tryd.func64, Tryd.ntmps64
  go_wp2_with fail
  refine (w10fnum_any g B s t s1 _ hr0 l0 h1).mono ?_
  rintro e k1 ⟨rfl, hr1, hq⟩
  have hx1 := hx0.grown hq hne
  have hg1 := grown_trans10 hg0 hq
  clear hq hr0 hx0 hg0
  clear hW0
  go_wp2_with fail
  refine (w10fnum_any g B s1 v s2 _ hr1 l1 h2).mono ?_
  rintro e k2 ⟨rfl, hr2, hq⟩
  have hx2 := hx1.grown hq hne
  have hg2 := grown_trans10 hg1 hq
  clear hq hr1 hx1 hg1
  go_wp2_with fail
  refine (w10fnum_any g B s2 k s3 _ hr2 l2 h3).mono ?_
  rintro e k3 ⟨rfl, hr3, hq⟩
  have hx3 := hx2.grown hq hne
  have hg3 := grown_trans10 hg2 hq
  clear hq hr2 hx2 hg2
  go_wp2_with fail
  refine (w10ftxt_any g B s3 d s4 _ hr3 l3 h4).mono ?_
  rintro e k4 ⟨rfl, hr4, hq⟩
  have hx4 := hx3.grown hq hne
  have hg4 := grown_trans10 hg3 hq
  clear hq hr3 hx3 hg3
  have c0 := hx4.cell (j := 0) rfl
  have f0 := hx4.frz 0
  have c1 := hx4.cell (j := 1) rfl
  have f1 := hx4.frz 1
  have c2 := hx4.cell (j := 2) rfl
  have f2 := hx4.frz 2
  have c3 := hx4.cell (j := 3) rfl
  have f3 := hx4.frz 3
  have WBX := Lib.hid hx4
  clear hx4
  have HR := Lib.hid hr4
  have HG := Lib.hid hg4
  clear hr4 hg4
  have hlt : w.heap.size ≤ k4.heap.size := HG.out.size
  go_wp2
  have hbs := (((((Below.refl w.heap.size k4)).setCell (p := ⟨w.heap.size, 0, none⟩) (Nat.le_refl _) (.int .i64 t)).setCell (p := ⟨w.heap.size, 1, none⟩) (Nat.le_refl _) (.int .i64 v)).setCell (p := ⟨w.heap.size, 2, none⟩) (Nat.le_refl _) (.int .i64 k)).setCell (p := ⟨w.heap.size, 3, none⟩) (Nat.le_refl _) (.string d)
  have hxs : Rt _ w.heap.size 25 [.int .i64 t, .int .i64 v, .int .i64 k, .string d] := ((((WBX.out.set 0 (.int .i64 t)).set 1 (.int .i64 v)).set 2 (.int .i64 k)).set 3 (.string d))
  refine body_world10 (fun W => Below w.heap.size k4 W ∧ Rt W w.heap.size 25 [.int .i64 t, .int .i64 v, .int .i64 k, .string d]) ⟨hbs, hxs⟩ ?_
  clear hbs hxs
  rintro W ⟨hbs, hxs⟩
  have d0 := hxs.cell (j := 0) rfl
  have d1 := hxs.cell (j := 1) rfl
  have d2 := hxs.cell (j := 2) rfl
  have d3 := hxs.cell (j := 3) rfl
  refine bodyPost_ret (v := .agg #[.int .i64 t, .int .i64 v, .int .i64 k, .string d]) (by simp [results, Tryd.results64, go_sem, d0, d1, d2, d3]) rfl ?_
  exact ⟨rfl, HR.out.under hbs hgl, grown_then10 HG.out hbs⟩
set_option maxHeartbeats 1000000 in
theorem w10head (g B : Nat) (s s1 s2 s3 : RdS10) (t : Int) (v : Int) (k : ByteArray) (w : World) (h : WRd w g B s) (l0 : s.1.length ≤ 1000000) (l1 : s1.1.length ≤ 1000000) (l2 : s2.1.length ≤ 1000000) (h1 : rdN10 s = (t, s1)) (h2 : rdN10 s1 = (v, s2)) (h3 : rdT10 s2 = (k, s3)) (s4 : RdS10) (d : Int) (l3 : s3.1.length ≤ 1000000) (h4 : rdN10 s3 = (d, s4)) (b0 : -9223372036854775808 ≤ d) (b1 : d ≤ 9223372036854775807) :
    Calls Tryd.prog 51 #[.pointer (some ⟨g, 0, none⟩)] w (WRo g B (.tuple #[.agg #[.int .i64 t, .int .i64 v, .string k, .string ⟨#[]⟩], .int .i64 d]) s4 w) := by
  have hgl := h.lt
  obtain ⟨W0, hW0⟩ : ∃ W0, w.alloc (.cells #[.int .i64 0, .int .i64 0, .string ⟨#[]⟩, .string ⟨#[]⟩] 55) = W0 := ⟨_, rfl⟩
  have hb0 : Below w.heap.size w W0 := by rw [← hW0]; exact below_new _ _
  have hr0 : WRd W0 g B s := h.then_ hb0
  have hx0 : Rt W0 w.heap.size 55 [.int .i64 0, .int .i64 0, .string ⟨#[]⟩, .string ⟨#[]⟩] := by rw [← hW0]; exact Rt.new w _ _
  have hg0 : w.grownBy W0 (some g) := grows10 hb0
  have hne : w.heap.size ≠ g := by omega
  clear hb0 h
  go_enter Tryd.func51, Tryd.ntmps51
  go_wp2_with fail
  refine (w10fnum_any g B s t s1 _ hr0 l0 h1).mono ?_
  rintro e k1 ⟨rfl, hr1, hq⟩
  have hx1 := hx0.grown hq hne
  have hg1 := grown_trans10 hg0 hq
  clear hq hr0 hx0 hg0
  clear hW0
  go_wp2_with fail
  refine (w10fnum_any g B s1 v s2 _ hr1 l1 h2).mono ?_
  rintro e k2 ⟨rfl, hr2, hq⟩
  have hx2 := hx1.grown hq hne
  have hg2 := grown_trans10 hg1 hq
  clear hq hr1 hx1 hg1
  go_wp2_with fail
  refine (w10ftxt_any g B s2 k s3 _ hr2 l2 h3).mono ?_
  rintro e k3 ⟨rfl, hr3, hq⟩
  have hx3 := hx2.grown hq hne
  have hg3 := grown_trans10 hg2 hq
  clear hq hr2 hx2 hg2
  have c0 := hx3.cell (j := 0) rfl
  have f0 := hx3.frz 0
  have c1 := hx3.cell (j := 1) rfl
  have f1 := hx3.frz 1
  have c2 := hx3.cell (j := 2) rfl
  have f2 := hx3.frz 2
  have c3 := hx3.cell (j := 3) rfl
  have f3 := hx3.frz 3
  have WBX := Lib.hid hx3
  clear hx3
  have HR := Lib.hid hr3
  have HG := Lib.hid hg3
  clear hr3 hg3
  have hlt : w.heap.size ≤ k3.heap.size := HG.out.size
  go_wp2_with fail
  obtain ⟨W3, hW3⟩ : ∃ W3, k3.alloc (.cells #[.int .i64 t, .int .i64 v, .string k, .string ⟨#[]⟩] 55) = W3 := ⟨_, rfl⟩
  rw [hW3]
  have hbx : Below k3.heap.size k3 W3 := by rw [← hW3]; exact below_new _ _
  have hbd : Below k3.heap.size k3 W3.drew := hbx.drew
  have hx : Rt W3 k3.heap.size 55 [.int .i64 t, .int .i64 v, .string k, .string ⟨#[]⟩] := by rw [← hW3]; exact Rt.new k3 _ _
  have hrD : WRd W3.drew g B s3 := HR.out.then_ hbd
  have hgl3 : g < k3.heap.size := HR.out.lt
  have hxD : Rt W3.drew k3.heap.size 55 [.int .i64 t, .int .i64 v, .string k, .string ⟨#[]⟩] := hx
  have hgD : w.grownBy W3.drew (some g) := grown_then10 HG.out (hbx.mono hlt).drew
  have hw3 : w.heap.size < k3.heap.size := WBX.out.lt
  have hxw : Rt W3.drew w.heap.size 55 [.int .i64 0, .int .i64 0, .string ⟨#[]⟩, .string ⟨#[]⟩] := WBX.out.below hbd
  have hne3 : k3.heap.size ≠ g := by omega
  have nx : k3.heap.size ≠ w.heap.size := by omega
  have e0 : W3.drew.cell? ⟨k3.heap.size, 0, none⟩ = some (.int .i64 t) := hxD.cell rfl
  have e1 : W3.drew.cell? ⟨k3.heap.size, 1, none⟩ = some (.int .i64 v) := hxD.cell rfl
  have e2 : W3.drew.cell? ⟨k3.heap.size, 2, none⟩ = some (.string k) := hxD.cell rfl
  have e3 : W3.drew.cell? ⟨k3.heap.size, 3, none⟩ = some (.string ⟨#[]⟩) := hxD.cell rfl
  clear hx hbx hbd
  refine wp_region_noPanic ?_
  refine wp_region_held_drew (S := fun W => W.cell? ⟨k3.heap.size, 0, none⟩ = some (.int .i64 t) ∧ W.cell? ⟨k3.heap.size, 1, none⟩ = some (.int .i64 v) ∧ W.cell? ⟨k3.heap.size, 2, none⟩ = some (.string k) ∧ W.cell? ⟨k3.heap.size, 3, none⟩ = some (.string ⟨#[]⟩)) (by kernel_rfl) ?_ (fun hHeld => ?_)
  · exact ⟨e0, e1, e2, e3⟩
  refine wpAnyH_take (i := 0) (oi := { dst := some 12, op := Op.load 55 (Operand.tmp 4), type := 55, pos := "reader.go:49", after := #[], guard := none }) (v := .agg #[.int .i64 t, .int .i64 v, .string k, .string ⟨#[]⟩]) rfl (by kernel_rfl) (by kernel_rfl) (by kernel_rfl) (fun _ _ _ h => h) (Or.inl ⟨by rfl, fun w hSw => ?_⟩) (by assumption) ?_
  · (try dsimp only at hSw)
    go_simp
  try simp only [Act.put, List.setIfInBounds_toArray, List.set_cons_zero, List.set_cons_succ]
  refine wpAnyH_take (i := 1) (oi := { dst := some 13, op := Op.move (Operand.tmp 0), type := 112, pos := "reader.go:49", after := #[], guard := none }) (v := .pointer (some ⟨g, 0, none⟩)) rfl (by kernel_rfl) (by kernel_rfl) (by kernel_rfl) (fun _ _ _ h => h) (Or.inl ⟨by rfl, fun w hSw => ?_⟩) (by assumption) ?_
  · (try dsimp only at hSw)
    go_simp
  try simp only [Act.put, List.setIfInBounds_toArray, List.set_cons_zero, List.set_cons_succ]
  refine wpAnyH_ready (rs := [2]) (by kernel_rfl) (by simp) ?_
  refine AllReadyH.cons (o := { dst := some 14, op := Op.call { callee := Callee.value (Operand.func 67), args := #[Operand.tmp 13], argTypes := #[112] }, type := 2, pos := "reader.go:49", after := #[{ on := 1, ground := Ground.data }], guard := none }) rfl (fun K hK => ?_) AllReadyH.nil
  go_simp
  go_at_call 67
  refine (w10fnum_any g B s3 d s4 _ hrD l3 h4).mono ?_
  rintro e k4 ⟨rfl, hr4, hq⟩
  have hx4 := hxD.grown hq hne3
  have hxw4 := hxw.grown hq hne
  have hg4 := grown_trans10 hgD hq
  have z0 := hxw4.cell (j := 0) rfl
  have z1 := hxw4.cell (j := 1) rfl
  have z2 := hxw4.cell (j := 2) rfl
  have z3 := hxw4.cell (j := 3) rfl
  have y0 := hxw4.frz 0
  have y1 := hxw4.frz 1
  have y2 := hxw4.frz 2
  have y3 := hxw4.frz 3
  refine hK.out _ _ ?_ (fun hHeld => ?_)
  · exact ⟨hx4.cell rfl, hx4.cell rfl, hx4.cell rfl, hx4.cell rfl⟩
  clear hK K
  try simp only [Act.put, List.setIfInBounds_toArray, List.set_cons_zero, List.set_cons_succ]
  refine wpAnyH_ready (rs := [3]) (by kernel_rfl) (by simp) ?_
  refine AllReadyH.cons (o := { dst := none, op := Op.store 55 (Operand.tmp 2) (Operand.tmp 12), type := 0, pos := "reader.go:49", after := #[{ on := 0, ground := Ground.data }, { on := 2, ground := Ground.chain }, { on := 0, ground := Ground.phase }, { on := 1, ground := Ground.textOnly Departure.lateStores }, { on := 2, ground := Ground.textOnly Departure.lateStoresUnsure }], guard := none }) rfl (fun K hK => ?_) AllReadyH.nil
  go_simp
  refine hK.out _ _ ?_ (fun hHeld => ?_)
  · exact ⟨((((hx4.other 0 (.int .i64 t) nx).other 1 (.int .i64 v) nx).other 2 (.string k) nx).other 3 (.string ⟨#[]⟩) nx).cell rfl, ((((hx4.other 0 (.int .i64 t) nx).other 1 (.int .i64 v) nx).other 2 (.string k) nx).other 3 (.string ⟨#[]⟩) nx).cell rfl, ((((hx4.other 0 (.int .i64 t) nx).other 1 (.int .i64 v) nx).other 2 (.string k) nx).other 3 (.string ⟨#[]⟩) nx).cell rfl, ((((hx4.other 0 (.int .i64 t) nx).other 1 (.int .i64 v) nx).other 2 (.string k) nx).other 3 (.string ⟨#[]⟩) nx).cell rfl⟩
  clear hK K
  try simp only [Act.put, List.setIfInBounds_toArray, List.set_cons_zero, List.set_cons_succ]
  refine wpAnyH_ready (rs := [4]) (by kernel_rfl) (by simp) ?_
  refine AllReadyH.cons (o := { dst := some 3, op := Op.assign (Operand.tmp 14), type := 3, pos := "reader.go:49", after := #[{ on := 2, ground := Ground.data }, { on := 3, ground := Ground.chain }, { on := 0, ground := Ground.phase }, { on := 1, ground := Ground.phase }, { on := 2, ground := Ground.phase }, { on := 3, ground := Ground.phase }], guard := none }) rfl (fun K hK => ?_) AllReadyH.nil
  go_simp
  refine hK.out _ _ ?_ (fun hHeld => ?_)
  · exact ⟨((((hx4.other 0 (.int .i64 t) nx).other 1 (.int .i64 v) nx).other 2 (.string k) nx).other 3 (.string ⟨#[]⟩) nx).cell rfl, ((((hx4.other 0 (.int .i64 t) nx).other 1 (.int .i64 v) nx).other 2 (.string k) nx).other 3 (.string ⟨#[]⟩) nx).cell rfl, ((((hx4.other 0 (.int .i64 t) nx).other 1 (.int .i64 v) nx).other 2 (.string k) nx).other 3 (.string ⟨#[]⟩) nx).cell rfl, ((((hx4.other 0 (.int .i64 t) nx).other 1 (.int .i64 v) nx).other 2 (.string k) nx).other 3 (.string ⟨#[]⟩) nx).cell rfl⟩
  clear hK K
  try simp only [Act.put, List.setIfInBounds_toArray, List.set_cons_zero, List.set_cons_succ]
  refine wpAnyH_done (by kernel_rfl) ?_ _
  refine NoPanic.normal ?_
  go_wp2
  have hbs := ((((Below.refl w.heap.size k4).setCell (p := ⟨w.heap.size, 0, none⟩) (Nat.le_refl _) (.int .i64 t)).setCell (p := ⟨w.heap.size, 1, none⟩) (Nat.le_refl _) (.int .i64 v)).setCell (p := ⟨w.heap.size, 2, none⟩) (Nat.le_refl _) (.string k)).setCell (p := ⟨w.heap.size, 3, none⟩) (Nat.le_refl _) (.string ⟨#[]⟩)
  have hxs : Rt _ w.heap.size 55 [.int .i64 t, .int .i64 v, .string k, .string ⟨#[]⟩] := (((hxw4.set 0 (.int .i64 t)).set 1 (.int .i64 v)).set 2 (.string k)).set 3 (.string ⟨#[]⟩)
  refine body_world10 (fun W => Below w.heap.size k4 W ∧ Rt W w.heap.size 55 [.int .i64 t, .int .i64 v, .string k, .string ⟨#[]⟩]) ⟨hbs, hxs⟩ ?_
  clear hbs hxs
  rintro W ⟨hbs, hxs⟩
  have d0 := hxs.cell (j := 0) rfl
  have d1 := hxs.cell (j := 1) rfl
  have d2 := hxs.cell (j := 2) rfl
  have d3 := hxs.cell (j := 3) rfl
  refine bodyPost_ret (v := .tuple #[.agg #[.int .i64 t, .int .i64 v, .string k, .string ⟨#[]⟩], .int .i64 d]) (by simp [results, Tryd.results51, go_sem, d0, d1, d2, d3]) rfl ?_
  exact ⟨rfl, hr4.under hbs hgl, grown_then10 hg4 hbs⟩
set_option maxHeartbeats 400000 in
theorem w10done (g B : Nat) (s : RdS10) (w : World) (h : WRd w g B s) (hl : s.1.length ≤ 1000000) :
    Calls Tryd.prog 52 #[.pointer (some ⟨g, 0, none⟩)] w fun e w' => e = .returned (.bool (!s.2 && s.1.length == 0)) ∧ w' = w := by
  obtain ⟨l, b⟩ := s
  obtain ⟨A, c, hr, hby, _⟩ := h
  simp only at hr hl
  have c0 := hr.cell (j := 0) rfl
  have c1 := hr.cell (j := 1) rfl
  clear hr hby
  obtain ⟨n, hn⟩ : ∃ n, l.length = n := ⟨_, rfl⟩
  simp only [hn] at *
  cases b with
  | true =>
    go_enter Tryd.func52, Tryd.ntmps52
    go_wp2
    go_ret
    exact ⟨rfl, rfl⟩
  | false =>
    go_enter Tryd.func52, Tryd.ntmps52
    go_wp2
    go_ret
    refine ⟨?_, rfl⟩
    have : ((n : Int) == 0) = (n == 0) := by rw [Bool.eq_iff_iff]; simp
    simp [this]
end Go.Proofs.YtdigpeipklfaeaaDoor
/-
  Package frame's readHead reads a kind and a length as the plain function says.
  The bytes are there in memory, at most 1,000,000.
-/
set_option linter.unusedSimpArgs false
set_option linter.unusedVariables false
namespace Go.Proofs.YtdigpeipklfaeaaDoor
open Go.RowKit
set_option maxRecDepth 100000

/-- how many bytes the kind and the length at the beginning take, that length, the error -/
def headP (l : List UInt8) : Nat × Nat × Nat :=
  if l.length = 0 then (0, 0, 2)
  else if (l.headD 0).toNat = 0 then (0, 0, 3)
  else if (Nu.get (l.drop 1)).2.2 = 2 ∧ l.length ≤ 2 then (0, 0, 2)
  else if (Nu.get (l.drop 1)).2.2 ≠ 0 ∨ (Nu.get (l.drop 1)).1 < 0 ∨ 4000 < (Nu.get (l.drop 1)).1 then (0, 0, 3)
  else (1 + (Nu.get (l.drop 1)).2.1, (Nu.get (l.drop 1)).1.toNat, 0)
theorem headP_err {l : List UInt8} {a b e : Nat} (h : headP l = (a, b, e)) (he : e ≠ 0) : openB l = (0, [], 0, e) ∧ a = 0 ∧ b = 0 := by
  unfold headP at h
  unfold openB
  by_cases h1 : l.length = 0
  · rw [if_pos h1] at h ⊢; simp only [Prod.mk.injEq] at h; obtain ⟨rfl, rfl, rfl⟩ := h; exact ⟨rfl, rfl, rfl⟩
  rw [if_neg h1] at h ⊢
  by_cases h2 : (l.headD 0).toNat = 0
  · rw [if_pos h2] at h ⊢; simp only [Prod.mk.injEq] at h; obtain ⟨rfl, rfl, rfl⟩ := h; exact ⟨rfl, rfl, rfl⟩
  rw [if_neg h2] at h ⊢
  by_cases h3 : (Nu.get (l.drop 1)).2.2 = 2
  · by_cases h4 : l.length ≤ 2
    · rw [if_pos ⟨h3, h4⟩] at h
      rw [if_neg (by omega), if_pos h3]
      simp only [Prod.mk.injEq] at h; obtain ⟨rfl, rfl, rfl⟩ := h; exact ⟨rfl, rfl, rfl⟩
    · rw [if_neg (fun h => h4 h.2), if_pos (.inl (by omega))] at h
      rw [if_pos ⟨h3, by omega⟩]
      simp only [Prod.mk.injEq] at h; obtain ⟨rfl, rfl, rfl⟩ := h; exact ⟨rfl, rfl, rfl⟩
  · rw [if_neg (fun h => h3 h.1)] at h ⊢
    rw [if_neg h3]
    by_cases h5 : (Nu.get (l.drop 1)).2.2 ≠ 0 ∨ (Nu.get (l.drop 1)).1 < 0 ∨ 4000 < (Nu.get (l.drop 1)).1
    · rw [if_pos h5] at h ⊢; simp only [Prod.mk.injEq] at h; obtain ⟨rfl, rfl, rfl⟩ := h; exact ⟨rfl, rfl, rfl⟩
    · rw [if_neg h5] at h
      simp only [Prod.mk.injEq] at h; exact absurd h.2.2.symm he
theorem headP_ok {l : List UInt8} {a n : Nat} (h : headP l = (a, n, 0)) : ∃ (x : UInt8) (r : List UInt8), l = x :: (Nu.put (n : Int) ++ r) ∧ a = 1 + (Nu.put (n : Int)).length ∧ x.toNat ≠ 0 ∧ n ≤ 4000 := by
  unfold headP at h
  by_cases h1 : l.length = 0
  · rw [if_pos h1] at h; simp at h
  rw [if_neg h1] at h
  by_cases h2 : (l.headD 0).toNat = 0
  · rw [if_pos h2] at h; simp at h
  rw [if_neg h2] at h
  by_cases h3 : (Nu.get (l.drop 1)).2.2 = 2 ∧ l.length ≤ 2
  · rw [if_pos h3] at h; simp at h
  rw [if_neg h3] at h
  by_cases h5 : (Nu.get (l.drop 1)).2.2 ≠ 0 ∨ (Nu.get (l.drop 1)).1 < 0 ∨ 4000 < (Nu.get (l.drop 1)).1
  · rw [if_pos h5] at h; simp at h
  rw [if_neg h5] at h
  simp only [Prod.mk.injEq, and_true] at h
  obtain ⟨rfl, rfl⟩ := h
  obtain ⟨x, t, rfl⟩ : ∃ x t, l = x :: t := by cases l with | nil => simp at h1 | cons x t => exact ⟨x, t, rfl⟩
  simp only [List.drop_succ_cons, List.drop_zero] at h5 ⊢
  obtain ⟨g, hg⟩ : ∃ g, Nu.get t = g := ⟨_, rfl⟩
  obtain ⟨m, k, e⟩ := g
  rw [hg] at h5 ⊢
  simp only at h5 ⊢
  have he : e = 0 := by omega
  subst he
  have hm : ((m.toNat : Nat) : Int) = m := by omega
  rw [hm]
  exact ⟨x, t.drop k, by rw [← Nu.get_split t m k hg], by rw [(Nu.get_canon t m k hg).2.1], h2, by omega⟩
set_option maxHeartbeats 1000000 in
theorem fhead_any (A : Option Addr) (c B : Nat) (l : List UInt8) (w : World) (h : Byt w B (.slice A l.length c) l) (hl : l.length ≤ 1000000) :
    Calls Tryd.prog 60 #[.slice A l.length c] w fun e w' => e = .returned (.tuple #[.int .i64 ((headP l).1 : Nat), .int .i64 ((headP l).2.1 : Nat), .int .i64 ((headP l).2.2 : Nat)]) ∧ w = w' := by
  obtain ⟨A', c', hv, hc, hcell⟩ := id h
  injection hv with e1 _ e2; subst e1; subst e2
  by_cases h0 : l.length = 0
  · have hf : headP l = (0, 0, 2) := by unfold headP; rw [if_pos h0]
    have h00 : (l.length : Int) = 0 := by omega
    rw [hf]
    clear hf h0
    go_enter Tryd.func60, Tryd.ntmps60
    go_wp2
    go_ret3
    exact ⟨rfl, rfl⟩
  · obtain ⟨g, o, rfl, hg, hcs⟩ := hcell (by omega)
    obtain ⟨x, t, rfl⟩ : ∃ x t, l = x :: t := by cases l with | nil => simp at h0 | cons x t => exact ⟨x, t, rfl⟩
    have hx0 : w.cell? ⟨g, o, none⟩ = some (.int .u8 (x.toNat : Int)) := hcs 0 (by simp)
    have hb := x.toNat_lt
    by_cases hz : x.toNat = 0
    · have hf : headP (x :: t) = (0, 0, 3) := by unfold headP; rw [if_neg (by simp), if_pos (show ((x :: t).headD 0).toNat = 0 from hz)]
      have hz2 : ((x.toNat : Int) == 0) = true := by rw [hz]; rfl
      rw [hf]
      clear hf hz
      go_enter Tryd.func60, Tryd.ntmps60
      go_wp2
      go_ret3
      exact ⟨rfl, rfl⟩
    · have hz2 : ((x.toNat : Int) == 0) = false := by rw [beq_eq_false_iff_ne]; omega
      obtain ⟨gg, hgg⟩ : ∃ gg, Nu.get t = gg := ⟨_, rfl⟩
      obtain ⟨n, k, e⟩ := gg
      have hop : headP (x :: t) = if e = 2 ∧ t.length + 1 ≤ 2 then (0, 0, 2) else if e ≠ 0 ∨ n < 0 ∨ 4000 < n then (0, 0, 3) else (1 + k, n.toNat, 0) := by
        unfold headP
        rw [if_neg (by simp), if_neg (show ¬ ((x :: t).headD 0).toNat = 0 from hz)]
        simp only [List.length_cons, List.drop_succ_cons, List.drop_zero, hgg]
      clear hz
      by_cases hc1 : c = 1
      · have ht : t = [] := by cases t with | nil => rfl | cons y s => simp at hc; omega
        subst ht
        have hn0 : Nu.get [] = (0, 0, 2) := rfl
        rw [hn0] at hgg
        simp only [Prod.mk.injEq] at hgg
        obtain ⟨rfl, rfl, rfl⟩ := hgg
        rw [if_pos ⟨rfl, by simp⟩] at hop
        rw [hop]
        subst hc1
        have hby : Byt w B (.slice (some ⟨g, o, none⟩) 0 0) [] := ⟨_, _, rfl, Nat.le_refl _, fun h => absurd h (by simp)⟩
        have HBY := Lib.hid hby
        clear hcs hcell h hby hop
        go_enter Tryd.func60, Tryd.ntmps60
        go_wp2_with fail
        refine (nget_any _ _ B [] w HBY.out (by simp)).mono ?_
        rintro e' w' ⟨rfl, rfl⟩
        go_wp2
        go_ret3
        exact ⟨rfl, rfl⟩
      · have hcut := h.cut (k := 1) (by simp)
        rw [if_neg hc1, add_lit] at hcut
        simp only [List.length_cons, Nat.add_sub_cancel, List.drop_succ_cons, List.drop_zero] at hcut
        have HCUT := Lib.hid hcut; clear hcut
        clear hcs hcell h
        have hget : ∀ (w : World), Byt w B (.slice (some ⟨g, o + 1, none⟩) t.length (c - 1)) t → Calls Tryd.prog 74 #[.slice (some ⟨g, o + 1, none⟩) t.length (c - 1)] w fun x w' => x = .returned (.tuple #[.int .i64 n, .int .i64 k, .int .i64 e]) ∧ w = w' := fun w hw => by
          have := nget_any _ _ B t w hw (by simp at hl; omega)
          rw [hgg] at this; exact this
        have HGET := Lib.hid hget; clear hget
        have hlc : (t.length : Int) + 1 ≤ (c : Int) := by simp at hc; omega
        have htl : t.length ≤ 1000000 := by simp at hl; omega
        have hkt := Nu.get_len t
        rw [hgg] at hkt
        simp only at hkt
        have he3 := Nu.get_err t
        rw [hgg] at he3
        simp only at he3
        have fin : ∀ (a b c : Nat), headP (x :: t) = (a, b, c) → (.int .i64 ((headP (x :: t)).1 : Nat) : Value) = .int .i64 (a : Int) ∧ (.int .i64 ((headP (x :: t)).2.1 : Nat) : Value) = .int .i64 (b : Int) ∧ (.int .i64 ((headP (x :: t)).2.2 : Nat) : Value) = .int .i64 (c : Int) := fun a b c h => by rw [h]; exact ⟨rfl, rfl, rfl⟩
        have HFIN := Lib.hid fin; clear fin
        by_cases he2 : e = 2
        · subst he2
          clear hgg he3
          by_cases hl2 : t.length + 1 ≤ 2
          · rw [if_pos ⟨rfl, hl2⟩] at hop
            have hl3 : (t.length : Int) + 1 ≤ 2 := by omega
            rw [hop]; clear hop
            go_enter Tryd.func60, Tryd.ntmps60
            go_wp2_with fail
            refine (HGET.out w HCUT.out).mono ?_
            rintro e' w' ⟨rfl, rfl⟩
            go_wp2
            go_ret3
            exact ⟨rfl, rfl⟩
          · rw [if_neg (fun h => hl2 h.2), if_pos (.inl (by omega))] at hop
            have hl3 : 2 < (t.length : Int) + 1 := by omega
            rw [hop]; clear hop
            go_enter Tryd.func60, Tryd.ntmps60
            go_wp2_with fail
            refine (HGET.out w HCUT.out).mono ?_
            rintro e' w' ⟨rfl, rfl⟩
            go_wp2
            go_ret3
            exact ⟨rfl, rfl⟩
        · rw [if_neg (fun h => he2 h.1)] at hop
          by_cases he0 : e = 0
          · subst he0
            obtain ⟨hn0, hn1⟩ := (Nu.get_canon t n k hgg).2.2
            clear hgg he3 he2
            by_cases hn : n < 0 ∨ 4000 < n
            · rw [if_pos (.inr hn)] at hop
              rw [hop]; clear hop
              have hcs : n < 0 ∨ (0 ≤ n ∧ 4000 < n) := by omega
              clear hn
              rcases hcs with h1 | ⟨h1, h2⟩
              all_goals
                go_enter Tryd.func60, Tryd.ntmps60
                go_wp2_with fail
                refine (HGET.out w HCUT.out).mono ?_
                rintro e' w' ⟨rfl, rfl⟩
                go_wp2
                go_ret3
                exact ⟨rfl, rfl⟩
            · rw [if_neg (by omega)] at hop
              rw [hop]; clear hop
              have h1 : 0 ≤ n := by omega
              have h2 : n ≤ 4000 := by omega
              obtain ⟨m, rfl⟩ : ∃ m : Nat, n = (m : Int) := ⟨n.toNat, by omega⟩
              clear hn hn0 hn1
              go_enter Tryd.func60, Tryd.ntmps60
              go_wp2_with fail
              refine (HGET.out w HCUT.out).mono ?_
              rintro e' w' ⟨rfl, rfl⟩
              go_wp2
              go_ret3
              exact ⟨by simp, rfl⟩
          · have he1 : e = 1 := by omega
            subst he1
            rw [if_pos (.inl (by omega))] at hop
            rw [hop]; clear hop hgg
            go_enter Tryd.func60, Tryd.ntmps60
            go_wp2_with fail
            refine (HGET.out w HCUT.out).mono ?_
            rintro e' w' ⟨rfl, rfl⟩
            go_wp2
            go_ret3
            exact ⟨rfl, rfl⟩
end Go.Proofs.YtdigpeipklfaeaaDoor
/-
  Contracts of the library's functions that the program calls, laid at the program's own numbers by the kit's tool.
-/
namespace Go.Proofs
open Go.Shelf
def Tryd.lays115_ren : Go.Shelf.Ren := ⟨fun | 115 => 61 | n => n, fun | 37 => 30 | 4 => 4 | 9 => 9 | 5 => 5 | n => n, fun | n => n⟩
theorem Tryd.lays115 : Go.Proofs.Lays.n115 Tryd.prog Tryd.lays115_ren := {
  mixed := by kernel_rfl
  f115 := Tryd.func61.trans (congrArg some (by kernel_rfl))
  t4 := Tryd.underlying4
  a4 := Tryd.isAgg4
  z4 := Tryd.sizeOf4
  v4 := Tryd.zeroValue4
  t9 := Tryd.underlying9
  a9 := Tryd.isAgg9
  z9 := Tryd.sizeOf9
  v9 := Tryd.zeroValue9
  t37 := Tryd.underlying30
  a37 := Tryd.isAgg30
  z37 := Tryd.sizeOf30
  v37 := Tryd.zeroValue30 }
open Go.Proofs Go.RowKit Go.Lib in
theorem Tryd.bytes_Equal_strs (v1 v2 : Value) (t1 t2 : ByteArray) (w : World) (h1 : (convert 30 9 v1).run Tryd.prog w = .ok (.string t1) w) (h2 : (convert 30 9 v2).run Tryd.prog w = .ok (.string t2) w) :
    Calls Tryd.prog 61 #[v1, v2] w fun e w' => e = .returned (.bool (t1.toList == t2.toList)) ∧ w' = w := Any.bytes_Equal_strs Tryd.lays115 v1 v2 t1 t2 w h1 h2
def Tryd.laysSlK4_ren : Go.Shelf.Ren := ⟨fun | 4 => 62 | n => n, fun | 22 => 30 | 4 => 4 | 5 => 5 | n => n, fun | n => n⟩
theorem Tryd.laysSlK4 : Go.Proofs.SlLaysK.n4 Tryd.prog Tryd.laysSlK4_ren := {
  mixed := by kernel_rfl
  f4 := Tryd.func62.trans (congrArg some (by kernel_rfl))
  t4 := Tryd.underlying4
  a4 := Tryd.isAgg4
  z4 := Tryd.sizeOf4
  v4 := Tryd.zeroValue4
  t22 := Tryd.underlying30
  a22 := Tryd.isAgg30
  z22 := Tryd.sizeOf30
  v22 := Tryd.zeroValue30
  t5 := Tryd.underlying5
  i5 := by kernel_rfl }
open Go.RowKit Go.Lib in
theorem Tryd.bytes_Clone_at (a : Addr) (n c : Nat) (xs : List Int) (w : World) (hx : xs.length = n) (hbig : n ≤ 140737488355328) (hc : ∀ i, i < n → w.cell? (a.add i) = some (.int .u8 (xs.getD i 0))) :
    Calls Tryd.prog 62 #[.slice (some a) n c] w fun e w' => ∃ v', e = .returned v' ∧ w'.ownsRow w.heap.size 5 1 v' n (xs.map (Value.int .u8)) ∧ v' ≠ .slice none 0 0 ∧ Below w.heap.size w w' := Any.bytes_Clone_at Tryd.laysSlK4 a n c xs w hx hbig hc
open Go.RowKit Go.Lib in
theorem Tryd.bytes_Clone_nil (n c : Nat) (w : World) :
    Calls Tryd.prog 62 #[.slice none n c] w fun e w' => e = .returned (.slice none 0 0) ∧ w' = w := Any.bytes_Clone_nil Tryd.laysSlK4 n c w
def Tryd.laysnb115_ren : Go.Shelf.Ren := ⟨fun | 115 => 61 | n => n, fun | 37 => 30 | 4 => 4 | 9 => 9 | 5 => 5 | n => n, fun | n => n⟩
theorem Tryd.laysnb115 : Go.Proofs.Lays.nb115 Tryd.prog Tryd.laysnb115_ren := {
  mixed := by kernel_rfl
  f115 := Tryd.func61.trans (congrArg some (by kernel_rfl))
  t4 := Tryd.underlying4
  a4 := Tryd.isAgg4
  z4 := Tryd.sizeOf4
  v4 := Tryd.zeroValue4
  t9 := Tryd.underlying9
  a9 := Tryd.isAgg9
  z9 := Tryd.sizeOf9
  v9 := Tryd.zeroValue9
  t37 := Tryd.underlying30
  a37 := Tryd.isAgg30
  z37 := Tryd.sizeOf30
  v37 := Tryd.zeroValue30
  t5 := Tryd.underlying5
  a5 := Tryd.isAgg5
  z5 := Tryd.sizeOf5
  v5 := Tryd.zeroValue5 }
theorem Tryd.bytes_Equal_all (p1 p2 : Option Addr) (n c m d : Nat) (xs ys : List Int) (w : World) (hx : xs.length = n) (hy : ys.length = m) (h1 : Lib.BytesIn w p1 n xs) (h2 : Lib.BytesIn w p2 m ys) :
    Calls Tryd.prog 61 #[.slice p1 n c, .slice p2 m d] w fun e w' => e = .returned (.bool (Lib.bytesOf xs == Lib.bytesOf ys)) ∧ w' = w := Any.bytes_Equal_all Tryd.laysnb115 p1 p2 n c m d xs ys w hx hy h1 h2
theorem Tryd.bytes_Equal (v1 v2 : Value) (xs ys : List Int) (w : World) (h1 : (convert 30 9 v1).run Tryd.prog w = .ok (.string (strOfNums xs)) w) (h2 : (convert 30 9 v2).run Tryd.prog w = .ok (.string (strOfNums ys)) w) :
    Calls Tryd.prog 61 #[v1, v2] w fun e w' => e = .returned (.bool (Lib.bytesOf xs == Lib.bytesOf ys)) ∧ w' = w := Any.bytes_Equal Tryd.lays115 v1 v2 xs ys w h1 h2
end Go.Proofs
/-
  bytes.Equal and bytes.Clone over slices that read as bytes.
  There are no conditions beyond those that each lemma names.
-/
set_option linter.unusedSimpArgs false
set_option linter.unusedVariables false
namespace Go.Proofs.YtdigpeipklfaeaaDoor
open Go.RowKit
set_option maxRecDepth 100000

theorem bytesIn_of {w : World} {B : Nat} {A : Option Addr} {n c : Nat} {l : List UInt8} (h : Byt w B (.slice A n c) l) : Lib.BytesIn w A n (l.map fun x => (x.toNat : Int)) := by
  obtain ⟨A', c', hv, _, hcell⟩ := h
  injection hv with e1 e2 _; subst e1; subst e2
  intro hn
  obtain ⟨g, o, rfl, _, hcs⟩ := hcell hn
  refine ⟨g, o, rfl, fun i hi => ?_⟩
  rw [hcs i hi]; simp [hi]
theorem lib_bytesOf (l : List UInt8) : Lib.bytesOf (l.map fun x => (x.toNat : Int)) = l := by
  unfold Lib.bytesOf; rw [List.map_map]
  conv => rhs; rw [← List.map_id l]
  apply List.map_congr_left; intro x _; simp
theorem byt_len {w : World} {B n c : Nat} {A : Option Addr} {l : List UInt8} (h : Byt w B (.slice A n c) l) : n = l.length ∧ l.length ≤ c := by
  obtain ⟨_, _, hv, hc, _⟩ := h; injection hv with _ e1 e2; subst e2; exact ⟨e1, hc⟩
theorem bequal_is (A1 A2 : Option Addr) (n1 n2 c1 c2 B1 B2 : Nat) (l m : List UInt8) (b : Bool) (w : World) (h1 : Byt w B1 (.slice A1 n1 c1) l) (h2 : Byt w B2 (.slice A2 n2 c2) m) (hb : (l == m) = b) :
    Calls Tryd.prog 61 #[.slice A1 n1 c1, .slice A2 n2 c2] w fun e w' => e = .returned (.bool b) ∧ w' = w := by
  have h := Tryd.bytes_Equal_all A1 A2 n1 c1 n2 c2 _ _ w (by rw [List.length_map, (byt_len h1).1]) (by rw [List.length_map, (byt_len h2).1]) (bytesIn_of h1) (bytesIn_of h2)
  rw [lib_bytesOf, lib_bytesOf, hb] at h
  exact h
theorem bequal_to (u v : Value) (B1 B2 : Nat) (l m : List UInt8) (b : Bool) (w : World) (h1 : Byt w B1 u l) (h2 : Byt w B2 v m) (hb : (l == m) = b) :
    Calls Tryd.prog 61 #[u, v] w fun e w' => e = .returned (.bool b) ∧ Below w.heap.size w w' := by
  obtain ⟨A1, c1, rfl, r1⟩ := id h1
  obtain ⟨A2, c2, rfl, r2⟩ := id h2
  refine (bequal_is _ _ _ _ _ _ _ _ l m b w h1 h2 hb).mono ?_
  rintro e w' ⟨rfl, rfl⟩
  exact ⟨rfl, Below.refl _ _⟩
theorem bclone_is (A : Option Addr) (n c B : Nat) (l : List UInt8) (w : World) (h : Byt w B (.slice A n c) l) (hl : l.length ≤ 1000000) :
    Calls Tryd.prog 62 #[.slice A n c] w (Made l w) := by
  obtain ⟨A', c', hv, _, hcell⟩ := h
  injection hv with e1 e2 _; subst e1; subst e2
  cases A with
  | none =>
    have h0 : l = [] := by
      cases l with
      | nil => rfl
      | cons x t => obtain ⟨g, o, h, _⟩ := hcell (by simp); cases h
    subst h0
    refine (Tryd.bytes_Clone_nil _ _ w).mono ?_
    rintro e w' ⟨rfl, rfl⟩
    exact ⟨_, rfl, ownB_nil _ _, Below.refl _ _⟩
  | some a =>
    refine (Tryd.bytes_Clone_at a l.length c (l.map fun x => (x.toNat : Int)) w (by simp) (by omega) (fun i hi => ?_)).mono ?_
    · obtain ⟨g, o, h, _, hcs⟩ := hcell (by omega)
      injection h with h; subst h
      rw [Addr.add_mid, hcs i hi]; simp [hi]
    · rintro e w' ⟨v', rfl, hown, _, hb⟩
      refine ⟨v', rfl, ?_, hb⟩
      unfold OwnB Lib.byteCells
      rw [List.map_map] at hown
      exact hown
theorem bclone_to (v : Value) (B : Nat) (l : List UInt8) (w : World) (h : Byt w B v l) (hl : l.length ≤ 1000000) : Calls Tryd.prog 62 #[v] w (Made l w) := by
  obtain ⟨A, c, rfl, _⟩ := id h
  exact bclone_is A l.length c B l w h hl
theorem conv_byt {w : World} {B : Nat} {v : Value} {l : List UInt8} {S : ByteArray} (h : Byt w B v l) (hS : (⟨l.toArray⟩ : ByteArray) = S) : (convert 30 9 v).run Tryd.prog w = .ok (.string S) w := by
  obtain ⟨A, c, rfl, _⟩ := id h
  rw [(bytesIn_of h).convert (by rw [List.length_map]) c 30 5 9 Tryd.underlying30 Tryd.underlying5 Tryd.underlying9, ← hS]
  congr 2
  unfold strOfNums
  rw [List.map_map]
  congr 2
  conv => rhs; rw [← List.map_id l]
  apply List.map_congr_left; intro x _; simp
/-- a part of bytes -/
theorem byt_sub {w : World} {B : Nat} {A : Option Addr} {c i n : Nat} {l : List UInt8} (h : Byt w B (.slice A l.length c) l) (hk : i + n ≤ l.length) : Byt w B (.slice (if c = i then A else A.map (·.add i)) n (c - i)) ((l.drop i).take n) := by
  have h2 := h.cut (k := i) (by omega)
  obtain ⟨A', c', hv, hc, hcell⟩ := h2
  injection hv with e1 e2 e3; subst e3
  rw [← e1] at hcell
  have e : ((l.drop i).take n).length = n := by rw [List.length_take, List.length_drop]; omega
  refine ⟨_, c - i, by rw [e], by rw [e]; omega, fun h0 => ?_⟩
  rw [e] at h0
  obtain ⟨g, o, hA, hg, hcs⟩ := hcell (by omega)
  refine ⟨g, o, hA, hg, fun k hk => ?_⟩
  rw [e] at hk
  rw [hcs k (by rw [List.length_drop]; omega), List.getElem_take]
theorem byt_take2 {w : World} {B n c : Nat} {A : Option Addr} {l : List UInt8} (h : Byt w B (.slice A l.length c) l) (hn : n ≤ l.length) : Byt w B (.slice A n c) (l.take n) := by
  have h2 := byt_sub (i := 0) (n := n) h (by omega)
  rw [List.drop_zero, Nat.sub_zero] at h2
  have e : (if c = 0 then A else A.map (·.add 0)) = A := by
    split
    · rfl
    · cases A <;> simp [Addr.add]
  rw [e] at h2; exact h2
end Go.Proofs.YtdigpeipklfaeaaDoor
/-
  Package frame's Open reads a frame as the plain function says, its body in new memory.
  The bytes are there in memory, at most 1,000,000; package crc's table lies as it was laid.
-/
set_option linter.unusedSimpArgs false
set_option linter.unusedVariables false
namespace Go.Proofs.YtdigpeipklfaeaaDoor
open Go.RowKit
set_option maxRecDepth 100000

/-- a frame that was told, its body in memory of its own -/
def GotO (r : Nat × List UInt8 × Nat × Nat) (w : World) (e : Ending) (w' : World) : Prop := ∃ v, e = .returned (.tuple #[.int .i64 (r.1 : Nat), v, .int .i64 (r.2.2.1 : Nat), .int .i64 (r.2.2.2 : Nat)]) ∧ OwnB w.heap.size v r.2.1 w' ∧ Below w.heap.size w w'
set_option maxHeartbeats 1000000 in
theorem fopen_any (A : Option Addr) (c B : Nat) (l : List UInt8) (w : World) (h : Byt w B (.slice A l.length c) l) (hB : B ≤ w.heap.size) (hl : l.length ≤ 1000000) (hT : Tbl w) :
    Calls Tryd.prog 42 #[.slice A l.length c] w (GotO (openB l) w) := by
  have hcap : l.length ≤ c := (byt_len h).2
  have HB := Lib.hid h
  have HT := Lib.hid hT; clear hT
  have hhd := fhead_any A c B l w h hl
  obtain ⟨r, hr⟩ : ∃ r, headP l = r := ⟨_, rfl⟩
  rw [hr] at hhd
  have HHD := Lib.hid hhd; clear hhd
  obtain ⟨a, n, e⟩ := r
  by_cases he : e = 0
  · subst he
    obtain ⟨x, r, hlr, ha, hx, hn⟩ := headP_ok hr
    have hop := openB_at x n r hx hn
    rw [← hlr] at hop
    have hP1 := Nu.put_ne (n : Int)
    have hll : l.length = a + r.length := by rw [hlr, ha]; simp; omega
    obtain ⟨P, hP⟩ : ∃ P, Nu.put (n : Int) = P := ⟨_, rfl⟩
    rw [hP] at hop hlr ha hP1
    clear hr
    have hPm : P.length ≤ 10 := by rw [← hP]; exact Nu.put_len _
    have ha1 : (a : Int) ≤ 11 := by omega
    have hn1 : (n : Int) ≤ 4000 := by omega
    by_cases hfew : r.length < 4 + n
    · rw [if_pos hfew] at hop
      rw [hop]
      have hto : (l.length : Int) < (a : Int) + 4 + n := by omega
      clear hop hlr ha hP1 hP hx h hll hfew hPm
      go_enter Tryd.func42, Tryd.ntmps42
      go_wp2_with fail
      refine HHD.out.mono ?_
      rintro e' w' ⟨rfl, rfl⟩
      go_wp2
      exact bodyPost_ret (v := .tuple #[.int .i64 0, .slice none 0 0, .int .i64 0, .int .i64 2]) (by simp [results, Tryd.results42, go_sem]) rfl ⟨_, rfl, ownB_nil _ _, Below.refl _ _⟩
    · rw [if_neg hfew] at hop
      have hto : (a : Int) + 4 + n ≤ l.length := by omega
      have hbh := byt_take2 (n := a) h (by omega)
      have hbf := byt_sub (i := a) (n := 4) h (by omega)
      have hbb := byt_sub (i := a + 4) (n := n) h (by omega)
      have e1 : l.take a = x :: P := by rw [hlr, ha, Nat.add_comm 1, List.take_succ_cons, List.take_left' rfl]
      have e2 : l.drop a = r := by rw [hlr, ha, Nat.add_comm 1, List.drop_succ_cons, List.drop_left' rfl]
      have e3 : l.drop (a + 4) = r.drop 4 := by rw [← List.drop_drop, e2]
      rw [e1] at hbh
      rw [e2] at hbf
      rw [e3] at hbb
      obtain ⟨bd, hbd⟩ : ∃ bd, (r.drop 4).take n = bd := ⟨_, rfl⟩
      obtain ⟨s, hs⟩ : ∃ s, crcSum (x :: P ++ bd) = s := ⟨_, rfl⟩
      rw [hbd, hs] at hop
      rw [hbd] at hbb
      obtain ⟨g, o, rfl, hg, hcs⟩ : ∃ g o, A = some ⟨g, o, none⟩ ∧ g < B ∧ ∀ j (h : j < l.length), w.cell? ⟨g, o + j, none⟩ = some (.int .u8 (l[j].toNat : Int)) := by
        obtain ⟨A', c', hv, _, hcell⟩ := id h
        injection hv with e1 _ e2; subst e1; subst e2
        exact hcell (by omega)
      have hx0 : w.cell? ⟨g, o, none⟩ = some (.int .u8 (x.toNat : Int)) := by
        have := hcs 0 (by omega)
        rw [Nat.add_zero] at this
        rw [this]; subst hlr; rfl
      rw [if_neg (by omega), add_lit] at hbf
      have hbdl : bd.length ≤ 1000000 := by rw [← hbd, List.length_take, List.length_drop]; omega
      have hPl : (x :: P).length ≤ 1000000 := by simp; omega
      have HOP := Lib.hid hop; have HBH := Lib.hid hbh; have HBF := Lib.hid hbf; have HBB := Lib.hid hbb; have HS := Lib.hid hs; have HA := Lib.hid ha; have HBDL := Lib.hid hbdl; have HPL := Lib.hid hPl
      have hcap4 : (a : Int) + 4 + n ≤ c := by omega
      clear h hcs e1 e2 e3 hlr hbd hop hbh hbf hbb hs hP ha hP1 hPm hx hll hfew hbdl hPl
      obtain ⟨R, hR⟩ : ∃ R, openB l = R := ⟨_, rfl⟩
      rw [hR] at HOP ⊢
      clear hR
      go_enter Tryd.func42, Tryd.ntmps42
      go_wp2_with fail
      refine HHD.out.mono ?_
      rintro e' w' ⟨rfl, rfl⟩
      go_upto_region 9 with fail
      rw [add_lit, show a + 4 + n - (a + 4) = n by omega] at *
      generalize hV : Value.slice (if c = a + 4 then some ⟨g, o, none⟩ else some ⟨g, o + (a + 4), none⟩) n (c - (a + 4)) = V at *
      clear hV
      have hb : Below w.heap.size w w := Below.refl _ _
      have hf1 : 0 ≤ (a : Int) + 4 := by omega
      have hf2 : (a : Int) + 4 ≤ c := by omega
      have hf3 : a ≤ ((a : Int) + 4).toNat := by omega
      have hf4 : ¬ c = a := by omega
      have hf5 : ((a : Int) + 4).toNat - a = 4 := by omega
      have hf7 : ¬ c < a := by omega
      have hf8 : ¬ l = [] := fun e => by rw [e] at hto; simp at hto; omega
      have hf9 : IntKind.i64.wrap (x.toNat : Int) = (x.toNat : Int) := by have := x.toNat_lt; exact IntWalk.i64_in _ (by omega)
      have lt0 : g < w.heap.size := Nat.lt_of_lt_of_le hg hB
      obtain ⟨q, hq⟩ : ∃ q, (r.take 4 == fourB s) = q := ⟨_, rfl⟩
      have HQ := Lib.hid hq; clear hq
      replace hx0 : w.drew.cell? ⟨g, o, none⟩ = some (.int .u8 (x.toNat : Int)) := hx0
      replace HBH := Lib.hid ((HBH.out).below ((Below.refl w.heap.size w).drew) (Nat.le_trans hB hb.size))
      replace HBF := Lib.hid ((HBF.out).below ((Below.refl w.heap.size w).drew) (Nat.le_trans hB hb.size))
      replace HBB := Lib.hid ((HBB.out).below ((Below.refl w.heap.size w).drew) (Nat.le_trans hB hb.size))
      replace HT := Lib.hid (tbl_keep (HT.out) ((Below.refl w.heap.size w).drew))
      refine wp_region_noPanic ?_
      refine wp_region_held_drew (S := fun W => W.cell? ⟨g, o, none⟩ = some (.int .u8 (x.toNat : Int))) (by kernel_rfl) ?_ (fun hHeld => ?_)
      · exact hx0
      replace hb : Below w.heap.size w w.drew := hb.drew
      replace lt0 : g < w.drew.heap.size := lt0
      have hzd : w.heap.size ≤ w.drew.heap.size := Nat.le_refl _
      generalize w.drew = k1 at *
      refine wpAnyH_take (i := 0) (oi := { dst := some 34, op := Op.move (Operand.tmp 0), type := 30, pos := "frame.go:49", after := #[], guard := none }) (v := .slice (some ⟨g, o, none⟩) l.length c) rfl (by kernel_rfl) (by kernel_rfl) (by kernel_rfl) (fun _ _ _ h => h) (Or.inl ⟨by rfl, fun w hSw => ?_⟩) (by assumption) ?_
      · (try dsimp only at hSw)
        go_simp
      try simp only [Act.put, List.setIfInBounds_toArray, List.set_cons_zero, List.set_cons_succ]
      refine wpAnyH_take (i := 1) (oi := { dst := some 35, op := Op.move (Operand.tmp 6), type := 3, pos := "frame.go:49", after := #[], guard := none }) (v := .int .i64 a) rfl (by kernel_rfl) (by kernel_rfl) (by kernel_rfl) (fun _ _ _ h => h) (Or.inl ⟨by rfl, fun w hSw => ?_⟩) (by assumption) ?_
      · (try dsimp only at hSw)
        go_simp
      try simp only [Act.put, List.setIfInBounds_toArray, List.set_cons_zero, List.set_cons_succ]
      refine wpAnyH_take (i := 2) (oi := { dst := some 36, op := Op.move (Operand.tmp 9), type := 3, pos := "frame.go:49", after := #[], guard := none }) (v := .int .i64 ((a : Int) + 4)) rfl (by kernel_rfl) (by kernel_rfl) (by kernel_rfl) (fun _ _ _ h => h) (Or.inl ⟨by rfl, fun w hSw => ?_⟩) (by assumption) ?_
      · (try dsimp only at hSw)
        go_simp
      try simp only [Act.put, List.setIfInBounds_toArray, List.set_cons_zero, List.set_cons_succ]
      refine wpAnyH_take (i := 3) (oi := { dst := some 37, op := Op.slice 30 (Operand.tmp 34) (some (Operand.tmp 35)) (some (Operand.tmp 36)) none, type := 30, pos := "frame.go:49", after := #[{ on := 0, ground := Ground.data }, { on := 1, ground := Ground.data }, { on := 2, ground := Ground.data }], guard := none }) (v := .slice (some ⟨g, o + a, none⟩) 4 (c - a)) rfl (by kernel_rfl) (by kernel_rfl) (by kernel_rfl) (fun _ _ _ h => h) (Or.inl ⟨by rfl, fun w hSw => ?_⟩) (by assumption) ?_
      · (try dsimp only at hSw)
        go_simp
      try simp only [Act.put, List.setIfInBounds_toArray, List.set_cons_zero, List.set_cons_succ]
      refine wpAnyH_take (i := 4) (oi := { dst := some 38, op := Op.move (Operand.tmp 0), type := 30, pos := "frame.go:49", after := #[], guard := none }) (v := .slice (some ⟨g, o, none⟩) l.length c) rfl (by kernel_rfl) (by kernel_rfl) (by kernel_rfl) (fun _ _ _ h => h) (Or.inl ⟨by rfl, fun w hSw => ?_⟩) (by assumption) ?_
      · (try dsimp only at hSw)
        go_simp
      try simp only [Act.put, List.setIfInBounds_toArray, List.set_cons_zero, List.set_cons_succ]
      refine wpAnyH_take (i := 5) (oi := { dst := some 39, op := Op.move (Operand.tmp 6), type := 3, pos := "frame.go:49", after := #[], guard := none }) (v := .int .i64 a) rfl (by kernel_rfl) (by kernel_rfl) (by kernel_rfl) (fun _ _ _ h => h) (Or.inl ⟨by rfl, fun w hSw => ?_⟩) (by assumption) ?_
      · (try dsimp only at hSw)
        go_simp
      try simp only [Act.put, List.setIfInBounds_toArray, List.set_cons_zero, List.set_cons_succ]
      refine wpAnyH_take (i := 6) (oi := { dst := some 40, op := Op.slice 30 (Operand.tmp 38) none (some (Operand.tmp 39)) none, type := 30, pos := "frame.go:49", after := #[{ on := 4, ground := Ground.data }, { on := 5, ground := Ground.data }], guard := none }) (v := .slice (some ⟨g, o, none⟩) a c) rfl (by kernel_rfl) (by kernel_rfl) (by kernel_rfl) (fun _ _ _ h => h) (Or.inl ⟨by rfl, fun w hSw => ?_⟩) (by assumption) ?_
      · (try dsimp only at hSw)
        go_simp
      try simp only [Act.put, List.setIfInBounds_toArray, List.set_cons_zero, List.set_cons_succ]
      refine wpAnyH_take (i := 7) (oi := { dst := some 41, op := Op.move (Operand.tmp 11), type := 30, pos := "frame.go:49", after := #[], guard := none }) (v := V) rfl (by kernel_rfl) (by kernel_rfl) (by kernel_rfl) (fun _ _ _ h => h) (Or.inl ⟨by rfl, fun w hSw => ?_⟩) (by assumption) ?_
      · (try dsimp only at hSw)
        go_simp
      try simp only [Act.put, List.setIfInBounds_toArray, List.set_cons_zero, List.set_cons_succ]
      refine wpAnyH_ready (rs := [8]) (by kernel_rfl) (by simp) ?_
      refine AllReadyH.cons (o := { dst := some 42, op := Op.call { callee := Callee.value (Operand.func 55), args := #[Operand.tmp 40, Operand.tmp 41], argTypes := #[30, 30] }, type := 30, pos := "frame.go:49", after := #[{ on := 6, ground := Ground.data }, { on := 7, ground := Ground.data }], guard := none }) rfl (fun K hK => ?_) (AllReadyH.nil)
      go_simp
      go_at_call 55
      refine (fsum_any _ _ B B (x :: P) bd s _ HBH.out HBB.out HT.out HPL.out HBDL.out HS.out).mono ?_
      rintro e k2 ⟨v8, rfl, ho8, h⟩
      have hk : Below k1.heap.size k1 k2 := by
        refine Below.trans ?_ (h.mono (by first | (simp; done) | (simp; omega) | omega))
        repeat' (first | with_reducible exact Below.refl _ _ | (with_reducible refine Below.alloc ?_ ?_ _) | (with_reducible refine Below.setCell ?_ ?_ _) | exact (by first | (simp; done) | (simp; omega) | omega))
      have hz := h.size
      try simp at hz
      replace hx0 : k2.cell? ⟨g, o, none⟩ = some (.int .u8 (x.toNat : Int)) := (hk.cell (p := ⟨g, o, none⟩) (by first | (simp; done) | (simp; omega) | omega)).trans hx0
      replace HBH := Lib.hid ((HBH.out).below hk (Nat.le_trans hB hb.size))
      replace HBF := Lib.hid ((HBF.out).below hk (Nat.le_trans hB hb.size))
      replace HBB := Lib.hid ((HBB.out).below hk (Nat.le_trans hB hb.size))
      replace HT := Lib.hid (tbl_keep (HT.out) hk)
      replace hb : Below w.heap.size w k2 := hb.trans (hk.mono hb.size)
      have lt0 : g < k2.heap.size := (by first | (simp; done) | (simp; omega) | omega)
      have HS8 := Lib.hid ho8; clear ho8
      clear h hk
      try dsimp only
      refine hK.out _ _ ?_ (fun hHeld => ?_)
      · exact hx0
      clear hK K
      try simp only [Act.put, List.setIfInBounds_toArray, List.set_cons_zero, List.set_cons_succ]
      refine wpAnyH_ready (rs := [9]) (by kernel_rfl) (by simp) ?_
      refine AllReadyH.cons (o := { dst := some 43, op := Op.call { callee := Callee.value (Operand.func 61), args := #[Operand.tmp 37, Operand.tmp 42], argTypes := #[30, 30] }, type := 4, pos := "frame.go:49", after := #[{ on := 3, ground := Ground.data }, { on := 8, ground := Ground.data }, { on := 8, ground := Ground.chain }], guard := none }) rfl (fun K hK => ?_) (AllReadyH.nil)
      go_simp
      go_at_call 61
      refine (bequal_to _ _ B _ (r.take 4) (fourB s) q _ HBF.out (Byt.of_own HS8.out) HQ.out).mono ?_
      rintro e k3 ⟨rfl, h⟩
      have hk : Below k2.heap.size k2 k3 := by
        refine Below.trans ?_ (h.mono (by first | (simp; done) | (simp; omega) | omega))
        repeat' (first | with_reducible exact Below.refl _ _ | (with_reducible refine Below.alloc ?_ ?_ _) | (with_reducible refine Below.setCell ?_ ?_ _) | exact (by first | (simp; done) | (simp; omega) | omega))
      have hz := h.size
      try simp at hz
      replace hx0 : k3.cell? ⟨g, o, none⟩ = some (.int .u8 (x.toNat : Int)) := (hk.cell (p := ⟨g, o, none⟩) (by first | (simp; done) | (simp; omega) | omega)).trans hx0
      replace HBH := Lib.hid ((HBH.out).below hk (Nat.le_trans hB hb.size))
      replace HBF := Lib.hid ((HBF.out).below hk (Nat.le_trans hB hb.size))
      replace HBB := Lib.hid ((HBB.out).below hk (Nat.le_trans hB hb.size))
      replace HT := Lib.hid (tbl_keep (HT.out) hk)
      replace HS8 := Lib.hid ((HS8.out).below hk)
      replace hb : Below w.heap.size w k3 := hb.trans (hk.mono hb.size)
      have lt0 : g < k3.heap.size := (by first | (simp; done) | (simp; omega) | omega)
      clear h hk
      try dsimp only
      refine hK.out _ _ ?_ (fun hHeld => ?_)
      · exact hx0
      clear hK K
      try simp only [Act.put, List.setIfInBounds_toArray, List.set_cons_zero, List.set_cons_succ]
      refine wpAnyH_take (i := 10) (oi := { dst := some 44, op := Op.unOp UnOp.not 4 (Operand.tmp 43), type := 4, pos := "frame.go:49", after := #[{ on := 9, ground := Ground.data }], guard := none }) (v := .bool (!q)) rfl (by kernel_rfl) (by kernel_rfl) (by kernel_rfl) (fun _ _ _ h => h) (Or.inl ⟨by rfl, fun w hSw => ?_⟩) (by assumption) ?_
      · (try dsimp only at hSw)
        go_simp
      try simp only [Act.put, List.setIfInBounds_toArray, List.set_cons_zero, List.set_cons_succ]
      refine wpAnyH_done (by kernel_rfl) ?_ _
      refine NoPanic.normal ?_
      have hbl := hb
      cases q with
      | false =>
        have hne : fourB s ≠ r.take 4 := fun e => by have := HQ.out; rw [e] at this; simp at this
        have hres : R = (0, [], 0, 3) := by rw [HOP.out, if_pos hne]
        go_wp2
        exact bodyPost_ret (v := .tuple #[.int .i64 0, .slice none 0 0, .int .i64 0, .int .i64 3]) (by simp [results, Tryd.results42, go_sem]) rfl ⟨_, by rw [hres]; rfl, by rw [hres]; exact ownB_nil _ _, hbl⟩
      | true =>
        have heq : fourB s = r.take 4 := (beq_iff_eq.1 HQ.out).symm
        have hres : R = (x.toNat, bd, 5 + P.length + n, 0) := by rw [HOP.out, if_neg (fun h => h heq)]
        have HRES := Lib.hid hres
        clear heq hres
        go_upto_region 11 with fail
        replace hx0 : k3.drew.cell? ⟨g, o, none⟩ = some (.int .u8 (x.toNat : Int)) := hx0
        replace HBH := Lib.hid ((HBH.out).below ((Below.refl k3.heap.size k3).drew) (Nat.le_trans hB hb.size))
        replace HBF := Lib.hid ((HBF.out).below ((Below.refl k3.heap.size k3).drew) (Nat.le_trans hB hb.size))
        replace HBB := Lib.hid ((HBB.out).below ((Below.refl k3.heap.size k3).drew) (Nat.le_trans hB hb.size))
        replace HT := Lib.hid (tbl_keep (HT.out) ((Below.refl k3.heap.size k3).drew))
        replace HS8 := Lib.hid ((HS8.out).below ((Below.refl k3.heap.size k3).drew))
        refine wp_region_noPanic ?_
        refine wp_region_held_drew (S := fun W => W.cell? ⟨g, o, none⟩ = some (.int .u8 (x.toNat : Int))) (by kernel_rfl) ?_ (fun hHeld => ?_)
        · exact hx0
        replace hb : Below w.heap.size w k3.drew := hb.drew
        replace lt0 : g < k3.drew.heap.size := lt0
        have hzd : k3.heap.size ≤ k3.drew.heap.size := Nat.le_refl _
        generalize k3.drew = k4 at *
        refine wpAnyH_take (i := 0) (oi := { dst := some 45, op := Op.move (Operand.tmp 0), type := 30, pos := "frame.go:52", after := #[], guard := none }) (v := .slice (some ⟨g, o, none⟩) l.length c) rfl (by kernel_rfl) (by kernel_rfl) (by kernel_rfl) (fun _ _ _ h => h) (Or.inl ⟨by rfl, fun w hSw => ?_⟩) (by assumption) ?_
        · (try dsimp only at hSw)
          go_simp
        try simp only [Act.put, List.setIfInBounds_toArray, List.set_cons_zero, List.set_cons_succ]
        refine wpAnyH_take (i := 1) (oi := { dst := some 46, op := Op.indexAddr 30 (Operand.tmp 45) (Operand.const (Value.int IntKind.i64 0)), type := 0, pos := "frame.go:52", after := #[{ on := 0, ground := Ground.data }], guard := none }) (v := .pointer (some ⟨g, o, none⟩)) rfl (by kernel_rfl) (by kernel_rfl) (by kernel_rfl) (fun _ _ _ h => h) (Or.inl ⟨by rfl, fun w hSw => ?_⟩) (by assumption) ?_
        · (try dsimp only at hSw)
          go_simp
        try simp only [Act.put, List.setIfInBounds_toArray, List.set_cons_zero, List.set_cons_succ]
        refine wpAnyH_take (i := 2) (oi := { dst := some 47, op := Op.load 5 (Operand.tmp 46), type := 5, pos := "frame.go:52", after := #[{ on := 1, ground := Ground.data }], guard := none }) (v := .int .u8 (x.toNat : Int)) rfl (by kernel_rfl) (by kernel_rfl) (by kernel_rfl) (fun _ _ _ h => h) (Or.inl ⟨by rfl, fun w hSw => ?_⟩) (by assumption) ?_
        · (try dsimp only at hSw)
          go_simp
        try simp only [Act.put, List.setIfInBounds_toArray, List.set_cons_zero, List.set_cons_succ]
        refine wpAnyH_take (i := 3) (oi := { dst := some 48, op := Op.convert 5 3 (Operand.tmp 47), type := 3, pos := "frame.go:52", after := #[{ on := 2, ground := Ground.data }], guard := none }) (v := .int .i64 (x.toNat : Int)) rfl (by kernel_rfl) (by kernel_rfl) (by kernel_rfl) (fun _ _ _ h => h) (Or.inl ⟨by rfl, fun w hSw => ?_⟩) (by assumption) ?_
        · (try dsimp only at hSw)
          go_simp
        try simp only [Act.put, List.setIfInBounds_toArray, List.set_cons_zero, List.set_cons_succ]
        refine wpAnyH_take (i := 4) (oi := { dst := some 49, op := Op.move (Operand.tmp 11), type := 30, pos := "frame.go:52", after := #[], guard := none }) (v := V) rfl (by kernel_rfl) (by kernel_rfl) (by kernel_rfl) (fun _ _ _ h => h) (Or.inl ⟨by rfl, fun w hSw => ?_⟩) (by assumption) ?_
        · (try dsimp only at hSw)
          go_simp
        try simp only [Act.put, List.setIfInBounds_toArray, List.set_cons_zero, List.set_cons_succ]
        refine wpAnyH_take (i := 6) (oi := { dst := some 51, op := Op.move (Operand.tmp 10), type := 3, pos := "frame.go:52", after := #[{ on := 8, ground := Ground.gcOnly Departure.lateStores }], guard := none }) (v := .int .i64 ((a : Int) + 4 + n)) rfl (by kernel_rfl) (by kernel_rfl) (by kernel_rfl) (fun _ _ _ h => h) (Or.inl ⟨by rfl, fun w hSw => ?_⟩) (by assumption) ?_
        · (try dsimp only at hSw)
          go_simp
        try simp only [Act.put, List.setIfInBounds_toArray, List.set_cons_zero, List.set_cons_succ]
        refine wpAnyH_ready (rs := [5]) (by kernel_rfl) (by simp) ?_
        refine AllReadyH.cons (o := { dst := some 50, op := Op.call { callee := Callee.value (Operand.func 62), args := #[Operand.tmp 49], argTypes := #[30] }, type := 30, pos := "frame.go:52", after := #[{ on := 4, ground := Ground.data }], guard := none }) rfl (fun K hK => ?_) (AllReadyH.nil)
        go_simp
        go_at_call 62
        refine (bclone_to _ B bd _ HBB.out HBDL.out).mono ?_
        rintro e k5 ⟨v2, rfl, ho2, h⟩
        have hk : Below k4.heap.size k4 k5 := by
          refine Below.trans ?_ (h.mono (by first | (simp; done) | (simp; omega) | omega))
          repeat' (first | with_reducible exact Below.refl _ _ | (with_reducible refine Below.alloc ?_ ?_ _) | (with_reducible refine Below.setCell ?_ ?_ _) | exact (by first | (simp; done) | (simp; omega) | omega))
        have hz := h.size
        try simp at hz
        replace hx0 : k5.cell? ⟨g, o, none⟩ = some (.int .u8 (x.toNat : Int)) := (hk.cell (p := ⟨g, o, none⟩) (by first | (simp; done) | (simp; omega) | omega)).trans hx0
        replace HBH := Lib.hid ((HBH.out).below hk (Nat.le_trans hB hb.size))
        replace HBF := Lib.hid ((HBF.out).below hk (Nat.le_trans hB hb.size))
        replace HBB := Lib.hid ((HBB.out).below hk (Nat.le_trans hB hb.size))
        replace HT := Lib.hid (tbl_keep (HT.out) hk)
        replace HS8 := Lib.hid ((HS8.out).below hk)
        replace hb : Below w.heap.size w k5 := hb.trans (hk.mono hb.size)
        have lt0 : g < k5.heap.size := (by first | (simp; done) | (simp; omega) | omega)
        have HV2 := Lib.hid ho2; clear ho2
        clear h hk
        try dsimp only
        refine hK.out _ _ ?_ (fun hHeld => ?_)
        · exact hx0
        clear hK K
        try simp only [Act.put, List.setIfInBounds_toArray, List.set_cons_zero, List.set_cons_succ]
        refine wpAnyH_take (i := 7) (oi := { dst := some 2, op := Op.assign (Operand.tmp 48), type := 3, pos := "frame.go:52", after := #[{ on := 3, ground := Ground.data }, { on := 5, ground := Ground.chain }, { on := 0, ground := Ground.phase }, { on := 1, ground := Ground.phase }, { on := 2, ground := Ground.phase }, { on := 3, ground := Ground.phase }, { on := 4, ground := Ground.textOnly Departure.lateStores }, { on := 5, ground := Ground.textOnly Departure.lateStoresUnsure }, { on := 6, ground := Ground.textOnly Departure.lateStores }], guard := none }) (v := .int .i64 (x.toNat : Int)) rfl (by kernel_rfl) (by kernel_rfl) (by kernel_rfl) (fun _ _ _ h => h) (Or.inl ⟨by rfl, fun w hSw => ?_⟩) (by assumption) ?_
        · (try dsimp only at hSw)
          go_simp
        try simp only [Act.put, List.setIfInBounds_toArray, List.set_cons_zero, List.set_cons_succ]
        refine wpAnyH_take (i := 8) (oi := { dst := some 3, op := Op.assign (Operand.tmp 50), type := 30, pos := "frame.go:52", after := #[{ on := 5, ground := Ground.data }, { on := 7, ground := Ground.chain }, { on := 0, ground := Ground.phase }, { on := 1, ground := Ground.phase }, { on := 2, ground := Ground.phase }, { on := 3, ground := Ground.phase }, { on := 4, ground := Ground.phase }, { on := 5, ground := Ground.phase }, { on := 6, ground := Ground.textOnly Departure.lateStores }, { on := 7, ground := Ground.phase }], guard := none }) (v := v2) rfl (by kernel_rfl) (by kernel_rfl) (by kernel_rfl) (fun _ _ _ h => h) (Or.inl ⟨by rfl, fun w hSw => ?_⟩) (by assumption) ?_
        · (try dsimp only at hSw)
          go_simp
        try simp only [Act.put, List.setIfInBounds_toArray, List.set_cons_zero, List.set_cons_succ]
        refine wpAnyH_take (i := 9) (oi := { dst := some 4, op := Op.assign (Operand.tmp 51), type := 3, pos := "frame.go:52", after := #[{ on := 6, ground := Ground.data }, { on := 8, ground := Ground.chain }, { on := 0, ground := Ground.phase }, { on := 1, ground := Ground.phase }, { on := 2, ground := Ground.phase }, { on := 3, ground := Ground.phase }, { on := 4, ground := Ground.phase }, { on := 5, ground := Ground.phase }, { on := 6, ground := Ground.phase }, { on := 7, ground := Ground.phase }, { on := 8, ground := Ground.phase }], guard := none }) (v := .int .i64 ((a : Int) + 4 + n)) rfl (by kernel_rfl) (by kernel_rfl) (by kernel_rfl) (fun _ _ _ h => h) (Or.inl ⟨by rfl, fun w hSw => ?_⟩) (by assumption) ?_
        · (try dsimp only at hSw)
          go_simp
        try simp only [Act.put, List.setIfInBounds_toArray, List.set_cons_zero, List.set_cons_succ]
        refine wpAnyH_take (i := 10) (oi := { dst := some 5, op := Op.assign (Operand.const (Value.int IntKind.i64 0)), type := 37, pos := "frame.go:52", after := #[{ on := 9, ground := Ground.chain }, { on := 0, ground := Ground.phase }, { on := 1, ground := Ground.phase }, { on := 2, ground := Ground.phase }, { on := 3, ground := Ground.phase }, { on := 4, ground := Ground.phase }, { on := 5, ground := Ground.phase }, { on := 6, ground := Ground.phase }, { on := 7, ground := Ground.phase }, { on := 8, ground := Ground.phase }, { on := 9, ground := Ground.phase }], guard := none }) (v := .int .i64 0) rfl (by kernel_rfl) (by kernel_rfl) (by kernel_rfl) (fun _ _ _ h => h) (Or.inl ⟨by rfl, fun w hSw => ?_⟩) (by assumption) ?_
        · (try dsimp only at hSw)
          go_simp
        try simp only [Act.put, List.setIfInBounds_toArray, List.set_cons_zero, List.set_cons_succ]
        refine wpAnyH_done (by kernel_rfl) ?_ _
        refine NoPanic.normal ?_
        go_wp2
        refine bodyPost_ret (v := .tuple #[.int .i64 x.toNat, v2, .int .i64 ((a : Int) + 4 + n), .int .i64 0]) (by simp [results, Tryd.results42, go_sem]) rfl ⟨v2, ?_, ?_, hb⟩
        · rw [HRES.out, show (a : Int) + 4 + n = ((5 + P.length + n : Nat) : Int) by have := HA.out; omega]; rfl
        · rw [HRES.out]; exact HV2.out.down (by have := hbl.size; omega)
  · obtain ⟨hop, rfl, rfl⟩ := headP_err hr he
    have hee : ((e : Int) == 0) = false := by rw [beq_eq_false_iff_ne]; omega
    rw [hop]
    clear hr hop h
    go_enter Tryd.func42, Tryd.ntmps42
    go_wp2_with fail
    refine HHD.out.mono ?_
    rintro e' w' ⟨rfl, rfl⟩
    go_wp2
    exact bodyPost_ret (v := .tuple #[.int .i64 0, .slice none 0 0, .int .i64 0, .int .i64 e]) (by simp [results, Tryd.results42, go_sem]) rfl ⟨_, rfl, ownB_nil _ _, Below.refl _ _⟩
end Go.Proofs.YtdigpeipklfaeaaDoor
/-
  Package wal's readRecord and Decode answer what the plain functions say.
  The bytes are there in memory, at most 1,000,000; package crc's table lies as it was laid.
-/
set_option linter.unusedSimpArgs false
set_option linter.unusedVariables false
namespace Go.Proofs.YtdigpeipklfaeaaDoor
open Go.RowKit
set_option maxRecDepth 100000

theorem WRd.set10 {w : World} {g g' B : Nat} {s : RdS10} (h : WRd w g B s) (j : Nat) (u : Value) (hne : g ≠ g') (hB : B ≤ g') : WRd (w.setCell ⟨g', j, none⟩ u) g B s := by
  obtain ⟨A, c, h1, h2, h3⟩ := h
  exact ⟨A, c, h1.other j u hne, byt_set10 h2 hB, h3⟩
theorem below_set10 {B g : Nat} {w w' : World} (h : Below B w w') (j : Nat) (u : Value) (hg : B ≤ g) : Below B w (w'.setCell ⟨g, j, none⟩ u) := h.setCell (p := ⟨g, j, none⟩) hg u
set_option maxHeartbeats 2000000 in
theorem wread_hard (A : Option Addr) (n c B : Nat) (l : List UInt8) (w : World) (h : Byt w B (.slice A n c) l) (hB : B ≤ w.heap.size) (hl : l.length ≤ 1000000) (s1 s2 : RdS10) (ht hv : Int) (h1 : rdN10 (l, false) = (ht, s1)) (h2 : rdN10 s1 = (hv, s2)) (l1 : s1.1.length ≤ 1000000) (b0 : -9223372036854775808 ≤ hv) (b1 : hv ≤ 9223372036854775807) (lS : s2.1.length ≤ 1000000) (x : Bool) (hx : (done10 s2 && may10 ⟨true, ht, hv, noEnt⟩) = x) :
    Calls Tryd.prog 43 #[.int .i64 1, .slice A n c] w fun e w' => e = .returned (.tuple #[.agg #[.bool true, .int .i64 ht, .int .i64 hv, .int .i64 0, .int .i64 0, .int .i64 0, .string ⟨#[]⟩], .bool x]) ∧ Below w.heap.size w w' := by
  obtain ⟨W1, hW1⟩ : ∃ W1, ((w.alloc (.cells #[.bool false, .int .i64 0, .int .i64 0, .int .i64 0, .int .i64 0, .int .i64 0, .string ⟨#[]⟩] 32)).alloc (.cells #[.bool false, .int .i64 0, .int .i64 0, .int .i64 0, .int .i64 0, .int .i64 0, .string ⟨#[]⟩] 32)) = W1 := ⟨_, rfl⟩
  have hz1 : W1.heap.size = w.heap.size + 1 + 1 := by rw [← hW1]; simp
  have hbw1 : Below w.heap.size w W1 := by rw [← hW1]; exact (below_new _ _).alloc (by simp) _
  obtain ⟨W2, hW2⟩ : ∃ W2, W1.alloc (.cells #[.slice A n c, .bool false] 91) = W2 := ⟨_, rfl⟩
  have hbw2 : Below W1.heap.size W1 W2 := by rw [← hW2]; exact below_new _ _
  have hbw : Below w.heap.size w W2 := hbw1.trans (hbw2.mono hbw1.size)
  have r0 : Rt W2 (w.heap.size) 32 [.bool false, .int .i64 0, .int .i64 0, .int .i64 0, .int .i64 0, .int .i64 0, .string ⟨#[]⟩] := Rt.below (w := W1) (Rt.below (w := w.alloc (.cells #[.bool false, .int .i64 0, .int .i64 0, .int .i64 0, .int .i64 0, .int .i64 0, .string ⟨#[]⟩] 32)) (Rt.new _ _ _) (by rw [← hW1]; exact below_new _ _)) hbw2
  have r1 : Rt W2 (w.heap.size + 1) 32 [.bool false, .int .i64 0, .int .i64 0, .int .i64 0, .int .i64 0, .int .i64 0, .string ⟨#[]⟩] := Rt.below (w := W1) (by rw [← hW1]; exact Rt.new_at _ _ _ [.bool false, .int .i64 0, .int .i64 0, .int .i64 0, .int .i64 0, .int .i64 0, .string ⟨#[]⟩] (by simp)) hbw2
  have hr : WRd W2 (w.heap.size + 1 + 1) B (l, false) := by
    have := WRd.new W1 B l A n c (h.below hbw1 hB) (by omega)
    rw [hW2, hz1] at this; exact this
  have n0 : w.heap.size ≠ w.heap.size + 1 + 1 := by omega
  have n1 : w.heap.size + 1 ≠ w.heap.size + 1 + 1 := by omega
  have n01 : w.heap.size ≠ w.heap.size + 1 := by omega
  have HBW := Lib.hid hbw
  clear hbw1 hbw2 hbw h hz1
  go_enter Tryd.func43, Tryd.ntmps43
  have hW3 : (((w.alloc (.cells #[.bool false, .int .i64 0, .int .i64 0, .int .i64 0, .int .i64 0, .int .i64 0, .string ⟨#[]⟩] 32)).alloc (.cells #[.bool false, .int .i64 0, .int .i64 0, .int .i64 0, .int .i64 0, .int .i64 0, .string ⟨#[]⟩] 32)).alloc (.cells #[.slice A n c, .bool false] 91)) = W2 := by rw [hW1]; exact hW2
  have HW3 := Lib.hid hW3
  clear hW1 hW2 hW3
  go_wp2_with fail
  rw [HW3.out]
  refine (w10hard _ B (l, false) s1 s2 ht hv _ hr hl l1 h1 h2 b0 b1).mono ?_
  rintro e k1 ⟨rfl, hr1, hq⟩
  have q0 := r0.grown hq n0
  have q1 := r1.grown hq n1
  have HB1 := Lib.hid (HBW.out.trans (below_grown10 hq (B := w.heap.size) (by omega) hr.lt))
  clear hq r0 r1 HW3 hr
  have c0 := q1.cell (j := 0) rfl
  have f0 := q1.frz 0
  have c1 := q1.cell (j := 1) rfl
  have f1 := q1.frz 1
  have c2 := q1.cell (j := 2) rfl
  have f2 := q1.frz 2
  have c3 := q1.cell (j := 3) rfl
  have f3 := q1.frz 3
  have c4 := q1.cell (j := 4) rfl
  have f4 := q1.frz 4
  have c5 := q1.cell (j := 5) rfl
  have f5 := q1.frz 5
  have c6 := q1.cell (j := 6) rfl
  have f6 := q1.frz 6
  have HR := Lib.hid hr1
  have HQ0 := Lib.hid q0
  have HQ1 := Lib.hid q1
  clear hr1 q0 q1
  have nr : w.heap.size + 1 + 1 ≠ w.heap.size + 1 := by omega
  have hBr : B ≤ w.heap.size + 1 := by omega
  go_wp2_with fail
  refine wp_world (fun W => Rt W (w.heap.size + 1) 32 [.bool true, .int .i64 ht, .int .i64 hv, .int .i64 0, .int .i64 0, .int .i64 0, .string ⟨#[]⟩] ∧ Rt W (w.heap.size) 32 [.bool false, .int .i64 0, .int .i64 0, .int .i64 0, .int .i64 0, .int .i64 0, .string ⟨#[]⟩] ∧ WRd W (w.heap.size + 1 + 1) B s2 ∧ Below w.heap.size w W) ⟨(((((((HQ1.out.set 0 (.bool true)).set 1 (.int .i64 ht)).set 2 (.int .i64 hv)).set 3 (.int .i64 0)).set 4 (.int .i64 0)).set 5 (.int .i64 0)).set 6 (.string ⟨#[]⟩)), (((((((HQ0.out.other 0 (.bool true) n01).other 1 (.int .i64 ht) n01).other 2 (.int .i64 hv) n01).other 3 (.int .i64 0) n01).other 4 (.int .i64 0) n01).other 5 (.int .i64 0) n01).other 6 (.string ⟨#[]⟩) n01), ?_, (below_set10 ((below_set10 ((below_set10 ((below_set10 ((below_set10 ((below_set10 ((below_set10 (HB1.out) 0 (g := w.heap.size + 1) (.bool true) (by omega))) 1 (g := w.heap.size + 1) (.int .i64 ht) (by omega))) 2 (g := w.heap.size + 1) (.int .i64 hv) (by omega))) 3 (g := w.heap.size + 1) (.int .i64 0) (by omega))) 4 (g := w.heap.size + 1) (.int .i64 0) (by omega))) 5 (g := w.heap.size + 1) (.int .i64 0) (by omega))) 6 (g := w.heap.size + 1) (.string ⟨#[]⟩) (by omega))⟩ ?_
  · exact ((((((((((((((HR.out).set10 0 (g' := w.heap.size + 1) (.bool true) nr hBr)).set10 1 (g' := w.heap.size + 1) (.int .i64 ht) nr hBr)).set10 2 (g' := w.heap.size + 1) (.int .i64 hv) nr hBr)).set10 3 (g' := w.heap.size + 1) (.int .i64 0) nr hBr)).set10 4 (g' := w.heap.size + 1) (.int .i64 0) nr hBr)).set10 5 (g' := w.heap.size + 1) (.int .i64 0) nr hBr)).set10 6 (g' := w.heap.size + 1) (.string ⟨#[]⟩) nr hBr)
  clear c0 c1 c2 c3 c4 c5 c6 f0 f1 f2 f3 f4 f5 f6 HQ0 HQ1 HR HB1
  rintro k2 ⟨q1, q0, hr, hb⟩
  obtain ⟨d, hd⟩ : ∃ d, done10 s2 = d := ⟨_, rfl⟩
  rw [hd] at hx
  have hdn := w10done _ B s2 k2.drew hr lS
  rw [show (!s2.2 && s2.1.length == 0) = d from hd] at hdn
  replace q1 : Rt k2.drew (w.heap.size + 1) 32 [.bool true, .int .i64 ht, .int .i64 hv, .int .i64 0, .int .i64 0, .int .i64 0, .string ⟨#[]⟩] := q1
  replace q0 : Rt k2.drew (w.heap.size) 32 [.bool false, .int .i64 0, .int .i64 0, .int .i64 0, .int .i64 0, .int .i64 0, .string ⟨#[]⟩] := q0
  replace hb : Below w.heap.size w k2.drew := hb.drew
  have hm := fun W => wmay10_any ⟨true, ht, hv, noEnt⟩ W (Nat.zero_le _)
  obtain ⟨y, hy⟩ : ∃ y, may10 ⟨true, ht, hv, noEnt⟩ = y := ⟨_, rfl⟩
  rw [hy] at hx hm
  have hlt := q1.lt
  refine wp_region_noPanic ?_
  refine wp_region_held_drew (S := fun W => W.cell? ⟨w.heap.size + 1, 0, none⟩ = some (.bool true) ∧ W.cell? ⟨w.heap.size + 1, 1, none⟩ = some (.int .i64 ht) ∧ W.cell? ⟨w.heap.size + 1, 2, none⟩ = some (.int .i64 hv) ∧ W.cell? ⟨w.heap.size + 1, 3, none⟩ = some (.int .i64 0) ∧ W.cell? ⟨w.heap.size + 1, 4, none⟩ = some (.int .i64 0) ∧ W.cell? ⟨w.heap.size + 1, 5, none⟩ = some (.int .i64 0) ∧ W.cell? ⟨w.heap.size + 1, 6, none⟩ = some (.string ⟨#[]⟩)) (by kernel_rfl) ?_ (fun hHeld => ?_)
  · exact ⟨q1.cell (j := 0) rfl, q1.cell (j := 1) rfl, q1.cell (j := 2) rfl, q1.cell (j := 3) rfl, q1.cell (j := 4) rfl, q1.cell (j := 5) rfl, q1.cell (j := 6) rfl⟩
  generalize k2.drew = k3 at *
  have HX := Lib.hid hx
  clear hr hd hy hx
  cases d with
  | true =>
    refine wpAnyH_take (i := 0) (oi := { dst := some 20, op := Op.load 32 (Operand.tmp 6), type := 32, pos := "wal.go:104", after := #[], guard := none }) (v := .agg #[.bool true, .int .i64 ht, .int .i64 hv, .int .i64 0, .int .i64 0, .int .i64 0, .string ⟨#[]⟩]) rfl (by kernel_rfl) (by kernel_rfl) (by kernel_rfl) (fun _ _ _ h => h) (Or.inl ⟨by rfl, fun w hSw => ?_⟩) (by assumption) ?_
    · (try dsimp only at hSw)
      go_simp
    try simp only [Act.put, List.setIfInBounds_toArray, List.set_cons_zero, List.set_cons_succ]
    refine wpAnyH_ready (rs := [1]) (by kernel_rfl) (by simp) ?_
    refine AllReadyH.cons (o := { dst := some 21, op := Op.call { callee := Callee.value (Operand.func 52), args := #[Operand.tmp 7], argTypes := #[91] }, type := 4, pos := "wal.go:104", after := #[], guard := none }) rfl (fun K hK => ?_) AllReadyH.nil
    go_simp
    go_at_call 52
    refine hdn.mono ?_
    rintro e k4 ⟨rfl, rfl⟩
    refine hK.out _ _ ?_ (fun hHeld => ?_)
    · exact ⟨q1.cell (j := 0) rfl, q1.cell (j := 1) rfl, q1.cell (j := 2) rfl, q1.cell (j := 3) rfl, q1.cell (j := 4) rfl, q1.cell (j := 5) rfl, q1.cell (j := 6) rfl⟩
    clear hK K
    try simp only [Act.put, List.setIfInBounds_toArray, List.set_cons_zero, List.set_cons_succ]
    refine wpAnyH_take (i := 2) (oi := { dst := some 22, op := Op.move (Operand.tmp 21), type := 4, pos := "wal.go:104", after := #[{ on := 1, ground := Ground.data }, { on := 1, ground := Ground.chain }], guard := none }) (v := .bool true) rfl (by kernel_rfl) (by kernel_rfl) (by kernel_rfl) (fun _ _ _ h => h) (Or.inl ⟨by rfl, fun w hSw => ?_⟩) (by assumption) ?_
    · (try dsimp only at hSw)
      go_simp
    try simp only [Act.put, List.setIfInBounds_toArray, List.set_cons_zero, List.set_cons_succ]
    refine wpAnyH_take (i := 3) (oi := { dst := some 23, op := Op.load 32 (Operand.tmp 6), type := 32, pos := "wal.go:104", after := #[{ on := 2, ground := Ground.guard }], guard := some (2, true) }) (v := .agg #[.bool true, .int .i64 ht, .int .i64 hv, .int .i64 0, .int .i64 0, .int .i64 0, .string ⟨#[]⟩]) rfl (by kernel_rfl) (by kernel_rfl) (by kernel_rfl) (fun _ _ _ h => h) (Or.inl ⟨by rfl, fun w hSw => ?_⟩) (by assumption) ?_
    · (try dsimp only at hSw)
      go_simp
    try simp only [Act.put, List.setIfInBounds_toArray, List.set_cons_zero, List.set_cons_succ]
    refine wpAnyH_ready (rs := [4]) (by kernel_rfl) (by simp) ?_
    refine AllReadyH.cons (o := { dst := some 24, op := Op.call { callee := Callee.value (Operand.func 15), args := #[Operand.tmp 23], argTypes := #[32] }, type := 4, pos := "wal.go:104", after := #[{ on := 3, ground := Ground.data }, { on := 2, ground := Ground.chain }, { on := 2, ground := Ground.guard }], guard := some (2, true) }) rfl (fun K hK => ?_) AllReadyH.nil
    go_simp
    go_at_call 15
    refine (hm _).mono ?_
    rintro e k5 ⟨rfl, h⟩
    replace q1 := q1.below h
    replace q0 := q0.below h
    replace hb := hb.trans (h.mono hb.size)
    have hl5 := h.size
    clear h
    refine hK.out _ _ ?_ (fun hHeld => ?_)
    · exact ⟨q1.cell (j := 0) rfl, q1.cell (j := 1) rfl, q1.cell (j := 2) rfl, q1.cell (j := 3) rfl, q1.cell (j := 4) rfl, q1.cell (j := 5) rfl, q1.cell (j := 6) rfl⟩
    clear hK K
    try simp only [Act.put, List.setIfInBounds_toArray, List.set_cons_zero, List.set_cons_succ]
    refine wpAnyH_take (i := 5) (oi := { dst := some 25, op := Op.pick (Operand.tmp 22) (Operand.tmp 24) (Operand.const (Value.bool false)), type := 4, pos := "wal.go:104", after := #[{ on := 2, ground := Ground.data }, { on := 4, ground := Ground.data }, { on := 6, ground := Ground.gcOnly Departure.lateStores }], guard := none }) (v := .bool y) rfl (by kernel_rfl) (by kernel_rfl) (by kernel_rfl) (fun _ _ _ h => h) (Or.inl ⟨by rfl, fun w hSw => ?_⟩) (by assumption) ?_
    · (try dsimp only at hSw)
      go_simp
    try simp only [Act.put, List.setIfInBounds_toArray, List.set_cons_zero, List.set_cons_succ]
    have z0 := q0.cell (j := 0) rfl
    have y0 := q0.frz 0
    have z1 := q0.cell (j := 1) rfl
    have y1 := q0.frz 1
    have z2 := q0.cell (j := 2) rfl
    have y2 := q0.frz 2
    have z3 := q0.cell (j := 3) rfl
    have y3 := q0.frz 3
    have z4 := q0.cell (j := 4) rfl
    have y4 := q0.frz 4
    have z5 := q0.cell (j := 5) rfl
    have y5 := q0.frz 5
    have z6 := q0.cell (j := 6) rfl
    have y6 := q0.frz 6
    refine wpAnyH_ready (rs := [6]) (by kernel_rfl) (by simp) ?_
    refine AllReadyH.cons (o := { dst := none, op := Op.store 32 (Operand.tmp 4) (Operand.tmp 20), type := 0, pos := "wal.go:104", after := #[{ on := 0, ground := Ground.data }, { on := 4, ground := Ground.chain }, { on := 0, ground := Ground.phase }, { on := 1, ground := Ground.textOnly Departure.lateStoresUnsure }, { on := 2, ground := Ground.textOnly Departure.lateStores }, { on := 3, ground := Ground.textOnly Departure.lateStores }, { on := 4, ground := Ground.textOnly Departure.lateStoresUnsure }, { on := 5, ground := Ground.textOnly Departure.lateStores }], guard := none }) rfl (fun K hK => ?_) AllReadyH.nil
    go_simp
    refine hK.out _ _ ?_ (fun hHeld => ?_)
    · exact ⟨(((((((q1.other 0 (.bool true) n01.symm).other 1 (.int .i64 ht) n01.symm).other 2 (.int .i64 hv) n01.symm).other 3 (.int .i64 0) n01.symm).other 4 (.int .i64 0) n01.symm).other 5 (.int .i64 0) n01.symm).other 6 (.string ⟨#[]⟩) n01.symm).cell (j := 0) rfl, (((((((q1.other 0 (.bool true) n01.symm).other 1 (.int .i64 ht) n01.symm).other 2 (.int .i64 hv) n01.symm).other 3 (.int .i64 0) n01.symm).other 4 (.int .i64 0) n01.symm).other 5 (.int .i64 0) n01.symm).other 6 (.string ⟨#[]⟩) n01.symm).cell (j := 1) rfl, (((((((q1.other 0 (.bool true) n01.symm).other 1 (.int .i64 ht) n01.symm).other 2 (.int .i64 hv) n01.symm).other 3 (.int .i64 0) n01.symm).other 4 (.int .i64 0) n01.symm).other 5 (.int .i64 0) n01.symm).other 6 (.string ⟨#[]⟩) n01.symm).cell (j := 2) rfl, (((((((q1.other 0 (.bool true) n01.symm).other 1 (.int .i64 ht) n01.symm).other 2 (.int .i64 hv) n01.symm).other 3 (.int .i64 0) n01.symm).other 4 (.int .i64 0) n01.symm).other 5 (.int .i64 0) n01.symm).other 6 (.string ⟨#[]⟩) n01.symm).cell (j := 3) rfl, (((((((q1.other 0 (.bool true) n01.symm).other 1 (.int .i64 ht) n01.symm).other 2 (.int .i64 hv) n01.symm).other 3 (.int .i64 0) n01.symm).other 4 (.int .i64 0) n01.symm).other 5 (.int .i64 0) n01.symm).other 6 (.string ⟨#[]⟩) n01.symm).cell (j := 4) rfl, (((((((q1.other 0 (.bool true) n01.symm).other 1 (.int .i64 ht) n01.symm).other 2 (.int .i64 hv) n01.symm).other 3 (.int .i64 0) n01.symm).other 4 (.int .i64 0) n01.symm).other 5 (.int .i64 0) n01.symm).other 6 (.string ⟨#[]⟩) n01.symm).cell (j := 5) rfl, (((((((q1.other 0 (.bool true) n01.symm).other 1 (.int .i64 ht) n01.symm).other 2 (.int .i64 hv) n01.symm).other 3 (.int .i64 0) n01.symm).other 4 (.int .i64 0) n01.symm).other 5 (.int .i64 0) n01.symm).other 6 (.string ⟨#[]⟩) n01.symm).cell (j := 6) rfl⟩
    clear hK K
    try simp only [Act.put, List.setIfInBounds_toArray, List.set_cons_zero, List.set_cons_succ]
    refine wpAnyH_ready (rs := [7]) (by kernel_rfl) (by simp) ?_
    refine AllReadyH.cons (o := { dst := some 5, op := Op.assign (Operand.tmp 25), type := 4, pos := "wal.go:104", after := #[{ on := 5, ground := Ground.data }, { on := 6, ground := Ground.chain }, { on := 0, ground := Ground.phase }, { on := 1, ground := Ground.phase }, { on := 2, ground := Ground.phase }, { on := 3, ground := Ground.phase }, { on := 4, ground := Ground.phase }, { on := 5, ground := Ground.phase }, { on := 6, ground := Ground.phase }], guard := none }) rfl (fun K hK => ?_) AllReadyH.nil
    go_simp
    refine hK.out _ _ ?_ (fun hHeld => ?_)
    · exact ⟨(((((((q1.other 0 (.bool true) n01.symm).other 1 (.int .i64 ht) n01.symm).other 2 (.int .i64 hv) n01.symm).other 3 (.int .i64 0) n01.symm).other 4 (.int .i64 0) n01.symm).other 5 (.int .i64 0) n01.symm).other 6 (.string ⟨#[]⟩) n01.symm).cell (j := 0) rfl, (((((((q1.other 0 (.bool true) n01.symm).other 1 (.int .i64 ht) n01.symm).other 2 (.int .i64 hv) n01.symm).other 3 (.int .i64 0) n01.symm).other 4 (.int .i64 0) n01.symm).other 5 (.int .i64 0) n01.symm).other 6 (.string ⟨#[]⟩) n01.symm).cell (j := 1) rfl, (((((((q1.other 0 (.bool true) n01.symm).other 1 (.int .i64 ht) n01.symm).other 2 (.int .i64 hv) n01.symm).other 3 (.int .i64 0) n01.symm).other 4 (.int .i64 0) n01.symm).other 5 (.int .i64 0) n01.symm).other 6 (.string ⟨#[]⟩) n01.symm).cell (j := 2) rfl, (((((((q1.other 0 (.bool true) n01.symm).other 1 (.int .i64 ht) n01.symm).other 2 (.int .i64 hv) n01.symm).other 3 (.int .i64 0) n01.symm).other 4 (.int .i64 0) n01.symm).other 5 (.int .i64 0) n01.symm).other 6 (.string ⟨#[]⟩) n01.symm).cell (j := 3) rfl, (((((((q1.other 0 (.bool true) n01.symm).other 1 (.int .i64 ht) n01.symm).other 2 (.int .i64 hv) n01.symm).other 3 (.int .i64 0) n01.symm).other 4 (.int .i64 0) n01.symm).other 5 (.int .i64 0) n01.symm).other 6 (.string ⟨#[]⟩) n01.symm).cell (j := 4) rfl, (((((((q1.other 0 (.bool true) n01.symm).other 1 (.int .i64 ht) n01.symm).other 2 (.int .i64 hv) n01.symm).other 3 (.int .i64 0) n01.symm).other 4 (.int .i64 0) n01.symm).other 5 (.int .i64 0) n01.symm).other 6 (.string ⟨#[]⟩) n01.symm).cell (j := 5) rfl, (((((((q1.other 0 (.bool true) n01.symm).other 1 (.int .i64 ht) n01.symm).other 2 (.int .i64 hv) n01.symm).other 3 (.int .i64 0) n01.symm).other 4 (.int .i64 0) n01.symm).other 5 (.int .i64 0) n01.symm).other 6 (.string ⟨#[]⟩) n01.symm).cell (j := 6) rfl⟩
    clear hK K
    try simp only [Act.put, List.setIfInBounds_toArray, List.set_cons_zero, List.set_cons_succ]
    refine wpAnyH_done (by kernel_rfl) ?_ _
    refine NoPanic.normal ?_
    go_wp2
    have hxs : Rt _ (w.heap.size) 32 [.bool true, .int .i64 ht, .int .i64 hv, .int .i64 0, .int .i64 0, .int .i64 0, .string ⟨#[]⟩] := (((((((q0.set 0 (.bool true)).set 1 (.int .i64 ht)).set 2 (.int .i64 hv)).set 3 (.int .i64 0)).set 4 (.int .i64 0)).set 5 (.int .i64 0)).set 6 (.string ⟨#[]⟩))
    have hbs := (below_set10 ((below_set10 ((below_set10 ((below_set10 ((below_set10 ((below_set10 ((below_set10 (hb) 0 (g := w.heap.size) (.bool true) (by omega))) 1 (g := w.heap.size) (.int .i64 ht) (by omega))) 2 (g := w.heap.size) (.int .i64 hv) (by omega))) 3 (g := w.heap.size) (.int .i64 0) (by omega))) 4 (g := w.heap.size) (.int .i64 0) (by omega))) 5 (g := w.heap.size) (.int .i64 0) (by omega))) 6 (g := w.heap.size) (.string ⟨#[]⟩) (by omega))
    refine body_world10 (fun W => Below w.heap.size w W ∧ Rt W (w.heap.size) 32 [.bool true, .int .i64 ht, .int .i64 hv, .int .i64 0, .int .i64 0, .int .i64 0, .string ⟨#[]⟩]) ⟨hbs, hxs⟩ ?_
    clear hbs hxs
    rintro W ⟨hbs, hxs⟩
    have d0 := hxs.cell (j := 0) rfl
    have d1 := hxs.cell (j := 1) rfl
    have d2 := hxs.cell (j := 2) rfl
    have d3 := hxs.cell (j := 3) rfl
    have d4 := hxs.cell (j := 4) rfl
    have d5 := hxs.cell (j := 5) rfl
    have d6 := hxs.cell (j := 6) rfl
    refine bodyPost_ret (v := .tuple #[.agg #[.bool true, .int .i64 ht, .int .i64 hv, .int .i64 0, .int .i64 0, .int .i64 0, .string ⟨#[]⟩], .bool y]) (by simp [results, Tryd.results43, go_sem, d0, d1, d2, d3, d4, d5, d6]) rfl ?_
    exact ⟨by rw [← HX.out]; rfl, hbs⟩
  | false =>
    refine wpAnyH_take (i := 0) (oi := { dst := some 20, op := Op.load 32 (Operand.tmp 6), type := 32, pos := "wal.go:104", after := #[], guard := none }) (v := .agg #[.bool true, .int .i64 ht, .int .i64 hv, .int .i64 0, .int .i64 0, .int .i64 0, .string ⟨#[]⟩]) rfl (by kernel_rfl) (by kernel_rfl) (by kernel_rfl) (fun _ _ _ h => h) (Or.inl ⟨by rfl, fun w hSw => ?_⟩) (by assumption) ?_
    · (try dsimp only at hSw)
      go_simp
    try simp only [Act.put, List.setIfInBounds_toArray, List.set_cons_zero, List.set_cons_succ]
    refine wpAnyH_ready (rs := [1]) (by kernel_rfl) (by simp) ?_
    refine AllReadyH.cons (o := { dst := some 21, op := Op.call { callee := Callee.value (Operand.func 52), args := #[Operand.tmp 7], argTypes := #[91] }, type := 4, pos := "wal.go:104", after := #[], guard := none }) rfl (fun K hK => ?_) AllReadyH.nil
    go_simp
    go_at_call 52
    refine hdn.mono ?_
    rintro e k4 ⟨rfl, rfl⟩
    refine hK.out _ _ ?_ (fun hHeld => ?_)
    · exact ⟨q1.cell (j := 0) rfl, q1.cell (j := 1) rfl, q1.cell (j := 2) rfl, q1.cell (j := 3) rfl, q1.cell (j := 4) rfl, q1.cell (j := 5) rfl, q1.cell (j := 6) rfl⟩
    clear hK K
    try simp only [Act.put, List.setIfInBounds_toArray, List.set_cons_zero, List.set_cons_succ]
    refine wpAnyH_take (i := 2) (oi := { dst := some 22, op := Op.move (Operand.tmp 21), type := 4, pos := "wal.go:104", after := #[{ on := 1, ground := Ground.data }, { on := 1, ground := Ground.chain }], guard := none }) (v := .bool false) rfl (by kernel_rfl) (by kernel_rfl) (by kernel_rfl) (fun _ _ _ h => h) (Or.inl ⟨by rfl, fun w hSw => ?_⟩) (by assumption) ?_
    · (try dsimp only at hSw)
      go_simp
    try simp only [Act.put, List.setIfInBounds_toArray, List.set_cons_zero, List.set_cons_succ]
    refine wpAnyH_take (i := 3) (oi := { dst := some 23, op := Op.load 32 (Operand.tmp 6), type := 32, pos := "wal.go:104", after := #[{ on := 2, ground := Ground.guard }], guard := some (2, true) }) (v := undef) rfl (by kernel_rfl) (by kernel_rfl) (by kernel_rfl) (fun _ _ _ h => h) (Or.inr ⟨by rfl, rfl⟩) (by assumption) ?_
    try simp only [Act.put, List.setIfInBounds_toArray, List.set_cons_zero, List.set_cons_succ]
    refine wpAnyH_take (i := 4) (oi := { dst := some 24, op := Op.call { callee := Callee.value (Operand.func 15), args := #[Operand.tmp 23], argTypes := #[32] }, type := 4, pos := "wal.go:104", after := #[{ on := 3, ground := Ground.data }, { on := 2, ground := Ground.chain }, { on := 2, ground := Ground.guard }], guard := some (2, true) }) (v := undef) rfl (by kernel_rfl) (by kernel_rfl) (by kernel_rfl) (fun _ _ _ h => h) (Or.inr ⟨by rfl, rfl⟩) (by assumption) ?_
    try simp only [Act.put, List.setIfInBounds_toArray, List.set_cons_zero, List.set_cons_succ]
    refine wpAnyH_take (i := 5) (oi := { dst := some 25, op := Op.pick (Operand.tmp 22) (Operand.tmp 24) (Operand.const (Value.bool false)), type := 4, pos := "wal.go:104", after := #[{ on := 2, ground := Ground.data }, { on := 4, ground := Ground.data }, { on := 6, ground := Ground.gcOnly Departure.lateStores }], guard := none }) (v := .bool false) rfl (by kernel_rfl) (by kernel_rfl) (by kernel_rfl) (fun _ _ _ h => h) (Or.inl ⟨by rfl, fun w hSw => ?_⟩) (by assumption) ?_
    · (try dsimp only at hSw)
      go_simp
    try simp only [Act.put, List.setIfInBounds_toArray, List.set_cons_zero, List.set_cons_succ]
    have z0 := q0.cell (j := 0) rfl
    have y0 := q0.frz 0
    have z1 := q0.cell (j := 1) rfl
    have y1 := q0.frz 1
    have z2 := q0.cell (j := 2) rfl
    have y2 := q0.frz 2
    have z3 := q0.cell (j := 3) rfl
    have y3 := q0.frz 3
    have z4 := q0.cell (j := 4) rfl
    have y4 := q0.frz 4
    have z5 := q0.cell (j := 5) rfl
    have y5 := q0.frz 5
    have z6 := q0.cell (j := 6) rfl
    have y6 := q0.frz 6
    refine wpAnyH_ready (rs := [6]) (by kernel_rfl) (by simp) ?_
    refine AllReadyH.cons (o := { dst := none, op := Op.store 32 (Operand.tmp 4) (Operand.tmp 20), type := 0, pos := "wal.go:104", after := #[{ on := 0, ground := Ground.data }, { on := 4, ground := Ground.chain }, { on := 0, ground := Ground.phase }, { on := 1, ground := Ground.textOnly Departure.lateStoresUnsure }, { on := 2, ground := Ground.textOnly Departure.lateStores }, { on := 3, ground := Ground.textOnly Departure.lateStores }, { on := 4, ground := Ground.textOnly Departure.lateStoresUnsure }, { on := 5, ground := Ground.textOnly Departure.lateStores }], guard := none }) rfl (fun K hK => ?_) AllReadyH.nil
    go_simp
    refine hK.out _ _ ?_ (fun hHeld => ?_)
    · exact ⟨(((((((q1.other 0 (.bool true) n01.symm).other 1 (.int .i64 ht) n01.symm).other 2 (.int .i64 hv) n01.symm).other 3 (.int .i64 0) n01.symm).other 4 (.int .i64 0) n01.symm).other 5 (.int .i64 0) n01.symm).other 6 (.string ⟨#[]⟩) n01.symm).cell (j := 0) rfl, (((((((q1.other 0 (.bool true) n01.symm).other 1 (.int .i64 ht) n01.symm).other 2 (.int .i64 hv) n01.symm).other 3 (.int .i64 0) n01.symm).other 4 (.int .i64 0) n01.symm).other 5 (.int .i64 0) n01.symm).other 6 (.string ⟨#[]⟩) n01.symm).cell (j := 1) rfl, (((((((q1.other 0 (.bool true) n01.symm).other 1 (.int .i64 ht) n01.symm).other 2 (.int .i64 hv) n01.symm).other 3 (.int .i64 0) n01.symm).other 4 (.int .i64 0) n01.symm).other 5 (.int .i64 0) n01.symm).other 6 (.string ⟨#[]⟩) n01.symm).cell (j := 2) rfl, (((((((q1.other 0 (.bool true) n01.symm).other 1 (.int .i64 ht) n01.symm).other 2 (.int .i64 hv) n01.symm).other 3 (.int .i64 0) n01.symm).other 4 (.int .i64 0) n01.symm).other 5 (.int .i64 0) n01.symm).other 6 (.string ⟨#[]⟩) n01.symm).cell (j := 3) rfl, (((((((q1.other 0 (.bool true) n01.symm).other 1 (.int .i64 ht) n01.symm).other 2 (.int .i64 hv) n01.symm).other 3 (.int .i64 0) n01.symm).other 4 (.int .i64 0) n01.symm).other 5 (.int .i64 0) n01.symm).other 6 (.string ⟨#[]⟩) n01.symm).cell (j := 4) rfl, (((((((q1.other 0 (.bool true) n01.symm).other 1 (.int .i64 ht) n01.symm).other 2 (.int .i64 hv) n01.symm).other 3 (.int .i64 0) n01.symm).other 4 (.int .i64 0) n01.symm).other 5 (.int .i64 0) n01.symm).other 6 (.string ⟨#[]⟩) n01.symm).cell (j := 5) rfl, (((((((q1.other 0 (.bool true) n01.symm).other 1 (.int .i64 ht) n01.symm).other 2 (.int .i64 hv) n01.symm).other 3 (.int .i64 0) n01.symm).other 4 (.int .i64 0) n01.symm).other 5 (.int .i64 0) n01.symm).other 6 (.string ⟨#[]⟩) n01.symm).cell (j := 6) rfl⟩
    clear hK K
    try simp only [Act.put, List.setIfInBounds_toArray, List.set_cons_zero, List.set_cons_succ]
    refine wpAnyH_ready (rs := [7]) (by kernel_rfl) (by simp) ?_
    refine AllReadyH.cons (o := { dst := some 5, op := Op.assign (Operand.tmp 25), type := 4, pos := "wal.go:104", after := #[{ on := 5, ground := Ground.data }, { on := 6, ground := Ground.chain }, { on := 0, ground := Ground.phase }, { on := 1, ground := Ground.phase }, { on := 2, ground := Ground.phase }, { on := 3, ground := Ground.phase }, { on := 4, ground := Ground.phase }, { on := 5, ground := Ground.phase }, { on := 6, ground := Ground.phase }], guard := none }) rfl (fun K hK => ?_) AllReadyH.nil
    go_simp
    refine hK.out _ _ ?_ (fun hHeld => ?_)
    · exact ⟨(((((((q1.other 0 (.bool true) n01.symm).other 1 (.int .i64 ht) n01.symm).other 2 (.int .i64 hv) n01.symm).other 3 (.int .i64 0) n01.symm).other 4 (.int .i64 0) n01.symm).other 5 (.int .i64 0) n01.symm).other 6 (.string ⟨#[]⟩) n01.symm).cell (j := 0) rfl, (((((((q1.other 0 (.bool true) n01.symm).other 1 (.int .i64 ht) n01.symm).other 2 (.int .i64 hv) n01.symm).other 3 (.int .i64 0) n01.symm).other 4 (.int .i64 0) n01.symm).other 5 (.int .i64 0) n01.symm).other 6 (.string ⟨#[]⟩) n01.symm).cell (j := 1) rfl, (((((((q1.other 0 (.bool true) n01.symm).other 1 (.int .i64 ht) n01.symm).other 2 (.int .i64 hv) n01.symm).other 3 (.int .i64 0) n01.symm).other 4 (.int .i64 0) n01.symm).other 5 (.int .i64 0) n01.symm).other 6 (.string ⟨#[]⟩) n01.symm).cell (j := 2) rfl, (((((((q1.other 0 (.bool true) n01.symm).other 1 (.int .i64 ht) n01.symm).other 2 (.int .i64 hv) n01.symm).other 3 (.int .i64 0) n01.symm).other 4 (.int .i64 0) n01.symm).other 5 (.int .i64 0) n01.symm).other 6 (.string ⟨#[]⟩) n01.symm).cell (j := 3) rfl, (((((((q1.other 0 (.bool true) n01.symm).other 1 (.int .i64 ht) n01.symm).other 2 (.int .i64 hv) n01.symm).other 3 (.int .i64 0) n01.symm).other 4 (.int .i64 0) n01.symm).other 5 (.int .i64 0) n01.symm).other 6 (.string ⟨#[]⟩) n01.symm).cell (j := 4) rfl, (((((((q1.other 0 (.bool true) n01.symm).other 1 (.int .i64 ht) n01.symm).other 2 (.int .i64 hv) n01.symm).other 3 (.int .i64 0) n01.symm).other 4 (.int .i64 0) n01.symm).other 5 (.int .i64 0) n01.symm).other 6 (.string ⟨#[]⟩) n01.symm).cell (j := 5) rfl, (((((((q1.other 0 (.bool true) n01.symm).other 1 (.int .i64 ht) n01.symm).other 2 (.int .i64 hv) n01.symm).other 3 (.int .i64 0) n01.symm).other 4 (.int .i64 0) n01.symm).other 5 (.int .i64 0) n01.symm).other 6 (.string ⟨#[]⟩) n01.symm).cell (j := 6) rfl⟩
    clear hK K
    try simp only [Act.put, List.setIfInBounds_toArray, List.set_cons_zero, List.set_cons_succ]
    refine wpAnyH_done (by kernel_rfl) ?_ _
    refine NoPanic.normal ?_
    go_wp2
    have hxs : Rt _ (w.heap.size) 32 [.bool true, .int .i64 ht, .int .i64 hv, .int .i64 0, .int .i64 0, .int .i64 0, .string ⟨#[]⟩] := (((((((q0.set 0 (.bool true)).set 1 (.int .i64 ht)).set 2 (.int .i64 hv)).set 3 (.int .i64 0)).set 4 (.int .i64 0)).set 5 (.int .i64 0)).set 6 (.string ⟨#[]⟩))
    have hbs := (below_set10 ((below_set10 ((below_set10 ((below_set10 ((below_set10 ((below_set10 ((below_set10 (hb) 0 (g := w.heap.size) (.bool true) (by omega))) 1 (g := w.heap.size) (.int .i64 ht) (by omega))) 2 (g := w.heap.size) (.int .i64 hv) (by omega))) 3 (g := w.heap.size) (.int .i64 0) (by omega))) 4 (g := w.heap.size) (.int .i64 0) (by omega))) 5 (g := w.heap.size) (.int .i64 0) (by omega))) 6 (g := w.heap.size) (.string ⟨#[]⟩) (by omega))
    refine body_world10 (fun W => Below w.heap.size w W ∧ Rt W (w.heap.size) 32 [.bool true, .int .i64 ht, .int .i64 hv, .int .i64 0, .int .i64 0, .int .i64 0, .string ⟨#[]⟩]) ⟨hbs, hxs⟩ ?_
    clear hbs hxs
    rintro W ⟨hbs, hxs⟩
    have d0 := hxs.cell (j := 0) rfl
    have d1 := hxs.cell (j := 1) rfl
    have d2 := hxs.cell (j := 2) rfl
    have d3 := hxs.cell (j := 3) rfl
    have d4 := hxs.cell (j := 4) rfl
    have d5 := hxs.cell (j := 5) rfl
    have d6 := hxs.cell (j := 6) rfl
    refine bodyPost_ret (v := .tuple #[.agg #[.bool true, .int .i64 ht, .int .i64 hv, .int .i64 0, .int .i64 0, .int .i64 0, .string ⟨#[]⟩], .bool false]) (by simp [results, Tryd.results43, go_sem, d0, d1, d2, d3, d4, d5, d6]) rfl ?_
    exact ⟨by rw [← HX.out]; rfl, hbs⟩
set_option maxHeartbeats 2000000 in
theorem wread_entry (A : Option Addr) (n c B : Nat) (l : List UInt8) (w : World) (h : Byt w B (.slice A n c) l) (hB : B ≤ w.heap.size) (hl : l.length ≤ 1000000) (s1 s2 s3 s4 : RdS10) (ix et kd : Int) (dt : ByteArray) (h1 : rdN10 (l, false) = (ix, s1)) (h2 : rdN10 s1 = (et, s2)) (h3 : rdN10 s2 = (kd, s3)) (h4 : rdT10 s3 = (dt, s4)) (l1 : s1.1.length ≤ 1000000) (l2 : s2.1.length ≤ 1000000) (l3 : s3.1.length ≤ 1000000) (b0 : -9223372036854775808 ≤ kd) (b1 : kd ≤ 9223372036854775807) (lS : s4.1.length ≤ 1000000) (ldt : dt.size ≤ 1000000) (x : Bool) (hx : (done10 s4 && may10 ⟨false, 0, 0, ⟨ix, et, kd, dt⟩⟩) = x) :
    Calls Tryd.prog 43 #[.int .i64 2, .slice A n c] w fun e w' => e = .returned (.tuple #[.agg #[.bool false, .int .i64 0, .int .i64 0, .int .i64 ix, .int .i64 et, .int .i64 kd, .string dt], .bool x]) ∧ Below w.heap.size w w' := by
  obtain ⟨W1, hW1⟩ : ∃ W1, ((w.alloc (.cells #[.bool false, .int .i64 0, .int .i64 0, .int .i64 0, .int .i64 0, .int .i64 0, .string ⟨#[]⟩] 32)).alloc (.cells #[.bool false, .int .i64 0, .int .i64 0, .int .i64 0, .int .i64 0, .int .i64 0, .string ⟨#[]⟩] 32)) = W1 := ⟨_, rfl⟩
  have hz1 : W1.heap.size = w.heap.size + 1 + 1 := by rw [← hW1]; simp
  have hbw1 : Below w.heap.size w W1 := by rw [← hW1]; exact (below_new _ _).alloc (by simp) _
  obtain ⟨W2, hW2⟩ : ∃ W2, W1.alloc (.cells #[.slice A n c, .bool false] 91) = W2 := ⟨_, rfl⟩
  have hbw2 : Below W1.heap.size W1 W2 := by rw [← hW2]; exact below_new _ _
  have hbw : Below w.heap.size w W2 := hbw1.trans (hbw2.mono hbw1.size)
  have r0 : Rt W2 (w.heap.size) 32 [.bool false, .int .i64 0, .int .i64 0, .int .i64 0, .int .i64 0, .int .i64 0, .string ⟨#[]⟩] := Rt.below (w := W1) (Rt.below (w := w.alloc (.cells #[.bool false, .int .i64 0, .int .i64 0, .int .i64 0, .int .i64 0, .int .i64 0, .string ⟨#[]⟩] 32)) (Rt.new _ _ _) (by rw [← hW1]; exact below_new _ _)) hbw2
  have r1 : Rt W2 (w.heap.size + 1) 32 [.bool false, .int .i64 0, .int .i64 0, .int .i64 0, .int .i64 0, .int .i64 0, .string ⟨#[]⟩] := Rt.below (w := W1) (by rw [← hW1]; exact Rt.new_at _ _ _ [.bool false, .int .i64 0, .int .i64 0, .int .i64 0, .int .i64 0, .int .i64 0, .string ⟨#[]⟩] (by simp)) hbw2
  have hr : WRd W2 (w.heap.size + 1 + 1) B (l, false) := by
    have := WRd.new W1 B l A n c (h.below hbw1 hB) (by omega)
    rw [hW2, hz1] at this; exact this
  have n0 : w.heap.size ≠ w.heap.size + 1 + 1 := by omega
  have n1 : w.heap.size + 1 ≠ w.heap.size + 1 + 1 := by omega
  have n01 : w.heap.size ≠ w.heap.size + 1 := by omega
  have HBW := Lib.hid hbw
  clear hbw1 hbw2 hbw h hz1
  go_enter Tryd.func43, Tryd.ntmps43
  have hW3 : (((w.alloc (.cells #[.bool false, .int .i64 0, .int .i64 0, .int .i64 0, .int .i64 0, .int .i64 0, .string ⟨#[]⟩] 32)).alloc (.cells #[.bool false, .int .i64 0, .int .i64 0, .int .i64 0, .int .i64 0, .int .i64 0, .string ⟨#[]⟩] 32)).alloc (.cells #[.slice A n c, .bool false] 91)) = W2 := by rw [hW1]; exact hW2
  have HW3 := Lib.hid hW3
  clear hW1 hW2 hW3
  go_wp2_with fail
  rw [HW3.out]
  refine (w10entry _ B (l, false) s1 s2 s3 s4 ix et kd dt _ hr hl l1 l2 l3 h1 h2 h3 h4 b0 b1).mono ?_
  rintro e k1 ⟨rfl, hr1, hq⟩
  have q0 := r0.grown hq n0
  have q1 := r1.grown hq n1
  have HB1 := Lib.hid (HBW.out.trans (below_grown10 hq (B := w.heap.size) (by omega) hr.lt))
  clear hq r0 r1 HW3 hr
  have c0 := q1.cell (j := 0) rfl
  have f0 := q1.frz 0
  have c1 := q1.cell (j := 1) rfl
  have f1 := q1.frz 1
  have c2 := q1.cell (j := 2) rfl
  have f2 := q1.frz 2
  have c3 := q1.cell (j := 3) rfl
  have f3 := q1.frz 3
  have c4 := q1.cell (j := 4) rfl
  have f4 := q1.frz 4
  have c5 := q1.cell (j := 5) rfl
  have f5 := q1.frz 5
  have c6 := q1.cell (j := 6) rfl
  have f6 := q1.frz 6
  have HR := Lib.hid hr1
  have HQ0 := Lib.hid q0
  have HQ1 := Lib.hid q1
  clear hr1 q0 q1
  have nr : w.heap.size + 1 + 1 ≠ w.heap.size + 1 := by omega
  have hBr : B ≤ w.heap.size + 1 := by omega
  go_wp2_with fail
  refine wp_world (fun W => Rt W (w.heap.size + 1) 32 [.bool false, .int .i64 0, .int .i64 0, .int .i64 ix, .int .i64 et, .int .i64 kd, .string dt] ∧ Rt W (w.heap.size) 32 [.bool false, .int .i64 0, .int .i64 0, .int .i64 0, .int .i64 0, .int .i64 0, .string ⟨#[]⟩] ∧ WRd W (w.heap.size + 1 + 1) B s4 ∧ Below w.heap.size w W) ⟨(((((((HQ1.out.set 0 (.bool false)).set 1 (.int .i64 0)).set 2 (.int .i64 0)).set 3 (.int .i64 ix)).set 4 (.int .i64 et)).set 5 (.int .i64 kd)).set 6 (.string dt)), (((((((HQ0.out.other 0 (.bool false) n01).other 1 (.int .i64 0) n01).other 2 (.int .i64 0) n01).other 3 (.int .i64 ix) n01).other 4 (.int .i64 et) n01).other 5 (.int .i64 kd) n01).other 6 (.string dt) n01), ?_, (below_set10 ((below_set10 ((below_set10 ((below_set10 ((below_set10 ((below_set10 ((below_set10 (HB1.out) 0 (g := w.heap.size + 1) (.bool false) (by omega))) 1 (g := w.heap.size + 1) (.int .i64 0) (by omega))) 2 (g := w.heap.size + 1) (.int .i64 0) (by omega))) 3 (g := w.heap.size + 1) (.int .i64 ix) (by omega))) 4 (g := w.heap.size + 1) (.int .i64 et) (by omega))) 5 (g := w.heap.size + 1) (.int .i64 kd) (by omega))) 6 (g := w.heap.size + 1) (.string dt) (by omega))⟩ ?_
  · exact ((((((((((((((HR.out).set10 0 (g' := w.heap.size + 1) (.bool false) nr hBr)).set10 1 (g' := w.heap.size + 1) (.int .i64 0) nr hBr)).set10 2 (g' := w.heap.size + 1) (.int .i64 0) nr hBr)).set10 3 (g' := w.heap.size + 1) (.int .i64 ix) nr hBr)).set10 4 (g' := w.heap.size + 1) (.int .i64 et) nr hBr)).set10 5 (g' := w.heap.size + 1) (.int .i64 kd) nr hBr)).set10 6 (g' := w.heap.size + 1) (.string dt) nr hBr)
  clear c0 c1 c2 c3 c4 c5 c6 f0 f1 f2 f3 f4 f5 f6 HQ0 HQ1 HR HB1
  rintro k2 ⟨q1, q0, hr, hb⟩
  obtain ⟨d, hd⟩ : ∃ d, done10 s4 = d := ⟨_, rfl⟩
  rw [hd] at hx
  have hdn := w10done _ B s4 k2.drew hr lS
  rw [show (!s4.2 && s4.1.length == 0) = d from hd] at hdn
  replace q1 : Rt k2.drew (w.heap.size + 1) 32 [.bool false, .int .i64 0, .int .i64 0, .int .i64 ix, .int .i64 et, .int .i64 kd, .string dt] := q1
  replace q0 : Rt k2.drew (w.heap.size) 32 [.bool false, .int .i64 0, .int .i64 0, .int .i64 0, .int .i64 0, .int .i64 0, .string ⟨#[]⟩] := q0
  replace hb : Below w.heap.size w k2.drew := hb.drew
  have hm := fun W => wmay10_any ⟨false, 0, 0, ⟨ix, et, kd, dt⟩⟩ W ldt
  obtain ⟨y, hy⟩ : ∃ y, may10 ⟨false, 0, 0, ⟨ix, et, kd, dt⟩⟩ = y := ⟨_, rfl⟩
  rw [hy] at hx hm
  have hlt := q1.lt
  refine wp_region_noPanic ?_
  refine wp_region_held_drew (S := fun W => W.cell? ⟨w.heap.size + 1, 0, none⟩ = some (.bool false) ∧ W.cell? ⟨w.heap.size + 1, 1, none⟩ = some (.int .i64 0) ∧ W.cell? ⟨w.heap.size + 1, 2, none⟩ = some (.int .i64 0) ∧ W.cell? ⟨w.heap.size + 1, 3, none⟩ = some (.int .i64 ix) ∧ W.cell? ⟨w.heap.size + 1, 4, none⟩ = some (.int .i64 et) ∧ W.cell? ⟨w.heap.size + 1, 5, none⟩ = some (.int .i64 kd) ∧ W.cell? ⟨w.heap.size + 1, 6, none⟩ = some (.string dt)) (by kernel_rfl) ?_ (fun hHeld => ?_)
  · exact ⟨q1.cell (j := 0) rfl, q1.cell (j := 1) rfl, q1.cell (j := 2) rfl, q1.cell (j := 3) rfl, q1.cell (j := 4) rfl, q1.cell (j := 5) rfl, q1.cell (j := 6) rfl⟩
  generalize k2.drew = k3 at *
  have HX := Lib.hid hx
  clear hr hd hy hx
  cases d with
  | true =>
    refine wpAnyH_take (i := 0) (oi := { dst := some 20, op := Op.load 32 (Operand.tmp 6), type := 32, pos := "wal.go:104", after := #[], guard := none }) (v := .agg #[.bool false, .int .i64 0, .int .i64 0, .int .i64 ix, .int .i64 et, .int .i64 kd, .string dt]) rfl (by kernel_rfl) (by kernel_rfl) (by kernel_rfl) (fun _ _ _ h => h) (Or.inl ⟨by rfl, fun w hSw => ?_⟩) (by assumption) ?_
    · (try dsimp only at hSw)
      go_simp
    try simp only [Act.put, List.setIfInBounds_toArray, List.set_cons_zero, List.set_cons_succ]
    refine wpAnyH_ready (rs := [1]) (by kernel_rfl) (by simp) ?_
    refine AllReadyH.cons (o := { dst := some 21, op := Op.call { callee := Callee.value (Operand.func 52), args := #[Operand.tmp 7], argTypes := #[91] }, type := 4, pos := "wal.go:104", after := #[], guard := none }) rfl (fun K hK => ?_) AllReadyH.nil
    go_simp
    go_at_call 52
    refine hdn.mono ?_
    rintro e k4 ⟨rfl, rfl⟩
    refine hK.out _ _ ?_ (fun hHeld => ?_)
    · exact ⟨q1.cell (j := 0) rfl, q1.cell (j := 1) rfl, q1.cell (j := 2) rfl, q1.cell (j := 3) rfl, q1.cell (j := 4) rfl, q1.cell (j := 5) rfl, q1.cell (j := 6) rfl⟩
    clear hK K
    try simp only [Act.put, List.setIfInBounds_toArray, List.set_cons_zero, List.set_cons_succ]
    refine wpAnyH_take (i := 2) (oi := { dst := some 22, op := Op.move (Operand.tmp 21), type := 4, pos := "wal.go:104", after := #[{ on := 1, ground := Ground.data }, { on := 1, ground := Ground.chain }], guard := none }) (v := .bool true) rfl (by kernel_rfl) (by kernel_rfl) (by kernel_rfl) (fun _ _ _ h => h) (Or.inl ⟨by rfl, fun w hSw => ?_⟩) (by assumption) ?_
    · (try dsimp only at hSw)
      go_simp
    try simp only [Act.put, List.setIfInBounds_toArray, List.set_cons_zero, List.set_cons_succ]
    refine wpAnyH_take (i := 3) (oi := { dst := some 23, op := Op.load 32 (Operand.tmp 6), type := 32, pos := "wal.go:104", after := #[{ on := 2, ground := Ground.guard }], guard := some (2, true) }) (v := .agg #[.bool false, .int .i64 0, .int .i64 0, .int .i64 ix, .int .i64 et, .int .i64 kd, .string dt]) rfl (by kernel_rfl) (by kernel_rfl) (by kernel_rfl) (fun _ _ _ h => h) (Or.inl ⟨by rfl, fun w hSw => ?_⟩) (by assumption) ?_
    · (try dsimp only at hSw)
      go_simp
    try simp only [Act.put, List.setIfInBounds_toArray, List.set_cons_zero, List.set_cons_succ]
    refine wpAnyH_ready (rs := [4]) (by kernel_rfl) (by simp) ?_
    refine AllReadyH.cons (o := { dst := some 24, op := Op.call { callee := Callee.value (Operand.func 15), args := #[Operand.tmp 23], argTypes := #[32] }, type := 4, pos := "wal.go:104", after := #[{ on := 3, ground := Ground.data }, { on := 2, ground := Ground.chain }, { on := 2, ground := Ground.guard }], guard := some (2, true) }) rfl (fun K hK => ?_) AllReadyH.nil
    go_simp
    go_at_call 15
    refine (hm _).mono ?_
    rintro e k5 ⟨rfl, h⟩
    replace q1 := q1.below h
    replace q0 := q0.below h
    replace hb := hb.trans (h.mono hb.size)
    have hl5 := h.size
    clear h
    refine hK.out _ _ ?_ (fun hHeld => ?_)
    · exact ⟨q1.cell (j := 0) rfl, q1.cell (j := 1) rfl, q1.cell (j := 2) rfl, q1.cell (j := 3) rfl, q1.cell (j := 4) rfl, q1.cell (j := 5) rfl, q1.cell (j := 6) rfl⟩
    clear hK K
    try simp only [Act.put, List.setIfInBounds_toArray, List.set_cons_zero, List.set_cons_succ]
    refine wpAnyH_take (i := 5) (oi := { dst := some 25, op := Op.pick (Operand.tmp 22) (Operand.tmp 24) (Operand.const (Value.bool false)), type := 4, pos := "wal.go:104", after := #[{ on := 2, ground := Ground.data }, { on := 4, ground := Ground.data }, { on := 6, ground := Ground.gcOnly Departure.lateStores }], guard := none }) (v := .bool y) rfl (by kernel_rfl) (by kernel_rfl) (by kernel_rfl) (fun _ _ _ h => h) (Or.inl ⟨by rfl, fun w hSw => ?_⟩) (by assumption) ?_
    · (try dsimp only at hSw)
      go_simp
    try simp only [Act.put, List.setIfInBounds_toArray, List.set_cons_zero, List.set_cons_succ]
    have z0 := q0.cell (j := 0) rfl
    have y0 := q0.frz 0
    have z1 := q0.cell (j := 1) rfl
    have y1 := q0.frz 1
    have z2 := q0.cell (j := 2) rfl
    have y2 := q0.frz 2
    have z3 := q0.cell (j := 3) rfl
    have y3 := q0.frz 3
    have z4 := q0.cell (j := 4) rfl
    have y4 := q0.frz 4
    have z5 := q0.cell (j := 5) rfl
    have y5 := q0.frz 5
    have z6 := q0.cell (j := 6) rfl
    have y6 := q0.frz 6
    refine wpAnyH_ready (rs := [6]) (by kernel_rfl) (by simp) ?_
    refine AllReadyH.cons (o := { dst := none, op := Op.store 32 (Operand.tmp 4) (Operand.tmp 20), type := 0, pos := "wal.go:104", after := #[{ on := 0, ground := Ground.data }, { on := 4, ground := Ground.chain }, { on := 0, ground := Ground.phase }, { on := 1, ground := Ground.textOnly Departure.lateStoresUnsure }, { on := 2, ground := Ground.textOnly Departure.lateStores }, { on := 3, ground := Ground.textOnly Departure.lateStores }, { on := 4, ground := Ground.textOnly Departure.lateStoresUnsure }, { on := 5, ground := Ground.textOnly Departure.lateStores }], guard := none }) rfl (fun K hK => ?_) AllReadyH.nil
    go_simp
    refine hK.out _ _ ?_ (fun hHeld => ?_)
    · exact ⟨(((((((q1.other 0 (.bool false) n01.symm).other 1 (.int .i64 0) n01.symm).other 2 (.int .i64 0) n01.symm).other 3 (.int .i64 ix) n01.symm).other 4 (.int .i64 et) n01.symm).other 5 (.int .i64 kd) n01.symm).other 6 (.string dt) n01.symm).cell (j := 0) rfl, (((((((q1.other 0 (.bool false) n01.symm).other 1 (.int .i64 0) n01.symm).other 2 (.int .i64 0) n01.symm).other 3 (.int .i64 ix) n01.symm).other 4 (.int .i64 et) n01.symm).other 5 (.int .i64 kd) n01.symm).other 6 (.string dt) n01.symm).cell (j := 1) rfl, (((((((q1.other 0 (.bool false) n01.symm).other 1 (.int .i64 0) n01.symm).other 2 (.int .i64 0) n01.symm).other 3 (.int .i64 ix) n01.symm).other 4 (.int .i64 et) n01.symm).other 5 (.int .i64 kd) n01.symm).other 6 (.string dt) n01.symm).cell (j := 2) rfl, (((((((q1.other 0 (.bool false) n01.symm).other 1 (.int .i64 0) n01.symm).other 2 (.int .i64 0) n01.symm).other 3 (.int .i64 ix) n01.symm).other 4 (.int .i64 et) n01.symm).other 5 (.int .i64 kd) n01.symm).other 6 (.string dt) n01.symm).cell (j := 3) rfl, (((((((q1.other 0 (.bool false) n01.symm).other 1 (.int .i64 0) n01.symm).other 2 (.int .i64 0) n01.symm).other 3 (.int .i64 ix) n01.symm).other 4 (.int .i64 et) n01.symm).other 5 (.int .i64 kd) n01.symm).other 6 (.string dt) n01.symm).cell (j := 4) rfl, (((((((q1.other 0 (.bool false) n01.symm).other 1 (.int .i64 0) n01.symm).other 2 (.int .i64 0) n01.symm).other 3 (.int .i64 ix) n01.symm).other 4 (.int .i64 et) n01.symm).other 5 (.int .i64 kd) n01.symm).other 6 (.string dt) n01.symm).cell (j := 5) rfl, (((((((q1.other 0 (.bool false) n01.symm).other 1 (.int .i64 0) n01.symm).other 2 (.int .i64 0) n01.symm).other 3 (.int .i64 ix) n01.symm).other 4 (.int .i64 et) n01.symm).other 5 (.int .i64 kd) n01.symm).other 6 (.string dt) n01.symm).cell (j := 6) rfl⟩
    clear hK K
    try simp only [Act.put, List.setIfInBounds_toArray, List.set_cons_zero, List.set_cons_succ]
    refine wpAnyH_ready (rs := [7]) (by kernel_rfl) (by simp) ?_
    refine AllReadyH.cons (o := { dst := some 5, op := Op.assign (Operand.tmp 25), type := 4, pos := "wal.go:104", after := #[{ on := 5, ground := Ground.data }, { on := 6, ground := Ground.chain }, { on := 0, ground := Ground.phase }, { on := 1, ground := Ground.phase }, { on := 2, ground := Ground.phase }, { on := 3, ground := Ground.phase }, { on := 4, ground := Ground.phase }, { on := 5, ground := Ground.phase }, { on := 6, ground := Ground.phase }], guard := none }) rfl (fun K hK => ?_) AllReadyH.nil
    go_simp
    refine hK.out _ _ ?_ (fun hHeld => ?_)
    · exact ⟨(((((((q1.other 0 (.bool false) n01.symm).other 1 (.int .i64 0) n01.symm).other 2 (.int .i64 0) n01.symm).other 3 (.int .i64 ix) n01.symm).other 4 (.int .i64 et) n01.symm).other 5 (.int .i64 kd) n01.symm).other 6 (.string dt) n01.symm).cell (j := 0) rfl, (((((((q1.other 0 (.bool false) n01.symm).other 1 (.int .i64 0) n01.symm).other 2 (.int .i64 0) n01.symm).other 3 (.int .i64 ix) n01.symm).other 4 (.int .i64 et) n01.symm).other 5 (.int .i64 kd) n01.symm).other 6 (.string dt) n01.symm).cell (j := 1) rfl, (((((((q1.other 0 (.bool false) n01.symm).other 1 (.int .i64 0) n01.symm).other 2 (.int .i64 0) n01.symm).other 3 (.int .i64 ix) n01.symm).other 4 (.int .i64 et) n01.symm).other 5 (.int .i64 kd) n01.symm).other 6 (.string dt) n01.symm).cell (j := 2) rfl, (((((((q1.other 0 (.bool false) n01.symm).other 1 (.int .i64 0) n01.symm).other 2 (.int .i64 0) n01.symm).other 3 (.int .i64 ix) n01.symm).other 4 (.int .i64 et) n01.symm).other 5 (.int .i64 kd) n01.symm).other 6 (.string dt) n01.symm).cell (j := 3) rfl, (((((((q1.other 0 (.bool false) n01.symm).other 1 (.int .i64 0) n01.symm).other 2 (.int .i64 0) n01.symm).other 3 (.int .i64 ix) n01.symm).other 4 (.int .i64 et) n01.symm).other 5 (.int .i64 kd) n01.symm).other 6 (.string dt) n01.symm).cell (j := 4) rfl, (((((((q1.other 0 (.bool false) n01.symm).other 1 (.int .i64 0) n01.symm).other 2 (.int .i64 0) n01.symm).other 3 (.int .i64 ix) n01.symm).other 4 (.int .i64 et) n01.symm).other 5 (.int .i64 kd) n01.symm).other 6 (.string dt) n01.symm).cell (j := 5) rfl, (((((((q1.other 0 (.bool false) n01.symm).other 1 (.int .i64 0) n01.symm).other 2 (.int .i64 0) n01.symm).other 3 (.int .i64 ix) n01.symm).other 4 (.int .i64 et) n01.symm).other 5 (.int .i64 kd) n01.symm).other 6 (.string dt) n01.symm).cell (j := 6) rfl⟩
    clear hK K
    try simp only [Act.put, List.setIfInBounds_toArray, List.set_cons_zero, List.set_cons_succ]
    refine wpAnyH_done (by kernel_rfl) ?_ _
    refine NoPanic.normal ?_
    go_wp2
    have hxs : Rt _ (w.heap.size) 32 [.bool false, .int .i64 0, .int .i64 0, .int .i64 ix, .int .i64 et, .int .i64 kd, .string dt] := (((((((q0.set 0 (.bool false)).set 1 (.int .i64 0)).set 2 (.int .i64 0)).set 3 (.int .i64 ix)).set 4 (.int .i64 et)).set 5 (.int .i64 kd)).set 6 (.string dt))
    have hbs := (below_set10 ((below_set10 ((below_set10 ((below_set10 ((below_set10 ((below_set10 ((below_set10 (hb) 0 (g := w.heap.size) (.bool false) (by omega))) 1 (g := w.heap.size) (.int .i64 0) (by omega))) 2 (g := w.heap.size) (.int .i64 0) (by omega))) 3 (g := w.heap.size) (.int .i64 ix) (by omega))) 4 (g := w.heap.size) (.int .i64 et) (by omega))) 5 (g := w.heap.size) (.int .i64 kd) (by omega))) 6 (g := w.heap.size) (.string dt) (by omega))
    refine body_world10 (fun W => Below w.heap.size w W ∧ Rt W (w.heap.size) 32 [.bool false, .int .i64 0, .int .i64 0, .int .i64 ix, .int .i64 et, .int .i64 kd, .string dt]) ⟨hbs, hxs⟩ ?_
    clear hbs hxs
    rintro W ⟨hbs, hxs⟩
    have d0 := hxs.cell (j := 0) rfl
    have d1 := hxs.cell (j := 1) rfl
    have d2 := hxs.cell (j := 2) rfl
    have d3 := hxs.cell (j := 3) rfl
    have d4 := hxs.cell (j := 4) rfl
    have d5 := hxs.cell (j := 5) rfl
    have d6 := hxs.cell (j := 6) rfl
    refine bodyPost_ret (v := .tuple #[.agg #[.bool false, .int .i64 0, .int .i64 0, .int .i64 ix, .int .i64 et, .int .i64 kd, .string dt], .bool y]) (by simp [results, Tryd.results43, go_sem, d0, d1, d2, d3, d4, d5, d6]) rfl ?_
    exact ⟨by rw [← HX.out]; rfl, hbs⟩
  | false =>
    refine wpAnyH_take (i := 0) (oi := { dst := some 20, op := Op.load 32 (Operand.tmp 6), type := 32, pos := "wal.go:104", after := #[], guard := none }) (v := .agg #[.bool false, .int .i64 0, .int .i64 0, .int .i64 ix, .int .i64 et, .int .i64 kd, .string dt]) rfl (by kernel_rfl) (by kernel_rfl) (by kernel_rfl) (fun _ _ _ h => h) (Or.inl ⟨by rfl, fun w hSw => ?_⟩) (by assumption) ?_
    · (try dsimp only at hSw)
      go_simp
    try simp only [Act.put, List.setIfInBounds_toArray, List.set_cons_zero, List.set_cons_succ]
    refine wpAnyH_ready (rs := [1]) (by kernel_rfl) (by simp) ?_
    refine AllReadyH.cons (o := { dst := some 21, op := Op.call { callee := Callee.value (Operand.func 52), args := #[Operand.tmp 7], argTypes := #[91] }, type := 4, pos := "wal.go:104", after := #[], guard := none }) rfl (fun K hK => ?_) AllReadyH.nil
    go_simp
    go_at_call 52
    refine hdn.mono ?_
    rintro e k4 ⟨rfl, rfl⟩
    refine hK.out _ _ ?_ (fun hHeld => ?_)
    · exact ⟨q1.cell (j := 0) rfl, q1.cell (j := 1) rfl, q1.cell (j := 2) rfl, q1.cell (j := 3) rfl, q1.cell (j := 4) rfl, q1.cell (j := 5) rfl, q1.cell (j := 6) rfl⟩
    clear hK K
    try simp only [Act.put, List.setIfInBounds_toArray, List.set_cons_zero, List.set_cons_succ]
    refine wpAnyH_take (i := 2) (oi := { dst := some 22, op := Op.move (Operand.tmp 21), type := 4, pos := "wal.go:104", after := #[{ on := 1, ground := Ground.data }, { on := 1, ground := Ground.chain }], guard := none }) (v := .bool false) rfl (by kernel_rfl) (by kernel_rfl) (by kernel_rfl) (fun _ _ _ h => h) (Or.inl ⟨by rfl, fun w hSw => ?_⟩) (by assumption) ?_
    · (try dsimp only at hSw)
      go_simp
    try simp only [Act.put, List.setIfInBounds_toArray, List.set_cons_zero, List.set_cons_succ]
    refine wpAnyH_take (i := 3) (oi := { dst := some 23, op := Op.load 32 (Operand.tmp 6), type := 32, pos := "wal.go:104", after := #[{ on := 2, ground := Ground.guard }], guard := some (2, true) }) (v := undef) rfl (by kernel_rfl) (by kernel_rfl) (by kernel_rfl) (fun _ _ _ h => h) (Or.inr ⟨by rfl, rfl⟩) (by assumption) ?_
    try simp only [Act.put, List.setIfInBounds_toArray, List.set_cons_zero, List.set_cons_succ]
    refine wpAnyH_take (i := 4) (oi := { dst := some 24, op := Op.call { callee := Callee.value (Operand.func 15), args := #[Operand.tmp 23], argTypes := #[32] }, type := 4, pos := "wal.go:104", after := #[{ on := 3, ground := Ground.data }, { on := 2, ground := Ground.chain }, { on := 2, ground := Ground.guard }], guard := some (2, true) }) (v := undef) rfl (by kernel_rfl) (by kernel_rfl) (by kernel_rfl) (fun _ _ _ h => h) (Or.inr ⟨by rfl, rfl⟩) (by assumption) ?_
    try simp only [Act.put, List.setIfInBounds_toArray, List.set_cons_zero, List.set_cons_succ]
    refine wpAnyH_take (i := 5) (oi := { dst := some 25, op := Op.pick (Operand.tmp 22) (Operand.tmp 24) (Operand.const (Value.bool false)), type := 4, pos := "wal.go:104", after := #[{ on := 2, ground := Ground.data }, { on := 4, ground := Ground.data }, { on := 6, ground := Ground.gcOnly Departure.lateStores }], guard := none }) (v := .bool false) rfl (by kernel_rfl) (by kernel_rfl) (by kernel_rfl) (fun _ _ _ h => h) (Or.inl ⟨by rfl, fun w hSw => ?_⟩) (by assumption) ?_
    · (try dsimp only at hSw)
      go_simp
    try simp only [Act.put, List.setIfInBounds_toArray, List.set_cons_zero, List.set_cons_succ]
    have z0 := q0.cell (j := 0) rfl
    have y0 := q0.frz 0
    have z1 := q0.cell (j := 1) rfl
    have y1 := q0.frz 1
    have z2 := q0.cell (j := 2) rfl
    have y2 := q0.frz 2
    have z3 := q0.cell (j := 3) rfl
    have y3 := q0.frz 3
    have z4 := q0.cell (j := 4) rfl
    have y4 := q0.frz 4
    have z5 := q0.cell (j := 5) rfl
    have y5 := q0.frz 5
    have z6 := q0.cell (j := 6) rfl
    have y6 := q0.frz 6
    refine wpAnyH_ready (rs := [6]) (by kernel_rfl) (by simp) ?_
    refine AllReadyH.cons (o := { dst := none, op := Op.store 32 (Operand.tmp 4) (Operand.tmp 20), type := 0, pos := "wal.go:104", after := #[{ on := 0, ground := Ground.data }, { on := 4, ground := Ground.chain }, { on := 0, ground := Ground.phase }, { on := 1, ground := Ground.textOnly Departure.lateStoresUnsure }, { on := 2, ground := Ground.textOnly Departure.lateStores }, { on := 3, ground := Ground.textOnly Departure.lateStores }, { on := 4, ground := Ground.textOnly Departure.lateStoresUnsure }, { on := 5, ground := Ground.textOnly Departure.lateStores }], guard := none }) rfl (fun K hK => ?_) AllReadyH.nil
    go_simp
    refine hK.out _ _ ?_ (fun hHeld => ?_)
    · exact ⟨(((((((q1.other 0 (.bool false) n01.symm).other 1 (.int .i64 0) n01.symm).other 2 (.int .i64 0) n01.symm).other 3 (.int .i64 ix) n01.symm).other 4 (.int .i64 et) n01.symm).other 5 (.int .i64 kd) n01.symm).other 6 (.string dt) n01.symm).cell (j := 0) rfl, (((((((q1.other 0 (.bool false) n01.symm).other 1 (.int .i64 0) n01.symm).other 2 (.int .i64 0) n01.symm).other 3 (.int .i64 ix) n01.symm).other 4 (.int .i64 et) n01.symm).other 5 (.int .i64 kd) n01.symm).other 6 (.string dt) n01.symm).cell (j := 1) rfl, (((((((q1.other 0 (.bool false) n01.symm).other 1 (.int .i64 0) n01.symm).other 2 (.int .i64 0) n01.symm).other 3 (.int .i64 ix) n01.symm).other 4 (.int .i64 et) n01.symm).other 5 (.int .i64 kd) n01.symm).other 6 (.string dt) n01.symm).cell (j := 2) rfl, (((((((q1.other 0 (.bool false) n01.symm).other 1 (.int .i64 0) n01.symm).other 2 (.int .i64 0) n01.symm).other 3 (.int .i64 ix) n01.symm).other 4 (.int .i64 et) n01.symm).other 5 (.int .i64 kd) n01.symm).other 6 (.string dt) n01.symm).cell (j := 3) rfl, (((((((q1.other 0 (.bool false) n01.symm).other 1 (.int .i64 0) n01.symm).other 2 (.int .i64 0) n01.symm).other 3 (.int .i64 ix) n01.symm).other 4 (.int .i64 et) n01.symm).other 5 (.int .i64 kd) n01.symm).other 6 (.string dt) n01.symm).cell (j := 4) rfl, (((((((q1.other 0 (.bool false) n01.symm).other 1 (.int .i64 0) n01.symm).other 2 (.int .i64 0) n01.symm).other 3 (.int .i64 ix) n01.symm).other 4 (.int .i64 et) n01.symm).other 5 (.int .i64 kd) n01.symm).other 6 (.string dt) n01.symm).cell (j := 5) rfl, (((((((q1.other 0 (.bool false) n01.symm).other 1 (.int .i64 0) n01.symm).other 2 (.int .i64 0) n01.symm).other 3 (.int .i64 ix) n01.symm).other 4 (.int .i64 et) n01.symm).other 5 (.int .i64 kd) n01.symm).other 6 (.string dt) n01.symm).cell (j := 6) rfl⟩
    clear hK K
    try simp only [Act.put, List.setIfInBounds_toArray, List.set_cons_zero, List.set_cons_succ]
    refine wpAnyH_ready (rs := [7]) (by kernel_rfl) (by simp) ?_
    refine AllReadyH.cons (o := { dst := some 5, op := Op.assign (Operand.tmp 25), type := 4, pos := "wal.go:104", after := #[{ on := 5, ground := Ground.data }, { on := 6, ground := Ground.chain }, { on := 0, ground := Ground.phase }, { on := 1, ground := Ground.phase }, { on := 2, ground := Ground.phase }, { on := 3, ground := Ground.phase }, { on := 4, ground := Ground.phase }, { on := 5, ground := Ground.phase }, { on := 6, ground := Ground.phase }], guard := none }) rfl (fun K hK => ?_) AllReadyH.nil
    go_simp
    refine hK.out _ _ ?_ (fun hHeld => ?_)
    · exact ⟨(((((((q1.other 0 (.bool false) n01.symm).other 1 (.int .i64 0) n01.symm).other 2 (.int .i64 0) n01.symm).other 3 (.int .i64 ix) n01.symm).other 4 (.int .i64 et) n01.symm).other 5 (.int .i64 kd) n01.symm).other 6 (.string dt) n01.symm).cell (j := 0) rfl, (((((((q1.other 0 (.bool false) n01.symm).other 1 (.int .i64 0) n01.symm).other 2 (.int .i64 0) n01.symm).other 3 (.int .i64 ix) n01.symm).other 4 (.int .i64 et) n01.symm).other 5 (.int .i64 kd) n01.symm).other 6 (.string dt) n01.symm).cell (j := 1) rfl, (((((((q1.other 0 (.bool false) n01.symm).other 1 (.int .i64 0) n01.symm).other 2 (.int .i64 0) n01.symm).other 3 (.int .i64 ix) n01.symm).other 4 (.int .i64 et) n01.symm).other 5 (.int .i64 kd) n01.symm).other 6 (.string dt) n01.symm).cell (j := 2) rfl, (((((((q1.other 0 (.bool false) n01.symm).other 1 (.int .i64 0) n01.symm).other 2 (.int .i64 0) n01.symm).other 3 (.int .i64 ix) n01.symm).other 4 (.int .i64 et) n01.symm).other 5 (.int .i64 kd) n01.symm).other 6 (.string dt) n01.symm).cell (j := 3) rfl, (((((((q1.other 0 (.bool false) n01.symm).other 1 (.int .i64 0) n01.symm).other 2 (.int .i64 0) n01.symm).other 3 (.int .i64 ix) n01.symm).other 4 (.int .i64 et) n01.symm).other 5 (.int .i64 kd) n01.symm).other 6 (.string dt) n01.symm).cell (j := 4) rfl, (((((((q1.other 0 (.bool false) n01.symm).other 1 (.int .i64 0) n01.symm).other 2 (.int .i64 0) n01.symm).other 3 (.int .i64 ix) n01.symm).other 4 (.int .i64 et) n01.symm).other 5 (.int .i64 kd) n01.symm).other 6 (.string dt) n01.symm).cell (j := 5) rfl, (((((((q1.other 0 (.bool false) n01.symm).other 1 (.int .i64 0) n01.symm).other 2 (.int .i64 0) n01.symm).other 3 (.int .i64 ix) n01.symm).other 4 (.int .i64 et) n01.symm).other 5 (.int .i64 kd) n01.symm).other 6 (.string dt) n01.symm).cell (j := 6) rfl⟩
    clear hK K
    try simp only [Act.put, List.setIfInBounds_toArray, List.set_cons_zero, List.set_cons_succ]
    refine wpAnyH_done (by kernel_rfl) ?_ _
    refine NoPanic.normal ?_
    go_wp2
    have hxs : Rt _ (w.heap.size) 32 [.bool false, .int .i64 0, .int .i64 0, .int .i64 ix, .int .i64 et, .int .i64 kd, .string dt] := (((((((q0.set 0 (.bool false)).set 1 (.int .i64 0)).set 2 (.int .i64 0)).set 3 (.int .i64 ix)).set 4 (.int .i64 et)).set 5 (.int .i64 kd)).set 6 (.string dt))
    have hbs := (below_set10 ((below_set10 ((below_set10 ((below_set10 ((below_set10 ((below_set10 ((below_set10 (hb) 0 (g := w.heap.size) (.bool false) (by omega))) 1 (g := w.heap.size) (.int .i64 0) (by omega))) 2 (g := w.heap.size) (.int .i64 0) (by omega))) 3 (g := w.heap.size) (.int .i64 ix) (by omega))) 4 (g := w.heap.size) (.int .i64 et) (by omega))) 5 (g := w.heap.size) (.int .i64 kd) (by omega))) 6 (g := w.heap.size) (.string dt) (by omega))
    refine body_world10 (fun W => Below w.heap.size w W ∧ Rt W (w.heap.size) 32 [.bool false, .int .i64 0, .int .i64 0, .int .i64 ix, .int .i64 et, .int .i64 kd, .string dt]) ⟨hbs, hxs⟩ ?_
    clear hbs hxs
    rintro W ⟨hbs, hxs⟩
    have d0 := hxs.cell (j := 0) rfl
    have d1 := hxs.cell (j := 1) rfl
    have d2 := hxs.cell (j := 2) rfl
    have d3 := hxs.cell (j := 3) rfl
    have d4 := hxs.cell (j := 4) rfl
    have d5 := hxs.cell (j := 5) rfl
    have d6 := hxs.cell (j := 6) rfl
    refine bodyPost_ret (v := .tuple #[.agg #[.bool false, .int .i64 0, .int .i64 0, .int .i64 ix, .int .i64 et, .int .i64 kd, .string dt], .bool false]) (by simp [results, Tryd.results43, go_sem, d0, d1, d2, d3, d4, d5, d6]) rfl ?_
    exact ⟨by rw [← HX.out]; rfl, hbs⟩
theorem getF_zero10 : ∀ (l : List UInt8) (i u p : Nat), (Nu.getF i u p l).2.2 ≠ 0 → (Nu.getF i u p l).1 = 0
  | [], _, _, _, _ => rfl
  | x :: r, i, u, p, h => by
    unfold Nu.getF at h ⊢
    revert h
    repeat' split
    all_goals first | (intro _; rfl) | (intro h; exact absurd rfl h) | exact getF_zero10 r _ _ _
theorem get_zero10 {l : List UInt8} {m : Int} {k e : Nat} (h : Nu.get l = (m, k, e)) (he : e ≠ 0) : m = 0 := by
  have := getF_zero10 l 0 0 1
  unfold Nu.get at h
  rw [h] at this
  exact this he
theorem getT_size10 (s : RdS10) : (rdT10 s).1.size ≤ s.1.length := by
  unfold rdT10
  simp only
  obtain ⟨⟨m, k, e⟩, hg⟩ : ∃ r, Nu.getT s.1 = r := ⟨_, rfl⟩
  rw [hg]
  show m.toArray.size ≤ _
  simp only [List.size_toArray]
  by_cases he : e = 0
  · subst he
    obtain ⟨h1, h2, _⟩ := Nu.getT_canon s.1 m k hg
    have := congrArg List.length h1
    rw [List.length_append] at this
    unfold Nu.putT at this
    rw [List.length_append] at this
    omega
  · have : m = [] := by
      rw [getT_of] at hg
      revert hg he
      repeat' split
      all_goals (intro h he; simp only [Prod.mk.injEq] at h; first | exact h.1.symm | (obtain ⟨_, _, h3⟩ := h; exact absurd h3.symm he))
    rw [this]; exact Nat.zero_le _
theorem get_bounds10 (s : RdS10) : -9223372036854775808 ≤ (rdN10 s).1 ∧ (rdN10 s).1 ≤ 9223372036854775807 := by
  unfold rdN10
  simp only
  obtain ⟨⟨m, k, e⟩, hg⟩ : ∃ r, Nu.get s.1 = r := ⟨_, rfl⟩
  rw [hg]
  by_cases he : e = 0
  · subst he
    exact (Nu.get_canon s.1 m k hg).2.2
  · have : m = 0 := get_zero10 hg he
    simp only [this]; decide
theorem wread_any (k : Nat) (A : Option Addr) (n c B : Nat) (l : List UInt8) (w : World) (h : Byt w B (.slice A n c) l) (hB : B ≤ w.heap.size) (hl : l.length ≤ 1000000) :
    Calls Tryd.prog 43 #[.int .i64 k, .slice A n c] w fun e w' => e = .returned (.tuple #[(readR10 k l).1.val, .bool (readR10 k l).2]) ∧ Below w.heap.size w w' := by
  by_cases h1 : k = 1
  · subst h1
    obtain ⟨⟨ht, s1⟩, q1⟩ : ∃ x, rdN10 (l, false) = x := ⟨_, rfl⟩
    obtain ⟨⟨hv, s2⟩, q2⟩ : ∃ x, rdN10 s1 = x := ⟨_, rfl⟩
    have l1 := rdN10_len (l, false)
    have l2 := rdN10_len s1
    have bb := get_bounds10 s1
    rw [q1] at l1
    rw [q2] at l2 bb
    simp only at l1 l2 bb
    have := wread_hard A n c B l w h hB hl s1 s2 ht hv q1 q2 (by omega) bb.1 bb.2 (by omega) _ rfl
    have e : readR10 1 l = (⟨true, ht, hv, noEnt⟩, done10 s2 && may10 ⟨true, ht, hv, noEnt⟩) := by
      unfold readR10 rdH10; rw [if_pos rfl]; simp only [q1, q2]
    rw [e]
    exact this
  · by_cases h2 : k = 2
    · subst h2
      obtain ⟨⟨ix, s1⟩, q1⟩ : ∃ x, rdN10 (l, false) = x := ⟨_, rfl⟩
      obtain ⟨⟨et, s2⟩, q2⟩ : ∃ x, rdN10 s1 = x := ⟨_, rfl⟩
      obtain ⟨⟨kd, s3⟩, q3⟩ : ∃ x, rdN10 s2 = x := ⟨_, rfl⟩
      obtain ⟨⟨dt, s4⟩, q4⟩ : ∃ x, rdT10 s3 = x := ⟨_, rfl⟩
      have l1 := rdN10_len (l, false)
      have l2 := rdN10_len s1
      have l3 := rdN10_len s2
      have l4 := rdT10_len s3
      have l5 := getT_size10 s3
      have bb := get_bounds10 s2
      rw [q1] at l1
      rw [q2] at l2
      rw [q3] at l3 bb
      rw [q4] at l4 l5
      simp only at l1 l2 l3 l4 l5 bb
      have := wread_entry A n c B l w h hB hl s1 s2 s3 s4 ix et kd dt q1 q2 q3 q4 (by omega) (by omega) (by omega) bb.1 bb.2 (by omega) (by omega) _ rfl
      have e : readR10 2 l = (⟨false, 0, 0, ⟨ix, et, kd, dt⟩⟩, done10 s4 && may10 ⟨false, 0, 0, ⟨ix, et, kd, dt⟩⟩) := by
        unfold readR10 rdE10; rw [if_neg (by decide), if_pos rfl]; simp only [q1, q2, q3, q4]
      rw [e]
      exact this
    · have hr : readR10 k l = (zRcd, false) := by unfold readR10; rw [if_neg h1, if_neg h2]
      rw [hr]
      have k1 : ((k : Int) == 1) = false := by rw [beq_eq_false_iff_ne]; omega
      have k2 : ((k : Int) == 2) = false := by rw [beq_eq_false_iff_ne]; omega
      have k3 : ¬ (k : Int) = 1 := by omega
      have k4 : ¬ (k : Int) = 2 := by omega
      clear h hr hl h1 h2
      go_enter Tryd.func43, Tryd.ntmps43
      go_wp2
      exact bodyPost_ret (v := .tuple #[.agg #[.bool false, .int .i64 0, .int .i64 0, .int .i64 0, .int .i64 0, .int .i64 0, .string ⟨#[]⟩], .bool false]) (by simp [results, Tryd.results43, go_sem]) rfl ⟨rfl, ((below_new _ _).alloc (by simp) _).alloc (by simp; omega) _⟩
end Go.Proofs.YtdigpeipklfaeaaDoor
/-
  Package wal's Decode answers what the plain function says.
  The bytes are there in memory, at most 1,000,000; package crc's table lies as it was laid.
-/
set_option linter.unusedSimpArgs false
set_option linter.unusedVariables false
namespace Go.Proofs.YtdigpeipklfaeaaDoor
open Go.RowKit
set_option maxRecDepth 100000

/-- what Decode answers -/
def GotRec10 (r : Rcd × Nat × Nat) (w : World) (e : Ending) (w' : World) : Prop := e = .returned (.tuple #[r.1.val, .int .i64 (r.2.1 : Nat), .int .i64 (r.2.2 : Nat)]) ∧ Below w.heap.size w w'
theorem own_byt10 {w : World} {B : Nat} {v : Value} {l : List UInt8} (h : OwnB B v l w) : ∃ A c, v = .slice A l.length c := byt_slice (Byt.of_own h)
set_option maxHeartbeats 2000000 in
theorem wdec10_any (A : Option Addr) (c B : Nat) (l : List UInt8) (w : World) (h : Byt w B (.slice A l.length c) l) (hB : B ≤ w.heap.size) (hl : l.length ≤ 1000000) (hT : Tbl w) :
    Calls Tryd.prog 17 #[.slice A l.length c] w (GotRec10 (decR10 l) w) := by
  have hop := fopen_any A c B l
  obtain ⟨⟨k, b, n, e⟩, ho⟩ : ∃ x, openB l = x := ⟨_, rfl⟩
  have hd : decR10 l = if e ≠ 0 then (zRcd, 0, e) else if (readR10 k b).2 = true then ((readR10 k b).1, n, 0) else (zRcd, 0, 3) := by unfold decR10; rw [ho]
  have hgood := fun he : e = 0 => (openB_good (l := l) (k := k) (b := b) (n := n) (by rw [ho, he])).2.2.2.1
  rw [ho] at hop
  obtain ⟨r, hr⟩ : ∃ r, decR10 l = r := ⟨_, rfl⟩
  rw [hr] at hd ⊢
  have HD := Lib.hid hd
  clear hd hr
  obtain ⟨W1, hW1⟩ : ∃ W1, w.alloc (.cells #[.bool false, .int .i64 0, .int .i64 0, .int .i64 0, .int .i64 0, .int .i64 0, .string ⟨#[]⟩] 32) = W1 := ⟨_, rfl⟩
  have hb1 : Below w.heap.size w W1 := by rw [← hW1]; exact below_new _ _
  have r1 : Rt W1 w.heap.size 32 [.bool false, .int .i64 0, .int .i64 0, .int .i64 0, .int .i64 0, .int .i64 0, .string ⟨#[]⟩] := by rw [← hW1]; exact Rt.new w _ _
  have hop1 := hop W1 (h.below hb1 hB) (Nat.le_trans hB hb1.size) hl (hT.below hb1)
  have HB1 := Lib.hid hb1
  have HW1 := Lib.hid hW1
  obtain ⟨ln, hln⟩ : ∃ ln, l.length = ln := ⟨_, rfl⟩
  rw [hln] at hop1 ⊢
  clear h hB hT hop hb1 hW1 hln ho
  go_enter Tryd.func17, Tryd.ntmps17
  go_wp2_with fail
  rw [HW1.out]
  refine hop1.mono ?_
  rintro e1 k1 ⟨v1, rfl, ho1, h1⟩
  have q1 := r1.below h1
  have HO1 := Lib.hid ho1
  have HBK := Lib.hid (HB1.out.trans (h1.mono HB1.out.size))
  have hle1 := HBK.out.size
  clear hop1 r1 h1 ho1 HW1
  have c0 := q1.cell (j := 0) rfl
  have f0 := q1.frz 0
  have c1 := q1.cell (j := 1) rfl
  have f1 := q1.frz 1
  have c2 := q1.cell (j := 2) rfl
  have f2 := q1.frz 2
  have c3 := q1.cell (j := 3) rfl
  have f3 := q1.frz 3
  have c4 := q1.cell (j := 4) rfl
  have f4 := q1.frz 4
  have c5 := q1.cell (j := 5) rfl
  have f5 := q1.frz 5
  have c6 := q1.cell (j := 6) rfl
  have f6 := q1.frz 6
  have HQ1 := Lib.hid q1
  clear q1
  by_cases he : e = 0
  · have hbl := hgood he
    subst he
    obtain ⟨⟨rr, y⟩, hy⟩ : ∃ x, readR10 k b = x := ⟨_, rfl⟩
    have hrd2 := fun A n c B w h hB hl => wread_any k A n c B b w h hB hl
    rw [hy] at hrd2
    obtain ⟨A1, cc1, hv⟩ := own_byt10 HO1.out
    have hby1 := Byt.of_own HO1.out
    rw [hv] at hby1
    have hrd3 := hrd2 A1 _ cc1 _ k1 hby1 (Nat.le_refl _) (by omega)
    rw [← hv] at hrd3
    have hd2 : r = if y = true then (rr, n, 0) else (zRcd, 0, 3) := by rw [HD.out, if_neg (by simp), hy]
    have HD2 := Lib.hid hd2
    have HRD := Lib.hid hrd3
    clear hrd2 hrd3 hby1 hy hd2 hv hgood
    go_wp2_with fail
    refine HRD.out.mono ?_
    rintro e2 k2 ⟨rfl, h2⟩
    have q2 := HQ1.out.below h2
    have HB2 := Lib.hid (HBK.out.trans (h2.mono HBK.out.size))
    clear h2 c0 c1 c2 c3 c4 c5 c6 f0 f1 f2 f3 f4 f5 f6 HQ1 HRD
    have c0 := q2.cell (j := 0) rfl
    have f0 := q2.frz 0
    have c1 := q2.cell (j := 1) rfl
    have f1 := q2.frz 1
    have c2 := q2.cell (j := 2) rfl
    have f2 := q2.frz 2
    have c3 := q2.cell (j := 3) rfl
    have f3 := q2.frz 3
    have c4 := q2.cell (j := 4) rfl
    have f4 := q2.frz 4
    have c5 := q2.cell (j := 5) rfl
    have f5 := q2.frz 5
    have c6 := q2.cell (j := 6) rfl
    have f6 := q2.frz 6
    have hlt2 := q2.lt
    have HQ2 := Lib.hid q2
    clear q2
    obtain ⟨hd, ht, hv, ⟨ix, et, kd, dt⟩⟩ := rr
    unfold Rcd.val
    cases y with
    | true =>
      simp only
      go_wp2
      have hxs : Rt _ w.heap.size 32 [.bool hd, .int .i64 ht, .int .i64 hv, .int .i64 ix, .int .i64 et, .int .i64 kd, .string dt] := Rt.below ((((((((HQ2.out.set 0 (.bool hd)).set 1 (.int .i64 ht)).set 2 (.int .i64 hv)).set 3 (.int .i64 ix)).set 4 (.int .i64 et)).set 5 (.int .i64 kd)).set 6 (.string dt))) (below_new _ (.cells #[.bool hd, .int .i64 ht, .int .i64 hv, .int .i64 ix, .int .i64 et, .int .i64 kd, .string dt] 32))
      have hbs0 := (below_set10 ((below_set10 ((below_set10 ((below_set10 ((below_set10 ((below_set10 ((below_set10 HB2.out 0 (g := w.heap.size) (.bool hd) (Nat.le_refl _))) 1 (g := w.heap.size) (.int .i64 ht) (Nat.le_refl _))) 2 (g := w.heap.size) (.int .i64 hv) (Nat.le_refl _))) 3 (g := w.heap.size) (.int .i64 ix) (Nat.le_refl _))) 4 (g := w.heap.size) (.int .i64 et) (Nat.le_refl _))) 5 (g := w.heap.size) (.int .i64 kd) (Nat.le_refl _))) 6 (g := w.heap.size) (.string dt) (Nat.le_refl _))
      have hbs := hbs0.alloc hbs0.size (.cells #[.bool hd, .int .i64 ht, .int .i64 hv, .int .i64 ix, .int .i64 et, .int .i64 kd, .string dt] 32)
      refine body_world10 (fun W => Below w.heap.size w W ∧ Rt W w.heap.size 32 [.bool hd, .int .i64 ht, .int .i64 hv, .int .i64 ix, .int .i64 et, .int .i64 kd, .string dt]) ⟨hbs, hxs⟩ ?_
      clear hbs hxs
      rintro W ⟨hbs, hxs⟩
      have d0 := hxs.cell (j := 0) rfl
      have d1 := hxs.cell (j := 1) rfl
      have d2 := hxs.cell (j := 2) rfl
      have d3 := hxs.cell (j := 3) rfl
      have d4 := hxs.cell (j := 4) rfl
      have d5 := hxs.cell (j := 5) rfl
      have d6 := hxs.cell (j := 6) rfl
      refine bodyPost_ret (v := .tuple #[.agg #[.bool hd, .int .i64 ht, .int .i64 hv, .int .i64 ix, .int .i64 et, .int .i64 kd, .string dt], .int .i64 n, .int .i64 0]) (by simp [results, Tryd.results17, go_sem, d0, d1, d2, d3, d4, d5, d6]) rfl ?_
      exact ⟨by rw [HD2.out]; simp only [if_true]; rfl, hbs⟩
    | false =>
      simp only
      go_wp2
      have hxs : Rt _ w.heap.size 32 [.bool false, .int .i64 0, .int .i64 0, .int .i64 0, .int .i64 0, .int .i64 0, .string ⟨#[]⟩] := Rt.below ((((((((HQ2.out.set 0 (.bool false)).set 1 (.int .i64 0)).set 2 (.int .i64 0)).set 3 (.int .i64 0)).set 4 (.int .i64 0)).set 5 (.int .i64 0)).set 6 (.string ⟨#[]⟩))) (below_new _ (.cells #[.bool hd, .int .i64 ht, .int .i64 hv, .int .i64 ix, .int .i64 et, .int .i64 kd, .string dt] 32))
      have hbs0 := (below_set10 ((below_set10 ((below_set10 ((below_set10 ((below_set10 ((below_set10 ((below_set10 HB2.out 0 (g := w.heap.size) (.bool false) (Nat.le_refl _))) 1 (g := w.heap.size) (.int .i64 0) (Nat.le_refl _))) 2 (g := w.heap.size) (.int .i64 0) (Nat.le_refl _))) 3 (g := w.heap.size) (.int .i64 0) (Nat.le_refl _))) 4 (g := w.heap.size) (.int .i64 0) (Nat.le_refl _))) 5 (g := w.heap.size) (.int .i64 0) (Nat.le_refl _))) 6 (g := w.heap.size) (.string ⟨#[]⟩) (Nat.le_refl _))
      have hbs := hbs0.alloc hbs0.size (.cells #[.bool hd, .int .i64 ht, .int .i64 hv, .int .i64 ix, .int .i64 et, .int .i64 kd, .string dt] 32)
      refine body_world10 (fun W => Below w.heap.size w W ∧ Rt W w.heap.size 32 [.bool false, .int .i64 0, .int .i64 0, .int .i64 0, .int .i64 0, .int .i64 0, .string ⟨#[]⟩]) ⟨hbs, hxs⟩ ?_
      clear hbs hxs
      rintro W ⟨hbs, hxs⟩
      have d0 := hxs.cell (j := 0) rfl
      have d1 := hxs.cell (j := 1) rfl
      have d2 := hxs.cell (j := 2) rfl
      have d3 := hxs.cell (j := 3) rfl
      have d4 := hxs.cell (j := 4) rfl
      have d5 := hxs.cell (j := 5) rfl
      have d6 := hxs.cell (j := 6) rfl
      refine bodyPost_ret (v := .tuple #[.agg #[.bool false, .int .i64 0, .int .i64 0, .int .i64 0, .int .i64 0, .int .i64 0, .string ⟨#[]⟩], .int .i64 0, .int .i64 3]) (by simp [results, Tryd.results17, go_sem, d0, d1, d2, d3, d4, d5, d6]) rfl ?_
      exact ⟨by rw [HD2.out, if_neg (by simp)]; rfl, hbs⟩
  · have he2 : ((e : Int) == 0) = false := by rw [beq_eq_false_iff_ne]; omega
    have he3 : ¬ (e : Int) = 0 := by omega
    clear hgood
    go_wp2
    have hxs : Rt _ w.heap.size 32 [.bool false, .int .i64 0, .int .i64 0, .int .i64 0, .int .i64 0, .int .i64 0, .string ⟨#[]⟩] := (((((((HQ1.out.set 0 (.bool false)).set 1 (.int .i64 0)).set 2 (.int .i64 0)).set 3 (.int .i64 0)).set 4 (.int .i64 0)).set 5 (.int .i64 0)).set 6 (.string ⟨#[]⟩))
    have hbs := (below_set10 ((below_set10 ((below_set10 ((below_set10 ((below_set10 ((below_set10 ((below_set10 (HBK.out) 0 (g := w.heap.size) (.bool false) (Nat.le_refl _))) 1 (g := w.heap.size) (.int .i64 0) (Nat.le_refl _))) 2 (g := w.heap.size) (.int .i64 0) (Nat.le_refl _))) 3 (g := w.heap.size) (.int .i64 0) (Nat.le_refl _))) 4 (g := w.heap.size) (.int .i64 0) (Nat.le_refl _))) 5 (g := w.heap.size) (.int .i64 0) (Nat.le_refl _))) 6 (g := w.heap.size) (.string ⟨#[]⟩) (Nat.le_refl _))
    refine body_world10 (fun W => Below w.heap.size w W ∧ Rt W w.heap.size 32 [.bool false, .int .i64 0, .int .i64 0, .int .i64 0, .int .i64 0, .int .i64 0, .string ⟨#[]⟩]) ⟨hbs, hxs⟩ ?_
    clear hbs hxs
    rintro W ⟨hbs, hxs⟩
    have d0 := hxs.cell (j := 0) rfl
    have d1 := hxs.cell (j := 1) rfl
    have d2 := hxs.cell (j := 2) rfl
    have d3 := hxs.cell (j := 3) rfl
    have d4 := hxs.cell (j := 4) rfl
    have d5 := hxs.cell (j := 5) rfl
    have d6 := hxs.cell (j := 6) rfl
    refine bodyPost_ret (v := .tuple #[.agg #[.bool false, .int .i64 0, .int .i64 0, .int .i64 0, .int .i64 0, .int .i64 0, .string ⟨#[]⟩], .int .i64 0, .int .i64 e]) (by simp [results, Tryd.results17, go_sem, d0, d1, d2, d3, d4, d5, d6]) rfl ?_
    exact ⟨by rw [HD.out, if_pos he]; rfl, hbs⟩
end Go.Proofs.YtdigpeipklfaeaaDoor
/-
  The reference's numbers: so many at the beginning of bytes.
  The bytes are there in memory, at most 1,000,000; no more than 1,000 numbers are asked for.
-/
set_option linter.unusedSimpArgs false
set_option linter.unusedVariables false
namespace Go.Proofs.YtdigpeipklfaeaaDoor
open Go.RowKit
set_option maxRecDepth 100000

/-- so many numbers, what is left; none: there are not -/
def numsL : Nat → List UInt8 → Option (List Int × List UInt8)
  | 0, l => some ([], l)
  | n + 1, l => if (Nu.get l).2.2 = 0 then (numsL n (l.drop (Nu.get l).2.1)).map fun r => ((Nu.get l).1 :: r.1, r.2) else none
/-- a row of numbers of one's own -/
def OwnI (B : Nat) (v : Value) (l : List Int) (w : World) : Prop := w.ownsRow B 2 1 v l.length (l.map fun x => .int .i64 x)
theorem Tryd.infoI64 : (Tryd.prog.info? 2).map (fun i => (i.zero, i.size, i.bytes)) = some (some (.int .i64 0), 1, 8) := by kernel_rfl
theorem wp_append_i64 {w : World} {o : Oper} {a : Act} {K : Act → World → Prop} {Q : Exit → Act → World → Prop} (s x : Operand)
    (ho : o.op = .call { callee := .builtin .append, args := #[s, x], argTypes := #[79, 79] })
    (B : Nat) (v : Value) (l : List Int) (y : Int) (g : Nat) (hs : a.eval s = v) (hown : OwnI B v l w) (hx : a.eval x = .slice (some ⟨g, 0, none⟩) 1 1) (hy : w.cell? ⟨g, 0, none⟩ = some (.int .i64 y)) (hl : l.length ≤ 1000) (hB : B ≤ w.heap.size)
    (h : ∀ v' w', OwnI B v' (l ++ [y]) w' → Below B w w' → K (a.put o.dst v') w') : o.wp Tryd.prog a w K Q := by
  obtain ⟨iO, hiO, hzO0, hzO1, hzO2⟩ := info_parts Tryd.infoI64
  have hgr := fun (w' : World) (hg : w.grownBy w' v.ownBlock) => (Below.refl B w).grown hg hB (fun g hg => (World.ownsRow.lt hown g hg).1)
  obtain ⟨v', w', hr, h2, h3, _, _⟩ := run_append_own_at (P := Tryd.prog) w B 79 o.type 2 iO _ 1 8 Tryd.underlying79 hiO hzO0 hzO1 hzO2 rfl (by decide) v l.length _ hown ⟨g, 0, none⟩ 1 1 [.int .i64 y] rfl
    (by
      intro j z hj
      match j, hj with
      | 0, hj => simp at hj; subst hj; simpa [Addr.add] using hy
      | j + 1, hj => simp at hj) (by intro u hu; simp at hu; subst hu; rfl) (by unfold maxLen; omega) (by omega) hB
  unfold Oper.wp execOp
  simp only [ho, resolve, invoke, builtin, Sem.run_bind, Sem.run_pure, Result.andThen_ok, List.map_toArray, List.map_cons, List.map_nil, hs, hx, hr]
  refine h v' w' ?_ (hgr w' h3)
  unfold OwnI; rw [List.length_append, List.map_append]; exact h2
theorem wpList_append_i64 {w : World} {ops : Array Oper} {rest : List Oper} {o : Oper} {a : Act} {Q : Exit → Act → World → Prop} (hgd : o.guard = none) (s x : Operand)
    (ho : o.op = .call { callee := .builtin .append, args := #[s, x], argTypes := #[79, 79] })
    (B : Nat) (v : Value) (l : List Int) (y : Int) (g : Nat) (hs : a.eval s = v) (hown : OwnI B v l w) (hx : a.eval x = .slice (some ⟨g, 0, none⟩) 1 1) (hy : w.cell? ⟨g, 0, none⟩ = some (.int .i64 y)) (hl : l.length ≤ 1000) (hB : B ≤ w.heap.size)
    (h : ∀ v' w', OwnI B v' (l ++ [y]) w' → Below B w w' → wpList Tryd.prog ops Q rest (a.put o.dst v') w') : wpList Tryd.prog ops Q (o :: rest) a w :=
  wpList_plain hgd fun _ hK => wp_append_i64 s x ho B v l y g hs hown hx hy hl hB fun v' w' h1 h2 => hK _ _ (h v' w' h1 h2)
/-- what came of it -/
def GotNums (B : Nat) (r : Option (List Int × List UInt8)) (w : World) (e : Ending) (w' : World) : Prop := Below w.heap.size w w' ∧ match r with
  | none => e = .returned (.tuple #[.slice none 0 0, .slice none 0 0, .bool false])
  | some (xs, rest) => ∃ v A c, e = .returned (.tuple #[v, .slice A rest.length c, .bool true]) ∧ OwnI w.heap.size v xs w' ∧ Byt w' B (.slice A rest.length c) rest
theorem own_i64 (w : World) (B : Nat) : OwnI B (.slice none 0 0) [] w := World.ownsRow_nil _ _ _ _
theorem numsL_succ (m : Nat) (l : List UInt8) : numsL (m + 1) l = if (Nu.get l).2.2 = 0 then (numsL m (l.drop (Nu.get l).2.1)).map fun r => ((Nu.get l).1 :: r.1, r.2) else none := rfl
theorem numsL_more {m : Nat} {l : List UInt8} {x : Int} {k : Nat} (h : Nu.get l = (x, k, 0)) : numsL (m + 1) l = (numsL m (l.drop k)).map fun r => (x :: r.1, r.2) := by
  rw [numsL_succ, h]; exact if_pos rfl
theorem numsL_no {m : Nat} {l : List UInt8} {x : Int} {k e : Nat} (h : Nu.get l = (x, k, e)) (he : e ≠ 0) : numsL (m + 1) l = none := by
  rw [numsL_succ, h]; exact if_neg he
theorem add_lit10 (g o j : Nat) : (some (⟨g, o, Option.none⟩ : Addr)).map (·.add j) = some ⟨g, o + j, Option.none⟩ := by
  show some (Addr.add ⟨g, o, Option.none⟩ j) = _
  unfold Addr.add; split
  · subst_vars; rfl
  · rfl
theorem byt_cap10 {w : World} {B n c : Nat} {A : Option Addr} {l : List UInt8} (h : Byt w B (.slice A n c) l) : n ≤ c := by
  obtain ⟨A2, c2, hv, hc, _⟩ := h
  injection hv with _ e2 e3; omega
set_option maxHeartbeats 2000000 in
theorem rnumbers_any (A : Option Addr) (c B : Nat) (l : List UInt8) (n : Nat) (w : World) (h : Byt w B (.slice A l.length c) l) (hB : B ≤ w.heap.size) (hl : l.length ≤ 1000000) (hn : n ≤ 1000) :
    Calls Tryd.prog 45 #[.slice A l.length c, .int .i64 n] w (GotNums B (numsL n l) w) := by
  have HB := Lib.hid h
  clear h
  go_enter Tryd.func45, Tryd.ntmps45
  go_wp2_with fail
  go_loopw [0, 7, 8] (fun b v i wr => ∃ (j m : Nat) (acc : List Int) (l' : List UInt8) (A' : Option Addr) (c' : Nat), i = .int .i64 j ∧ b = .slice A' m c' ∧ l'.length = m ∧ j ≤ n ∧ m ≤ 1000000 ∧ acc.length = j ∧ OwnI w.heap.size v acc wr ∧ Byt wr B (.slice A' m c') l' ∧ Below w.heap.size w wr ∧ numsL n l = (numsL (n - j) l').map fun r => (acc ++ r.1, r.2)) (fun _ _ i _ => n - (intOf i).toNat)
  case atStart => exact ⟨0, _, [], l, A, c, rfl, rfl, rfl, Nat.zero_le _, hl, rfl, own_i64 _ _, HB.out, Below.refl _ _, by simp⟩
  case round =>
    obtain ⟨j, m, acc, l', A', c', rfl, rfl, hm, hj, hml, hacc, hown, hby, hb, hrec⟩ := hrel
    obtain ⟨A9, c9, hv9⟩ := own_slice hown
    rw [hacc] at hv9
    subst hv9
    subst hm
    have HOWN := Lib.hid hown
    have HBY := Lib.hid hby
    have HBW := Lib.hid hb
    have HREC := Lib.hid hrec
    have HACC := Lib.hid hacc
    have hcl := byt_cap10 hby
    clear hown hby hb hrec hacc
    by_cases hlt : j < n
    · have hji : (j : Int) < n := by omega
      obtain ⟨⟨x, k, e⟩, hg⟩ : ∃ r, Nu.get l' = r := ⟨_, rfl⟩
      have hgl := Nu.get_len l'
      have hge := Nu.get_err l'
      have hgp := Nu.get_pos l'
      rw [hg] at hgl hge hgp
      simp only at hgl hge hgp
      have hrg := rget_any A' c' B l' wr HBY.out hml
      rw [hg] at hrg
      obtain ⟨m1, hm1⟩ : ∃ m1, n - j = m1 + 1 := ⟨n - j - 1, by omega⟩
      have HG := Lib.hid hg
      clear hg
      by_cases he : e = 0
      · subst he
        have hk1 := hgp rfl
        have hnx : numsL n l = (numsL m1 (l'.drop k)).map fun r => ((acc ++ [x]) ++ r.1, r.2) := by
          rw [HREC.out, hm1, numsL_more HG.out, Option.map_map]
          congr 1; funext r; simp
        have HNX := Lib.hid hnx
        have hcut := HBY.out.cut (k := k) hgl
        obtain ⟨A2, c2, hv2, hc2, hcell⟩ := HBY.out
        injection hv2 with e1 e2 e3
        subst e1; subst e3
        obtain ⟨g, o, rfl, hgB, _⟩ := hcell (by omega)
        clear hc2 hcell hgp hge
        have hbx : Below w.heap.size w (wr.alloc (.cells #[.int .i64 x] 2)) := HBW.out.alloc HBW.out.size _
        have hox : OwnI w.heap.size (.slice A9 j c9) acc (wr.alloc (.cells #[.int .i64 x] 2)) := HOWN.out.alloc _
        have hcx : (wr.alloc (.cells #[.int .i64 x] 2)).cell? ⟨wr.heap.size, 0, none⟩ = some (.int .i64 x) := new_cell10 rfl
        have hal : acc.length ≤ 1000 := by rw [HACC.out]; omega
        go_wp2_with fail
        refine hrg.mono ?_
        rintro e w' ⟨rfl, rfl⟩
        clear hrg
        go_wp2_with (at_builtin; refine wpList_append_i64 rfl _ _ rfl w.heap.size (.slice A9 j c9) acc x wr.heap.size rfl hox rfl hcx hal hbx.size ?_)
        intro v2 w2 ho2 hb2
        have hbw2 := hbx.trans hb2
        have HO2 := Lib.hid ho2
        have HB2 := Lib.hid hbw2
        by_cases hck : c' = k
        · have hlk : l'.length = k := by omega
          have hd : l'.drop k = [] := List.drop_of_length_le (by omega)
          have hby0 : Byt w2 B (.slice (some ⟨g, o, none⟩) 0 0) [] := ⟨_, _, rfl, Nat.le_refl _, fun h => absurd h (by simp)⟩
          rw [hd] at HNX
          have hla : (acc ++ [x]).length = j + 1 := by rw [List.length_append, HACC.out]; rfl
          have hnj : n - (j + 1) = m1 := by omega
          have HBY0 := Lib.hid hby0
          have HLA := Lib.hid hla
          have HNJ := Lib.hid hnj
          subst hck
          clear hby0 hla hnj hcut hd hcx hox hbx hb2 ho2 hbw2 hnx
          go_wp2
          go_roundw
          case rel => exact ⟨j + 1, 0, acc ++ [x], [], some ⟨g, o, none⟩, 0, by go_num, rfl, rfl, by omega, by omega, HLA.out, HO2.out, HBY0.out, HB2.out, by rw [HNJ.out]; exact HNX.out⟩
          case measure => simp [intOf]; omega
        · rw [if_neg hck] at hcut
          have hby1 := (hcut.below (below_new wr (.cells #[.int .i64 x] 2)) (Nat.le_trans hB HBW.out.size)).below hb2 hB
          rw [add_lit10] at hby1
          have hla : (acc ++ [x]).length = j + 1 := by rw [List.length_append, HACC.out]; rfl
          have hnj : n - (j + 1) = m1 := by omega
          have hdl : (l'.drop k).length = l'.length - k := List.length_drop
          have HBY1 := Lib.hid hby1
          have HLA := Lib.hid hla
          have HNJ := Lib.hid hnj
          have HDL := Lib.hid hdl
          clear hla hnj hcut hcx hox hbx hb2 ho2 hbw2 hnx hby1 hdl
          go_wp2
          go_roundw
          case rel => exact ⟨j + 1, _, acc ++ [x], l'.drop k, _, _, by go_num, rfl, HDL.out, by omega, by omega, HLA.out, HO2.out, HBY1.out, HB2.out, by rw [HNJ.out]; exact HNX.out⟩
          case measure => simp [intOf]; omega
      · have hee : ((e : Int) == 0) = false := by rw [beq_eq_false_iff_ne]; omega
        have hno : numsL n l = none := by rw [HREC.out, hm1, numsL_no HG.out he]; rfl
        have HNO := Lib.hid hno
        clear hno he hgp hge hgl
        go_wp2_with fail
        refine hrg.mono ?_
        rintro e2 w' ⟨rfl, rfl⟩
        clear hrg
        go_wp2
        exact bodyPost_ret (v := .tuple #[.slice none 0 0, .slice none 0 0, .bool false]) (by simp [results, Tryd.results45, go_sem]) rfl ⟨HBW.out, by rw [HNO.out]⟩
    · have hge : (n : Int) ≤ j := by omega
      have hjn : j = n := by omega
      have hyes : numsL n l = some (acc, l') := by
        rw [HREC.out, hjn, Nat.sub_self]
        show Option.map _ (some ([], l')) = _
        simp
      have HYES := Lib.hid hyes
      clear hyes hlt hjn
      go_wp2
      refine bodyPost_ret (v := .tuple #[.slice A9 j c9, .slice A' l'.length c', .bool true]) (by simp [results, Tryd.results45, go_sem]) rfl ⟨HBW.out, ?_⟩
      rw [HYES.out]
      exact ⟨_, _, _, rfl, HOWN.out, HBY.out⟩
end Go.Proofs.YtdigpeipklfaeaaDoor
