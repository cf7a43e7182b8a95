/-
  Contracts of the program's functions, of the reference's, and plain lemmas on what they answer (part 2 of 7).
  Each lemma names its conditions.
-/
import Derived.Test.YtbiecoifeeikpaaDoorBun1
import Derived.Deep.RegionHeld3
import Derived.IntWalk
import Derived.Deep.AppendLies
import Derived.Great.Walk
import Derived.RangeFuncNested
import Derived.RangeFuncBox
import Derived.RangeFuncBound
import Derived.RangeFuncCalls
import Derived.RangeFuncLeaves
import Derived.Shelf.Abstract
import Derived.Shelf.RegionOpen
import Derived.WalkKit
import Derived.OwnWalkIn
import Derived.TacticsInMore
import Derived.LoopNIn
import Derived.LoopIn
import Derived.Deep.MidRow
import Derived.Shelf.LaysM
import Derived.Shelf.Strconv.Clone
import Derived.Shelf.Bytes.SlSearch0
import Derived.Ground.SlbCloneProg
import Derived.Shelf.Bytes.SlClone
import Derived.Shelf.Bytes.SlEqualAll
import Derived.Shelf.Bytes.Small
import Derived.Test.YtbiecoifeeikpaaDoorProg
import Derived.Deep.Cut
/-
  The reference's Open reads a frame as the plain function says.
  The bytes are there in memory, at most 1,000,000.
-/
set_option linter.unusedSimpArgs false
set_option linter.unusedVariables false
namespace Go.Proofs.YtbiecoifeeikpaaDoor
open Go.RowKit
set_option maxRecDepth 100000

/-- a frame at the beginning of bytes: its kind, its body, how many bytes, the error -/
def openB (l : List UInt8) : Nat × List UInt8 × Nat × Nat :=
  if l.length = 0 then (0, [], 0, 2)
  else if (l.headD 0).toNat = 0 then (0, [], 0, 3)
  else if (Nu.get (l.drop 1)).2.2 = 2 ∧ 2 < l.length then (0, [], 0, 3)
  else if (Nu.get (l.drop 1)).2.2 = 2 then (0, [], 0, 2)
  else if (Nu.get (l.drop 1)).2.2 ≠ 0 ∨ (Nu.get (l.drop 1)).1 < 0 ∨ 4000 < (Nu.get (l.drop 1)).1 then (0, [], 0, 3)
  else if (l.length : Int) < 5 + (Nu.get (l.drop 1)).2.1 + (Nu.get (l.drop 1)).1 then (0, [], 0, 2)
  else if sealB (l.headD 0).toNat ((l.drop (5 + (Nu.get (l.drop 1)).2.1)).take (Nu.get (l.drop 1)).1.toNat) ≠ l.take (5 + (Nu.get (l.drop 1)).2.1 + (Nu.get (l.drop 1)).1.toNat) then (0, [], 0, 3)
  else ((l.headD 0).toNat, (l.drop (5 + (Nu.get (l.drop 1)).2.1)).take (Nu.get (l.drop 1)).1.toNat, 5 + (Nu.get (l.drop 1)).2.1 + (Nu.get (l.drop 1)).1.toNat, 0)
def GotF (B : Nat) (r : Nat × List UInt8 × Nat × Nat) (w : World) (e : Ending) (w' : World) : Prop := ∃ v, e = .returned (.tuple #[.int .i64 r.1, v, .int .i64 r.2.2.1, .int .i64 r.2.2.2]) ∧ Byt w' B v r.2.1 ∧ Below w.heap.size w w'
/-- a slice of bytes whose cells are there, turned into a text -/
theorem conv_cells (w : World) (g o cap : Nat) (l : List UInt8) (n : Nat) (hn : n ≤ l.length) (hcell : ∀ j (h : j < l.length), w.cell? ⟨g, o + j, Option.none⟩ = some (.int .u8 (l[j].toNat : Int))) :
    (convert 46 9 (.slice (some ⟨g, o, Option.none⟩) n cap)).run Tryd.prog w = .ok (.string ⟨(l.take n).toArray⟩) w := by
  have := conv_part w g o l 0 n cap (by omega) hcell
  simpa using this
theorem conv_own {w : World} {B : Nat} {v : Value} {l : List UInt8} (h : OwnB B v l w) (hl : 1 ≤ l.length) : (convert 46 9 v).run Tryd.prog w = .ok (.string ⟨l.toArray⟩) w := by
  obtain ⟨g, c, rfl, _, hcs⟩ := h.at_ hl
  have := conv_cells w g 0 c l l.length (Nat.le_refl _) (fun j hj => by
    have := hcs j (.int .u8 (l[j].toNat : Int)) (by simp [Lib.byteCells, hj])
    rw [Addr.add_mid] at this; exact this)
  rw [List.take_length] at this; exact this
theorem list_ne {a b : List UInt8} (h : a ≠ b) : ((ByteArray.mk a.toArray).toList == (ByteArray.mk b.toArray).toList) = false := by
  rw [ByteArray.toList_eq, ByteArray.toList_eq, beq_eq_false_iff_ne]; simpa using h
theorem list_same {a b : List UInt8} (h : a = b) : ((ByteArray.mk a.toArray).toList == (ByteArray.mk b.toArray).toList) = true := by rw [h]; simp
theorem byt_nil (w : World) (B : Nat) : Byt w B (.slice none 0 0) [] := ⟨none, 0, rfl, Nat.le_refl _, fun h => absurd h (by simp)⟩
end Go.Proofs.YtbiecoifeeikpaaDoor
/-
  Frames as plain functions: what is sealed is read again; a frame that is cut off is the beginning of one; a frame of which a byte was changed, but for its length, is none.
  There are no conditions beyond those that each lemma names.
-/
set_option linter.unusedSimpArgs false
set_option linter.unusedVariables false
namespace Go.Proofs.YtbiecoifeeikpaaDoor
open Go.RowKit
set_option maxRecDepth 100000

theorem put_1 (n : Nat) (h : n < 64) : Nu.put (n : Int) = [(2 * n).toUInt8] := by
  have hz : Nu.zz (n : Int) = 2 * n := by unfold Nu.zz; rw [if_neg (by omega)]; omega
  unfold Nu.put Nu.var; rw [hz]
  exact vr_end 10 (2 * n) (by omega) (by decide)
theorem put_2 (n : Nat) (h : 64 ≤ n) (h2 : n < 8192) : Nu.put (n : Int) = [(2 * n % 128 + 128).toUInt8, (2 * n / 128).toUInt8] := by
  have hz : Nu.zz (n : Int) = 2 * n := by unfold Nu.zz; rw [if_neg (by omega)]; omega
  unfold Nu.put Nu.var; rw [hz, vr_more 9 _ (by omega), vr_end 9 _ (by omega) (by decide)]
theorem get_hi (x : UInt8) (h : 128 ≤ x.toNat) : Nu.get [x] = (0, 0, 2) := by
  unfold Nu.get; simp only [Nu.getF]; rw [if_neg (by omega), if_neg (by omega)]
theorem fourB_len (n : Nat) : (fourB n).length = 4 := rfl
theorem fourB_inj {n m : Nat} (hn : n < 4294967296) (hm : m < 4294967296) (h : fourB n = fourB m) : n = m := by
  unfold fourB at h
  simp only [List.cons.injEq, and_true] at h
  obtain ⟨h1, h2, h3, h4⟩ := h
  have e := fun (a b : Nat) (h : (a % 256).toUInt8 = (b % 256).toUInt8) => by
    have := congrArg UInt8.toNat h
    rwa [Nu.u8n _ (Nat.mod_lt _ (by decide)), Nu.u8n _ (Nat.mod_lt _ (by decide))] at this
  have h1 := e _ _ h1; have h2 := e _ _ h2; have h3 := e _ _ h3; have h4 := e _ _ h4
  omega
theorem crcSum_lt (l : List UInt8) : crcSum l < 4294967296 := by unfold crcSum; omega
theorem put_len12 (n : Nat) (h : n ≤ 4000) : (Nu.put (n : Int)).length = if n < 64 then 1 else 2 := by
  by_cases h1 : n < 64
  · rw [put_1 n h1, if_pos h1]; rfl
  · rw [put_2 n (by omega) (by omega), if_neg h1]; rfl
/-- bytes that begin with a kind and a length -/
theorem openB_at (x : UInt8) (n : Nat) (r : List UInt8) (hx : x.toNat ≠ 0) (hn : n ≤ 4000) :
    openB (x :: (Nu.put (n : Int) ++ r)) = if r.length < 4 + n then (0, [], 0, 2)
      else if fourB (crcSum (x :: Nu.put (n : Int) ++ (r.drop 4).take n)) ≠ r.take 4 then (0, [], 0, 3)
      else (x.toNat, (r.drop 4).take n, 5 + (Nu.put (n : Int)).length + n, 0) := by
  have hg := Nu.get_put (n : Int) r (by omega) (by omega)
  obtain ⟨P, hP⟩ : ∃ P, Nu.put (n : Int) = P := ⟨_, rfl⟩
  rw [hP] at hg ⊢
  unfold openB
  simp only [List.length_cons, List.headD_cons, List.drop_succ_cons, List.drop_zero, hg]
  rw [if_neg (by omega), if_neg hx, if_neg (by omega), if_neg (by omega), if_neg (by omega)]
  by_cases hr : r.length < 4 + n
  · rw [if_pos hr, if_pos (by rw [List.length_append]; omega)]
  · rw [if_neg hr, if_neg (by rw [List.length_append]; omega)]
    have hd : (x :: (P ++ r)).drop (5 + P.length) = r.drop 4 := by
      rw [show 5 + P.length = (P.length + 4) + 1 by omega, List.drop_succ_cons, ← List.drop_drop, List.drop_left]
    rw [hd, Int.toNat_natCast]
    obtain ⟨b, hb⟩ : ∃ b, (r.drop 4).take n = b := ⟨_, rfl⟩
    have hbl : b.length = n := by rw [← hb, List.length_take, List.length_drop]; omega
    have ht : (x :: (P ++ r)).take (5 + P.length + n) = x :: P ++ (r.take 4 ++ b) := by
      rw [show 5 + P.length + n = (P.length + (4 + n)) + 1 by omega, List.take_succ_cons, List.take_append, List.take_of_length_le (by omega), show P.length + (4 + n) - P.length = 4 + n by omega, List.take_add, hb]
      rfl
    have hs : sealB (x.toNat : Int) b = x :: P ++ (fourB (crcSum (x :: P ++ b)) ++ b) := by
      have := x.toNat_lt
      unfold sealB headB
      rw [if_neg (by omega), hbl, hP]
      have hxx : ((x.toNat : Int)).toNat.toUInt8 = x := by
        rw [Int.toNat_natCast]; apply UInt8.toNat_inj.1; rw [Nu.u8n _ (by omega)]
      rw [hxx, List.append_assoc]
    rw [hb, ht, hs]
    by_cases hf : fourB (crcSum (x :: P ++ b)) = r.take 4
    · rw [if_neg (fun h => h (by rw [hf])), if_neg (fun h => h hf)]
    · rw [if_pos (fun e => hf (List.append_cancel_right (List.append_cancel_left e))), if_pos hf]
/-- a frame, told in its parts -/
theorem sealB_is (k : Int) (l : List UInt8) (h0 : 1 ≤ k) (h1 : k ≤ 255) (hl : l.length ≤ 4000) : sealB k l = k.toNat.toUInt8 :: (Nu.put ((l.length : Nat) : Int) ++ (fourB (crcSum (k.toNat.toUInt8 :: Nu.put ((l.length : Nat) : Int) ++ l)) ++ l)) := by
  unfold sealB headB
  rw [if_neg (by omega)]
  simp
theorem kind_back (k : Int) (h0 : 1 ≤ k) (h1 : k ≤ 255) : (k.toNat.toUInt8).toNat = k.toNat := Nu.u8n _ (by omega)
theorem sealB_len (k : Int) (l : List UInt8) (h0 : 1 ≤ k) (h1 : k ≤ 255) (hl : l.length ≤ 4000) : (sealB k l).length = 5 + (Nu.put ((l.length : Nat) : Int)).length + l.length := by
  rw [sealB_is k l h0 h1 hl]; simp only [List.length_cons, List.length_append, fourB_len]; omega
theorem sealB_no (k : Int) (l : List UInt8) (h : k < 1 ∨ 255 < k ∨ 4000 < l.length) : sealB k l = [] := by unfold sealB; rw [if_pos h]
theorem sealB_some {k : Int} {l : List UInt8} (h : 1 ≤ (sealB k l).length) : 1 ≤ k ∧ k ≤ 255 ∧ l.length ≤ 4000 := by
  by_cases hb : k < 1 ∨ 255 < k ∨ 4000 < l.length
  · rw [sealB_no k l hb] at h; simp at h
  · omega
theorem sealB_short (k : Int) (l : List UInt8) : (sealB k l).length ≤ 4007 := by
  by_cases h : k < 1 ∨ 255 < k ∨ 4000 < l.length
  · rw [sealB_no k l h]; simp
  · have := sealB_len k l (by omega) (by omega) (by omega)
    have h2 := put_len12 l.length (by omega)
    split at h2 <;> omega
theorem openB_seal (k : Int) (l r : List UInt8) (h0 : 1 ≤ k) (h1 : k ≤ 255) (hl : l.length ≤ 4000) : openB (sealB k l ++ r) = (k.toNat, l, (sealB k l).length, 0) := by
  have hk := kind_back k h0 h1
  rw [sealB_len k l h0 h1 hl, sealB_is k l h0 h1 hl, List.cons_append, List.append_assoc, openB_at _ l.length _ (by omega) hl]
  have hd : ((fourB (crcSum (k.toNat.toUInt8 :: Nu.put ((l.length : Nat) : Int) ++ l)) ++ l ++ r).drop 4).take l.length = l := by
    rw [List.append_assoc, List.drop_left' (fourB_len _), List.take_left' rfl]
  have ht : (fourB (crcSum (k.toNat.toUInt8 :: Nu.put ((l.length : Nat) : Int) ++ l)) ++ l ++ r).take 4 = fourB (crcSum (k.toNat.toUInt8 :: Nu.put ((l.length : Nat) : Int) ++ l)) := by
    rw [List.append_assoc, List.take_left' (fourB_len _)]
  rw [hd, ht, if_neg (by simp only [List.length_append, fourB_len]; omega), if_neg (by simp), hk]
theorem openB_cut (k : Int) (l : List UInt8) (m : Nat) (h0 : 1 ≤ k) (h1 : k ≤ 255) (hl : l.length ≤ 4000) (hm : m < (sealB k l).length) : openB ((sealB k l).take m) = (0, [], 0, 2) := by
  have hk := kind_back k h0 h1
  have hlen := sealB_len k l h0 h1 hl
  rw [hlen] at hm
  have h12 := put_len12 l.length hl
  rw [sealB_is k l h0 h1 hl]
  obtain ⟨R, hR⟩ : ∃ R, fourB (crcSum (k.toNat.toUInt8 :: Nu.put ((l.length : Nat) : Int) ++ l)) ++ l = R := ⟨_, rfl⟩
  have hRl : R.length = 4 + l.length := by rw [← hR, List.length_append, fourB_len]
  rw [hR]
  cases m with
  | zero => rfl
  | succ m =>
    rw [List.take_succ_cons]
    by_cases hP : (Nu.put ((l.length : Nat) : Int)).length ≤ m
    · rw [List.take_append, List.take_of_length_le hP, openB_at _ l.length _ (by omega) hl, if_pos]
      rw [List.length_take]; omega
    · rw [List.take_append_of_le_length (by omega)]
      have hone : ∀ y : List UInt8, Nu.get y = (0, 0, 2) → y.length ≤ 1 → openB (k.toNat.toUInt8 :: y) = (0, [], 0, 2) := fun y hy hyl => by
        unfold openB
        simp only [List.length_cons, List.headD_cons, List.drop_succ_cons, List.drop_zero, hy]
        rw [if_neg (by omega), if_neg (by omega), if_neg (by omega), if_pos trivial]
      cases m with
      | zero => exact hone [] rfl (by simp)
      | succ m =>
        by_cases h6 : l.length < 64
        · rw [if_pos h6] at h12; omega
        · rw [if_neg h6] at h12
          have h8 : m = 0 := by omega
          subst h8
          rw [put_2 _ (by omega) (by omega)]
          simp only [List.take_succ_cons, List.take_zero]
          exact hone _ (get_hi _ (by rw [Nu.u8n _ (by omega)]; omega)) (by simp)
/-- what openB tells of a good frame -/
theorem openB_good {l b : List UInt8} {k n : Nat} (h : openB l = (k, b, n, 0)) : 6 ≤ n ∧ n ≤ l.length ∧ b.length ≤ 4000 ∧ b.length + 6 ≤ l.length ∧ 1 ≤ k ∧ k ≤ 255 := by
  unfold openB at h
  by_cases h1 : l.length = 0
  · rw [if_pos h1] at h; simp at h
  rw [if_neg h1] at h
  by_cases h2 : (l.headD 0).toNat = 0
  · rw [if_pos h2] at h; simp at h
  rw [if_neg h2] at h
  by_cases h3 : (Nu.get (l.drop 1)).2.2 = 2 ∧ 2 < l.length
  · rw [if_pos h3] at h; simp at h
  rw [if_neg h3] at h
  by_cases h4 : (Nu.get (l.drop 1)).2.2 = 2
  · rw [if_pos h4] at h; simp at h
  rw [if_neg h4] at h
  by_cases h5 : (Nu.get (l.drop 1)).2.2 ≠ 0 ∨ (Nu.get (l.drop 1)).1 < 0 ∨ 4000 < (Nu.get (l.drop 1)).1
  · rw [if_pos h5] at h; simp at h
  rw [if_neg h5] at h
  by_cases h6 : (l.length : Int) < 5 + (Nu.get (l.drop 1)).2.1 + (Nu.get (l.drop 1)).1
  · rw [if_pos h6] at h; simp at h
  rw [if_neg h6] at h
  split at h
  · simp at h
  · have hp := Nu.get_pos (l.drop 1) (by omega)
    have hx := (l.headD 0).toNat_lt
    simp only [Prod.mk.injEq, and_true] at h
    obtain ⟨rfl, rfl, rfl⟩ := h
    have : ((l.drop (5 + (Nu.get (l.drop 1)).2.1)).take (Nu.get (l.drop 1)).1.toNat).length ≤ (Nu.get (l.drop 1)).1.toNat := by rw [List.length_take]; omega
    omega
theorem openB_err (l : List UInt8) : (openB l).2.2.2 = 0 ∨ (∃ e, openB l = (0, [], 0, e) ∧ (e = 2 ∨ e = 3)) := by
  unfold openB
  repeat' split
  all_goals first | exact .inl rfl | exact .inr ⟨_, rfl, .inl rfl⟩ | exact .inr ⟨_, rfl, .inr rfl⟩

/-! ### a byte that is another one makes another sum -/
theorem crcBit_inj {c d : Nat} (hc : c < 4294967296) (hd : d < 4294967296) (h : crcBit c = crcBit d) : c = d := by
  rw [crcBit_m, crcBit_m] at h
  have key : ∀ a, a < 4294967296 → ((a / 2 ^^^ crcM (a % 2)).testBit 31 = decide (a % 2 = 1)) := fun a ha => by
    rw [Nat.testBit_xor, Nat.testBit_lt_two_pow (x := a / 2) (i := 31) (by omega)]
    unfold crcM
    split
    · rename_i h; simp [h]; decide
    · rename_i h; simp [h]
  have e1 := key c hc
  rw [h, key d hd] at e1
  have e2 : c % 2 = d % 2 := by
    rcases Nat.mod_two_eq_zero_or_one c with h1 | h1 <;> rcases Nat.mod_two_eq_zero_or_one d with h2 | h2 <;> simp [h1, h2] at e1 ⊢
  rw [e2] at h
  have e3 : c / 2 = d / 2 := by
    have := congrArg (· ^^^ crcM (d % 2)) h
    simpa [Nat.xor_assoc, Nat.xor_self] using this
  omega
theorem crcBits_inj : ∀ (k : Nat) {c d : Nat}, c < 4294967296 → d < 4294967296 → crcBits k c = crcBits k d → c = d
  | 0, _, _, _, _, h => h
  | k + 1, _, _, hc, hd, h => crcBit_inj hc hd (crcBits_inj k (crcBit_lt _ hc) (crcBit_lt _ hd) h)
theorem xor_left {a b c : Nat} (h : a ^^^ b = a ^^^ c) : b = c := by
  have := congrArg (a ^^^ ·) h
  simpa [← Nat.xor_assoc, Nat.xor_self] using this
theorem xor_right {a b c : Nat} (h : a ^^^ c = b ^^^ c) : a = b := by
  have := congrArg (· ^^^ c) h
  simpa [Nat.xor_assoc, Nat.xor_self] using this
theorem crcL_inj : ∀ (l : List UInt8) {c d : Nat}, c < 4294967296 → d < 4294967296 → crcL c l = crcL d l → c = d
  | [], _, _, _, _, h => h
  | b :: t, c, d, hc, hd, h => xor_right (c := b.toNat) (crcBits_inj 8 (crcX_lt c b hc) (crcX_lt d b hd) (crcL_inj t (crcBits_lt 8 _ (crcX_lt c b hc)) (crcBits_lt 8 _ (crcX_lt d b hd)) h))
theorem crcSum_one {a b : List UInt8} {x y : UInt8} (h : crcSum (a ++ x :: b) = crcSum (a ++ y :: b)) : x = y := by
  have h1 := crcL_lt (a ++ x :: b) 4294967295 (by omega)
  have h2 := crcL_lt (a ++ y :: b) 4294967295 (by omega)
  unfold crcSum at h
  have h3 : crcL 4294967295 (a ++ x :: b) = crcL 4294967295 (a ++ y :: b) := by omega
  rw [crcL_append, crcL_append] at h3
  have ha := crcL_lt a 4294967295 (by omega)
  have h4 := crcL_inj b (crcBits_lt 8 _ (crcX_lt _ x ha)) (crcBits_lt 8 _ (crcX_lt _ y ha)) h3
  exact UInt8.toNat_inj.1 (xor_left (crcBits_inj 8 (crcX_lt _ x ha) (crcX_lt _ y ha) h4))
theorem crcSum_set {a l b : List UInt8} {j : Nat} (hj : j < l.length) {y : UInt8} (h : crcSum (a ++ l.set j y ++ b) = crcSum (a ++ l ++ b)) : y = l[j] := by
  have e1 : a ++ l.set j y ++ b = (a ++ l.take j) ++ y :: (l.drop (j + 1) ++ b) := by rw [List.set_eq_take_append_cons_drop, if_pos hj]; simp
  have e2 : a ++ l ++ b = (a ++ l.take j) ++ l[j] :: (l.drop (j + 1) ++ b) := by
    calc a ++ l ++ b = a ++ (l.take j ++ l.drop j) ++ b := by rw [List.take_append_drop]
      _ = _ := by rw [List.drop_eq_getElem_cons hj]; simp only [List.append_assoc, List.cons_append]
  rw [e1, e2] at h
  exact crcSum_one h
/-- a frame of which one byte was changed, but for its length, is none -/
theorem openB_spoilt (k : Int) (l : List UInt8) (j : Nat) (y : UInt8) (h0 : 1 ≤ k) (h1 : k ≤ 255) (hl : l.length ≤ 4000) (hj : j < (sealB k l).length) (hj1 : j ≠ 1) (hj2 : j ≠ 2) (hy : y ≠ (sealB k l)[j]) : openB ((sealB k l).set j y) = (0, [], 0, 3) := by
  have hk := kind_back k h0 h1
  have hlen := sealB_len k l h0 h1 hl
  have h12 := put_len12 l.length hl
  have hs := sealB_is k l h0 h1 hl
  obtain ⟨P, hP⟩ : ∃ P, Nu.put ((l.length : Nat) : Int) = P := ⟨_, rfl⟩
  obtain ⟨x, hx⟩ : ∃ x, k.toNat.toUInt8 = x := ⟨_, rfl⟩
  rw [hP] at hs h12 hlen
  rw [hx] at hs hk
  obtain ⟨n, hn⟩ : ∃ n, crcSum (x :: P ++ l) = n := ⟨_, rfl⟩
  rw [hn] at hs
  obtain ⟨s, hss⟩ : ∃ s, sealB k l = s := ⟨_, rfl⟩
  rw [hss] at hs hlen
  simp only [hss] at hj hy ⊢
  have hgo : ∀ (z : UInt8) (r : List UInt8), openB (z :: (P ++ r)) = if z.toNat = 0 then (0, [], 0, 3) else if r.length < 4 + l.length then (0, [], 0, 2)
      else if fourB (crcSum (z :: P ++ (r.drop 4).take l.length)) ≠ r.take 4 then (0, [], 0, 3)
      else (z.toNat, (r.drop 4).take l.length, 5 + P.length + l.length, 0) := fun z r => by
    by_cases hz : z.toNat = 0
    · rw [if_pos hz]; unfold openB; rw [if_neg (by simp), if_pos (show ((z :: (P ++ r)).headD 0).toNat = 0 from hz)]
    · rw [if_neg hz, ← hP]; exact openB_at z l.length r hz hl
  have hPl : 1 ≤ P.length ∧ P.length ≤ 2 := by split at h12 <;> omega
  by_cases hj0 : j = 0
  · subst hj0
    simp only [hs, List.set_cons_zero, List.getElem_cons_zero] at hy ⊢
    rw [hgo]
    by_cases hz : y.toNat = 0
    · rw [if_pos hz]
    · rw [if_neg hz, if_neg (by rw [List.length_append, fourB_len]; omega), List.drop_left' (fourB_len _), List.take_left' (fourB_len _), List.take_of_length_le (Nat.le_refl _), if_pos]
      intro e
      have e2 := fourB_inj (crcSum_lt _) (by rw [← hn]; exact crcSum_lt _) e
      rw [← hn] at e2
      exact hy (crcSum_one (a := []) e2)
  · obtain ⟨j', rfl⟩ : ∃ j', j = 1 + P.length + j' := ⟨j - 1 - P.length, by
      by_cases h6 : P.length = 1 <;> omega⟩
    have hset : s.set (1 + P.length + j') y = x :: (P ++ (fourB n ++ l).set j' y) := by
      rw [hs, show 1 + P.length + j' = (P.length + j') + 1 by omega, List.set_cons_succ, List.set_append_right _ _ (by omega), show P.length + j' - P.length = j' by omega]
    have hyj : y ≠ (fourB n ++ l)[j']'(by rw [List.length_append, fourB_len]; omega) := by
      intro e
      apply hy
      rw [e]
      have : s[1 + P.length + j']? = (fourB n ++ l)[j']? := by
        rw [hs, show 1 + P.length + j' = (P.length + j') + 1 by omega, List.getElem?_cons_succ, List.getElem?_append_right (by omega), show P.length + j' - P.length = j' by omega]
      rw [List.getElem?_eq_getElem hj, List.getElem?_eq_getElem (by rw [List.length_append, fourB_len]; omega)] at this
      exact (Option.some.inj this).symm
    rw [hset, hgo, if_neg (by omega), if_neg (by rw [List.length_set, List.length_append, fourB_len]; omega), if_pos]
    intro e
    by_cases hj4 : j' < 4
    · have e3 : (fourB n ++ l).set j' y = (fourB n).set j' y ++ l := List.set_append_left _ _ (by rw [fourB_len]; exact hj4)
      rw [e3, List.drop_left' (by rw [List.length_set, fourB_len]), List.take_left' (by rw [List.length_set, fourB_len]), List.take_of_length_le (Nat.le_refl _), hn] at e
      apply hyj
      have e4 : (fourB n)[j']? = ((fourB n).set j' y)[j']? := congrArg (·[j']?) e
      rw [List.getElem?_set_self (by rw [fourB_len]; exact hj4)] at e4
      rw [List.getElem_append_left (by rw [fourB_len]; exact hj4)]
      rw [List.getElem?_eq_getElem (by rw [fourB_len]; exact hj4)] at e4
      exact (Option.some.inj e4).symm
    · have e3 : (fourB n ++ l).set j' y = fourB n ++ l.set (j' - 4) y := by rw [List.set_append_right _ _ (by rw [fourB_len]; omega), fourB_len]
      rw [e3, List.drop_left' (fourB_len _), List.take_left' (fourB_len _), List.take_of_length_le (by rw [List.length_set]; exact Nat.le_refl _)] at e
      have e4 := fourB_inj (crcSum_lt _) (by rw [← hn]; exact crcSum_lt _) e
      rw [← hn] at e4
      apply hyj
      rw [List.getElem_append_right (by rw [fourB_len]; omega)]
      exact crcSum_set (a := x :: P) (b := []) (j := j' - 4) (by omega) (by simpa using e4)
end Go.Proofs.YtbiecoifeeikpaaDoor
/-
  Whole rows in blocks; a reader's state as data; what of them stays where another block is turned.
  There are no conditions beyond those that each lemma names.
-/
set_option linter.unusedSimpArgs false
set_option linter.unusedVariables false
namespace Go.Proofs.YtbiecoifeeikpaaDoor
open Go.RowKit
set_option maxRecDepth 100000

/-- block g is a row of type t, and holds the cells cs -/
def Rt (w : World) (g : Nat) (t : TypeId) (cs : List Value) : Prop := w.heap[g]? = some (.cells cs.toArray t (0, 0))
theorem Rt.lt {w : World} {g : Nat} {t : TypeId} {cs : List Value} (h : Rt w g t cs) : g < w.heap.size := (Array.getElem?_eq_some_iff.1 h).1
theorem Rt.new (w : World) (t : TypeId) (cs : List Value) : Rt (w.alloc (.cells cs.toArray t)) w.heap.size t cs := heap_alloc_new _ _
theorem Rt.new_at (w : World) (g : Nat) (t : TypeId) (cs : List Value) (hg : w.heap.size = g) : Rt (w.alloc (.cells cs.toArray t)) g t cs := by rw [← hg]; exact Rt.new w t cs
theorem Rt.below {w w' : World} {g : Nat} {t : TypeId} {cs : List Value} (h : Rt w g t cs) (hb : Below w.heap.size w w') : Rt w' g t cs := (hb.block g h.lt).trans h
theorem Rt.under {w w' : World} {B g : Nat} {t : TypeId} {cs : List Value} (h : Rt w g t cs) (hb : Below B w w') (hg : g < B) : Rt w' g t cs := (hb.block g hg).trans h
theorem Rt.cell {w : World} {g j : Nat} {t : TypeId} {cs : List Value} {v : Value} (h : Rt w g t cs) (hj : cs[j]? = some v) : w.cell? ⟨g, j, none⟩ = some v := by
  rw [cell_of_row w g _ cs.toArray t (0, 0) h]
  simpa using hj
theorem Rt.frz {w : World} {g : Nat} {t : TypeId} {cs : List Value} (h : Rt w g t cs) (j : Nat) : w.frozen? ⟨g, j, none⟩ = false := frozen_of_row w g j cs.toArray t h
theorem Rt.set {w : World} {g : Nat} {t : TypeId} {cs : List Value} (h : Rt w g t cs) (j : Nat) (u : Value) : Rt (w.setCell ⟨g, j, none⟩ u) g t (cs.set j u) := by
  unfold Rt at *
  rw [heap_setCell_same w g j _ _ u h]
  simp
theorem Rt.other {w : World} {g g' : Nat} {t : TypeId} {cs : List Value} (h : Rt w g t cs) (j : Nat) (u : Value) (hne : g ≠ g') : Rt (w.setCell ⟨g', j, none⟩ u) g t cs := by
  unfold Rt at *
  exact (Below.heap_setCell w _ u g (fun e => hne e)).trans h
theorem grown_trans10 {a b c : World} {row : Option Nat} (h : a.grownBy b row) (k : b.grownBy c row) : a.grownBy c row :=
  ⟨k.os.trans h.os, k.tape.trans h.tape, k.output.trans h.output, Nat.le_trans h.size k.size, fun j hj hne => (k.block j (Nat.lt_of_lt_of_le hj h.size) hne).trans (h.block j hj hne)⟩
theorem Rt.grown {w w' : World} {g g' : Nat} {t : TypeId} {cs : List Value} (h : Rt w g t cs) (hb : w.grownBy w' (some g')) (hne : g ≠ g') : Rt w' g t cs := (hb.block g h.lt (by simpa using hne)).trans h
theorem byt_grown10 {w w' : World} {B g : Nat} {v : Value} {l : List UInt8} (h : Byt w B v l) (hg : w.grownBy w' (some g)) (hB : B ≤ g) (hw : g < w.heap.size) : Byt w' B v l := h.keep fun p hp => hg.cell_far p (by omega) (by simp; omega)
theorem below_grown10 {w w' : World} {B g : Nat} (hg : w.grownBy w' (some g)) (hB : B ≤ g) (hw : g < w.heap.size) : Below B w w' := (Below.refl B w).grown hg (by omega) (fun k e => by cases e; exact hB)
theorem nget_c10 (A : Option Addr) (n c B : Nat) (l : List UInt8) (w : World) (h : Byt w B (.slice A n c) l) (hl : l.length ≤ 1050000) : Calls Tryd.prog 94 #[.slice A n c] w (GotN (Nu.get l) w) := by
  obtain rfl : n = l.length := by obtain ⟨_, _, hv, _⟩ := h; injection hv
  exact nget_any A c B l w h hl
theorem ngetText_c10 (A : Option Addr) (n c B : Nat) (l : List UInt8) (w : World) (h : Byt w B (.slice A n c) l) (hl : l.length ≤ 1050000) : Calls Tryd.prog 96 #[.slice A n c] w (GotT (Nu.getT l) w) := by
  obtain rfl : n = l.length := by obtain ⟨_, _, hv, _⟩ := h; injection hv
  exact ngetText_any A c B l w h hl
theorem getT_len10 (l : List UInt8) : (Nu.getT l).2.1 ≤ l.length := by
  by_cases he : (Nu.getT l).2.2 = 0
  · have h := Nu.getT_canon l (Nu.getT l).1 (Nu.getT l).2.1 (by rw [← he])
    have h1 := congrArg List.length h.1
    rw [List.length_append, List.length_drop, ← h.2.1] at h1; omega
  · have : (Nu.getT l).2.1 = 0 := by
      revert he; rw [getT_of]; repeat' split
      all_goals simp
    omega
theorem add_lit_10 (g o j : Nat) : (some (⟨g, o, Option.none⟩ : Addr)).map (·.add j) = some ⟨g, o + j, Option.none⟩ := by
  show some (Addr.add ⟨g, o, Option.none⟩ j) = _
  unfold Addr.add; split
  · subst_vars; rfl
  · rfl
abbrev RdS10 := List UInt8 × Bool
def rdN10 (s : RdS10) : Int × RdS10 := ((Nu.get s.1).1, if (Nu.get s.1).2.2 = 0 then (s.1.drop (Nu.get s.1).2.1, s.2) else ([], true))
def rdT10 (s : RdS10) : ByteArray × RdS10 := (⟨(Nu.getT s.1).1.toArray⟩, if (Nu.getT s.1).2.2 = 0 then (s.1.drop (Nu.getT s.1).2.1, s.2) else ([], true))
theorem rdN10_len (s : RdS10) : (rdN10 s).2.1.length ≤ s.1.length := by
  unfold rdN10; simp only; split <;> simp
theorem rdT10_len (s : RdS10) : (rdT10 s).2.1.length ≤ s.1.length := by
  unfold rdT10; simp only; split <;> simp
theorem byt_set10 {w : World} {B g j : Nat} {v u : Value} {l : List UInt8} (h : Byt w B v l) (hB : B ≤ g) : Byt (w.setCell ⟨g, j, none⟩ u) B v l :=
  h.keep fun p hp => World.cell?_setCell_other _ _ _ _ (fun e => by rw [← e] at hp; simp at hp; omega)
/-- a reader at block g, with what rests and whether it is bad; its bytes lie below block B -/
def WRd (w : World) (g B : Nat) (s : RdS10) : Prop := ∃ A c, Rt w g 111 [.slice A s.1.length c, .bool s.2] ∧ Byt w B (.slice A s.1.length c) s.1 ∧ B ≤ g
def WRo (g B : Nat) (v : Value) (s : RdS10) (w : World) (e : Ending) (w' : World) : Prop := e = .returned v ∧ WRd w' g B s ∧ w.grownBy w' (some g)
theorem WRd.lt {w : World} {g B : Nat} {s : RdS10} (h : WRd w g B s) : g < w.heap.size := by
  obtain ⟨A, c, h, _⟩ := h; exact Rt.lt h
theorem WRd.then_ {w w' : World} {g B : Nat} {s : RdS10} (h : WRd w g B s) (hb : Below w.heap.size w w') : WRd w' g B s := by
  obtain ⟨A, c, h1, h2, h3⟩ := h
  exact ⟨A, c, h1.below hb, h2.below hb (by have := Rt.lt h1; omega), h3⟩
theorem WRd.new (w : World) (B : Nat) (l : List UInt8) (A : Option Addr) (n c : Nat) (h : Byt w B (.slice A n c) l) (hB : B ≤ w.heap.size) : WRd (w.alloc (.cells #[.slice A n c, .bool false] 111)) w.heap.size B (l, false) := by
  obtain rfl : n = l.length := by obtain ⟨_, _, hv, _⟩ := h; injection hv
  exact ⟨A, c, Rt.new w _ [.slice A l.length c, .bool false], h.below (below_new w _) hB, hB⟩
end Go.Proofs.YtbiecoifeeikpaaDoor
/-
  slices.Chunk of a row of bytes, and what its iterator hands to a loop's body: the pieces, one behind the other.
  The bytes are at most 1,000,000; a piece has 3,000 of them.
-/
set_option linter.unusedSimpArgs false
set_option linter.unusedVariables false
namespace Go.Proofs.YtbiecoifeeikpaaDoor
open Go.RowKit Go.Shelf
attribute [local go_sem] Oper.semAt_some
set_option maxRecDepth 100000

/-- a piece, as the iterator hands it out -/
def chunkV (b off len k : Nat) : Value := .slice (some ⟨b, off + 3000 * k, none⟩) (min 3000 (len - 3000 * k)) (min 3000 (len - 3000 * k))
/-- what a body must keep: the iterator's two boxes -/
def KpC (Bs Bn : Nat) (W W' : World) : Prop := W.heap.size ≤ W'.heap.size ∧ W'.heap[Bs]? = W.heap[Bs]? ∧ W'.heap[Bn]? = W.heap[Bn]?
theorem KpC.trans {Bs Bn : Nat} {A B C : World} (h : KpC Bs Bn A B) (k : KpC Bs Bn B C) : KpC Bs Bn A C := ⟨Nat.le_trans h.1 k.1, k.2.1.trans h.2.1, k.2.2.trans h.2.2⟩
theorem KpC.cell {Bs Bn : Nat} {W W' : World} (h : KpC Bs Bn W W') {v u : Value} (h1 : W.cell? ⟨Bs, 0, none⟩ = some v) (h2 : W.cell? ⟨Bn, 0, none⟩ = some u) : W'.cell? ⟨Bs, 0, none⟩ = some v ∧ W'.cell? ⟨Bn, 0, none⟩ = some u := by
  unfold World.cell? at *
  rw [h.2.1, h.2.2]
  exact ⟨h1, h2⟩
def Meet10 (b : Act) (R : World → Prop) : Exit → Act → World → Prop
  | .normal, a, W => a = b ∧ R W
  | _, _, _ => False
theorem wpIn_meet10 {F : Fence} {n : Nat} {P : Program} {c : Code} {Q : Exit → Act → World → Prop} {a b : Act} {w : World} {R : World → Prop} (h1 : c.wpIn F n P (Meet10 b R) a w) (h2 : ∀ W, R W → Q .normal b W) : c.wpIn F n P Q a w :=
  Code.wpIn_mono (fun e a' w' h => by
    cases e <;> first | exact h.elim | skip
    obtain ⟨rfl, h⟩ := h
    exact h2 _ h) h1
set_option maxHeartbeats 2000000 in
theorem chunk1_in (F : Fence) (n : Nat) (hf : F.fn 91) (hro : F.round = none) (hn : 1 ≤ n) (l Bs Bn b off len cap : Nat) (hlen : len ≤ 1050000) (hlc : len ≤ cap) (J Jx : List Nat → World → Prop) (hJd : ∀ s W, J s W → J s W.drew)
    (hY : ∀ pre x W, J pre W → pre.length < (len + 2999) / 3000 → YieldAt F (n - 1) Tryd.prog l #[chunkV b off len x] W fun e W' =>
      (e = .returned (.bool true) ∧ J (pre ++ [x]) W' ∧ KpC Bs Bn W W') ∨ (e = .returned (.bool false) ∧ Jx (pre ++ [x]) W'))
    (W : World) (hBs : W.cell? ⟨Bs, 0, none⟩ = some (.slice (some ⟨b, off, none⟩) len cap)) (hBn : W.cell? ⟨Bn, 0, none⟩ = some (.int .i64 3000)) (h0 : J [] W) :
    CallsIn F n Tryd.prog 91 #[.func (.yield l) #[] #[], .pointer (some ⟨Bs, 0, none⟩), .pointer (some ⟨Bn, 0, none⟩)] W fun e W' => (∃ v, e = .returned v) ∧
      ((∃ ys, ys = List.range ((len + 2999) / 3000) ∧ J ys W') ∨ (∃ pre, (∃ k, pre = List.range k) ∧ Jx pre W')) := by
  refine callsIn_of_wp Tryd.func91 rfl hf ?_ hro
  simp only [Tryd.ntmps91, List.size_toArray, List.length_cons, List.length_nil, Nat.reduceAdd, Nat.reduceSub, Array.replicate_succ, Array.replicate_zero, List.push_toArray, List.append_toArray, List.nil_append, List.cons_append]
  gi_wp2
  gi_loopw [4] (fun i wr => ∃ k : Nat, k ≤ (len + 2999) / 3000 ∧ i = .int .i64 ((3000 * k : Nat) : Int) ∧ J (List.range k) wr ∧ wr.cell? ⟨Bs, 0, none⟩ = some (.slice (some ⟨b, off, none⟩) len cap) ∧ wr.cell? ⟨Bn, 0, none⟩ = some (.int .i64 3000))
    (fun i _ => len + 3000 - (intOf i).toNat)
  case atStart => exact ⟨0, Nat.zero_le _, rfl, h0, hBs, hBn⟩
  case round =>
    obtain ⟨k, hk, rfl, hJs, hs, hm⟩ := hrel
    by_cases hlt : 3000 * k < len
    · obtain ⟨fn, tmps, assign, body, hy, hR⟩ := hY _ k wr.drew (hJd _ _ hJs) (by rw [List.length_range]; omega)
      have hki : 3000 * (k : Int) < len := by omega
      obtain ⟨m, hm1⟩ : ∃ m, min 3000 (len - 3000 * k) = m := ⟨_, rfl⟩
      have hm2 : min (3000 : Int) ((len - 3000 * k : Nat) : Int) = (m : Int) := by omega
      have hm3 : m ≤ 3000 := by omega
      have hm4 : 3000 * (k : Int) + m ≤ len := by omega
      have hm5 : 3000 * k + m ≤ len := by omega
      have hm6 : (0 : Int) ≤ m := by omega
      unfold chunkV at hy
      rw [hm1] at hy
      have hki2 : 0 ≤ 3000 * (k : Int) ∧ 3000 * (k : Int) ≤ len := by omega
      gi_wp2
      apply wpIn_meet10 (R := fun W => W = wr.drew)
      · gi_region
        all_goals exact ⟨rfl, rfl⟩
      rintro W1 rfl
      have hs1 : wr.drew.cell? ⟨Bs, 0, none⟩ = some (.slice (some ⟨b, off, none⟩) len cap) := hs
      have hm0 : wr.drew.cell? ⟨Bn, 0, none⟩ = some (.int .i64 3000) := hm
      gi_wp2
      refine hR.mono ?_
      rintro e W3 (⟨rfl, hJ3, hk3⟩ | ⟨rfl, hJx3⟩)
      · obtain ⟨hs3, hn3⟩ := hk3.cell hs1 hm0
        gi_wp2
        go_roundw
        case rel => exact ⟨k + 1, by omega, by congr 1, by rw [List.range_succ]; exact hJ3, hs3, hn3⟩
        case measure => simp [intOf]; omega
      · gi_wp2
        refine bodyPost_ret (results_none rfl _ _ _) rfl ?_
        exact ⟨⟨_, rfl⟩, .inr ⟨_, ⟨k + 1, rfl⟩, by rw [List.range_succ]; exact hJx3⟩⟩
    · have hge : (len : Int) ≤ 3000 * (k : Int) := by omega
      obtain rfl : k = (len + 2999) / 3000 := by omega
      gi_wp2
      go_end0
      exact ⟨⟨_, rfl⟩, .inl ⟨_, rfl, hJs⟩⟩
set_option maxHeartbeats 1050000 in
/-- slices.Chunk: both arguments are boxed; the function value captures the boxes -/
theorem chunk_in (F : Fence) (n : Nat) (hf : F.fn 78) (hro : F.round = none) (A : Option Addr) (len cap : Nat) (w : World) :
    CallsIn F n Tryd.prog 78 #[.slice A len cap, .int .i64 3000] w fun e w' => e = .returned (.func (.func 91) #[] #[.pointer (some ⟨w.heap.size, 0, none⟩), .pointer (some ⟨w.heap.size + 1, 0, none⟩)]) ∧ w' = (w.alloc (.cells #[.slice A len cap] 46)).alloc (.cells #[.int .i64 3000] 3) := by
  refine callsIn_of_wp Tryd.func78 rfl hf ?_ hro
  simp only [Tryd.ntmps78, List.size_toArray, List.length_cons, List.length_nil, Nat.reduceAdd, Nat.reduceSub, Array.replicate_succ, Array.replicate_zero, List.push_toArray, List.append_toArray, List.nil_append, List.cons_append]
  gi_wp2
  go_ret
  exact ⟨rfl, rfl⟩
/-- what slices.Chunk hands back: all pieces, one behind the other -/
theorem chunk_stops (F : Fence) (n : Nat) (hf : F.fn 91) (hro : F.round = none) (hn : 1 ≤ n) (Bs Bn b off len cap : Nat) (hlen : len ≤ 1050000) (hlc : len ≤ cap) (w : World) (h1 : Bs < w.heap.size) (h2 : Bn < w.heap.size)
    (hBs : w.cell? ⟨Bs, 0, none⟩ = some (.slice (some ⟨b, off, none⟩) len cap)) (hBn : w.cell? ⟨Bn, 0, none⟩ = some (.int .i64 3000)) :
    SeqStopsK F n Tryd.prog 91 #[.pointer (some ⟨Bs, 0, none⟩), .pointer (some ⟨Bn, 0, none⟩)] (fun x : Nat => #[chunkV b off len x]) (KpC Bs Bn) (fun ys => ys = List.range ((len + 2999) / 3000)) (fun pre => ∃ k, pre = List.range k) ((len + 2999) / 3000) w := fun l J Jx W hW hJ _ hY h0 => by
  have hd : ∀ s W', J s W' → J s W'.drew := fun s W' h => hJ s W' W'.drew none h ⟨rfl, rfl, rfl, Nat.le_refl _, fun _ _ _ => rfl⟩ (fun r e => by cases e)
  exact chunk1_in F n hf hro hn l Bs Bn b off len cap hlen hlc J Jx hd hY W ((hW.cell (p := ⟨Bs, 0, none⟩) h1).trans hBs) ((hW.cell (p := ⟨Bn, 0, none⟩) h2).trans hBn) h0
theorem kpC_b {Bs Bn : Nat} {w : World} (h1 : Bs < w.heap.size) (h2 : Bn < w.heap.size) (W : World) (l : Nat) (o o' : Obj) (hl : w.heap.size ≤ l) (h : W.heap[l]? = some o) (_ : o.isCells = false) (_ : o.isWalk = false) : KpC Bs Bn W (W.putObj l o') := by
  have hg := grownBy_putObj' W l o'
  have hlt := (Array.getElem?_eq_some_iff.1 h).1
  exact ⟨hg.size, hg.block Bs (by omega) (by simp; omega), hg.block Bn (by omega) (by simp; omega)⟩
end Go.Proofs.YtbiecoifeeikpaaDoor
/-
  Package frame's Seal makes a frame as the plain function says, in new memory.
  The bytes are there in memory, at most 1,000,000; package crc's table lies as it was laid.
-/
set_option linter.unusedSimpArgs false
set_option linter.unusedVariables false
namespace Go.Proofs.YtbiecoifeeikpaaDoor
open Go.RowKit
set_option maxRecDepth 100000

theorem tbl_keep {w w' : World} (h : Tbl w) (hb : Below w.heap.size w w') : Tbl w' := fun k hk =>
  (hb.cell (p := ⟨0, k, none⟩) (cell_lt (h k hk))).trans (h k hk)
theorem byt_slice {w : World} {B : Nat} {v : Value} {l : List UInt8} (h : Byt w B v l) : ∃ A c, v = .slice A l.length c := by obtain ⟨A, c, hv, _⟩ := h; exact ⟨A, c, hv⟩
theorem fsum_any (u v : Value) (B C : Nat) (h l : List UInt8) (n : Nat) (w : World) (hu : Byt w B u h) (hv : Byt w C v l) (hT : Tbl w) (hh : h.length ≤ 1050000) (hl : l.length ≤ 1050000) (hn : crcSum (h ++ l) = n) :
    Calls Tryd.prog 75 #[u, v] w (Made (fourB n) w) := by
  obtain ⟨A1, c1, rfl⟩ := byt_slice hu
  obtain ⟨A2, c2, rfl⟩ := byt_slice hv
  have hlt := crcSum_lt h
  have hlt2 : n < 4294967296 := by rw [← hn]; exact crcSum_lt _
  have hm : crcMore (crcSum h) l = n := by rw [crcMore_append]; exact hn
  obtain ⟨s, hs⟩ : ∃ s, crcSum h = s := ⟨_, rfl⟩
  have HS := Lib.hid hs
  rw [hs] at hm hlt
  have HM := Lib.hid hm
  clear hs hm hn
  go_enter Tryd.func75, Tryd.ntmps75
  go_wp2_with fail
  refine (csum_any A1 c1 B h w hu hT hh).mono ?_
  rintro e w1 ⟨rfl, rfl⟩
  rw [HS.out]
  go_wp2_with fail
  refine (cmore_any A2 c2 C s l w hv hT hlt hl).mono ?_
  rintro e w1 ⟨rfl, rfl⟩
  rw [HM.out]
  go_wp2_with fail
  refine (nfour_any n w hlt2).mono ?_
  rintro e w1 ⟨v1, rfl, ho, hb⟩
  go_wp2
  go_ret
  exact ⟨v1, rfl, ho, hb⟩
set_option maxHeartbeats 1050000 in
theorem fseal_any (kind : Int) (u : Value) (B : Nat) (l : List UInt8) (w : World) (h : Byt w B u l) (hB : B ≤ w.heap.size) (hl : l.length ≤ 1050000) (hT : Tbl w) :
    Calls Tryd.prog 51 #[.int .i64 kind, u] w (Made (sealB kind l) w) := by
  obtain ⟨A, c, rfl⟩ := byt_slice h
  have HB := Lib.hid h; clear h
  have HT := Lib.hid hT; clear hT
  by_cases hbad : kind < 1 ∨ 255 < kind ∨ 4000 < l.length
  · have HF := Lib.hid (sealB_no kind l hbad)
    have hcs : kind < 1 ∨ (1 ≤ kind ∧ 255 < kind) ∨ (1 ≤ kind ∧ kind ≤ 255 ∧ 4000 < (l.length : Int)) := by omega
    clear hbad
    rcases hcs with h1 | ⟨h1, h2⟩ | ⟨h1, h2, h3⟩
    all_goals
      go_enter Tryd.func51, Tryd.ntmps51
      go_wp2
      go_ret
      exact ⟨_, rfl, by rw [HF.out]; exact ownB_nil _ _, Below.refl _ _⟩
  · have g1 : 1 ≤ kind := by omega
    have g2 : kind ≤ 255 := by omega
    have g3 : (l.length : Int) ≤ 4000 := by omega
    have hf := sealB_is kind l g1 g2 (by omega)
    obtain ⟨P, hP⟩ : ∃ P, Nu.put ((l.length : Nat) : Int) = P := ⟨_, rfl⟩
    have hPl : P.length ≤ 10 := by rw [← hP]; exact Nu.put_len _
    obtain ⟨x, hx⟩ : ∃ x, kind.toNat.toUInt8 = x := ⟨_, rfl⟩
    have hkx : kind = (x.toNat : Int) := by rw [← hx, Nu.u8n _ (by omega)]; omega
    rw [hx, hP] at hf
    obtain ⟨n, hn⟩ : ∃ n, crcSum (x :: P ++ l) = n := ⟨_, rfl⟩
    rw [hn] at hf
    have HF := Lib.hid hf; have HN := Lib.hid hn; have HP := Lib.hid hP
    have hwk : IntKind.u8.wrap kind = kind := by rw [IntKind.wrap_u8]; omega
    have l0 : -9223372036854775808 ≤ (l.length : Int) := by omega
    have l1 : (l.length : Int) ≤ 9223372036854775807 := by omega
    clear hbad hf hn hP hx
    go_enter Tryd.func51, Tryd.ntmps51
    have hbyk := byt_new1 w 5 (x.toNat : Int) x rfl
    have hbk : Below w.heap.size w (w.alloc (Obj.cells #[.int .u8 (x.toNat : Int)] 5)) := below_new w _
    have hzk : (w.alloc (Obj.cells #[.int .u8 (x.toNat : Int)] 5)).heap.size = w.heap.size + 1 := by simp
    go_wp2_with fail
    refine (nput_any _ _ [x] _ _ hbyk (by simp) (by omega) l0 l1).mono ?_
    rintro e w1 ⟨v1, rfl, ho1, hb1⟩
    rw [hzk] at ho1 hb1
    rw [HP.out] at ho1
    have hown1 : OwnB w.heap.size v1 (x :: P) w1 := ho1.down (Nat.le_succ _)
    have hbw1 := hbk.trans (hb1.mono (Nat.le_succ _))
    have hT1 := tbl_keep HT.out hbw1
    clear ho1 hb1 hbk hzk hbyk
    go_wp2_with fail
    refine (fsum_any _ _ _ _ (x :: P) l n _ (Byt.of_own hown1) (HB.out.below hbw1 hB) hT1 (by simp; omega) hl HN.out).mono ?_
    rintro e w2 ⟨v2, rfl, ho2, hb2⟩
    have hown2 := hown1.below hb2
    have hbw2 := hbw1.trans (hb2.mono hbw1.size)
    have hby2 := Byt.of_own ho2
    clear ho2 hb2 hown1 hbw1 hT1
    go_wp2_with (at_builtin; refine wpList_append_byt_at rfl _ _ rfl w.heap.size _ _ _ _ _ rfl hown2 rfl hby2 ?x1 hbw2.size ?_)
    case x1 => first | omega | (simp [fourB_len]; omega)
    intro v3 w3 hown3 hb3 _
    have hbw3 := hbw2.trans hb3
    have hbu3 := HB.out.below hbw3 hB
    clear hown2 hby2 hb3 hbw2
    go_wp2_with (at_builtin; refine wpList_append_byt_at rfl _ _ rfl w.heap.size _ _ _ _ _ rfl hown3 rfl hbu3 ?x2 hbw3.size ?_)
    case x2 => first | omega | (simp [fourB_len]; omega)
    intro v4 w4 hown4 hb4 _
    have hbw4 := hbw3.trans hb4
    clear hown3 hbu3 hb4
    go_wp2
    go_ret
    refine ⟨v4, rfl, ?_, hbw4⟩
    rw [HF.out]
    simpa using hown4
theorem fseal_is (kind : Int) (u : Value) (B : Nat) (l m : List UInt8) (w : World) (h : Byt w B u l) (hB : B ≤ w.heap.size) (hl : l.length ≤ 1050000) (hT : Tbl w) (hm : sealB kind l = m) : Calls Tryd.prog 51 #[.int .i64 kind, u] w (Made m w) := by
  rw [← hm]; exact fseal_any kind u B l w h hB hl hT
end Go.Proofs.YtbiecoifeeikpaaDoor
/-
  Package wal's Encode makes what the plain function says, in new memory; a snapshot's head.
  Texts have at most 1,000,000 bytes; package crc's table lies as it was laid.
-/
set_option linter.unusedSimpArgs false
set_option linter.unusedVariables false
namespace Go.Proofs.YtbiecoifeeikpaaDoor
open Go.RowKit
set_option maxRecDepth 100000

set_option maxHeartbeats 1050000 in
theorem wputHard (t v : Int) (w : World) (h0 : 0 ≤ t) (h1 : t ≤ 1099511627776) (h2 : 0 ≤ v) (h3 : v ≤ 7) : Calls Tryd.prog 52 #[.agg #[.int .i64 t, .int .i64 v]] w (Made (Nu.put t ++ Nu.put v) w) := by
  obtain ⟨W0, hW0⟩ : ∃ W0, w.alloc (.cells #[.int .i64 t, .int .i64 v] 24) = W0 := ⟨_, rfl⟩
  have hb : Below w.heap.size w W0 := by rw [← hW0]; exact below_one _ _
  have hlt : w.heap.size < W0.heap.size := by rw [← hW0]; simp
  have d0 : W0.cell? ⟨w.heap.size, 0, none⟩ = some (.int .i64 t) := by rw [← hW0]; exact new_cell10 rfl
  have d1 : W0.cell? ⟨w.heap.size, 1, none⟩ = some (.int .i64 v) := by rw [← hW0]; exact new_cell10 rfl
  have hp1 := Nu.put_len t
  go_enter Tryd.func52, Tryd.ntmps52
  go_wp2_with fail
  refine (nput_any _ W0.heap.size [] t _ (byt_nil _ _) (by simp) (Nat.le_refl _) (by omega) (by omega)).mono ?_
  rintro e k1 ⟨v1, rfl, ho, h⟩
  rw [List.nil_append] at ho
  replace d1 := (h.cell (p := ⟨w.heap.size, 1, none⟩) hlt).trans d1
  have HO := Lib.hid ho
  have HB := Lib.hid (hb.trans (h.mono hb.size))
  clear h hb hW0 ho d0
  go_wp2_with fail
  refine (nput_any v1 _ (Nu.put t) v _ (Byt.of_own HO.out) (by omega) (Nat.le_refl _) (by omega) (by omega)).mono ?_
  rintro e k2 ⟨v2, rfl, ho2, h2⟩
  have HO2 := Lib.hid ho2
  have HB2 := Lib.hid (HB.out.trans (h2.mono HB.out.size))
  clear h2 ho2
  go_wp2
  go_ret
  exact ⟨v2, rfl, HO2.out.down HB.out.size, HB2.out⟩
set_option maxHeartbeats 2000000 in
theorem wputEntry (ix et kd : Int) (dt : ByteArray) (w : World) (h0 : 1 ≤ ix) (h1 : ix ≤ 1099511627776) (h2 : 1 ≤ et) (h3 : et ≤ 1099511627776) (h4 : 1 ≤ kd) (h5 : kd ≤ 3) (hs : dt.size ≤ 1050000) : Calls Tryd.prog 53 #[Ent.val ⟨ix, et, kd, dt⟩] w (Made (bodyE10 ⟨ix, et, kd, dt⟩) w) := by
  unfold Ent.val bodyE10
  simp only
  have hp1 := Nu.put_len ix
  have hp2 := Nu.put_len et
  have hp3 := Nu.put_len kd
  obtain ⟨W0, hW0⟩ : ∃ W0, w.alloc (.cells #[.int .i64 ix, .int .i64 et, .int .i64 kd, .string dt] 41) = W0 := ⟨_, rfl⟩
  have hb : Below w.heap.size w W0 := by rw [← hW0]; exact below_one _ _
  have hlt : w.heap.size < W0.heap.size := by rw [← hW0]; simp
  have d0 : W0.cell? ⟨w.heap.size, 0, none⟩ = some (.int .i64 ix) := by rw [← hW0]; exact new_cell10 rfl
  have d1 : W0.cell? ⟨w.heap.size, 1, none⟩ = some (.int .i64 et) := by rw [← hW0]; exact new_cell10 rfl
  have d2 : W0.cell? ⟨w.heap.size, 2, none⟩ = some (.int .i64 kd) := by rw [← hW0]; exact new_cell10 rfl
  have d3 : W0.cell? ⟨w.heap.size, 3, none⟩ = some (.string dt) := by rw [← hW0]; exact new_cell10 rfl
  have HB0 := Lib.hid hb
  clear hb
  go_enter Tryd.func53, Tryd.ntmps53
  go_wp2_with fail
  refine (nput_any _ W0.heap.size [] ix _ (byt_nil _ _) (by simp) (Nat.le_refl _) (by omega) (by omega)).mono ?_
  rintro e k1 ⟨v1, rfl, ho, h⟩
  rw [List.nil_append] at ho
  replace d1 := (h.cell (p := ⟨w.heap.size, 1, none⟩) hlt).trans d1
  replace d2 := (h.cell (p := ⟨w.heap.size, 2, none⟩) hlt).trans d2
  replace d3 := (h.cell (p := ⟨w.heap.size, 3, none⟩) hlt).trans d3
  have HO1 := Lib.hid ho
  have HB1 := Lib.hid (HB0.out.trans (h.mono HB0.out.size))
  have lt1 : w.heap.size < k1.heap.size := Nat.lt_of_lt_of_le hlt h.size
  clear h ho d0 hW0
  go_wp2_with fail
  refine (nput_any _ k1.heap.size (Nu.put ix) et _ (Byt.of_own HO1.out) (by first | omega | (simp only [List.length_append]; omega)) (Nat.le_refl _) (by omega) (by omega)).mono ?_
  rintro e k2 ⟨v2, rfl, ho, h⟩
  replace d2 := (h.cell (p := ⟨w.heap.size, 2, none⟩) lt1).trans d2
  replace d3 := (h.cell (p := ⟨w.heap.size, 3, none⟩) lt1).trans d3
  have HO2 := Lib.hid ho
  have HB2 := Lib.hid (HB1.out.trans (h.mono HB1.out.size))
  have lt2 : w.heap.size < k2.heap.size := Nat.lt_of_lt_of_le lt1 h.size
  clear h ho d1
  go_wp2_with fail
  refine (nput_any _ k2.heap.size (Nu.put ix ++ Nu.put et) kd _ (Byt.of_own HO2.out) (by first | omega | (simp only [List.length_append]; omega)) (Nat.le_refl _) (by omega) (by omega)).mono ?_
  rintro e k3 ⟨v3, rfl, ho, h⟩
  replace d3 := (h.cell (p := ⟨w.heap.size, 3, none⟩) lt2).trans d3
  have HO3 := Lib.hid ho
  have HB3 := Lib.hid (HB2.out.trans (h.mono HB2.out.size))
  have lt3 : w.heap.size < k3.heap.size := Nat.lt_of_lt_of_le lt2 h.size
  clear h ho d2
  go_wp2_with fail
  refine (nputText_any _ k3.heap.size (Nu.put ix ++ Nu.put et ++ Nu.put kd) dt _ (Byt.of_own HO3.out) (by first | omega | (simp only [List.length_append]; omega)) (by omega) (Nat.le_refl _)).mono ?_
  rintro e k4 ⟨v4, rfl, ho, h⟩
  have HO4 := Lib.hid ho
  have HB4 := Lib.hid (HB3.out.trans (h.mono HB3.out.size))
  have lt4 : w.heap.size < k4.heap.size := Nat.lt_of_lt_of_le lt3 h.size
  clear h ho d3
  go_wp2
  go_ret
  refine ⟨v4, rfl, ?_, HB4.out⟩
  have := HO4.out.down HB3.out.size
  simpa only [List.append_assoc] using this
def headB10 (ix st : Int) (cf : ByteArray) (n : Int) : List UInt8 := Nu.put ix ++ (Nu.put st ++ (Nu.putT cf.data.toList ++ Nu.put n))
set_option maxHeartbeats 2000000 in
theorem wputHead (ix st : Int) (cf dt : ByteArray) (w : World) (h0 : 0 ≤ ix) (h1 : ix ≤ 1099511627776) (h2 : 0 ≤ st) (h3 : st ≤ 1099511627776) (hc : cf.size ≤ 1050000) (hs : dt.size ≤ 1050000) : Calls Tryd.prog 77 #[Snp.val ⟨ix, st, cf, dt⟩] w (Made (headB10 ix st cf (dt.size : Int)) w) := by
  unfold Snp.val headB10
  simp only
  have hp1 := Nu.put_len ix
  have hp2 := Nu.put_len st
  have hp3 : (Nu.putT cf.data.toList).length ≤ cf.size + 10 := by
    unfold Nu.putT; have := Nu.put_len (cf.data.toList.length : Int); have : cf.data.toList.length = cf.size := by simp
    rw [List.length_append]; omega
  obtain ⟨W0, hW0⟩ : ∃ W0, w.alloc (.cells #[.int .i64 ix, .int .i64 st, .string cf, .string dt] 33) = W0 := ⟨_, rfl⟩
  have hb : Below w.heap.size w W0 := by rw [← hW0]; exact below_one _ _
  have hlt : w.heap.size < W0.heap.size := by rw [← hW0]; simp
  have d0 : W0.cell? ⟨w.heap.size, 0, none⟩ = some (.int .i64 ix) := by rw [← hW0]; exact new_cell10 rfl
  have d1 : W0.cell? ⟨w.heap.size, 1, none⟩ = some (.int .i64 st) := by rw [← hW0]; exact new_cell10 rfl
  have d2 : W0.cell? ⟨w.heap.size, 2, none⟩ = some (.string cf) := by rw [← hW0]; exact new_cell10 rfl
  have d3 : W0.cell? ⟨w.heap.size, 3, none⟩ = some (.string dt) := by rw [← hW0]; exact new_cell10 rfl
  have HB0 := Lib.hid hb
  clear hb
  go_enter Tryd.func77, Tryd.ntmps77
  go_wp2_with fail
  refine (nput_any _ W0.heap.size [] ix _ (byt_nil _ _) (by simp) (Nat.le_refl _) (by omega) (by omega)).mono ?_
  rintro e k1 ⟨v1, rfl, ho, h⟩
  rw [List.nil_append] at ho
  replace d1 := (h.cell (p := ⟨w.heap.size, 1, none⟩) hlt).trans d1
  replace d2 := (h.cell (p := ⟨w.heap.size, 2, none⟩) hlt).trans d2
  replace d3 := (h.cell (p := ⟨w.heap.size, 3, none⟩) hlt).trans d3
  have HO1 := Lib.hid ho
  have HB1 := Lib.hid (HB0.out.trans (h.mono HB0.out.size))
  have lt1 : w.heap.size < k1.heap.size := Nat.lt_of_lt_of_le hlt h.size
  clear h ho d0 hW0
  go_wp2_with fail
  refine (nput_any _ k1.heap.size (Nu.put ix) st _ (Byt.of_own HO1.out) (by first | omega | (simp only [List.length_append]; omega)) (Nat.le_refl _) (by omega) (by omega)).mono ?_
  rintro e k2 ⟨v2, rfl, ho, h⟩
  replace d2 := (h.cell (p := ⟨w.heap.size, 2, none⟩) lt1).trans d2
  replace d3 := (h.cell (p := ⟨w.heap.size, 3, none⟩) lt1).trans d3
  have HO2 := Lib.hid ho
  have HB2 := Lib.hid (HB1.out.trans (h.mono HB1.out.size))
  have lt2 : w.heap.size < k2.heap.size := Nat.lt_of_lt_of_le lt1 h.size
  clear h ho d1
  go_wp2_with fail
  refine (nputText_any _ k2.heap.size (Nu.put ix ++ Nu.put st) cf _ (Byt.of_own HO2.out) (by first | omega | (simp only [List.length_append]; omega)) (by omega) (Nat.le_refl _)).mono ?_
  rintro e k3 ⟨v3, rfl, ho, h⟩
  replace d3 := (h.cell (p := ⟨w.heap.size, 3, none⟩) lt2).trans d3
  have HO3 := Lib.hid ho
  have HB3 := Lib.hid (HB2.out.trans (h.mono HB2.out.size))
  have lt3 : w.heap.size < k3.heap.size := Nat.lt_of_lt_of_le lt2 h.size
  clear h ho d2
  go_wp2_with fail
  refine (nput_any _ k3.heap.size (Nu.put ix ++ Nu.put st ++ Nu.putT cf.data.toList) (dt.size : Int) _ (Byt.of_own HO3.out) (by first | omega | (simp only [List.length_append]; omega)) (Nat.le_refl _) (by omega) (by omega)).mono ?_
  rintro e k4 ⟨v4, rfl, ho, h⟩
  have HO4 := Lib.hid ho
  have HB4 := Lib.hid (HB3.out.trans (h.mono HB3.out.size))
  have lt4 : w.heap.size < k4.heap.size := Nat.lt_of_lt_of_le lt3 h.size
  clear h ho d3
  go_wp2
  go_ret
  refine ⟨v4, rfl, ?_, HB4.out⟩
  have := HO4.out.down HB3.out.size
  simpa only [List.append_assoc] using this
theorem wenc10_nil (r : Rcd) (w : World) (hs : r.e.data.size ≤ 1050000) (hm : may10 r = false) : Calls Tryd.prog 30 #[r.val] w (Made [] w) := by
  have hmay := fun W => wmay10_any r W hs
  simp only [hm] at hmay
  clear hm
  obtain ⟨hd, ht, hv, ⟨ix, et, kd, dt⟩⟩ := r
  unfold Rcd.val at *
  simp only at *
  obtain ⟨W0, hW0⟩ : ∃ W0, w.alloc (.cells #[.bool hd, .int .i64 ht, .int .i64 hv, .int .i64 ix, .int .i64 et, .int .i64 kd, .string dt] 76) = W0 := ⟨_, rfl⟩
  have hb : Below w.heap.size w W0 := by rw [← hW0]; exact below_one _ _
  have hlt : w.heap.size < W0.heap.size := by rw [← hW0]; simp
  have d0 : W0.cell? ⟨w.heap.size, 0, none⟩ = some (.bool hd) := by rw [← hW0]; exact new_cell10 rfl
  have d1 : W0.cell? ⟨w.heap.size, 1, none⟩ = some (.int .i64 ht) := by rw [← hW0]; exact new_cell10 rfl
  have d2 : W0.cell? ⟨w.heap.size, 2, none⟩ = some (.int .i64 hv) := by rw [← hW0]; exact new_cell10 rfl
  have d3 : W0.cell? ⟨w.heap.size, 3, none⟩ = some (.int .i64 ix) := by rw [← hW0]; exact new_cell10 rfl
  have d4 : W0.cell? ⟨w.heap.size, 4, none⟩ = some (.int .i64 et) := by rw [← hW0]; exact new_cell10 rfl
  have d5 : W0.cell? ⟨w.heap.size, 5, none⟩ = some (.int .i64 kd) := by rw [← hW0]; exact new_cell10 rfl
  have d6 : W0.cell? ⟨w.heap.size, 6, none⟩ = some (.string dt) := by rw [← hW0]; exact new_cell10 rfl
  go_enter Tryd.func30, Tryd.ntmps30
  go_wp2_with fail
  refine (hmay _).mono ?_
  rintro e k1 ⟨rfl, h⟩
  have HB := Lib.hid (hb.trans (h.mono hb.size))
  have lt1 : w.heap.size < k1.heap.size := Nat.lt_of_lt_of_le hlt h.size
  replace d0 := (h.cell (p := ⟨w.heap.size, 0, none⟩) hlt).trans d0
  replace d1 := (h.cell (p := ⟨w.heap.size, 1, none⟩) hlt).trans d1
  replace d2 := (h.cell (p := ⟨w.heap.size, 2, none⟩) hlt).trans d2
  replace d3 := (h.cell (p := ⟨w.heap.size, 3, none⟩) hlt).trans d3
  replace d4 := (h.cell (p := ⟨w.heap.size, 4, none⟩) hlt).trans d4
  replace d5 := (h.cell (p := ⟨w.heap.size, 5, none⟩) hlt).trans d5
  replace d6 := (h.cell (p := ⟨w.heap.size, 6, none⟩) hlt).trans d6
  clear h hb hlt hW0 hmay
  go_wp2
  go_ret
  exact ⟨_, rfl, ownB_nil _ _, HB.out⟩
set_option maxHeartbeats 2000000 in
theorem wenc10_hard (r : Rcd) (w : World) (hs : r.e.data.size ≤ 1050000) (hT : Tbl w) (hm : may10 r = true) (hh : r.hard = true) : Calls Tryd.prog 30 #[r.val] w (Made (sealB 1 (Nu.put r.ht ++ Nu.put r.hv)) w) := by
  have hmay := fun W => wmay10_any r W hs
  have hq := hm
  simp only [hm] at hmay
  clear hm
  obtain ⟨hd, ht, hv, ⟨ix, et, kd, dt⟩⟩ := r
  simp only at hh
  subst hh
  have hr : 0 ≤ ht ∧ ht ≤ 1099511627776 ∧ 0 ≤ hv ∧ hv ≤ 7 := by
    unfold may10 at hq
    simp only [if_true, Bool.and_eq_true] at hq
    exact mayHard10_is hq.1
  obtain ⟨r1, r2, r3, r4⟩ := hr
  have p1 := Nu.put_len ht
  have p2 := Nu.put_len hv
  clear hq
  unfold Rcd.val at *
  simp only at *
  obtain ⟨W0, hW0⟩ : ∃ W0, w.alloc (.cells #[.bool true, .int .i64 ht, .int .i64 hv, .int .i64 ix, .int .i64 et, .int .i64 kd, .string dt] 76) = W0 := ⟨_, rfl⟩
  have hb : Below w.heap.size w W0 := by rw [← hW0]; exact below_one _ _
  have hlt : w.heap.size < W0.heap.size := by rw [← hW0]; simp
  have d0 : W0.cell? ⟨w.heap.size, 0, none⟩ = some (.bool true) := by rw [← hW0]; exact new_cell10 rfl
  have d1 : W0.cell? ⟨w.heap.size, 1, none⟩ = some (.int .i64 ht) := by rw [← hW0]; exact new_cell10 rfl
  have d2 : W0.cell? ⟨w.heap.size, 2, none⟩ = some (.int .i64 hv) := by rw [← hW0]; exact new_cell10 rfl
  have d3 : W0.cell? ⟨w.heap.size, 3, none⟩ = some (.int .i64 ix) := by rw [← hW0]; exact new_cell10 rfl
  have d4 : W0.cell? ⟨w.heap.size, 4, none⟩ = some (.int .i64 et) := by rw [← hW0]; exact new_cell10 rfl
  have d5 : W0.cell? ⟨w.heap.size, 5, none⟩ = some (.int .i64 kd) := by rw [← hW0]; exact new_cell10 rfl
  have d6 : W0.cell? ⟨w.heap.size, 6, none⟩ = some (.string dt) := by rw [← hW0]; exact new_cell10 rfl
  go_enter Tryd.func30, Tryd.ntmps30
  go_wp2_with fail
  refine (hmay _).mono ?_
  rintro e k1 ⟨rfl, h⟩
  have HB := Lib.hid (hb.trans (h.mono hb.size))
  have lt1 : w.heap.size < k1.heap.size := Nat.lt_of_lt_of_le hlt h.size
  replace d0 := (h.cell (p := ⟨w.heap.size, 0, none⟩) hlt).trans d0
  replace d1 := (h.cell (p := ⟨w.heap.size, 1, none⟩) hlt).trans d1
  replace d2 := (h.cell (p := ⟨w.heap.size, 2, none⟩) hlt).trans d2
  replace d3 := (h.cell (p := ⟨w.heap.size, 3, none⟩) hlt).trans d3
  replace d4 := (h.cell (p := ⟨w.heap.size, 4, none⟩) hlt).trans d4
  replace d5 := (h.cell (p := ⟨w.heap.size, 5, none⟩) hlt).trans d5
  replace d6 := (h.cell (p := ⟨w.heap.size, 6, none⟩) hlt).trans d6
  clear h hb hlt hW0 hmay
  go_wp2_with fail
  refine (wputHard ht hv _ r1 r2 r3 r4).mono ?_
  rintro e k2 ⟨v2, rfl, ho, h⟩
  have HO := Lib.hid ho
  have HB2 := Lib.hid (HB.out.trans (h.mono HB.out.size))
  clear h ho d0 d1 d2 d3 d4 d5 d6
  go_wp2_with fail
  refine (fseal_any 1 v2 _ _ _ (Byt.of_own HO.out) (Nat.le_refl _) ?_ ?_).mono ?_
  · rw [List.length_append]; omega
  · exact (hT.below HB2.out)
  rintro e k3 ⟨v3, rfl, ho, h⟩
  have HO3 := Lib.hid ho
  have HB3 := Lib.hid (HB2.out.trans (h.mono HB2.out.size))
  clear h ho
  go_wp2
  go_ret
  exact ⟨v3, rfl, HO3.out.down HB2.out.size, HB3.out⟩
set_option maxHeartbeats 2000000 in
theorem wenc10_entry (r : Rcd) (w : World) (hs : r.e.data.size ≤ 1050000) (hT : Tbl w) (hm : may10 r = true) (hh : r.hard = false) : Calls Tryd.prog 30 #[r.val] w (Made (sealB 2 (bodyE10 r.e)) w) := by
  have hmay := fun W => wmay10_any r W hs
  have hq := hm
  simp only [hm] at hmay
  clear hm
  obtain ⟨hd, ht, hv, ⟨ix, et, kd, dt⟩⟩ := r
  simp only at hh
  subst hh
  have hr : 1 ≤ ix ∧ ix ≤ 1099511627776 ∧ 1 ≤ et ∧ et ≤ 1099511627776 ∧ 1 ≤ kd ∧ kd ≤ 3 ∧ dt.size ≤ 2500 := by
    unfold may10 at hq
    rw [if_neg (by simp)] at hq
    simp only [Bool.and_eq_true] at hq
    exact mayEnt10_is hq.2
  obtain ⟨r1, r2, r3, r4, r5, r6, r7⟩ := hr
  have p1 : (bodyE10 ⟨ix, et, kd, dt⟩).length ≤ 1050000 := by
    unfold bodyE10 Nu.putT
    have := Nu.put_len ix; have := Nu.put_len et; have := Nu.put_len kd; have := Nu.put_len (dt.data.toList.length : Int)
    have : dt.data.toList.length = dt.size := by simp
    simp only [List.length_append]; omega
  clear hq
  unfold Rcd.val at *
  simp only at *
  obtain ⟨W0, hW0⟩ : ∃ W0, w.alloc (.cells #[.bool false, .int .i64 ht, .int .i64 hv, .int .i64 ix, .int .i64 et, .int .i64 kd, .string dt] 76) = W0 := ⟨_, rfl⟩
  have hb : Below w.heap.size w W0 := by rw [← hW0]; exact below_one _ _
  have hlt : w.heap.size < W0.heap.size := by rw [← hW0]; simp
  have d0 : W0.cell? ⟨w.heap.size, 0, none⟩ = some (.bool false) := by rw [← hW0]; exact new_cell10 rfl
  have d1 : W0.cell? ⟨w.heap.size, 1, none⟩ = some (.int .i64 ht) := by rw [← hW0]; exact new_cell10 rfl
  have d2 : W0.cell? ⟨w.heap.size, 2, none⟩ = some (.int .i64 hv) := by rw [← hW0]; exact new_cell10 rfl
  have d3 : W0.cell? ⟨w.heap.size, 3, none⟩ = some (.int .i64 ix) := by rw [← hW0]; exact new_cell10 rfl
  have d4 : W0.cell? ⟨w.heap.size, 4, none⟩ = some (.int .i64 et) := by rw [← hW0]; exact new_cell10 rfl
  have d5 : W0.cell? ⟨w.heap.size, 5, none⟩ = some (.int .i64 kd) := by rw [← hW0]; exact new_cell10 rfl
  have d6 : W0.cell? ⟨w.heap.size, 6, none⟩ = some (.string dt) := by rw [← hW0]; exact new_cell10 rfl
  go_enter Tryd.func30, Tryd.ntmps30
  go_wp2_with fail
  refine (hmay _).mono ?_
  rintro e k1 ⟨rfl, h⟩
  have HB := Lib.hid (hb.trans (h.mono hb.size))
  have lt1 : w.heap.size < k1.heap.size := Nat.lt_of_lt_of_le hlt h.size
  replace d0 := (h.cell (p := ⟨w.heap.size, 0, none⟩) hlt).trans d0
  replace d1 := (h.cell (p := ⟨w.heap.size, 1, none⟩) hlt).trans d1
  replace d2 := (h.cell (p := ⟨w.heap.size, 2, none⟩) hlt).trans d2
  replace d3 := (h.cell (p := ⟨w.heap.size, 3, none⟩) hlt).trans d3
  replace d4 := (h.cell (p := ⟨w.heap.size, 4, none⟩) hlt).trans d4
  replace d5 := (h.cell (p := ⟨w.heap.size, 5, none⟩) hlt).trans d5
  replace d6 := (h.cell (p := ⟨w.heap.size, 6, none⟩) hlt).trans d6
  clear h hb hlt hW0 hmay
  go_wp2_with fail
  refine (wputEntry ix et kd dt _ r1 r2 r3 r4 r5 r6 (by omega)).mono ?_
  rintro e k2 ⟨v2, rfl, ho, h⟩
  have HO := Lib.hid ho
  have HB2 := Lib.hid (HB.out.trans (h.mono HB.out.size))
  clear h ho d0 d1 d2 d3 d4 d5 d6
  go_wp2_with fail
  refine (fseal_any 2 v2 _ _ _ (Byt.of_own HO.out) (Nat.le_refl _) ?_ ?_).mono ?_
  · exact p1
  · exact (hT.below HB2.out)
  rintro e k3 ⟨v3, rfl, ho, h⟩
  have HO3 := Lib.hid ho
  have HB3 := Lib.hid (HB2.out.trans (h.mono HB2.out.size))
  clear h ho
  go_wp2
  go_ret
  exact ⟨v3, rfl, HO3.out.down HB2.out.size, HB3.out⟩
theorem wenc10_any (r : Rcd) (w : World) (hs : r.e.data.size ≤ 1050000) (hT : Tbl w) : Calls Tryd.prog 30 #[r.val] w (Made (encR10 r) w) := by
  unfold encR10
  rcases hm : may10 r with _ | _
  · rw [if_pos rfl]; exact wenc10_nil r w hs hm
  · rw [if_neg (by simp)]
    rcases hh : r.hard with _ | _
    · rw [if_neg (by simp)]; exact wenc10_entry r w hs hT hm hh
    · rw [if_pos rfl]; exact wenc10_hard r w hs hT hm hh
end Go.Proofs.YtbiecoifeeikpaaDoor
/-
  The reference's numbers: so many at the beginning of bytes.
  The bytes are there in memory, at most 1,000,000; no more than 1,000 numbers are asked for.
-/
set_option linter.unusedSimpArgs false
set_option linter.unusedVariables false
namespace Go.Proofs.YtbiecoifeeikpaaDoor
open Go.RowKit
set_option maxRecDepth 100000

/-- so many numbers, what is left; none: there are not -/
def numsL : Nat → List UInt8 → Option (List Int × List UInt8)
  | 0, l => some ([], l)
  | n + 1, l => if (Nu.get l).2.2 = 0 then (numsL n (l.drop (Nu.get l).2.1)).map fun r => ((Nu.get l).1 :: r.1, r.2) else none
/-- a row of numbers of one's own -/
def OwnI (B : Nat) (v : Value) (l : List Int) (w : World) : Prop := w.ownsRow B 2 1 v l.length (l.map fun x => .int .i64 x)
theorem Tryd.infoI64 : (Tryd.prog.info? 2).map (fun i => (i.zero, i.size, i.bytes)) = some (some (.int .i64 0), 1, 8) := by kernel_rfl
/-- what came of it -/
def GotNums (B : Nat) (r : Option (List Int × List UInt8)) (w : World) (e : Ending) (w' : World) : Prop := Below w.heap.size w w' ∧ match r with
  | none => e = .returned (.tuple #[.slice none 0 0, .slice none 0 0, .bool false])
  | some (xs, rest) => ∃ v A c, e = .returned (.tuple #[v, .slice A rest.length c, .bool true]) ∧ OwnI w.heap.size v xs w' ∧ Byt w' B (.slice A rest.length c) rest
theorem own_i64 (w : World) (B : Nat) : OwnI B (.slice none 0 0) [] w := World.ownsRow_nil _ _ _ _
theorem numsL_succ (m : Nat) (l : List UInt8) : numsL (m + 1) l = if (Nu.get l).2.2 = 0 then (numsL m (l.drop (Nu.get l).2.1)).map fun r => ((Nu.get l).1 :: r.1, r.2) else none := rfl
theorem numsL_more {m : Nat} {l : List UInt8} {x : Int} {k : Nat} (h : Nu.get l = (x, k, 0)) : numsL (m + 1) l = (numsL m (l.drop k)).map fun r => (x :: r.1, r.2) := by
  rw [numsL_succ, h]; exact if_pos rfl
theorem numsL_no {m : Nat} {l : List UInt8} {x : Int} {k e : Nat} (h : Nu.get l = (x, k, e)) (he : e ≠ 0) : numsL (m + 1) l = none := by
  rw [numsL_succ, h]; exact if_neg he
theorem add_lit10 (g o j : Nat) : (some (⟨g, o, Option.none⟩ : Addr)).map (·.add j) = some ⟨g, o + j, Option.none⟩ := by
  show some (Addr.add ⟨g, o, Option.none⟩ j) = _
  unfold Addr.add; split
  · subst_vars; rfl
  · rfl
theorem byt_cap10 {w : World} {B n c : Nat} {A : Option Addr} {l : List UInt8} (h : Byt w B (.slice A n c) l) : n ≤ c := by
  obtain ⟨A2, c2, hv, hc, _⟩ := h
  injection hv with _ e2 e3; omega
end Go.Proofs.YtbiecoifeeikpaaDoor
/-
  Package wal's PutSnap makes what the plain function says, in new memory.
  Texts have at most 1,000,000 bytes; package crc's table lies as it was laid.
-/
set_option linter.unusedSimpArgs false
set_option linter.unusedVariables false
namespace Go.Proofs.YtbiecoifeeikpaaDoor
open Go.RowKit Go.Shelf
attribute [local go_sem] Oper.semAt_some
set_option maxRecDepth 100000

def piecesOf (l : List UInt8) (pre : List Nat) : List UInt8 := pre.flatMap fun i => sealB 4 ((l.drop (3000 * i)).take 3000)
theorem piecesOf_snoc (l : List UInt8) (pre : List Nat) (x : Nat) : piecesOf l (pre ++ [x]) = piecesOf l pre ++ sealB 4 ((l.drop (3000 * x)).take 3000) := by unfold piecesOf; rw [List.flatMap_append]; simp
theorem piecesOf_len (l : List UInt8) (pre : List Nat) : (piecesOf l pre).length ≤ pre.length * 3015 := by
  induction pre with
  | nil => exact Nat.le_refl _
  | cons x t ih =>
    have h : piecesOf l (x :: t) = sealB 4 ((l.drop (3000 * x)).take 3000) ++ piecesOf l t := rfl
    rw [h, List.length_append, List.length_cons]
    have := seal_len 4 ((l.drop (3000 * x)).take 3000)
    have h2 : ((l.drop (3000 * x)).take 3000).length ≤ 3000 := by rw [List.length_take]; omega
    omega
/-- between two rounds -/
def SnapI (n₀ b m c : Nat) (w0 : World) (hd l : List UInt8) (N : Nat) (pre : List Nat) (W : World) : Prop :=
  (∃ v, Boxed W b 46 v ∧ W.ownsRow n₀ 5 1 v (hd ++ piecesOf l pre).length (Lib.byteCells (hd ++ piecesOf l pre)) ∧ v.ownBlock ≠ some (b + 1)) ∧ Boxed W (b + 1 + 1) 46 (.slice (some ⟨b + 1, 0, none⟩) m c) ∧ Boxed W (b + 1 + 1 + 1) 3 (.int .i64 3000) ∧
  (∀ k (h : k < l.length), W.cell? ⟨b + 1, 0 + k, none⟩ = some (.int .u8 (l[k].toNat : Int))) ∧ N ≤ W.heap.size ∧ Below n₀ w0 W
theorem bytesAt_own {g : Nat} {l : List UInt8} : Own (fun (_ : List Nat) W => ∀ k (h : k < l.length), W.cell? ⟨g, 0 + k, none⟩ = some (.int .u8 (l[k].toNat : Int))) := fun s A B row hs hg hr k hk => cell_kept (hs k hk) hg hr
theorem snapI_own {n₀ b m c N B : Nat} {w0 : World} {hd l : List UInt8} (h : n₀ ≤ B ∧ n₀ ≤ w0.heap.size) : OwnFrom B (SnapI n₀ b m c w0 hd l N) :=
  OwnFrom.and (Own.from (holdsRow_own n₀ b 46 5 1 (fun pre => (hd ++ piecesOf l pre).length) (fun pre => Lib.byteCells (hd ++ piecesOf l pre)) (fun _ v => v.ownBlock ≠ some (b + 1))) _)
    (OwnFrom.and (Own.from (boxed_own _ _ (fun _ => .slice (some ⟨b + 1, 0, none⟩) m c)) _) (OwnFrom.and (Own.from (boxed_own _ _ (fun _ => .int .i64 3000)) _) (OwnFrom.and (Own.from bytesAt_own _) (OwnFrom.and (fun s A B row hs hg hr => Nat.le_trans hs hg.size) (ownFrom_below h.2 h.1)))))
/-- what stands in a slice is put behind a row of one's own, within a fence -/
theorem wpIn_append_byt10 {F : Fence} {n : Nat} {w : World} {o : Oper} {a : Act} {K : Act → World → Prop} {Q : Exit → Act → World → Prop} (s x : Operand)
    (ho : o.op = .call { callee := .builtin .append, args := #[s, x], argTypes := #[46, 46] })
    (B C : Nat) (v u : Value) (l m : List UInt8) (hs : a.eval s = v) (hown : OwnB B v l w) (hx : a.eval x = u) (hu : OwnB C u m w) (hm : 0 < m.length) (hlm : l.length + m.length ≤ 140737488355328) (hB : B ≤ w.heap.size)
    (h : ∀ v' w', OwnB B v' (l ++ m) w' → Grew v w v' w' → K (a.put o.dst v') w') : o.wpIn F n Tryd.prog a w K Q := by
  obtain ⟨iR, hiR, hzR0, hzR1, hzR2⟩ := info_parts Tryd.infoU8
  obtain ⟨A, c, rfl, hc, hcell⟩ := Byt.of_own hu
  obtain ⟨g, oo, rfl, _, hcs⟩ := hcell hm
  unfold OwnB at hown
  obtain ⟨v', w', hr, h2, h3, _, h5⟩ := run_append_own_at (P := Tryd.prog) w B 46 o.type 5 iR (.int .u8 0) 1 1 Tryd.underlying46 hiR hzR0 hzR1 hzR2 rfl (by decide) v l.length _ hown ⟨g, oo, none⟩ m.length c (Lib.byteCells m) (by rw [bytes_len]; omega)
    (by
      intro j z hj
      have hjm : j < m.length := by
        have := (List.getElem?_eq_some_iff.1 hj).1; rwa [bytes_len] at this
      have e1 : (⟨g, oo, Option.none⟩ : Addr).add j = ⟨g, oo + j, Option.none⟩ := by unfold Addr.add; split <;> simp_all
      rw [e1, hcs j hjm]
      unfold Lib.byteCells at hj; rw [List.getElem?_map, List.getElem?_eq_getElem hjm] at hj; simpa using hj) (byteCells_one m) (by unfold maxLen; omega) (by omega) hB
  unfold Oper.wpIn
  refine ⟨?_, ?_⟩
  · simp [Oper.about, ho, resolve, Target.leads, Sem.run_pure]
  · rw [Oper.semAt_plain F _ _ (by rw [ho]; intro c hc'; cases hc')]
    simp [execOp, ho, resolve, invoke, builtin, hs, hx, hr, Result.andThen]
    refine h v' w' ?_ ⟨h3, h5⟩
    unfold OwnB; rw [Lib.byteCells_append, List.length_append]; exact h2
/-- what a round leaves -/
theorem snap_round {n₀ b m c N x : Nat} {w0 W k6 w1 : World} {hd l : List UInt8} {pre : List Nat} {v v' : Value} (hn : n₀ ≤ b) (hbN : b + 4 ≤ N) (hI : SnapI n₀ b m c w0 hd l N pre W) (hv : Boxed W b 46 v)
    (h6 : Below W.heap.size W.drew k6) (hown1 : OwnB n₀ v' ((hd ++ piecesOf l pre) ++ sealB 4 ((l.drop (3000 * x)).take 3000)) w1) (hg : Grew v k6 v' w1) :
    Boxed w1 b 46 v ∧ (∀ B, KeepsFrom B W (w1.setCell ⟨b, 0, none⟩ v') ∧ KpC (b + 1 + 1) (b + 1 + 1 + 1) W (w1.setCell ⟨b, 0, none⟩ v') ∧ SnapI n₀ b m c w0 hd l N (pre ++ [x]) (w1.setCell ⟨b, 0, none⟩ v')) := by
  obtain ⟨⟨v0, hv0, hrow, hne⟩, hS, hNn, hby, hsz, hbl⟩ := hI
  obtain rfl : v0 = v := by
    have e := (show W.heap[b]? = _ from hv0).symm.trans hv
    simp at e; exact e
  have h6' : Below W.heap.size W k6 := ((Below.refl W.heap.size W).drew).trans h6
  have row6 := ownsRow_below hrow h6'
  have bx6 : Boxed k6 b 46 v0 := (h6'.block b hv.lt).trans hv
  have hS6 : Boxed k6 (b + 1 + 1) 46 (.slice (some ⟨b + 1, 0, none⟩) m c) := (h6'.block _ hS.lt).trans hS
  have hN6 : Boxed k6 (b + 1 + 1 + 1) 3 (.int .i64 3000) := (h6'.block _ hNn.lt).trans hNn
  have t1 : (46 : TypeId) ≠ 5 := by decide
  have t2 : (3 : TypeId) ≠ 5 := by decide
  have bx1 : Boxed w1 b 46 v0 := bx6.kept hg.1 (bx6.not_row t1 row6)
  have hS1 := hS6.kept hg.1 (hS6.not_row t1 row6)
  have hN1 := hN6.kept hg.1 (hN6.not_row t2 row6)
  unfold OwnB at hown1
  have hb6 : b + 4 ≤ k6.heap.size := Nat.le_trans (Nat.le_trans hbN hsz) h6'.size
  refine ⟨bx1, fun B => ⟨?_, ?_, ?_⟩⟩
  · refine KeepsFrom.trans (Y := k6) ⟨h6'.size, fun k o _ hk _ => (h6'.block k (Array.getElem?_eq_some_iff.1 hk).1).trans hk⟩ (KeepsFrom.trans (Y := w1) ((KeepsOthers.of_grownBy hg.1 fun j o ej hj => ?_).from B) ((KeepsOthers.setCell _ _ _).from B))
    rcases row6.2 with ⟨rfl, _⟩ | ⟨g, cap, cur, rfl, _, hgb, _⟩
    · simp [Value.ownBlock] at ej
    · obtain rfl : g = j := by simpa [Value.ownBlock] using ej
      rw [hgb] at hj; cases hj; rfl
  · refine ⟨Nat.le_trans h6'.size (Nat.le_trans hg.1.size (by simp [World.setCell])), ?_, ?_⟩
    · have e1 := hS1.other (B' := b) (by omega) v'
      exact (show (w1.setCell ⟨b, 0, none⟩ v').heap[b + 1 + 1]? = _ from e1).trans (show W.heap[b + 1 + 1]? = _ from hS).symm
    · have e1 := hN1.other (B' := b) (by omega) v'
      exact (show (w1.setCell ⟨b, 0, none⟩ v').heap[b + 1 + 1 + 1]? = _ from e1).trans (show W.heap[b + 1 + 1 + 1]? = _ from hNn).symm
  · have hnb : v'.ownBlock ≠ some (b + 1) := by
      rcases hg.2 with e | e
      · rw [e]; exact hne
      · rw [e]; intro e2; injection e2 with e2; omega
    refine ⟨⟨v', bx1.set v', ?_, hnb⟩, hS1.other (by omega) v', hN1.other (by omega) v', fun k hk => ?_, ?_, ?_⟩
    · rw [piecesOf_snoc, ← List.append_assoc]
      exact hown1.kept (grownBy_setCell' w1 b v') (.inr (bx1.not_row t1 hown1).symm)
    · have c1 := (h6'.cell (p := ⟨b + 1, 0 + k, none⟩) (by have := hS.lt; simp; omega)).trans (hby k hk)
      have c2 := hg.1.cell c1 (fun e => hne e.symm)
      exact (World.cell?_setCell_other _ _ _ _ (fun e => by injection e with e1 _; omega)).trans c2
    · exact Nat.le_trans hsz (Nat.le_trans h6'.size (Nat.le_trans hg.1.size (by simp [World.setCell])))
    · have hle : n₀ ≤ W.heap.size := by omega
      refine ((hbl.trans (h6'.mono hle)).trans ((Below.refl n₀ k6).grown hg.1 (Nat.le_trans hle h6'.size) fun j ej => ?_)).setCell (p := ⟨b, 0, none⟩) hn v'
      exact (World.ownsRow.lt row6 j ej).1
/-- a piece, as it lies in memory -/
theorem chunk_byt {W : World} {g m x : Nat} {l : List UInt8} (hl : l.length = m) (h : ∀ k (h : k < l.length), W.cell? ⟨g, 0 + k, none⟩ = some (.int .u8 (l[k].toNat : Int))) : Byt W (g + 1) (chunkV g 0 m x) ((l.drop (3000 * x)).take 3000) := by
  have e : ((l.drop (3000 * x)).take 3000).length = min 3000 (m - 3000 * x) := by rw [List.length_take, List.length_drop, hl]
  refine ⟨some ⟨g, 0 + 3000 * x, none⟩, min 3000 (m - 3000 * x), by rw [e]; rfl, by rw [e]; exact Nat.le_refl _, fun h0 => ⟨g, 0 + 3000 * x, rfl, by omega, fun k hk => ?_⟩⟩
  rw [e] at hk
  have := h (3000 * x + k) (by omega)
  rw [Nat.zero_add] at this
  rw [Nat.zero_add, this]
  simp
set_option maxHeartbeats 4000000 in
theorem wsnap10_yes (s : Snp) (w : World) (hT : Tbl w) (hm : maySnp10 s = true) : Calls Tryd.prog 57 #[s.val] w (Made (headS10 s ++ pieces10 s.data.data.toList ((s.data.size + 2999) / 3000)) w) := by
  obtain ⟨ix, st, cf, dt⟩ := s
  obtain ⟨a1, a2, a3, a4, a5, a6⟩ := maySnp10_is hm
  simp only at a1 a2 a3 a4 a5 a6
  have hmh : mayHead10 ⟨ix, st, cf, dt⟩ (dt.size : Int) = true := by
    unfold mayHead10; simp only [Bool.and_eq_true, decide_eq_true_eq]; omega
  have hmay := fun W => wmayHead ⟨ix, st, cf, dt⟩ (dt.size : Int) W (by show cf.size ≤ _; omega)
  rw [hmh] at hmay
  clear hm hmh
  unfold Snp.val at *
  simp only at *
  obtain ⟨W0, hW0⟩ : ∃ W0, w.alloc (.cells #[.int .i64 ix, .int .i64 st, .string cf, .string dt] 33) = W0 := ⟨_, rfl⟩
  have hb : Below w.heap.size w W0 := by rw [← hW0]; exact below_one _ _
  have hlt : w.heap.size < W0.heap.size := by rw [← hW0]; simp
  have d0 : W0.cell? ⟨w.heap.size, 0, none⟩ = some (.int .i64 ix) := by rw [← hW0]; exact new_cell10 rfl
  have d1 : W0.cell? ⟨w.heap.size, 1, none⟩ = some (.int .i64 st) := by rw [← hW0]; exact new_cell10 rfl
  have d2 : W0.cell? ⟨w.heap.size, 2, none⟩ = some (.string cf) := by rw [← hW0]; exact new_cell10 rfl
  have d3 : W0.cell? ⟨w.heap.size, 3, none⟩ = some (.string dt) := by rw [← hW0]; exact new_cell10 rfl
  refine (callsIn_wide (n := 4)).1 ?_
  refine callsIn_of_wp_marks Tryd.func57 rfl trivial ?_ rfl
  simp only [Tryd.ntmps57, List.size_toArray, List.length_cons, List.length_nil, Nat.reduceAdd, Nat.reduceSub, Array.replicate_succ, Array.replicate_zero, List.push_toArray, List.append_toArray, List.nil_append, List.cons_append]
  have HB0 := Lib.hid hb
  have HT := Lib.hid hT
  clear hb hT
  gi_wp2_with fail
  refine ⟨trivial, (callsIn_wide.2 (hmay _)).mono ?_⟩
  rintro e k1 ⟨rfl, h⟩
  replace d0 := (h.cell (p := ⟨w.heap.size, 0, none⟩) hlt).trans d0
  replace d1 := (h.cell (p := ⟨w.heap.size, 1, none⟩) hlt).trans d1
  replace d2 := (h.cell (p := ⟨w.heap.size, 2, none⟩) hlt).trans d2
  replace d3 := (h.cell (p := ⟨w.heap.size, 3, none⟩) hlt).trans d3
  have lt1 : w.heap.size < k1.heap.size := Nat.lt_of_lt_of_le hlt h.size
  have HB1 := Lib.hid (HB0.out.trans (h.mono HB0.out.size))
  clear h hW0 hmay HB0
  gi_wp2_with fail
  refine ⟨trivial, (callsIn_wide.2 (wputHead ix st cf dt _ a1 a2 a3 a4 (by omega) (by omega))).mono ?_⟩
  rintro e k2 ⟨v2, rfl, ho, h⟩
  replace d3 := (h.cell (p := ⟨w.heap.size, 3, none⟩) lt1).trans d3
  have lt2 : w.heap.size < k2.heap.size := Nat.lt_of_lt_of_le lt1 h.size
  have HB2 := Lib.hid (HB1.out.trans (h.mono HB1.out.size))
  have HO2 := Lib.hid ho
  have hhl : (headB10 ix st cf (dt.size : Int)).length ≤ 4000 := by
    unfold headB10 Nu.putT
    have := Nu.put_len ix; have := Nu.put_len st; have := Nu.put_len (dt.size : Int); have := Nu.put_len (cf.data.toList.length : Int)
    have : cf.data.toList.length = cf.size := by simp
    simp only [List.length_append]; omega
  obtain ⟨hb, hhb⟩ : ∃ hb, headB10 ix st cf (dt.size : Int) = hb := ⟨_, rfl⟩
  rw [hhb] at HO2 hhl
  have hsl := fseal_any 3 v2 k2.heap.size hb k2 (Byt.of_own HO2.out) (Nat.le_refl _) (by omega) (HT.out.below HB2.out)
  have hhd : sealB 3 hb = headS10 ⟨ix, st, cf, dt⟩ := by rw [← hhb]; rfl
  rw [hhd] at hsl
  clear h ho d0 d1 d2
  gi_wp2_with fail
  refine ⟨trivial, (callsIn_wide.2 hsl).mono ?_⟩
  rintro e k3 ⟨v3, rfl, ho, h⟩
  replace d3 := (h.cell (p := ⟨w.heap.size, 3, none⟩) lt2).trans d3
  have lt3 : w.heap.size < k3.heap.size := Nat.lt_of_lt_of_le lt2 h.size
  have HB3 := Lib.hid (HB2.out.trans (h.mono HB2.out.size))
  have HO3 := Lib.hid (ho.down HB2.out.size)
  obtain ⟨A3, c3, hv3⟩ := own_slice ho
  subst hv3
  obtain ⟨hd, hhd2⟩ : ∃ hd, headS10 ⟨ix, st, cf, dt⟩ = hd := ⟨_, rfl⟩
  have hdl : hd.length ≤ 4007 := by rw [← hhd2, ← hhd]; exact sealB_short _ _
  rw [hhd2] at HO3 ⊢
  obtain ⟨hn, hhn⟩ : ∃ hn, hd.length = hn := ⟨_, rfl⟩
  rw [hhn] at HO3 ⊢
  obtain ⟨c9, W9, hr9, hby9, hb9, hz9⟩ := conv_text10 (k3.alloc (.cells #[.slice A3 hn c3] 46)) dt
  have hz8 : (k3.alloc (.cells #[.slice A3 hn c3] 46)).heap.size = k3.heap.size + 1 := by simp
  rw [hz8] at hr9 hby9 hb9 hz9
  have bx : Boxed (k3.alloc (.cells #[.slice A3 hn c3] 46)) k3.heap.size 46 (.slice A3 hn c3) := Boxed.new _ _ _
  have bx9 : Boxed W9 k3.heap.size 46 (.slice A3 hn c3) := (hb9.block _ (by omega)).trans bx
  have ho9 : OwnB w.heap.size (.slice A3 hn c3) hd W9 := OwnB.below (w := k3.alloc (.cells #[.slice A3 hn c3] 46)) (HO3.out.below (below_new k3 _)) (by rw [hz8]; exact hb9)
  have hbw9 : Below w.heap.size w W9 := (HB3.out.alloc HB3.out.size (.cells #[.slice A3 hn c3] 46)).trans (hb9.mono (by have := HB3.out.size; omega))
  have HHD := Lib.hid hhd2
  have HHN := Lib.hid hhn
  have HBX := Lib.hid bx9
  have HO9 := Lib.hid ho9
  have HO8 := Lib.hid HO3.out
  have HBW9 := Lib.hid hbw9
  have HBY9 := Lib.hid hby9
  have HB9 := Lib.hid hb9
  clear h ho hsl hhd HO2 hhb hhd2 hhn bx bx9 ho9 hbw9 hby9 HO3 HB2 HB1 hb9 hz8
  gi_wp2_with fail
  refine ⟨trivial, (chunk_in Fence.wide 3 trivial rfl _ _ _ _).mono ?_⟩
  rintro e k5 ⟨rfl, rfl⟩
  gi_wp2_with fail
  obtain ⟨W5, hW5⟩ : ∃ W5, ((W9.alloc (.cells #[.slice (some ⟨k3.heap.size + 1, 0, none⟩) dt.size c9] 46)).alloc (.cells #[.int .i64 3000] 3)) = W5 := ⟨_, rfl⟩
  have hz5 : W5.heap.size = k3.heap.size + 4 := by rw [← hW5]; simp; omega
  have bS : Boxed W5 (k3.heap.size + 1 + 1) 46 (.slice (some ⟨k3.heap.size + 1, 0, none⟩) dt.size c9) := by
    rw [← hW5]; have := Boxed.new W9 46 (.slice (some ⟨k3.heap.size + 1, 0, none⟩) dt.size c9); rw [hz9] at this; exact this.alloc _
  have bN : Boxed W5 (k3.heap.size + 1 + 1 + 1) 3 (.int .i64 3000) := by
    rw [← hW5]; have := Boxed.new (W9.alloc (.cells #[.slice (some ⟨k3.heap.size + 1, 0, none⟩) dt.size c9] 46)) 3 (.int .i64 3000); rw [World.size_alloc, hz9] at this; exact this
  have hb95 : Below W9.heap.size W9 W5 := by rw [← hW5]; exact (below_new W9 _).alloc (by simp) _
  have bO : Boxed W5 k3.heap.size 46 (.slice A3 hn c3) := (hb95.block _ (by omega)).trans HBX.out
  have hbw5 : Below w.heap.size w W5 := HBW9.out.trans (hb95.mono HBW9.out.size)
  have ho5 : OwnB w.heap.size (.slice A3 hn c3) hd W5 := HO9.out.below hb95
  have hby5 := HBY9.out.below hb95 (Nat.le_refl _)
  have hbo1 : (Value.slice A3 hn c3).ownBlock ≠ some (k3.heap.size + 1) := fun e => by have := (HO8.out.lt _ e).2; omega
  have hby5c : ∀ k (h : k < dt.data.toList.length), W5.cell? ⟨k3.heap.size + 1, 0 + k, none⟩ = some (.int .u8 (dt.data.toList[k].toNat : Int)) := fun k hk => by
    obtain ⟨A', c', hv', _, hx⟩ := id hby5
    injection hv' with e1 _ _
    subst e1
    obtain ⟨g', o', e2, _, hcs⟩ := hx (by omega)
    injection e2 with e3
    injection e3 with e4 e5
    subst e4; subst e5
    exact hcs k hk
  rw [hW5]
  have hst := chunk_stops Fence.wide 3 trivial rfl (by omega) (k3.heap.size + 1 + 1) (k3.heap.size + 1 + 1 + 1) (k3.heap.size + 1) 0 dt.size c9 (by omega) (byt_cap10 HBY9.out) W5 (by omega) (by omega) bS.cell bN.cell
  refine wpIn_rangeFunc_ownG rfl (by omega) (gf := 91) (lb := #[.pointer (some ⟨k3.heap.size + 1 + 1, 0, none⟩), .pointer (some ⟨k3.heap.size + 1 + 1 + 1, 0, none⟩)]) rfl trivial (enters_of Tryd.func91 (by kernel_rfl) rfl)
    hst (fun h k => h.trans k) (kpC_b (by omega) (by omega)) (Below.refl _ _) (fun _ => rfl)
    (SnapI w.heap.size k3.heap.size dt.size c9 w hd dt.data.toList W5.heap.size)
    (fun _ _ _ => False)
    (snapI_own ⟨hbw5.size, Nat.le_refl _⟩)
    (fun _ _ _ _ _ hs _ _ => hs)
    ⟨⟨_, bO, by rw [show hd ++ piecesOf dt.data.toList [] = hd from List.append_nil hd]; exact ho5, hbo1⟩, bS, bN, hby5c, Nat.le_refl _, hbw5⟩
    (fun x => { tmps := #[.agg #[.int .i64 ix, .int .i64 st, .string cf, .string dt], .pointer (some ⟨w.heap.size, 0, none⟩), .slice none 0 0, .pointer (some ⟨k3.heap.size, 0, none⟩), chunkV (k3.heap.size + 1) 0 dt.size x, .agg #[.int .i64 ix, .int .i64 st, .string cf, .string dt], .pointer (some ⟨w.heap.size, 3, none⟩), .string dt, .int .i64 dt.size, .bool true, .bool false, .agg #[.int .i64 ix, .int .i64 st, .string cf, .string dt], v2, .slice A3 hn c3, .pointer (some ⟨w.heap.size, 3, none⟩), .string dt, .slice (some ⟨k3.heap.size + 1, 0, none⟩) dt.size c9, .func (.func 91) #[] #[.pointer (some ⟨k3.heap.size + 1 + 1, 0, none⟩), .pointer (some ⟨k3.heap.size + 1 + 1 + 1, 0, none⟩)], chunkV (k3.heap.size + 1) 0 dt.size x, undef, undef, undef, undef, undef], defers := [] }) ?assign ?body ?done ?stop
  case assign =>
    intro l x W K hK
    gi_wp2
    exact hK
  case body =>
    rintro l pre x W hI hlt
    obtain ⟨⟨v, hv, hrow, hne⟩, hS, hNn, hbys, hszW, hblW⟩ := id hI
    have hwW := hblW.size
    have hbyp := chunk_byt (x := x) (size_list10 dt) hbys
    have hpl := piecesOf_len dt.data.toList pre
    have hTW := HT.out.below hblW
    obtain ⟨pc, hpc⟩ : ∃ pc, (dt.data.toList.drop (3000 * x)).take 3000 = pc := ⟨_, rfl⟩
    have hpcl : pc.length ≤ 3000 := by rw [← hpc, List.length_take]; omega
    rw [hpc] at hbyp
    have hseal := fseal_any 4 (chunkV (k3.heap.size + 1) 0 dt.size x) (k3.heap.size + 1 + 1) pc W.drew hbyp (by show _ ≤ W.heap.size; omega) (by omega) hTW
    have hsl0 : 0 < (sealB 4 pc).length := by rw [sealB_len 4 pc (by decide) (by decide) (by omega)]; omega
    have hslc := sealB_short 4 pc
    have hc := hv.cell
    have HPL := Lib.hid (show (hd ++ piecesOf dt.data.toList pre).length + 5000 ≤ 1050000 by rw [List.length_append]; omega)
    have HI := Lib.hid hI
    have HPC := Lib.hid hpc
    clear hpc
    obtain ⟨Av, cv, hvv⟩ := own_slice hrow
    obtain ⟨mv, hmv⟩ : ∃ mv, (hd ++ piecesOf dt.data.toList pre).length = mv := ⟨_, rfl⟩
    rw [hmv] at hvv
    subst hvv
    clear hI hS hNn hbys hpl hbyp
    gi_wp2
    refine wpIn_region_any (by kernel_rfl) ?_
    refine wpAnyIn_ready (rs := [0, 1]) (by kernel_rfl) (by simp) ?_
    refine AllReadyIn.cons rfl (fun K hK => ?_) (AllReadyIn.cons rfl (fun K hK => ?_) AllReadyIn.nil)
    · go_simp
      refine hK _ _ ?_
      clear hK K
      refine wpAnyIn_ready (rs := [1]) (by kernel_rfl) (by simp) ?_
      refine AllReadyIn.cons rfl (fun K hK => ?_) AllReadyIn.nil
      go_simp
      refine hK _ _ ?_
      clear hK K
      refine wpAnyIn_ready (rs := [2]) (by kernel_rfl) (by simp) ?_
      refine AllReadyIn.cons rfl (fun K hK => ?_) AllReadyIn.nil
      go_simp
      refine ⟨trivial, (CallsIn.inRound l (callsIn_wide.2 hseal)).mono ?_⟩
      rintro e k6 ⟨v6, rfl, ho6, h6⟩
      have h6' : Below W.heap.size W k6 := ((Below.refl W.heap.size W).drew).trans h6
      have hc6 : k6.cell? ⟨k3.heap.size, 0, none⟩ = some (.slice Av mv cv) := (h6'.cell (p := ⟨k3.heap.size, 0, none⟩) hv.lt).trans hc
      have how6 := ownsRow_below hrow h6'
      have hle6 := Nat.le_trans hwW h6'.size
      obtain ⟨A6, c6, hv6⟩ := own_slice ho6
      subst hv6
      obtain ⟨m6, hm6⟩ : ∃ m6, (sealB 4 pc).length = m6 := ⟨_, rfl⟩
      have HM6 := Lib.hid hm6
      rw [hm6] at ho6
      simp only [hm6]
      clear hm6
      try dsimp only
      refine hK _ _ ?_
      clear hK K
      refine wpAnyIn_ready (rs := [3]) (by kernel_rfl) (by simp) ?_
      refine AllReadyIn.cons rfl (fun K hK => ?_) AllReadyIn.nil
      rw [if_pos (by rfl)]
      refine wpIn_append_byt10 _ _ rfl w.heap.size W.heap.size _ (.slice A6 m6 c6) _ _ rfl how6 rfl ho6 hsl0 (by have := HPL.out; omega) hle6 ?_
      intro v' w1 hown1 hg1
      have hown2 := hown1
      rw [← HPC.out] at hown2
      obtain ⟨A7, c7, hv7⟩ := own_slice hown1
      obtain ⟨m7, hm7⟩ : ∃ m7, ((hd ++ piecesOf dt.data.toList pre) ++ sealB 4 pc).length = m7 := ⟨_, rfl⟩
      rw [hm7] at hv7
      subst hv7
      clear hm7
      obtain ⟨bx1, hfin⟩ := snap_round (by omega) (by omega) HI.out hv h6 hown2 hg1
      have hc1 := bx1.cell
      have hf1 := bx1.frozen
      refine hK _ _ ?_
      clear hK K
      refine wpAnyIn_ready (rs := [4]) (by kernel_rfl) (by simp) ?_
      refine AllReadyIn.cons rfl (fun K hK => ?_) AllReadyIn.nil
      go_simp
      refine hK _ _ ?_
      clear hK K
      refine wpAnyIn_done (by kernel_rfl) ?_ _
      gi_wp2
      exact hfin _
    · go_simp
      refine hK _ _ ?_
      clear hK K
      refine wpAnyIn_ready (rs := [0, 2]) (by kernel_rfl) (by simp) ?_
      refine AllReadyIn.cons rfl (fun K hK => ?_) (AllReadyIn.cons rfl (fun K hK => ?_) AllReadyIn.nil)
      · go_simp
        refine hK _ _ ?_
        clear hK K
        refine wpAnyIn_ready (rs := [2]) (by kernel_rfl) (by simp) ?_
        refine AllReadyIn.cons rfl (fun K hK => ?_) AllReadyIn.nil
        go_simp
        refine ⟨trivial, (CallsIn.inRound l (callsIn_wide.2 hseal)).mono ?_⟩
        rintro e k6 ⟨v6, rfl, ho6, h6⟩
        have h6' : Below W.heap.size W k6 := ((Below.refl W.heap.size W).drew).trans h6
        have hc6 : k6.cell? ⟨k3.heap.size, 0, none⟩ = some (.slice Av mv cv) := (h6'.cell (p := ⟨k3.heap.size, 0, none⟩) hv.lt).trans hc
        have how6 := ownsRow_below hrow h6'
        have hle6 := Nat.le_trans hwW h6'.size
        obtain ⟨A6, c6, hv6⟩ := own_slice ho6
        subst hv6
        obtain ⟨m6, hm6⟩ : ∃ m6, (sealB 4 pc).length = m6 := ⟨_, rfl⟩
        have HM6 := Lib.hid hm6
        rw [hm6] at ho6
        simp only [hm6]
        clear hm6
        try dsimp only
        refine hK _ _ ?_
        clear hK K
        refine wpAnyIn_ready (rs := [3]) (by kernel_rfl) (by simp) ?_
        refine AllReadyIn.cons rfl (fun K hK => ?_) AllReadyIn.nil
        rw [if_pos (by rfl)]
        refine wpIn_append_byt10 _ _ rfl w.heap.size W.heap.size _ (.slice A6 m6 c6) _ _ rfl how6 rfl ho6 hsl0 (by have := HPL.out; omega) hle6 ?_
        intro v' w1 hown1 hg1
        have hown2 := hown1
        rw [← HPC.out] at hown2
        obtain ⟨A7, c7, hv7⟩ := own_slice hown1
        obtain ⟨m7, hm7⟩ : ∃ m7, ((hd ++ piecesOf dt.data.toList pre) ++ sealB 4 pc).length = m7 := ⟨_, rfl⟩
        rw [hm7] at hv7
        subst hv7
        clear hm7
        obtain ⟨bx1, hfin⟩ := snap_round (by omega) (by omega) HI.out hv h6 hown2 hg1
        have hc1 := bx1.cell
        have hf1 := bx1.frozen
        refine hK _ _ ?_
        clear hK K
        refine wpAnyIn_ready (rs := [4]) (by kernel_rfl) (by simp) ?_
        refine AllReadyIn.cons rfl (fun K hK => ?_) AllReadyIn.nil
        go_simp
        refine hK _ _ ?_
        clear hK K
        refine wpAnyIn_done (by kernel_rfl) ?_ _
        gi_wp2
        exact hfin _
      · go_simp
        refine ⟨trivial, (CallsIn.inRound l (callsIn_wide.2 hseal)).mono ?_⟩
        rintro e k6 ⟨v6, rfl, ho6, h6⟩
        have h6' : Below W.heap.size W k6 := ((Below.refl W.heap.size W).drew).trans h6
        have hc6 : k6.cell? ⟨k3.heap.size, 0, none⟩ = some (.slice Av mv cv) := (h6'.cell (p := ⟨k3.heap.size, 0, none⟩) hv.lt).trans hc
        have how6 := ownsRow_below hrow h6'
        have hle6 := Nat.le_trans hwW h6'.size
        obtain ⟨A6, c6, hv6⟩ := own_slice ho6
        subst hv6
        obtain ⟨m6, hm6⟩ : ∃ m6, (sealB 4 pc).length = m6 := ⟨_, rfl⟩
        have HM6 := Lib.hid hm6
        rw [hm6] at ho6
        simp only [hm6]
        clear hm6
        try dsimp only
        refine hK _ _ ?_
        clear hK K
        refine wpAnyIn_ready (rs := [0]) (by kernel_rfl) (by simp) ?_
        refine AllReadyIn.cons rfl (fun K hK => ?_) AllReadyIn.nil
        go_simp
        refine hK _ _ ?_
        clear hK K
        refine wpAnyIn_ready (rs := [3]) (by kernel_rfl) (by simp) ?_
        refine AllReadyIn.cons rfl (fun K hK => ?_) AllReadyIn.nil
        rw [if_pos (by rfl)]
        refine wpIn_append_byt10 _ _ rfl w.heap.size W.heap.size _ (.slice A6 m6 c6) _ _ rfl how6 rfl ho6 hsl0 (by have := HPL.out; omega) hle6 ?_
        intro v' w1 hown1 hg1
        have hown2 := hown1
        rw [← HPC.out] at hown2
        obtain ⟨A7, c7, hv7⟩ := own_slice hown1
        obtain ⟨m7, hm7⟩ : ∃ m7, ((hd ++ piecesOf dt.data.toList pre) ++ sealB 4 pc).length = m7 := ⟨_, rfl⟩
        rw [hm7] at hv7
        subst hv7
        clear hm7
        obtain ⟨bx1, hfin⟩ := snap_round (by omega) (by omega) HI.out hv h6 hown2 hg1
        have hc1 := bx1.cell
        have hf1 := bx1.frozen
        refine hK _ _ ?_
        clear hK K
        refine wpAnyIn_ready (rs := [4]) (by kernel_rfl) (by simp) ?_
        refine AllReadyIn.cons rfl (fun K hK => ?_) AllReadyIn.nil
        go_simp
        refine hK _ _ ?_
        clear hK K
        refine wpAnyIn_done (by kernel_rfl) ?_ _
        gi_wp2
        exact hfin _
  case done =>
    rintro D ys W hD rfl ⟨⟨v, hv, hrow, hne⟩, hS, hNn, hbys, hszW, hblW⟩ hK
    have hc := hv.cell
    obtain ⟨Av, cv, hvv⟩ := own_slice hrow
    obtain ⟨mv, hmv⟩ : ∃ mv, (hd ++ piecesOf dt.data.toList (List.range ((dt.size + 2999) / 3000))).length = mv := ⟨_, rfl⟩
    rw [hmv] at hvv
    subst hvv
    clear hS hNn hbys
    gi_wp2
    refine ⟨by simp, .inl ⟨_, _, rfl, run_takeDeferred hK, ?_⟩⟩
    refine ⟨_, results_tmp rfl _ _ _, _, rfl, ?_, hblW.trans (belowK_b (w := w) (Nat.le_refl _) W D _ _ (by have := hbw5.size; omega) hK rfl rfl)⟩
    rw [HHD.out]
    exact ownsRow_putObj hrow _ hK rfl
  case stop =>
    rintro D c pre W _ _ h _
    exact h.elim
end Go.Proofs.YtbiecoifeeikpaaDoor
/-
  Records as plain functions: what is written is read again; what is read is what is written.
  There are no conditions beyond those that each lemma names.
-/
set_option linter.unusedSimpArgs false
set_option linter.unusedVariables false
namespace Go.Proofs.YtbiecoifeeikpaaDoor
open Go.RowKit
set_option maxRecDepth 100000

theorem openB_canon {l b : List UInt8} {k n : Nat} (h : openB l = (k, b, n, 0)) : l.take n = sealB k b ∧ n ≤ l.length ∧ 6 ≤ n ∧ 1 ≤ k ∧ k ≤ 255 ∧ b.length ≤ 4000 := by
  have hg := openB_good h
  refine ⟨?_, hg.2.1, hg.1, hg.2.2.2.2.1, hg.2.2.2.2.2, hg.2.2.1⟩
  unfold openB at h
  by_cases h1 : l.length = 0
  · rw [if_pos h1] at h; simp at h
  rw [if_neg h1] at h
  by_cases h2 : (l.headD 0).toNat = 0
  · rw [if_pos h2] at h; simp at h
  rw [if_neg h2] at h
  by_cases h3 : (Nu.get (l.drop 1)).2.2 = 2 ∧ 2 < l.length
  · rw [if_pos h3] at h; simp at h
  rw [if_neg h3] at h
  by_cases h4 : (Nu.get (l.drop 1)).2.2 = 2
  · rw [if_pos h4] at h; simp at h
  rw [if_neg h4] at h
  by_cases h5 : (Nu.get (l.drop 1)).2.2 ≠ 0 ∨ (Nu.get (l.drop 1)).1 < 0 ∨ 4000 < (Nu.get (l.drop 1)).1
  · rw [if_pos h5] at h; simp at h
  rw [if_neg h5] at h
  by_cases h6 : (l.length : Int) < 5 + (Nu.get (l.drop 1)).2.1 + (Nu.get (l.drop 1)).1
  · rw [if_pos h6] at h; simp at h
  rw [if_neg h6] at h
  split at h
  · simp at h
  · rename_i h7
    simp only [Prod.mk.injEq, and_true] at h
    obtain ⟨rfl, rfl, rfl⟩ := h
    exact (Decidable.not_not.1 h7).symm
theorem openB_bad {l : List UInt8} {k n e : Nat} {b : List UInt8} (h : openB l = (k, b, n, e)) (he : e ≠ 0) : k = 0 ∧ b = [] ∧ n = 0 ∧ (e = 2 ∨ e = 3) := by
  rcases openB_err l with h0 | ⟨e', h1, h2⟩
  · rw [h] at h0; exact absurd h0 he
  · rw [h] at h1
    simp only [Prod.mk.injEq] at h1
    obtain ⟨rfl, rfl, rfl, rfl⟩ := h1
    exact ⟨rfl, rfl, rfl, h2⟩
def zRcd : Rcd := ⟨false, 0, 0, noEnt⟩
def kind10 (r : Rcd) : Nat := if r.hard then 1 else 2
def body10 (r : Rcd) : List UInt8 := if r.hard then Nu.put r.ht ++ Nu.put r.hv else bodyE10 r.e
theorem encR10_is {r : Rcd} (h : may10 r = true) : encR10 r = sealB (kind10 r) (body10 r) := by
  unfold encR10 kind10 body10
  rw [if_neg (by rw [h]; simp)]
  cases r.hard <;> rfl
theorem noEnt_is {e : Ent} (h : eqEnt10 e noEnt = true) : e = noEnt := by
  obtain ⟨a, b, c, d⟩ := e
  unfold eqEnt10 noEnt at h
  simp only [Bool.and_eq_true, beq_iff_eq] at h
  obtain ⟨⟨⟨rfl, rfl⟩, rfl⟩, h⟩ := h
  have : d = ByteArray.empty := by
    apply ByteArray.ext; apply Array.toList_inj.1; exact h
  rw [this]; rfl
/-- what may be, told in its parts -/
theorem may10_hard {r : Rcd} (h : may10 r = true) (hh : r.hard = true) : 0 ≤ r.ht ∧ r.ht ≤ 1099511627776 ∧ 0 ≤ r.hv ∧ r.hv ≤ 7 ∧ r.e = noEnt := by
  unfold may10 at h
  rw [if_pos hh] at h
  simp only [Bool.and_eq_true] at h
  have := mayHard10_is h.1
  exact ⟨this.1, this.2.1, this.2.2.1, this.2.2.2, noEnt_is h.2⟩
theorem may10_ent {r : Rcd} (h : may10 r = true) (hh : r.hard = false) : r.ht = 0 ∧ r.hv = 0 ∧ 1 ≤ r.e.ix ∧ r.e.ix ≤ 1099511627776 ∧ 1 ≤ r.e.et ∧ r.e.et ≤ 1099511627776 ∧ 1 ≤ r.e.kd ∧ r.e.kd ≤ 3 ∧ r.e.data.size ≤ 2500 := by
  unfold may10 at h
  rw [if_neg (by rw [hh]; simp)] at h
  simp only [Bool.and_eq_true, beq_iff_eq] at h
  have := mayEnt10_is h.2
  exact ⟨h.1.1, h.1.2, this⟩
theorem body10_len {r : Rcd} (h : may10 r = true) : (body10 r).length ≤ 2600 := by
  unfold body10
  cases hh : r.hard with
  | true =>
    rw [if_pos rfl, List.length_append]
    have := Nu.put_len r.ht; have := Nu.put_len r.hv; omega
  | false =>
    rw [if_neg (by simp)]
    obtain ⟨_, _, _, _, _, _, _, _, hs⟩ := may10_ent h hh
    unfold bodyE10 Nu.putT
    simp only [List.length_append]
    have := Nu.put_len r.e.ix; have := Nu.put_len r.e.et; have := Nu.put_len r.e.kd; have := Nu.put_len (r.e.data.data.toList.length : Int)
    have : r.e.data.data.toList.length = r.e.data.size := size_list10 _
    omega
theorem kind10_ok (r : Rcd) : 1 ≤ (kind10 r : Int) ∧ (kind10 r : Int) ≤ 255 := by unfold kind10; split <;> decide
theorem enc10_len {r : Rcd} (h : may10 r = true) : 6 ≤ (encR10 r).length ∧ (encR10 r).length ≤ 2607 := by
  have hk := kind10_ok r
  have hb := body10_len h
  rw [encR10_is h, sealB_len _ _ hk.1 hk.2 (by omega)]
  have h2 := put_len12 (body10 r).length (by omega)
  split at h2 <;> omega
theorem enc10_short (r : Rcd) : (encR10 r).length ≤ 2607 := by
  cases h : may10 r with
  | true => exact (enc10_len h).2
  | false => unfold encR10; rw [if_pos h]; exact Nat.zero_le _

/-! ### a reader's steps -/
theorem rdN10_put (n : Int) (r : List UInt8) (b : Bool) (h0 : -9223372036854775808 ≤ n) (h1 : n ≤ 9223372036854775807) : rdN10 (Nu.put n ++ r, b) = (n, (r, b)) := by
  unfold rdN10
  simp only [Nu.get_put n r h0 h1]
  rw [if_pos trivial, List.drop_left]
theorem rdT10_put (s : ByteArray) (r : List UInt8) (b : Bool) (hs : s.size ≤ 1048576) : rdT10 (Nu.putT s.data.toList ++ r, b) = (s, (r, b)) := by
  unfold rdT10
  simp only [Nu.getT_putT s.data.toList r (by rw [size_list10]; exact hs)]
  rw [if_pos trivial, List.drop_left]
theorem rdN10_ok {s s' : RdS10} {n : Int} (h : rdN10 s = (n, s')) (hs : s'.2 = false) : s.2 = false ∧ s.1 = Nu.put n ++ s'.1 ∧ -9223372036854775808 ≤ n ∧ n ≤ 9223372036854775807 := by
  unfold rdN10 at h
  obtain ⟨⟨m, k, e⟩, hg⟩ : ∃ r, Nu.get s.1 = r := ⟨_, rfl⟩
  rw [hg] at h
  simp only [Prod.mk.injEq] at h
  obtain ⟨rfl, rfl⟩ := h
  by_cases he : e = 0
  · subst he
    rw [if_pos rfl] at hs ⊢
    have h1 := Nu.get_split s.1 m k hg
    have h2 := Nu.get_canon s.1 m k hg
    exact ⟨hs, h1, h2.2.2⟩
  · rw [if_neg he] at hs; cases hs
theorem rdT10_ok {s s' : RdS10} {t : ByteArray} (h : rdT10 s = (t, s')) (hs : s'.2 = false) : s.2 = false ∧ s.1 = Nu.putT t.data.toList ++ s'.1 := by
  unfold rdT10 at h
  obtain ⟨⟨m, k, e⟩, hg⟩ : ∃ r, Nu.getT s.1 = r := ⟨_, rfl⟩
  rw [hg] at h
  simp only [Prod.mk.injEq] at h
  obtain ⟨rfl, rfl⟩ := h
  by_cases he : e = 0
  · subst he
    rw [if_pos rfl] at hs ⊢
    exact ⟨hs, (Nu.getT_canon s.1 m k hg).1⟩
  · rw [if_neg he] at hs; cases hs
theorem rdN10_bad {s s' : RdS10} {n : Int} (h : rdN10 s = (n, s')) (hs : s.2 = true) : s'.2 = true := by
  cases h2 : s'.2 with
  | true => rfl
  | false => exact absurd (rdN10_ok h h2).1 (by rw [hs]; simp)

/-! ### records -/
def rdH10 (s : RdS10) : Rcd × RdS10 := (⟨true, (rdN10 s).1, (rdN10 (rdN10 s).2).1, noEnt⟩, (rdN10 (rdN10 s).2).2)
def rdE10 (s : RdS10) : Rcd × RdS10 := (⟨false, 0, 0, ⟨(rdN10 s).1, (rdN10 (rdN10 s).2).1, (rdN10 (rdN10 (rdN10 s).2).2).1, (rdT10 (rdN10 (rdN10 (rdN10 s).2).2).2).1⟩⟩, (rdT10 (rdN10 (rdN10 (rdN10 s).2).2).2).2)
def done10 (s : RdS10) : Bool := !s.2 && s.1.length == 0
/-- the record of a frame, and whether it may be one -/
def readR10 (k : Nat) (l : List UInt8) : Rcd × Bool :=
  if k = 1 then ((rdH10 (l, false)).1, done10 (rdH10 (l, false)).2 && may10 (rdH10 (l, false)).1)
  else if k = 2 then ((rdE10 (l, false)).1, done10 (rdE10 (l, false)).2 && may10 (rdE10 (l, false)).1)
  else (zRcd, false)
def decR10 (l : List UInt8) : Rcd × Nat × Nat :=
  if (openB l).2.2.2 ≠ 0 then (zRcd, 0, (openB l).2.2.2)
  else if (readR10 (openB l).1 (openB l).2.1).2 = true then ((readR10 (openB l).1 (openB l).2.1).1, (openB l).2.2.1, 0)
  else (zRcd, 0, 3)
theorem done10_is {s : RdS10} (h : done10 s = true) : s = ([], false) := by
  obtain ⟨l, b⟩ := s
  unfold done10 at h
  simp only [Bool.and_eq_true, beq_iff_eq, Bool.not_eq_true'] at h
  obtain ⟨rfl, h⟩ := h
  rw [List.eq_nil_of_length_eq_zero h]
theorem readR10_yes {k : Nat} {l : List UInt8} {r : Rcd} (h : readR10 k l = (r, true)) : may10 r = true ∧ k = kind10 r ∧ l = body10 r := by
  unfold readR10 at h
  by_cases h1 : k = 1
  · rw [if_pos h1] at h
    simp only [Prod.mk.injEq, Bool.and_eq_true] at h
    obtain ⟨rfl, hd, hm⟩ := h
    refine ⟨hm, by unfold kind10 rdH10; exact h1, ?_⟩
    have h2 := done10_is hd
    unfold rdH10 at h2
    simp only at h2
    obtain ⟨_, e1, _, _⟩ := rdN10_ok (s := (rdN10 (l, false)).2) (n := _) (s' := ([], false)) (by rw [← h2]) rfl
    obtain ⟨_, e2, _, _⟩ := rdN10_ok (s := (l, false)) (n := _) (s' := (rdN10 (l, false)).2) rfl (by
      cases hb : (rdN10 (l, false)).2.2 with
      | false => rfl
      | true => have := rdN10_bad (s := (rdN10 (l, false)).2) (s' := ([], false)) (n := _) (by rw [← h2]) hb; cases this)
    unfold body10 rdH10
    rw [if_pos rfl]
    simp only at e1 e2 ⊢
    rw [List.append_nil] at e1
    rw [← e1]; exact e2
  · rw [if_neg h1] at h
    by_cases h2 : k = 2
    · rw [if_pos h2] at h
      simp only [Prod.mk.injEq, Bool.and_eq_true] at h
      obtain ⟨rfl, hd, hm⟩ := h
      refine ⟨hm, by unfold kind10 rdE10; exact h2, ?_⟩
      have h3 := done10_is hd
      unfold rdE10 at h3
      simp only at h3
      obtain ⟨⟨ix, s1⟩, q1⟩ : ∃ x, rdN10 (l, false) = x := ⟨_, rfl⟩
      obtain ⟨⟨et, s2⟩, q2⟩ : ∃ x, rdN10 s1 = x := ⟨_, rfl⟩
      obtain ⟨⟨kd, s3⟩, q3⟩ : ∃ x, rdN10 s2 = x := ⟨_, rfl⟩
      obtain ⟨⟨dt, s4⟩, q4⟩ : ∃ x, rdT10 s3 = x := ⟨_, rfl⟩
      unfold rdE10 body10
      rw [if_neg (by simp)]
      simp only [q1, q2, q3, q4] at h3 ⊢
      subst h3
      obtain ⟨b3, e4⟩ := rdT10_ok q4 rfl
      obtain ⟨b2, e3, _⟩ := rdN10_ok q3 b3
      obtain ⟨b1, e2, _⟩ := rdN10_ok q2 b2
      obtain ⟨_, e1, _⟩ := rdN10_ok q1 b1
      unfold bodyE10
      simp only at e1 e4 ⊢
      rw [List.append_nil] at e4
      rw [e1, e2, e3, e4]
    · rw [if_neg h2] at h; simp at h
theorem readR10_back {r : Rcd} (h : may10 r = true) : readR10 (kind10 r) (body10 r) = (r, true) := by
  unfold readR10
  obtain ⟨hd, ht, hv, e⟩ := r
  cases hd with
  | true =>
    obtain ⟨a, b, c, d, he⟩ := may10_hard h rfl
    simp only at a b c d he
    subst he
    have hb : body10 ⟨true, ht, hv, noEnt⟩ = Nu.put ht ++ (Nu.put hv ++ []) := by unfold body10; simp
    have hr : rdH10 (body10 ⟨true, ht, hv, noEnt⟩, false) = (⟨true, ht, hv, noEnt⟩, ([], false)) := by
      unfold rdH10
      rw [hb, rdN10_put ht _ _ (by omega) (by omega)]
      simp only [rdN10_put hv _ _ (by omega) (by omega)]
    rw [show kind10 ⟨true, ht, hv, noEnt⟩ = 1 from rfl, if_pos rfl, hr]
    simp only [h]; rfl
  | false =>
    obtain ⟨z1, z2, a1, a2, a3, a4, a5, a6, a7⟩ := may10_ent h rfl
    obtain ⟨ix, et, kd, dt⟩ := e
    simp only at z1 z2 a1 a2 a3 a4 a5 a6 a7
    subst z1; subst z2
    have hb : body10 ⟨false, 0, 0, ⟨ix, et, kd, dt⟩⟩ = Nu.put ix ++ (Nu.put et ++ (Nu.put kd ++ (Nu.putT dt.data.toList ++ []))) := by unfold body10 bodyE10; simp
    have hr : rdE10 (body10 ⟨false, 0, 0, ⟨ix, et, kd, dt⟩⟩, false) = (⟨false, 0, 0, ⟨ix, et, kd, dt⟩⟩, ([], false)) := by
      unfold rdE10
      rw [hb, rdN10_put ix _ _ (by omega) (by omega)]
      simp only [rdN10_put et _ _ (by omega) (by omega), rdN10_put kd _ _ (by omega) (by omega), rdT10_put dt _ _ (by omega)]
    rw [show kind10 ⟨false, 0, 0, ⟨ix, et, kd, dt⟩⟩ = 2 from rfl, if_neg (by decide), if_pos rfl, hr]
    simp only [h]; rfl
/-- what is written is read again, whatever stands behind it -/
theorem decR10_enc {r : Rcd} (h : may10 r = true) (more : List UInt8) : decR10 (encR10 r ++ more) = (r, (encR10 r).length, 0) := by
  have hk := kind10_ok r
  have hb := body10_len h
  rw [encR10_is h]
  unfold decR10
  rw [openB_seal _ _ more hk.1 hk.2 (by omega)]
  simp only [Int.toNat_natCast]
  rw [if_neg (by simp), readR10_back h, if_pos rfl]
theorem decR10_cut {r : Rcd} (h : may10 r = true) {m : Nat} (hm : m < (encR10 r).length) : decR10 ((encR10 r).take m) = (zRcd, 0, 2) := by
  have hk := kind10_ok r
  have hb := body10_len h
  rw [encR10_is h] at hm ⊢
  unfold decR10
  rw [openB_cut _ _ m hk.1 hk.2 (by omega) hm, if_pos (by simp)]
theorem decR10_good {l : List UInt8} {r : Rcd} {n : Nat} (h : decR10 l = (r, n, 0)) : may10 r = true ∧ l.take n = encR10 r ∧ 6 ≤ n ∧ n ≤ l.length := by
  unfold decR10 at h
  obtain ⟨⟨k, b, m, e⟩, ho⟩ : ∃ x, openB l = x := ⟨_, rfl⟩
  rw [ho] at h
  simp only at h
  by_cases he : e = 0
  · subst he
    rw [if_neg (by simp)] at h
    obtain ⟨⟨q, y⟩, hq⟩ : ∃ x, readR10 k b = x := ⟨_, rfl⟩
    rw [hq] at h
    cases y with
    | false => simp at h
    | true =>
      simp only [if_true, Prod.mk.injEq, and_true] at h
      obtain ⟨rfl, rfl⟩ := h
      obtain ⟨hm, hk, hb⟩ := readR10_yes hq
      obtain ⟨h1, h2, h3, _⟩ := openB_canon ho
      refine ⟨hm, ?_, h3, h2⟩
      rw [encR10_is hm, ← hk, ← hb]; exact h1
  · rw [if_pos he] at h
    simp only [Prod.mk.injEq] at h
    exact absurd h.2.2 he
theorem decR10_bad {l : List UInt8} {r : Rcd} {n e : Nat} (h : decR10 l = (r, n, e)) (he : e ≠ 0) : r = zRcd ∧ n = 0 ∧ (e = 2 ∨ e = 3) := by
  unfold decR10 at h
  obtain ⟨⟨k, b, m, e'⟩, ho⟩ : ∃ x, openB l = x := ⟨_, rfl⟩
  rw [ho] at h
  simp only at h
  by_cases h0 : e' = 0
  · rw [if_neg (by simpa using h0)] at h
    split at h
    · simp only [Prod.mk.injEq] at h; exact absurd h.2.2.symm he
    · simp only [Prod.mk.injEq] at h
      exact ⟨h.1.symm, h.2.1.symm, .inr h.2.2.symm⟩
  · rw [if_pos h0] at h
    simp only [Prod.mk.injEq] at h
    obtain ⟨rfl, rfl, rfl⟩ := h
    exact ⟨rfl, rfl, (openB_bad ho h0).2.2.2⟩
end Go.Proofs.YtbiecoifeeikpaaDoor
/-
  Package wal's reader: what each of its steps answers, and what rests; behind a part that can't be read all is bad.
  The reader lies in a block of its own; the bytes lie below it, at most 1,000,000.
-/
set_option linter.unusedSimpArgs false
set_option linter.unusedVariables false
namespace Go.Proofs.YtbiecoifeeikpaaDoor
open Go.RowKit
set_option maxRecDepth 100000

/-- a slice that reads as bytes, cut at k: how the machine writes it -/
theorem w10took_a (g B k c o gb : Nat) (b : Bool) (l : List UInt8) (w : World) (h : Rt w g 111 [.slice (some ⟨gb, o, none⟩) l.length c, .bool b]) (hby : Byt w B (.slice (some ⟨gb, o, none⟩) l.length c) l) (hB : B ≤ g) (hk : k ≤ l.length) (hkc : ¬ c = k) :
    Calls Tryd.prog 95 #[.pointer (some ⟨g, 0, none⟩), .int .i64 k, .int .i64 0] w (WRo g B (.tuple #[]) (l.drop k, b) w) := by
  have hlc : l.length ≤ c := by obtain ⟨_, _, hv, hc, _⟩ := hby; injection hv with _ _ e; omega
  have hcut := hby.cut hk
  rw [if_neg hkc, add_lit_10] at hcut
  have c0 := h.cell (j := 0) rfl
  have f0 := h.frz 0
  have HR := Lib.hid h; clear h
  have HC := Lib.hid hcut; clear hcut hby
  go_enter Tryd.func95, Tryd.ntmps95
  go_wp2
  refine Go.Great.bodyPost_end0 Tryd.results95 rfl ?_
  exact ⟨rfl, ⟨_, _, by simpa using HR.out.set 0 _, by simpa using byt_set10 HC.out hB, hB⟩, setCell_grown _ _ _⟩
theorem w10took_b (g B k o gb : Nat) (b : Bool) (l : List UInt8) (w : World) (h : Rt w g 111 [.slice (some ⟨gb, o, none⟩) k k, .bool b]) (hby : Byt w B (.slice (some ⟨gb, o, none⟩) k k) l) (hB : B ≤ g) :
    Calls Tryd.prog 95 #[.pointer (some ⟨g, 0, none⟩), .int .i64 k, .int .i64 0] w (WRo g B (.tuple #[]) ([], b) w) := by
  obtain rfl : k = l.length := by obtain ⟨A', c', hv, _⟩ := hby; injection hv
  have hcut := hby.cut (Nat.le_refl _)
  rw [if_pos rfl, Nat.sub_self, List.drop_length] at hcut
  have c0 := h.cell (j := 0) rfl
  have f0 := h.frz 0
  have HR := Lib.hid h; clear h
  have HC := Lib.hid hcut; clear hcut hby
  go_enter Tryd.func95, Tryd.ntmps95
  go_wp2
  refine Go.Great.bodyPost_end0 Tryd.results95 rfl ?_
  exact ⟨rfl, ⟨_, _, HR.out.set 0 _, byt_set10 HC.out hB, hB⟩, setCell_grown _ _ _⟩
/-- no bytes rest: whatever the slice is -/
theorem w10took_c (g B c : Nat) (A : Option Addr) (b : Bool) (w : World) (h : Rt w g 111 [.slice A 0 c, .bool b]) (hby : Byt w B (.slice A 0 c) []) (hB : B ≤ g) :
    Calls Tryd.prog 95 #[.pointer (some ⟨g, 0, none⟩), .int .i64 0, .int .i64 0] w (WRo g B (.tuple #[]) ([], b) w) := by
  have c0 := h.cell (j := 0) rfl
  have f0 := h.frz 0
  have HR := Lib.hid h; clear h
  have HC := Lib.hid hby; clear hby
  go_enter Tryd.func95, Tryd.ntmps95
  go_wp2
  refine Go.Great.bodyPost_end0 Tryd.results95 rfl ?_
  exact ⟨rfl, ⟨_, _, HR.out.set 0 _, byt_set10 HC.out hB, hB⟩, setCell_grown _ _ _⟩
theorem w10took_ok (g B k c : Nat) (A : Option Addr) (b : Bool) (l : List UInt8) (w : World) (h : Rt w g 111 [.slice A l.length c, .bool b]) (hby : Byt w B (.slice A l.length c) l) (hB : B ≤ g) (hk : k ≤ l.length) :
    Calls Tryd.prog 95 #[.pointer (some ⟨g, 0, none⟩), .int .i64 k, .int .i64 0] w (WRo g B (.tuple #[]) (l.drop k, b) w) := by
  rcases Nat.eq_zero_or_pos l.length with h0 | h0
  · obtain rfl := List.eq_nil_of_length_eq_zero h0
    obtain rfl : k = 0 := by simpa using hk
    exact w10took_c g B c A b w h hby hB
  · obtain ⟨A', c', hv, hc, hx⟩ := id hby
    injection hv with e1 _ e3
    subst e1; subst e3
    obtain ⟨gb, o, rfl, _⟩ := hx h0
    by_cases hkc : c = k
    · subst hkc
      obtain rfl : c = l.length := by omega
      rw [List.drop_length]
      exact w10took_b g B _ o gb b l w h hby hB
    · exact w10took_a g B k c o gb b l w h hby hB hk hkc
/-- behind a part with an error nothing rests -/
theorem w10w10took_bad (g B k e c : Nat) (A : Option Addr) (b : Bool) (l : List UInt8) (w : World) (h : Rt w g 111 [.slice A l.length c, .bool b]) (hby : Byt w B (.slice A l.length c) l) (hB : B ≤ g) (he : e ≠ 0) :
    Calls Tryd.prog 95 #[.pointer (some ⟨g, 0, none⟩), .int .i64 k, .int .i64 e] w (WRo g B (.tuple #[]) ([], true) w) := by
  have he2 : ((e : Int) != 0) = true := by simp; omega
  have he3 : ¬ ((e : Int) = 0) := by omega
  rcases Nat.eq_zero_or_pos l.length with h0 | h0
  · obtain rfl := List.eq_nil_of_length_eq_zero h0
    simp only [List.length_nil] at h hby
    have c0 := h.cell (j := 0) rfl
    have c1 := h.cell (j := 1) rfl
    have f0 := h.frz 0
    have f1 := h.frz 1
    have HR := Lib.hid h; clear h
    have HC := Lib.hid hby; clear hby
    go_enter Tryd.func95, Tryd.ntmps95
    go_wp2
    refine Go.Great.bodyPost_end0 Tryd.results95 rfl ?_
    exact ⟨rfl, ⟨_, _, (HR.out.set 1 _).set 0 _, byt_set10 (byt_set10 HC.out hB) hB, hB⟩, grown_trans10 (setCell_grown _ _ _) (setCell_grown _ _ _)⟩
  · obtain ⟨A', c', hv, hc, hx⟩ := id hby
    injection hv with e1 _ e3
    subst e1; subst e3
    obtain ⟨gb, o, rfl, _⟩ := hx h0
    have hcut := hby.cut (Nat.le_refl _)
    have c0 := h.cell (j := 0) rfl
    have c1 := h.cell (j := 1) rfl
    have f0 := h.frz 0
    have f1 := h.frz 1
    rw [List.drop_length, Nat.sub_self] at hcut
    by_cases hkc : c = l.length
    · rw [if_pos hkc, hkc, Nat.sub_self] at hcut
      rw [hkc] at c0 h
      obtain ⟨n, hn⟩ : ∃ n, l.length = n := ⟨_, rfl⟩
      rw [hn] at h c0
      have HR := Lib.hid h; clear h
      have HC := Lib.hid hcut; clear hcut hby hkc hx hn
      go_enter Tryd.func95, Tryd.ntmps95
      go_wp2
      refine Go.Great.bodyPost_end0 Tryd.results95 rfl ?_
      exact ⟨rfl, ⟨_, _, (HR.out.set 1 _).set 0 _, byt_set10 (byt_set10 HC.out hB) hB, hB⟩, grown_trans10 (setCell_grown _ _ _) (setCell_grown _ _ _)⟩
    · rw [if_neg hkc, add_lit_10] at hcut
      obtain ⟨n, hn⟩ : ∃ n, l.length = n := ⟨_, rfl⟩
      rw [hn] at h hcut c0 hkc hc
      have HR := Lib.hid h; clear h
      have HC := Lib.hid hcut; clear hcut hby hx hn
      go_enter Tryd.func95, Tryd.ntmps95
      go_wp2
      refine Go.Great.bodyPost_end0 Tryd.results95 rfl ?_
      exact ⟨rfl, ⟨_, _, (HR.out.set 1 _).set 0 _, byt_set10 (byt_set10 HC.out hB) hB, hB⟩, grown_trans10 (setCell_grown _ _ _) (setCell_grown _ _ _)⟩
/-- took, behind what num.Get or num.GetText answered -/
theorem w10took_is (g B k e : Nat) (s s' : RdS10) (w : World) (h : WRd w g B s) (hk : k ≤ s.1.length) (hs : (if e = 0 then (s.1.drop k, s.2) else ([], true)) = s') :
    Calls Tryd.prog 95 #[.pointer (some ⟨g, 0, none⟩), .int .i64 k, .int .i64 e] w (WRo g B (.tuple #[]) s' w) := by
  obtain ⟨l, b⟩ := s
  obtain ⟨A, c, hr, hby, hB⟩ := h
  subst hs
  by_cases he : e = 0
  · subst he; rw [if_pos rfl]; exact w10took_ok g B k c A b l w hr hby hB hk
  · rw [if_neg he]; exact w10w10took_bad g B k e c A b l w hr hby hB he
set_option maxHeartbeats 400000 in
theorem w10fnum_any (g B : Nat) (s : RdS10) (n : Int) (s' : RdS10) (w : World) (h : WRd w g B s) (hl : s.1.length ≤ 1050000) (hs : rdN10 s = (n, s')) :
    Calls Tryd.prog 80 #[.pointer (some ⟨g, 0, none⟩)] w (WRo g B (.int .i64 n) s' w) := by
  have hk := Nu.get_len s.1
  obtain ⟨⟨m, k, e⟩, hr⟩ : ∃ r, Nu.get s.1 = r := ⟨_, rfl⟩
  have htk := w10took_is g B k e s s' w h (by rw [hr] at hk; exact hk) (by unfold rdN10 at hs; rw [hr] at hs; exact (Prod.mk.inj hs).2)
  obtain rfl : m = n := by unfold rdN10 at hs; rw [hr] at hs; exact (Prod.mk.inj hs).1
  obtain ⟨A, c, hrb, hby, hB⟩ := h
  have hget := nget_c10 _ _ _ B s.1 w hby hl
  rw [hr] at hget
  have c0 := hrb.cell (j := 0) rfl
  obtain ⟨z, hz⟩ : ∃ z, s.1.length = z := ⟨_, rfl⟩
  rw [hz] at c0 hget
  have HG := Lib.hid hget; clear hget hr
  have HT := Lib.hid htk; clear htk
  clear hrb hby hs hk hz
  go_enter Tryd.func80, Tryd.ntmps80
  go_wp2_with fail
  refine HG.out.mono ?_
  rintro e1 k1 ⟨rfl, rfl⟩
  go_wp2_with fail
  refine HT.out.mono ?_
  rintro e1 k1 ⟨rfl, h1, h2⟩
  go_wp2
  go_ret
  exact ⟨rfl, h1, h2⟩
set_option maxHeartbeats 400000 in
theorem w10ftxt_any (g B : Nat) (s : RdS10) (n : ByteArray) (s' : RdS10) (w : World) (h : WRd w g B s) (hl : s.1.length ≤ 1050000) (hs : rdT10 s = (n, s')) :
    Calls Tryd.prog 81 #[.pointer (some ⟨g, 0, none⟩)] w (WRo g B (.string n) s' w) := by
  have hk := getT_len10 s.1
  obtain ⟨⟨m, k, e⟩, hr⟩ : ∃ r, Nu.getT s.1 = r := ⟨_, rfl⟩
  have htk := w10took_is g B k e s s' w h (by rw [hr] at hk; exact hk) (by unfold rdT10 at hs; rw [hr] at hs; exact (Prod.mk.inj hs).2)
  obtain rfl : (⟨m.toArray⟩ : ByteArray) = n := by unfold rdT10 at hs; rw [hr] at hs; exact (Prod.mk.inj hs).1
  obtain ⟨A, c, hrb, hby, hB⟩ := h
  have hget := ngetText_c10 _ _ _ B s.1 w hby hl
  rw [hr] at hget
  have c0 := hrb.cell (j := 0) rfl
  obtain ⟨z, hz⟩ : ∃ z, s.1.length = z := ⟨_, rfl⟩
  rw [hz] at c0 hget
  have HG := Lib.hid hget; clear hget hr
  have HT := Lib.hid htk; clear htk
  clear hrb hby hs hk hz
  go_enter Tryd.func81, Tryd.ntmps81
  go_wp2_with fail
  refine HG.out.mono ?_
  rintro e1 k1 ⟨rfl, rfl⟩
  go_wp2_with fail
  refine HT.out.mono ?_
  rintro e1 k1 ⟨rfl, h1, h2⟩
  go_wp2
  go_ret
  exact ⟨rfl, h1, h2⟩
end Go.Proofs.YtbiecoifeeikpaaDoor
/-
  Package wal's reader reads a Hard, an entry, a snapshot's head; what it leaves.
  The reader lies in a block of its own; the bytes lie below it, at most 1,000,000.
-/
set_option linter.unusedSimpArgs false
set_option linter.unusedVariables false
namespace Go.Proofs.YtbiecoifeeikpaaDoor
open Go.RowKit
set_option maxRecDepth 100000

theorem grows10 {a w : World} {g : Nat} (h : Below a.heap.size a w) : a.grownBy w (some g) := ⟨h.os, h.tape, h.output, h.size, fun k hk _ => h.block k hk⟩
theorem grown_then10 {a w w' : World} {g : Nat} (h : a.grownBy w (some g)) (hb : Below a.heap.size w w') : a.grownBy w' (some g) :=
  ⟨hb.os.trans h.os, hb.tape.trans h.tape, hb.output.trans h.output, Nat.le_trans h.size hb.size, fun k hk hne => (hb.block k hk).trans (h.block k hk hne)⟩
theorem body_world10 {P : Program} {f : Func} {Q : Ending → World → Prop} {ex : Exit} {a : Act} {w : World} (R : World → Prop) (h : R w) (k : ∀ W, R W → bodyPost P f Q ex a W) : bodyPost P f Q ex a w := k w h
theorem WRd.under {w w' : World} {g B C : Nat} {s : RdS10} (h : WRd w g B s) (hb : Below C w w') (hg : g < C) : WRd w' g B s := by
  obtain ⟨A, c, h1, h2, h3⟩ := h
  exact ⟨A, c, h1.under hb hg, h2.below hb (by omega), h3⟩
/-- what a step of a reader leaves, told of a world ahead of it -/
theorem WRo.from_ {g B : Nat} {w0 w W : World} {s : RdS10} {v : Value} {e : Ending} (hb : w0.grownBy w (some g)) (h : WRo g B v s w e W) : WRo g B v s w0 e W := ⟨h.1, h.2.1, grown_trans10 hb h.2.2⟩
set_option maxHeartbeats 1050000 in
theorem w10hard (g B : Nat) (s s1 s2 : RdS10) (t : Int) (v : Int) (w : World) (h : WRd w g B s) (l0 : s.1.length ≤ 1050000) (l1 : s1.1.length ≤ 1050000) (h1 : rdN10 s = (t, s1)) (h2 : rdN10 s1 = (v, s2)) (b0 : -9223372036854775808 ≤ v) (b1 : v ≤ 9223372036854775807) :
    Calls Tryd.prog 97 #[.pointer (some ⟨g, 0, none⟩)] w (WRo g B (.agg #[.int .i64 t, .int .i64 v]) s2 w) := by
  have hgl := h.lt
  obtain ⟨W0, hW0⟩ : ∃ W0, w.alloc (.cells #[.int .i64 0, .int .i64 0] 24) = W0 := ⟨_, rfl⟩
  have hb0 : Below w.heap.size w W0 := by rw [← hW0]; exact below_new _ _
  have hr0 : WRd W0 g B s := h.then_ hb0
  have hx0 : Rt W0 w.heap.size 24 [.int .i64 0, .int .i64 0] := by rw [← hW0]; exact Rt.new w _ _
  have hg0 : w.grownBy W0 (some g) := grows10 hb0
  have hne : w.heap.size ≠ g := by omega
  clear hb0 h
  go_enter Tryd.func97, Tryd.ntmps97
  go_wp2_with fail
  refine (w10fnum_any g B s t s1 _ hr0 l0 h1).mono ?_
  rintro e k1 ⟨rfl, hr1, hq⟩
  have hx1 := hx0.grown hq hne
  have hg1 := grown_trans10 hg0 hq
  clear hq hr0 hx0 hg0
  clear hW0
  go_wp2_with fail
  refine (w10fnum_any g B s1 v s2 _ hr1 l1 h2).mono ?_
  rintro e k2 ⟨rfl, hr2, hq⟩
  have hx2 := hx1.grown hq hne
  have hg2 := grown_trans10 hg1 hq
  clear hq hr1 hx1 hg1
  have c0 := hx2.cell (j := 0) rfl
  have f0 := hx2.frz 0
  have c1 := hx2.cell (j := 1) rfl
  have f1 := hx2.frz 1
  have WBX := Lib.hid hx2
  clear hx2
  have HR := Lib.hid hr2
  have HG := Lib.hid hg2
  clear hr2 hg2
  have hlt : w.heap.size ≤ k2.heap.size := HG.out.size
  go_wp2
  have hbs := (((Below.refl w.heap.size k2)).setCell (p := ⟨w.heap.size, 0, none⟩) (Nat.le_refl _) (.int .i64 t)).setCell (p := ⟨w.heap.size, 1, none⟩) (Nat.le_refl _) (.int .i64 v)
  have hxs : Rt _ w.heap.size 24 [.int .i64 t, .int .i64 v] := ((WBX.out.set 0 (.int .i64 t)).set 1 (.int .i64 v))
  refine body_world10 (fun W => Below w.heap.size k2 W ∧ Rt W w.heap.size 24 [.int .i64 t, .int .i64 v]) ⟨hbs, hxs⟩ ?_
  clear hbs hxs
  rintro W ⟨hbs, hxs⟩
  have d0 := hxs.cell (j := 0) rfl
  have d1 := hxs.cell (j := 1) rfl
  refine bodyPost_ret (v := .agg #[.int .i64 t, .int .i64 v]) (by simp [results, Tryd.results97, go_sem, d0, d1]) rfl ?_
  exact ⟨rfl, HR.out.under hbs hgl, grown_then10 HG.out hbs⟩
set_option maxHeartbeats 1050000 in
theorem w10entry (g B : Nat) (s s1 s2 s3 s4 : RdS10) (t : Int) (v : Int) (k : Int) (d : ByteArray) (w : World) (h : WRd w g B s) (l0 : s.1.length ≤ 1050000) (l1 : s1.1.length ≤ 1050000) (l2 : s2.1.length ≤ 1050000) (l3 : s3.1.length ≤ 1050000) (h1 : rdN10 s = (t, s1)) (h2 : rdN10 s1 = (v, s2)) (h3 : rdN10 s2 = (k, s3)) (h4 : rdT10 s3 = (d, s4)) (b0 : -9223372036854775808 ≤ k) (b1 : k ≤ 9223372036854775807) :
    Calls Tryd.prog 98 #[.pointer (some ⟨g, 0, none⟩)] w (WRo g B (.agg #[.int .i64 t, .int .i64 v, .int .i64 k, .string d]) s4 w) := by
  have hgl := h.lt
  obtain ⟨W0, hW0⟩ : ∃ W0, w.alloc (.cells #[.int .i64 0, .int .i64 0, .int .i64 0, .string ⟨#[]⟩] 41) = W0 := ⟨_, rfl⟩
  have hb0 : Below w.heap.size w W0 := by rw [← hW0]; exact below_new _ _
  have hr0 : WRd W0 g B s := h.then_ hb0
  have hx0 : Rt W0 w.heap.size 41 [.int .i64 0, .int .i64 0, .int .i64 0, .string ⟨#[]⟩] := by rw [← hW0]; exact Rt.new w _ _
  have hg0 : w.grownBy W0 (some g) := grows10 hb0
  have hne : w.heap.size ≠ g := by omega
  clear hb0 h
  go_enter Tryd.func98, Tryd.ntmps98
  go_wp2_with fail
  refine (w10fnum_any g B s t s1 _ hr0 l0 h1).mono ?_
  rintro e k1 ⟨rfl, hr1, hq⟩
  have hx1 := hx0.grown hq hne
  have hg1 := grown_trans10 hg0 hq
  clear hq hr0 hx0 hg0
  clear hW0
  go_wp2_with fail
  refine (w10fnum_any g B s1 v s2 _ hr1 l1 h2).mono ?_
  rintro e k2 ⟨rfl, hr2, hq⟩
  have hx2 := hx1.grown hq hne
  have hg2 := grown_trans10 hg1 hq
  clear hq hr1 hx1 hg1
  go_wp2_with fail
  refine (w10fnum_any g B s2 k s3 _ hr2 l2 h3).mono ?_
  rintro e k3 ⟨rfl, hr3, hq⟩
  have hx3 := hx2.grown hq hne
  have hg3 := grown_trans10 hg2 hq
  clear hq hr2 hx2 hg2
  go_wp2_with fail
  refine (w10ftxt_any g B s3 d s4 _ hr3 l3 h4).mono ?_
  rintro e k4 ⟨rfl, hr4, hq⟩
  have hx4 := hx3.grown hq hne
  have hg4 := grown_trans10 hg3 hq
  clear hq hr3 hx3 hg3
  have c0 := hx4.cell (j := 0) rfl
  have f0 := hx4.frz 0
  have c1 := hx4.cell (j := 1) rfl
  have f1 := hx4.frz 1
  have c2 := hx4.cell (j := 2) rfl
  have f2 := hx4.frz 2
  have c3 := hx4.cell (j := 3) rfl
  have f3 := hx4.frz 3
  have WBX := Lib.hid hx4
  clear hx4
  have HR := Lib.hid hr4
  have HG := Lib.hid hg4
  clear hr4 hg4
  have hlt : w.heap.size ≤ k4.heap.size := HG.out.size
  go_wp2
  have hbs := (((((Below.refl w.heap.size k4)).setCell (p := ⟨w.heap.size, 0, none⟩) (Nat.le_refl _) (.int .i64 t)).setCell (p := ⟨w.heap.size, 1, none⟩) (Nat.le_refl _) (.int .i64 v)).setCell (p := ⟨w.heap.size, 2, none⟩) (Nat.le_refl _) (.int .i64 k)).setCell (p := ⟨w.heap.size, 3, none⟩) (Nat.le_refl _) (.string d)
  have hxs : Rt _ w.heap.size 41 [.int .i64 t, .int .i64 v, .int .i64 k, .string d] := ((((WBX.out.set 0 (.int .i64 t)).set 1 (.int .i64 v)).set 2 (.int .i64 k)).set 3 (.string d))
  refine body_world10 (fun W => Below w.heap.size k4 W ∧ Rt W w.heap.size 41 [.int .i64 t, .int .i64 v, .int .i64 k, .string d]) ⟨hbs, hxs⟩ ?_
  clear hbs hxs
  rintro W ⟨hbs, hxs⟩
  have d0 := hxs.cell (j := 0) rfl
  have d1 := hxs.cell (j := 1) rfl
  have d2 := hxs.cell (j := 2) rfl
  have d3 := hxs.cell (j := 3) rfl
  refine bodyPost_ret (v := .agg #[.int .i64 t, .int .i64 v, .int .i64 k, .string d]) (by simp [results, Tryd.results98, go_sem, d0, d1, d2, d3]) rfl ?_
  exact ⟨rfl, HR.out.under hbs hgl, grown_then10 HG.out hbs⟩
set_option maxHeartbeats 1050000 in
theorem w10head (g B : Nat) (s s1 s2 s3 : RdS10) (t : Int) (v : Int) (k : ByteArray) (w : World) (h : WRd w g B s) (l0 : s.1.length ≤ 1050000) (l1 : s1.1.length ≤ 1050000) (l2 : s2.1.length ≤ 1050000) (h1 : rdN10 s = (t, s1)) (h2 : rdN10 s1 = (v, s2)) (h3 : rdT10 s2 = (k, s3)) (s4 : RdS10) (d : Int) (l3 : s3.1.length ≤ 1050000) (h4 : rdN10 s3 = (d, s4)) (b0 : -9223372036854775808 ≤ d) (b1 : d ≤ 9223372036854775807) :
    Calls Tryd.prog 61 #[.pointer (some ⟨g, 0, none⟩)] w (WRo g B (.tuple #[.agg #[.int .i64 t, .int .i64 v, .string k, .string ⟨#[]⟩], .int .i64 d]) s4 w) := by
  have hgl := h.lt
  obtain ⟨W0, hW0⟩ : ∃ W0, w.alloc (.cells #[.int .i64 0, .int .i64 0, .string ⟨#[]⟩, .string ⟨#[]⟩] 33) = W0 := ⟨_, rfl⟩
  have hb0 : Below w.heap.size w W0 := by rw [← hW0]; exact below_new _ _
  have hr0 : WRd W0 g B s := h.then_ hb0
  have hx0 : Rt W0 w.heap.size 33 [.int .i64 0, .int .i64 0, .string ⟨#[]⟩, .string ⟨#[]⟩] := by rw [← hW0]; exact Rt.new w _ _
  have hg0 : w.grownBy W0 (some g) := grows10 hb0
  have hne : w.heap.size ≠ g := by omega
  clear hb0 h
  go_enter Tryd.func61, Tryd.ntmps61
  go_wp2_with fail
  refine (w10fnum_any g B s t s1 _ hr0 l0 h1).mono ?_
  rintro e k1 ⟨rfl, hr1, hq⟩
  have hx1 := hx0.grown hq hne
  have hg1 := grown_trans10 hg0 hq
  clear hq hr0 hx0 hg0
  clear hW0
  go_wp2_with fail
  refine (w10fnum_any g B s1 v s2 _ hr1 l1 h2).mono ?_
  rintro e k2 ⟨rfl, hr2, hq⟩
  have hx2 := hx1.grown hq hne
  have hg2 := grown_trans10 hg1 hq
  clear hq hr1 hx1 hg1
  go_wp2_with fail
  refine (w10ftxt_any g B s2 k s3 _ hr2 l2 h3).mono ?_
  rintro e k3 ⟨rfl, hr3, hq⟩
  have hx3 := hx2.grown hq hne
  have hg3 := grown_trans10 hg2 hq
  clear hq hr2 hx2 hg2
  have c0 := hx3.cell (j := 0) rfl
  have f0 := hx3.frz 0
  have c1 := hx3.cell (j := 1) rfl
  have f1 := hx3.frz 1
  have c2 := hx3.cell (j := 2) rfl
  have f2 := hx3.frz 2
  have c3 := hx3.cell (j := 3) rfl
  have f3 := hx3.frz 3
  have WBX := Lib.hid hx3
  clear hx3
  have HR := Lib.hid hr3
  have HG := Lib.hid hg3
  clear hr3 hg3
  have hlt : w.heap.size ≤ k3.heap.size := HG.out.size
  go_wp2_with fail
  obtain ⟨W3, hW3⟩ : ∃ W3, k3.alloc (.cells #[.int .i64 t, .int .i64 v, .string k, .string ⟨#[]⟩] 33) = W3 := ⟨_, rfl⟩
  rw [hW3]
  have hbx : Below k3.heap.size k3 W3 := by rw [← hW3]; exact below_new _ _
  have hbd : Below k3.heap.size k3 W3.drew := hbx.drew
  have hx : Rt W3 k3.heap.size 33 [.int .i64 t, .int .i64 v, .string k, .string ⟨#[]⟩] := by rw [← hW3]; exact Rt.new k3 _ _
  have hrD : WRd W3.drew g B s3 := HR.out.then_ hbd
  have hgl3 : g < k3.heap.size := HR.out.lt
  have hxD : Rt W3.drew k3.heap.size 33 [.int .i64 t, .int .i64 v, .string k, .string ⟨#[]⟩] := hx
  have hgD : w.grownBy W3.drew (some g) := grown_then10 HG.out (hbx.mono hlt).drew
  have hw3 : w.heap.size < k3.heap.size := WBX.out.lt
  have hxw : Rt W3.drew w.heap.size 33 [.int .i64 0, .int .i64 0, .string ⟨#[]⟩, .string ⟨#[]⟩] := WBX.out.below hbd
  have hne3 : k3.heap.size ≠ g := by omega
  have nx : k3.heap.size ≠ w.heap.size := by omega
  have e0 : W3.drew.cell? ⟨k3.heap.size, 0, none⟩ = some (.int .i64 t) := hxD.cell rfl
  have e1 : W3.drew.cell? ⟨k3.heap.size, 1, none⟩ = some (.int .i64 v) := hxD.cell rfl
  have e2 : W3.drew.cell? ⟨k3.heap.size, 2, none⟩ = some (.string k) := hxD.cell rfl
  have e3 : W3.drew.cell? ⟨k3.heap.size, 3, none⟩ = some (.string ⟨#[]⟩) := hxD.cell rfl
  clear hx hbx hbd
  refine wp_region_noPanic ?_
  refine wp_region_held_drew (S := fun W => W.cell? ⟨k3.heap.size, 0, none⟩ = some (.int .i64 t) ∧ W.cell? ⟨k3.heap.size, 1, none⟩ = some (.int .i64 v) ∧ W.cell? ⟨k3.heap.size, 2, none⟩ = some (.string k) ∧ W.cell? ⟨k3.heap.size, 3, none⟩ = some (.string ⟨#[]⟩)) (by kernel_rfl) ?_ (fun hHeld => ?_)
  · exact ⟨e0, e1, e2, e3⟩
  refine wpAnyH_take (i := 0) (oi := { dst := some 12, op := Op.load 33 (Operand.tmp 4), type := 33, pos := "reader.go:49", after := #[], guard := none }) (v := .agg #[.int .i64 t, .int .i64 v, .string k, .string ⟨#[]⟩]) rfl (by kernel_rfl) (by kernel_rfl) (by kernel_rfl) (fun _ _ _ h => h) (Or.inl ⟨by rfl, fun w hSw => ?_⟩) (by assumption) ?_
  · (try dsimp only at hSw)
    go_simp
  try simp only [Act.put, List.setIfInBounds_toArray, List.set_cons_zero, List.set_cons_succ]
  refine wpAnyH_take (i := 1) (oi := { dst := some 13, op := Op.move (Operand.tmp 0), type := 131, pos := "reader.go:49", after := #[], guard := none }) (v := .pointer (some ⟨g, 0, none⟩)) rfl (by kernel_rfl) (by kernel_rfl) (by kernel_rfl) (fun _ _ _ h => h) (Or.inl ⟨by rfl, fun w hSw => ?_⟩) (by assumption) ?_
  · (try dsimp only at hSw)
    go_simp
  try simp only [Act.put, List.setIfInBounds_toArray, List.set_cons_zero, List.set_cons_succ]
  refine wpAnyH_ready (rs := [2]) (by kernel_rfl) (by simp) ?_
  refine AllReadyH.cons (o := { dst := some 14, op := Op.call { callee := Callee.value (Operand.func 80), args := #[Operand.tmp 13], argTypes := #[131] }, type := 2, pos := "reader.go:49", after := #[{ on := 1, ground := Ground.data }], guard := none }) rfl (fun K hK => ?_) AllReadyH.nil
  go_simp
  go_at_call 80
  refine (w10fnum_any g B s3 d s4 _ hrD l3 h4).mono ?_
  rintro e k4 ⟨rfl, hr4, hq⟩
  have hx4 := hxD.grown hq hne3
  have hxw4 := hxw.grown hq hne
  have hg4 := grown_trans10 hgD hq
  have z0 := hxw4.cell (j := 0) rfl
  have z1 := hxw4.cell (j := 1) rfl
  have z2 := hxw4.cell (j := 2) rfl
  have z3 := hxw4.cell (j := 3) rfl
  have y0 := hxw4.frz 0
  have y1 := hxw4.frz 1
  have y2 := hxw4.frz 2
  have y3 := hxw4.frz 3
  refine hK.out _ _ ?_ (fun hHeld => ?_)
  · exact ⟨hx4.cell rfl, hx4.cell rfl, hx4.cell rfl, hx4.cell rfl⟩
  clear hK K
  try simp only [Act.put, List.setIfInBounds_toArray, List.set_cons_zero, List.set_cons_succ]
  refine wpAnyH_ready (rs := [3]) (by kernel_rfl) (by simp) ?_
  refine AllReadyH.cons (o := { dst := none, op := Op.store 33 (Operand.tmp 2) (Operand.tmp 12), type := 0, pos := "reader.go:49", after := #[{ on := 0, ground := Ground.data }, { on := 2, ground := Ground.chain }, { on := 0, ground := Ground.phase }, { on := 1, ground := Ground.textOnly Departure.lateStores }, { on := 2, ground := Ground.textOnly Departure.lateStoresUnsure }], guard := none }) rfl (fun K hK => ?_) AllReadyH.nil
  go_simp
  refine hK.out _ _ ?_ (fun hHeld => ?_)
  · exact ⟨((((hx4.other 0 (.int .i64 t) nx).other 1 (.int .i64 v) nx).other 2 (.string k) nx).other 3 (.string ⟨#[]⟩) nx).cell rfl, ((((hx4.other 0 (.int .i64 t) nx).other 1 (.int .i64 v) nx).other 2 (.string k) nx).other 3 (.string ⟨#[]⟩) nx).cell rfl, ((((hx4.other 0 (.int .i64 t) nx).other 1 (.int .i64 v) nx).other 2 (.string k) nx).other 3 (.string ⟨#[]⟩) nx).cell rfl, ((((hx4.other 0 (.int .i64 t) nx).other 1 (.int .i64 v) nx).other 2 (.string k) nx).other 3 (.string ⟨#[]⟩) nx).cell rfl⟩
  clear hK K
  try simp only [Act.put, List.setIfInBounds_toArray, List.set_cons_zero, List.set_cons_succ]
  refine wpAnyH_ready (rs := [4]) (by kernel_rfl) (by simp) ?_
  refine AllReadyH.cons (o := { dst := some 3, op := Op.assign (Operand.tmp 14), type := 3, pos := "reader.go:49", after := #[{ on := 2, ground := Ground.data }, { on := 3, ground := Ground.chain }, { on := 0, ground := Ground.phase }, { on := 1, ground := Ground.phase }, { on := 2, ground := Ground.phase }, { on := 3, ground := Ground.phase }], guard := none }) rfl (fun K hK => ?_) AllReadyH.nil
  go_simp
  refine hK.out _ _ ?_ (fun hHeld => ?_)
  · exact ⟨((((hx4.other 0 (.int .i64 t) nx).other 1 (.int .i64 v) nx).other 2 (.string k) nx).other 3 (.string ⟨#[]⟩) nx).cell rfl, ((((hx4.other 0 (.int .i64 t) nx).other 1 (.int .i64 v) nx).other 2 (.string k) nx).other 3 (.string ⟨#[]⟩) nx).cell rfl, ((((hx4.other 0 (.int .i64 t) nx).other 1 (.int .i64 v) nx).other 2 (.string k) nx).other 3 (.string ⟨#[]⟩) nx).cell rfl, ((((hx4.other 0 (.int .i64 t) nx).other 1 (.int .i64 v) nx).other 2 (.string k) nx).other 3 (.string ⟨#[]⟩) nx).cell rfl⟩
  clear hK K
  try simp only [Act.put, List.setIfInBounds_toArray, List.set_cons_zero, List.set_cons_succ]
  refine wpAnyH_done (by kernel_rfl) ?_ _
  refine NoPanic.normal ?_
  go_wp2
  have hbs := ((((Below.refl w.heap.size k4).setCell (p := ⟨w.heap.size, 0, none⟩) (Nat.le_refl _) (.int .i64 t)).setCell (p := ⟨w.heap.size, 1, none⟩) (Nat.le_refl _) (.int .i64 v)).setCell (p := ⟨w.heap.size, 2, none⟩) (Nat.le_refl _) (.string k)).setCell (p := ⟨w.heap.size, 3, none⟩) (Nat.le_refl _) (.string ⟨#[]⟩)
  have hxs : Rt _ w.heap.size 33 [.int .i64 t, .int .i64 v, .string k, .string ⟨#[]⟩] := (((hxw4.set 0 (.int .i64 t)).set 1 (.int .i64 v)).set 2 (.string k)).set 3 (.string ⟨#[]⟩)
  refine body_world10 (fun W => Below w.heap.size k4 W ∧ Rt W w.heap.size 33 [.int .i64 t, .int .i64 v, .string k, .string ⟨#[]⟩]) ⟨hbs, hxs⟩ ?_
  clear hbs hxs
  rintro W ⟨hbs, hxs⟩
  have d0 := hxs.cell (j := 0) rfl
  have d1 := hxs.cell (j := 1) rfl
  have d2 := hxs.cell (j := 2) rfl
  have d3 := hxs.cell (j := 3) rfl
  refine bodyPost_ret (v := .tuple #[.agg #[.int .i64 t, .int .i64 v, .string k, .string ⟨#[]⟩], .int .i64 d]) (by simp [results, Tryd.results61, go_sem, d0, d1, d2, d3]) rfl ?_
  exact ⟨rfl, hr4.under hbs hgl, grown_then10 hg4 hbs⟩
set_option maxHeartbeats 400000 in
theorem w10done (g B : Nat) (s : RdS10) (w : World) (h : WRd w g B s) (hl : s.1.length ≤ 1050000) :
    Calls Tryd.prog 62 #[.pointer (some ⟨g, 0, none⟩)] w fun e w' => e = .returned (.bool (!s.2 && s.1.length == 0)) ∧ w' = w := by
  obtain ⟨l, b⟩ := s
  obtain ⟨A, c, hr, hby, _⟩ := h
  simp only at hr hl
  have c0 := hr.cell (j := 0) rfl
  have c1 := hr.cell (j := 1) rfl
  clear hr hby
  obtain ⟨n, hn⟩ : ∃ n, l.length = n := ⟨_, rfl⟩
  simp only [hn] at *
  cases b with
  | true =>
    go_enter Tryd.func62, Tryd.ntmps62
    go_wp2
    go_ret
    exact ⟨rfl, rfl⟩
  | false =>
    go_enter Tryd.func62, Tryd.ntmps62
    go_wp2
    go_ret
    refine ⟨?_, rfl⟩
    have : ((n : Int) == 0) = (n == 0) := by rw [Bool.eq_iff_iff]; simp
    simp [this]
end Go.Proofs.YtbiecoifeeikpaaDoor
/-
  Package frame's readHead reads a kind and a length as the plain function says.
  The bytes are there in memory, at most 1,000,000.
-/
set_option linter.unusedSimpArgs false
set_option linter.unusedVariables false
namespace Go.Proofs.YtbiecoifeeikpaaDoor
open Go.RowKit
set_option maxRecDepth 100000

/-- how many bytes the kind and the length at the beginning take, that length, the error -/
def headP (l : List UInt8) : Nat × Nat × Nat :=
  if l.length = 0 then (0, 0, 2)
  else if (l.headD 0).toNat = 0 then (0, 0, 3)
  else if (Nu.get (l.drop 1)).2.2 = 2 ∧ l.length ≤ 2 then (0, 0, 2)
  else if (Nu.get (l.drop 1)).2.2 ≠ 0 ∨ (Nu.get (l.drop 1)).1 < 0 ∨ 4000 < (Nu.get (l.drop 1)).1 then (0, 0, 3)
  else (1 + (Nu.get (l.drop 1)).2.1, (Nu.get (l.drop 1)).1.toNat, 0)
theorem headP_err {l : List UInt8} {a b e : Nat} (h : headP l = (a, b, e)) (he : e ≠ 0) : openB l = (0, [], 0, e) ∧ a = 0 ∧ b = 0 := by
  unfold headP at h
  unfold openB
  by_cases h1 : l.length = 0
  · rw [if_pos h1] at h ⊢; simp only [Prod.mk.injEq] at h; obtain ⟨rfl, rfl, rfl⟩ := h; exact ⟨rfl, rfl, rfl⟩
  rw [if_neg h1] at h ⊢
  by_cases h2 : (l.headD 0).toNat = 0
  · rw [if_pos h2] at h ⊢; simp only [Prod.mk.injEq] at h; obtain ⟨rfl, rfl, rfl⟩ := h; exact ⟨rfl, rfl, rfl⟩
  rw [if_neg h2] at h ⊢
  by_cases h3 : (Nu.get (l.drop 1)).2.2 = 2
  · by_cases h4 : l.length ≤ 2
    · rw [if_pos ⟨h3, h4⟩] at h
      rw [if_neg (by omega), if_pos h3]
      simp only [Prod.mk.injEq] at h; obtain ⟨rfl, rfl, rfl⟩ := h; exact ⟨rfl, rfl, rfl⟩
    · rw [if_neg (fun h => h4 h.2), if_pos (.inl (by omega))] at h
      rw [if_pos ⟨h3, by omega⟩]
      simp only [Prod.mk.injEq] at h; obtain ⟨rfl, rfl, rfl⟩ := h; exact ⟨rfl, rfl, rfl⟩
  · rw [if_neg (fun h => h3 h.1)] at h ⊢
    rw [if_neg h3]
    by_cases h5 : (Nu.get (l.drop 1)).2.2 ≠ 0 ∨ (Nu.get (l.drop 1)).1 < 0 ∨ 4000 < (Nu.get (l.drop 1)).1
    · rw [if_pos h5] at h ⊢; simp only [Prod.mk.injEq] at h; obtain ⟨rfl, rfl, rfl⟩ := h; exact ⟨rfl, rfl, rfl⟩
    · rw [if_neg h5] at h
      simp only [Prod.mk.injEq] at h; exact absurd h.2.2.symm he
theorem headP_ok {l : List UInt8} {a n : Nat} (h : headP l = (a, n, 0)) : ∃ (x : UInt8) (r : List UInt8), l = x :: (Nu.put (n : Int) ++ r) ∧ a = 1 + (Nu.put (n : Int)).length ∧ x.toNat ≠ 0 ∧ n ≤ 4000 := by
  unfold headP at h
  by_cases h1 : l.length = 0
  · rw [if_pos h1] at h; simp at h
  rw [if_neg h1] at h
  by_cases h2 : (l.headD 0).toNat = 0
  · rw [if_pos h2] at h; simp at h
  rw [if_neg h2] at h
  by_cases h3 : (Nu.get (l.drop 1)).2.2 = 2 ∧ l.length ≤ 2
  · rw [if_pos h3] at h; simp at h
  rw [if_neg h3] at h
  by_cases h5 : (Nu.get (l.drop 1)).2.2 ≠ 0 ∨ (Nu.get (l.drop 1)).1 < 0 ∨ 4000 < (Nu.get (l.drop 1)).1
  · rw [if_pos h5] at h; simp at h
  rw [if_neg h5] at h
  simp only [Prod.mk.injEq, and_true] at h
  obtain ⟨rfl, rfl⟩ := h
  obtain ⟨x, t, rfl⟩ : ∃ x t, l = x :: t := by cases l with | nil => simp at h1 | cons x t => exact ⟨x, t, rfl⟩
  simp only [List.drop_succ_cons, List.drop_zero] at h5 ⊢
  obtain ⟨g, hg⟩ : ∃ g, Nu.get t = g := ⟨_, rfl⟩
  obtain ⟨m, k, e⟩ := g
  rw [hg] at h5 ⊢
  simp only at h5 ⊢
  have he : e = 0 := by omega
  subst he
  have hm : ((m.toNat : Nat) : Int) = m := by omega
  rw [hm]
  exact ⟨x, t.drop k, by rw [← Nu.get_split t m k hg], by rw [(Nu.get_canon t m k hg).2.1], h2, by omega⟩
set_option maxHeartbeats 1050000 in
theorem fhead_any (A : Option Addr) (c B : Nat) (l : List UInt8) (w : World) (h : Byt w B (.slice A l.length c) l) (hl : l.length ≤ 1050000) :
    Calls Tryd.prog 92 #[.slice A l.length c] w fun e w' => e = .returned (.tuple #[.int .i64 ((headP l).1 : Nat), .int .i64 ((headP l).2.1 : Nat), .int .i64 ((headP l).2.2 : Nat)]) ∧ w = w' := by
  obtain ⟨A', c', hv, hc, hcell⟩ := id h
  injection hv with e1 _ e2; subst e1; subst e2
  by_cases h0 : l.length = 0
  · have hf : headP l = (0, 0, 2) := by unfold headP; rw [if_pos h0]
    have h00 : (l.length : Int) = 0 := by omega
    rw [hf]
    clear hf h0
    go_enter Tryd.func92, Tryd.ntmps92
    go_wp2
    go_ret3
    exact ⟨rfl, rfl⟩
  · obtain ⟨g, o, rfl, hg, hcs⟩ := hcell (by omega)
    obtain ⟨x, t, rfl⟩ : ∃ x t, l = x :: t := by cases l with | nil => simp at h0 | cons x t => exact ⟨x, t, rfl⟩
    have hx0 : w.cell? ⟨g, o, none⟩ = some (.int .u8 (x.toNat : Int)) := hcs 0 (by simp)
    have hb := x.toNat_lt
    by_cases hz : x.toNat = 0
    · have hf : headP (x :: t) = (0, 0, 3) := by unfold headP; rw [if_neg (by simp), if_pos (show ((x :: t).headD 0).toNat = 0 from hz)]
      have hz2 : ((x.toNat : Int) == 0) = true := by rw [hz]; rfl
      rw [hf]
      clear hf hz
      go_enter Tryd.func92, Tryd.ntmps92
      go_wp2
      go_ret3
      exact ⟨rfl, rfl⟩
    · have hz2 : ((x.toNat : Int) == 0) = false := by rw [beq_eq_false_iff_ne]; omega
      obtain ⟨gg, hgg⟩ : ∃ gg, Nu.get t = gg := ⟨_, rfl⟩
      obtain ⟨n, k, e⟩ := gg
      have hop : headP (x :: t) = if e = 2 ∧ t.length + 1 ≤ 2 then (0, 0, 2) else if e ≠ 0 ∨ n < 0 ∨ 4000 < n then (0, 0, 3) else (1 + k, n.toNat, 0) := by
        unfold headP
        rw [if_neg (by simp), if_neg (show ¬ ((x :: t).headD 0).toNat = 0 from hz)]
        simp only [List.length_cons, List.drop_succ_cons, List.drop_zero, hgg]
      clear hz
      by_cases hc1 : c = 1
      · have ht : t = [] := by cases t with | nil => rfl | cons y s => simp at hc; omega
        subst ht
        have hn0 : Nu.get [] = (0, 0, 2) := rfl
        rw [hn0] at hgg
        simp only [Prod.mk.injEq] at hgg
        obtain ⟨rfl, rfl, rfl⟩ := hgg
        rw [if_pos ⟨rfl, by simp⟩] at hop
        rw [hop]
        subst hc1
        have hby : Byt w B (.slice (some ⟨g, o, none⟩) 0 0) [] := ⟨_, _, rfl, Nat.le_refl _, fun h => absurd h (by simp)⟩
        have HBY := Lib.hid hby
        clear hcs hcell h hby hop
        go_enter Tryd.func92, Tryd.ntmps92
        go_wp2_with fail
        refine (nget_any _ _ B [] w HBY.out (by simp)).mono ?_
        rintro e' w' ⟨rfl, rfl⟩
        go_wp2
        go_ret3
        exact ⟨rfl, rfl⟩
      · have hcut := h.cut (k := 1) (by simp)
        rw [if_neg hc1, add_lit] at hcut
        simp only [List.length_cons, Nat.add_sub_cancel, List.drop_succ_cons, List.drop_zero] at hcut
        have HCUT := Lib.hid hcut; clear hcut
        clear hcs hcell h
        have hget : ∀ (w : World), Byt w B (.slice (some ⟨g, o + 1, none⟩) t.length (c - 1)) t → Calls Tryd.prog 94 #[.slice (some ⟨g, o + 1, none⟩) t.length (c - 1)] w fun x w' => x = .returned (.tuple #[.int .i64 n, .int .i64 k, .int .i64 e]) ∧ w = w' := fun w hw => by
          have := nget_any _ _ B t w hw (by simp at hl; omega)
          rw [hgg] at this; exact this
        have HGET := Lib.hid hget; clear hget
        have hlc : (t.length : Int) + 1 ≤ (c : Int) := by simp at hc; omega
        have htl : t.length ≤ 1050000 := by simp at hl; omega
        have hkt := Nu.get_len t
        rw [hgg] at hkt
        simp only at hkt
        have he3 := Nu.get_err t
        rw [hgg] at he3
        simp only at he3
        have fin : ∀ (a b c : Nat), headP (x :: t) = (a, b, c) → (.int .i64 ((headP (x :: t)).1 : Nat) : Value) = .int .i64 (a : Int) ∧ (.int .i64 ((headP (x :: t)).2.1 : Nat) : Value) = .int .i64 (b : Int) ∧ (.int .i64 ((headP (x :: t)).2.2 : Nat) : Value) = .int .i64 (c : Int) := fun a b c h => by rw [h]; exact ⟨rfl, rfl, rfl⟩
        have HFIN := Lib.hid fin; clear fin
        by_cases he2 : e = 2
        · subst he2
          clear hgg he3
          by_cases hl2 : t.length + 1 ≤ 2
          · rw [if_pos ⟨rfl, hl2⟩] at hop
            have hl3 : (t.length : Int) + 1 ≤ 2 := by omega
            rw [hop]; clear hop
            go_enter Tryd.func92, Tryd.ntmps92
            go_wp2_with fail
            refine (HGET.out w HCUT.out).mono ?_
            rintro e' w' ⟨rfl, rfl⟩
            go_wp2
            go_ret3
            exact ⟨rfl, rfl⟩
          · rw [if_neg (fun h => hl2 h.2), if_pos (.inl (by omega))] at hop
            have hl3 : 2 < (t.length : Int) + 1 := by omega
            rw [hop]; clear hop
            go_enter Tryd.func92, Tryd.ntmps92
            go_wp2_with fail
            refine (HGET.out w HCUT.out).mono ?_
            rintro e' w' ⟨rfl, rfl⟩
            go_wp2
            go_ret3
            exact ⟨rfl, rfl⟩
        · rw [if_neg (fun h => he2 h.1)] at hop
          by_cases he0 : e = 0
          · subst he0
            obtain ⟨hn0, hn1⟩ := (Nu.get_canon t n k hgg).2.2
            clear hgg he3 he2
            by_cases hn : n < 0 ∨ 4000 < n
            · rw [if_pos (.inr hn)] at hop
              rw [hop]; clear hop
              have hcs : n < 0 ∨ (0 ≤ n ∧ 4000 < n) := by omega
              clear hn
              rcases hcs with h1 | ⟨h1, h2⟩
              all_goals
                go_enter Tryd.func92, Tryd.ntmps92
                go_wp2_with fail
                refine (HGET.out w HCUT.out).mono ?_
                rintro e' w' ⟨rfl, rfl⟩
                go_wp2
                go_ret3
                exact ⟨rfl, rfl⟩
            · rw [if_neg (by omega)] at hop
              rw [hop]; clear hop
              have h1 : 0 ≤ n := by omega
              have h2 : n ≤ 4000 := by omega
              obtain ⟨m, rfl⟩ : ∃ m : Nat, n = (m : Int) := ⟨n.toNat, by omega⟩
              clear hn hn0 hn1
              go_enter Tryd.func92, Tryd.ntmps92
              go_wp2_with fail
              refine (HGET.out w HCUT.out).mono ?_
              rintro e' w' ⟨rfl, rfl⟩
              go_wp2
              go_ret3
              exact ⟨by simp, rfl⟩
          · have he1 : e = 1 := by omega
            subst he1
            rw [if_pos (.inl (by omega))] at hop
            rw [hop]; clear hop hgg
            go_enter Tryd.func92, Tryd.ntmps92
            go_wp2_with fail
            refine (HGET.out w HCUT.out).mono ?_
            rintro e' w' ⟨rfl, rfl⟩
            go_wp2
            go_ret3
            exact ⟨rfl, rfl⟩
end Go.Proofs.YtbiecoifeeikpaaDoor
/-
  Library contracts at this program: Clone, Equal of texts and bytes.
-/
namespace Go.Proofs
open Go.Shelf
def Tryd.laysM316_ren : Go.Shelf.Ren := ⟨fun | 316 => 71 | n => n, fun | 9 => 9 | 3 => 3 | 4 => 4 | 37 => 46 | 0 => 0 | 127 => 138 | 5 => 5 | n => n, fun | n => n⟩
theorem Tryd.laysM316 : Go.Proofs.LaysM.n316 Tryd.prog Tryd.laysM316_ren := {
  mixed := by kernel_rfl
  f316 := Tryd.func71.trans (congrArg some (by kernel_rfl))
  t0 := Tryd.underlying0
  a0 := Tryd.isAgg0
  z0 := Tryd.sizeOf0
  v0 := Tryd.zeroValue0
  t3 := Tryd.underlying3
  a3 := Tryd.isAgg3
  z3 := Tryd.sizeOf3
  v3 := Tryd.zeroValue3
  t4 := Tryd.underlying4
  a4 := Tryd.isAgg4
  z4 := Tryd.sizeOf4
  v4 := Tryd.zeroValue4
  t9 := Tryd.underlying9
  a9 := Tryd.isAgg9
  z9 := Tryd.sizeOf9
  v9 := Tryd.zeroValue9
  t37 := Tryd.underlying46
  a37 := Tryd.isAgg46
  z37 := Tryd.sizeOf46
  v37 := Tryd.zeroValue46
  t127 := Tryd.underlying138
  a127 := Tryd.isAgg138
  z127 := Tryd.sizeOf138
  v127 := Tryd.zeroValue138
  t5 := Tryd.underlying5
  a5 := Tryd.isAgg5
  z5 := Tryd.sizeOf5
  v5 := Tryd.zeroValue5
  i0 := by kernel_rfl
  i3 := by kernel_rfl
  i4 := by kernel_rfl
  i5 := by kernel_rfl
  i9 := by kernel_rfl
  i37 := by kernel_rfl
  i127 := by kernel_rfl }
open Go.RowKit in
theorem Tryd.stringslite_Clone (s : ByteArray) (w : World) (hlim : s.size ≤ 281474976710656) :
    Calls Tryd.prog 71 #[.string s] w fun e w' => e = .returned (.string s) ∧ Below w.heap.size w w' := Any.stringslite_Clone Tryd.laysM316 s w hlim
def Tryd.lays115_ren : Go.Shelf.Ren := ⟨fun | 115 => 93 | n => n, fun | 37 => 46 | 4 => 4 | 9 => 9 | 5 => 5 | n => n, fun | n => n⟩
theorem Tryd.lays115 : Go.Proofs.Lays.n115 Tryd.prog Tryd.lays115_ren := {
  mixed := by kernel_rfl
  f115 := Tryd.func93.trans (congrArg some (by kernel_rfl))
  t4 := Tryd.underlying4
  a4 := Tryd.isAgg4
  z4 := Tryd.sizeOf4
  v4 := Tryd.zeroValue4
  t9 := Tryd.underlying9
  a9 := Tryd.isAgg9
  z9 := Tryd.sizeOf9
  v9 := Tryd.zeroValue9
  t37 := Tryd.underlying46
  a37 := Tryd.isAgg46
  z37 := Tryd.sizeOf46
  v37 := Tryd.zeroValue46 }
open Go.Proofs Go.RowKit Go.Lib in
theorem Tryd.bytes_Equal_strs (v1 v2 : Value) (t1 t2 : ByteArray) (w : World) (h1 : (convert 46 9 v1).run Tryd.prog w = .ok (.string t1) w) (h2 : (convert 46 9 v2).run Tryd.prog w = .ok (.string t2) w) :
    Calls Tryd.prog 93 #[v1, v2] w fun e w' => e = .returned (.bool (t1.toList == t2.toList)) ∧ w' = w := Any.bytes_Equal_strs Tryd.lays115 v1 v2 t1 t2 w h1 h2
def Tryd.laysSlK4_ren : Go.Shelf.Ren := ⟨fun | 4 => 31 | n => n, fun | 22 => 46 | 4 => 4 | 5 => 5 | n => n, fun | n => n⟩
theorem Tryd.laysSlK4 : Go.Proofs.SlLaysK.n4 Tryd.prog Tryd.laysSlK4_ren := {
  mixed := by kernel_rfl
  f4 := Tryd.func31.trans (congrArg some (by kernel_rfl))
  t4 := Tryd.underlying4
  a4 := Tryd.isAgg4
  z4 := Tryd.sizeOf4
  v4 := Tryd.zeroValue4
  t22 := Tryd.underlying46
  a22 := Tryd.isAgg46
  z22 := Tryd.sizeOf46
  v22 := Tryd.zeroValue46
  t5 := Tryd.underlying5
  i5 := by kernel_rfl }
open Go.RowKit Go.Lib in
theorem Tryd.bytes_Clone_at (a : Addr) (n c : Nat) (xs : List Int) (w : World) (hx : xs.length = n) (hbig : n ≤ 140737488355328) (hc : ∀ i, i < n → w.cell? (a.add i) = some (.int .u8 (xs.getD i 0))) :
    Calls Tryd.prog 31 #[.slice (some a) n c] w fun e w' => ∃ v', e = .returned v' ∧ w'.ownsRow w.heap.size 5 1 v' n (xs.map (Value.int .u8)) ∧ v' ≠ .slice none 0 0 ∧ Below w.heap.size w w' := Any.bytes_Clone_at Tryd.laysSlK4 a n c xs w hx hbig hc
open Go.RowKit Go.Lib in
theorem Tryd.bytes_Clone_nil (n c : Nat) (w : World) :
    Calls Tryd.prog 31 #[.slice none n c] w fun e w' => e = .returned (.slice none 0 0) ∧ w' = w := Any.bytes_Clone_nil Tryd.laysSlK4 n c w
def Tryd.laysnb115_ren : Go.Shelf.Ren := ⟨fun | 115 => 93 | n => n, fun | 37 => 46 | 4 => 4 | 9 => 9 | 5 => 5 | n => n, fun | n => n⟩
theorem Tryd.laysnb115 : Go.Proofs.Lays.nb115 Tryd.prog Tryd.laysnb115_ren := {
  mixed := by kernel_rfl
  f115 := Tryd.func93.trans (congrArg some (by kernel_rfl))
  t4 := Tryd.underlying4
  a4 := Tryd.isAgg4
  z4 := Tryd.sizeOf4
  v4 := Tryd.zeroValue4
  t9 := Tryd.underlying9
  a9 := Tryd.isAgg9
  z9 := Tryd.sizeOf9
  v9 := Tryd.zeroValue9
  t37 := Tryd.underlying46
  a37 := Tryd.isAgg46
  z37 := Tryd.sizeOf46
  v37 := Tryd.zeroValue46
  t5 := Tryd.underlying5
  a5 := Tryd.isAgg5
  z5 := Tryd.sizeOf5
  v5 := Tryd.zeroValue5 }
theorem Tryd.bytes_Equal_all (p1 p2 : Option Addr) (n c m d : Nat) (xs ys : List Int) (w : World) (hx : xs.length = n) (hy : ys.length = m) (h1 : Lib.BytesIn w p1 n xs) (h2 : Lib.BytesIn w p2 m ys) :
    Calls Tryd.prog 93 #[.slice p1 n c, .slice p2 m d] w fun e w' => e = .returned (.bool (Lib.bytesOf xs == Lib.bytesOf ys)) ∧ w' = w := Any.bytes_Equal_all Tryd.laysnb115 p1 p2 n c m d xs ys w hx hy h1 h2
theorem Tryd.bytes_Equal (v1 v2 : Value) (xs ys : List Int) (w : World) (h1 : (convert 46 9 v1).run Tryd.prog w = .ok (.string (strOfNums xs)) w) (h2 : (convert 46 9 v2).run Tryd.prog w = .ok (.string (strOfNums ys)) w) :
    Calls Tryd.prog 93 #[v1, v2] w fun e w' => e = .returned (.bool (Lib.bytesOf xs == Lib.bytesOf ys)) ∧ w' = w := Any.bytes_Equal Tryd.lays115 v1 v2 xs ys w h1 h2
end Go.Proofs
/-
  bytes.Equal and bytes.Clone over slices that read as bytes.
  There are no conditions beyond those that each lemma names.
-/
set_option linter.unusedSimpArgs false
set_option linter.unusedVariables false
namespace Go.Proofs.YtbiecoifeeikpaaDoor
open Go.RowKit
set_option maxRecDepth 100000

theorem bytesIn_of {w : World} {B : Nat} {A : Option Addr} {n c : Nat} {l : List UInt8} (h : Byt w B (.slice A n c) l) : Lib.BytesIn w A n (l.map fun x => (x.toNat : Int)) := by
  obtain ⟨A', c', hv, _, hcell⟩ := h
  injection hv with e1 e2 _; subst e1; subst e2
  intro hn
  obtain ⟨g, o, rfl, _, hcs⟩ := hcell hn
  refine ⟨g, o, rfl, fun i hi => ?_⟩
  rw [hcs i hi]; simp [hi]
theorem lib_bytesOf (l : List UInt8) : Lib.bytesOf (l.map fun x => (x.toNat : Int)) = l := by
  unfold Lib.bytesOf; rw [List.map_map]
  conv => rhs; rw [← List.map_id l]
  apply List.map_congr_left; intro x _; simp
theorem byt_len {w : World} {B n c : Nat} {A : Option Addr} {l : List UInt8} (h : Byt w B (.slice A n c) l) : n = l.length ∧ l.length ≤ c := by
  obtain ⟨_, _, hv, hc, _⟩ := h; injection hv with _ e1 e2; subst e2; exact ⟨e1, hc⟩
theorem bequal_is (A1 A2 : Option Addr) (n1 n2 c1 c2 B1 B2 : Nat) (l m : List UInt8) (b : Bool) (w : World) (h1 : Byt w B1 (.slice A1 n1 c1) l) (h2 : Byt w B2 (.slice A2 n2 c2) m) (hb : (l == m) = b) :
    Calls Tryd.prog 93 #[.slice A1 n1 c1, .slice A2 n2 c2] w fun e w' => e = .returned (.bool b) ∧ w' = w := by
  have h := Tryd.bytes_Equal_all A1 A2 n1 c1 n2 c2 _ _ w (by rw [List.length_map, (byt_len h1).1]) (by rw [List.length_map, (byt_len h2).1]) (bytesIn_of h1) (bytesIn_of h2)
  rw [lib_bytesOf, lib_bytesOf, hb] at h
  exact h
theorem bequal_to (u v : Value) (B1 B2 : Nat) (l m : List UInt8) (b : Bool) (w : World) (h1 : Byt w B1 u l) (h2 : Byt w B2 v m) (hb : (l == m) = b) :
    Calls Tryd.prog 93 #[u, v] w fun e w' => e = .returned (.bool b) ∧ Below w.heap.size w w' := by
  obtain ⟨A1, c1, rfl, r1⟩ := id h1
  obtain ⟨A2, c2, rfl, r2⟩ := id h2
  refine (bequal_is _ _ _ _ _ _ _ _ l m b w h1 h2 hb).mono ?_
  rintro e w' ⟨rfl, rfl⟩
  exact ⟨rfl, Below.refl _ _⟩
theorem bclone_is (A : Option Addr) (n c B : Nat) (l : List UInt8) (w : World) (h : Byt w B (.slice A n c) l) (hl : l.length ≤ 1050000) :
    Calls Tryd.prog 31 #[.slice A n c] w (Made l w) := by
  obtain ⟨A', c', hv, _, hcell⟩ := h
  injection hv with e1 e2 _; subst e1; subst e2
  cases A with
  | none =>
    have h0 : l = [] := by
      cases l with
      | nil => rfl
      | cons x t => obtain ⟨g, o, h, _⟩ := hcell (by simp); cases h
    subst h0
    refine (Tryd.bytes_Clone_nil _ _ w).mono ?_
    rintro e w' ⟨rfl, rfl⟩
    exact ⟨_, rfl, ownB_nil _ _, Below.refl _ _⟩
  | some a =>
    refine (Tryd.bytes_Clone_at a l.length c (l.map fun x => (x.toNat : Int)) w (by simp) (by omega) (fun i hi => ?_)).mono ?_
    · obtain ⟨g, o, h, _, hcs⟩ := hcell (by omega)
      injection h with h; subst h
      rw [Addr.add_mid, hcs i hi]; simp [hi]
    · rintro e w' ⟨v', rfl, hown, _, hb⟩
      refine ⟨v', rfl, ?_, hb⟩
      unfold OwnB Lib.byteCells
      rw [List.map_map] at hown
      exact hown
theorem bclone_to (v : Value) (B : Nat) (l : List UInt8) (w : World) (h : Byt w B v l) (hl : l.length ≤ 1050000) : Calls Tryd.prog 31 #[v] w (Made l w) := by
  obtain ⟨A, c, rfl, _⟩ := id h
  exact bclone_is A l.length c B l w h hl
theorem conv_byt {w : World} {B : Nat} {v : Value} {l : List UInt8} {S : ByteArray} (h : Byt w B v l) (hS : (⟨l.toArray⟩ : ByteArray) = S) : (convert 46 9 v).run Tryd.prog w = .ok (.string S) w := by
  obtain ⟨A, c, rfl, _⟩ := id h
  rw [(bytesIn_of h).convert (by rw [List.length_map]) c 46 5 9 Tryd.underlying46 Tryd.underlying5 Tryd.underlying9, ← hS]
  congr 2
  unfold strOfNums
  rw [List.map_map]
  congr 2
  conv => rhs; rw [← List.map_id l]
  apply List.map_congr_left; intro x _; simp
/-- a part of bytes -/
theorem byt_sub {w : World} {B : Nat} {A : Option Addr} {c i n : Nat} {l : List UInt8} (h : Byt w B (.slice A l.length c) l) (hk : i + n ≤ l.length) : Byt w B (.slice (if c = i then A else A.map (·.add i)) n (c - i)) ((l.drop i).take n) := by
  have h2 := h.cut (k := i) (by omega)
  obtain ⟨A', c', hv, hc, hcell⟩ := h2
  injection hv with e1 e2 e3; subst e3
  rw [← e1] at hcell
  have e : ((l.drop i).take n).length = n := by rw [List.length_take, List.length_drop]; omega
  refine ⟨_, c - i, by rw [e], by rw [e]; omega, fun h0 => ?_⟩
  rw [e] at h0
  obtain ⟨g, o, hA, hg, hcs⟩ := hcell (by omega)
  refine ⟨g, o, hA, hg, fun k hk => ?_⟩
  rw [e] at hk
  rw [hcs k (by rw [List.length_drop]; omega), List.getElem_take]
theorem byt_take2 {w : World} {B n c : Nat} {A : Option Addr} {l : List UInt8} (h : Byt w B (.slice A l.length c) l) (hn : n ≤ l.length) : Byt w B (.slice A n c) (l.take n) := by
  have h2 := byt_sub (i := 0) (n := n) h (by omega)
  rw [List.drop_zero, Nat.sub_zero] at h2
  have e : (if c = 0 then A else A.map (·.add 0)) = A := by
    split
    · rfl
    · cases A <;> simp [Addr.add]
  rw [e] at h2; exact h2
end Go.Proofs.YtbiecoifeeikpaaDoor
/-
  Package frame's Open reads a frame as the plain function says, its body in new memory.
  The bytes are there in memory, at most 1,000,000; package crc's table lies as it was laid.
-/
set_option linter.unusedSimpArgs false
set_option linter.unusedVariables false
namespace Go.Proofs.YtbiecoifeeikpaaDoor
open Go.RowKit
set_option maxRecDepth 100000

/-- a frame that was told, its body in memory of its own -/
def GotO (r : Nat × List UInt8 × Nat × Nat) (w : World) (e : Ending) (w' : World) : Prop := ∃ v, e = .returned (.tuple #[.int .i64 (r.1 : Nat), v, .int .i64 (r.2.2.1 : Nat), .int .i64 (r.2.2.2 : Nat)]) ∧ OwnB w.heap.size v r.2.1 w' ∧ Below w.heap.size w w'
set_option maxHeartbeats 1050000 in
theorem fopen_any (A : Option Addr) (c B : Nat) (l : List UInt8) (w : World) (h : Byt w B (.slice A l.length c) l) (hB : B ≤ w.heap.size) (hl : l.length ≤ 1050000) (hT : Tbl w) :
    Calls Tryd.prog 79 #[.slice A l.length c] w (GotO (openB l) w) := by
  have hcap : l.length ≤ c := (byt_len h).2
  have HB := Lib.hid h
  have HT := Lib.hid hT; clear hT
  have hhd := fhead_any A c B l w h hl
  obtain ⟨r, hr⟩ : ∃ r, headP l = r := ⟨_, rfl⟩
  rw [hr] at hhd
  have HHD := Lib.hid hhd; clear hhd
  obtain ⟨a, n, e⟩ := r
  by_cases he : e = 0
  · subst he
    obtain ⟨x, r, hlr, ha, hx, hn⟩ := headP_ok hr
    have hop := openB_at x n r hx hn
    rw [← hlr] at hop
    have hP1 := Nu.put_ne (n : Int)
    have hll : l.length = a + r.length := by rw [hlr, ha]; simp; omega
    obtain ⟨P, hP⟩ : ∃ P, Nu.put (n : Int) = P := ⟨_, rfl⟩
    rw [hP] at hop hlr ha hP1
    clear hr
    have hPm : P.length ≤ 10 := by rw [← hP]; exact Nu.put_len _
    have ha1 : (a : Int) ≤ 11 := by omega
    have hn1 : (n : Int) ≤ 4000 := by omega
    by_cases hfew : r.length < 4 + n
    · rw [if_pos hfew] at hop
      rw [hop]
      have hto : (l.length : Int) < (a : Int) + 4 + n := by omega
      clear hop hlr ha hP1 hP hx h hll hfew hPm
      go_enter Tryd.func79, Tryd.ntmps79
      go_wp2_with fail
      refine HHD.out.mono ?_
      rintro e' w' ⟨rfl, rfl⟩
      go_wp2
      exact bodyPost_ret (v := .tuple #[.int .i64 0, .slice none 0 0, .int .i64 0, .int .i64 2]) (by simp [results, Tryd.results79, go_sem]) rfl ⟨_, rfl, ownB_nil _ _, Below.refl _ _⟩
    · rw [if_neg hfew] at hop
      have hto : (a : Int) + 4 + n ≤ l.length := by omega
      have hbh := byt_take2 (n := a) h (by omega)
      have hbf := byt_sub (i := a) (n := 4) h (by omega)
      have hbb := byt_sub (i := a + 4) (n := n) h (by omega)
      have e1 : l.take a = x :: P := by rw [hlr, ha, Nat.add_comm 1, List.take_succ_cons, List.take_left' rfl]
      have e2 : l.drop a = r := by rw [hlr, ha, Nat.add_comm 1, List.drop_succ_cons, List.drop_left' rfl]
      have e3 : l.drop (a + 4) = r.drop 4 := by rw [← List.drop_drop, e2]
      rw [e1] at hbh
      rw [e2] at hbf
      rw [e3] at hbb
      obtain ⟨bd, hbd⟩ : ∃ bd, (r.drop 4).take n = bd := ⟨_, rfl⟩
      obtain ⟨s, hs⟩ : ∃ s, crcSum (x :: P ++ bd) = s := ⟨_, rfl⟩
      rw [hbd, hs] at hop
      rw [hbd] at hbb
      obtain ⟨g, o, rfl, hg, hcs⟩ : ∃ g o, A = some ⟨g, o, none⟩ ∧ g < B ∧ ∀ j (h : j < l.length), w.cell? ⟨g, o + j, none⟩ = some (.int .u8 (l[j].toNat : Int)) := by
        obtain ⟨A', c', hv, _, hcell⟩ := id h
        injection hv with e1 _ e2; subst e1; subst e2
        exact hcell (by omega)
      have hx0 : w.cell? ⟨g, o, none⟩ = some (.int .u8 (x.toNat : Int)) := by
        have := hcs 0 (by omega)
        rw [Nat.add_zero] at this
        rw [this]; subst hlr; rfl
      rw [if_neg (by omega), add_lit] at hbf
      have hbdl : bd.length ≤ 1050000 := by rw [← hbd, List.length_take, List.length_drop]; omega
      have hPl : (x :: P).length ≤ 1050000 := by simp; omega
      have HOP := Lib.hid hop; have HBH := Lib.hid hbh; have HBF := Lib.hid hbf; have HBB := Lib.hid hbb; have HS := Lib.hid hs; have HA := Lib.hid ha; have HBDL := Lib.hid hbdl; have HPL := Lib.hid hPl
      have hcap4 : (a : Int) + 4 + n ≤ c := by omega
      clear h hcs e1 e2 e3 hlr hbd hop hbh hbf hbb hs hP ha hP1 hPm hx hll hfew hbdl hPl
      obtain ⟨R, hR⟩ : ∃ R, openB l = R := ⟨_, rfl⟩
      rw [hR] at HOP ⊢
      clear hR
      go_enter Tryd.func79, Tryd.ntmps79
      go_wp2_with fail
      refine HHD.out.mono ?_
      rintro e' w' ⟨rfl, rfl⟩
      go_upto_region 9 with fail
      rw [add_lit, show a + 4 + n - (a + 4) = n by omega] at *
      generalize hV : Value.slice (if c = a + 4 then some ⟨g, o, none⟩ else some ⟨g, o + (a + 4), none⟩) n (c - (a + 4)) = V at *
      clear hV
      have hb : Below w.heap.size w w := Below.refl _ _
      have hf1 : 0 ≤ (a : Int) + 4 := by omega
      have hf2 : (a : Int) + 4 ≤ c := by omega
      have hf3 : a ≤ ((a : Int) + 4).toNat := by omega
      have hf4 : ¬ c = a := by omega
      have hf5 : ((a : Int) + 4).toNat - a = 4 := by omega
      have hf7 : ¬ c < a := by omega
      have hf8 : ¬ l = [] := fun e => by rw [e] at hto; simp at hto; omega
      have hf9 : IntKind.i64.wrap (x.toNat : Int) = (x.toNat : Int) := by have := x.toNat_lt; exact IntWalk.i64_in _ (by omega)
      have lt0 : g < w.heap.size := Nat.lt_of_lt_of_le hg hB
      obtain ⟨q, hq⟩ : ∃ q, (r.take 4 == fourB s) = q := ⟨_, rfl⟩
      have HQ := Lib.hid hq; clear hq
      replace hx0 : w.drew.cell? ⟨g, o, none⟩ = some (.int .u8 (x.toNat : Int)) := hx0
      replace HBH := Lib.hid ((HBH.out).below ((Below.refl w.heap.size w).drew) (Nat.le_trans hB hb.size))
      replace HBF := Lib.hid ((HBF.out).below ((Below.refl w.heap.size w).drew) (Nat.le_trans hB hb.size))
      replace HBB := Lib.hid ((HBB.out).below ((Below.refl w.heap.size w).drew) (Nat.le_trans hB hb.size))
      replace HT := Lib.hid (tbl_keep (HT.out) ((Below.refl w.heap.size w).drew))
      refine wp_region_noPanic ?_
      refine wp_region_held_drew (S := fun W => W.cell? ⟨g, o, none⟩ = some (.int .u8 (x.toNat : Int))) (by kernel_rfl) ?_ (fun hHeld => ?_)
      · exact hx0
      replace hb : Below w.heap.size w w.drew := hb.drew
      replace lt0 : g < w.drew.heap.size := lt0
      have hzd : w.heap.size ≤ w.drew.heap.size := Nat.le_refl _
      generalize w.drew = k1 at *
      refine wpAnyH_take (i := 0) (oi := { dst := some 34, op := Op.move (Operand.tmp 0), type := 46, pos := "frame.go:49", after := #[], guard := none }) (v := .slice (some ⟨g, o, none⟩) l.length c) rfl (by kernel_rfl) (by kernel_rfl) (by kernel_rfl) (fun _ _ _ h => h) (Or.inl ⟨by rfl, fun w hSw => ?_⟩) (by assumption) ?_
      · (try dsimp only at hSw)
        go_simp
      try simp only [Act.put, List.setIfInBounds_toArray, List.set_cons_zero, List.set_cons_succ]
      refine wpAnyH_take (i := 1) (oi := { dst := some 35, op := Op.move (Operand.tmp 6), type := 3, pos := "frame.go:49", after := #[], guard := none }) (v := .int .i64 a) rfl (by kernel_rfl) (by kernel_rfl) (by kernel_rfl) (fun _ _ _ h => h) (Or.inl ⟨by rfl, fun w hSw => ?_⟩) (by assumption) ?_
      · (try dsimp only at hSw)
        go_simp
      try simp only [Act.put, List.setIfInBounds_toArray, List.set_cons_zero, List.set_cons_succ]
      refine wpAnyH_take (i := 2) (oi := { dst := some 36, op := Op.move (Operand.tmp 9), type := 3, pos := "frame.go:49", after := #[], guard := none }) (v := .int .i64 ((a : Int) + 4)) rfl (by kernel_rfl) (by kernel_rfl) (by kernel_rfl) (fun _ _ _ h => h) (Or.inl ⟨by rfl, fun w hSw => ?_⟩) (by assumption) ?_
      · (try dsimp only at hSw)
        go_simp
      try simp only [Act.put, List.setIfInBounds_toArray, List.set_cons_zero, List.set_cons_succ]
      refine wpAnyH_take (i := 3) (oi := { dst := some 37, op := Op.slice 46 (Operand.tmp 34) (some (Operand.tmp 35)) (some (Operand.tmp 36)) none, type := 46, pos := "frame.go:49", after := #[{ on := 0, ground := Ground.data }, { on := 1, ground := Ground.data }, { on := 2, ground := Ground.data }], guard := none }) (v := .slice (some ⟨g, o + a, none⟩) 4 (c - a)) rfl (by kernel_rfl) (by kernel_rfl) (by kernel_rfl) (fun _ _ _ h => h) (Or.inl ⟨by rfl, fun w hSw => ?_⟩) (by assumption) ?_
      · (try dsimp only at hSw)
        go_simp
      try simp only [Act.put, List.setIfInBounds_toArray, List.set_cons_zero, List.set_cons_succ]
      refine wpAnyH_take (i := 4) (oi := { dst := some 38, op := Op.move (Operand.tmp 0), type := 46, pos := "frame.go:49", after := #[], guard := none }) (v := .slice (some ⟨g, o, none⟩) l.length c) rfl (by kernel_rfl) (by kernel_rfl) (by kernel_rfl) (fun _ _ _ h => h) (Or.inl ⟨by rfl, fun w hSw => ?_⟩) (by assumption) ?_
      · (try dsimp only at hSw)
        go_simp
      try simp only [Act.put, List.setIfInBounds_toArray, List.set_cons_zero, List.set_cons_succ]
      refine wpAnyH_take (i := 5) (oi := { dst := some 39, op := Op.move (Operand.tmp 6), type := 3, pos := "frame.go:49", after := #[], guard := none }) (v := .int .i64 a) rfl (by kernel_rfl) (by kernel_rfl) (by kernel_rfl) (fun _ _ _ h => h) (Or.inl ⟨by rfl, fun w hSw => ?_⟩) (by assumption) ?_
      · (try dsimp only at hSw)
        go_simp
      try simp only [Act.put, List.setIfInBounds_toArray, List.set_cons_zero, List.set_cons_succ]
      refine wpAnyH_take (i := 6) (oi := { dst := some 40, op := Op.slice 46 (Operand.tmp 38) none (some (Operand.tmp 39)) none, type := 46, pos := "frame.go:49", after := #[{ on := 4, ground := Ground.data }, { on := 5, ground := Ground.data }], guard := none }) (v := .slice (some ⟨g, o, none⟩) a c) rfl (by kernel_rfl) (by kernel_rfl) (by kernel_rfl) (fun _ _ _ h => h) (Or.inl ⟨by rfl, fun w hSw => ?_⟩) (by assumption) ?_
      · (try dsimp only at hSw)
        go_simp
      try simp only [Act.put, List.setIfInBounds_toArray, List.set_cons_zero, List.set_cons_succ]
      refine wpAnyH_take (i := 7) (oi := { dst := some 41, op := Op.move (Operand.tmp 11), type := 46, pos := "frame.go:49", after := #[], guard := none }) (v := V) rfl (by kernel_rfl) (by kernel_rfl) (by kernel_rfl) (fun _ _ _ h => h) (Or.inl ⟨by rfl, fun w hSw => ?_⟩) (by assumption) ?_
      · (try dsimp only at hSw)
        go_simp
      try simp only [Act.put, List.setIfInBounds_toArray, List.set_cons_zero, List.set_cons_succ]
      refine wpAnyH_ready (rs := [8]) (by kernel_rfl) (by simp) ?_
      refine AllReadyH.cons (o := { dst := some 42, op := Op.call { callee := Callee.value (Operand.func 75), args := #[Operand.tmp 40, Operand.tmp 41], argTypes := #[46, 46] }, type := 46, pos := "frame.go:49", after := #[{ on := 6, ground := Ground.data }, { on := 7, ground := Ground.data }], guard := none }) rfl (fun K hK => ?_) (AllReadyH.nil)
      go_simp
      go_at_call 75
      refine (fsum_any _ _ B B (x :: P) bd s _ HBH.out HBB.out HT.out HPL.out HBDL.out HS.out).mono ?_
      rintro e k2 ⟨v8, rfl, ho8, h⟩
      have hk : Below k1.heap.size k1 k2 := by
        refine Below.trans ?_ (h.mono (by first | (simp; done) | (simp; omega) | omega))
        repeat' (first | with_reducible exact Below.refl _ _ | (with_reducible refine Below.alloc ?_ ?_ _) | (with_reducible refine Below.setCell ?_ ?_ _) | exact (by first | (simp; done) | (simp; omega) | omega))
      have hz := h.size
      try simp at hz
      replace hx0 : k2.cell? ⟨g, o, none⟩ = some (.int .u8 (x.toNat : Int)) := (hk.cell (p := ⟨g, o, none⟩) (by first | (simp; done) | (simp; omega) | omega)).trans hx0
      replace HBH := Lib.hid ((HBH.out).below hk (Nat.le_trans hB hb.size))
      replace HBF := Lib.hid ((HBF.out).below hk (Nat.le_trans hB hb.size))
      replace HBB := Lib.hid ((HBB.out).below hk (Nat.le_trans hB hb.size))
      replace HT := Lib.hid (tbl_keep (HT.out) hk)
      replace hb : Below w.heap.size w k2 := hb.trans (hk.mono hb.size)
      have lt0 : g < k2.heap.size := (by first | (simp; done) | (simp; omega) | omega)
      have HS8 := Lib.hid ho8; clear ho8
      clear h hk
      try dsimp only
      refine hK.out _ _ ?_ (fun hHeld => ?_)
      · exact hx0
      clear hK K
      try simp only [Act.put, List.setIfInBounds_toArray, List.set_cons_zero, List.set_cons_succ]
      refine wpAnyH_ready (rs := [9]) (by kernel_rfl) (by simp) ?_
      refine AllReadyH.cons (o := { dst := some 43, op := Op.call { callee := Callee.value (Operand.func 93), args := #[Operand.tmp 37, Operand.tmp 42], argTypes := #[46, 46] }, type := 4, pos := "frame.go:49", after := #[{ on := 3, ground := Ground.data }, { on := 8, ground := Ground.data }, { on := 8, ground := Ground.chain }], guard := none }) rfl (fun K hK => ?_) (AllReadyH.nil)
      go_simp
      go_at_call 93
      refine (bequal_to _ _ B _ (r.take 4) (fourB s) q _ HBF.out (Byt.of_own HS8.out) HQ.out).mono ?_
      rintro e k3 ⟨rfl, h⟩
      have hk : Below k2.heap.size k2 k3 := by
        refine Below.trans ?_ (h.mono (by first | (simp; done) | (simp; omega) | omega))
        repeat' (first | with_reducible exact Below.refl _ _ | (with_reducible refine Below.alloc ?_ ?_ _) | (with_reducible refine Below.setCell ?_ ?_ _) | exact (by first | (simp; done) | (simp; omega) | omega))
      have hz := h.size
      try simp at hz
      replace hx0 : k3.cell? ⟨g, o, none⟩ = some (.int .u8 (x.toNat : Int)) := (hk.cell (p := ⟨g, o, none⟩) (by first | (simp; done) | (simp; omega) | omega)).trans hx0
      replace HBH := Lib.hid ((HBH.out).below hk (Nat.le_trans hB hb.size))
      replace HBF := Lib.hid ((HBF.out).below hk (Nat.le_trans hB hb.size))
      replace HBB := Lib.hid ((HBB.out).below hk (Nat.le_trans hB hb.size))
      replace HT := Lib.hid (tbl_keep (HT.out) hk)
      replace HS8 := Lib.hid ((HS8.out).below hk)
      replace hb : Below w.heap.size w k3 := hb.trans (hk.mono hb.size)
      have lt0 : g < k3.heap.size := (by first | (simp; done) | (simp; omega) | omega)
      clear h hk
      try dsimp only
      refine hK.out _ _ ?_ (fun hHeld => ?_)
      · exact hx0
      clear hK K
      try simp only [Act.put, List.setIfInBounds_toArray, List.set_cons_zero, List.set_cons_succ]
      refine wpAnyH_take (i := 10) (oi := { dst := some 44, op := Op.unOp UnOp.not 4 (Operand.tmp 43), type := 4, pos := "frame.go:49", after := #[{ on := 9, ground := Ground.data }], guard := none }) (v := .bool (!q)) rfl (by kernel_rfl) (by kernel_rfl) (by kernel_rfl) (fun _ _ _ h => h) (Or.inl ⟨by rfl, fun w hSw => ?_⟩) (by assumption) ?_
      · (try dsimp only at hSw)
        go_simp
      try simp only [Act.put, List.setIfInBounds_toArray, List.set_cons_zero, List.set_cons_succ]
      refine wpAnyH_done (by kernel_rfl) ?_ _
      refine NoPanic.normal ?_
      have hbl := hb
      cases q with
      | false =>
        have hne : fourB s ≠ r.take 4 := fun e => by have := HQ.out; rw [e] at this; simp at this
        have hres : R = (0, [], 0, 3) := by rw [HOP.out, if_pos hne]
        go_wp2
        exact bodyPost_ret (v := .tuple #[.int .i64 0, .slice none 0 0, .int .i64 0, .int .i64 3]) (by simp [results, Tryd.results79, go_sem]) rfl ⟨_, by rw [hres]; rfl, by rw [hres]; exact ownB_nil _ _, hbl⟩
      | true =>
        have heq : fourB s = r.take 4 := (beq_iff_eq.1 HQ.out).symm
        have hres : R = (x.toNat, bd, 5 + P.length + n, 0) := by rw [HOP.out, if_neg (fun h => h heq)]
        have HRES := Lib.hid hres
        clear heq hres
        go_upto_region 11 with fail
        replace hx0 : k3.drew.cell? ⟨g, o, none⟩ = some (.int .u8 (x.toNat : Int)) := hx0
        replace HBH := Lib.hid ((HBH.out).below ((Below.refl k3.heap.size k3).drew) (Nat.le_trans hB hb.size))
        replace HBF := Lib.hid ((HBF.out).below ((Below.refl k3.heap.size k3).drew) (Nat.le_trans hB hb.size))
        replace HBB := Lib.hid ((HBB.out).below ((Below.refl k3.heap.size k3).drew) (Nat.le_trans hB hb.size))
        replace HT := Lib.hid (tbl_keep (HT.out) ((Below.refl k3.heap.size k3).drew))
        replace HS8 := Lib.hid ((HS8.out).below ((Below.refl k3.heap.size k3).drew))
        refine wp_region_noPanic ?_
        refine wp_region_held_drew (S := fun W => W.cell? ⟨g, o, none⟩ = some (.int .u8 (x.toNat : Int))) (by kernel_rfl) ?_ (fun hHeld => ?_)
        · exact hx0
        replace hb : Below w.heap.size w k3.drew := hb.drew
        replace lt0 : g < k3.drew.heap.size := lt0
        have hzd : k3.heap.size ≤ k3.drew.heap.size := Nat.le_refl _
        generalize k3.drew = k4 at *
        refine wpAnyH_take (i := 0) (oi := { dst := some 45, op := Op.move (Operand.tmp 0), type := 46, pos := "frame.go:52", after := #[], guard := none }) (v := .slice (some ⟨g, o, none⟩) l.length c) rfl (by kernel_rfl) (by kernel_rfl) (by kernel_rfl) (fun _ _ _ h => h) (Or.inl ⟨by rfl, fun w hSw => ?_⟩) (by assumption) ?_
        · (try dsimp only at hSw)
          go_simp
        try simp only [Act.put, List.setIfInBounds_toArray, List.set_cons_zero, List.set_cons_succ]
        refine wpAnyH_take (i := 1) (oi := { dst := some 46, op := Op.indexAddr 46 (Operand.tmp 45) (Operand.const (Value.int IntKind.i64 0)), type := 0, pos := "frame.go:52", after := #[{ on := 0, ground := Ground.data }], guard := none }) (v := .pointer (some ⟨g, o, none⟩)) rfl (by kernel_rfl) (by kernel_rfl) (by kernel_rfl) (fun _ _ _ h => h) (Or.inl ⟨by rfl, fun w hSw => ?_⟩) (by assumption) ?_
        · (try dsimp only at hSw)
          go_simp
        try simp only [Act.put, List.setIfInBounds_toArray, List.set_cons_zero, List.set_cons_succ]
        refine wpAnyH_take (i := 2) (oi := { dst := some 47, op := Op.load 5 (Operand.tmp 46), type := 5, pos := "frame.go:52", after := #[{ on := 1, ground := Ground.data }], guard := none }) (v := .int .u8 (x.toNat : Int)) rfl (by kernel_rfl) (by kernel_rfl) (by kernel_rfl) (fun _ _ _ h => h) (Or.inl ⟨by rfl, fun w hSw => ?_⟩) (by assumption) ?_
        · (try dsimp only at hSw)
          go_simp
        try simp only [Act.put, List.setIfInBounds_toArray, List.set_cons_zero, List.set_cons_succ]
        refine wpAnyH_take (i := 3) (oi := { dst := some 48, op := Op.convert 5 3 (Operand.tmp 47), type := 3, pos := "frame.go:52", after := #[{ on := 2, ground := Ground.data }], guard := none }) (v := .int .i64 (x.toNat : Int)) rfl (by kernel_rfl) (by kernel_rfl) (by kernel_rfl) (fun _ _ _ h => h) (Or.inl ⟨by rfl, fun w hSw => ?_⟩) (by assumption) ?_
        · (try dsimp only at hSw)
          go_simp
        try simp only [Act.put, List.setIfInBounds_toArray, List.set_cons_zero, List.set_cons_succ]
        refine wpAnyH_take (i := 4) (oi := { dst := some 49, op := Op.move (Operand.tmp 11), type := 46, pos := "frame.go:52", after := #[], guard := none }) (v := V) rfl (by kernel_rfl) (by kernel_rfl) (by kernel_rfl) (fun _ _ _ h => h) (Or.inl ⟨by rfl, fun w hSw => ?_⟩) (by assumption) ?_
        · (try dsimp only at hSw)
          go_simp
        try simp only [Act.put, List.setIfInBounds_toArray, List.set_cons_zero, List.set_cons_succ]
        refine wpAnyH_take (i := 6) (oi := { dst := some 51, op := Op.move (Operand.tmp 10), type := 3, pos := "frame.go:52", after := #[{ on := 8, ground := Ground.gcOnly Departure.lateStores }], guard := none }) (v := .int .i64 ((a : Int) + 4 + n)) rfl (by kernel_rfl) (by kernel_rfl) (by kernel_rfl) (fun _ _ _ h => h) (Or.inl ⟨by rfl, fun w hSw => ?_⟩) (by assumption) ?_
        · (try dsimp only at hSw)
          go_simp
        try simp only [Act.put, List.setIfInBounds_toArray, List.set_cons_zero, List.set_cons_succ]
        refine wpAnyH_ready (rs := [5]) (by kernel_rfl) (by simp) ?_
        refine AllReadyH.cons (o := { dst := some 50, op := Op.call { callee := Callee.value (Operand.func 31), args := #[Operand.tmp 49], argTypes := #[46] }, type := 46, pos := "frame.go:52", after := #[{ on := 4, ground := Ground.data }], guard := none }) rfl (fun K hK => ?_) (AllReadyH.nil)
        go_simp
        go_at_call 31
        refine (bclone_to _ B bd _ HBB.out HBDL.out).mono ?_
        rintro e k5 ⟨v2, rfl, ho2, h⟩
        have hk : Below k4.heap.size k4 k5 := by
          refine Below.trans ?_ (h.mono (by first | (simp; done) | (simp; omega) | omega))
          repeat' (first | with_reducible exact Below.refl _ _ | (with_reducible refine Below.alloc ?_ ?_ _) | (with_reducible refine Below.setCell ?_ ?_ _) | exact (by first | (simp; done) | (simp; omega) | omega))
        have hz := h.size
        try simp at hz
        replace hx0 : k5.cell? ⟨g, o, none⟩ = some (.int .u8 (x.toNat : Int)) := (hk.cell (p := ⟨g, o, none⟩) (by first | (simp; done) | (simp; omega) | omega)).trans hx0
        replace HBH := Lib.hid ((HBH.out).below hk (Nat.le_trans hB hb.size))
        replace HBF := Lib.hid ((HBF.out).below hk (Nat.le_trans hB hb.size))
        replace HBB := Lib.hid ((HBB.out).below hk (Nat.le_trans hB hb.size))
        replace HT := Lib.hid (tbl_keep (HT.out) hk)
        replace HS8 := Lib.hid ((HS8.out).below hk)
        replace hb : Below w.heap.size w k5 := hb.trans (hk.mono hb.size)
        have lt0 : g < k5.heap.size := (by first | (simp; done) | (simp; omega) | omega)
        have HV2 := Lib.hid ho2; clear ho2
        clear h hk
        try dsimp only
        refine hK.out _ _ ?_ (fun hHeld => ?_)
        · exact hx0
        clear hK K
        try simp only [Act.put, List.setIfInBounds_toArray, List.set_cons_zero, List.set_cons_succ]
        refine wpAnyH_take (i := 7) (oi := { dst := some 2, op := Op.assign (Operand.tmp 48), type := 3, pos := "frame.go:52", after := #[{ on := 3, ground := Ground.data }, { on := 5, ground := Ground.chain }, { on := 0, ground := Ground.phase }, { on := 1, ground := Ground.phase }, { on := 2, ground := Ground.phase }, { on := 3, ground := Ground.phase }, { on := 4, ground := Ground.textOnly Departure.lateStores }, { on := 5, ground := Ground.textOnly Departure.lateStoresUnsure }, { on := 6, ground := Ground.textOnly Departure.lateStores }], guard := none }) (v := .int .i64 (x.toNat : Int)) rfl (by kernel_rfl) (by kernel_rfl) (by kernel_rfl) (fun _ _ _ h => h) (Or.inl ⟨by rfl, fun w hSw => ?_⟩) (by assumption) ?_
        · (try dsimp only at hSw)
          go_simp
        try simp only [Act.put, List.setIfInBounds_toArray, List.set_cons_zero, List.set_cons_succ]
        refine wpAnyH_take (i := 8) (oi := { dst := some 3, op := Op.assign (Operand.tmp 50), type := 46, pos := "frame.go:52", after := #[{ on := 5, ground := Ground.data }, { on := 7, ground := Ground.chain }, { on := 0, ground := Ground.phase }, { on := 1, ground := Ground.phase }, { on := 2, ground := Ground.phase }, { on := 3, ground := Ground.phase }, { on := 4, ground := Ground.phase }, { on := 5, ground := Ground.phase }, { on := 6, ground := Ground.textOnly Departure.lateStores }, { on := 7, ground := Ground.phase }], guard := none }) (v := v2) rfl (by kernel_rfl) (by kernel_rfl) (by kernel_rfl) (fun _ _ _ h => h) (Or.inl ⟨by rfl, fun w hSw => ?_⟩) (by assumption) ?_
        · (try dsimp only at hSw)
          go_simp
        try simp only [Act.put, List.setIfInBounds_toArray, List.set_cons_zero, List.set_cons_succ]
        refine wpAnyH_take (i := 9) (oi := { dst := some 4, op := Op.assign (Operand.tmp 51), type := 3, pos := "frame.go:52", after := #[{ on := 6, ground := Ground.data }, { on := 8, ground := Ground.chain }, { on := 0, ground := Ground.phase }, { on := 1, ground := Ground.phase }, { on := 2, ground := Ground.phase }, { on := 3, ground := Ground.phase }, { on := 4, ground := Ground.phase }, { on := 5, ground := Ground.phase }, { on := 6, ground := Ground.phase }, { on := 7, ground := Ground.phase }, { on := 8, ground := Ground.phase }], guard := none }) (v := .int .i64 ((a : Int) + 4 + n)) rfl (by kernel_rfl) (by kernel_rfl) (by kernel_rfl) (fun _ _ _ h => h) (Or.inl ⟨by rfl, fun w hSw => ?_⟩) (by assumption) ?_
        · (try dsimp only at hSw)
          go_simp
        try simp only [Act.put, List.setIfInBounds_toArray, List.set_cons_zero, List.set_cons_succ]
        refine wpAnyH_take (i := 10) (oi := { dst := some 5, op := Op.assign (Operand.const (Value.int IntKind.i64 0)), type := 29, pos := "frame.go:52", after := #[{ on := 9, ground := Ground.chain }, { on := 0, ground := Ground.phase }, { on := 1, ground := Ground.phase }, { on := 2, ground := Ground.phase }, { on := 3, ground := Ground.phase }, { on := 4, ground := Ground.phase }, { on := 5, ground := Ground.phase }, { on := 6, ground := Ground.phase }, { on := 7, ground := Ground.phase }, { on := 8, ground := Ground.phase }, { on := 9, ground := Ground.phase }], guard := none }) (v := .int .i64 0) rfl (by kernel_rfl) (by kernel_rfl) (by kernel_rfl) (fun _ _ _ h => h) (Or.inl ⟨by rfl, fun w hSw => ?_⟩) (by assumption) ?_
        · (try dsimp only at hSw)
          go_simp
        try simp only [Act.put, List.setIfInBounds_toArray, List.set_cons_zero, List.set_cons_succ]
        refine wpAnyH_done (by kernel_rfl) ?_ _
        refine NoPanic.normal ?_
        go_wp2
        refine bodyPost_ret (v := .tuple #[.int .i64 x.toNat, v2, .int .i64 ((a : Int) + 4 + n), .int .i64 0]) (by simp [results, Tryd.results79, go_sem]) rfl ⟨v2, ?_, ?_, hb⟩
        · rw [HRES.out, show (a : Int) + 4 + n = ((5 + P.length + n : Nat) : Int) by have := HA.out; omega]; rfl
        · rw [HRES.out]; exact HV2.out.down (by have := hbl.size; omega)
  · obtain ⟨hop, rfl, rfl⟩ := headP_err hr he
    have hee : ((e : Int) == 0) = false := by rw [beq_eq_false_iff_ne]; omega
    rw [hop]
    clear hr hop h
    go_enter Tryd.func79, Tryd.ntmps79
    go_wp2_with fail
    refine HHD.out.mono ?_
    rintro e' w' ⟨rfl, rfl⟩
    go_wp2
    exact bodyPost_ret (v := .tuple #[.int .i64 0, .slice none 0 0, .int .i64 0, .int .i64 e]) (by simp [results, Tryd.results79, go_sem]) rfl ⟨_, rfl, ownB_nil _ _, Below.refl _ _⟩
end Go.Proofs.YtbiecoifeeikpaaDoor
/-
  Package wal's readRecord and Decode answer what the plain functions say.
  The bytes are there in memory, at most 1,000,000; package crc's table lies as it was laid.
-/
set_option linter.unusedSimpArgs false
set_option linter.unusedVariables false
namespace Go.Proofs.YtbiecoifeeikpaaDoor
open Go.RowKit
set_option maxRecDepth 100000

theorem WRd.set10 {w : World} {g g' B : Nat} {s : RdS10} (h : WRd w g B s) (j : Nat) (u : Value) (hne : g ≠ g') (hB : B ≤ g') : WRd (w.setCell ⟨g', j, none⟩ u) g B s := by
  obtain ⟨A, c, h1, h2, h3⟩ := h
  exact ⟨A, c, h1.other j u hne, byt_set10 h2 hB, h3⟩
theorem below_set10 {B g : Nat} {w w' : World} (h : Below B w w') (j : Nat) (u : Value) (hg : B ≤ g) : Below B w (w'.setCell ⟨g, j, none⟩ u) := h.setCell (p := ⟨g, j, none⟩) hg u
set_option maxHeartbeats 2000000 in
theorem wread_hard (A : Option Addr) (n c B : Nat) (l : List UInt8) (w : World) (h : Byt w B (.slice A n c) l) (hB : B ≤ w.heap.size) (hl : l.length ≤ 1050000) (s1 s2 : RdS10) (ht hv : Int) (h1 : rdN10 (l, false) = (ht, s1)) (h2 : rdN10 s1 = (hv, s2)) (l1 : s1.1.length ≤ 1050000) (b0 : -9223372036854775808 ≤ hv) (b1 : hv ≤ 9223372036854775807) (lS : s2.1.length ≤ 1050000) (x : Bool) (hx : (done10 s2 && may10 ⟨true, ht, hv, noEnt⟩) = x) :
    Calls Tryd.prog 84 #[.int .i64 1, .slice A n c] w fun e w' => e = .returned (.tuple #[.agg #[.bool true, .int .i64 ht, .int .i64 hv, .int .i64 0, .int .i64 0, .int .i64 0, .string ⟨#[]⟩], .bool x]) ∧ Below w.heap.size w w' := by
  obtain ⟨W1, hW1⟩ : ∃ W1, ((w.alloc (.cells #[.bool false, .int .i64 0, .int .i64 0, .int .i64 0, .int .i64 0, .int .i64 0, .string ⟨#[]⟩] 76)).alloc (.cells #[.bool false, .int .i64 0, .int .i64 0, .int .i64 0, .int .i64 0, .int .i64 0, .string ⟨#[]⟩] 76)) = W1 := ⟨_, rfl⟩
  have hz1 : W1.heap.size = w.heap.size + 1 + 1 := by rw [← hW1]; simp
  have hbw1 : Below w.heap.size w W1 := by rw [← hW1]; exact (below_new _ _).alloc (by simp) _
  obtain ⟨W2, hW2⟩ : ∃ W2, W1.alloc (.cells #[.slice A n c, .bool false] 111) = W2 := ⟨_, rfl⟩
  have hbw2 : Below W1.heap.size W1 W2 := by rw [← hW2]; exact below_new _ _
  have hbw : Below w.heap.size w W2 := hbw1.trans (hbw2.mono hbw1.size)
  have r0 : Rt W2 (w.heap.size) 76 [.bool false, .int .i64 0, .int .i64 0, .int .i64 0, .int .i64 0, .int .i64 0, .string ⟨#[]⟩] := Rt.below (w := W1) (Rt.below (w := w.alloc (.cells #[.bool false, .int .i64 0, .int .i64 0, .int .i64 0, .int .i64 0, .int .i64 0, .string ⟨#[]⟩] 76)) (Rt.new _ _ _) (by rw [← hW1]; exact below_new _ _)) hbw2
  have r1 : Rt W2 (w.heap.size + 1) 76 [.bool false, .int .i64 0, .int .i64 0, .int .i64 0, .int .i64 0, .int .i64 0, .string ⟨#[]⟩] := Rt.below (w := W1) (by rw [← hW1]; exact Rt.new_at _ _ _ [.bool false, .int .i64 0, .int .i64 0, .int .i64 0, .int .i64 0, .int .i64 0, .string ⟨#[]⟩] (by simp)) hbw2
  have hr : WRd W2 (w.heap.size + 1 + 1) B (l, false) := by
    have := WRd.new W1 B l A n c (h.below hbw1 hB) (by omega)
    rw [hW2, hz1] at this; exact this
  have n0 : w.heap.size ≠ w.heap.size + 1 + 1 := by omega
  have n1 : w.heap.size + 1 ≠ w.heap.size + 1 + 1 := by omega
  have n01 : w.heap.size ≠ w.heap.size + 1 := by omega
  have HBW := Lib.hid hbw
  clear hbw1 hbw2 hbw h hz1
  go_enter Tryd.func84, Tryd.ntmps84
  have hW3 : (((w.alloc (.cells #[.bool false, .int .i64 0, .int .i64 0, .int .i64 0, .int .i64 0, .int .i64 0, .string ⟨#[]⟩] 76)).alloc (.cells #[.bool false, .int .i64 0, .int .i64 0, .int .i64 0, .int .i64 0, .int .i64 0, .string ⟨#[]⟩] 76)).alloc (.cells #[.slice A n c, .bool false] 111)) = W2 := by rw [hW1]; exact hW2
  have HW3 := Lib.hid hW3
  clear hW1 hW2 hW3
  go_wp2_with fail
  rw [HW3.out]
  refine (w10hard _ B (l, false) s1 s2 ht hv _ hr hl l1 h1 h2 b0 b1).mono ?_
  rintro e k1 ⟨rfl, hr1, hq⟩
  have q0 := r0.grown hq n0
  have q1 := r1.grown hq n1
  have HB1 := Lib.hid (HBW.out.trans (below_grown10 hq (B := w.heap.size) (by omega) hr.lt))
  clear hq r0 r1 HW3 hr
  have c0 := q1.cell (j := 0) rfl
  have f0 := q1.frz 0
  have c1 := q1.cell (j := 1) rfl
  have f1 := q1.frz 1
  have c2 := q1.cell (j := 2) rfl
  have f2 := q1.frz 2
  have c3 := q1.cell (j := 3) rfl
  have f3 := q1.frz 3
  have c4 := q1.cell (j := 4) rfl
  have f4 := q1.frz 4
  have c5 := q1.cell (j := 5) rfl
  have f5 := q1.frz 5
  have c6 := q1.cell (j := 6) rfl
  have f6 := q1.frz 6
  have HR := Lib.hid hr1
  have HQ0 := Lib.hid q0
  have HQ1 := Lib.hid q1
  clear hr1 q0 q1
  have nr : w.heap.size + 1 + 1 ≠ w.heap.size + 1 := by omega
  have hBr : B ≤ w.heap.size + 1 := by omega
  go_wp2_with fail
  refine wp_world (fun W => Rt W (w.heap.size + 1) 76 [.bool true, .int .i64 ht, .int .i64 hv, .int .i64 0, .int .i64 0, .int .i64 0, .string ⟨#[]⟩] ∧ Rt W (w.heap.size) 76 [.bool false, .int .i64 0, .int .i64 0, .int .i64 0, .int .i64 0, .int .i64 0, .string ⟨#[]⟩] ∧ WRd W (w.heap.size + 1 + 1) B s2 ∧ Below w.heap.size w W) ⟨(((((((HQ1.out.set 0 (.bool true)).set 1 (.int .i64 ht)).set 2 (.int .i64 hv)).set 3 (.int .i64 0)).set 4 (.int .i64 0)).set 5 (.int .i64 0)).set 6 (.string ⟨#[]⟩)), (((((((HQ0.out.other 0 (.bool true) n01).other 1 (.int .i64 ht) n01).other 2 (.int .i64 hv) n01).other 3 (.int .i64 0) n01).other 4 (.int .i64 0) n01).other 5 (.int .i64 0) n01).other 6 (.string ⟨#[]⟩) n01), ?_, (below_set10 ((below_set10 ((below_set10 ((below_set10 ((below_set10 ((below_set10 ((below_set10 (HB1.out) 0 (g := w.heap.size + 1) (.bool true) (by omega))) 1 (g := w.heap.size + 1) (.int .i64 ht) (by omega))) 2 (g := w.heap.size + 1) (.int .i64 hv) (by omega))) 3 (g := w.heap.size + 1) (.int .i64 0) (by omega))) 4 (g := w.heap.size + 1) (.int .i64 0) (by omega))) 5 (g := w.heap.size + 1) (.int .i64 0) (by omega))) 6 (g := w.heap.size + 1) (.string ⟨#[]⟩) (by omega))⟩ ?_
  · exact ((((((((((((((HR.out).set10 0 (g' := w.heap.size + 1) (.bool true) nr hBr)).set10 1 (g' := w.heap.size + 1) (.int .i64 ht) nr hBr)).set10 2 (g' := w.heap.size + 1) (.int .i64 hv) nr hBr)).set10 3 (g' := w.heap.size + 1) (.int .i64 0) nr hBr)).set10 4 (g' := w.heap.size + 1) (.int .i64 0) nr hBr)).set10 5 (g' := w.heap.size + 1) (.int .i64 0) nr hBr)).set10 6 (g' := w.heap.size + 1) (.string ⟨#[]⟩) nr hBr)
  clear c0 c1 c2 c3 c4 c5 c6 f0 f1 f2 f3 f4 f5 f6 HQ0 HQ1 HR HB1
  rintro k2 ⟨q1, q0, hr, hb⟩
  obtain ⟨d, hd⟩ : ∃ d, done10 s2 = d := ⟨_, rfl⟩
  rw [hd] at hx
  have hdn := w10done _ B s2 k2.drew hr lS
  rw [show (!s2.2 && s2.1.length == 0) = d from hd] at hdn
  replace q1 : Rt k2.drew (w.heap.size + 1) 76 [.bool true, .int .i64 ht, .int .i64 hv, .int .i64 0, .int .i64 0, .int .i64 0, .string ⟨#[]⟩] := q1
  replace q0 : Rt k2.drew (w.heap.size) 76 [.bool false, .int .i64 0, .int .i64 0, .int .i64 0, .int .i64 0, .int .i64 0, .string ⟨#[]⟩] := q0
  replace hb : Below w.heap.size w k2.drew := hb.drew
  have hm := fun W => wmay10_any ⟨true, ht, hv, noEnt⟩ W (Nat.zero_le _)
  obtain ⟨y, hy⟩ : ∃ y, may10 ⟨true, ht, hv, noEnt⟩ = y := ⟨_, rfl⟩
  rw [hy] at hx hm
  have hlt := q1.lt
  refine wp_region_noPanic ?_
  refine wp_region_held_drew (S := fun W => W.cell? ⟨w.heap.size + 1, 0, none⟩ = some (.bool true) ∧ W.cell? ⟨w.heap.size + 1, 1, none⟩ = some (.int .i64 ht) ∧ W.cell? ⟨w.heap.size + 1, 2, none⟩ = some (.int .i64 hv) ∧ W.cell? ⟨w.heap.size + 1, 3, none⟩ = some (.int .i64 0) ∧ W.cell? ⟨w.heap.size + 1, 4, none⟩ = some (.int .i64 0) ∧ W.cell? ⟨w.heap.size + 1, 5, none⟩ = some (.int .i64 0) ∧ W.cell? ⟨w.heap.size + 1, 6, none⟩ = some (.string ⟨#[]⟩)) (by kernel_rfl) ?_ (fun hHeld => ?_)
  · exact ⟨q1.cell (j := 0) rfl, q1.cell (j := 1) rfl, q1.cell (j := 2) rfl, q1.cell (j := 3) rfl, q1.cell (j := 4) rfl, q1.cell (j := 5) rfl, q1.cell (j := 6) rfl⟩
  generalize k2.drew = k3 at *
  have HX := Lib.hid hx
  clear hr hd hy hx
  cases d with
  | true =>
    refine wpAnyH_take (i := 0) (oi := { dst := some 20, op := Op.load 76 (Operand.tmp 6), type := 76, pos := "wal.go:104", after := #[], guard := none }) (v := .agg #[.bool true, .int .i64 ht, .int .i64 hv, .int .i64 0, .int .i64 0, .int .i64 0, .string ⟨#[]⟩]) rfl (by kernel_rfl) (by kernel_rfl) (by kernel_rfl) (fun _ _ _ h => h) (Or.inl ⟨by rfl, fun w hSw => ?_⟩) (by assumption) ?_
    · (try dsimp only at hSw)
      go_simp
    try simp only [Act.put, List.setIfInBounds_toArray, List.set_cons_zero, List.set_cons_succ]
    refine wpAnyH_ready (rs := [1]) (by kernel_rfl) (by simp) ?_
    refine AllReadyH.cons (o := { dst := some 21, op := Op.call { callee := Callee.value (Operand.func 62), args := #[Operand.tmp 7], argTypes := #[111] }, type := 4, pos := "wal.go:104", after := #[], guard := none }) rfl (fun K hK => ?_) AllReadyH.nil
    go_simp
    go_at_call 62
    refine hdn.mono ?_
    rintro e k4 ⟨rfl, rfl⟩
    refine hK.out _ _ ?_ (fun hHeld => ?_)
    · exact ⟨q1.cell (j := 0) rfl, q1.cell (j := 1) rfl, q1.cell (j := 2) rfl, q1.cell (j := 3) rfl, q1.cell (j := 4) rfl, q1.cell (j := 5) rfl, q1.cell (j := 6) rfl⟩
    clear hK K
    try simp only [Act.put, List.setIfInBounds_toArray, List.set_cons_zero, List.set_cons_succ]
    refine wpAnyH_take (i := 2) (oi := { dst := some 22, op := Op.move (Operand.tmp 21), type := 4, pos := "wal.go:104", after := #[{ on := 1, ground := Ground.data }, { on := 1, ground := Ground.chain }], guard := none }) (v := .bool true) rfl (by kernel_rfl) (by kernel_rfl) (by kernel_rfl) (fun _ _ _ h => h) (Or.inl ⟨by rfl, fun w hSw => ?_⟩) (by assumption) ?_
    · (try dsimp only at hSw)
      go_simp
    try simp only [Act.put, List.setIfInBounds_toArray, List.set_cons_zero, List.set_cons_succ]
    refine wpAnyH_take (i := 3) (oi := { dst := some 23, op := Op.load 76 (Operand.tmp 6), type := 76, pos := "wal.go:104", after := #[{ on := 2, ground := Ground.guard }], guard := some (2, true) }) (v := .agg #[.bool true, .int .i64 ht, .int .i64 hv, .int .i64 0, .int .i64 0, .int .i64 0, .string ⟨#[]⟩]) rfl (by kernel_rfl) (by kernel_rfl) (by kernel_rfl) (fun _ _ _ h => h) (Or.inl ⟨by rfl, fun w hSw => ?_⟩) (by assumption) ?_
    · (try dsimp only at hSw)
      go_simp
    try simp only [Act.put, List.setIfInBounds_toArray, List.set_cons_zero, List.set_cons_succ]
    refine wpAnyH_ready (rs := [4]) (by kernel_rfl) (by simp) ?_
    refine AllReadyH.cons (o := { dst := some 24, op := Op.call { callee := Callee.value (Operand.func 50), args := #[Operand.tmp 23], argTypes := #[76] }, type := 4, pos := "wal.go:104", after := #[{ on := 3, ground := Ground.data }, { on := 2, ground := Ground.chain }, { on := 2, ground := Ground.guard }], guard := some (2, true) }) rfl (fun K hK => ?_) AllReadyH.nil
    go_simp
    go_at_call 50
    refine (hm _).mono ?_
    rintro e k5 ⟨rfl, h⟩
    replace q1 := q1.below h
    replace q0 := q0.below h
    replace hb := hb.trans (h.mono hb.size)
    have hl5 := h.size
    clear h
    refine hK.out _ _ ?_ (fun hHeld => ?_)
    · exact ⟨q1.cell (j := 0) rfl, q1.cell (j := 1) rfl, q1.cell (j := 2) rfl, q1.cell (j := 3) rfl, q1.cell (j := 4) rfl, q1.cell (j := 5) rfl, q1.cell (j := 6) rfl⟩
    clear hK K
    try simp only [Act.put, List.setIfInBounds_toArray, List.set_cons_zero, List.set_cons_succ]
    refine wpAnyH_take (i := 5) (oi := { dst := some 25, op := Op.pick (Operand.tmp 22) (Operand.tmp 24) (Operand.const (Value.bool false)), type := 4, pos := "wal.go:104", after := #[{ on := 2, ground := Ground.data }, { on := 4, ground := Ground.data }, { on := 6, ground := Ground.gcOnly Departure.lateStores }], guard := none }) (v := .bool y) rfl (by kernel_rfl) (by kernel_rfl) (by kernel_rfl) (fun _ _ _ h => h) (Or.inl ⟨by rfl, fun w hSw => ?_⟩) (by assumption) ?_
    · (try dsimp only at hSw)
      go_simp
    try simp only [Act.put, List.setIfInBounds_toArray, List.set_cons_zero, List.set_cons_succ]
    have z0 := q0.cell (j := 0) rfl
    have y0 := q0.frz 0
    have z1 := q0.cell (j := 1) rfl
    have y1 := q0.frz 1
    have z2 := q0.cell (j := 2) rfl
    have y2 := q0.frz 2
    have z3 := q0.cell (j := 3) rfl
    have y3 := q0.frz 3
    have z4 := q0.cell (j := 4) rfl
    have y4 := q0.frz 4
    have z5 := q0.cell (j := 5) rfl
    have y5 := q0.frz 5
    have z6 := q0.cell (j := 6) rfl
    have y6 := q0.frz 6
    refine wpAnyH_ready (rs := [6]) (by kernel_rfl) (by simp) ?_
    refine AllReadyH.cons (o := { dst := none, op := Op.store 76 (Operand.tmp 4) (Operand.tmp 20), type := 0, pos := "wal.go:104", after := #[{ on := 0, ground := Ground.data }, { on := 4, ground := Ground.chain }, { on := 0, ground := Ground.phase }, { on := 1, ground := Ground.textOnly Departure.lateStoresUnsure }, { on := 2, ground := Ground.textOnly Departure.lateStores }, { on := 3, ground := Ground.textOnly Departure.lateStores }, { on := 4, ground := Ground.textOnly Departure.lateStoresUnsure }, { on := 5, ground := Ground.textOnly Departure.lateStores }], guard := none }) rfl (fun K hK => ?_) AllReadyH.nil
    go_simp
    refine hK.out _ _ ?_ (fun hHeld => ?_)
    · exact ⟨(((((((q1.other 0 (.bool true) n01.symm).other 1 (.int .i64 ht) n01.symm).other 2 (.int .i64 hv) n01.symm).other 3 (.int .i64 0) n01.symm).other 4 (.int .i64 0) n01.symm).other 5 (.int .i64 0) n01.symm).other 6 (.string ⟨#[]⟩) n01.symm).cell (j := 0) rfl, (((((((q1.other 0 (.bool true) n01.symm).other 1 (.int .i64 ht) n01.symm).other 2 (.int .i64 hv) n01.symm).other 3 (.int .i64 0) n01.symm).other 4 (.int .i64 0) n01.symm).other 5 (.int .i64 0) n01.symm).other 6 (.string ⟨#[]⟩) n01.symm).cell (j := 1) rfl, (((((((q1.other 0 (.bool true) n01.symm).other 1 (.int .i64 ht) n01.symm).other 2 (.int .i64 hv) n01.symm).other 3 (.int .i64 0) n01.symm).other 4 (.int .i64 0) n01.symm).other 5 (.int .i64 0) n01.symm).other 6 (.string ⟨#[]⟩) n01.symm).cell (j := 2) rfl, (((((((q1.other 0 (.bool true) n01.symm).other 1 (.int .i64 ht) n01.symm).other 2 (.int .i64 hv) n01.symm).other 3 (.int .i64 0) n01.symm).other 4 (.int .i64 0) n01.symm).other 5 (.int .i64 0) n01.symm).other 6 (.string ⟨#[]⟩) n01.symm).cell (j := 3) rfl, (((((((q1.other 0 (.bool true) n01.symm).other 1 (.int .i64 ht) n01.symm).other 2 (.int .i64 hv) n01.symm).other 3 (.int .i64 0) n01.symm).other 4 (.int .i64 0) n01.symm).other 5 (.int .i64 0) n01.symm).other 6 (.string ⟨#[]⟩) n01.symm).cell (j := 4) rfl, (((((((q1.other 0 (.bool true) n01.symm).other 1 (.int .i64 ht) n01.symm).other 2 (.int .i64 hv) n01.symm).other 3 (.int .i64 0) n01.symm).other 4 (.int .i64 0) n01.symm).other 5 (.int .i64 0) n01.symm).other 6 (.string ⟨#[]⟩) n01.symm).cell (j := 5) rfl, (((((((q1.other 0 (.bool true) n01.symm).other 1 (.int .i64 ht) n01.symm).other 2 (.int .i64 hv) n01.symm).other 3 (.int .i64 0) n01.symm).other 4 (.int .i64 0) n01.symm).other 5 (.int .i64 0) n01.symm).other 6 (.string ⟨#[]⟩) n01.symm).cell (j := 6) rfl⟩
    clear hK K
    try simp only [Act.put, List.setIfInBounds_toArray, List.set_cons_zero, List.set_cons_succ]
    refine wpAnyH_ready (rs := [7]) (by kernel_rfl) (by simp) ?_
    refine AllReadyH.cons (o := { dst := some 5, op := Op.assign (Operand.tmp 25), type := 4, pos := "wal.go:104", after := #[{ on := 5, ground := Ground.data }, { on := 6, ground := Ground.chain }, { on := 0, ground := Ground.phase }, { on := 1, ground := Ground.phase }, { on := 2, ground := Ground.phase }, { on := 3, ground := Ground.phase }, { on := 4, ground := Ground.phase }, { on := 5, ground := Ground.phase }, { on := 6, ground := Ground.phase }], guard := none }) rfl (fun K hK => ?_) AllReadyH.nil
    go_simp
    refine hK.out _ _ ?_ (fun hHeld => ?_)
    · exact ⟨(((((((q1.other 0 (.bool true) n01.symm).other 1 (.int .i64 ht) n01.symm).other 2 (.int .i64 hv) n01.symm).other 3 (.int .i64 0) n01.symm).other 4 (.int .i64 0) n01.symm).other 5 (.int .i64 0) n01.symm).other 6 (.string ⟨#[]⟩) n01.symm).cell (j := 0) rfl, (((((((q1.other 0 (.bool true) n01.symm).other 1 (.int .i64 ht) n01.symm).other 2 (.int .i64 hv) n01.symm).other 3 (.int .i64 0) n01.symm).other 4 (.int .i64 0) n01.symm).other 5 (.int .i64 0) n01.symm).other 6 (.string ⟨#[]⟩) n01.symm).cell (j := 1) rfl, (((((((q1.other 0 (.bool true) n01.symm).other 1 (.int .i64 ht) n01.symm).other 2 (.int .i64 hv) n01.symm).other 3 (.int .i64 0) n01.symm).other 4 (.int .i64 0) n01.symm).other 5 (.int .i64 0) n01.symm).other 6 (.string ⟨#[]⟩) n01.symm).cell (j := 2) rfl, (((((((q1.other 0 (.bool true) n01.symm).other 1 (.int .i64 ht) n01.symm).other 2 (.int .i64 hv) n01.symm).other 3 (.int .i64 0) n01.symm).other 4 (.int .i64 0) n01.symm).other 5 (.int .i64 0) n01.symm).other 6 (.string ⟨#[]⟩) n01.symm).cell (j := 3) rfl, (((((((q1.other 0 (.bool true) n01.symm).other 1 (.int .i64 ht) n01.symm).other 2 (.int .i64 hv) n01.symm).other 3 (.int .i64 0) n01.symm).other 4 (.int .i64 0) n01.symm).other 5 (.int .i64 0) n01.symm).other 6 (.string ⟨#[]⟩) n01.symm).cell (j := 4) rfl, (((((((q1.other 0 (.bool true) n01.symm).other 1 (.int .i64 ht) n01.symm).other 2 (.int .i64 hv) n01.symm).other 3 (.int .i64 0) n01.symm).other 4 (.int .i64 0) n01.symm).other 5 (.int .i64 0) n01.symm).other 6 (.string ⟨#[]⟩) n01.symm).cell (j := 5) rfl, (((((((q1.other 0 (.bool true) n01.symm).other 1 (.int .i64 ht) n01.symm).other 2 (.int .i64 hv) n01.symm).other 3 (.int .i64 0) n01.symm).other 4 (.int .i64 0) n01.symm).other 5 (.int .i64 0) n01.symm).other 6 (.string ⟨#[]⟩) n01.symm).cell (j := 6) rfl⟩
    clear hK K
    try simp only [Act.put, List.setIfInBounds_toArray, List.set_cons_zero, List.set_cons_succ]
    refine wpAnyH_done (by kernel_rfl) ?_ _
    refine NoPanic.normal ?_
    go_wp2
    have hxs : Rt _ (w.heap.size) 76 [.bool true, .int .i64 ht, .int .i64 hv, .int .i64 0, .int .i64 0, .int .i64 0, .string ⟨#[]⟩] := (((((((q0.set 0 (.bool true)).set 1 (.int .i64 ht)).set 2 (.int .i64 hv)).set 3 (.int .i64 0)).set 4 (.int .i64 0)).set 5 (.int .i64 0)).set 6 (.string ⟨#[]⟩))
    have hbs := (below_set10 ((below_set10 ((below_set10 ((below_set10 ((below_set10 ((below_set10 ((below_set10 (hb) 0 (g := w.heap.size) (.bool true) (by omega))) 1 (g := w.heap.size) (.int .i64 ht) (by omega))) 2 (g := w.heap.size) (.int .i64 hv) (by omega))) 3 (g := w.heap.size) (.int .i64 0) (by omega))) 4 (g := w.heap.size) (.int .i64 0) (by omega))) 5 (g := w.heap.size) (.int .i64 0) (by omega))) 6 (g := w.heap.size) (.string ⟨#[]⟩) (by omega))
    refine body_world10 (fun W => Below w.heap.size w W ∧ Rt W (w.heap.size) 76 [.bool true, .int .i64 ht, .int .i64 hv, .int .i64 0, .int .i64 0, .int .i64 0, .string ⟨#[]⟩]) ⟨hbs, hxs⟩ ?_
    clear hbs hxs
    rintro W ⟨hbs, hxs⟩
    have d0 := hxs.cell (j := 0) rfl
    have d1 := hxs.cell (j := 1) rfl
    have d2 := hxs.cell (j := 2) rfl
    have d3 := hxs.cell (j := 3) rfl
    have d4 := hxs.cell (j := 4) rfl
    have d5 := hxs.cell (j := 5) rfl
    have d6 := hxs.cell (j := 6) rfl
    refine bodyPost_ret (v := .tuple #[.agg #[.bool true, .int .i64 ht, .int .i64 hv, .int .i64 0, .int .i64 0, .int .i64 0, .string ⟨#[]⟩], .bool y]) (by simp [results, Tryd.results84, go_sem, d0, d1, d2, d3, d4, d5, d6]) rfl ?_
    exact ⟨by rw [← HX.out]; rfl, hbs⟩
  | false =>
    refine wpAnyH_take (i := 0) (oi := { dst := some 20, op := Op.load 76 (Operand.tmp 6), type := 76, pos := "wal.go:104", after := #[], guard := none }) (v := .agg #[.bool true, .int .i64 ht, .int .i64 hv, .int .i64 0, .int .i64 0, .int .i64 0, .string ⟨#[]⟩]) rfl (by kernel_rfl) (by kernel_rfl) (by kernel_rfl) (fun _ _ _ h => h) (Or.inl ⟨by rfl, fun w hSw => ?_⟩) (by assumption) ?_
    · (try dsimp only at hSw)
      go_simp
    try simp only [Act.put, List.setIfInBounds_toArray, List.set_cons_zero, List.set_cons_succ]
    refine wpAnyH_ready (rs := [1]) (by kernel_rfl) (by simp) ?_
    refine AllReadyH.cons (o := { dst := some 21, op := Op.call { callee := Callee.value (Operand.func 62), args := #[Operand.tmp 7], argTypes := #[111] }, type := 4, pos := "wal.go:104", after := #[], guard := none }) rfl (fun K hK => ?_) AllReadyH.nil
    go_simp
    go_at_call 62
    refine hdn.mono ?_
    rintro e k4 ⟨rfl, rfl⟩
    refine hK.out _ _ ?_ (fun hHeld => ?_)
    · exact ⟨q1.cell (j := 0) rfl, q1.cell (j := 1) rfl, q1.cell (j := 2) rfl, q1.cell (j := 3) rfl, q1.cell (j := 4) rfl, q1.cell (j := 5) rfl, q1.cell (j := 6) rfl⟩
    clear hK K
    try simp only [Act.put, List.setIfInBounds_toArray, List.set_cons_zero, List.set_cons_succ]
    refine wpAnyH_take (i := 2) (oi := { dst := some 22, op := Op.move (Operand.tmp 21), type := 4, pos := "wal.go:104", after := #[{ on := 1, ground := Ground.data }, { on := 1, ground := Ground.chain }], guard := none }) (v := .bool false) rfl (by kernel_rfl) (by kernel_rfl) (by kernel_rfl) (fun _ _ _ h => h) (Or.inl ⟨by rfl, fun w hSw => ?_⟩) (by assumption) ?_
    · (try dsimp only at hSw)
      go_simp
    try simp only [Act.put, List.setIfInBounds_toArray, List.set_cons_zero, List.set_cons_succ]
    refine wpAnyH_take (i := 3) (oi := { dst := some 23, op := Op.load 76 (Operand.tmp 6), type := 76, pos := "wal.go:104", after := #[{ on := 2, ground := Ground.guard }], guard := some (2, true) }) (v := undef) rfl (by kernel_rfl) (by kernel_rfl) (by kernel_rfl) (fun _ _ _ h => h) (Or.inr ⟨by rfl, rfl⟩) (by assumption) ?_
    try simp only [Act.put, List.setIfInBounds_toArray, List.set_cons_zero, List.set_cons_succ]
    refine wpAnyH_take (i := 4) (oi := { dst := some 24, op := Op.call { callee := Callee.value (Operand.func 50), args := #[Operand.tmp 23], argTypes := #[76] }, type := 4, pos := "wal.go:104", after := #[{ on := 3, ground := Ground.data }, { on := 2, ground := Ground.chain }, { on := 2, ground := Ground.guard }], guard := some (2, true) }) (v := undef) rfl (by kernel_rfl) (by kernel_rfl) (by kernel_rfl) (fun _ _ _ h => h) (Or.inr ⟨by rfl, rfl⟩) (by assumption) ?_
    try simp only [Act.put, List.setIfInBounds_toArray, List.set_cons_zero, List.set_cons_succ]
    refine wpAnyH_take (i := 5) (oi := { dst := some 25, op := Op.pick (Operand.tmp 22) (Operand.tmp 24) (Operand.const (Value.bool false)), type := 4, pos := "wal.go:104", after := #[{ on := 2, ground := Ground.data }, { on := 4, ground := Ground.data }, { on := 6, ground := Ground.gcOnly Departure.lateStores }], guard := none }) (v := .bool false) rfl (by kernel_rfl) (by kernel_rfl) (by kernel_rfl) (fun _ _ _ h => h) (Or.inl ⟨by rfl, fun w hSw => ?_⟩) (by assumption) ?_
    · (try dsimp only at hSw)
      go_simp
    try simp only [Act.put, List.setIfInBounds_toArray, List.set_cons_zero, List.set_cons_succ]
    have z0 := q0.cell (j := 0) rfl
    have y0 := q0.frz 0
    have z1 := q0.cell (j := 1) rfl
    have y1 := q0.frz 1
    have z2 := q0.cell (j := 2) rfl
    have y2 := q0.frz 2
    have z3 := q0.cell (j := 3) rfl
    have y3 := q0.frz 3
    have z4 := q0.cell (j := 4) rfl
    have y4 := q0.frz 4
    have z5 := q0.cell (j := 5) rfl
    have y5 := q0.frz 5
    have z6 := q0.cell (j := 6) rfl
    have y6 := q0.frz 6
    refine wpAnyH_ready (rs := [6]) (by kernel_rfl) (by simp) ?_
    refine AllReadyH.cons (o := { dst := none, op := Op.store 76 (Operand.tmp 4) (Operand.tmp 20), type := 0, pos := "wal.go:104", after := #[{ on := 0, ground := Ground.data }, { on := 4, ground := Ground.chain }, { on := 0, ground := Ground.phase }, { on := 1, ground := Ground.textOnly Departure.lateStoresUnsure }, { on := 2, ground := Ground.textOnly Departure.lateStores }, { on := 3, ground := Ground.textOnly Departure.lateStores }, { on := 4, ground := Ground.textOnly Departure.lateStoresUnsure }, { on := 5, ground := Ground.textOnly Departure.lateStores }], guard := none }) rfl (fun K hK => ?_) AllReadyH.nil
    go_simp
    refine hK.out _ _ ?_ (fun hHeld => ?_)
    · exact ⟨(((((((q1.other 0 (.bool true) n01.symm).other 1 (.int .i64 ht) n01.symm).other 2 (.int .i64 hv) n01.symm).other 3 (.int .i64 0) n01.symm).other 4 (.int .i64 0) n01.symm).other 5 (.int .i64 0) n01.symm).other 6 (.string ⟨#[]⟩) n01.symm).cell (j := 0) rfl, (((((((q1.other 0 (.bool true) n01.symm).other 1 (.int .i64 ht) n01.symm).other 2 (.int .i64 hv) n01.symm).other 3 (.int .i64 0) n01.symm).other 4 (.int .i64 0) n01.symm).other 5 (.int .i64 0) n01.symm).other 6 (.string ⟨#[]⟩) n01.symm).cell (j := 1) rfl, (((((((q1.other 0 (.bool true) n01.symm).other 1 (.int .i64 ht) n01.symm).other 2 (.int .i64 hv) n01.symm).other 3 (.int .i64 0) n01.symm).other 4 (.int .i64 0) n01.symm).other 5 (.int .i64 0) n01.symm).other 6 (.string ⟨#[]⟩) n01.symm).cell (j := 2) rfl, (((((((q1.other 0 (.bool true) n01.symm).other 1 (.int .i64 ht) n01.symm).other 2 (.int .i64 hv) n01.symm).other 3 (.int .i64 0) n01.symm).other 4 (.int .i64 0) n01.symm).other 5 (.int .i64 0) n01.symm).other 6 (.string ⟨#[]⟩) n01.symm).cell (j := 3) rfl, (((((((q1.other 0 (.bool true) n01.symm).other 1 (.int .i64 ht) n01.symm).other 2 (.int .i64 hv) n01.symm).other 3 (.int .i64 0) n01.symm).other 4 (.int .i64 0) n01.symm).other 5 (.int .i64 0) n01.symm).other 6 (.string ⟨#[]⟩) n01.symm).cell (j := 4) rfl, (((((((q1.other 0 (.bool true) n01.symm).other 1 (.int .i64 ht) n01.symm).other 2 (.int .i64 hv) n01.symm).other 3 (.int .i64 0) n01.symm).other 4 (.int .i64 0) n01.symm).other 5 (.int .i64 0) n01.symm).other 6 (.string ⟨#[]⟩) n01.symm).cell (j := 5) rfl, (((((((q1.other 0 (.bool true) n01.symm).other 1 (.int .i64 ht) n01.symm).other 2 (.int .i64 hv) n01.symm).other 3 (.int .i64 0) n01.symm).other 4 (.int .i64 0) n01.symm).other 5 (.int .i64 0) n01.symm).other 6 (.string ⟨#[]⟩) n01.symm).cell (j := 6) rfl⟩
    clear hK K
    try simp only [Act.put, List.setIfInBounds_toArray, List.set_cons_zero, List.set_cons_succ]
    refine wpAnyH_ready (rs := [7]) (by kernel_rfl) (by simp) ?_
    refine AllReadyH.cons (o := { dst := some 5, op := Op.assign (Operand.tmp 25), type := 4, pos := "wal.go:104", after := #[{ on := 5, ground := Ground.data }, { on := 6, ground := Ground.chain }, { on := 0, ground := Ground.phase }, { on := 1, ground := Ground.phase }, { on := 2, ground := Ground.phase }, { on := 3, ground := Ground.phase }, { on := 4, ground := Ground.phase }, { on := 5, ground := Ground.phase }, { on := 6, ground := Ground.phase }], guard := none }) rfl (fun K hK => ?_) AllReadyH.nil
    go_simp
    refine hK.out _ _ ?_ (fun hHeld => ?_)
    · exact ⟨(((((((q1.other 0 (.bool true) n01.symm).other 1 (.int .i64 ht) n01.symm).other 2 (.int .i64 hv) n01.symm).other 3 (.int .i64 0) n01.symm).other 4 (.int .i64 0) n01.symm).other 5 (.int .i64 0) n01.symm).other 6 (.string ⟨#[]⟩) n01.symm).cell (j := 0) rfl, (((((((q1.other 0 (.bool true) n01.symm).other 1 (.int .i64 ht) n01.symm).other 2 (.int .i64 hv) n01.symm).other 3 (.int .i64 0) n01.symm).other 4 (.int .i64 0) n01.symm).other 5 (.int .i64 0) n01.symm).other 6 (.string ⟨#[]⟩) n01.symm).cell (j := 1) rfl, (((((((q1.other 0 (.bool true) n01.symm).other 1 (.int .i64 ht) n01.symm).other 2 (.int .i64 hv) n01.symm).other 3 (.int .i64 0) n01.symm).other 4 (.int .i64 0) n01.symm).other 5 (.int .i64 0) n01.symm).other 6 (.string ⟨#[]⟩) n01.symm).cell (j := 2) rfl, (((((((q1.other 0 (.bool true) n01.symm).other 1 (.int .i64 ht) n01.symm).other 2 (.int .i64 hv) n01.symm).other 3 (.int .i64 0) n01.symm).other 4 (.int .i64 0) n01.symm).other 5 (.int .i64 0) n01.symm).other 6 (.string ⟨#[]⟩) n01.symm).cell (j := 3) rfl, (((((((q1.other 0 (.bool true) n01.symm).other 1 (.int .i64 ht) n01.symm).other 2 (.int .i64 hv) n01.symm).other 3 (.int .i64 0) n01.symm).other 4 (.int .i64 0) n01.symm).other 5 (.int .i64 0) n01.symm).other 6 (.string ⟨#[]⟩) n01.symm).cell (j := 4) rfl, (((((((q1.other 0 (.bool true) n01.symm).other 1 (.int .i64 ht) n01.symm).other 2 (.int .i64 hv) n01.symm).other 3 (.int .i64 0) n01.symm).other 4 (.int .i64 0) n01.symm).other 5 (.int .i64 0) n01.symm).other 6 (.string ⟨#[]⟩) n01.symm).cell (j := 5) rfl, (((((((q1.other 0 (.bool true) n01.symm).other 1 (.int .i64 ht) n01.symm).other 2 (.int .i64 hv) n01.symm).other 3 (.int .i64 0) n01.symm).other 4 (.int .i64 0) n01.symm).other 5 (.int .i64 0) n01.symm).other 6 (.string ⟨#[]⟩) n01.symm).cell (j := 6) rfl⟩
    clear hK K
    try simp only [Act.put, List.setIfInBounds_toArray, List.set_cons_zero, List.set_cons_succ]
    refine wpAnyH_done (by kernel_rfl) ?_ _
    refine NoPanic.normal ?_
    go_wp2
    have hxs : Rt _ (w.heap.size) 76 [.bool true, .int .i64 ht, .int .i64 hv, .int .i64 0, .int .i64 0, .int .i64 0, .string ⟨#[]⟩] := (((((((q0.set 0 (.bool true)).set 1 (.int .i64 ht)).set 2 (.int .i64 hv)).set 3 (.int .i64 0)).set 4 (.int .i64 0)).set 5 (.int .i64 0)).set 6 (.string ⟨#[]⟩))
    have hbs := (below_set10 ((below_set10 ((below_set10 ((below_set10 ((below_set10 ((below_set10 ((below_set10 (hb) 0 (g := w.heap.size) (.bool true) (by omega))) 1 (g := w.heap.size) (.int .i64 ht) (by omega))) 2 (g := w.heap.size) (.int .i64 hv) (by omega))) 3 (g := w.heap.size) (.int .i64 0) (by omega))) 4 (g := w.heap.size) (.int .i64 0) (by omega))) 5 (g := w.heap.size) (.int .i64 0) (by omega))) 6 (g := w.heap.size) (.string ⟨#[]⟩) (by omega))
    refine body_world10 (fun W => Below w.heap.size w W ∧ Rt W (w.heap.size) 76 [.bool true, .int .i64 ht, .int .i64 hv, .int .i64 0, .int .i64 0, .int .i64 0, .string ⟨#[]⟩]) ⟨hbs, hxs⟩ ?_
    clear hbs hxs
    rintro W ⟨hbs, hxs⟩
    have d0 := hxs.cell (j := 0) rfl
    have d1 := hxs.cell (j := 1) rfl
    have d2 := hxs.cell (j := 2) rfl
    have d3 := hxs.cell (j := 3) rfl
    have d4 := hxs.cell (j := 4) rfl
    have d5 := hxs.cell (j := 5) rfl
    have d6 := hxs.cell (j := 6) rfl
    refine bodyPost_ret (v := .tuple #[.agg #[.bool true, .int .i64 ht, .int .i64 hv, .int .i64 0, .int .i64 0, .int .i64 0, .string ⟨#[]⟩], .bool false]) (by simp [results, Tryd.results84, go_sem, d0, d1, d2, d3, d4, d5, d6]) rfl ?_
    exact ⟨by rw [← HX.out]; rfl, hbs⟩
set_option maxHeartbeats 2000000 in
theorem wread_entry (A : Option Addr) (n c B : Nat) (l : List UInt8) (w : World) (h : Byt w B (.slice A n c) l) (hB : B ≤ w.heap.size) (hl : l.length ≤ 1050000) (s1 s2 s3 s4 : RdS10) (ix et kd : Int) (dt : ByteArray) (h1 : rdN10 (l, false) = (ix, s1)) (h2 : rdN10 s1 = (et, s2)) (h3 : rdN10 s2 = (kd, s3)) (h4 : rdT10 s3 = (dt, s4)) (l1 : s1.1.length ≤ 1050000) (l2 : s2.1.length ≤ 1050000) (l3 : s3.1.length ≤ 1050000) (b0 : -9223372036854775808 ≤ kd) (b1 : kd ≤ 9223372036854775807) (lS : s4.1.length ≤ 1050000) (ldt : dt.size ≤ 1050000) (x : Bool) (hx : (done10 s4 && may10 ⟨false, 0, 0, ⟨ix, et, kd, dt⟩⟩) = x) :
    Calls Tryd.prog 84 #[.int .i64 2, .slice A n c] w fun e w' => e = .returned (.tuple #[.agg #[.bool false, .int .i64 0, .int .i64 0, .int .i64 ix, .int .i64 et, .int .i64 kd, .string dt], .bool x]) ∧ Below w.heap.size w w' := by
  obtain ⟨W1, hW1⟩ : ∃ W1, ((w.alloc (.cells #[.bool false, .int .i64 0, .int .i64 0, .int .i64 0, .int .i64 0, .int .i64 0, .string ⟨#[]⟩] 76)).alloc (.cells #[.bool false, .int .i64 0, .int .i64 0, .int .i64 0, .int .i64 0, .int .i64 0, .string ⟨#[]⟩] 76)) = W1 := ⟨_, rfl⟩
  have hz1 : W1.heap.size = w.heap.size + 1 + 1 := by rw [← hW1]; simp
  have hbw1 : Below w.heap.size w W1 := by rw [← hW1]; exact (below_new _ _).alloc (by simp) _
  obtain ⟨W2, hW2⟩ : ∃ W2, W1.alloc (.cells #[.slice A n c, .bool false] 111) = W2 := ⟨_, rfl⟩
  have hbw2 : Below W1.heap.size W1 W2 := by rw [← hW2]; exact below_new _ _
  have hbw : Below w.heap.size w W2 := hbw1.trans (hbw2.mono hbw1.size)
  have r0 : Rt W2 (w.heap.size) 76 [.bool false, .int .i64 0, .int .i64 0, .int .i64 0, .int .i64 0, .int .i64 0, .string ⟨#[]⟩] := Rt.below (w := W1) (Rt.below (w := w.alloc (.cells #[.bool false, .int .i64 0, .int .i64 0, .int .i64 0, .int .i64 0, .int .i64 0, .string ⟨#[]⟩] 76)) (Rt.new _ _ _) (by rw [← hW1]; exact below_new _ _)) hbw2
  have r1 : Rt W2 (w.heap.size + 1) 76 [.bool false, .int .i64 0, .int .i64 0, .int .i64 0, .int .i64 0, .int .i64 0, .string ⟨#[]⟩] := Rt.below (w := W1) (by rw [← hW1]; exact Rt.new_at _ _ _ [.bool false, .int .i64 0, .int .i64 0, .int .i64 0, .int .i64 0, .int .i64 0, .string ⟨#[]⟩] (by simp)) hbw2
  have hr : WRd W2 (w.heap.size + 1 + 1) B (l, false) := by
    have := WRd.new W1 B l A n c (h.below hbw1 hB) (by omega)
    rw [hW2, hz1] at this; exact this
  have n0 : w.heap.size ≠ w.heap.size + 1 + 1 := by omega
  have n1 : w.heap.size + 1 ≠ w.heap.size + 1 + 1 := by omega
  have n01 : w.heap.size ≠ w.heap.size + 1 := by omega
  have HBW := Lib.hid hbw
  clear hbw1 hbw2 hbw h hz1
  go_enter Tryd.func84, Tryd.ntmps84
  have hW3 : (((w.alloc (.cells #[.bool false, .int .i64 0, .int .i64 0, .int .i64 0, .int .i64 0, .int .i64 0, .string ⟨#[]⟩] 76)).alloc (.cells #[.bool false, .int .i64 0, .int .i64 0, .int .i64 0, .int .i64 0, .int .i64 0, .string ⟨#[]⟩] 76)).alloc (.cells #[.slice A n c, .bool false] 111)) = W2 := by rw [hW1]; exact hW2
  have HW3 := Lib.hid hW3
  clear hW1 hW2 hW3
  go_wp2_with fail
  rw [HW3.out]
  refine (w10entry _ B (l, false) s1 s2 s3 s4 ix et kd dt _ hr hl l1 l2 l3 h1 h2 h3 h4 b0 b1).mono ?_
  rintro e k1 ⟨rfl, hr1, hq⟩
  have q0 := r0.grown hq n0
  have q1 := r1.grown hq n1
  have HB1 := Lib.hid (HBW.out.trans (below_grown10 hq (B := w.heap.size) (by omega) hr.lt))
  clear hq r0 r1 HW3 hr
  have c0 := q1.cell (j := 0) rfl
  have f0 := q1.frz 0
  have c1 := q1.cell (j := 1) rfl
  have f1 := q1.frz 1
  have c2 := q1.cell (j := 2) rfl
  have f2 := q1.frz 2
  have c3 := q1.cell (j := 3) rfl
  have f3 := q1.frz 3
  have c4 := q1.cell (j := 4) rfl
  have f4 := q1.frz 4
  have c5 := q1.cell (j := 5) rfl
  have f5 := q1.frz 5
  have c6 := q1.cell (j := 6) rfl
  have f6 := q1.frz 6
  have HR := Lib.hid hr1
  have HQ0 := Lib.hid q0
  have HQ1 := Lib.hid q1
  clear hr1 q0 q1
  have nr : w.heap.size + 1 + 1 ≠ w.heap.size + 1 := by omega
  have hBr : B ≤ w.heap.size + 1 := by omega
  go_wp2_with fail
  refine wp_world (fun W => Rt W (w.heap.size + 1) 76 [.bool false, .int .i64 0, .int .i64 0, .int .i64 ix, .int .i64 et, .int .i64 kd, .string dt] ∧ Rt W (w.heap.size) 76 [.bool false, .int .i64 0, .int .i64 0, .int .i64 0, .int .i64 0, .int .i64 0, .string ⟨#[]⟩] ∧ WRd W (w.heap.size + 1 + 1) B s4 ∧ Below w.heap.size w W) ⟨(((((((HQ1.out.set 0 (.bool false)).set 1 (.int .i64 0)).set 2 (.int .i64 0)).set 3 (.int .i64 ix)).set 4 (.int .i64 et)).set 5 (.int .i64 kd)).set 6 (.string dt)), (((((((HQ0.out.other 0 (.bool false) n01).other 1 (.int .i64 0) n01).other 2 (.int .i64 0) n01).other 3 (.int .i64 ix) n01).other 4 (.int .i64 et) n01).other 5 (.int .i64 kd) n01).other 6 (.string dt) n01), ?_, (below_set10 ((below_set10 ((below_set10 ((below_set10 ((below_set10 ((below_set10 ((below_set10 (HB1.out) 0 (g := w.heap.size + 1) (.bool false) (by omega))) 1 (g := w.heap.size + 1) (.int .i64 0) (by omega))) 2 (g := w.heap.size + 1) (.int .i64 0) (by omega))) 3 (g := w.heap.size + 1) (.int .i64 ix) (by omega))) 4 (g := w.heap.size + 1) (.int .i64 et) (by omega))) 5 (g := w.heap.size + 1) (.int .i64 kd) (by omega))) 6 (g := w.heap.size + 1) (.string dt) (by omega))⟩ ?_
  · exact ((((((((((((((HR.out).set10 0 (g' := w.heap.size + 1) (.bool false) nr hBr)).set10 1 (g' := w.heap.size + 1) (.int .i64 0) nr hBr)).set10 2 (g' := w.heap.size + 1) (.int .i64 0) nr hBr)).set10 3 (g' := w.heap.size + 1) (.int .i64 ix) nr hBr)).set10 4 (g' := w.heap.size + 1) (.int .i64 et) nr hBr)).set10 5 (g' := w.heap.size + 1) (.int .i64 kd) nr hBr)).set10 6 (g' := w.heap.size + 1) (.string dt) nr hBr)
  clear c0 c1 c2 c3 c4 c5 c6 f0 f1 f2 f3 f4 f5 f6 HQ0 HQ1 HR HB1
  rintro k2 ⟨q1, q0, hr, hb⟩
  obtain ⟨d, hd⟩ : ∃ d, done10 s4 = d := ⟨_, rfl⟩
  rw [hd] at hx
  have hdn := w10done _ B s4 k2.drew hr lS
  rw [show (!s4.2 && s4.1.length == 0) = d from hd] at hdn
  replace q1 : Rt k2.drew (w.heap.size + 1) 76 [.bool false, .int .i64 0, .int .i64 0, .int .i64 ix, .int .i64 et, .int .i64 kd, .string dt] := q1
  replace q0 : Rt k2.drew (w.heap.size) 76 [.bool false, .int .i64 0, .int .i64 0, .int .i64 0, .int .i64 0, .int .i64 0, .string ⟨#[]⟩] := q0
  replace hb : Below w.heap.size w k2.drew := hb.drew
  have hm := fun W => wmay10_any ⟨false, 0, 0, ⟨ix, et, kd, dt⟩⟩ W ldt
  obtain ⟨y, hy⟩ : ∃ y, may10 ⟨false, 0, 0, ⟨ix, et, kd, dt⟩⟩ = y := ⟨_, rfl⟩
  rw [hy] at hx hm
  have hlt := q1.lt
  refine wp_region_noPanic ?_
  refine wp_region_held_drew (S := fun W => W.cell? ⟨w.heap.size + 1, 0, none⟩ = some (.bool false) ∧ W.cell? ⟨w.heap.size + 1, 1, none⟩ = some (.int .i64 0) ∧ W.cell? ⟨w.heap.size + 1, 2, none⟩ = some (.int .i64 0) ∧ W.cell? ⟨w.heap.size + 1, 3, none⟩ = some (.int .i64 ix) ∧ W.cell? ⟨w.heap.size + 1, 4, none⟩ = some (.int .i64 et) ∧ W.cell? ⟨w.heap.size + 1, 5, none⟩ = some (.int .i64 kd) ∧ W.cell? ⟨w.heap.size + 1, 6, none⟩ = some (.string dt)) (by kernel_rfl) ?_ (fun hHeld => ?_)
  · exact ⟨q1.cell (j := 0) rfl, q1.cell (j := 1) rfl, q1.cell (j := 2) rfl, q1.cell (j := 3) rfl, q1.cell (j := 4) rfl, q1.cell (j := 5) rfl, q1.cell (j := 6) rfl⟩
  generalize k2.drew = k3 at *
  have HX := Lib.hid hx
  clear hr hd hy hx
  cases d with
  | true =>
    refine wpAnyH_take (i := 0) (oi := { dst := some 20, op := Op.load 76 (Operand.tmp 6), type := 76, pos := "wal.go:104", after := #[], guard := none }) (v := .agg #[.bool false, .int .i64 0, .int .i64 0, .int .i64 ix, .int .i64 et, .int .i64 kd, .string dt]) rfl (by kernel_rfl) (by kernel_rfl) (by kernel_rfl) (fun _ _ _ h => h) (Or.inl ⟨by rfl, fun w hSw => ?_⟩) (by assumption) ?_
    · (try dsimp only at hSw)
      go_simp
    try simp only [Act.put, List.setIfInBounds_toArray, List.set_cons_zero, List.set_cons_succ]
    refine wpAnyH_ready (rs := [1]) (by kernel_rfl) (by simp) ?_
    refine AllReadyH.cons (o := { dst := some 21, op := Op.call { callee := Callee.value (Operand.func 62), args := #[Operand.tmp 7], argTypes := #[111] }, type := 4, pos := "wal.go:104", after := #[], guard := none }) rfl (fun K hK => ?_) AllReadyH.nil
    go_simp
    go_at_call 62
    refine hdn.mono ?_
    rintro e k4 ⟨rfl, rfl⟩
    refine hK.out _ _ ?_ (fun hHeld => ?_)
    · exact ⟨q1.cell (j := 0) rfl, q1.cell (j := 1) rfl, q1.cell (j := 2) rfl, q1.cell (j := 3) rfl, q1.cell (j := 4) rfl, q1.cell (j := 5) rfl, q1.cell (j := 6) rfl⟩
    clear hK K
    try simp only [Act.put, List.setIfInBounds_toArray, List.set_cons_zero, List.set_cons_succ]
    refine wpAnyH_take (i := 2) (oi := { dst := some 22, op := Op.move (Operand.tmp 21), type := 4, pos := "wal.go:104", after := #[{ on := 1, ground := Ground.data }, { on := 1, ground := Ground.chain }], guard := none }) (v := .bool true) rfl (by kernel_rfl) (by kernel_rfl) (by kernel_rfl) (fun _ _ _ h => h) (Or.inl ⟨by rfl, fun w hSw => ?_⟩) (by assumption) ?_
    · (try dsimp only at hSw)
      go_simp
    try simp only [Act.put, List.setIfInBounds_toArray, List.set_cons_zero, List.set_cons_succ]
    refine wpAnyH_take (i := 3) (oi := { dst := some 23, op := Op.load 76 (Operand.tmp 6), type := 76, pos := "wal.go:104", after := #[{ on := 2, ground := Ground.guard }], guard := some (2, true) }) (v := .agg #[.bool false, .int .i64 0, .int .i64 0, .int .i64 ix, .int .i64 et, .int .i64 kd, .string dt]) rfl (by kernel_rfl) (by kernel_rfl) (by kernel_rfl) (fun _ _ _ h => h) (Or.inl ⟨by rfl, fun w hSw => ?_⟩) (by assumption) ?_
    · (try dsimp only at hSw)
      go_simp
    try simp only [Act.put, List.setIfInBounds_toArray, List.set_cons_zero, List.set_cons_succ]
    refine wpAnyH_ready (rs := [4]) (by kernel_rfl) (by simp) ?_
    refine AllReadyH.cons (o := { dst := some 24, op := Op.call { callee := Callee.value (Operand.func 50), args := #[Operand.tmp 23], argTypes := #[76] }, type := 4, pos := "wal.go:104", after := #[{ on := 3, ground := Ground.data }, { on := 2, ground := Ground.chain }, { on := 2, ground := Ground.guard }], guard := some (2, true) }) rfl (fun K hK => ?_) AllReadyH.nil
    go_simp
    go_at_call 50
    refine (hm _).mono ?_
    rintro e k5 ⟨rfl, h⟩
    replace q1 := q1.below h
    replace q0 := q0.below h
    replace hb := hb.trans (h.mono hb.size)
    have hl5 := h.size
    clear h
    refine hK.out _ _ ?_ (fun hHeld => ?_)
    · exact ⟨q1.cell (j := 0) rfl, q1.cell (j := 1) rfl, q1.cell (j := 2) rfl, q1.cell (j := 3) rfl, q1.cell (j := 4) rfl, q1.cell (j := 5) rfl, q1.cell (j := 6) rfl⟩
    clear hK K
    try simp only [Act.put, List.setIfInBounds_toArray, List.set_cons_zero, List.set_cons_succ]
    refine wpAnyH_take (i := 5) (oi := { dst := some 25, op := Op.pick (Operand.tmp 22) (Operand.tmp 24) (Operand.const (Value.bool false)), type := 4, pos := "wal.go:104", after := #[{ on := 2, ground := Ground.data }, { on := 4, ground := Ground.data }, { on := 6, ground := Ground.gcOnly Departure.lateStores }], guard := none }) (v := .bool y) rfl (by kernel_rfl) (by kernel_rfl) (by kernel_rfl) (fun _ _ _ h => h) (Or.inl ⟨by rfl, fun w hSw => ?_⟩) (by assumption) ?_
    · (try dsimp only at hSw)
      go_simp
    try simp only [Act.put, List.setIfInBounds_toArray, List.set_cons_zero, List.set_cons_succ]
    have z0 := q0.cell (j := 0) rfl
    have y0 := q0.frz 0
    have z1 := q0.cell (j := 1) rfl
    have y1 := q0.frz 1
    have z2 := q0.cell (j := 2) rfl
    have y2 := q0.frz 2
    have z3 := q0.cell (j := 3) rfl
    have y3 := q0.frz 3
    have z4 := q0.cell (j := 4) rfl
    have y4 := q0.frz 4
    have z5 := q0.cell (j := 5) rfl
    have y5 := q0.frz 5
    have z6 := q0.cell (j := 6) rfl
    have y6 := q0.frz 6
    refine wpAnyH_ready (rs := [6]) (by kernel_rfl) (by simp) ?_
    refine AllReadyH.cons (o := { dst := none, op := Op.store 76 (Operand.tmp 4) (Operand.tmp 20), type := 0, pos := "wal.go:104", after := #[{ on := 0, ground := Ground.data }, { on := 4, ground := Ground.chain }, { on := 0, ground := Ground.phase }, { on := 1, ground := Ground.textOnly Departure.lateStoresUnsure }, { on := 2, ground := Ground.textOnly Departure.lateStores }, { on := 3, ground := Ground.textOnly Departure.lateStores }, { on := 4, ground := Ground.textOnly Departure.lateStoresUnsure }, { on := 5, ground := Ground.textOnly Departure.lateStores }], guard := none }) rfl (fun K hK => ?_) AllReadyH.nil
    go_simp
    refine hK.out _ _ ?_ (fun hHeld => ?_)
    · exact ⟨(((((((q1.other 0 (.bool false) n01.symm).other 1 (.int .i64 0) n01.symm).other 2 (.int .i64 0) n01.symm).other 3 (.int .i64 ix) n01.symm).other 4 (.int .i64 et) n01.symm).other 5 (.int .i64 kd) n01.symm).other 6 (.string dt) n01.symm).cell (j := 0) rfl, (((((((q1.other 0 (.bool false) n01.symm).other 1 (.int .i64 0) n01.symm).other 2 (.int .i64 0) n01.symm).other 3 (.int .i64 ix) n01.symm).other 4 (.int .i64 et) n01.symm).other 5 (.int .i64 kd) n01.symm).other 6 (.string dt) n01.symm).cell (j := 1) rfl, (((((((q1.other 0 (.bool false) n01.symm).other 1 (.int .i64 0) n01.symm).other 2 (.int .i64 0) n01.symm).other 3 (.int .i64 ix) n01.symm).other 4 (.int .i64 et) n01.symm).other 5 (.int .i64 kd) n01.symm).other 6 (.string dt) n01.symm).cell (j := 2) rfl, (((((((q1.other 0 (.bool false) n01.symm).other 1 (.int .i64 0) n01.symm).other 2 (.int .i64 0) n01.symm).other 3 (.int .i64 ix) n01.symm).other 4 (.int .i64 et) n01.symm).other 5 (.int .i64 kd) n01.symm).other 6 (.string dt) n01.symm).cell (j := 3) rfl, (((((((q1.other 0 (.bool false) n01.symm).other 1 (.int .i64 0) n01.symm).other 2 (.int .i64 0) n01.symm).other 3 (.int .i64 ix) n01.symm).other 4 (.int .i64 et) n01.symm).other 5 (.int .i64 kd) n01.symm).other 6 (.string dt) n01.symm).cell (j := 4) rfl, (((((((q1.other 0 (.bool false) n01.symm).other 1 (.int .i64 0) n01.symm).other 2 (.int .i64 0) n01.symm).other 3 (.int .i64 ix) n01.symm).other 4 (.int .i64 et) n01.symm).other 5 (.int .i64 kd) n01.symm).other 6 (.string dt) n01.symm).cell (j := 5) rfl, (((((((q1.other 0 (.bool false) n01.symm).other 1 (.int .i64 0) n01.symm).other 2 (.int .i64 0) n01.symm).other 3 (.int .i64 ix) n01.symm).other 4 (.int .i64 et) n01.symm).other 5 (.int .i64 kd) n01.symm).other 6 (.string dt) n01.symm).cell (j := 6) rfl⟩
    clear hK K
    try simp only [Act.put, List.setIfInBounds_toArray, List.set_cons_zero, List.set_cons_succ]
    refine wpAnyH_ready (rs := [7]) (by kernel_rfl) (by simp) ?_
    refine AllReadyH.cons (o := { dst := some 5, op := Op.assign (Operand.tmp 25), type := 4, pos := "wal.go:104", after := #[{ on := 5, ground := Ground.data }, { on := 6, ground := Ground.chain }, { on := 0, ground := Ground.phase }, { on := 1, ground := Ground.phase }, { on := 2, ground := Ground.phase }, { on := 3, ground := Ground.phase }, { on := 4, ground := Ground.phase }, { on := 5, ground := Ground.phase }, { on := 6, ground := Ground.phase }], guard := none }) rfl (fun K hK => ?_) AllReadyH.nil
    go_simp
    refine hK.out _ _ ?_ (fun hHeld => ?_)
    · exact ⟨(((((((q1.other 0 (.bool false) n01.symm).other 1 (.int .i64 0) n01.symm).other 2 (.int .i64 0) n01.symm).other 3 (.int .i64 ix) n01.symm).other 4 (.int .i64 et) n01.symm).other 5 (.int .i64 kd) n01.symm).other 6 (.string dt) n01.symm).cell (j := 0) rfl, (((((((q1.other 0 (.bool false) n01.symm).other 1 (.int .i64 0) n01.symm).other 2 (.int .i64 0) n01.symm).other 3 (.int .i64 ix) n01.symm).other 4 (.int .i64 et) n01.symm).other 5 (.int .i64 kd) n01.symm).other 6 (.string dt) n01.symm).cell (j := 1) rfl, (((((((q1.other 0 (.bool false) n01.symm).other 1 (.int .i64 0) n01.symm).other 2 (.int .i64 0) n01.symm).other 3 (.int .i64 ix) n01.symm).other 4 (.int .i64 et) n01.symm).other 5 (.int .i64 kd) n01.symm).other 6 (.string dt) n01.symm).cell (j := 2) rfl, (((((((q1.other 0 (.bool false) n01.symm).other 1 (.int .i64 0) n01.symm).other 2 (.int .i64 0) n01.symm).other 3 (.int .i64 ix) n01.symm).other 4 (.int .i64 et) n01.symm).other 5 (.int .i64 kd) n01.symm).other 6 (.string dt) n01.symm).cell (j := 3) rfl, (((((((q1.other 0 (.bool false) n01.symm).other 1 (.int .i64 0) n01.symm).other 2 (.int .i64 0) n01.symm).other 3 (.int .i64 ix) n01.symm).other 4 (.int .i64 et) n01.symm).other 5 (.int .i64 kd) n01.symm).other 6 (.string dt) n01.symm).cell (j := 4) rfl, (((((((q1.other 0 (.bool false) n01.symm).other 1 (.int .i64 0) n01.symm).other 2 (.int .i64 0) n01.symm).other 3 (.int .i64 ix) n01.symm).other 4 (.int .i64 et) n01.symm).other 5 (.int .i64 kd) n01.symm).other 6 (.string dt) n01.symm).cell (j := 5) rfl, (((((((q1.other 0 (.bool false) n01.symm).other 1 (.int .i64 0) n01.symm).other 2 (.int .i64 0) n01.symm).other 3 (.int .i64 ix) n01.symm).other 4 (.int .i64 et) n01.symm).other 5 (.int .i64 kd) n01.symm).other 6 (.string dt) n01.symm).cell (j := 6) rfl⟩
    clear hK K
    try simp only [Act.put, List.setIfInBounds_toArray, List.set_cons_zero, List.set_cons_succ]
    refine wpAnyH_done (by kernel_rfl) ?_ _
    refine NoPanic.normal ?_
    go_wp2
    have hxs : Rt _ (w.heap.size) 76 [.bool false, .int .i64 0, .int .i64 0, .int .i64 ix, .int .i64 et, .int .i64 kd, .string dt] := (((((((q0.set 0 (.bool false)).set 1 (.int .i64 0)).set 2 (.int .i64 0)).set 3 (.int .i64 ix)).set 4 (.int .i64 et)).set 5 (.int .i64 kd)).set 6 (.string dt))
    have hbs := (below_set10 ((below_set10 ((below_set10 ((below_set10 ((below_set10 ((below_set10 ((below_set10 (hb) 0 (g := w.heap.size) (.bool false) (by omega))) 1 (g := w.heap.size) (.int .i64 0) (by omega))) 2 (g := w.heap.size) (.int .i64 0) (by omega))) 3 (g := w.heap.size) (.int .i64 ix) (by omega))) 4 (g := w.heap.size) (.int .i64 et) (by omega))) 5 (g := w.heap.size) (.int .i64 kd) (by omega))) 6 (g := w.heap.size) (.string dt) (by omega))
    refine body_world10 (fun W => Below w.heap.size w W ∧ Rt W (w.heap.size) 76 [.bool false, .int .i64 0, .int .i64 0, .int .i64 ix, .int .i64 et, .int .i64 kd, .string dt]) ⟨hbs, hxs⟩ ?_
    clear hbs hxs
    rintro W ⟨hbs, hxs⟩
    have d0 := hxs.cell (j := 0) rfl
    have d1 := hxs.cell (j := 1) rfl
    have d2 := hxs.cell (j := 2) rfl
    have d3 := hxs.cell (j := 3) rfl
    have d4 := hxs.cell (j := 4) rfl
    have d5 := hxs.cell (j := 5) rfl
    have d6 := hxs.cell (j := 6) rfl
    refine bodyPost_ret (v := .tuple #[.agg #[.bool false, .int .i64 0, .int .i64 0, .int .i64 ix, .int .i64 et, .int .i64 kd, .string dt], .bool y]) (by simp [results, Tryd.results84, go_sem, d0, d1, d2, d3, d4, d5, d6]) rfl ?_
    exact ⟨by rw [← HX.out]; rfl, hbs⟩
  | false =>
    refine wpAnyH_take (i := 0) (oi := { dst := some 20, op := Op.load 76 (Operand.tmp 6), type := 76, pos := "wal.go:104", after := #[], guard := none }) (v := .agg #[.bool false, .int .i64 0, .int .i64 0, .int .i64 ix, .int .i64 et, .int .i64 kd, .string dt]) rfl (by kernel_rfl) (by kernel_rfl) (by kernel_rfl) (fun _ _ _ h => h) (Or.inl ⟨by rfl, fun w hSw => ?_⟩) (by assumption) ?_
    · (try dsimp only at hSw)
      go_simp
    try simp only [Act.put, List.setIfInBounds_toArray, List.set_cons_zero, List.set_cons_succ]
    refine wpAnyH_ready (rs := [1]) (by kernel_rfl) (by simp) ?_
    refine AllReadyH.cons (o := { dst := some 21, op := Op.call { callee := Callee.value (Operand.func 62), args := #[Operand.tmp 7], argTypes := #[111] }, type := 4, pos := "wal.go:104", after := #[], guard := none }) rfl (fun K hK => ?_) AllReadyH.nil
    go_simp
    go_at_call 62
    refine hdn.mono ?_
    rintro e k4 ⟨rfl, rfl⟩
    refine hK.out _ _ ?_ (fun hHeld => ?_)
    · exact ⟨q1.cell (j := 0) rfl, q1.cell (j := 1) rfl, q1.cell (j := 2) rfl, q1.cell (j := 3) rfl, q1.cell (j := 4) rfl, q1.cell (j := 5) rfl, q1.cell (j := 6) rfl⟩
    clear hK K
    try simp only [Act.put, List.setIfInBounds_toArray, List.set_cons_zero, List.set_cons_succ]
    refine wpAnyH_take (i := 2) (oi := { dst := some 22, op := Op.move (Operand.tmp 21), type := 4, pos := "wal.go:104", after := #[{ on := 1, ground := Ground.data }, { on := 1, ground := Ground.chain }], guard := none }) (v := .bool false) rfl (by kernel_rfl) (by kernel_rfl) (by kernel_rfl) (fun _ _ _ h => h) (Or.inl ⟨by rfl, fun w hSw => ?_⟩) (by assumption) ?_
    · (try dsimp only at hSw)
      go_simp
    try simp only [Act.put, List.setIfInBounds_toArray, List.set_cons_zero, List.set_cons_succ]
    refine wpAnyH_take (i := 3) (oi := { dst := some 23, op := Op.load 76 (Operand.tmp 6), type := 76, pos := "wal.go:104", after := #[{ on := 2, ground := Ground.guard }], guard := some (2, true) }) (v := undef) rfl (by kernel_rfl) (by kernel_rfl) (by kernel_rfl) (fun _ _ _ h => h) (Or.inr ⟨by rfl, rfl⟩) (by assumption) ?_
    try simp only [Act.put, List.setIfInBounds_toArray, List.set_cons_zero, List.set_cons_succ]
    refine wpAnyH_take (i := 4) (oi := { dst := some 24, op := Op.call { callee := Callee.value (Operand.func 50), args := #[Operand.tmp 23], argTypes := #[76] }, type := 4, pos := "wal.go:104", after := #[{ on := 3, ground := Ground.data }, { on := 2, ground := Ground.chain }, { on := 2, ground := Ground.guard }], guard := some (2, true) }) (v := undef) rfl (by kernel_rfl) (by kernel_rfl) (by kernel_rfl) (fun _ _ _ h => h) (Or.inr ⟨by rfl, rfl⟩) (by assumption) ?_
    try simp only [Act.put, List.setIfInBounds_toArray, List.set_cons_zero, List.set_cons_succ]
    refine wpAnyH_take (i := 5) (oi := { dst := some 25, op := Op.pick (Operand.tmp 22) (Operand.tmp 24) (Operand.const (Value.bool false)), type := 4, pos := "wal.go:104", after := #[{ on := 2, ground := Ground.data }, { on := 4, ground := Ground.data }, { on := 6, ground := Ground.gcOnly Departure.lateStores }], guard := none }) (v := .bool false) rfl (by kernel_rfl) (by kernel_rfl) (by kernel_rfl) (fun _ _ _ h => h) (Or.inl ⟨by rfl, fun w hSw => ?_⟩) (by assumption) ?_
    · (try dsimp only at hSw)
      go_simp
    try simp only [Act.put, List.setIfInBounds_toArray, List.set_cons_zero, List.set_cons_succ]
    have z0 := q0.cell (j := 0) rfl
    have y0 := q0.frz 0
    have z1 := q0.cell (j := 1) rfl
    have y1 := q0.frz 1
    have z2 := q0.cell (j := 2) rfl
    have y2 := q0.frz 2
    have z3 := q0.cell (j := 3) rfl
    have y3 := q0.frz 3
    have z4 := q0.cell (j := 4) rfl
    have y4 := q0.frz 4
    have z5 := q0.cell (j := 5) rfl
    have y5 := q0.frz 5
    have z6 := q0.cell (j := 6) rfl
    have y6 := q0.frz 6
    refine wpAnyH_ready (rs := [6]) (by kernel_rfl) (by simp) ?_
    refine AllReadyH.cons (o := { dst := none, op := Op.store 76 (Operand.tmp 4) (Operand.tmp 20), type := 0, pos := "wal.go:104", after := #[{ on := 0, ground := Ground.data }, { on := 4, ground := Ground.chain }, { on := 0, ground := Ground.phase }, { on := 1, ground := Ground.textOnly Departure.lateStoresUnsure }, { on := 2, ground := Ground.textOnly Departure.lateStores }, { on := 3, ground := Ground.textOnly Departure.lateStores }, { on := 4, ground := Ground.textOnly Departure.lateStoresUnsure }, { on := 5, ground := Ground.textOnly Departure.lateStores }], guard := none }) rfl (fun K hK => ?_) AllReadyH.nil
    go_simp
    refine hK.out _ _ ?_ (fun hHeld => ?_)
    · exact ⟨(((((((q1.other 0 (.bool false) n01.symm).other 1 (.int .i64 0) n01.symm).other 2 (.int .i64 0) n01.symm).other 3 (.int .i64 ix) n01.symm).other 4 (.int .i64 et) n01.symm).other 5 (.int .i64 kd) n01.symm).other 6 (.string dt) n01.symm).cell (j := 0) rfl, (((((((q1.other 0 (.bool false) n01.symm).other 1 (.int .i64 0) n01.symm).other 2 (.int .i64 0) n01.symm).other 3 (.int .i64 ix) n01.symm).other 4 (.int .i64 et) n01.symm).other 5 (.int .i64 kd) n01.symm).other 6 (.string dt) n01.symm).cell (j := 1) rfl, (((((((q1.other 0 (.bool false) n01.symm).other 1 (.int .i64 0) n01.symm).other 2 (.int .i64 0) n01.symm).other 3 (.int .i64 ix) n01.symm).other 4 (.int .i64 et) n01.symm).other 5 (.int .i64 kd) n01.symm).other 6 (.string dt) n01.symm).cell (j := 2) rfl, (((((((q1.other 0 (.bool false) n01.symm).other 1 (.int .i64 0) n01.symm).other 2 (.int .i64 0) n01.symm).other 3 (.int .i64 ix) n01.symm).other 4 (.int .i64 et) n01.symm).other 5 (.int .i64 kd) n01.symm).other 6 (.string dt) n01.symm).cell (j := 3) rfl, (((((((q1.other 0 (.bool false) n01.symm).other 1 (.int .i64 0) n01.symm).other 2 (.int .i64 0) n01.symm).other 3 (.int .i64 ix) n01.symm).other 4 (.int .i64 et) n01.symm).other 5 (.int .i64 kd) n01.symm).other 6 (.string dt) n01.symm).cell (j := 4) rfl, (((((((q1.other 0 (.bool false) n01.symm).other 1 (.int .i64 0) n01.symm).other 2 (.int .i64 0) n01.symm).other 3 (.int .i64 ix) n01.symm).other 4 (.int .i64 et) n01.symm).other 5 (.int .i64 kd) n01.symm).other 6 (.string dt) n01.symm).cell (j := 5) rfl, (((((((q1.other 0 (.bool false) n01.symm).other 1 (.int .i64 0) n01.symm).other 2 (.int .i64 0) n01.symm).other 3 (.int .i64 ix) n01.symm).other 4 (.int .i64 et) n01.symm).other 5 (.int .i64 kd) n01.symm).other 6 (.string dt) n01.symm).cell (j := 6) rfl⟩
    clear hK K
    try simp only [Act.put, List.setIfInBounds_toArray, List.set_cons_zero, List.set_cons_succ]
    refine wpAnyH_ready (rs := [7]) (by kernel_rfl) (by simp) ?_
    refine AllReadyH.cons (o := { dst := some 5, op := Op.assign (Operand.tmp 25), type := 4, pos := "wal.go:104", after := #[{ on := 5, ground := Ground.data }, { on := 6, ground := Ground.chain }, { on := 0, ground := Ground.phase }, { on := 1, ground := Ground.phase }, { on := 2, ground := Ground.phase }, { on := 3, ground := Ground.phase }, { on := 4, ground := Ground.phase }, { on := 5, ground := Ground.phase }, { on := 6, ground := Ground.phase }], guard := none }) rfl (fun K hK => ?_) AllReadyH.nil
    go_simp
    refine hK.out _ _ ?_ (fun hHeld => ?_)
    · exact ⟨(((((((q1.other 0 (.bool false) n01.symm).other 1 (.int .i64 0) n01.symm).other 2 (.int .i64 0) n01.symm).other 3 (.int .i64 ix) n01.symm).other 4 (.int .i64 et) n01.symm).other 5 (.int .i64 kd) n01.symm).other 6 (.string dt) n01.symm).cell (j := 0) rfl, (((((((q1.other 0 (.bool false) n01.symm).other 1 (.int .i64 0) n01.symm).other 2 (.int .i64 0) n01.symm).other 3 (.int .i64 ix) n01.symm).other 4 (.int .i64 et) n01.symm).other 5 (.int .i64 kd) n01.symm).other 6 (.string dt) n01.symm).cell (j := 1) rfl, (((((((q1.other 0 (.bool false) n01.symm).other 1 (.int .i64 0) n01.symm).other 2 (.int .i64 0) n01.symm).other 3 (.int .i64 ix) n01.symm).other 4 (.int .i64 et) n01.symm).other 5 (.int .i64 kd) n01.symm).other 6 (.string dt) n01.symm).cell (j := 2) rfl, (((((((q1.other 0 (.bool false) n01.symm).other 1 (.int .i64 0) n01.symm).other 2 (.int .i64 0) n01.symm).other 3 (.int .i64 ix) n01.symm).other 4 (.int .i64 et) n01.symm).other 5 (.int .i64 kd) n01.symm).other 6 (.string dt) n01.symm).cell (j := 3) rfl, (((((((q1.other 0 (.bool false) n01.symm).other 1 (.int .i64 0) n01.symm).other 2 (.int .i64 0) n01.symm).other 3 (.int .i64 ix) n01.symm).other 4 (.int .i64 et) n01.symm).other 5 (.int .i64 kd) n01.symm).other 6 (.string dt) n01.symm).cell (j := 4) rfl, (((((((q1.other 0 (.bool false) n01.symm).other 1 (.int .i64 0) n01.symm).other 2 (.int .i64 0) n01.symm).other 3 (.int .i64 ix) n01.symm).other 4 (.int .i64 et) n01.symm).other 5 (.int .i64 kd) n01.symm).other 6 (.string dt) n01.symm).cell (j := 5) rfl, (((((((q1.other 0 (.bool false) n01.symm).other 1 (.int .i64 0) n01.symm).other 2 (.int .i64 0) n01.symm).other 3 (.int .i64 ix) n01.symm).other 4 (.int .i64 et) n01.symm).other 5 (.int .i64 kd) n01.symm).other 6 (.string dt) n01.symm).cell (j := 6) rfl⟩
    clear hK K
    try simp only [Act.put, List.setIfInBounds_toArray, List.set_cons_zero, List.set_cons_succ]
    refine wpAnyH_done (by kernel_rfl) ?_ _
    refine NoPanic.normal ?_
    go_wp2
    have hxs : Rt _ (w.heap.size) 76 [.bool false, .int .i64 0, .int .i64 0, .int .i64 ix, .int .i64 et, .int .i64 kd, .string dt] := (((((((q0.set 0 (.bool false)).set 1 (.int .i64 0)).set 2 (.int .i64 0)).set 3 (.int .i64 ix)).set 4 (.int .i64 et)).set 5 (.int .i64 kd)).set 6 (.string dt))
    have hbs := (below_set10 ((below_set10 ((below_set10 ((below_set10 ((below_set10 ((below_set10 ((below_set10 (hb) 0 (g := w.heap.size) (.bool false) (by omega))) 1 (g := w.heap.size) (.int .i64 0) (by omega))) 2 (g := w.heap.size) (.int .i64 0) (by omega))) 3 (g := w.heap.size) (.int .i64 ix) (by omega))) 4 (g := w.heap.size) (.int .i64 et) (by omega))) 5 (g := w.heap.size) (.int .i64 kd) (by omega))) 6 (g := w.heap.size) (.string dt) (by omega))
    refine body_world10 (fun W => Below w.heap.size w W ∧ Rt W (w.heap.size) 76 [.bool false, .int .i64 0, .int .i64 0, .int .i64 ix, .int .i64 et, .int .i64 kd, .string dt]) ⟨hbs, hxs⟩ ?_
    clear hbs hxs
    rintro W ⟨hbs, hxs⟩
    have d0 := hxs.cell (j := 0) rfl
    have d1 := hxs.cell (j := 1) rfl
    have d2 := hxs.cell (j := 2) rfl
    have d3 := hxs.cell (j := 3) rfl
    have d4 := hxs.cell (j := 4) rfl
    have d5 := hxs.cell (j := 5) rfl
    have d6 := hxs.cell (j := 6) rfl
    refine bodyPost_ret (v := .tuple #[.agg #[.bool false, .int .i64 0, .int .i64 0, .int .i64 ix, .int .i64 et, .int .i64 kd, .string dt], .bool false]) (by simp [results, Tryd.results84, go_sem, d0, d1, d2, d3, d4, d5, d6]) rfl ?_
    exact ⟨by rw [← HX.out]; rfl, hbs⟩
theorem getF_zero10 : ∀ (l : List UInt8) (i u p : Nat), (Nu.getF i u p l).2.2 ≠ 0 → (Nu.getF i u p l).1 = 0
  | [], _, _, _, _ => rfl
  | x :: r, i, u, p, h => by
    unfold Nu.getF at h ⊢
    revert h
    repeat' split
    all_goals first | (intro _; rfl) | (intro h; exact absurd rfl h) | exact getF_zero10 r _ _ _
theorem get_zero10 {l : List UInt8} {m : Int} {k e : Nat} (h : Nu.get l = (m, k, e)) (he : e ≠ 0) : m = 0 := by
  have := getF_zero10 l 0 0 1
  unfold Nu.get at h
  rw [h] at this
  exact this he
theorem getT_size10 (s : RdS10) : (rdT10 s).1.size ≤ s.1.length := by
  unfold rdT10
  simp only
  obtain ⟨⟨m, k, e⟩, hg⟩ : ∃ r, Nu.getT s.1 = r := ⟨_, rfl⟩
  rw [hg]
  show m.toArray.size ≤ _
  simp only [List.size_toArray]
  by_cases he : e = 0
  · subst he
    obtain ⟨h1, h2, _⟩ := Nu.getT_canon s.1 m k hg
    have := congrArg List.length h1
    rw [List.length_append] at this
    unfold Nu.putT at this
    rw [List.length_append] at this
    omega
  · have : m = [] := by
      rw [getT_of] at hg
      revert hg he
      repeat' split
      all_goals (intro h he; simp only [Prod.mk.injEq] at h; first | exact h.1.symm | (obtain ⟨_, _, h3⟩ := h; exact absurd h3.symm he))
    rw [this]; exact Nat.zero_le _
theorem get_bounds10 (s : RdS10) : -9223372036854775808 ≤ (rdN10 s).1 ∧ (rdN10 s).1 ≤ 9223372036854775807 := by
  unfold rdN10
  simp only
  obtain ⟨⟨m, k, e⟩, hg⟩ : ∃ r, Nu.get s.1 = r := ⟨_, rfl⟩
  rw [hg]
  by_cases he : e = 0
  · subst he
    exact (Nu.get_canon s.1 m k hg).2.2
  · have : m = 0 := get_zero10 hg he
    simp only [this]; decide
theorem wread_any (k : Nat) (A : Option Addr) (n c B : Nat) (l : List UInt8) (w : World) (h : Byt w B (.slice A n c) l) (hB : B ≤ w.heap.size) (hl : l.length ≤ 1050000) :
    Calls Tryd.prog 84 #[.int .i64 k, .slice A n c] w fun e w' => e = .returned (.tuple #[(readR10 k l).1.val, .bool (readR10 k l).2]) ∧ Below w.heap.size w w' := by
  by_cases h1 : k = 1
  · subst h1
    obtain ⟨⟨ht, s1⟩, q1⟩ : ∃ x, rdN10 (l, false) = x := ⟨_, rfl⟩
    obtain ⟨⟨hv, s2⟩, q2⟩ : ∃ x, rdN10 s1 = x := ⟨_, rfl⟩
    have l1 := rdN10_len (l, false)
    have l2 := rdN10_len s1
    have bb := get_bounds10 s1
    rw [q1] at l1
    rw [q2] at l2 bb
    simp only at l1 l2 bb
    have := wread_hard A n c B l w h hB hl s1 s2 ht hv q1 q2 (by omega) bb.1 bb.2 (by omega) _ rfl
    have e : readR10 1 l = (⟨true, ht, hv, noEnt⟩, done10 s2 && may10 ⟨true, ht, hv, noEnt⟩) := by
      unfold readR10 rdH10; rw [if_pos rfl]; simp only [q1, q2]
    rw [e]
    exact this
  · by_cases h2 : k = 2
    · subst h2
      obtain ⟨⟨ix, s1⟩, q1⟩ : ∃ x, rdN10 (l, false) = x := ⟨_, rfl⟩
      obtain ⟨⟨et, s2⟩, q2⟩ : ∃ x, rdN10 s1 = x := ⟨_, rfl⟩
      obtain ⟨⟨kd, s3⟩, q3⟩ : ∃ x, rdN10 s2 = x := ⟨_, rfl⟩
      obtain ⟨⟨dt, s4⟩, q4⟩ : ∃ x, rdT10 s3 = x := ⟨_, rfl⟩
      have l1 := rdN10_len (l, false)
      have l2 := rdN10_len s1
      have l3 := rdN10_len s2
      have l4 := rdT10_len s3
      have l5 := getT_size10 s3
      have bb := get_bounds10 s2
      rw [q1] at l1
      rw [q2] at l2
      rw [q3] at l3 bb
      rw [q4] at l4 l5
      simp only at l1 l2 l3 l4 l5 bb
      have := wread_entry A n c B l w h hB hl s1 s2 s3 s4 ix et kd dt q1 q2 q3 q4 (by omega) (by omega) (by omega) bb.1 bb.2 (by omega) (by omega) _ rfl
      have e : readR10 2 l = (⟨false, 0, 0, ⟨ix, et, kd, dt⟩⟩, done10 s4 && may10 ⟨false, 0, 0, ⟨ix, et, kd, dt⟩⟩) := by
        unfold readR10 rdE10; rw [if_neg (by decide), if_pos rfl]; simp only [q1, q2, q3, q4]
      rw [e]
      exact this
    · have hr : readR10 k l = (zRcd, false) := by unfold readR10; rw [if_neg h1, if_neg h2]
      rw [hr]
      have k1 : ((k : Int) == 1) = false := by rw [beq_eq_false_iff_ne]; omega
      have k2 : ((k : Int) == 2) = false := by rw [beq_eq_false_iff_ne]; omega
      have k3 : ¬ (k : Int) = 1 := by omega
      have k4 : ¬ (k : Int) = 2 := by omega
      clear h hr hl h1 h2
      go_enter Tryd.func84, Tryd.ntmps84
      go_wp2
      exact bodyPost_ret (v := .tuple #[.agg #[.bool false, .int .i64 0, .int .i64 0, .int .i64 0, .int .i64 0, .int .i64 0, .string ⟨#[]⟩], .bool false]) (by simp [results, Tryd.results84, go_sem]) rfl ⟨rfl, ((below_new _ _).alloc (by simp) _).alloc (by simp; omega) _⟩
end Go.Proofs.YtbiecoifeeikpaaDoor
