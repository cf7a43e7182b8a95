/-
  Plain facts on bytes, runes and their order, with no program in them: decoding, encoding, cutting, folding, comparing.
  There are no conditions beyond those that each lemma names.
-/
import Derived.Lib.DecodeN
import Derived.Lib.RuneBytes
import GoSem.Claim
import Derived.Lib.Strings
import Derived.WalkKit
import Derived.WalkLawsBesides
import Derived.WalkSpells
import Derived.BigCall
import Derived.BigQuiet
import Derived.Deep.QuietTactic
import Derived.Deep.LoopGhost
import Derived.Lib.Hide
import Derived.Outline
import Derived.Lib.OthersKept
import Derived.WalkSmall
set_option linter.unusedVariables false
set_option linter.unusedSimpArgs false
set_option linter.unusedVariables false
namespace Go.Proofs.Ytegkhkcnoahhdaa.Ru
open Go

/-- byte i of a list, 0 beyond its end -/
def byt (l : List UInt8) (i : Nat) : Nat := (l.getD i 0).toNat
theorem byt_lt (l : List UInt8) (i : Nat) : byt l i < 256 := (l.getD i 0).toNat_lt

/-- the first rune of a list of bytes and its width -/
def dcl (l : List UInt8) : Nat × Nat := Lib.decodeN l.length (byt l 0) (byt l 1) (byt l 2) (byt l 3)

theorem get_list (s : ByteArray) (i : Nat) : s.get! i = s.data.toList.getD i 0 := by
  show s.data[i]! = _
  by_cases h : i < s.data.size
  · rw [getElem!_pos s.data i h]; show _ = (s.data.toList[i]?).getD 0; rw [Array.getElem?_toList, Array.getElem?_eq_getElem h]; rfl
  · rw [getElem!_neg s.data i h]; show _ = (s.data.toList[i]?).getD 0; rw [Array.getElem?_toList, Array.getElem?_eq_none (Nat.le_of_not_lt h)]; rfl

theorem byt_drop (l : List UInt8) (i k : Nat) : byt (l.drop i) k = byt l (i + k) := by
  simp [byt, List.getD, List.getElem?_drop]

theorem decode_list (s : ByteArray) (i : Nat) : Utf8.decode s i = dcl (s.data.toList.drop i) := by
  have hl : (s.data.toList.drop i).length = s.size - i := by rw [List.length_drop, Array.length_toList]; rfl
  rw [Lib.decode_at]; unfold dcl
  rw [hl, byt_drop, byt_drop, byt_drop, byt_drop, get_list, get_list, get_list, get_list]
  rfl

/-- a rune that stands there in good bytes -/
def fine (x : Nat × Nat) : Bool := x.1 != 65533 || x.2 == 3

set_option maxHeartbeats 2000000 in
theorem decodeN_w (n b0 b1 b2 b3 : Nat) (hn : 1 ≤ n) : 1 ≤ (Lib.decodeN n b0 b1 b2 b3).2 ∧ (Lib.decodeN n b0 b1 b2 b3).2 ≤ n ∧ (Lib.decodeN n b0 b1 b2 b3).2 ≤ 4 := by
  unfold Lib.decodeN
  repeat' split
  all_goals (simp only; omega)

set_option maxHeartbeats 2000000 in
theorem decodeN_r (n b0 b1 b2 b3 : Nat) : (Lib.decodeN n b0 b1 b2 b3).1 < 55296 ∨ (57344 ≤ (Lib.decodeN n b0 b1 b2 b3).1 ∧ (Lib.decodeN n b0 b1 b2 b3).1 ≤ 1114111) := by
  unfold Lib.decodeN
  repeat' split
  all_goals (simp only; omega)

set_option maxHeartbeats 8000000 in
theorem decodeN_take (n k b0 b1 b2 b3 : Nat) (hn : 1 ≤ n) (hk : (Lib.decodeN n b0 b1 b2 b3).2 ≤ k) (hk1 : 1 ≤ k) :
    Lib.decodeN (min k n) b0 (if 1 < k then b1 else 0) (if 2 < k then b2 else 0) (if 3 < k then b3 else 0) = Lib.decodeN n b0 b1 b2 b3 := by
  have c1 : (1 < min k n) = (1 < k ∧ 1 < n) := propext ⟨fun h => by omega, fun h => by omega⟩
  have c2 : (2 < min k n) = (2 < k ∧ 2 < n) := propext ⟨fun h => by omega, fun h => by omega⟩
  have c3 : (3 < min k n) = (3 < k ∧ 3 < n) := propext ⟨fun h => by omega, fun h => by omega⟩
  have hcase : k = 1 ∨ k = 2 ∨ k = 3 ∨ 4 ≤ k := by omega
  rcases hcase with h | h | h | h
  · subst h
    revert hk
    simp only [Lib.decodeN, c1, c2, c3, show ¬ (1 < 1) by omega, show ¬ (2 < 1) by omega, show ¬ (3 < 1) by omega, if_false, false_and, and_false, if_false]
    repeat' split
    all_goals (intro hk; first | rfl | (exfalso; simp only at hk; omega) | (exfalso; omega))
  · subst h
    revert hk
    simp only [Lib.decodeN, c1, c2, c3, show (1 < 2) by omega, show ¬ (2 < 2) by omega, show ¬ (3 < 2) by omega, if_true, true_and, if_false, false_and, and_false, if_false]
    repeat' split
    all_goals (intro hk; first | rfl | (exfalso; simp only at hk; omega) | (exfalso; omega))
  · subst h
    revert hk
    simp only [Lib.decodeN, c1, c2, c3, show (1 < 3) by omega, show (2 < 3) by omega, show ¬ (3 < 3) by omega, if_true, true_and, if_false, false_and, and_false, if_false]
    repeat' split
    all_goals (intro hk; first | rfl | (exfalso; simp only at hk; omega) | (exfalso; omega))
  · simp only [Lib.decodeN, c1, c2, c3, show 1 < k by omega, show 2 < k by omega, show 3 < k by omega, if_true, true_and]

set_option maxHeartbeats 8000000 in
theorem decodeN_more (n N b0 b1 b2 b3 c1 c2 c3 : Nat) (hn : 1 ≤ n) (hN : n ≤ N) (h1 : 1 < n → c1 = b1) (h2 : 2 < n → c2 = b2) (h3 : 3 < n → c3 = b3)
    (hg : (Lib.decodeN n b0 b1 b2 b3).1 ≠ 65533 ∨ (Lib.decodeN n b0 b1 b2 b3).2 = 3) : Lib.decodeN N b0 c1 c2 c3 = Lib.decodeN n b0 b1 b2 b3 := by
  have hcase : n = 1 ∨ n = 2 ∨ n = 3 ∨ 4 ≤ n := by omega
  rcases hcase with h | h | h | h
  · subst h
    revert hg
    simp only [Lib.decodeN, show ¬ (1 < 1) by omega, show ¬ (2 < 1) by omega, show ¬ (3 < 1) by omega, false_and, and_false, if_false]
    split
    · intro _; rfl
    · intro hg; exfalso; simp at hg
  · subst h
    obtain rfl := h1 (by omega)
    have e1 : 1 < N := by omega
    revert hg
    simp only [Lib.decodeN, e1, show (1 < 2) by omega, show ¬ (2 < 2) by omega, show ¬ (3 < 2) by omega, true_and, false_and, and_false, if_false]
    split
    · intro _; rfl
    · split
      · intro _; rfl
      · intro hg; exfalso; simp at hg
  · subst h
    obtain rfl := h1 (by omega)
    obtain rfl := h2 (by omega)
    have e1 : 1 < N := by omega
    have e2 : 2 < N := by omega
    revert hg
    simp only [Lib.decodeN, e1, e2, show (1 < 3) by omega, show (2 < 3) by omega, show ¬ (3 < 3) by omega, true_and, false_and, and_false, if_false]
    split
    · intro _; rfl
    · split
      · intro _; rfl
      · split
        · intro _; rfl
        · intro hg; exfalso; simp at hg
  · obtain rfl := h1 (by omega)
    obtain rfl := h2 (by omega)
    obtain rfl := h3 (by omega)
    have e1 : 1 < N := by omega
    have e2 : 2 < N := by omega
    have e3 : 3 < N := by omega
    simp only [Lib.decodeN, e1, e2, e3, show 1 < n by omega, show 2 < n by omega, show 3 < n by omega]

theorem dcl_w (l : List UInt8) (h : l ≠ []) : 1 ≤ (dcl l).2 ∧ (dcl l).2 ≤ l.length ∧ (dcl l).2 ≤ 4 := decodeN_w _ _ _ _ _ (by cases l <;> simp_all)
theorem dcl_r (l : List UInt8) : (dcl l).1 < 55296 ∨ (57344 ≤ (dcl l).1 ∧ (dcl l).1 ≤ 1114111) := decodeN_r _ _ _ _ _

theorem byt_take (l : List UInt8) (k i : Nat) : byt (l.take k) i = if i < k then byt l i else 0 := by
  simp only [byt, List.getD, List.getElem?_take]
  split <;> simp

theorem dcl_take (l : List UInt8) (k : Nat) (h : l ≠ []) (hk : (dcl l).2 ≤ k) : dcl (l.take k) = dcl l := by
  have hw := dcl_w l h
  have := decodeN_take l.length k (byt l 0) (byt l 1) (byt l 2) (byt l 3) (by omega) hk (by omega)
  unfold dcl
  rw [← this, List.length_take, byt_take, byt_take, byt_take, byt_take, if_pos (show 0 < k by omega)]

theorem fine_iff (x : Nat × Nat) : fine x = true ↔ (x.1 ≠ 65533 ∨ x.2 = 3) := by simp [fine]

theorem byt_append (l m : List UInt8) (i : Nat) (h : i < l.length) : byt (l ++ m) i = byt l i := by
  simp [byt, List.getD, List.getElem?_append_left h]

theorem dcl_append (l m : List UInt8) (h : l ≠ []) (hf : fine (dcl l) = true) : dcl (l ++ m) = dcl l := by
  have hw := dcl_w l h
  have h0 : byt (l ++ m) 0 = byt l 0 := byt_append l m 0 (by omega)
  have := decodeN_more l.length (l ++ m).length (byt l 0) (byt l 1) (byt l 2) (byt l 3) (byt (l ++ m) 1) (byt (l ++ m) 2) (byt (l ++ m) 3) (by omega) (by simp) (fun h => byt_append l m 1 h) (fun h => byt_append l m 2 h) (fun h => byt_append l m 3 h) ((fine_iff _).1 hf)
  unfold dcl
  rw [h0, this]

/-! ### all runes of a text -/
def rnsF : Nat → List UInt8 → List (Nat × Nat)
  | 0, _ => []
  | f + 1, l => if l = [] then [] else dcl l :: rnsF f (l.drop (dcl l).2)
def rns (l : List UInt8) : List (Nat × Nat) := rnsF l.length l

theorem rnsF_enough (f : Nat) : ∀ g (l : List UInt8), l.length ≤ f → l.length ≤ g → rnsF f l = rnsF g l := by
  induction f with
  | zero => intro g l h _; have : l = [] := by cases l <;> simp_all
            subst this; cases g <;> simp [rnsF]
  | succ f ih =>
    intro g l h hg
    by_cases hl : l = []
    · subst hl; cases g <;> simp [rnsF]
    · have hw := dcl_w l hl
      cases g with
      | zero => exfalso; omega
      | succ g =>
        simp only [rnsF, if_neg hl]
        rw [ih g (l.drop (dcl l).2) (by simp; omega) (by simp; omega)]

@[simp] theorem rns_nil : rns [] = [] := rfl
theorem rns_cons (l : List UInt8) (h : l ≠ []) : rns l = dcl l :: rns (l.drop (dcl l).2) := by
  have hw := dcl_w l h
  obtain ⟨k, hk⟩ : ∃ k, l.length = k + 1 := ⟨l.length - 1, by omega⟩
  unfold rns
  rw [hk]
  simp only [rnsF, if_neg h]
  rw [rnsF_enough k (l.drop (dcl l).2).length _ (by simp; omega) (by simp)]

theorem rns_ind {P : List UInt8 → Prop} (h0 : P []) (h1 : ∀ l, l ≠ [] → P (l.drop (dcl l).2) → P l) (l : List UInt8) : P l := by
  suffices ∀ n (l : List UInt8), l.length ≤ n → P l from this _ l (Nat.le_refl _)
  intro n
  induction n with
  | zero => intro l h; have : l = [] := by cases l <;> simp_all
            subst this; exact h0
  | succ n ih =>
    intro l h
    by_cases hl : l = []
    · subst hl; exact h0
    · have hw := dcl_w l hl
      exact h1 l hl (ih _ (by simp; omega))

theorem rns_eq_nil (l : List UInt8) : rns l = [] ↔ l = [] := by
  by_cases h : l = []
  · simp [h]
  · rw [rns_cons l h]; simp [h]

def wsum (x : List (Nat × Nat)) : Nat := (x.map (·.2)).sum
@[simp] theorem wsum_nil : wsum [] = 0 := rfl
@[simp] theorem wsum_cons (a : Nat × Nat) (x : List (Nat × Nat)) : wsum (a :: x) = a.2 + wsum x := by simp [wsum]
@[simp] theorem wsum_append (x y : List (Nat × Nat)) : wsum (x ++ y) = wsum x + wsum y := by simp [wsum]

theorem wsum_rns (l : List UInt8) : wsum (rns l) = l.length := by
  induction l using rns_ind with
  | h0 => rfl
  | h1 l h ih => rw [rns_cons l h, wsum_cons, ih]; have := dcl_w l h; rw [List.length_drop]; omega

theorem rns_len (l : List UInt8) : (rns l).length ≤ l.length := by
  induction l using rns_ind with
  | h0 => simp
  | h1 l h ih => rw [rns_cons l h]; have := dcl_w l h; rw [List.length_drop] at ih; rw [List.length_cons]; omega

theorem rns_valid (l : List UInt8) : ∀ x ∈ rns l, x.1 < 55296 ∨ (57344 ≤ x.1 ∧ x.1 ≤ 1114111) := by
  induction l using rns_ind with
  | h0 => simp
  | h1 l h ih =>
    rw [rns_cons l h]; intro x hx
    rcases List.mem_cons.1 hx with rfl | hx
    · exact dcl_r l
    · exact ih x hx

def cnt (l : List UInt8) : Nat := (rns l).length
def vld (l : List UInt8) : Bool := (rns l).all fine
/-- where the first k runes end -/
def cutP (k : Nat) (l : List UInt8) : Nat := wsum ((rns l).take k)
@[simp] theorem cutP_zero (l : List UInt8) : cutP 0 l = 0 := by simp [cutP]
@[simp] theorem cutP_nil (k : Nat) : cutP k [] = 0 := by simp [cutP]
theorem cutP_succ (k : Nat) (l : List UInt8) (h : l ≠ []) : cutP (k + 1) l = (dcl l).2 + cutP k (l.drop (dcl l).2) := by
  simp [cutP, rns_cons l h]
theorem cutP_le (k : Nat) (l : List UInt8) : cutP k l ≤ l.length := by
  have := wsum_rns l
  have e : rns l = (rns l).take k ++ (rns l).drop k := (List.take_append_drop _ _).symm
  rw [e, wsum_append] at this
  unfold cutP; omega

theorem rns_take (k : Nat) (l : List UInt8) : rns (l.take (cutP k l)) = (rns l).take k := by
  induction l using rns_ind generalizing k with
  | h0 => simp
  | h1 l h ih =>
    cases k with
    | zero => simp
    | succ k =>
      have hw := dcl_w l h
      rw [cutP_succ k l h, rns_cons l h, List.take_succ_cons, ← ih k]
      have hne : l.take ((dcl l).2 + cutP k (l.drop (dcl l).2)) ≠ [] := by
        intro e; have := congrArg List.length e; rw [List.length_take, List.length_nil] at this; omega
      rw [rns_cons _ hne, dcl_take l _ h (by omega), List.drop_take]
      congr 2
      rw [Nat.add_sub_cancel_left]

theorem rns_drop (k : Nat) (l : List UInt8) : rns (l.drop (cutP k l)) = (rns l).drop k := by
  induction l using rns_ind generalizing k with
  | h0 => simp
  | h1 l h ih =>
    cases k with
    | zero => simp
    | succ k =>
      rw [cutP_succ k l h, rns_cons l h, List.drop_succ_cons, ← ih k, List.drop_drop]

theorem rns_append (l m : List UInt8) (h : vld l = true) : rns (l ++ m) = rns l ++ rns m := by
  induction l using rns_ind with
  | h0 => simp
  | h1 l hl ih =>
    have hw := dcl_w l hl
    unfold vld at h ih
    rw [rns_cons l hl, List.all_cons, Bool.and_eq_true] at h
    rw [rns_cons l hl, rns_cons (l ++ m) (by simp [hl]), dcl_append l m hl h.1, List.cons_append, ← ih h.2, List.drop_append_of_le_length hw.2.1]

/-! ### encoding -/
def rok (r : Nat) : Prop := r < 55296 ∨ (57344 ≤ r ∧ r ≤ 1114111)

theorem byt_cons0 (a : UInt8) (l : List UInt8) : byt (a :: l) 0 = a.toNat := rfl
theorem byt_cons (a : UInt8) (l : List UInt8) (i : Nat) : byt (a :: l) (i + 1) = byt l i := rfl

theorem u8n (n : Nat) (h : n < 256) : (n.toUInt8).toNat = n := by simp [Nat.toUInt8]; omega
def enc (r : Nat) : List UInt8 := Lib.encodeRune (r : Int)

set_option maxHeartbeats 4000000 in
theorem dcl_encode (r : Nat) (m : List UInt8) (h : rok r) : dcl (enc r ++ m) = (r, (enc r).length) := by
  unfold enc
  unfold rok at h
  have hcase : r ≤ 127 ∨ (128 ≤ r ∧ r ≤ 2047) ∨ (2048 ≤ r ∧ r ≤ 65535) ∨ (65536 ≤ r ∧ r ≤ 1114111) := by omega
  rcases hcase with h1 | h1 | h1 | h1
  · have e : Lib.encodeRuneZ (r : Int) = [(r : Int)] := Lib.encodeRuneZ_one (by omega) (by omega)
    have e2 : Lib.encodeRune (r : Int) = [r.toUInt8] := by simp [Lib.encodeRune, e]
    rw [e2, List.cons_append, List.nil_append]; unfold dcl
    rw [byt_cons0]; unfold Lib.decodeN
    rw [u8n r (by omega), if_pos (by omega)]; rfl
  · have e : Lib.encodeRuneZ (r : Int) = [192 + (r : Int) / 64, 128 + (r : Int) % 64] := Lib.encodeRuneZ_two (by omega) (by omega)
    have e2 : Lib.encodeRune (r : Int) = [(192 + r / 64).toUInt8, (128 + r % 64).toUInt8] := by
      simp only [Lib.encodeRune, e, List.map]
      rw [show ((192 : Int) + (r : Int) / 64).toNat = 192 + r / 64 by omega, show ((128 : Int) + (r : Int) % 64).toNat = 128 + r % 64 by omega]
    rw [e2]
    simp only [dcl, List.cons_append, List.nil_append, byt_cons0, byt_cons _ _ 0, List.length_cons, Lib.decodeN]
    rw [u8n (192 + r / 64) (by omega), u8n (128 + r % 64) (by omega), if_neg (by omega), if_pos (by omega), if_pos (by omega)]
    apply Prod.ext <;> simp only [List.length_nil] <;> omega
  · have e : Lib.encodeRuneZ (r : Int) = [224 + (r : Int) / 4096, 128 + (r : Int) / 64 % 64, 128 + (r : Int) % 64] := Lib.encodeRuneZ_three (by omega)
    have e2 : Lib.encodeRune (r : Int) = [(224 + r / 4096).toUInt8, (128 + r / 64 % 64).toUInt8, (128 + r % 64).toUInt8] := by
      simp only [Lib.encodeRune, e, List.map]
      rw [show ((224 : Int) + (r : Int) / 4096).toNat = 224 + r / 4096 by omega, show ((128 : Int) + (r : Int) / 64 % 64).toNat = 128 + r / 64 % 64 by omega, show ((128 : Int) + (r : Int) % 64).toNat = 128 + r % 64 by omega]
    rw [e2]
    simp only [dcl, List.cons_append, List.nil_append, byt_cons0, byt_cons _ _ 0, byt_cons _ _ 1, List.length_cons, Lib.decodeN]
    rw [u8n (224 + r / 4096) (by omega), u8n (128 + r / 64 % 64) (by omega), u8n (128 + r % 64) (by omega), if_neg (by omega), if_neg (by omega), if_pos (by omega), if_pos (by omega)]
    apply Prod.ext <;> simp only [List.length_nil] <;> omega
  · have e : Lib.encodeRuneZ (r : Int) = [240 + (r : Int) / 262144, 128 + (r : Int) / 4096 % 64, 128 + (r : Int) / 64 % 64, 128 + (r : Int) % 64] := Lib.encodeRuneZ_four (by omega) (by omega)
    have e2 : Lib.encodeRune (r : Int) = [(240 + r / 262144).toUInt8, (128 + r / 4096 % 64).toUInt8, (128 + r / 64 % 64).toUInt8, (128 + r % 64).toUInt8] := by
      simp only [Lib.encodeRune, e, List.map]
      rw [show ((240 : Int) + (r : Int) / 262144).toNat = 240 + r / 262144 by omega, show ((128 : Int) + (r : Int) / 4096 % 64).toNat = 128 + r / 4096 % 64 by omega, show ((128 : Int) + (r : Int) / 64 % 64).toNat = 128 + r / 64 % 64 by omega, show ((128 : Int) + (r : Int) % 64).toNat = 128 + r % 64 by omega]
    rw [e2]
    simp only [dcl, List.cons_append, List.nil_append, byt_cons0, byt_cons _ _ 0, byt_cons _ _ 1, byt_cons _ _ 2, List.length_cons, Lib.decodeN]
    rw [u8n (240 + r / 262144) (by omega), u8n (128 + r / 4096 % 64) (by omega), u8n (128 + r / 64 % 64) (by omega), u8n (128 + r % 64) (by omega), if_neg (by omega), if_neg (by omega), if_neg (by omega), if_pos (by omega), if_pos (by omega)]
    apply Prod.ext <;> simp only [List.length_nil] <;> omega

theorem enc_w (r : Nat) : 1 ≤ (enc r).length ∧ (enc r).length ≤ 4 := by
  have := Lib.runeCells_le (r : Int); rw [Lib.runeCells_length] at this; exact this
theorem enc_ne (r : Nat) : enc r ≠ [] := by
  have := enc_w r
  intro e; rw [e] at this; simp at this

def encs (x : List Nat) : List UInt8 := x.flatMap enc
theorem rns_encs (x : List Nat) (h : ∀ r ∈ x, rok r) : rns (encs x) = x.map fun r => (r, (enc r).length) := by
  induction x with
  | nil => rfl
  | cons a x ih =>
    have ha := h a (by simp)
    show rns (enc a ++ encs x) = _
    rw [rns_cons _ (by simp [enc_ne]), dcl_encode a _ ha]
    simp only [List.drop_left, List.map_cons]
    rw [ih (fun r hr => h r (by simp [hr]))]

theorem enc_len3 (r : Nat) (h : r = 65533) : (enc r).length = 3 := by subst h; rfl
theorem fine_enc (r : Nat) : fine (r, (enc r).length) = true := by
  rw [fine_iff]
  by_cases h : r = 65533
  · exact .inr (enc_len3 r h)
  · exact .inl h
theorem vld_encs (x : List Nat) (h : ∀ r ∈ x, rok r) : vld (encs x) = true := by
  unfold vld; rw [rns_encs x h, List.all_map, List.all_eq_true]; intro r _; exact fine_enc r

/-! ### small letters -/
def low (r : Nat) : Nat := if (65 ≤ r ∧ r ≤ 90) ∨ (192 ≤ r ∧ r ≤ 222 ∧ r ≠ 215) ∨ (913 ≤ r ∧ r ≤ 937 ∧ r ≠ 930) ∨ (1040 ≤ r ∧ r ≤ 1071) then r + 32 else r
theorem low_ok (r : Nat) (h : rok r) : rok (low r) := by unfold low rok at *; split <;> omega
theorem low_low (r : Nat) : low (low r) = low r := by
  have e : ∀ x, low x = x ∨ (low x = x + 32) := by intro x; unfold low; split <;> simp
  unfold low; split
  · rw [if_neg (by omega)]
  · rfl
theorem low_ge (r : Nat) : (32 ≤ low r ∧ low r ≠ 127) ↔ (32 ≤ r ∧ r ≠ 127) := by unfold low; split <;> omega

def fld (l : List UInt8) : List UInt8 := encs ((rns l).map fun x => low x.1)
theorem fld_ok (l : List UInt8) : ∀ r ∈ (rns l).map (fun x => low x.1), rok r := by
  intro r hr
  obtain ⟨x, hx, rfl⟩ := List.mem_map.1 hr
  exact low_ok _ (rns_valid l x hx)
theorem rns_fld (l : List UInt8) : rns (fld l) = (rns l).map fun x => (low x.1, (enc (low x.1)).length) := by
  unfold fld; rw [rns_encs _ (fld_ok l), List.map_map]; rfl
theorem vld_fld (l : List UInt8) : vld (fld l) = true := vld_encs _ (fld_ok l)
theorem cnt_fld (l : List UInt8) : cnt (fld l) = cnt l := by simp [cnt, rns_fld]
theorem fld_fld (l : List UInt8) : fld (fld l) = fld l := by
  unfold fld; rw [show rns (encs ((rns l).map fun x => low x.1)) = _ from rns_fld l, List.map_map]
  congr 1
  apply List.map_congr_left; intro x _; simp [low_low]
theorem fld_append (l m : List UInt8) (h : vld l = true) : fld (l ++ m) = fld l ++ fld m := by
  unfold fld; rw [rns_append l m h, List.map_append]; unfold encs; rw [List.flatMap_append]

/-! ### keys -/
def okr (x : Nat × Nat) : Bool := fine x && decide (32 ≤ x.1) && x.1 != 127
def key (l : List UInt8) : Bool := decide (1 ≤ (rns l).length) && decide ((rns l).length ≤ 40) && (rns l).all okr
theorem key_fld (l : List UInt8) (h : key l = true) : key (fld l) = true := by
  unfold key at *
  rw [rns_fld, List.length_map]
  simp only [Bool.and_eq_true] at h ⊢
  refine ⟨h.1, ?_⟩
  rw [List.all_map, List.all_eq_true]
  intro x hx
  have := List.all_eq_true.1 h.2 x hx
  simp only [okr, Bool.and_eq_true, decide_eq_true_eq, bne_iff_ne] at this
  have hl := (low_ge x.1).2 ⟨this.1.2, this.2⟩
  simp only [Function.comp, okr, Bool.and_eq_true, decide_eq_true_eq, bne_iff_ne, fine_enc, true_and]
  exact hl
theorem key_vld (l : List UInt8) (h : key l = true) : vld l = true := by
  unfold key at h; unfold vld
  simp only [Bool.and_eq_true] at h
  rw [List.all_eq_true]; intro x hx
  have := List.all_eq_true.1 h.2 x hx
  simp only [okr, Bool.and_eq_true] at this
  exact this.1.1

/-! ### a stray byte -/
theorem dcl_bad (c : UInt8) (m : List UInt8) (h : 248 ≤ c.toNat) : dcl (c :: m) = (65533, 1) := by
  have hc := c.toNat_lt
  unfold dcl
  rw [byt_cons0]; unfold Lib.decodeN
  rw [if_neg (by omega), if_neg (by omega), if_neg (by omega), if_neg (by omega)]
theorem rns_bad (a b : List UInt8) (c : UInt8) (ha : vld a = true) (h : 248 ≤ c.toNat) : rns (a ++ [c] ++ b) = rns a ++ (65533, 1) :: rns b := by
  rw [List.append_assoc, rns_append a _ ha]
  congr 1
  show rns (c :: b) = _
  rw [rns_cons _ (by simp), dcl_bad c b h]; rfl

set_option maxHeartbeats 4000000 in
theorem decodeN_fffd (n b0 b1 b2 b3 : Nat) (h0 : b0 < 256) (h1 : b1 < 256) (h2 : b2 < 256) (hr : (Lib.decodeN n b0 b1 b2 b3).1 = 65533) : (Lib.decodeN n b0 b1 b2 b3).2 = 3 ↔ (2 < n ∧ b0 = 239 ∧ b1 = 191 ∧ b2 = 189) := by
  revert hr
  unfold Lib.decodeN
  repeat' split
  all_goals (intro hr; omega)

theorem pre3 (l : List UInt8) : (l.take 3 = [239, 191, 189]) ↔ (2 < l.length ∧ byt l 0 = 239 ∧ byt l 1 = 191 ∧ byt l 2 = 189) := by
  constructor
  · intro h
    have hl : 2 < l.length := by have := congrArg List.length h; simp at this; omega
    have e : ∀ i, i < 3 → byt l i = byt (l.take 3) i := by intro i hi; rw [byt_take, if_pos hi]
    rw [e 0 (by omega), e 1 (by omega), e 2 (by omega), h]
    exact ⟨hl, rfl, rfl, rfl⟩
  · rintro ⟨hl, h0, h1, h2⟩
    match l, hl with
    | a :: b :: c :: t, _ =>
      simp only [byt_cons0, byt_cons _ _ 0, byt_cons _ _ 1] at h0 h1 h2
      simp only [List.take_succ_cons, List.take_zero]
      rw [show a = 239 from UInt8.toNat_inj.1 h0, show b = 191 from UInt8.toNat_inj.1 h1, show c = 189 from UInt8.toNat_inj.1 h2]

theorem fine_pre (l : List UInt8) (h : l ≠ []) (hr : (dcl l).1 = 65533) : fine (dcl l) = decide (l.take 3 = [239, 191, 189]) := by
  have := decodeN_fffd l.length (byt l 0) (byt l 1) (byt l 2) (byt l 3) (byt_lt _ _) (byt_lt _ _) (byt_lt _ _) hr
  rw [Bool.eq_iff_iff, decide_eq_true_eq, pre3, ← this, fine_iff]
  constructor
  · rintro (h | h)
    · exact absurd hr h
    · exact h
  · exact .inr

/-! ### order -/
def cmpR : List Nat → List Nat → Bool → Bool
  | [], [], t => t
  | [], _ :: _, _ => true
  | _ :: _, [], _ => false
  | p :: x, q :: y, t => if p = q then cmpR x y t else decide (p < q)

theorem cmpR_total (x : List Nat) : ∀ y t u, (x ≠ y ∨ (t || u) = true) → (cmpR x y t || cmpR y x u) = true := by
  induction x with
  | nil => intro y t u h; cases y <;> simp_all [cmpR]
  | cons p x ih =>
    intro y t u h
    cases y with
    | nil => simp [cmpR]
    | cons q y =>
      simp only [cmpR]
      by_cases e : p = q
      · subst e; rw [if_pos rfl, if_pos rfl]; apply ih
        rcases h with h | h
        · exact .inl fun e => h (by rw [e])
        · exact .inr h
      · rw [if_neg e, if_neg (Ne.symm e)]; simp; omega
theorem cmpR_asym (x : List Nat) : ∀ y t u, (t && u) = false → (cmpR x y t && cmpR y x u) = false := by
  induction x with
  | nil => intro y t u h; cases y <;> simp_all [cmpR]
  | cons p x ih =>
    intro y t u h
    cases y with
    | nil => simp [cmpR]
    | cons q y =>
      simp only [cmpR]
      by_cases e : p = q
      · subst e; rw [if_pos rfl, if_pos rfl]; exact ih y t u h
      · rw [if_neg e, if_neg (Ne.symm e)]; simp; omega
theorem cmpR_trans (x : List Nat) : ∀ y z t u v, (t = true → u = true → v = true) → cmpR x y t = true → cmpR y z u = true → cmpR x z v = true := by
  induction x with
  | nil => intro y z t u v h h1 h2; cases y <;> cases z <;> simp_all [cmpR]
  | cons p x ih =>
    intro y z t u v h h1 h2
    cases y with
    | nil => simp [cmpR] at h1
    | cons q y =>
      cases z with
      | nil => simp [cmpR] at h2
      | cons s z =>
        simp only [cmpR] at h1 h2 ⊢
        by_cases e : p = q
        · subst e; rw [if_pos rfl] at h1
          by_cases e2 : p = s
          · subst e2; rw [if_pos rfl] at h2 ⊢; exact ih y z t u v h h1 h2
          · rw [if_neg e2] at h2 ⊢; exact h2
        · rw [if_neg e] at h1
          have := of_decide_eq_true h1
          by_cases e2 : q = s
          · subst e2; rw [if_neg (by omega)]; exact h1
          · rw [if_neg e2] at h2; have := of_decide_eq_true h2
            rw [if_neg (by omega)]; simp; omega

def runs (l : List UInt8) : List Nat := (rns l).map (·.1)
def les (a b : List UInt8) : Bool := cmpR (runs a) (runs b) (Op.bytesLess a b)

theorem bl_irrefl (a : List UInt8) : Op.bytesLess a a = false := by
  induction a with
  | nil => rfl
  | cons x a ih => simp [Op.bytesLess, ih]
theorem bl_cons (x y : UInt8) (a b : List UInt8) : Op.bytesLess (x :: a) (y :: b) = if x.toNat = y.toNat then Op.bytesLess a b else decide (x.toNat < y.toNat) := by
  have h1 : (x < y) = (x.toNat < y.toNat) := by rw [UInt8.lt_iff_toNat_lt]
  have h2 : (x == y) = decide (x.toNat = y.toNat) := by
    rw [Bool.eq_iff_iff, beq_iff_eq, decide_eq_true_eq, UInt8.toNat_inj]
  simp only [Op.bytesLess, h1, h2]
  split
  · rename_i h; simp [h]
  · rename_i h; simp [h]
theorem bl_asym (a : List UInt8) : ∀ b, (Op.bytesLess a b && Op.bytesLess b a) = false := by
  induction a with
  | nil => intro b; cases b <;> rfl
  | cons x a ih =>
    intro b
    cases b with
    | nil => rfl
    | cons y b =>
      rw [bl_cons, bl_cons]
      by_cases e : x.toNat = y.toNat
      · rw [if_pos e, if_pos e.symm]; exact ih b
      · rw [if_neg e, if_neg (Ne.symm e)]; simp; omega
theorem bl_total (a : List UInt8) : ∀ b, a ≠ b → (Op.bytesLess a b || Op.bytesLess b a) = true := by
  induction a with
  | nil => intro b h; cases b <;> simp_all [Op.bytesLess]
  | cons x a ih =>
    intro b h
    cases b with
    | nil => simp [Op.bytesLess]
    | cons y b =>
      rw [bl_cons, bl_cons]
      by_cases e : x.toNat = y.toNat
      · rw [if_pos e, if_pos e.symm]
        exact ih b fun e2 => h (by rw [e2, UInt8.toNat_inj.1 e])
      · rw [if_neg e, if_neg (Ne.symm e)]; simp; omega
theorem bl_trans (a : List UInt8) : ∀ b c, Op.bytesLess a b = true → Op.bytesLess b c = true → Op.bytesLess a c = true := by
  induction a with
  | nil => intro b c h1 h2; cases b <;> cases c <;> simp_all [Op.bytesLess]
  | cons x a ih =>
    intro b c h1 h2
    cases b with
    | nil => simp [Op.bytesLess] at h1
    | cons y b =>
      cases c with
      | nil => simp [Op.bytesLess] at h2
      | cons z c =>
        rw [bl_cons] at h1 h2 ⊢
        by_cases e : x.toNat = y.toNat
        · rw [if_pos e] at h1
          by_cases e2 : y.toNat = z.toNat
          · rw [if_pos e2] at h2; rw [if_pos (e.trans e2)]; exact ih b c h1 h2
          · rw [if_neg e2] at h2; rw [if_neg (by omega)]; rw [e]; exact h2
        · rw [if_neg e] at h1
          have := of_decide_eq_true h1
          by_cases e2 : y.toNat = z.toNat
          · rw [if_neg (by omega), ← e2]; exact h1
          · rw [if_neg e2] at h2; have := of_decide_eq_true h2
            rw [if_neg (by omega)]; simp; omega

theorem les_asym (a b : List UInt8) : (les a b && les b a) = false := cmpR_asym _ _ _ _ (bl_asym a b)
theorem les_trans (a b c : List UInt8) (h1 : les a b = true) (h2 : les b c = true) : les a c = true := cmpR_trans _ _ _ _ _ _ (bl_trans a b c) h1 h2
theorem les_total (a b : List UInt8) (h : a ≠ b) : (les a b || les b a) = true := cmpR_total _ _ _ _ (.inr (bl_total a b h))
theorem cmpR_self (x : List Nat) (t : Bool) : cmpR x x t = t := by
  induction x with
  | nil => rfl
  | cons p x ih => simp [cmpR, ih]
theorem les_self (a : List UInt8) : les a a = false := by unfold les; rw [cmpR_self, bl_irrefl]
theorem cmpR_front (x y : List Nat) (t : Bool) (h : y ≠ []) : cmpR (x ++ y) x t = false := by
  induction x with
  | nil => cases y <;> simp_all [cmpR]
  | cons p x ih => simp [cmpR, ih]
theorem les_front (a b : List UInt8) (h : vld a = true) : les (a ++ b) a = false := by
  by_cases hb : b = []
  · subst hb; rw [List.append_nil, les_self]
  · unfold les runs
    rw [rns_append a b h, List.map_append]
    exact cmpR_front _ _ _ (by simpa [rns_eq_nil] using hb)
theorem les_eq (a b : List UInt8) : (les a b || les b a) = !(a == b) := by
  by_cases h : a = b
  · subst h; simp [les_self]
  · rw [les_total a b h]; simp [h]
theorem cut_front (a b : List UInt8) (h : vld a = true) : cutP (cnt a) (a ++ b) = a.length := by
  unfold cutP cnt; rw [rns_append a b h, List.take_left, wsum_rns]
theorem cnt_append (a b : List UInt8) (h : vld a = true) : cnt (a ++ b) = cnt a + cnt b := by
  unfold cnt; rw [rns_append a b h, List.length_append]
theorem vld_append (a b : List UInt8) (ha : vld a = true) (hb : vld b = true) : vld (a ++ b) = true := by
  unfold vld at *; rw [rns_append a b ha, List.all_append, ha, hb]; rfl
theorem cnt_cut (k : Nat) (l : List UInt8) : cnt (l.take (cutP k l)) = min k (cnt l) := by
  unfold cnt; rw [rns_take, List.length_take]
theorem cnt_rest (k : Nat) (l : List UInt8) : cnt (l.drop (cutP k l)) = cnt l - k := by
  unfold cnt; rw [rns_drop, List.length_drop]
theorem encs_replicate (n : Nat) (r : Nat) : encs (List.replicate (n + 1) r) = encs (List.replicate n r) ++ enc r := by
  unfold encs; rw [List.replicate_succ', List.flatMap_append]; simp
theorem rns_rep (n r : Nat) (h : rok r) : rns (encs (List.replicate n r)) = List.replicate n (r, (enc r).length) := by
  rw [rns_encs _ (by intro x hx; rw [List.eq_of_mem_replicate hx]; exact h), List.map_replicate]
theorem key_rep (n r : Nat) (h : rok r) (h1 : 32 ≤ r) (h2 : r ≠ 127) : key (encs (List.replicate n r)) = (decide (1 ≤ n) && decide (n ≤ 40)) := by
  unfold key; rw [rns_rep n r h, List.length_replicate]
  have : (List.replicate n (r, (enc r).length)).all okr = true := by
    rw [List.all_eq_true]; intro x hx; rw [List.eq_of_mem_replicate hx]
    simp only [okr, Bool.and_eq_true, decide_eq_true_eq, bne_iff_ne]
    exact ⟨⟨fine_enc r, h1⟩, h2⟩
  rw [this, Bool.and_true]
theorem cnt_rep (n r : Nat) (h : rok r) : cnt (encs (List.replicate n r)) = n := by unfold cnt; rw [rns_rep n r h, List.length_replicate]
theorem dcl_enc (r : Nat) (h : rok r) : dcl (enc r) = (r, (enc r).length) := by
  have := dcl_encode r [] h; rwa [List.append_nil] at this
theorem vld_bad (a b : List UInt8) (c : UInt8) (ha : vld a = true) (h : 248 ≤ c.toNat) : vld (a ++ [c] ++ b) = false := by
  unfold vld; rw [rns_bad a b c ha h, List.all_append, List.all_cons]; simp [fine]
theorem key_bad (a b : List UInt8) (c : UInt8) (ha : vld a = true) (h : 248 ≤ c.toNat) : key (a ++ [c] ++ b) = false := by
  cases hk : key (a ++ [c] ++ b)
  · rfl
  · have := key_vld _ hk; rw [vld_bad a b c ha h] at this; cases this
theorem cnt_bad (a b : List UInt8) (c : UInt8) (ha : vld a = true) (h : 248 ≤ c.toNat) : cnt (a ++ [c] ++ b) = cnt a + 1 + cnt b := by
  unfold cnt; rw [rns_bad a b c ha h]; simp; omega
theorem fld_bad (a b : List UInt8) (c : UInt8) (ha : vld a = true) (h : 248 ≤ c.toNat) : fld (a ++ [c] ++ b) = fld a ++ [239, 191, 189] ++ fld b := by
  unfold fld; rw [rns_bad a b c ha h, List.map_append, List.map_cons]
  unfold encs; rw [List.flatMap_append, List.flatMap_cons]
  have : enc (low 65533) = [239, 191, 189] := by decide
  rw [this]; simp
theorem fld_len (l : List UInt8) : (fld l).length ≤ 4 * l.length := by
  have h : ∀ x : List Nat, (encs x).length ≤ 4 * x.length := by
    intro x; induction x with
    | nil => simp [encs]
    | cons a x ih => have := enc_w a; simp only [encs, List.flatMap_cons, List.length_append, List.length_cons] at *; omega
  have h1 := h ((rns l).map fun x => low x.1)
  have h2 := rns_len l
  rw [List.length_map] at h1
  unfold fld; omega
end Go.Proofs.Ytegkhkcnoahhdaa.Ru
/-
  Plain facts on texts, runes, values and worlds that the walks of the functions use; no program is named.
-/
namespace Go.Proofs.Ytegkhkcnoahhdaa
open Go.RowKit
set_option maxRecDepth 100000

def lowZ (r : Int) : Int := if (65 ≤ r ∧ r ≤ 90) ∨ (192 ≤ r ∧ r ≤ 222 ∧ r ≠ 215) ∨ (913 ≤ r ∧ r ≤ 937 ∧ r ≠ 930) ∨ (1040 ≤ r ∧ r ≤ 1071) then r + 32 else r

theorem low_split (a r : Int) (h : ((65 ≤ r ∧ r ≤ 90) ∨ (192 ≤ r ∧ r ≤ 222 ∧ r ≠ 215) ∨ (913 ≤ r ∧ r ≤ 937 ∧ r ≠ 930) ∨ (1040 ≤ r ∧ r ≤ 1071)) ∧ a = r + 32 ∨ ¬ ((65 ≤ r ∧ r ≤ 90) ∨ (192 ≤ r ∧ r ≤ 222 ∧ r ≠ 215) ∨ (913 ≤ r ∧ r ≤ 937 ∧ r ≠ 930) ∨ (1040 ≤ r ∧ r ≤ 1071)) ∧ a = r) : a = lowZ r := by
  unfold lowZ; rcases h with ⟨h, e⟩ | ⟨h, e⟩
  · rw [if_pos h, e]
  · rw [if_neg h, e]

theorem ret_i32 {a b : Int} (h : a = b) : Ending.returned (.int .i32 a) = .returned (.int .i32 b) := by rw [h]

theorem ofNat_u8 (a : Nat) (b : Int) (h : b.toNat = a) : UInt8.ofNat a = b.toNat.toUInt8 := by rw [h]

theorem enc_str (r : Int) : Utf8.encode r = ⟨(Lib.encodeRune r).toArray⟩ := by
  have hv : Utf8.valid r = decide ((0 ≤ r ∧ r < 55296) ∨ (57343 < r ∧ r ≤ 1114111)) := validRune_eq r
  have hcase : (0 ≤ r ∧ r ≤ 127) ∨ (128 ≤ r ∧ r ≤ 2047) ∨ ((2048 ≤ r ∧ r < 55296) ∨ (57343 < r ∧ r ≤ 65535)) ∨ (65536 ≤ r ∧ r ≤ 1114111) ∨ (r < 0 ∨ (55296 ≤ r ∧ r ≤ 57343) ∨ 1114111 < r) := by omega
  unfold Utf8.encode
  rcases hcase with h | h | h | h | h
  · have e : Lib.encodeRuneZ r = [r] := Lib.encodeRuneZ_one h.1 h.2
    rw [hv, decide_eq_true (by omega)]
    simp only [if_true, Lib.encodeRune, e, List.map]
    rw [if_pos (by omega)]
  · have e : Lib.encodeRuneZ r = [192 + r / 64, 128 + r % 64] := Lib.encodeRuneZ_two h.1 h.2
    rw [hv, decide_eq_true (by omega)]
    simp only [if_true, Lib.encodeRune, e, List.map]
    rw [if_neg (by omega), if_pos (by omega)]
    rw [ofNat_u8 (192 + r.toNat / 64) (192 + r / 64) (by omega), ofNat_u8 (128 + r.toNat % 64) (128 + r % 64) (by omega)]
  · have e : Lib.encodeRuneZ r = [224 + r / 4096, 128 + r / 64 % 64, 128 + r % 64] := Lib.encodeRuneZ_three h
    rw [hv, decide_eq_true (by omega)]
    simp only [if_true, Lib.encodeRune, e, List.map]
    rw [if_neg (by omega), if_neg (by omega), if_pos (by omega)]
    rw [ofNat_u8 (224 + r.toNat / 4096) (224 + r / 4096) (by omega), ofNat_u8 (128 + r.toNat / 64 % 64) (128 + r / 64 % 64) (by omega), ofNat_u8 (128 + r.toNat % 64) (128 + r % 64) (by omega)]
  · have e : Lib.encodeRuneZ r = [240 + r / 262144, 128 + r / 4096 % 64, 128 + r / 64 % 64, 128 + r % 64] := Lib.encodeRuneZ_four h.1 h.2
    rw [hv, decide_eq_true (by omega)]
    simp only [if_true, Lib.encodeRune, e, List.map]
    rw [if_neg (by omega), if_neg (by omega), if_neg (by omega)]
    rw [ofNat_u8 (240 + r.toNat / 262144) (240 + r / 262144) (by omega), ofNat_u8 (128 + r.toNat / 4096 % 64) (128 + r / 4096 % 64) (by omega), ofNat_u8 (128 + r.toNat / 64 % 64) (128 + r / 64 % 64) (by omega), ofNat_u8 (128 + r.toNat % 64) (128 + r % 64) (by omega)]
  · have e : Lib.encodeRuneZ r = [239, 191, 189] := Lib.encodeRuneZ_bad h
    rw [hv, decide_eq_false (by omega)]
    simp only [Lib.encodeRune, e, Bool.false_eq_true, if_false]; decide

theorem nums_enc (xs : List Int) (r : Int) (h : Lib.encodeRuneZ r = xs) : Ending.returned (.string (strOfNums xs)) = .returned (.string ⟨(Lib.encodeRune r).toArray⟩) := by
  rw [← h]; rfl

theorem below_new (w : World) (o : Obj) : Below w.heap.size w (w.alloc o) := (Below.refl _ _).alloc (Nat.le_refl _) _

def Enc (r : Int) (w : World) (e : Ending) (w' : World) : Prop := e = .returned (.string ⟨(Lib.encodeRune r).toArray⟩) ∧ Below w.heap.size w w'

theorem width_pos (s : ByteArray) (pos : Nat) (h : pos < s.size) : 1 ≤ (Utf8.decode s pos).2 := by
  rw [Ru.decode_list]
  exact (Ru.dcl_w _ (by intro e; have := congrArg List.length e; simp at this; omega)).1

/-- the runes from place pos on -/
def rest (s : ByteArray) (pos : Nat) : List UInt8 := s.data.toList.drop pos

theorem rest_ne (s : ByteArray) (pos : Nat) (h : pos < s.size) : rest s pos ≠ [] := by
  intro e; have := congrArg List.length e; simp [rest] at this; omega

theorem rest_end (s : ByteArray) (pos : Nat) (h : ¬ pos < s.size) : rest s pos = [] := by
  unfold rest; apply List.drop_of_length_le; rw [Array.length_toList]; exact Nat.le_of_not_lt h

theorem rest_next (s : ByteArray) (pos : Nat) (h : pos < s.size) : Ru.rns (rest s pos) = Utf8.decode s pos :: Ru.rns (rest s (pos + (Utf8.decode s pos).2)) := by
  rw [Ru.rns_cons _ (rest_ne s pos h), Ru.decode_list]; unfold rest; rw [List.drop_drop]

theorem ret_i64 {a b : Int} (h : a = b) : Ending.returned (.int .i64 a) = .returned (.int .i64 b) := by rw [h]

/-- the first rune of a text and its width, as the program tells it -/
def decB (s : ByteArray) : Nat × Nat := if s.size = 0 then (65533, 0) else Utf8.decode s 0

def Dec (r : Nat × Nat) (w : World) (e : Ending) (w' : World) : Prop := e = .returned (.tuple #[.int .i32 r.1, .int .i64 r.2]) ∧ Below w.heap.size w w'

theorem decB_pos (s : ByteArray) (h : 0 < s.size) : decB s = Utf8.decode s 0 := by unfold decB; rw [if_neg (by omega)]

def Fst (s : ByteArray) (pos : Nat) (f : Int) : Prop := (pos = 0 ∧ f = 65533) ∨ (0 < s.size ∧ 0 < pos ∧ (pos : Int) = (Utf8.decode s 0).2 ∧ f = (Utf8.decode s 0).1)

theorem width_le (s : ByteArray) (pos : Nat) (h : pos < s.size) : pos + (Utf8.decode s pos).2 ≤ s.size := by
  have h1 := (Ru.dcl_w _ (rest_ne s pos h)).2.1
  rw [Ru.decode_list]
  have h2 : (rest s pos).length = s.size - pos := by simp [rest]
  unfold rest at *; omega

theorem dec_ret (s : ByteArray) (w w' : World) (a b : Int) (h : Below w.heap.size w w') (ha : a = (decB s).1) (hb : b = (decB s).2) : Dec (decB s) w (.returned (.tuple #[.int .i32 a, .int .i64 b])) w' := ⟨by rw [ha, hb], h⟩

def pre : ByteArray := ⟨#[239, 191, 189]⟩

theorem ext_list (s : ByteArray) (pos : Nat) : (s.extract pos s.size).data.toList = rest s pos := by
  rw [ByteArray.data_extract, Array.toList_extract]; unfold rest
  rw [List.extract_eq_take_drop, List.take_of_length_le]; simp

theorem pre_take (l : List UInt8) : Lib.hasPrefix l [239, 191, 189] = decide (l.take 3 = [239, 191, 189]) := by
  unfold Lib.hasPrefix
  rw [Bool.eq_iff_iff, List.isPrefixOf_iff_prefix, decide_eq_true_eq, List.prefix_iff_eq_take]
  exact eq_comm

theorem vld_next (s : ByteArray) (pos : Nat) (h : pos < s.size) : Ru.vld (rest s pos) = (Ru.fine (Utf8.decode s pos) && Ru.vld (rest s (pos + (Utf8.decode s pos).2))) := by
  unfold Ru.vld; rw [rest_next s pos h, List.all_cons]

theorem ret_bool {a b : Bool} (h : a = b) : Ending.returned (.bool a) = .returned (.bool b) := by rw [h]

theorem cutP_next (s : ByteArray) (pos k : Nat) (h : pos < s.size) : Ru.cutP (k + 1) (rest s pos) = (Utf8.decode s pos).2 + Ru.cutP k (rest s (pos + (Utf8.decode s pos).2)) := by
  rw [Ru.cutP_succ k _ (rest_ne s pos h), Ru.decode_list]; unfold rest; rw [List.drop_drop]

def cutB (s : ByteArray) (n : Int) : ByteArray := s.extract 0 (Ru.cutP n.toNat s.data.toList)

def Str (t : ByteArray) (w : World) (e : Ending) (w' : World) : Prop := e = .returned (.string t) ∧ Below w.heap.size w w'

theorem str_ret {t u : ByteArray} {w w' : World} (h : t = u) (hb : Below w.heap.size w w') : Str u w (.returned (.string t)) w' := ⟨by rw [h], hb⟩

def KeyRest (k : Nat) (l : List UInt8) : Bool := decide (k + (Ru.rns l).length ≤ 40) && (Ru.rns l).all Ru.okr

theorem keyRest_stop (s : ByteArray) (pos k : Nat) (hp : pos < s.size) (h : 40 < k + 1 ∨ Ru.okr (Utf8.decode s pos) = false) : KeyRest k (rest s pos) = false := by
  unfold KeyRest; rw [rest_next s pos hp, List.length_cons, List.all_cons]
  rcases h with h | h
  · rw [decide_eq_false (by omega), Bool.false_and]
  · rw [h, Bool.false_and, Bool.and_false]

theorem keyRest_go (s : ByteArray) (pos k : Nat) (hp : pos < s.size) (h : Ru.okr (Utf8.decode s pos) = true) : KeyRest k (rest s pos) = KeyRest (k + 1) (rest s (pos + (Utf8.decode s pos).2)) := by
  unfold KeyRest; rw [rest_next s pos hp, List.length_cons, List.all_cons, h, Bool.true_and]
  congr 2
  rw [Nat.add_assoc, Nat.add_comm 1]

theorem okr_low (x : Nat × Nat) (h : x.1 < 32) : Ru.okr x = false := by unfold Ru.okr; rw [decide_eq_false (by omega)]; simp

theorem okr_del (x : Nat × Nat) (h : x.1 = 127) : Ru.okr x = false := by unfold Ru.okr; rw [h]; simp

theorem okr_bad (x : Nat × Nat) (h : Ru.fine x = false) : Ru.okr x = false := by unfold Ru.okr; rw [h]; rfl

theorem okr_ok (x : Nat × Nat) (h : Ru.fine x = true) (h1 : ¬ x.1 < 32) (h2 : ¬ x.1 = 127) : Ru.okr x = true := by
  unfold Ru.okr; rw [h, decide_eq_true (by omega), bne_iff_ne.2 h2]; rfl

theorem low_cast (n : Nat) : lowZ (n : Int) = (Ru.low n : Nat) := by
  unfold lowZ Ru.low
  by_cases h : (65 ≤ n ∧ n ≤ 90) ∨ (192 ≤ n ∧ n ≤ 222 ∧ n ≠ 215) ∨ (913 ≤ n ∧ n ≤ 937 ∧ n ≠ 930) ∨ (1040 ≤ n ∧ n ≤ 1071)
  · rw [if_pos h, if_pos (by omega)]; rfl
  · rw [if_neg h, if_neg (by omega)]

def foldB (s : ByteArray) : ByteArray := ⟨(Ru.fld s.data.toList).toArray⟩

/-- what is still to be written -/
def fldR (l : List UInt8) : List UInt8 := Ru.fld l

theorem fldR_next (s : ByteArray) (pos : Nat) (h : pos < s.size) : fldR (rest s pos) = Ru.enc (Ru.low (Utf8.decode s pos).1) ++ fldR (rest s (pos + (Utf8.decode s pos).2)) := by
  unfold fldR Ru.fld; rw [rest_next s pos h]; rfl

theorem low_bd (s : ByteArray) (pos : Nat) : -2147483648 ≤ lowZ ((Utf8.decode s pos).1 : Int) ∧ lowZ ((Utf8.decode s pos).1 : Int) ≤ 2147483647 := by
  rw [low_cast]
  have h := Ru.low_ok _ (Ru.dcl_r (s.data.toList.drop pos))
  rw [← Ru.decode_list] at h; unfold Ru.rok at h; omega

def lesB (a b : ByteArray) : Bool := Ru.les a.data.toList b.data.toList

def runs (s : ByteArray) : List Nat := Ru.runs s.data.toList

theorem runs_next (s : ByteArray) (h : 0 < s.size) : runs s = (decB s).1 :: runs (s.extract (decB s).2 s.size) := by
  have h1 := rest_next s 0 h
  rw [decB_pos s h]; unfold runs Ru.runs
  rw [ext_list, show s.data.toList = rest s 0 from rfl, h1, List.map_cons, Nat.zero_add]

theorem decB_le (s : ByteArray) (h : 0 < s.size) : 1 ≤ (decB s).2 ∧ (decB s).2 ≤ s.size := by
  rw [decB_pos s h]; have := width_le s 0 h; have := width_pos s 0 h; omega

theorem runs_nil (s : ByteArray) (h : s.size = 0) : runs s = [] := by
  unfold runs Ru.runs; rw [show s.data.toList = rest s 0 from rfl, rest_end s 0 (by omega)]; rfl

theorem runs_ne (s : ByteArray) (h : 0 < s.size) : runs s ≠ [] := by rw [runs_next s h]; simp

theorem cmp_nil (x : List Nat) (t : Bool) (h : x ≠ []) : Ru.cmpR [] x t = true := by cases x <;> simp_all [Ru.cmpR]

theorem cmp_end (x : List Nat) (t : Bool) (h : x ≠ []) : Ru.cmpR x [] t = false := by cases x <;> simp_all [Ru.cmpR]

theorem lst_empty (x : ByteArray) (h : 0 < x.size) : x.toList.isEmpty = false := by
  rw [ByteArray.toList_eq]
  cases he : x.data.toList with
  | nil => have := congrArg List.length he; rw [Array.length_toList] at this; have h2 : x.data.size = x.size := rfl; rw [List.length_nil] at this; omega
  | cons => rfl

theorem lst_nil (x : ByteArray) (h : ¬ 0 < x.size) : x.toList = [] := by
  rw [ByteArray.toList_eq]
  apply List.eq_nil_of_length_eq_zero
  rw [Array.length_toList]; have h2 : x.data.size = x.size := rfl; omega

theorem cmp_step (x y : ByteArray) (t : Bool) (hx : 0 < x.size) (hy : 0 < y.size) : Ru.cmpR (runs x) (runs y) t = if (decB x).1 = (decB y).1 then Ru.cmpR (runs (x.extract (decB x).2 x.size)) (runs (y.extract (decB y).2 y.size)) t else decide ((decB x).1 < (decB y).1) := by
  rw [runs_next x hx, runs_next y hy]; rfl

theorem neq_of {a b : Nat} (h : ¬ a = b) : ((a : Int) != b) = true := by rw [bne_iff_ne]; omega

theorem neq_not {a b : Nat} (h : a = b) : ((a : Int) != b) = false := by rw [h]; simp

def Cmp (a b x y : ByteArray) : Prop := Ru.cmpR (runs x) (runs y) (Op.bytesLess a.toList b.toList) = lesB a b

theorem byt_get (s : ByteArray) (k : Nat) (h : k < s.size) : Ru.byt s.data.toList k = s[k].toNat := by
  unfold Ru.byt
  have h2 : k < s.data.toList.length := by rw [Array.length_toList]; exact h
  rw [List.getD, List.getElem?_eq_getElem h2]; rfl

/-- the model's decode of a text, by its first four bytes -/
def dN (s : ByteArray) : Nat × Nat := Lib.decodeN s.size (Ru.byt s.data.toList 0) (Ru.byt s.data.toList 1) (Ru.byt s.data.toList 2) (Ru.byt s.data.toList 3)

theorem dN_eq (s : ByteArray) (h : 0 < s.size) : decB s = dN s := by
  rw [decB_pos s h, Ru.decode_list, List.drop_zero]; unfold Ru.dcl dN; rw [Array.length_toList]; rfl

def bt (s : ByteArray) (k : Nat) : Nat := Ru.byt s.data.toList k

theorem bt_lt (s : ByteArray) (k : Nat) : bt s k < 256 := Ru.byt_lt _ _

/-- the number so far -/
def acc (s : ByteArray) (b : Int) : Nat → Int
  | 0 => b
  | 1 => b
  | k + 2 => acc s b (k + 1) * 64 + bt s (k + 1) - 128

def Conts (s : ByteArray) (k : Nat) : Prop := ∀ j, 1 ≤ j → j < k → 128 ≤ bt s j ∧ bt s j ≤ 191

theorem conts_one (s : ByteArray) : Conts s 1 := fun j h1 h2 => by omega

theorem conts_next (s : ByteArray) (k : Nat) (h : Conts s k) (h1 : 128 ≤ bt s k) (h2 : bt s k ≤ 191) : Conts s (k + 1) := fun j a b => by
  by_cases e : j = k
  · subst e; exact ⟨h1, h2⟩
  · exact h j a (by omega)

theorem acc_next (s : ByteArray) (b : Int) (k : Nat) (h : 1 ≤ k) : acc s b (k + 1) = acc s b k * 64 + bt s k - 128 := by
  cases k with
  | zero => omega
  | succ k => rfl

theorem acc_bd (s : ByteArray) (b : Int) (k : Nat) (hb0 : 0 ≤ b) (hb1 : b ≤ 31) (h : Conts s k) (h1 : 1 ≤ k) (h4 : k ≤ 4) : 0 ≤ acc s b k ∧ acc s b k ≤ 8388607 := by
  have a1 : acc s b 1 = b := rfl
  have a2 : acc s b 2 = acc s b 1 * 64 + bt s 1 - 128 := rfl
  have a3 : acc s b 3 = acc s b 2 * 64 + bt s 2 - 128 := rfl
  have a4 : acc s b 4 = acc s b 3 * 64 + bt s 3 - 128 := rfl
  have hk : k = 1 ∨ k = 2 ∨ k = 3 ∨ k = 4 := by omega
  rcases hk with rfl | rfl | rfl | rfl
  · omega
  · have := h 1 (by omega) (by omega); omega
  · have := h 1 (by omega) (by omega); have := h 2 (by omega) (by omega); omega
  · have := h 1 (by omega) (by omega); have := h 2 (by omega) (by omega); have := h 3 (by omega) (by omega); omega

set_option maxHeartbeats 4000000 in
theorem dN1 (n b0 b1 b2 b3 : Nat) (h : b0 < 128) : Lib.decodeN n b0 b1 b2 b3 = (b0, 1) := by unfold Lib.decodeN; rw [if_pos h]

set_option maxHeartbeats 4000000 in
theorem dNelse (n b0 b1 b2 b3 : Nat) (h : (128 ≤ b0 ∧ b0 < 192) ∨ 248 ≤ b0) (h2 : b0 < 256) : Lib.decodeN n b0 b1 b2 b3 = (65533, 1) := by
  unfold Lib.decodeN; rw [if_neg (by omega), if_neg (by omega), if_neg (by omega), if_neg (by omega)]

set_option maxHeartbeats 4000000 in
theorem dN2_ok (n b0 b1 b2 b3 : Nat) (v : Int) (h0 : 192 ≤ b0) (h1 : b0 < 224) (hn : 2 ≤ n) (c1 : 128 ≤ b1 ∧ b1 ≤ 191) (hv : v = ((b0 : Int) - 192) * 64 + b1 - 128) (ho : 128 ≤ v) : v = (Lib.decodeN n b0 b1 b2 b3).1 ∧ (2 : Int) = (Lib.decodeN n b0 b1 b2 b3).2 := by
  unfold Lib.decodeN; rw [if_neg (by omega), if_pos (by omega), if_pos (by omega)]; simp only; omega

set_option maxHeartbeats 4000000 in
theorem dN2_bad (n b0 b1 b2 b3 : Nat) (h0 : 192 ≤ b0) (h1 : b0 < 224) (h : n < 2 ∨ b1 < 128 ∨ 191 < b1 ∨ (128 ≤ b1 ∧ ((b0 : Int) - 192) * 64 + b1 - 128 < 128)) (g1 : b1 < 256) : Lib.decodeN n b0 b1 b2 b3 = (65533, 1) := by
  unfold Lib.decodeN; rw [if_neg (by omega)]
  by_cases hc : b0 / 32 = 6 ∧ (1 < n ∧ b1 / 64 = 2)
  · rw [if_pos hc, if_neg (by omega)]
  · rw [if_neg hc, if_neg (by omega), if_neg (by omega)]

set_option maxHeartbeats 4000000 in
theorem dN3_ok (n b0 b1 b2 b3 : Nat) (v : Int) (h0 : 224 ≤ b0) (h1 : b0 < 240) (hn : 3 ≤ n) (c1 : 128 ≤ b1 ∧ b1 ≤ 191) (c2 : 128 ≤ b2 ∧ b2 ≤ 191) (hv : v = (((b0 : Int) - 224) * 64 + b1 - 128) * 64 + b2 - 128) (ho : 2048 ≤ v) (hs : v < 55296 ∨ 57344 ≤ v) : v = (Lib.decodeN n b0 b1 b2 b3).1 ∧ (3 : Int) = (Lib.decodeN n b0 b1 b2 b3).2 := by
  unfold Lib.decodeN; rw [if_neg (by omega), if_neg (by omega), if_pos (by omega), if_pos (by omega)]; simp only; omega

set_option maxHeartbeats 4000000 in
theorem dN3_bad (n b0 b1 b2 b3 : Nat) (h0 : 224 ≤ b0) (h1 : b0 < 240) (g1 : b1 < 256) (g2 : b2 < 256) (h : n < 3 ∨ b1 < 128 ∨ 191 < b1 ∨ b2 < 128 ∨ 191 < b2 ∨ (128 ≤ b1 ∧ 128 ≤ b2 ∧ ((((b0 : Int) - 224) * 64 + b1 - 128) * 64 + b2 - 128 < 2048 ∨ (55296 ≤ (((b0 : Int) - 224) * 64 + b1 - 128) * 64 + b2 - 128 ∧ (((b0 : Int) - 224) * 64 + b1 - 128) * 64 + b2 - 128 < 57344)))) : Lib.decodeN n b0 b1 b2 b3 = (65533, 1) := by
  unfold Lib.decodeN; rw [if_neg (by omega), if_neg (by omega)]
  by_cases hc : b0 / 16 = 14 ∧ (1 < n ∧ b1 / 64 = 2) ∧ (2 < n ∧ b2 / 64 = 2)
  · rw [if_pos hc, if_neg (by omega)]
  · rw [if_neg hc, if_neg (by omega)]

set_option maxHeartbeats 4000000 in
theorem dN4_ok (n b0 b1 b2 b3 : Nat) (v : Int) (h0 : 240 ≤ b0) (h1 : b0 < 248) (hn : 4 ≤ n) (c1 : 128 ≤ b1 ∧ b1 ≤ 191) (c2 : 128 ≤ b2 ∧ b2 ≤ 191) (c3 : 128 ≤ b3 ∧ b3 ≤ 191) (hv : v = ((((b0 : Int) - 240) * 64 + b1 - 128) * 64 + b2 - 128) * 64 + b3 - 128) (ho : 65536 ≤ v) (hs : v ≤ 1114111) : v = (Lib.decodeN n b0 b1 b2 b3).1 ∧ (4 : Int) = (Lib.decodeN n b0 b1 b2 b3).2 := by
  unfold Lib.decodeN; rw [if_neg (by omega), if_neg (by omega), if_neg (by omega), if_pos (by omega), if_pos (by omega)]; simp only; omega

set_option maxHeartbeats 4000000 in
theorem dN4_bad (n b0 b1 b2 b3 : Nat) (h0 : 240 ≤ b0) (h1 : b0 < 248) (g1 : b1 < 256) (g2 : b2 < 256) (g3 : b3 < 256) (h : n < 4 ∨ b1 < 128 ∨ 191 < b1 ∨ b2 < 128 ∨ 191 < b2 ∨ b3 < 128 ∨ 191 < b3 ∨ (128 ≤ b1 ∧ 128 ≤ b2 ∧ 128 ≤ b3 ∧ (((((b0 : Int) - 240) * 64 + b1 - 128) * 64 + b2 - 128) * 64 + b3 - 128 < 65536 ∨ 1114111 < ((((b0 : Int) - 240) * 64 + b1 - 128) * 64 + b2 - 128) * 64 + b3 - 128))) : Lib.decodeN n b0 b1 b2 b3 = (65533, 1) := by
  unfold Lib.decodeN; rw [if_neg (by omega), if_neg (by omega), if_neg (by omega)]
  by_cases hc : b0 / 8 = 30 ∧ (1 < n ∧ b1 / 64 = 2) ∧ (2 < n ∧ b2 / 64 = 2) ∧ (3 < n ∧ b3 / 64 = 2)
  · rw [if_pos hc, if_neg (by omega)]
  · rw [if_neg hc]

/-- what the reference's Decode hands back: the world is as it was -/
def DecQ (r : Nat × Nat) (w : World) (e : Ending) (w' : World) : Prop := e = .returned (.tuple #[.int .i32 r.1, .int .i64 r.2]) ∧ w = w'

/-- what Decode hands back -/
theorem dec_is (s : ByteArray) (w : World) (a b : Int) (h0 : 0 < s.size) (h : a = (dN s).1 ∧ b = (dN s).2) : DecQ (decB s) w (.returned (.tuple #[.int .i32 a, .int .i64 b])) w := by
  rw [dN_eq s h0]; exact ⟨by rw [h.1, h.2], rfl⟩

theorem dec_bad (s : ByteArray) (w : World) (h0 : 0 < s.size) (h : dN s = (65533, 1)) : DecQ (decB s) w (.returned (.tuple #[.int .i32 65533, .int .i64 1])) w :=
  dec_is s w _ _ h0 (by rw [h]; exact ⟨rfl, rfl⟩)

theorem decB_at (s : ByteArray) (pos : Nat) (h : pos < s.size) : decB (s.extract pos s.size) = Utf8.decode s pos := by
  have h2 : 0 < (s.extract pos s.size).size := by rw [ByteArray.size_extract]; omega
  rw [decB_pos _ h2, Ru.decode_list, List.drop_zero, ext_list, Ru.decode_list]; rfl

/-- where each rune begins -/
def ats : Nat → List (Nat × Nat) → List Nat
  | _, [] => []
  | p, x :: l => p :: ats (p + x.2) l

theorem ats_snoc (x : Nat × Nat) : ∀ (l : List (Nat × Nat)) (p : Nat), ats p (l ++ [x]) = ats p l ++ [p + Ru.wsum l]
  | [], p => by simp [ats]
  | a :: l, p => by simp [ats, ats_snoc x l, Nat.add_assoc]

theorem ats_len : ∀ (l : List (Nat × Nat)) (p : Nat), (ats p l).length = l.length
  | [], p => rfl
  | a :: l, p => by simp [ats, ats_len l]

def runeVals (R : List (Nat × Nat)) : List Value := R.map fun x : Nat × Nat => Value.int .i32 (x.1 : Int)

def atVals (R : List (Nat × Nat)) : List Value := (ats 0 R).map fun x : Nat => Value.int .i64 (x : Int)

theorem runeVals_snoc (R : List (Nat × Nat)) (x : Nat × Nat) : runeVals (R ++ [x]) = runeVals R ++ [.int .i32 (x.1 : Int)] := by simp [runeVals]

theorem atVals_snoc (R : List (Nat × Nat)) (x : Nat × Nat) (p : Nat) (h : p = Ru.wsum R) : atVals (R ++ [x]) = atVals R ++ [.int .i64 (p : Int)] := by
  subst h; unfold atVals; rw [ats_snoc, List.map_append, Nat.zero_add]; rfl

/-- rows of different element types lie in different blocks -/
theorem own_apart {w : World} {B B' e e' s s' n n' : Nat} {v v' : Value} {x x' : List Value} (h : w.ownsRow B e s v n x) (h' : w.ownsRow B' e' s' v' n' x') (hne : e ≠ e') : v.ownBlock = Option.none ∨ v.ownBlock ≠ v'.ownBlock := by
  rcases h.2 with ⟨rfl, _⟩ | ⟨g, c, cur, rfl, _, hg, _⟩
  · exact .inl rfl
  · rcases h'.2 with ⟨rfl, _⟩ | ⟨g', c', cur', rfl, _, hg', _⟩
    · exact .inr (by simp [Value.ownBlock])
    · refine .inr fun e1 => ?_
      have : g = g' := by simpa [Value.ownBlock] using e1
      subst this
      rw [hg] at hg'; injection hg' with hg'; injection hg' with _ ht; exact hne ht

theorem own_read {w : World} {B e n : Nat} {v : Value} {xs : List Value} (h : w.ownsRow B e 1 v n xs) :
    ∃ A c, v = .slice A n c ∧ (0 < n → ∃ g, A = some ⟨g, 0, Option.none⟩ ∧ g < w.heap.size ∧ ∀ k u, xs[k]? = some u → w.cell? ⟨g, k, Option.none⟩ = some u) := by
  have hc := fun (g : Nat) (hg : v.ownBlock = some g) => h.cells hg
  rcases h.2 with ⟨rfl, rfl⟩ | ⟨g, c, cur, rfl, _⟩
  · exact ⟨Option.none, 0, rfl, fun h => absurd h (by omega)⟩
  · refine ⟨_, c, rfl, fun _ => ⟨g, rfl, (h.lt g rfl).2, fun k u hu => ?_⟩⟩
    have h2 := hc g rfl k u hu
    have e1 : (⟨g, 0, Option.none⟩ : Addr).add k = ⟨g, k, Option.none⟩ := by unfold Addr.add; split <;> simp_all
    rw [e1] at h2; exact h2

theorem runeVals_at (R : List (Nat × Nat)) (k : Nat) (h : k < R.length) : (runeVals R)[k]? = some (.int .i32 (R[k].1 : Nat)) := by
  simp [runeVals, h]

theorem okr_none (R : List (Nat × Nat)) (h : R.all Ru.fine = false) : R.all Ru.okr = false := by
  obtain ⟨x, hx, hf⟩ := List.all_eq_false.1 h
  exact List.all_eq_false.2 ⟨x, hx, by rw [okr_bad x (by simpa using hf)]; simp⟩

theorem atVals_at (R : List (Nat × Nat)) (k : Nat) (h : k < R.length) : (atVals R)[k]? = some (.int .i64 (Ru.wsum (R.take k) : Nat)) := by
  have key : ∀ (R : List (Nat × Nat)) (p k : Nat), k < R.length → (ats p R)[k]? = some (p + Ru.wsum (R.take k)) := by
    intro R; induction R with
    | nil => intro p k h; simp at h
    | cons x R ih =>
      intro p k h
      cases k with
      | zero => simp [ats]
      | succ k => simp only [ats, List.getElem?_cons_succ, List.take_succ_cons, Ru.wsum_cons]; rw [ih _ k (by simpa using h), Nat.add_assoc]
  unfold atVals; rw [List.getElem?_map, key R 0 k h]; simp

theorem cmp_drop (P Q : List Nat) (t : Bool) (k : Nat) (h1 : k < P.length) (h2 : k < Q.length) : Ru.cmpR (P.drop k) (Q.drop k) t = if P[k] = Q[k] then Ru.cmpR (P.drop (k + 1)) (Q.drop (k + 1)) t else decide (P[k] < Q[k]) := by
  rw [List.drop_eq_getElem_cons h1, List.drop_eq_getElem_cons h2]; rfl

theorem runeVals_runs (R : List (Nat × Nat)) (k : Nat) (h : k < (R.map (·.1)).length) : (runeVals R)[k]? = some (.int .i32 ((R.map (·.1))[k] : Nat)) := by
  rw [List.length_map] at h
  rw [runeVals_at R k h]; simp

theorem fld_drop (R : List (Nat × Nat)) (k : Nat) (h : k < R.length) : Ru.encs ((R.drop k).map fun x => Ru.low x.1) = Ru.enc (Ru.low R[k].1) ++ Ru.encs ((R.drop (k + 1)).map fun x => Ru.low x.1) := by
  rw [List.drop_eq_getElem_cons h]; rfl

theorem ret_pair {a b c d : Int} (h : a = c) (h2 : b = d) : Ending.returned (.tuple #[.int .i32 a, .int .i64 b]) = .returned (.tuple #[.int .i32 c, .int .i64 d]) := by rw [h, h2]

theorem ret_str {a b : ByteArray} (h : a = b) : Ending.returned (.string a) = .returned (.string b) := by rw [h]

def Some (n : Int) (w : World) (e : Ending) (w' : World) : Prop := ∃ t : ByteArray, (t.size : Int) ≤ n ∧ e = .returned (.string t) ∧ w = w'

def ED (r : Int) : Nat := if (0 ≤ r ∧ r < 55296) ∨ (57344 ≤ r ∧ r ≤ 1114111) then r.toNat else 65533

theorem enc_ED (r : Int) : Lib.encodeRune r = Ru.enc (ED r) := by
  unfold ED; split
  · unfold Ru.enc; congr 1; omega
  · have e : Lib.encodeRuneZ r = [239, 191, 189] := Lib.encodeRuneZ_bad (by omega)
    unfold Lib.encodeRune; rw [e]; decide

theorem ED_ok (r : Int) : Ru.rok (ED r) := by unfold ED Ru.rok; split <;> omega

theorem join_list (a b : ByteArray) : (a ++ b).data.toList = a.data.toList ++ b.data.toList := by rw [ByteArray.data_append, Array.toList_append]

theorem bytes_eq {a b : ByteArray} (h : a.data.toList = b.data.toList) : a = b := ByteArray.ext (Array.toList_inj.1 h)

theorem cnt_le (a : ByteArray) : Ru.cnt a.data.toList ≤ a.size := by
  have := Ru.rns_len a.data.toList
  rw [Array.length_toList] at this; exact this

theorem foldB_list (a : ByteArray) : (foldB a).data.toList = Ru.fld a.data.toList := by simp [foldB]

theorem foldB_le (a : ByteArray) : (foldB a).size ≤ 4 * a.size := by
  have := Ru.fld_len a.data.toList
  rw [Array.length_toList] at this
  exact this

theorem foldB_join (a b : ByteArray) (h : Ru.vld a.data.toList = true) : foldB (a ++ b) = foldB a ++ foldB b := by
  apply bytes_eq
  rw [join_list, foldB_list, foldB_list, foldB_list, join_list, Ru.fld_append _ _ h]

theorem cutB_list (s : ByteArray) (n : Int) : (cutB s n).data.toList = s.data.toList.take (Ru.cutP n.toNat s.data.toList) := by
  unfold cutB
  rw [ByteArray.data_extract, Array.toList_extract, List.extract_eq_take_drop]; simp

theorem cutB_join (a b : ByteArray) (h : Ru.vld a.data.toList = true) : cutB (a ++ b) (Ru.cnt a.data.toList : Nat) = a := by
  apply bytes_eq
  rw [cutB_list, Int.toNat_natCast, join_list, Ru.cut_front _ _ h, List.take_left]

def cN (s : ByteArray) : Nat := Ru.cnt s.data.toList

theorem cutB_size (t : ByteArray) (n : Int) : (cutB t n).size = Ru.cutP n.toNat t.data.toList := by
  have := Ru.cutP_le n.toNat t.data.toList
  rw [Array.length_toList] at this
  unfold cutB; rw [ByteArray.size_extract]
  have e : t.data.size = t.size := rfl
  omega

theorem cutB_front (t : ByteArray) (n : Int) : t.extract 0 (cutB t n).size = cutB t n := by rw [cutB_size]; rfl

theorem cutB_cnt (t : ByteArray) (n : Int) : cN (cutB t n) = min n.toNat (cN t) := by
  unfold cN; rw [cutB_list, Ru.cnt_cut]

theorem cutB_rest (t : ByteArray) (n : Int) : cN (cutB t n) + cN (t.extract (cutB t n).size t.size) = cN t := by
  rw [cutB_cnt]
  unfold cN; rw [ext_list, cutB_size]; unfold rest
  rw [Ru.cnt_rest]; omega

theorem below_step {a W V : World} (hb : Below W.heap.size W V) (h : Below a.heap.size a W) : Below a.heap.size a V := h.trans (hb.mono h.size)
end Go.Proofs.Ytegkhkcnoahhdaa
