/-
  Plain facts on bytes, runes and their order, with no program in them: decoding, encoding, cutting, folding, comparing.
  There are no conditions beyond those that each lemma names.
-/
import Derived.Lib.DecodeN
import Derived.Lib.RuneBytes
import GoSem.Claim
set_option linter.unusedVariables false
set_option linter.unusedSimpArgs false
set_option linter.unusedVariables false
namespace Go.Proofs.Ytoekiencnbgmhaa.Ru
open Go

/-- byte i of a list, 0 beyond its end -/
def byt (l : List UInt8) (i : Nat) : Nat := (l.getD i 0).toNat
theorem byt_lt (l : List UInt8) (i : Nat) : byt l i < 256 := (l.getD i 0).toNat_lt

/-- the first rune of a list of bytes and its width -/
def dcl (l : List UInt8) : Nat × Nat := Lib.decodeN l.length (byt l 0) (byt l 1) (byt l 2) (byt l 3)

theorem get_list (s : ByteArray) (i : Nat) : s.get! i = s.data.toList.getD i 0 := by
  show s.data[i]! = _
  by_cases h : i < s.data.size
  · rw [getElem!_pos s.data i h]; show _ = (s.data.toList[i]?).getD 0; rw [Array.getElem?_toList, Array.getElem?_eq_getElem h]; rfl
  · rw [getElem!_neg s.data i h]; show _ = (s.data.toList[i]?).getD 0; rw [Array.getElem?_toList, Array.getElem?_eq_none (Nat.le_of_not_lt h)]; rfl

theorem byt_drop (l : List UInt8) (i k : Nat) : byt (l.drop i) k = byt l (i + k) := by
  simp [byt, List.getD, List.getElem?_drop]

theorem decode_list (s : ByteArray) (i : Nat) : Utf8.decode s i = dcl (s.data.toList.drop i) := by
  have hl : (s.data.toList.drop i).length = s.size - i := by rw [List.length_drop, Array.length_toList]; rfl
  rw [Lib.decode_at]; unfold dcl
  rw [hl, byt_drop, byt_drop, byt_drop, byt_drop, get_list, get_list, get_list, get_list]
  rfl

/-- a rune that stands there in good bytes -/
def fine (x : Nat × Nat) : Bool := x.1 != 65533 || x.2 == 3

set_option maxHeartbeats 2000000 in
theorem decodeN_w (n b0 b1 b2 b3 : Nat) (hn : 1 ≤ n) : 1 ≤ (Lib.decodeN n b0 b1 b2 b3).2 ∧ (Lib.decodeN n b0 b1 b2 b3).2 ≤ n ∧ (Lib.decodeN n b0 b1 b2 b3).2 ≤ 4 := by
  unfold Lib.decodeN
  repeat' split
  all_goals (simp only; omega)

set_option maxHeartbeats 2000000 in
theorem decodeN_r (n b0 b1 b2 b3 : Nat) : (Lib.decodeN n b0 b1 b2 b3).1 < 55296 ∨ (57344 ≤ (Lib.decodeN n b0 b1 b2 b3).1 ∧ (Lib.decodeN n b0 b1 b2 b3).1 ≤ 1114111) := by
  unfold Lib.decodeN
  repeat' split
  all_goals (simp only; omega)

set_option maxHeartbeats 8000000 in
theorem decodeN_take (n k b0 b1 b2 b3 : Nat) (hn : 1 ≤ n) (hk : (Lib.decodeN n b0 b1 b2 b3).2 ≤ k) (hk1 : 1 ≤ k) :
    Lib.decodeN (min k n) b0 (if 1 < k then b1 else 0) (if 2 < k then b2 else 0) (if 3 < k then b3 else 0) = Lib.decodeN n b0 b1 b2 b3 := by
  have c1 : (1 < min k n) = (1 < k ∧ 1 < n) := propext ⟨fun h => by omega, fun h => by omega⟩
  have c2 : (2 < min k n) = (2 < k ∧ 2 < n) := propext ⟨fun h => by omega, fun h => by omega⟩
  have c3 : (3 < min k n) = (3 < k ∧ 3 < n) := propext ⟨fun h => by omega, fun h => by omega⟩
  have hcase : k = 1 ∨ k = 2 ∨ k = 3 ∨ 4 ≤ k := by omega
  rcases hcase with h | h | h | h
  · subst h
    revert hk
    simp only [Lib.decodeN, c1, c2, c3, show ¬ (1 < 1) by omega, show ¬ (2 < 1) by omega, show ¬ (3 < 1) by omega, if_false, false_and, and_false, if_false]
    repeat' split
    all_goals (intro hk; first | rfl | (exfalso; simp only at hk; omega) | (exfalso; omega))
  · subst h
    revert hk
    simp only [Lib.decodeN, c1, c2, c3, show (1 < 2) by omega, show ¬ (2 < 2) by omega, show ¬ (3 < 2) by omega, if_true, true_and, if_false, false_and, and_false, if_false]
    repeat' split
    all_goals (intro hk; first | rfl | (exfalso; simp only at hk; omega) | (exfalso; omega))
  · subst h
    revert hk
    simp only [Lib.decodeN, c1, c2, c3, show (1 < 3) by omega, show (2 < 3) by omega, show ¬ (3 < 3) by omega, if_true, true_and, if_false, false_and, and_false, if_false]
    repeat' split
    all_goals (intro hk; first | rfl | (exfalso; simp only at hk; omega) | (exfalso; omega))
  · simp only [Lib.decodeN, c1, c2, c3, show 1 < k by omega, show 2 < k by omega, show 3 < k by omega, if_true, true_and]

set_option maxHeartbeats 8000000 in
theorem decodeN_more (n N b0 b1 b2 b3 c1 c2 c3 : Nat) (hn : 1 ≤ n) (hN : n ≤ N) (h1 : 1 < n → c1 = b1) (h2 : 2 < n → c2 = b2) (h3 : 3 < n → c3 = b3)
    (hg : (Lib.decodeN n b0 b1 b2 b3).1 ≠ 65533 ∨ (Lib.decodeN n b0 b1 b2 b3).2 = 3) : Lib.decodeN N b0 c1 c2 c3 = Lib.decodeN n b0 b1 b2 b3 := by
  have hcase : n = 1 ∨ n = 2 ∨ n = 3 ∨ 4 ≤ n := by omega
  rcases hcase with h | h | h | h
  · subst h
    revert hg
    simp only [Lib.decodeN, show ¬ (1 < 1) by omega, show ¬ (2 < 1) by omega, show ¬ (3 < 1) by omega, false_and, and_false, if_false]
    split
    · intro _; rfl
    · intro hg; exfalso; simp at hg
  · subst h
    obtain rfl := h1 (by omega)
    have e1 : 1 < N := by omega
    revert hg
    simp only [Lib.decodeN, e1, show (1 < 2) by omega, show ¬ (2 < 2) by omega, show ¬ (3 < 2) by omega, true_and, false_and, and_false, if_false]
    split
    · intro _; rfl
    · split
      · intro _; rfl
      · intro hg; exfalso; simp at hg
  · subst h
    obtain rfl := h1 (by omega)
    obtain rfl := h2 (by omega)
    have e1 : 1 < N := by omega
    have e2 : 2 < N := by omega
    revert hg
    simp only [Lib.decodeN, e1, e2, show (1 < 3) by omega, show (2 < 3) by omega, show ¬ (3 < 3) by omega, true_and, false_and, and_false, if_false]
    split
    · intro _; rfl
    · split
      · intro _; rfl
      · split
        · intro _; rfl
        · intro hg; exfalso; simp at hg
  · obtain rfl := h1 (by omega)
    obtain rfl := h2 (by omega)
    obtain rfl := h3 (by omega)
    have e1 : 1 < N := by omega
    have e2 : 2 < N := by omega
    have e3 : 3 < N := by omega
    simp only [Lib.decodeN, e1, e2, e3, show 1 < n by omega, show 2 < n by omega, show 3 < n by omega]

theorem dcl_w (l : List UInt8) (h : l ≠ []) : 1 ≤ (dcl l).2 ∧ (dcl l).2 ≤ l.length ∧ (dcl l).2 ≤ 4 := decodeN_w _ _ _ _ _ (by cases l <;> simp_all)
theorem dcl_r (l : List UInt8) : (dcl l).1 < 55296 ∨ (57344 ≤ (dcl l).1 ∧ (dcl l).1 ≤ 1114111) := decodeN_r _ _ _ _ _

theorem byt_take (l : List UInt8) (k i : Nat) : byt (l.take k) i = if i < k then byt l i else 0 := by
  simp only [byt, List.getD, List.getElem?_take]
  split <;> simp

theorem dcl_take (l : List UInt8) (k : Nat) (h : l ≠ []) (hk : (dcl l).2 ≤ k) : dcl (l.take k) = dcl l := by
  have hw := dcl_w l h
  have := decodeN_take l.length k (byt l 0) (byt l 1) (byt l 2) (byt l 3) (by omega) hk (by omega)
  unfold dcl
  rw [← this, List.length_take, byt_take, byt_take, byt_take, byt_take, if_pos (show 0 < k by omega)]

theorem fine_iff (x : Nat × Nat) : fine x = true ↔ (x.1 ≠ 65533 ∨ x.2 = 3) := by simp [fine]

theorem byt_append (l m : List UInt8) (i : Nat) (h : i < l.length) : byt (l ++ m) i = byt l i := by
  simp [byt, List.getD, List.getElem?_append_left h]

theorem dcl_append (l m : List UInt8) (h : l ≠ []) (hf : fine (dcl l) = true) : dcl (l ++ m) = dcl l := by
  have hw := dcl_w l h
  have h0 : byt (l ++ m) 0 = byt l 0 := byt_append l m 0 (by omega)
  have := decodeN_more l.length (l ++ m).length (byt l 0) (byt l 1) (byt l 2) (byt l 3) (byt (l ++ m) 1) (byt (l ++ m) 2) (byt (l ++ m) 3) (by omega) (by simp) (fun h => byt_append l m 1 h) (fun h => byt_append l m 2 h) (fun h => byt_append l m 3 h) ((fine_iff _).1 hf)
  unfold dcl
  rw [h0, this]

/-! ### all runes of a text -/
def rnsF : Nat → List UInt8 → List (Nat × Nat)
  | 0, _ => []
  | f + 1, l => if l = [] then [] else dcl l :: rnsF f (l.drop (dcl l).2)
def rns (l : List UInt8) : List (Nat × Nat) := rnsF l.length l

theorem rnsF_enough (f : Nat) : ∀ g (l : List UInt8), l.length ≤ f → l.length ≤ g → rnsF f l = rnsF g l := by
  induction f with
  | zero => intro g l h _; have : l = [] := by cases l <;> simp_all
            subst this; cases g <;> simp [rnsF]
  | succ f ih =>
    intro g l h hg
    by_cases hl : l = []
    · subst hl; cases g <;> simp [rnsF]
    · have hw := dcl_w l hl
      cases g with
      | zero => exfalso; omega
      | succ g =>
        simp only [rnsF, if_neg hl]
        rw [ih g (l.drop (dcl l).2) (by simp; omega) (by simp; omega)]

@[simp] theorem rns_nil : rns [] = [] := rfl
theorem rns_cons (l : List UInt8) (h : l ≠ []) : rns l = dcl l :: rns (l.drop (dcl l).2) := by
  have hw := dcl_w l h
  obtain ⟨k, hk⟩ : ∃ k, l.length = k + 1 := ⟨l.length - 1, by omega⟩
  unfold rns
  rw [hk]
  simp only [rnsF, if_neg h]
  rw [rnsF_enough k (l.drop (dcl l).2).length _ (by simp; omega) (by simp)]

theorem rns_ind {P : List UInt8 → Prop} (h0 : P []) (h1 : ∀ l, l ≠ [] → P (l.drop (dcl l).2) → P l) (l : List UInt8) : P l := by
  suffices ∀ n (l : List UInt8), l.length ≤ n → P l from this _ l (Nat.le_refl _)
  intro n
  induction n with
  | zero => intro l h; have : l = [] := by cases l <;> simp_all
            subst this; exact h0
  | succ n ih =>
    intro l h
    by_cases hl : l = []
    · subst hl; exact h0
    · have hw := dcl_w l hl
      exact h1 l hl (ih _ (by simp; omega))

theorem rns_eq_nil (l : List UInt8) : rns l = [] ↔ l = [] := by
  by_cases h : l = []
  · simp [h]
  · rw [rns_cons l h]; simp [h]

def wsum (x : List (Nat × Nat)) : Nat := (x.map (·.2)).sum
@[simp] theorem wsum_nil : wsum [] = 0 := rfl
@[simp] theorem wsum_cons (a : Nat × Nat) (x : List (Nat × Nat)) : wsum (a :: x) = a.2 + wsum x := by simp [wsum]
@[simp] theorem wsum_append (x y : List (Nat × Nat)) : wsum (x ++ y) = wsum x + wsum y := by simp [wsum]

theorem wsum_rns (l : List UInt8) : wsum (rns l) = l.length := by
  induction l using rns_ind with
  | h0 => rfl
  | h1 l h ih => rw [rns_cons l h, wsum_cons, ih]; have := dcl_w l h; rw [List.length_drop]; omega

theorem rns_len (l : List UInt8) : (rns l).length ≤ l.length := by
  induction l using rns_ind with
  | h0 => simp
  | h1 l h ih => rw [rns_cons l h]; have := dcl_w l h; rw [List.length_drop] at ih; rw [List.length_cons]; omega

theorem rns_valid (l : List UInt8) : ∀ x ∈ rns l, x.1 < 55296 ∨ (57344 ≤ x.1 ∧ x.1 ≤ 1114111) := by
  induction l using rns_ind with
  | h0 => simp
  | h1 l h ih =>
    rw [rns_cons l h]; intro x hx
    rcases List.mem_cons.1 hx with rfl | hx
    · exact dcl_r l
    · exact ih x hx

def cnt (l : List UInt8) : Nat := (rns l).length
def vld (l : List UInt8) : Bool := (rns l).all fine
/-- where the first k runes end -/
def cutP (k : Nat) (l : List UInt8) : Nat := wsum ((rns l).take k)
@[simp] theorem cutP_zero (l : List UInt8) : cutP 0 l = 0 := by simp [cutP]
@[simp] theorem cutP_nil (k : Nat) : cutP k [] = 0 := by simp [cutP]
theorem cutP_succ (k : Nat) (l : List UInt8) (h : l ≠ []) : cutP (k + 1) l = (dcl l).2 + cutP k (l.drop (dcl l).2) := by
  simp [cutP, rns_cons l h]
theorem cutP_le (k : Nat) (l : List UInt8) : cutP k l ≤ l.length := by
  have := wsum_rns l
  have e : rns l = (rns l).take k ++ (rns l).drop k := (List.take_append_drop _ _).symm
  rw [e, wsum_append] at this
  unfold cutP; omega

theorem rns_take (k : Nat) (l : List UInt8) : rns (l.take (cutP k l)) = (rns l).take k := by
  induction l using rns_ind generalizing k with
  | h0 => simp
  | h1 l h ih =>
    cases k with
    | zero => simp
    | succ k =>
      have hw := dcl_w l h
      rw [cutP_succ k l h, rns_cons l h, List.take_succ_cons, ← ih k]
      have hne : l.take ((dcl l).2 + cutP k (l.drop (dcl l).2)) ≠ [] := by
        intro e; have := congrArg List.length e; rw [List.length_take, List.length_nil] at this; omega
      rw [rns_cons _ hne, dcl_take l _ h (by omega), List.drop_take]
      congr 2
      rw [Nat.add_sub_cancel_left]

theorem rns_drop (k : Nat) (l : List UInt8) : rns (l.drop (cutP k l)) = (rns l).drop k := by
  induction l using rns_ind generalizing k with
  | h0 => simp
  | h1 l h ih =>
    cases k with
    | zero => simp
    | succ k =>
      rw [cutP_succ k l h, rns_cons l h, List.drop_succ_cons, ← ih k, List.drop_drop]

theorem rns_append (l m : List UInt8) (h : vld l = true) : rns (l ++ m) = rns l ++ rns m := by
  induction l using rns_ind with
  | h0 => simp
  | h1 l hl ih =>
    have hw := dcl_w l hl
    unfold vld at h ih
    rw [rns_cons l hl, List.all_cons, Bool.and_eq_true] at h
    rw [rns_cons l hl, rns_cons (l ++ m) (by simp [hl]), dcl_append l m hl h.1, List.cons_append, ← ih h.2, List.drop_append_of_le_length hw.2.1]

/-! ### encoding -/
def rok (r : Nat) : Prop := r < 55296 ∨ (57344 ≤ r ∧ r ≤ 1114111)

theorem byt_cons0 (a : UInt8) (l : List UInt8) : byt (a :: l) 0 = a.toNat := rfl
theorem byt_cons (a : UInt8) (l : List UInt8) (i : Nat) : byt (a :: l) (i + 1) = byt l i := rfl

theorem u8n (n : Nat) (h : n < 256) : (n.toUInt8).toNat = n := by simp [Nat.toUInt8]; omega
def enc (r : Nat) : List UInt8 := Lib.encodeRune (r : Int)

set_option maxHeartbeats 4000000 in
theorem dcl_encode (r : Nat) (m : List UInt8) (h : rok r) : dcl (enc r ++ m) = (r, (enc r).length) := by
  unfold enc
  unfold rok at h
  have hcase : r ≤ 127 ∨ (128 ≤ r ∧ r ≤ 2047) ∨ (2048 ≤ r ∧ r ≤ 65535) ∨ (65536 ≤ r ∧ r ≤ 1114111) := by omega
  rcases hcase with h1 | h1 | h1 | h1
  · have e : Lib.encodeRuneZ (r : Int) = [(r : Int)] := Lib.encodeRuneZ_one (by omega) (by omega)
    have e2 : Lib.encodeRune (r : Int) = [r.toUInt8] := by simp [Lib.encodeRune, e]
    rw [e2, List.cons_append, List.nil_append]; unfold dcl
    rw [byt_cons0]; unfold Lib.decodeN
    rw [u8n r (by omega), if_pos (by omega)]; rfl
  · have e : Lib.encodeRuneZ (r : Int) = [192 + (r : Int) / 64, 128 + (r : Int) % 64] := Lib.encodeRuneZ_two (by omega) (by omega)
    have e2 : Lib.encodeRune (r : Int) = [(192 + r / 64).toUInt8, (128 + r % 64).toUInt8] := by
      simp only [Lib.encodeRune, e, List.map]
      rw [show ((192 : Int) + (r : Int) / 64).toNat = 192 + r / 64 by omega, show ((128 : Int) + (r : Int) % 64).toNat = 128 + r % 64 by omega]
    rw [e2]
    simp only [dcl, List.cons_append, List.nil_append, byt_cons0, byt_cons _ _ 0, List.length_cons, Lib.decodeN]
    rw [u8n (192 + r / 64) (by omega), u8n (128 + r % 64) (by omega), if_neg (by omega), if_pos (by omega), if_pos (by omega)]
    apply Prod.ext <;> simp only [List.length_nil] <;> omega
  · have e : Lib.encodeRuneZ (r : Int) = [224 + (r : Int) / 4096, 128 + (r : Int) / 64 % 64, 128 + (r : Int) % 64] := Lib.encodeRuneZ_three (by omega)
    have e2 : Lib.encodeRune (r : Int) = [(224 + r / 4096).toUInt8, (128 + r / 64 % 64).toUInt8, (128 + r % 64).toUInt8] := by
      simp only [Lib.encodeRune, e, List.map]
      rw [show ((224 : Int) + (r : Int) / 4096).toNat = 224 + r / 4096 by omega, show ((128 : Int) + (r : Int) / 64 % 64).toNat = 128 + r / 64 % 64 by omega, show ((128 : Int) + (r : Int) % 64).toNat = 128 + r % 64 by omega]
    rw [e2]
    simp only [dcl, List.cons_append, List.nil_append, byt_cons0, byt_cons _ _ 0, byt_cons _ _ 1, List.length_cons, Lib.decodeN]
    rw [u8n (224 + r / 4096) (by omega), u8n (128 + r / 64 % 64) (by omega), u8n (128 + r % 64) (by omega), if_neg (by omega), if_neg (by omega), if_pos (by omega), if_pos (by omega)]
    apply Prod.ext <;> simp only [List.length_nil] <;> omega
  · have e : Lib.encodeRuneZ (r : Int) = [240 + (r : Int) / 262144, 128 + (r : Int) / 4096 % 64, 128 + (r : Int) / 64 % 64, 128 + (r : Int) % 64] := Lib.encodeRuneZ_four (by omega) (by omega)
    have e2 : Lib.encodeRune (r : Int) = [(240 + r / 262144).toUInt8, (128 + r / 4096 % 64).toUInt8, (128 + r / 64 % 64).toUInt8, (128 + r % 64).toUInt8] := by
      simp only [Lib.encodeRune, e, List.map]
      rw [show ((240 : Int) + (r : Int) / 262144).toNat = 240 + r / 262144 by omega, show ((128 : Int) + (r : Int) / 4096 % 64).toNat = 128 + r / 4096 % 64 by omega, show ((128 : Int) + (r : Int) / 64 % 64).toNat = 128 + r / 64 % 64 by omega, show ((128 : Int) + (r : Int) % 64).toNat = 128 + r % 64 by omega]
    rw [e2]
    simp only [dcl, List.cons_append, List.nil_append, byt_cons0, byt_cons _ _ 0, byt_cons _ _ 1, byt_cons _ _ 2, List.length_cons, Lib.decodeN]
    rw [u8n (240 + r / 262144) (by omega), u8n (128 + r / 4096 % 64) (by omega), u8n (128 + r / 64 % 64) (by omega), u8n (128 + r % 64) (by omega), if_neg (by omega), if_neg (by omega), if_neg (by omega), if_pos (by omega), if_pos (by omega)]
    apply Prod.ext <;> simp only [List.length_nil] <;> omega

theorem enc_w (r : Nat) : 1 ≤ (enc r).length ∧ (enc r).length ≤ 4 := by
  have := Lib.runeCells_le (r : Int); rw [Lib.runeCells_length] at this; exact this
theorem enc_ne (r : Nat) : enc r ≠ [] := by
  have := enc_w r
  intro e; rw [e] at this; simp at this

def encs (x : List Nat) : List UInt8 := x.flatMap enc
theorem rns_encs (x : List Nat) (h : ∀ r ∈ x, rok r) : rns (encs x) = x.map fun r => (r, (enc r).length) := by
  induction x with
  | nil => rfl
  | cons a x ih =>
    have ha := h a (by simp)
    show rns (enc a ++ encs x) = _
    rw [rns_cons _ (by simp [enc_ne]), dcl_encode a _ ha]
    simp only [List.drop_left, List.map_cons]
    rw [ih (fun r hr => h r (by simp [hr]))]

theorem enc_len3 (r : Nat) (h : r = 65533) : (enc r).length = 3 := by subst h; rfl
theorem fine_enc (r : Nat) : fine (r, (enc r).length) = true := by
  rw [fine_iff]
  by_cases h : r = 65533
  · exact .inr (enc_len3 r h)
  · exact .inl h
theorem vld_encs (x : List Nat) (h : ∀ r ∈ x, rok r) : vld (encs x) = true := by
  unfold vld; rw [rns_encs x h, List.all_map, List.all_eq_true]; intro r _; exact fine_enc r

/-! ### small letters -/
def low (r : Nat) : Nat := if (65 ≤ r ∧ r ≤ 90) ∨ (192 ≤ r ∧ r ≤ 222 ∧ r ≠ 215) ∨ (913 ≤ r ∧ r ≤ 937 ∧ r ≠ 930) ∨ (1040 ≤ r ∧ r ≤ 1071) then r + 32 else r
theorem low_ok (r : Nat) (h : rok r) : rok (low r) := by unfold low rok at *; split <;> omega
theorem low_low (r : Nat) : low (low r) = low r := by
  have e : ∀ x, low x = x ∨ (low x = x + 32) := by intro x; unfold low; split <;> simp
  unfold low; split
  · rw [if_neg (by omega)]
  · rfl
theorem low_ge (r : Nat) : (32 ≤ low r ∧ low r ≠ 127) ↔ (32 ≤ r ∧ r ≠ 127) := by unfold low; split <;> omega

def fld (l : List UInt8) : List UInt8 := encs ((rns l).map fun x => low x.1)
theorem fld_ok (l : List UInt8) : ∀ r ∈ (rns l).map (fun x => low x.1), rok r := by
  intro r hr
  obtain ⟨x, hx, rfl⟩ := List.mem_map.1 hr
  exact low_ok _ (rns_valid l x hx)
theorem rns_fld (l : List UInt8) : rns (fld l) = (rns l).map fun x => (low x.1, (enc (low x.1)).length) := by
  unfold fld; rw [rns_encs _ (fld_ok l), List.map_map]; rfl
theorem vld_fld (l : List UInt8) : vld (fld l) = true := vld_encs _ (fld_ok l)
theorem cnt_fld (l : List UInt8) : cnt (fld l) = cnt l := by simp [cnt, rns_fld]
theorem fld_fld (l : List UInt8) : fld (fld l) = fld l := by
  unfold fld; rw [show rns (encs ((rns l).map fun x => low x.1)) = _ from rns_fld l, List.map_map]
  congr 1
  apply List.map_congr_left; intro x _; simp [low_low]
theorem fld_append (l m : List UInt8) (h : vld l = true) : fld (l ++ m) = fld l ++ fld m := by
  unfold fld; rw [rns_append l m h, List.map_append]; unfold encs; rw [List.flatMap_append]

/-! ### keys -/
def okr (x : Nat × Nat) : Bool := fine x && decide (32 ≤ x.1) && x.1 != 127
def key (l : List UInt8) : Bool := decide (1 ≤ (rns l).length) && decide ((rns l).length ≤ 40) && (rns l).all okr
theorem key_fld (l : List UInt8) (h : key l = true) : key (fld l) = true := by
  unfold key at *
  rw [rns_fld, List.length_map]
  simp only [Bool.and_eq_true] at h ⊢
  refine ⟨h.1, ?_⟩
  rw [List.all_map, List.all_eq_true]
  intro x hx
  have := List.all_eq_true.1 h.2 x hx
  simp only [okr, Bool.and_eq_true, decide_eq_true_eq, bne_iff_ne] at this
  have hl := (low_ge x.1).2 ⟨this.1.2, this.2⟩
  simp only [Function.comp, okr, Bool.and_eq_true, decide_eq_true_eq, bne_iff_ne, fine_enc, true_and]
  exact hl
theorem key_vld (l : List UInt8) (h : key l = true) : vld l = true := by
  unfold key at h; unfold vld
  simp only [Bool.and_eq_true] at h
  rw [List.all_eq_true]; intro x hx
  have := List.all_eq_true.1 h.2 x hx
  simp only [okr, Bool.and_eq_true] at this
  exact this.1.1

/-! ### a stray byte -/
theorem dcl_bad (c : UInt8) (m : List UInt8) (h : 248 ≤ c.toNat) : dcl (c :: m) = (65533, 1) := by
  have hc := c.toNat_lt
  unfold dcl
  rw [byt_cons0]; unfold Lib.decodeN
  rw [if_neg (by omega), if_neg (by omega), if_neg (by omega), if_neg (by omega)]
theorem rns_bad (a b : List UInt8) (c : UInt8) (ha : vld a = true) (h : 248 ≤ c.toNat) : rns (a ++ [c] ++ b) = rns a ++ (65533, 1) :: rns b := by
  rw [List.append_assoc, rns_append a _ ha]
  congr 1
  show rns (c :: b) = _
  rw [rns_cons _ (by simp), dcl_bad c b h]; rfl

set_option maxHeartbeats 4000000 in
theorem decodeN_fffd (n b0 b1 b2 b3 : Nat) (h0 : b0 < 256) (h1 : b1 < 256) (h2 : b2 < 256) (hr : (Lib.decodeN n b0 b1 b2 b3).1 = 65533) : (Lib.decodeN n b0 b1 b2 b3).2 = 3 ↔ (2 < n ∧ b0 = 239 ∧ b1 = 191 ∧ b2 = 189) := by
  revert hr
  unfold Lib.decodeN
  repeat' split
  all_goals (intro hr; omega)

theorem pre3 (l : List UInt8) : (l.take 3 = [239, 191, 189]) ↔ (2 < l.length ∧ byt l 0 = 239 ∧ byt l 1 = 191 ∧ byt l 2 = 189) := by
  constructor
  · intro h
    have hl : 2 < l.length := by have := congrArg List.length h; simp at this; omega
    have e : ∀ i, i < 3 → byt l i = byt (l.take 3) i := by intro i hi; rw [byt_take, if_pos hi]
    rw [e 0 (by omega), e 1 (by omega), e 2 (by omega), h]
    exact ⟨hl, rfl, rfl, rfl⟩
  · rintro ⟨hl, h0, h1, h2⟩
    match l, hl with
    | a :: b :: c :: t, _ =>
      simp only [byt_cons0, byt_cons _ _ 0, byt_cons _ _ 1] at h0 h1 h2
      simp only [List.take_succ_cons, List.take_zero]
      rw [show a = 239 from UInt8.toNat_inj.1 h0, show b = 191 from UInt8.toNat_inj.1 h1, show c = 189 from UInt8.toNat_inj.1 h2]

theorem fine_pre (l : List UInt8) (h : l ≠ []) (hr : (dcl l).1 = 65533) : fine (dcl l) = decide (l.take 3 = [239, 191, 189]) := by
  have := decodeN_fffd l.length (byt l 0) (byt l 1) (byt l 2) (byt l 3) (byt_lt _ _) (byt_lt _ _) (byt_lt _ _) hr
  rw [Bool.eq_iff_iff, decide_eq_true_eq, pre3, ← this, fine_iff]
  constructor
  · rintro (h | h)
    · exact absurd hr h
    · exact h
  · exact .inr

/-! ### order -/
def cmpR : List Nat → List Nat → Bool → Bool
  | [], [], t => t
  | [], _ :: _, _ => true
  | _ :: _, [], _ => false
  | p :: x, q :: y, t => if p = q then cmpR x y t else decide (p < q)

theorem cmpR_total (x : List Nat) : ∀ y t u, (x ≠ y ∨ (t || u) = true) → (cmpR x y t || cmpR y x u) = true := by
  induction x with
  | nil => intro y t u h; cases y <;> simp_all [cmpR]
  | cons p x ih =>
    intro y t u h
    cases y with
    | nil => simp [cmpR]
    | cons q y =>
      simp only [cmpR]
      by_cases e : p = q
      · subst e; rw [if_pos rfl, if_pos rfl]; apply ih
        rcases h with h | h
        · exact .inl fun e => h (by rw [e])
        · exact .inr h
      · rw [if_neg e, if_neg (Ne.symm e)]; simp; omega
theorem cmpR_asym (x : List Nat) : ∀ y t u, (t && u) = false → (cmpR x y t && cmpR y x u) = false := by
  induction x with
  | nil => intro y t u h; cases y <;> simp_all [cmpR]
  | cons p x ih =>
    intro y t u h
    cases y with
    | nil => simp [cmpR]
    | cons q y =>
      simp only [cmpR]
      by_cases e : p = q
      · subst e; rw [if_pos rfl, if_pos rfl]; exact ih y t u h
      · rw [if_neg e, if_neg (Ne.symm e)]; simp; omega
theorem cmpR_trans (x : List Nat) : ∀ y z t u v, (t = true → u = true → v = true) → cmpR x y t = true → cmpR y z u = true → cmpR x z v = true := by
  induction x with
  | nil => intro y z t u v h h1 h2; cases y <;> cases z <;> simp_all [cmpR]
  | cons p x ih =>
    intro y z t u v h h1 h2
    cases y with
    | nil => simp [cmpR] at h1
    | cons q y =>
      cases z with
      | nil => simp [cmpR] at h2
      | cons s z =>
        simp only [cmpR] at h1 h2 ⊢
        by_cases e : p = q
        · subst e; rw [if_pos rfl] at h1
          by_cases e2 : p = s
          · subst e2; rw [if_pos rfl] at h2 ⊢; exact ih y z t u v h h1 h2
          · rw [if_neg e2] at h2 ⊢; exact h2
        · rw [if_neg e] at h1
          have := of_decide_eq_true h1
          by_cases e2 : q = s
          · subst e2; rw [if_neg (by omega)]; exact h1
          · rw [if_neg e2] at h2; have := of_decide_eq_true h2
            rw [if_neg (by omega)]; simp; omega

def runs (l : List UInt8) : List Nat := (rns l).map (·.1)
def les (a b : List UInt8) : Bool := cmpR (runs a) (runs b) (Op.bytesLess a b)

theorem bl_irrefl (a : List UInt8) : Op.bytesLess a a = false := by
  induction a with
  | nil => rfl
  | cons x a ih => simp [Op.bytesLess, ih]
theorem bl_cons (x y : UInt8) (a b : List UInt8) : Op.bytesLess (x :: a) (y :: b) = if x.toNat = y.toNat then Op.bytesLess a b else decide (x.toNat < y.toNat) := by
  have h1 : (x < y) = (x.toNat < y.toNat) := by rw [UInt8.lt_iff_toNat_lt]
  have h2 : (x == y) = decide (x.toNat = y.toNat) := by
    rw [Bool.eq_iff_iff, beq_iff_eq, decide_eq_true_eq, UInt8.toNat_inj]
  simp only [Op.bytesLess, h1, h2]
  split
  · rename_i h; simp [h]
  · rename_i h; simp [h]
theorem bl_asym (a : List UInt8) : ∀ b, (Op.bytesLess a b && Op.bytesLess b a) = false := by
  induction a with
  | nil => intro b; cases b <;> rfl
  | cons x a ih =>
    intro b
    cases b with
    | nil => rfl
    | cons y b =>
      rw [bl_cons, bl_cons]
      by_cases e : x.toNat = y.toNat
      · rw [if_pos e, if_pos e.symm]; exact ih b
      · rw [if_neg e, if_neg (Ne.symm e)]; simp; omega
theorem bl_total (a : List UInt8) : ∀ b, a ≠ b → (Op.bytesLess a b || Op.bytesLess b a) = true := by
  induction a with
  | nil => intro b h; cases b <;> simp_all [Op.bytesLess]
  | cons x a ih =>
    intro b h
    cases b with
    | nil => simp [Op.bytesLess]
    | cons y b =>
      rw [bl_cons, bl_cons]
      by_cases e : x.toNat = y.toNat
      · rw [if_pos e, if_pos e.symm]
        exact ih b fun e2 => h (by rw [e2, UInt8.toNat_inj.1 e])
      · rw [if_neg e, if_neg (Ne.symm e)]; simp; omega
theorem bl_trans (a : List UInt8) : ∀ b c, Op.bytesLess a b = true → Op.bytesLess b c = true → Op.bytesLess a c = true := by
  induction a with
  | nil => intro b c h1 h2; cases b <;> cases c <;> simp_all [Op.bytesLess]
  | cons x a ih =>
    intro b c h1 h2
    cases b with
    | nil => simp [Op.bytesLess] at h1
    | cons y b =>
      cases c with
      | nil => simp [Op.bytesLess] at h2
      | cons z c =>
        rw [bl_cons] at h1 h2 ⊢
        by_cases e : x.toNat = y.toNat
        · rw [if_pos e] at h1
          by_cases e2 : y.toNat = z.toNat
          · rw [if_pos e2] at h2; rw [if_pos (e.trans e2)]; exact ih b c h1 h2
          · rw [if_neg e2] at h2; rw [if_neg (by omega)]; rw [e]; exact h2
        · rw [if_neg e] at h1
          have := of_decide_eq_true h1
          by_cases e2 : y.toNat = z.toNat
          · rw [if_neg (by omega), ← e2]; exact h1
          · rw [if_neg e2] at h2; have := of_decide_eq_true h2
            rw [if_neg (by omega)]; simp; omega

theorem les_asym (a b : List UInt8) : (les a b && les b a) = false := cmpR_asym _ _ _ _ (bl_asym a b)
theorem les_trans (a b c : List UInt8) (h1 : les a b = true) (h2 : les b c = true) : les a c = true := cmpR_trans _ _ _ _ _ _ (bl_trans a b c) h1 h2
theorem les_total (a b : List UInt8) (h : a ≠ b) : (les a b || les b a) = true := cmpR_total _ _ _ _ (.inr (bl_total a b h))
theorem cmpR_self (x : List Nat) (t : Bool) : cmpR x x t = t := by
  induction x with
  | nil => rfl
  | cons p x ih => simp [cmpR, ih]
theorem les_self (a : List UInt8) : les a a = false := by unfold les; rw [cmpR_self, bl_irrefl]
theorem cmpR_front (x y : List Nat) (t : Bool) (h : y ≠ []) : cmpR (x ++ y) x t = false := by
  induction x with
  | nil => cases y <;> simp_all [cmpR]
  | cons p x ih => simp [cmpR, ih]
theorem les_front (a b : List UInt8) (h : vld a = true) : les (a ++ b) a = false := by
  by_cases hb : b = []
  · subst hb; rw [List.append_nil, les_self]
  · unfold les runs
    rw [rns_append a b h, List.map_append]
    exact cmpR_front _ _ _ (by simpa [rns_eq_nil] using hb)
theorem les_eq (a b : List UInt8) : (les a b || les b a) = !(a == b) := by
  by_cases h : a = b
  · subst h; simp [les_self]
  · rw [les_total a b h]; simp [h]
theorem cut_front (a b : List UInt8) (h : vld a = true) : cutP (cnt a) (a ++ b) = a.length := by
  unfold cutP cnt; rw [rns_append a b h, List.take_left, wsum_rns]
theorem cnt_append (a b : List UInt8) (h : vld a = true) : cnt (a ++ b) = cnt a + cnt b := by
  unfold cnt; rw [rns_append a b h, List.length_append]
theorem vld_append (a b : List UInt8) (ha : vld a = true) (hb : vld b = true) : vld (a ++ b) = true := by
  unfold vld at *; rw [rns_append a b ha, List.all_append, ha, hb]; rfl
theorem cnt_cut (k : Nat) (l : List UInt8) : cnt (l.take (cutP k l)) = min k (cnt l) := by
  unfold cnt; rw [rns_take, List.length_take]
theorem cnt_rest (k : Nat) (l : List UInt8) : cnt (l.drop (cutP k l)) = cnt l - k := by
  unfold cnt; rw [rns_drop, List.length_drop]
theorem encs_replicate (n : Nat) (r : Nat) : encs (List.replicate (n + 1) r) = encs (List.replicate n r) ++ enc r := by
  unfold encs; rw [List.replicate_succ', List.flatMap_append]; simp
theorem rns_rep (n r : Nat) (h : rok r) : rns (encs (List.replicate n r)) = List.replicate n (r, (enc r).length) := by
  rw [rns_encs _ (by intro x hx; rw [List.eq_of_mem_replicate hx]; exact h), List.map_replicate]
theorem key_rep (n r : Nat) (h : rok r) (h1 : 32 ≤ r) (h2 : r ≠ 127) : key (encs (List.replicate n r)) = (decide (1 ≤ n) && decide (n ≤ 40)) := by
  unfold key; rw [rns_rep n r h, List.length_replicate]
  have : (List.replicate n (r, (enc r).length)).all okr = true := by
    rw [List.all_eq_true]; intro x hx; rw [List.eq_of_mem_replicate hx]
    simp only [okr, Bool.and_eq_true, decide_eq_true_eq, bne_iff_ne]
    exact ⟨⟨fine_enc r, h1⟩, h2⟩
  rw [this, Bool.and_true]
theorem cnt_rep (n r : Nat) (h : rok r) : cnt (encs (List.replicate n r)) = n := by unfold cnt; rw [rns_rep n r h, List.length_replicate]
theorem dcl_enc (r : Nat) (h : rok r) : dcl (enc r) = (r, (enc r).length) := by
  have := dcl_encode r [] h; rwa [List.append_nil] at this
theorem vld_bad (a b : List UInt8) (c : UInt8) (ha : vld a = true) (h : 248 ≤ c.toNat) : vld (a ++ [c] ++ b) = false := by
  unfold vld; rw [rns_bad a b c ha h, List.all_append, List.all_cons]; simp [fine]
theorem key_bad (a b : List UInt8) (c : UInt8) (ha : vld a = true) (h : 248 ≤ c.toNat) : key (a ++ [c] ++ b) = false := by
  cases hk : key (a ++ [c] ++ b)
  · rfl
  · have := key_vld _ hk; rw [vld_bad a b c ha h] at this; cases this
theorem cnt_bad (a b : List UInt8) (c : UInt8) (ha : vld a = true) (h : 248 ≤ c.toNat) : cnt (a ++ [c] ++ b) = cnt a + 1 + cnt b := by
  unfold cnt; rw [rns_bad a b c ha h]; simp; omega
theorem fld_bad (a b : List UInt8) (c : UInt8) (ha : vld a = true) (h : 248 ≤ c.toNat) : fld (a ++ [c] ++ b) = fld a ++ [239, 191, 189] ++ fld b := by
  unfold fld; rw [rns_bad a b c ha h, List.map_append, List.map_cons]
  unfold encs; rw [List.flatMap_append, List.flatMap_cons]
  have : enc (low 65533) = [239, 191, 189] := by decide
  rw [this]; simp
theorem fld_len (l : List UInt8) : (fld l).length ≤ 4 * l.length := by
  have h : ∀ x : List Nat, (encs x).length ≤ 4 * x.length := by
    intro x; induction x with
    | nil => simp [encs]
    | cons a x ih => have := enc_w a; simp only [encs, List.flatMap_cons, List.length_append, List.length_cons] at *; omega
  have h1 := h ((rns l).map fun x => low x.1)
  have h2 := rns_len l
  rw [List.length_map] at h1
  unfold fld; omega
end Go.Proofs.Ytoekiencnbgmhaa.Ru
