/-
  Contracts of the program's functions, of the reference's, and plain lemmas on what they answer (part 1 of 4).
  Each lemma names its conditions.
-/
import Derived.Lib.DecodeN
import Derived.Lib.RuneBytes
import GoSem.Claim
import Derived.Lib.Strings
import Derived.WalkKit
import Derived.WalkLawsBesides
import Derived.WalkSpells
import Derived.BigCall
import Derived.BigQuiet
import Derived.Deep.QuietTactic
import Derived.Deep.LoopGhost
import Derived.Lib.Hide
import Derived.Outline
import Derived.Lib.OthersKept
import Derived.WalkSmall
import Derived.Test.YtoekiencnbgmhaaProg
import Derived.ProofKit
import Derived.OpenShut
import Derived.ChangeOld
import Derived.Lib.SmallJoins
import Derived.Deep.RegionHeld3
import Derived.Laws.AppendOwnNone
import Derived.Lib.AppendStr
import Derived.Maps.AppendAt
import Derived.Deep.MidRow
import Derived.Maps.OwnSet
import Derived.Sort.KeysCollected
import Derived.Deep.Slices
import Derived.Laws.BitsAllLaws
import Derived.Laws.Bits64
import Derived.Lib.Zigzag
/-
  Plain facts on bytes, runes and their order, with no program in them: decoding, encoding, cutting, folding, comparing.
  There are no conditions beyond those that each lemma names.
-/
set_option linter.unusedVariables false
set_option linter.unusedSimpArgs false
set_option linter.unusedVariables false
namespace Go.Proofs.Ytoekiencnbgmhaa.Ru
open Go

/-- byte i of a list, 0 beyond its end -/
def byt (l : List UInt8) (i : Nat) : Nat := (l.getD i 0).toNat
theorem byt_lt (l : List UInt8) (i : Nat) : byt l i < 256 := (l.getD i 0).toNat_lt

/-- the first rune of a list of bytes and its width -/
def dcl (l : List UInt8) : Nat × Nat := Lib.decodeN l.length (byt l 0) (byt l 1) (byt l 2) (byt l 3)

theorem get_list (s : ByteArray) (i : Nat) : s.get! i = s.data.toList.getD i 0 := by
  show s.data[i]! = _
  by_cases h : i < s.data.size
  · rw [getElem!_pos s.data i h]; show _ = (s.data.toList[i]?).getD 0; rw [Array.getElem?_toList, Array.getElem?_eq_getElem h]; rfl
  · rw [getElem!_neg s.data i h]; show _ = (s.data.toList[i]?).getD 0; rw [Array.getElem?_toList, Array.getElem?_eq_none (Nat.le_of_not_lt h)]; rfl

theorem byt_drop (l : List UInt8) (i k : Nat) : byt (l.drop i) k = byt l (i + k) := by
  simp [byt, List.getD, List.getElem?_drop]

theorem decode_list (s : ByteArray) (i : Nat) : Utf8.decode s i = dcl (s.data.toList.drop i) := by
  have hl : (s.data.toList.drop i).length = s.size - i := by rw [List.length_drop, Array.length_toList]; rfl
  rw [Lib.decode_at]; unfold dcl
  rw [hl, byt_drop, byt_drop, byt_drop, byt_drop, get_list, get_list, get_list, get_list]
  rfl

/-- a rune that stands there in good bytes -/
def fine (x : Nat × Nat) : Bool := x.1 != 65533 || x.2 == 3

set_option maxHeartbeats 2000000 in
theorem decodeN_w (n b0 b1 b2 b3 : Nat) (hn : 1 ≤ n) : 1 ≤ (Lib.decodeN n b0 b1 b2 b3).2 ∧ (Lib.decodeN n b0 b1 b2 b3).2 ≤ n ∧ (Lib.decodeN n b0 b1 b2 b3).2 ≤ 4 := by
  unfold Lib.decodeN
  repeat' split
  all_goals (simp only; omega)

set_option maxHeartbeats 2000000 in
theorem decodeN_r (n b0 b1 b2 b3 : Nat) : (Lib.decodeN n b0 b1 b2 b3).1 < 55296 ∨ (57344 ≤ (Lib.decodeN n b0 b1 b2 b3).1 ∧ (Lib.decodeN n b0 b1 b2 b3).1 ≤ 1114111) := by
  unfold Lib.decodeN
  repeat' split
  all_goals (simp only; omega)

set_option maxHeartbeats 8000000 in
theorem decodeN_take (n k b0 b1 b2 b3 : Nat) (hn : 1 ≤ n) (hk : (Lib.decodeN n b0 b1 b2 b3).2 ≤ k) (hk1 : 1 ≤ k) :
    Lib.decodeN (min k n) b0 (if 1 < k then b1 else 0) (if 2 < k then b2 else 0) (if 3 < k then b3 else 0) = Lib.decodeN n b0 b1 b2 b3 := by
  have c1 : (1 < min k n) = (1 < k ∧ 1 < n) := propext ⟨fun h => by omega, fun h => by omega⟩
  have c2 : (2 < min k n) = (2 < k ∧ 2 < n) := propext ⟨fun h => by omega, fun h => by omega⟩
  have c3 : (3 < min k n) = (3 < k ∧ 3 < n) := propext ⟨fun h => by omega, fun h => by omega⟩
  have hcase : k = 1 ∨ k = 2 ∨ k = 3 ∨ 4 ≤ k := by omega
  rcases hcase with h | h | h | h
  · subst h
    revert hk
    simp only [Lib.decodeN, c1, c2, c3, show ¬ (1 < 1) by omega, show ¬ (2 < 1) by omega, show ¬ (3 < 1) by omega, if_false, false_and, and_false, if_false]
    repeat' split
    all_goals (intro hk; first | rfl | (exfalso; simp only at hk; omega) | (exfalso; omega))
  · subst h
    revert hk
    simp only [Lib.decodeN, c1, c2, c3, show (1 < 2) by omega, show ¬ (2 < 2) by omega, show ¬ (3 < 2) by omega, if_true, true_and, if_false, false_and, and_false, if_false]
    repeat' split
    all_goals (intro hk; first | rfl | (exfalso; simp only at hk; omega) | (exfalso; omega))
  · subst h
    revert hk
    simp only [Lib.decodeN, c1, c2, c3, show (1 < 3) by omega, show (2 < 3) by omega, show ¬ (3 < 3) by omega, if_true, true_and, if_false, false_and, and_false, if_false]
    repeat' split
    all_goals (intro hk; first | rfl | (exfalso; simp only at hk; omega) | (exfalso; omega))
  · simp only [Lib.decodeN, c1, c2, c3, show 1 < k by omega, show 2 < k by omega, show 3 < k by omega, if_true, true_and]

set_option maxHeartbeats 8000000 in
theorem decodeN_more (n N b0 b1 b2 b3 c1 c2 c3 : Nat) (hn : 1 ≤ n) (hN : n ≤ N) (h1 : 1 < n → c1 = b1) (h2 : 2 < n → c2 = b2) (h3 : 3 < n → c3 = b3)
    (hg : (Lib.decodeN n b0 b1 b2 b3).1 ≠ 65533 ∨ (Lib.decodeN n b0 b1 b2 b3).2 = 3) : Lib.decodeN N b0 c1 c2 c3 = Lib.decodeN n b0 b1 b2 b3 := by
  have hcase : n = 1 ∨ n = 2 ∨ n = 3 ∨ 4 ≤ n := by omega
  rcases hcase with h | h | h | h
  · subst h
    revert hg
    simp only [Lib.decodeN, show ¬ (1 < 1) by omega, show ¬ (2 < 1) by omega, show ¬ (3 < 1) by omega, false_and, and_false, if_false]
    split
    · intro _; rfl
    · intro hg; exfalso; simp at hg
  · subst h
    obtain rfl := h1 (by omega)
    have e1 : 1 < N := by omega
    revert hg
    simp only [Lib.decodeN, e1, show (1 < 2) by omega, show ¬ (2 < 2) by omega, show ¬ (3 < 2) by omega, true_and, false_and, and_false, if_false]
    split
    · intro _; rfl
    · split
      · intro _; rfl
      · intro hg; exfalso; simp at hg
  · subst h
    obtain rfl := h1 (by omega)
    obtain rfl := h2 (by omega)
    have e1 : 1 < N := by omega
    have e2 : 2 < N := by omega
    revert hg
    simp only [Lib.decodeN, e1, e2, show (1 < 3) by omega, show (2 < 3) by omega, show ¬ (3 < 3) by omega, true_and, false_and, and_false, if_false]
    split
    · intro _; rfl
    · split
      · intro _; rfl
      · split
        · intro _; rfl
        · intro hg; exfalso; simp at hg
  · obtain rfl := h1 (by omega)
    obtain rfl := h2 (by omega)
    obtain rfl := h3 (by omega)
    have e1 : 1 < N := by omega
    have e2 : 2 < N := by omega
    have e3 : 3 < N := by omega
    simp only [Lib.decodeN, e1, e2, e3, show 1 < n by omega, show 2 < n by omega, show 3 < n by omega]

theorem dcl_w (l : List UInt8) (h : l ≠ []) : 1 ≤ (dcl l).2 ∧ (dcl l).2 ≤ l.length ∧ (dcl l).2 ≤ 4 := decodeN_w _ _ _ _ _ (by cases l <;> simp_all)
theorem dcl_r (l : List UInt8) : (dcl l).1 < 55296 ∨ (57344 ≤ (dcl l).1 ∧ (dcl l).1 ≤ 1114111) := decodeN_r _ _ _ _ _

theorem byt_take (l : List UInt8) (k i : Nat) : byt (l.take k) i = if i < k then byt l i else 0 := by
  simp only [byt, List.getD, List.getElem?_take]
  split <;> simp

theorem dcl_take (l : List UInt8) (k : Nat) (h : l ≠ []) (hk : (dcl l).2 ≤ k) : dcl (l.take k) = dcl l := by
  have hw := dcl_w l h
  have := decodeN_take l.length k (byt l 0) (byt l 1) (byt l 2) (byt l 3) (by omega) hk (by omega)
  unfold dcl
  rw [← this, List.length_take, byt_take, byt_take, byt_take, byt_take, if_pos (show 0 < k by omega)]

theorem fine_iff (x : Nat × Nat) : fine x = true ↔ (x.1 ≠ 65533 ∨ x.2 = 3) := by simp [fine]

theorem byt_append (l m : List UInt8) (i : Nat) (h : i < l.length) : byt (l ++ m) i = byt l i := by
  simp [byt, List.getD, List.getElem?_append_left h]

theorem dcl_append (l m : List UInt8) (h : l ≠ []) (hf : fine (dcl l) = true) : dcl (l ++ m) = dcl l := by
  have hw := dcl_w l h
  have h0 : byt (l ++ m) 0 = byt l 0 := byt_append l m 0 (by omega)
  have := decodeN_more l.length (l ++ m).length (byt l 0) (byt l 1) (byt l 2) (byt l 3) (byt (l ++ m) 1) (byt (l ++ m) 2) (byt (l ++ m) 3) (by omega) (by simp) (fun h => byt_append l m 1 h) (fun h => byt_append l m 2 h) (fun h => byt_append l m 3 h) ((fine_iff _).1 hf)
  unfold dcl
  rw [h0, this]

/-! ### all runes of a text -/
def rnsF : Nat → List UInt8 → List (Nat × Nat)
  | 0, _ => []
  | f + 1, l => if l = [] then [] else dcl l :: rnsF f (l.drop (dcl l).2)
def rns (l : List UInt8) : List (Nat × Nat) := rnsF l.length l

theorem rnsF_enough (f : Nat) : ∀ g (l : List UInt8), l.length ≤ f → l.length ≤ g → rnsF f l = rnsF g l := by
  induction f with
  | zero => intro g l h _; have : l = [] := by cases l <;> simp_all
            subst this; cases g <;> simp [rnsF]
  | succ f ih =>
    intro g l h hg
    by_cases hl : l = []
    · subst hl; cases g <;> simp [rnsF]
    · have hw := dcl_w l hl
      cases g with
      | zero => exfalso; omega
      | succ g =>
        simp only [rnsF, if_neg hl]
        rw [ih g (l.drop (dcl l).2) (by simp; omega) (by simp; omega)]

@[simp] theorem rns_nil : rns [] = [] := rfl
theorem rns_cons (l : List UInt8) (h : l ≠ []) : rns l = dcl l :: rns (l.drop (dcl l).2) := by
  have hw := dcl_w l h
  obtain ⟨k, hk⟩ : ∃ k, l.length = k + 1 := ⟨l.length - 1, by omega⟩
  unfold rns
  rw [hk]
  simp only [rnsF, if_neg h]
  rw [rnsF_enough k (l.drop (dcl l).2).length _ (by simp; omega) (by simp)]

theorem rns_ind {P : List UInt8 → Prop} (h0 : P []) (h1 : ∀ l, l ≠ [] → P (l.drop (dcl l).2) → P l) (l : List UInt8) : P l := by
  suffices ∀ n (l : List UInt8), l.length ≤ n → P l from this _ l (Nat.le_refl _)
  intro n
  induction n with
  | zero => intro l h; have : l = [] := by cases l <;> simp_all
            subst this; exact h0
  | succ n ih =>
    intro l h
    by_cases hl : l = []
    · subst hl; exact h0
    · have hw := dcl_w l hl
      exact h1 l hl (ih _ (by simp; omega))

theorem rns_eq_nil (l : List UInt8) : rns l = [] ↔ l = [] := by
  by_cases h : l = []
  · simp [h]
  · rw [rns_cons l h]; simp [h]

def wsum (x : List (Nat × Nat)) : Nat := (x.map (·.2)).sum
@[simp] theorem wsum_nil : wsum [] = 0 := rfl
@[simp] theorem wsum_cons (a : Nat × Nat) (x : List (Nat × Nat)) : wsum (a :: x) = a.2 + wsum x := by simp [wsum]
@[simp] theorem wsum_append (x y : List (Nat × Nat)) : wsum (x ++ y) = wsum x + wsum y := by simp [wsum]

theorem wsum_rns (l : List UInt8) : wsum (rns l) = l.length := by
  induction l using rns_ind with
  | h0 => rfl
  | h1 l h ih => rw [rns_cons l h, wsum_cons, ih]; have := dcl_w l h; rw [List.length_drop]; omega

theorem rns_len (l : List UInt8) : (rns l).length ≤ l.length := by
  induction l using rns_ind with
  | h0 => simp
  | h1 l h ih => rw [rns_cons l h]; have := dcl_w l h; rw [List.length_drop] at ih; rw [List.length_cons]; omega

theorem rns_valid (l : List UInt8) : ∀ x ∈ rns l, x.1 < 55296 ∨ (57344 ≤ x.1 ∧ x.1 ≤ 1114111) := by
  induction l using rns_ind with
  | h0 => simp
  | h1 l h ih =>
    rw [rns_cons l h]; intro x hx
    rcases List.mem_cons.1 hx with rfl | hx
    · exact dcl_r l
    · exact ih x hx

def cnt (l : List UInt8) : Nat := (rns l).length
def vld (l : List UInt8) : Bool := (rns l).all fine
/-- where the first k runes end -/
def cutP (k : Nat) (l : List UInt8) : Nat := wsum ((rns l).take k)
@[simp] theorem cutP_zero (l : List UInt8) : cutP 0 l = 0 := by simp [cutP]
@[simp] theorem cutP_nil (k : Nat) : cutP k [] = 0 := by simp [cutP]
theorem cutP_succ (k : Nat) (l : List UInt8) (h : l ≠ []) : cutP (k + 1) l = (dcl l).2 + cutP k (l.drop (dcl l).2) := by
  simp [cutP, rns_cons l h]
theorem cutP_le (k : Nat) (l : List UInt8) : cutP k l ≤ l.length := by
  have := wsum_rns l
  have e : rns l = (rns l).take k ++ (rns l).drop k := (List.take_append_drop _ _).symm
  rw [e, wsum_append] at this
  unfold cutP; omega

theorem rns_take (k : Nat) (l : List UInt8) : rns (l.take (cutP k l)) = (rns l).take k := by
  induction l using rns_ind generalizing k with
  | h0 => simp
  | h1 l h ih =>
    cases k with
    | zero => simp
    | succ k =>
      have hw := dcl_w l h
      rw [cutP_succ k l h, rns_cons l h, List.take_succ_cons, ← ih k]
      have hne : l.take ((dcl l).2 + cutP k (l.drop (dcl l).2)) ≠ [] := by
        intro e; have := congrArg List.length e; rw [List.length_take, List.length_nil] at this; omega
      rw [rns_cons _ hne, dcl_take l _ h (by omega), List.drop_take]
      congr 2
      rw [Nat.add_sub_cancel_left]

theorem rns_drop (k : Nat) (l : List UInt8) : rns (l.drop (cutP k l)) = (rns l).drop k := by
  induction l using rns_ind generalizing k with
  | h0 => simp
  | h1 l h ih =>
    cases k with
    | zero => simp
    | succ k =>
      rw [cutP_succ k l h, rns_cons l h, List.drop_succ_cons, ← ih k, List.drop_drop]

theorem rns_append (l m : List UInt8) (h : vld l = true) : rns (l ++ m) = rns l ++ rns m := by
  induction l using rns_ind with
  | h0 => simp
  | h1 l hl ih =>
    have hw := dcl_w l hl
    unfold vld at h ih
    rw [rns_cons l hl, List.all_cons, Bool.and_eq_true] at h
    rw [rns_cons l hl, rns_cons (l ++ m) (by simp [hl]), dcl_append l m hl h.1, List.cons_append, ← ih h.2, List.drop_append_of_le_length hw.2.1]

/-! ### encoding -/
def rok (r : Nat) : Prop := r < 55296 ∨ (57344 ≤ r ∧ r ≤ 1114111)

theorem byt_cons0 (a : UInt8) (l : List UInt8) : byt (a :: l) 0 = a.toNat := rfl
theorem byt_cons (a : UInt8) (l : List UInt8) (i : Nat) : byt (a :: l) (i + 1) = byt l i := rfl

theorem u8n (n : Nat) (h : n < 256) : (n.toUInt8).toNat = n := by simp [Nat.toUInt8]; omega
def enc (r : Nat) : List UInt8 := Lib.encodeRune (r : Int)

set_option maxHeartbeats 4000000 in
theorem dcl_encode (r : Nat) (m : List UInt8) (h : rok r) : dcl (enc r ++ m) = (r, (enc r).length) := by
  unfold enc
  unfold rok at h
  have hcase : r ≤ 127 ∨ (128 ≤ r ∧ r ≤ 2047) ∨ (2048 ≤ r ∧ r ≤ 65535) ∨ (65536 ≤ r ∧ r ≤ 1114111) := by omega
  rcases hcase with h1 | h1 | h1 | h1
  · have e : Lib.encodeRuneZ (r : Int) = [(r : Int)] := Lib.encodeRuneZ_one (by omega) (by omega)
    have e2 : Lib.encodeRune (r : Int) = [r.toUInt8] := by simp [Lib.encodeRune, e]
    rw [e2, List.cons_append, List.nil_append]; unfold dcl
    rw [byt_cons0]; unfold Lib.decodeN
    rw [u8n r (by omega), if_pos (by omega)]; rfl
  · have e : Lib.encodeRuneZ (r : Int) = [192 + (r : Int) / 64, 128 + (r : Int) % 64] := Lib.encodeRuneZ_two (by omega) (by omega)
    have e2 : Lib.encodeRune (r : Int) = [(192 + r / 64).toUInt8, (128 + r % 64).toUInt8] := by
      simp only [Lib.encodeRune, e, List.map]
      rw [show ((192 : Int) + (r : Int) / 64).toNat = 192 + r / 64 by omega, show ((128 : Int) + (r : Int) % 64).toNat = 128 + r % 64 by omega]
    rw [e2]
    simp only [dcl, List.cons_append, List.nil_append, byt_cons0, byt_cons _ _ 0, List.length_cons, Lib.decodeN]
    rw [u8n (192 + r / 64) (by omega), u8n (128 + r % 64) (by omega), if_neg (by omega), if_pos (by omega), if_pos (by omega)]
    apply Prod.ext <;> simp only [List.length_nil] <;> omega
  · have e : Lib.encodeRuneZ (r : Int) = [224 + (r : Int) / 4096, 128 + (r : Int) / 64 % 64, 128 + (r : Int) % 64] := Lib.encodeRuneZ_three (by omega)
    have e2 : Lib.encodeRune (r : Int) = [(224 + r / 4096).toUInt8, (128 + r / 64 % 64).toUInt8, (128 + r % 64).toUInt8] := by
      simp only [Lib.encodeRune, e, List.map]
      rw [show ((224 : Int) + (r : Int) / 4096).toNat = 224 + r / 4096 by omega, show ((128 : Int) + (r : Int) / 64 % 64).toNat = 128 + r / 64 % 64 by omega, show ((128 : Int) + (r : Int) % 64).toNat = 128 + r % 64 by omega]
    rw [e2]
    simp only [dcl, List.cons_append, List.nil_append, byt_cons0, byt_cons _ _ 0, byt_cons _ _ 1, List.length_cons, Lib.decodeN]
    rw [u8n (224 + r / 4096) (by omega), u8n (128 + r / 64 % 64) (by omega), u8n (128 + r % 64) (by omega), if_neg (by omega), if_neg (by omega), if_pos (by omega), if_pos (by omega)]
    apply Prod.ext <;> simp only [List.length_nil] <;> omega
  · have e : Lib.encodeRuneZ (r : Int) = [240 + (r : Int) / 262144, 128 + (r : Int) / 4096 % 64, 128 + (r : Int) / 64 % 64, 128 + (r : Int) % 64] := Lib.encodeRuneZ_four (by omega) (by omega)
    have e2 : Lib.encodeRune (r : Int) = [(240 + r / 262144).toUInt8, (128 + r / 4096 % 64).toUInt8, (128 + r / 64 % 64).toUInt8, (128 + r % 64).toUInt8] := by
      simp only [Lib.encodeRune, e, List.map]
      rw [show ((240 : Int) + (r : Int) / 262144).toNat = 240 + r / 262144 by omega, show ((128 : Int) + (r : Int) / 4096 % 64).toNat = 128 + r / 4096 % 64 by omega, show ((128 : Int) + (r : Int) / 64 % 64).toNat = 128 + r / 64 % 64 by omega, show ((128 : Int) + (r : Int) % 64).toNat = 128 + r % 64 by omega]
    rw [e2]
    simp only [dcl, List.cons_append, List.nil_append, byt_cons0, byt_cons _ _ 0, byt_cons _ _ 1, byt_cons _ _ 2, List.length_cons, Lib.decodeN]
    rw [u8n (240 + r / 262144) (by omega), u8n (128 + r / 4096 % 64) (by omega), u8n (128 + r / 64 % 64) (by omega), u8n (128 + r % 64) (by omega), if_neg (by omega), if_neg (by omega), if_neg (by omega), if_pos (by omega), if_pos (by omega)]
    apply Prod.ext <;> simp only [List.length_nil] <;> omega

theorem enc_w (r : Nat) : 1 ≤ (enc r).length ∧ (enc r).length ≤ 4 := by
  have := Lib.runeCells_le (r : Int); rw [Lib.runeCells_length] at this; exact this
theorem enc_ne (r : Nat) : enc r ≠ [] := by
  have := enc_w r
  intro e; rw [e] at this; simp at this

def encs (x : List Nat) : List UInt8 := x.flatMap enc
theorem rns_encs (x : List Nat) (h : ∀ r ∈ x, rok r) : rns (encs x) = x.map fun r => (r, (enc r).length) := by
  induction x with
  | nil => rfl
  | cons a x ih =>
    have ha := h a (by simp)
    show rns (enc a ++ encs x) = _
    rw [rns_cons _ (by simp [enc_ne]), dcl_encode a _ ha]
    simp only [List.drop_left, List.map_cons]
    rw [ih (fun r hr => h r (by simp [hr]))]

theorem enc_len3 (r : Nat) (h : r = 65533) : (enc r).length = 3 := by subst h; rfl
theorem fine_enc (r : Nat) : fine (r, (enc r).length) = true := by
  rw [fine_iff]
  by_cases h : r = 65533
  · exact .inr (enc_len3 r h)
  · exact .inl h
theorem vld_encs (x : List Nat) (h : ∀ r ∈ x, rok r) : vld (encs x) = true := by
  unfold vld; rw [rns_encs x h, List.all_map, List.all_eq_true]; intro r _; exact fine_enc r

/-! ### small letters -/
def low (r : Nat) : Nat := if (65 ≤ r ∧ r ≤ 90) ∨ (192 ≤ r ∧ r ≤ 222 ∧ r ≠ 215) ∨ (913 ≤ r ∧ r ≤ 937 ∧ r ≠ 930) ∨ (1040 ≤ r ∧ r ≤ 1071) then r + 32 else r
theorem low_ok (r : Nat) (h : rok r) : rok (low r) := by unfold low rok at *; split <;> omega
theorem low_low (r : Nat) : low (low r) = low r := by
  have e : ∀ x, low x = x ∨ (low x = x + 32) := by intro x; unfold low; split <;> simp
  unfold low; split
  · rw [if_neg (by omega)]
  · rfl
theorem low_ge (r : Nat) : (32 ≤ low r ∧ low r ≠ 127) ↔ (32 ≤ r ∧ r ≠ 127) := by unfold low; split <;> omega

def fld (l : List UInt8) : List UInt8 := encs ((rns l).map fun x => low x.1)
theorem fld_ok (l : List UInt8) : ∀ r ∈ (rns l).map (fun x => low x.1), rok r := by
  intro r hr
  obtain ⟨x, hx, rfl⟩ := List.mem_map.1 hr
  exact low_ok _ (rns_valid l x hx)
theorem rns_fld (l : List UInt8) : rns (fld l) = (rns l).map fun x => (low x.1, (enc (low x.1)).length) := by
  unfold fld; rw [rns_encs _ (fld_ok l), List.map_map]; rfl
theorem vld_fld (l : List UInt8) : vld (fld l) = true := vld_encs _ (fld_ok l)
theorem cnt_fld (l : List UInt8) : cnt (fld l) = cnt l := by simp [cnt, rns_fld]
theorem fld_fld (l : List UInt8) : fld (fld l) = fld l := by
  unfold fld; rw [show rns (encs ((rns l).map fun x => low x.1)) = _ from rns_fld l, List.map_map]
  congr 1
  apply List.map_congr_left; intro x _; simp [low_low]
theorem fld_append (l m : List UInt8) (h : vld l = true) : fld (l ++ m) = fld l ++ fld m := by
  unfold fld; rw [rns_append l m h, List.map_append]; unfold encs; rw [List.flatMap_append]

/-! ### keys -/
def okr (x : Nat × Nat) : Bool := fine x && decide (32 ≤ x.1) && x.1 != 127
def key (l : List UInt8) : Bool := decide (1 ≤ (rns l).length) && decide ((rns l).length ≤ 40) && (rns l).all okr
theorem key_fld (l : List UInt8) (h : key l = true) : key (fld l) = true := by
  unfold key at *
  rw [rns_fld, List.length_map]
  simp only [Bool.and_eq_true] at h ⊢
  refine ⟨h.1, ?_⟩
  rw [List.all_map, List.all_eq_true]
  intro x hx
  have := List.all_eq_true.1 h.2 x hx
  simp only [okr, Bool.and_eq_true, decide_eq_true_eq, bne_iff_ne] at this
  have hl := (low_ge x.1).2 ⟨this.1.2, this.2⟩
  simp only [Function.comp, okr, Bool.and_eq_true, decide_eq_true_eq, bne_iff_ne, fine_enc, true_and]
  exact hl
theorem key_vld (l : List UInt8) (h : key l = true) : vld l = true := by
  unfold key at h; unfold vld
  simp only [Bool.and_eq_true] at h
  rw [List.all_eq_true]; intro x hx
  have := List.all_eq_true.1 h.2 x hx
  simp only [okr, Bool.and_eq_true] at this
  exact this.1.1

/-! ### a stray byte -/
theorem dcl_bad (c : UInt8) (m : List UInt8) (h : 248 ≤ c.toNat) : dcl (c :: m) = (65533, 1) := by
  have hc := c.toNat_lt
  unfold dcl
  rw [byt_cons0]; unfold Lib.decodeN
  rw [if_neg (by omega), if_neg (by omega), if_neg (by omega), if_neg (by omega)]
theorem rns_bad (a b : List UInt8) (c : UInt8) (ha : vld a = true) (h : 248 ≤ c.toNat) : rns (a ++ [c] ++ b) = rns a ++ (65533, 1) :: rns b := by
  rw [List.append_assoc, rns_append a _ ha]
  congr 1
  show rns (c :: b) = _
  rw [rns_cons _ (by simp), dcl_bad c b h]; rfl

set_option maxHeartbeats 4000000 in
theorem decodeN_fffd (n b0 b1 b2 b3 : Nat) (h0 : b0 < 256) (h1 : b1 < 256) (h2 : b2 < 256) (hr : (Lib.decodeN n b0 b1 b2 b3).1 = 65533) : (Lib.decodeN n b0 b1 b2 b3).2 = 3 ↔ (2 < n ∧ b0 = 239 ∧ b1 = 191 ∧ b2 = 189) := by
  revert hr
  unfold Lib.decodeN
  repeat' split
  all_goals (intro hr; omega)

theorem pre3 (l : List UInt8) : (l.take 3 = [239, 191, 189]) ↔ (2 < l.length ∧ byt l 0 = 239 ∧ byt l 1 = 191 ∧ byt l 2 = 189) := by
  constructor
  · intro h
    have hl : 2 < l.length := by have := congrArg List.length h; simp at this; omega
    have e : ∀ i, i < 3 → byt l i = byt (l.take 3) i := by intro i hi; rw [byt_take, if_pos hi]
    rw [e 0 (by omega), e 1 (by omega), e 2 (by omega), h]
    exact ⟨hl, rfl, rfl, rfl⟩
  · rintro ⟨hl, h0, h1, h2⟩
    match l, hl with
    | a :: b :: c :: t, _ =>
      simp only [byt_cons0, byt_cons _ _ 0, byt_cons _ _ 1] at h0 h1 h2
      simp only [List.take_succ_cons, List.take_zero]
      rw [show a = 239 from UInt8.toNat_inj.1 h0, show b = 191 from UInt8.toNat_inj.1 h1, show c = 189 from UInt8.toNat_inj.1 h2]

theorem fine_pre (l : List UInt8) (h : l ≠ []) (hr : (dcl l).1 = 65533) : fine (dcl l) = decide (l.take 3 = [239, 191, 189]) := by
  have := decodeN_fffd l.length (byt l 0) (byt l 1) (byt l 2) (byt l 3) (byt_lt _ _) (byt_lt _ _) (byt_lt _ _) hr
  rw [Bool.eq_iff_iff, decide_eq_true_eq, pre3, ← this, fine_iff]
  constructor
  · rintro (h | h)
    · exact absurd hr h
    · exact h
  · exact .inr

/-! ### order -/
def cmpR : List Nat → List Nat → Bool → Bool
  | [], [], t => t
  | [], _ :: _, _ => true
  | _ :: _, [], _ => false
  | p :: x, q :: y, t => if p = q then cmpR x y t else decide (p < q)

theorem cmpR_total (x : List Nat) : ∀ y t u, (x ≠ y ∨ (t || u) = true) → (cmpR x y t || cmpR y x u) = true := by
  induction x with
  | nil => intro y t u h; cases y <;> simp_all [cmpR]
  | cons p x ih =>
    intro y t u h
    cases y with
    | nil => simp [cmpR]
    | cons q y =>
      simp only [cmpR]
      by_cases e : p = q
      · subst e; rw [if_pos rfl, if_pos rfl]; apply ih
        rcases h with h | h
        · exact .inl fun e => h (by rw [e])
        · exact .inr h
      · rw [if_neg e, if_neg (Ne.symm e)]; simp; omega
theorem cmpR_asym (x : List Nat) : ∀ y t u, (t && u) = false → (cmpR x y t && cmpR y x u) = false := by
  induction x with
  | nil => intro y t u h; cases y <;> simp_all [cmpR]
  | cons p x ih =>
    intro y t u h
    cases y with
    | nil => simp [cmpR]
    | cons q y =>
      simp only [cmpR]
      by_cases e : p = q
      · subst e; rw [if_pos rfl, if_pos rfl]; exact ih y t u h
      · rw [if_neg e, if_neg (Ne.symm e)]; simp; omega
theorem cmpR_trans (x : List Nat) : ∀ y z t u v, (t = true → u = true → v = true) → cmpR x y t = true → cmpR y z u = true → cmpR x z v = true := by
  induction x with
  | nil => intro y z t u v h h1 h2; cases y <;> cases z <;> simp_all [cmpR]
  | cons p x ih =>
    intro y z t u v h h1 h2
    cases y with
    | nil => simp [cmpR] at h1
    | cons q y =>
      cases z with
      | nil => simp [cmpR] at h2
      | cons s z =>
        simp only [cmpR] at h1 h2 ⊢
        by_cases e : p = q
        · subst e; rw [if_pos rfl] at h1
          by_cases e2 : p = s
          · subst e2; rw [if_pos rfl] at h2 ⊢; exact ih y z t u v h h1 h2
          · rw [if_neg e2] at h2 ⊢; exact h2
        · rw [if_neg e] at h1
          have := of_decide_eq_true h1
          by_cases e2 : q = s
          · subst e2; rw [if_neg (by omega)]; exact h1
          · rw [if_neg e2] at h2; have := of_decide_eq_true h2
            rw [if_neg (by omega)]; simp; omega

def runs (l : List UInt8) : List Nat := (rns l).map (·.1)
def les (a b : List UInt8) : Bool := cmpR (runs a) (runs b) (Op.bytesLess a b)

theorem bl_irrefl (a : List UInt8) : Op.bytesLess a a = false := by
  induction a with
  | nil => rfl
  | cons x a ih => simp [Op.bytesLess, ih]
theorem bl_cons (x y : UInt8) (a b : List UInt8) : Op.bytesLess (x :: a) (y :: b) = if x.toNat = y.toNat then Op.bytesLess a b else decide (x.toNat < y.toNat) := by
  have h1 : (x < y) = (x.toNat < y.toNat) := by rw [UInt8.lt_iff_toNat_lt]
  have h2 : (x == y) = decide (x.toNat = y.toNat) := by
    rw [Bool.eq_iff_iff, beq_iff_eq, decide_eq_true_eq, UInt8.toNat_inj]
  simp only [Op.bytesLess, h1, h2]
  split
  · rename_i h; simp [h]
  · rename_i h; simp [h]
theorem bl_asym (a : List UInt8) : ∀ b, (Op.bytesLess a b && Op.bytesLess b a) = false := by
  induction a with
  | nil => intro b; cases b <;> rfl
  | cons x a ih =>
    intro b
    cases b with
    | nil => rfl
    | cons y b =>
      rw [bl_cons, bl_cons]
      by_cases e : x.toNat = y.toNat
      · rw [if_pos e, if_pos e.symm]; exact ih b
      · rw [if_neg e, if_neg (Ne.symm e)]; simp; omega
theorem bl_total (a : List UInt8) : ∀ b, a ≠ b → (Op.bytesLess a b || Op.bytesLess b a) = true := by
  induction a with
  | nil => intro b h; cases b <;> simp_all [Op.bytesLess]
  | cons x a ih =>
    intro b h
    cases b with
    | nil => simp [Op.bytesLess]
    | cons y b =>
      rw [bl_cons, bl_cons]
      by_cases e : x.toNat = y.toNat
      · rw [if_pos e, if_pos e.symm]
        exact ih b fun e2 => h (by rw [e2, UInt8.toNat_inj.1 e])
      · rw [if_neg e, if_neg (Ne.symm e)]; simp; omega
theorem bl_trans (a : List UInt8) : ∀ b c, Op.bytesLess a b = true → Op.bytesLess b c = true → Op.bytesLess a c = true := by
  induction a with
  | nil => intro b c h1 h2; cases b <;> cases c <;> simp_all [Op.bytesLess]
  | cons x a ih =>
    intro b c h1 h2
    cases b with
    | nil => simp [Op.bytesLess] at h1
    | cons y b =>
      cases c with
      | nil => simp [Op.bytesLess] at h2
      | cons z c =>
        rw [bl_cons] at h1 h2 ⊢
        by_cases e : x.toNat = y.toNat
        · rw [if_pos e] at h1
          by_cases e2 : y.toNat = z.toNat
          · rw [if_pos e2] at h2; rw [if_pos (e.trans e2)]; exact ih b c h1 h2
          · rw [if_neg e2] at h2; rw [if_neg (by omega)]; rw [e]; exact h2
        · rw [if_neg e] at h1
          have := of_decide_eq_true h1
          by_cases e2 : y.toNat = z.toNat
          · rw [if_neg (by omega), ← e2]; exact h1
          · rw [if_neg e2] at h2; have := of_decide_eq_true h2
            rw [if_neg (by omega)]; simp; omega

theorem les_asym (a b : List UInt8) : (les a b && les b a) = false := cmpR_asym _ _ _ _ (bl_asym a b)
theorem les_trans (a b c : List UInt8) (h1 : les a b = true) (h2 : les b c = true) : les a c = true := cmpR_trans _ _ _ _ _ _ (bl_trans a b c) h1 h2
theorem les_total (a b : List UInt8) (h : a ≠ b) : (les a b || les b a) = true := cmpR_total _ _ _ _ (.inr (bl_total a b h))
theorem cmpR_self (x : List Nat) (t : Bool) : cmpR x x t = t := by
  induction x with
  | nil => rfl
  | cons p x ih => simp [cmpR, ih]
theorem les_self (a : List UInt8) : les a a = false := by unfold les; rw [cmpR_self, bl_irrefl]
theorem cmpR_front (x y : List Nat) (t : Bool) (h : y ≠ []) : cmpR (x ++ y) x t = false := by
  induction x with
  | nil => cases y <;> simp_all [cmpR]
  | cons p x ih => simp [cmpR, ih]
theorem les_front (a b : List UInt8) (h : vld a = true) : les (a ++ b) a = false := by
  by_cases hb : b = []
  · subst hb; rw [List.append_nil, les_self]
  · unfold les runs
    rw [rns_append a b h, List.map_append]
    exact cmpR_front _ _ _ (by simpa [rns_eq_nil] using hb)
theorem les_eq (a b : List UInt8) : (les a b || les b a) = !(a == b) := by
  by_cases h : a = b
  · subst h; simp [les_self]
  · rw [les_total a b h]; simp [h]
theorem cut_front (a b : List UInt8) (h : vld a = true) : cutP (cnt a) (a ++ b) = a.length := by
  unfold cutP cnt; rw [rns_append a b h, List.take_left, wsum_rns]
theorem cnt_append (a b : List UInt8) (h : vld a = true) : cnt (a ++ b) = cnt a + cnt b := by
  unfold cnt; rw [rns_append a b h, List.length_append]
theorem vld_append (a b : List UInt8) (ha : vld a = true) (hb : vld b = true) : vld (a ++ b) = true := by
  unfold vld at *; rw [rns_append a b ha, List.all_append, ha, hb]; rfl
theorem cnt_cut (k : Nat) (l : List UInt8) : cnt (l.take (cutP k l)) = min k (cnt l) := by
  unfold cnt; rw [rns_take, List.length_take]
theorem cnt_rest (k : Nat) (l : List UInt8) : cnt (l.drop (cutP k l)) = cnt l - k := by
  unfold cnt; rw [rns_drop, List.length_drop]
theorem encs_replicate (n : Nat) (r : Nat) : encs (List.replicate (n + 1) r) = encs (List.replicate n r) ++ enc r := by
  unfold encs; rw [List.replicate_succ', List.flatMap_append]; simp
theorem rns_rep (n r : Nat) (h : rok r) : rns (encs (List.replicate n r)) = List.replicate n (r, (enc r).length) := by
  rw [rns_encs _ (by intro x hx; rw [List.eq_of_mem_replicate hx]; exact h), List.map_replicate]
theorem key_rep (n r : Nat) (h : rok r) (h1 : 32 ≤ r) (h2 : r ≠ 127) : key (encs (List.replicate n r)) = (decide (1 ≤ n) && decide (n ≤ 40)) := by
  unfold key; rw [rns_rep n r h, List.length_replicate]
  have : (List.replicate n (r, (enc r).length)).all okr = true := by
    rw [List.all_eq_true]; intro x hx; rw [List.eq_of_mem_replicate hx]
    simp only [okr, Bool.and_eq_true, decide_eq_true_eq, bne_iff_ne]
    exact ⟨⟨fine_enc r, h1⟩, h2⟩
  rw [this, Bool.and_true]
theorem cnt_rep (n r : Nat) (h : rok r) : cnt (encs (List.replicate n r)) = n := by unfold cnt; rw [rns_rep n r h, List.length_replicate]
theorem dcl_enc (r : Nat) (h : rok r) : dcl (enc r) = (r, (enc r).length) := by
  have := dcl_encode r [] h; rwa [List.append_nil] at this
theorem vld_bad (a b : List UInt8) (c : UInt8) (ha : vld a = true) (h : 248 ≤ c.toNat) : vld (a ++ [c] ++ b) = false := by
  unfold vld; rw [rns_bad a b c ha h, List.all_append, List.all_cons]; simp [fine]
theorem key_bad (a b : List UInt8) (c : UInt8) (ha : vld a = true) (h : 248 ≤ c.toNat) : key (a ++ [c] ++ b) = false := by
  cases hk : key (a ++ [c] ++ b)
  · rfl
  · have := key_vld _ hk; rw [vld_bad a b c ha h] at this; cases this
theorem cnt_bad (a b : List UInt8) (c : UInt8) (ha : vld a = true) (h : 248 ≤ c.toNat) : cnt (a ++ [c] ++ b) = cnt a + 1 + cnt b := by
  unfold cnt; rw [rns_bad a b c ha h]; simp; omega
theorem fld_bad (a b : List UInt8) (c : UInt8) (ha : vld a = true) (h : 248 ≤ c.toNat) : fld (a ++ [c] ++ b) = fld a ++ [239, 191, 189] ++ fld b := by
  unfold fld; rw [rns_bad a b c ha h, List.map_append, List.map_cons]
  unfold encs; rw [List.flatMap_append, List.flatMap_cons]
  have : enc (low 65533) = [239, 191, 189] := by decide
  rw [this]; simp
theorem fld_len (l : List UInt8) : (fld l).length ≤ 4 * l.length := by
  have h : ∀ x : List Nat, (encs x).length ≤ 4 * x.length := by
    intro x; induction x with
    | nil => simp [encs]
    | cons a x ih => have := enc_w a; simp only [encs, List.flatMap_cons, List.length_append, List.length_cons] at *; omega
  have h1 := h ((rns l).map fun x => low x.1)
  have h2 := rns_len l
  rw [List.length_map] at h1
  unfold fld; omega
end Go.Proofs.Ytoekiencnbgmhaa.Ru
/-
  Plain facts on texts, runes, values and worlds that the walks of the functions use; no program is named.
-/
set_option linter.unusedSimpArgs false
set_option linter.unusedVariables false
namespace Go.Proofs.Ytoekiencnbgmhaa
open Go.RowKit
set_option maxRecDepth 100000

def lowZ (r : Int) : Int := if (65 ≤ r ∧ r ≤ 90) ∨ (192 ≤ r ∧ r ≤ 222 ∧ r ≠ 215) ∨ (913 ≤ r ∧ r ≤ 937 ∧ r ≠ 930) ∨ (1040 ≤ r ∧ r ≤ 1071) then r + 32 else r

theorem low_split (a r : Int) (h : ((65 ≤ r ∧ r ≤ 90) ∨ (192 ≤ r ∧ r ≤ 222 ∧ r ≠ 215) ∨ (913 ≤ r ∧ r ≤ 937 ∧ r ≠ 930) ∨ (1040 ≤ r ∧ r ≤ 1071)) ∧ a = r + 32 ∨ ¬ ((65 ≤ r ∧ r ≤ 90) ∨ (192 ≤ r ∧ r ≤ 222 ∧ r ≠ 215) ∨ (913 ≤ r ∧ r ≤ 937 ∧ r ≠ 930) ∨ (1040 ≤ r ∧ r ≤ 1071)) ∧ a = r) : a = lowZ r := by
  unfold lowZ; rcases h with ⟨h, e⟩ | ⟨h, e⟩
  · rw [if_pos h, e]
  · rw [if_neg h, e]

theorem ret_i32 {a b : Int} (h : a = b) : Ending.returned (.int .i32 a) = .returned (.int .i32 b) := by rw [h]

theorem ofNat_u8 (a : Nat) (b : Int) (h : b.toNat = a) : UInt8.ofNat a = b.toNat.toUInt8 := by rw [h]

theorem enc_str (r : Int) : Utf8.encode r = ⟨(Lib.encodeRune r).toArray⟩ := by
  have hv : Utf8.valid r = decide ((0 ≤ r ∧ r < 55296) ∨ (57343 < r ∧ r ≤ 1114111)) := validRune_eq r
  have hcase : (0 ≤ r ∧ r ≤ 127) ∨ (128 ≤ r ∧ r ≤ 2047) ∨ ((2048 ≤ r ∧ r < 55296) ∨ (57343 < r ∧ r ≤ 65535)) ∨ (65536 ≤ r ∧ r ≤ 1114111) ∨ (r < 0 ∨ (55296 ≤ r ∧ r ≤ 57343) ∨ 1114111 < r) := by omega
  unfold Utf8.encode
  rcases hcase with h | h | h | h | h
  · have e : Lib.encodeRuneZ r = [r] := Lib.encodeRuneZ_one h.1 h.2
    rw [hv, decide_eq_true (by omega)]
    simp only [if_true, Lib.encodeRune, e, List.map]
    rw [if_pos (by omega)]
  · have e : Lib.encodeRuneZ r = [192 + r / 64, 128 + r % 64] := Lib.encodeRuneZ_two h.1 h.2
    rw [hv, decide_eq_true (by omega)]
    simp only [if_true, Lib.encodeRune, e, List.map]
    rw [if_neg (by omega), if_pos (by omega)]
    rw [ofNat_u8 (192 + r.toNat / 64) (192 + r / 64) (by omega), ofNat_u8 (128 + r.toNat % 64) (128 + r % 64) (by omega)]
  · have e : Lib.encodeRuneZ r = [224 + r / 4096, 128 + r / 64 % 64, 128 + r % 64] := Lib.encodeRuneZ_three h
    rw [hv, decide_eq_true (by omega)]
    simp only [if_true, Lib.encodeRune, e, List.map]
    rw [if_neg (by omega), if_neg (by omega), if_pos (by omega)]
    rw [ofNat_u8 (224 + r.toNat / 4096) (224 + r / 4096) (by omega), ofNat_u8 (128 + r.toNat / 64 % 64) (128 + r / 64 % 64) (by omega), ofNat_u8 (128 + r.toNat % 64) (128 + r % 64) (by omega)]
  · have e : Lib.encodeRuneZ r = [240 + r / 262144, 128 + r / 4096 % 64, 128 + r / 64 % 64, 128 + r % 64] := Lib.encodeRuneZ_four h.1 h.2
    rw [hv, decide_eq_true (by omega)]
    simp only [if_true, Lib.encodeRune, e, List.map]
    rw [if_neg (by omega), if_neg (by omega), if_neg (by omega)]
    rw [ofNat_u8 (240 + r.toNat / 262144) (240 + r / 262144) (by omega), ofNat_u8 (128 + r.toNat / 4096 % 64) (128 + r / 4096 % 64) (by omega), ofNat_u8 (128 + r.toNat / 64 % 64) (128 + r / 64 % 64) (by omega), ofNat_u8 (128 + r.toNat % 64) (128 + r % 64) (by omega)]
  · have e : Lib.encodeRuneZ r = [239, 191, 189] := Lib.encodeRuneZ_bad h
    rw [hv, decide_eq_false (by omega)]
    simp only [Lib.encodeRune, e, Bool.false_eq_true, if_false]; decide

theorem nums_enc (xs : List Int) (r : Int) (h : Lib.encodeRuneZ r = xs) : Ending.returned (.string (strOfNums xs)) = .returned (.string ⟨(Lib.encodeRune r).toArray⟩) := by
  rw [← h]; rfl

theorem below_new (w : World) (o : Obj) : Below w.heap.size w (w.alloc o) := (Below.refl _ _).alloc (Nat.le_refl _) _

def Enc (r : Int) (w : World) (e : Ending) (w' : World) : Prop := e = .returned (.string ⟨(Lib.encodeRune r).toArray⟩) ∧ Below w.heap.size w w'

theorem width_pos (s : ByteArray) (pos : Nat) (h : pos < s.size) : 1 ≤ (Utf8.decode s pos).2 := by
  rw [Ru.decode_list]
  exact (Ru.dcl_w _ (by intro e; have := congrArg List.length e; simp at this; omega)).1

/-- the runes from place pos on -/
def rest (s : ByteArray) (pos : Nat) : List UInt8 := s.data.toList.drop pos

theorem rest_ne (s : ByteArray) (pos : Nat) (h : pos < s.size) : rest s pos ≠ [] := by
  intro e; have := congrArg List.length e; simp [rest] at this; omega

theorem rest_end (s : ByteArray) (pos : Nat) (h : ¬ pos < s.size) : rest s pos = [] := by
  unfold rest; apply List.drop_of_length_le; rw [Array.length_toList]; exact Nat.le_of_not_lt h

theorem rest_next (s : ByteArray) (pos : Nat) (h : pos < s.size) : Ru.rns (rest s pos) = Utf8.decode s pos :: Ru.rns (rest s (pos + (Utf8.decode s pos).2)) := by
  rw [Ru.rns_cons _ (rest_ne s pos h), Ru.decode_list]; unfold rest; rw [List.drop_drop]

theorem ret_i64 {a b : Int} (h : a = b) : Ending.returned (.int .i64 a) = .returned (.int .i64 b) := by rw [h]

/-- the first rune of a text and its width, as the program tells it -/
def decB (s : ByteArray) : Nat × Nat := if s.size = 0 then (65533, 0) else Utf8.decode s 0

def Dec (r : Nat × Nat) (w : World) (e : Ending) (w' : World) : Prop := e = .returned (.tuple #[.int .i32 r.1, .int .i64 r.2]) ∧ Below w.heap.size w w'

theorem decB_pos (s : ByteArray) (h : 0 < s.size) : decB s = Utf8.decode s 0 := by unfold decB; rw [if_neg (by omega)]

def Fst (s : ByteArray) (pos : Nat) (f : Int) : Prop := (pos = 0 ∧ f = 65533) ∨ (0 < s.size ∧ 0 < pos ∧ (pos : Int) = (Utf8.decode s 0).2 ∧ f = (Utf8.decode s 0).1)

theorem width_le (s : ByteArray) (pos : Nat) (h : pos < s.size) : pos + (Utf8.decode s pos).2 ≤ s.size := by
  have h1 := (Ru.dcl_w _ (rest_ne s pos h)).2.1
  rw [Ru.decode_list]
  have h2 : (rest s pos).length = s.size - pos := by simp [rest]
  unfold rest at *; omega

theorem dec_ret (s : ByteArray) (w w' : World) (a b : Int) (h : Below w.heap.size w w') (ha : a = (decB s).1) (hb : b = (decB s).2) : Dec (decB s) w (.returned (.tuple #[.int .i32 a, .int .i64 b])) w' := ⟨by rw [ha, hb], h⟩

def pre : ByteArray := ⟨#[239, 191, 189]⟩

theorem ext_list (s : ByteArray) (pos : Nat) : (s.extract pos s.size).data.toList = rest s pos := by
  rw [ByteArray.data_extract, Array.toList_extract]; unfold rest
  rw [List.extract_eq_take_drop, List.take_of_length_le]; simp

theorem pre_take (l : List UInt8) : Lib.hasPrefix l [239, 191, 189] = decide (l.take 3 = [239, 191, 189]) := by
  unfold Lib.hasPrefix
  rw [Bool.eq_iff_iff, List.isPrefixOf_iff_prefix, decide_eq_true_eq, List.prefix_iff_eq_take]
  exact eq_comm

theorem vld_next (s : ByteArray) (pos : Nat) (h : pos < s.size) : Ru.vld (rest s pos) = (Ru.fine (Utf8.decode s pos) && Ru.vld (rest s (pos + (Utf8.decode s pos).2))) := by
  unfold Ru.vld; rw [rest_next s pos h, List.all_cons]

theorem ret_bool {a b : Bool} (h : a = b) : Ending.returned (.bool a) = .returned (.bool b) := by rw [h]

theorem cutP_next (s : ByteArray) (pos k : Nat) (h : pos < s.size) : Ru.cutP (k + 1) (rest s pos) = (Utf8.decode s pos).2 + Ru.cutP k (rest s (pos + (Utf8.decode s pos).2)) := by
  rw [Ru.cutP_succ k _ (rest_ne s pos h), Ru.decode_list]; unfold rest; rw [List.drop_drop]

def cutB (s : ByteArray) (n : Int) : ByteArray := s.extract 0 (Ru.cutP n.toNat s.data.toList)

def Str (t : ByteArray) (w : World) (e : Ending) (w' : World) : Prop := e = .returned (.string t) ∧ Below w.heap.size w w'

theorem str_ret {t u : ByteArray} {w w' : World} (h : t = u) (hb : Below w.heap.size w w') : Str u w (.returned (.string t)) w' := ⟨by rw [h], hb⟩

def KeyRest (k : Nat) (l : List UInt8) : Bool := decide (k + (Ru.rns l).length ≤ 40) && (Ru.rns l).all Ru.okr

theorem keyRest_stop (s : ByteArray) (pos k : Nat) (hp : pos < s.size) (h : 40 < k + 1 ∨ Ru.okr (Utf8.decode s pos) = false) : KeyRest k (rest s pos) = false := by
  unfold KeyRest; rw [rest_next s pos hp, List.length_cons, List.all_cons]
  rcases h with h | h
  · rw [decide_eq_false (by omega), Bool.false_and]
  · rw [h, Bool.false_and, Bool.and_false]

theorem keyRest_go (s : ByteArray) (pos k : Nat) (hp : pos < s.size) (h : Ru.okr (Utf8.decode s pos) = true) : KeyRest k (rest s pos) = KeyRest (k + 1) (rest s (pos + (Utf8.decode s pos).2)) := by
  unfold KeyRest; rw [rest_next s pos hp, List.length_cons, List.all_cons, h, Bool.true_and]
  congr 2
  rw [Nat.add_assoc, Nat.add_comm 1]

theorem okr_low (x : Nat × Nat) (h : x.1 < 32) : Ru.okr x = false := by unfold Ru.okr; rw [decide_eq_false (by omega)]; simp

theorem okr_del (x : Nat × Nat) (h : x.1 = 127) : Ru.okr x = false := by unfold Ru.okr; rw [h]; simp

theorem okr_bad (x : Nat × Nat) (h : Ru.fine x = false) : Ru.okr x = false := by unfold Ru.okr; rw [h]; rfl

theorem okr_ok (x : Nat × Nat) (h : Ru.fine x = true) (h1 : ¬ x.1 < 32) (h2 : ¬ x.1 = 127) : Ru.okr x = true := by
  unfold Ru.okr; rw [h, decide_eq_true (by omega), bne_iff_ne.2 h2]; rfl

theorem low_cast (n : Nat) : lowZ (n : Int) = (Ru.low n : Nat) := by
  unfold lowZ Ru.low
  by_cases h : (65 ≤ n ∧ n ≤ 90) ∨ (192 ≤ n ∧ n ≤ 222 ∧ n ≠ 215) ∨ (913 ≤ n ∧ n ≤ 937 ∧ n ≠ 930) ∨ (1040 ≤ n ∧ n ≤ 1071)
  · rw [if_pos h, if_pos (by omega)]; rfl
  · rw [if_neg h, if_neg (by omega)]

def foldB (s : ByteArray) : ByteArray := ⟨(Ru.fld s.data.toList).toArray⟩

/-- what is still to be written -/
def fldR (l : List UInt8) : List UInt8 := Ru.fld l

theorem fldR_next (s : ByteArray) (pos : Nat) (h : pos < s.size) : fldR (rest s pos) = Ru.enc (Ru.low (Utf8.decode s pos).1) ++ fldR (rest s (pos + (Utf8.decode s pos).2)) := by
  unfold fldR Ru.fld; rw [rest_next s pos h]; rfl

theorem low_bd (s : ByteArray) (pos : Nat) : -2147483648 ≤ lowZ ((Utf8.decode s pos).1 : Int) ∧ lowZ ((Utf8.decode s pos).1 : Int) ≤ 2147483647 := by
  rw [low_cast]
  have h := Ru.low_ok _ (Ru.dcl_r (s.data.toList.drop pos))
  rw [← Ru.decode_list] at h; unfold Ru.rok at h; omega

def lesB (a b : ByteArray) : Bool := Ru.les a.data.toList b.data.toList

def runs (s : ByteArray) : List Nat := Ru.runs s.data.toList

theorem runs_next (s : ByteArray) (h : 0 < s.size) : runs s = (decB s).1 :: runs (s.extract (decB s).2 s.size) := by
  have h1 := rest_next s 0 h
  rw [decB_pos s h]; unfold runs Ru.runs
  rw [ext_list, show s.data.toList = rest s 0 from rfl, h1, List.map_cons, Nat.zero_add]

theorem decB_le (s : ByteArray) (h : 0 < s.size) : 1 ≤ (decB s).2 ∧ (decB s).2 ≤ s.size := by
  rw [decB_pos s h]; have := width_le s 0 h; have := width_pos s 0 h; omega

theorem runs_nil (s : ByteArray) (h : s.size = 0) : runs s = [] := by
  unfold runs Ru.runs; rw [show s.data.toList = rest s 0 from rfl, rest_end s 0 (by omega)]; rfl

theorem runs_ne (s : ByteArray) (h : 0 < s.size) : runs s ≠ [] := by rw [runs_next s h]; simp

theorem cmp_nil (x : List Nat) (t : Bool) (h : x ≠ []) : Ru.cmpR [] x t = true := by cases x <;> simp_all [Ru.cmpR]

theorem cmp_end (x : List Nat) (t : Bool) (h : x ≠ []) : Ru.cmpR x [] t = false := by cases x <;> simp_all [Ru.cmpR]

theorem lst_empty (x : ByteArray) (h : 0 < x.size) : x.toList.isEmpty = false := by
  rw [ByteArray.toList_eq]
  cases he : x.data.toList with
  | nil => have := congrArg List.length he; rw [Array.length_toList] at this; have h2 : x.data.size = x.size := rfl; rw [List.length_nil] at this; omega
  | cons => rfl

theorem lst_nil (x : ByteArray) (h : ¬ 0 < x.size) : x.toList = [] := by
  rw [ByteArray.toList_eq]
  apply List.eq_nil_of_length_eq_zero
  rw [Array.length_toList]; have h2 : x.data.size = x.size := rfl; omega

theorem cmp_step (x y : ByteArray) (t : Bool) (hx : 0 < x.size) (hy : 0 < y.size) : Ru.cmpR (runs x) (runs y) t = if (decB x).1 = (decB y).1 then Ru.cmpR (runs (x.extract (decB x).2 x.size)) (runs (y.extract (decB y).2 y.size)) t else decide ((decB x).1 < (decB y).1) := by
  rw [runs_next x hx, runs_next y hy]; rfl

theorem neq_of {a b : Nat} (h : ¬ a = b) : ((a : Int) != b) = true := by rw [bne_iff_ne]; omega

theorem neq_not {a b : Nat} (h : a = b) : ((a : Int) != b) = false := by rw [h]; simp

def Cmp (a b x y : ByteArray) : Prop := Ru.cmpR (runs x) (runs y) (Op.bytesLess a.toList b.toList) = lesB a b

theorem byt_get (s : ByteArray) (k : Nat) (h : k < s.size) : Ru.byt s.data.toList k = s[k].toNat := by
  unfold Ru.byt
  have h2 : k < s.data.toList.length := by rw [Array.length_toList]; exact h
  rw [List.getD, List.getElem?_eq_getElem h2]; rfl

/-- the model's decode of a text, by its first four bytes -/
def dN (s : ByteArray) : Nat × Nat := Lib.decodeN s.size (Ru.byt s.data.toList 0) (Ru.byt s.data.toList 1) (Ru.byt s.data.toList 2) (Ru.byt s.data.toList 3)

theorem dN_eq (s : ByteArray) (h : 0 < s.size) : decB s = dN s := by
  rw [decB_pos s h, Ru.decode_list, List.drop_zero]; unfold Ru.dcl dN; rw [Array.length_toList]; rfl

def bt (s : ByteArray) (k : Nat) : Nat := Ru.byt s.data.toList k

theorem bt_lt (s : ByteArray) (k : Nat) : bt s k < 256 := Ru.byt_lt _ _

/-- the number so far -/
def acc (s : ByteArray) (b : Int) : Nat → Int
  | 0 => b
  | 1 => b
  | k + 2 => acc s b (k + 1) * 64 + bt s (k + 1) - 128

def Conts (s : ByteArray) (k : Nat) : Prop := ∀ j, 1 ≤ j → j < k → 128 ≤ bt s j ∧ bt s j ≤ 191

theorem conts_one (s : ByteArray) : Conts s 1 := fun j h1 h2 => by omega

theorem conts_next (s : ByteArray) (k : Nat) (h : Conts s k) (h1 : 128 ≤ bt s k) (h2 : bt s k ≤ 191) : Conts s (k + 1) := fun j a b => by
  by_cases e : j = k
  · subst e; exact ⟨h1, h2⟩
  · exact h j a (by omega)

theorem acc_next (s : ByteArray) (b : Int) (k : Nat) (h : 1 ≤ k) : acc s b (k + 1) = acc s b k * 64 + bt s k - 128 := by
  cases k with
  | zero => omega
  | succ k => rfl

theorem acc_bd (s : ByteArray) (b : Int) (k : Nat) (hb0 : 0 ≤ b) (hb1 : b ≤ 31) (h : Conts s k) (h1 : 1 ≤ k) (h4 : k ≤ 4) : 0 ≤ acc s b k ∧ acc s b k ≤ 8388607 := by
  have a1 : acc s b 1 = b := rfl
  have a2 : acc s b 2 = acc s b 1 * 64 + bt s 1 - 128 := rfl
  have a3 : acc s b 3 = acc s b 2 * 64 + bt s 2 - 128 := rfl
  have a4 : acc s b 4 = acc s b 3 * 64 + bt s 3 - 128 := rfl
  have hk : k = 1 ∨ k = 2 ∨ k = 3 ∨ k = 4 := by omega
  rcases hk with rfl | rfl | rfl | rfl
  · omega
  · have := h 1 (by omega) (by omega); omega
  · have := h 1 (by omega) (by omega); have := h 2 (by omega) (by omega); omega
  · have := h 1 (by omega) (by omega); have := h 2 (by omega) (by omega); have := h 3 (by omega) (by omega); omega

set_option maxHeartbeats 4000000 in
theorem dN1 (n b0 b1 b2 b3 : Nat) (h : b0 < 128) : Lib.decodeN n b0 b1 b2 b3 = (b0, 1) := by unfold Lib.decodeN; rw [if_pos h]

set_option maxHeartbeats 4000000 in
theorem dNelse (n b0 b1 b2 b3 : Nat) (h : (128 ≤ b0 ∧ b0 < 192) ∨ 248 ≤ b0) (h2 : b0 < 256) : Lib.decodeN n b0 b1 b2 b3 = (65533, 1) := by
  unfold Lib.decodeN; rw [if_neg (by omega), if_neg (by omega), if_neg (by omega), if_neg (by omega)]

set_option maxHeartbeats 4000000 in
theorem dN2_ok (n b0 b1 b2 b3 : Nat) (v : Int) (h0 : 192 ≤ b0) (h1 : b0 < 224) (hn : 2 ≤ n) (c1 : 128 ≤ b1 ∧ b1 ≤ 191) (hv : v = ((b0 : Int) - 192) * 64 + b1 - 128) (ho : 128 ≤ v) : v = (Lib.decodeN n b0 b1 b2 b3).1 ∧ (2 : Int) = (Lib.decodeN n b0 b1 b2 b3).2 := by
  unfold Lib.decodeN; rw [if_neg (by omega), if_pos (by omega), if_pos (by omega)]; simp only; omega

set_option maxHeartbeats 4000000 in
theorem dN2_bad (n b0 b1 b2 b3 : Nat) (h0 : 192 ≤ b0) (h1 : b0 < 224) (h : n < 2 ∨ b1 < 128 ∨ 191 < b1 ∨ (128 ≤ b1 ∧ ((b0 : Int) - 192) * 64 + b1 - 128 < 128)) (g1 : b1 < 256) : Lib.decodeN n b0 b1 b2 b3 = (65533, 1) := by
  unfold Lib.decodeN; rw [if_neg (by omega)]
  by_cases hc : b0 / 32 = 6 ∧ (1 < n ∧ b1 / 64 = 2)
  · rw [if_pos hc, if_neg (by omega)]
  · rw [if_neg hc, if_neg (by omega), if_neg (by omega)]

set_option maxHeartbeats 4000000 in
theorem dN3_ok (n b0 b1 b2 b3 : Nat) (v : Int) (h0 : 224 ≤ b0) (h1 : b0 < 240) (hn : 3 ≤ n) (c1 : 128 ≤ b1 ∧ b1 ≤ 191) (c2 : 128 ≤ b2 ∧ b2 ≤ 191) (hv : v = (((b0 : Int) - 224) * 64 + b1 - 128) * 64 + b2 - 128) (ho : 2048 ≤ v) (hs : v < 55296 ∨ 57344 ≤ v) : v = (Lib.decodeN n b0 b1 b2 b3).1 ∧ (3 : Int) = (Lib.decodeN n b0 b1 b2 b3).2 := by
  unfold Lib.decodeN; rw [if_neg (by omega), if_neg (by omega), if_pos (by omega), if_pos (by omega)]; simp only; omega

set_option maxHeartbeats 4000000 in
theorem dN3_bad (n b0 b1 b2 b3 : Nat) (h0 : 224 ≤ b0) (h1 : b0 < 240) (g1 : b1 < 256) (g2 : b2 < 256) (h : n < 3 ∨ b1 < 128 ∨ 191 < b1 ∨ b2 < 128 ∨ 191 < b2 ∨ (128 ≤ b1 ∧ 128 ≤ b2 ∧ ((((b0 : Int) - 224) * 64 + b1 - 128) * 64 + b2 - 128 < 2048 ∨ (55296 ≤ (((b0 : Int) - 224) * 64 + b1 - 128) * 64 + b2 - 128 ∧ (((b0 : Int) - 224) * 64 + b1 - 128) * 64 + b2 - 128 < 57344)))) : Lib.decodeN n b0 b1 b2 b3 = (65533, 1) := by
  unfold Lib.decodeN; rw [if_neg (by omega), if_neg (by omega)]
  by_cases hc : b0 / 16 = 14 ∧ (1 < n ∧ b1 / 64 = 2) ∧ (2 < n ∧ b2 / 64 = 2)
  · rw [if_pos hc, if_neg (by omega)]
  · rw [if_neg hc, if_neg (by omega)]

set_option maxHeartbeats 4000000 in
theorem dN4_ok (n b0 b1 b2 b3 : Nat) (v : Int) (h0 : 240 ≤ b0) (h1 : b0 < 248) (hn : 4 ≤ n) (c1 : 128 ≤ b1 ∧ b1 ≤ 191) (c2 : 128 ≤ b2 ∧ b2 ≤ 191) (c3 : 128 ≤ b3 ∧ b3 ≤ 191) (hv : v = ((((b0 : Int) - 240) * 64 + b1 - 128) * 64 + b2 - 128) * 64 + b3 - 128) (ho : 65536 ≤ v) (hs : v ≤ 1114111) : v = (Lib.decodeN n b0 b1 b2 b3).1 ∧ (4 : Int) = (Lib.decodeN n b0 b1 b2 b3).2 := by
  unfold Lib.decodeN; rw [if_neg (by omega), if_neg (by omega), if_neg (by omega), if_pos (by omega), if_pos (by omega)]; simp only; omega

set_option maxHeartbeats 4000000 in
theorem dN4_bad (n b0 b1 b2 b3 : Nat) (h0 : 240 ≤ b0) (h1 : b0 < 248) (g1 : b1 < 256) (g2 : b2 < 256) (g3 : b3 < 256) (h : n < 4 ∨ b1 < 128 ∨ 191 < b1 ∨ b2 < 128 ∨ 191 < b2 ∨ b3 < 128 ∨ 191 < b3 ∨ (128 ≤ b1 ∧ 128 ≤ b2 ∧ 128 ≤ b3 ∧ (((((b0 : Int) - 240) * 64 + b1 - 128) * 64 + b2 - 128) * 64 + b3 - 128 < 65536 ∨ 1114111 < ((((b0 : Int) - 240) * 64 + b1 - 128) * 64 + b2 - 128) * 64 + b3 - 128))) : Lib.decodeN n b0 b1 b2 b3 = (65533, 1) := by
  unfold Lib.decodeN; rw [if_neg (by omega), if_neg (by omega), if_neg (by omega)]
  by_cases hc : b0 / 8 = 30 ∧ (1 < n ∧ b1 / 64 = 2) ∧ (2 < n ∧ b2 / 64 = 2) ∧ (3 < n ∧ b3 / 64 = 2)
  · rw [if_pos hc, if_neg (by omega)]
  · rw [if_neg hc]

/-- what the reference's Decode hands back: the world is as it was -/
def DecQ (r : Nat × Nat) (w : World) (e : Ending) (w' : World) : Prop := e = .returned (.tuple #[.int .i32 r.1, .int .i64 r.2]) ∧ w = w'

/-- what Decode hands back -/
theorem dec_is (s : ByteArray) (w : World) (a b : Int) (h0 : 0 < s.size) (h : a = (dN s).1 ∧ b = (dN s).2) : DecQ (decB s) w (.returned (.tuple #[.int .i32 a, .int .i64 b])) w := by
  rw [dN_eq s h0]; exact ⟨by rw [h.1, h.2], rfl⟩

theorem dec_bad (s : ByteArray) (w : World) (h0 : 0 < s.size) (h : dN s = (65533, 1)) : DecQ (decB s) w (.returned (.tuple #[.int .i32 65533, .int .i64 1])) w :=
  dec_is s w _ _ h0 (by rw [h]; exact ⟨rfl, rfl⟩)

theorem decB_at (s : ByteArray) (pos : Nat) (h : pos < s.size) : decB (s.extract pos s.size) = Utf8.decode s pos := by
  have h2 : 0 < (s.extract pos s.size).size := by rw [ByteArray.size_extract]; omega
  rw [decB_pos _ h2, Ru.decode_list, List.drop_zero, ext_list, Ru.decode_list]; rfl

/-- where each rune begins -/
def ats : Nat → List (Nat × Nat) → List Nat
  | _, [] => []
  | p, x :: l => p :: ats (p + x.2) l

theorem ats_snoc (x : Nat × Nat) : ∀ (l : List (Nat × Nat)) (p : Nat), ats p (l ++ [x]) = ats p l ++ [p + Ru.wsum l]
  | [], p => by simp [ats]
  | a :: l, p => by simp [ats, ats_snoc x l, Nat.add_assoc]

theorem ats_len : ∀ (l : List (Nat × Nat)) (p : Nat), (ats p l).length = l.length
  | [], p => rfl
  | a :: l, p => by simp [ats, ats_len l]

def runeVals (R : List (Nat × Nat)) : List Value := R.map fun x : Nat × Nat => Value.int .i32 (x.1 : Int)

def atVals (R : List (Nat × Nat)) : List Value := (ats 0 R).map fun x : Nat => Value.int .i64 (x : Int)

theorem runeVals_snoc (R : List (Nat × Nat)) (x : Nat × Nat) : runeVals (R ++ [x]) = runeVals R ++ [.int .i32 (x.1 : Int)] := by simp [runeVals]

theorem atVals_snoc (R : List (Nat × Nat)) (x : Nat × Nat) (p : Nat) (h : p = Ru.wsum R) : atVals (R ++ [x]) = atVals R ++ [.int .i64 (p : Int)] := by
  subst h; unfold atVals; rw [ats_snoc, List.map_append, Nat.zero_add]; rfl

/-- rows of different element types lie in different blocks -/
theorem own_apart {w : World} {B B' e e' s s' n n' : Nat} {v v' : Value} {x x' : List Value} (h : w.ownsRow B e s v n x) (h' : w.ownsRow B' e' s' v' n' x') (hne : e ≠ e') : v.ownBlock = Option.none ∨ v.ownBlock ≠ v'.ownBlock := by
  rcases h.2 with ⟨rfl, _⟩ | ⟨g, c, cur, rfl, _, hg, _⟩
  · exact .inl rfl
  · rcases h'.2 with ⟨rfl, _⟩ | ⟨g', c', cur', rfl, _, hg', _⟩
    · exact .inr (by simp [Value.ownBlock])
    · refine .inr fun e1 => ?_
      have : g = g' := by simpa [Value.ownBlock] using e1
      subst this
      rw [hg] at hg'; injection hg' with hg'; injection hg' with _ ht; exact hne ht

theorem own_read {w : World} {B e n : Nat} {v : Value} {xs : List Value} (h : w.ownsRow B e 1 v n xs) :
    ∃ A c, v = .slice A n c ∧ (0 < n → ∃ g, A = some ⟨g, 0, Option.none⟩ ∧ g < w.heap.size ∧ ∀ k u, xs[k]? = some u → w.cell? ⟨g, k, Option.none⟩ = some u) := by
  have hc := fun (g : Nat) (hg : v.ownBlock = some g) => h.cells hg
  rcases h.2 with ⟨rfl, rfl⟩ | ⟨g, c, cur, rfl, _⟩
  · exact ⟨Option.none, 0, rfl, fun h => absurd h (by omega)⟩
  · refine ⟨_, c, rfl, fun _ => ⟨g, rfl, (h.lt g rfl).2, fun k u hu => ?_⟩⟩
    have h2 := hc g rfl k u hu
    have e1 : (⟨g, 0, Option.none⟩ : Addr).add k = ⟨g, k, Option.none⟩ := by unfold Addr.add; split <;> simp_all
    rw [e1] at h2; exact h2

theorem runeVals_at (R : List (Nat × Nat)) (k : Nat) (h : k < R.length) : (runeVals R)[k]? = some (.int .i32 (R[k].1 : Nat)) := by
  simp [runeVals, h]

theorem okr_none (R : List (Nat × Nat)) (h : R.all Ru.fine = false) : R.all Ru.okr = false := by
  obtain ⟨x, hx, hf⟩ := List.all_eq_false.1 h
  exact List.all_eq_false.2 ⟨x, hx, by rw [okr_bad x (by simpa using hf)]; simp⟩

theorem atVals_at (R : List (Nat × Nat)) (k : Nat) (h : k < R.length) : (atVals R)[k]? = some (.int .i64 (Ru.wsum (R.take k) : Nat)) := by
  have key : ∀ (R : List (Nat × Nat)) (p k : Nat), k < R.length → (ats p R)[k]? = some (p + Ru.wsum (R.take k)) := by
    intro R; induction R with
    | nil => intro p k h; simp at h
    | cons x R ih =>
      intro p k h
      cases k with
      | zero => simp [ats]
      | succ k => simp only [ats, List.getElem?_cons_succ, List.take_succ_cons, Ru.wsum_cons]; rw [ih _ k (by simpa using h), Nat.add_assoc]
  unfold atVals; rw [List.getElem?_map, key R 0 k h]; simp

theorem cmp_drop (P Q : List Nat) (t : Bool) (k : Nat) (h1 : k < P.length) (h2 : k < Q.length) : Ru.cmpR (P.drop k) (Q.drop k) t = if P[k] = Q[k] then Ru.cmpR (P.drop (k + 1)) (Q.drop (k + 1)) t else decide (P[k] < Q[k]) := by
  rw [List.drop_eq_getElem_cons h1, List.drop_eq_getElem_cons h2]; rfl

theorem runeVals_runs (R : List (Nat × Nat)) (k : Nat) (h : k < (R.map (·.1)).length) : (runeVals R)[k]? = some (.int .i32 ((R.map (·.1))[k] : Nat)) := by
  rw [List.length_map] at h
  rw [runeVals_at R k h]; simp

theorem fld_drop (R : List (Nat × Nat)) (k : Nat) (h : k < R.length) : Ru.encs ((R.drop k).map fun x => Ru.low x.1) = Ru.enc (Ru.low R[k].1) ++ Ru.encs ((R.drop (k + 1)).map fun x => Ru.low x.1) := by
  rw [List.drop_eq_getElem_cons h]; rfl

theorem ret_pair {a b c d : Int} (h : a = c) (h2 : b = d) : Ending.returned (.tuple #[.int .i32 a, .int .i64 b]) = .returned (.tuple #[.int .i32 c, .int .i64 d]) := by rw [h, h2]

theorem ret_str {a b : ByteArray} (h : a = b) : Ending.returned (.string a) = .returned (.string b) := by rw [h]

def Some (n : Int) (w : World) (e : Ending) (w' : World) : Prop := ∃ t : ByteArray, (t.size : Int) ≤ n ∧ e = .returned (.string t) ∧ w = w'

def ED (r : Int) : Nat := if (0 ≤ r ∧ r < 55296) ∨ (57344 ≤ r ∧ r ≤ 1114111) then r.toNat else 65533

theorem enc_ED (r : Int) : Lib.encodeRune r = Ru.enc (ED r) := by
  unfold ED; split
  · unfold Ru.enc; congr 1; omega
  · have e : Lib.encodeRuneZ r = [239, 191, 189] := Lib.encodeRuneZ_bad (by omega)
    unfold Lib.encodeRune; rw [e]; decide

theorem ED_ok (r : Int) : Ru.rok (ED r) := by unfold ED Ru.rok; split <;> omega

theorem join_list (a b : ByteArray) : (a ++ b).data.toList = a.data.toList ++ b.data.toList := by rw [ByteArray.data_append, Array.toList_append]

theorem bytes_eq {a b : ByteArray} (h : a.data.toList = b.data.toList) : a = b := ByteArray.ext (Array.toList_inj.1 h)

theorem cnt_le (a : ByteArray) : Ru.cnt a.data.toList ≤ a.size := by
  have := Ru.rns_len a.data.toList
  rw [Array.length_toList] at this; exact this

theorem foldB_list (a : ByteArray) : (foldB a).data.toList = Ru.fld a.data.toList := by simp [foldB]

theorem foldB_le (a : ByteArray) : (foldB a).size ≤ 4 * a.size := by
  have := Ru.fld_len a.data.toList
  rw [Array.length_toList] at this
  exact this

theorem foldB_join (a b : ByteArray) (h : Ru.vld a.data.toList = true) : foldB (a ++ b) = foldB a ++ foldB b := by
  apply bytes_eq
  rw [join_list, foldB_list, foldB_list, foldB_list, join_list, Ru.fld_append _ _ h]

theorem cutB_list (s : ByteArray) (n : Int) : (cutB s n).data.toList = s.data.toList.take (Ru.cutP n.toNat s.data.toList) := by
  unfold cutB
  rw [ByteArray.data_extract, Array.toList_extract, List.extract_eq_take_drop]; simp

theorem cutB_join (a b : ByteArray) (h : Ru.vld a.data.toList = true) : cutB (a ++ b) (Ru.cnt a.data.toList : Nat) = a := by
  apply bytes_eq
  rw [cutB_list, Int.toNat_natCast, join_list, Ru.cut_front _ _ h, List.take_left]

def cN (s : ByteArray) : Nat := Ru.cnt s.data.toList

theorem cutB_size (t : ByteArray) (n : Int) : (cutB t n).size = Ru.cutP n.toNat t.data.toList := by
  have := Ru.cutP_le n.toNat t.data.toList
  rw [Array.length_toList] at this
  unfold cutB; rw [ByteArray.size_extract]
  have e : t.data.size = t.size := rfl
  omega

theorem cutB_front (t : ByteArray) (n : Int) : t.extract 0 (cutB t n).size = cutB t n := by rw [cutB_size]; rfl

theorem cutB_cnt (t : ByteArray) (n : Int) : cN (cutB t n) = min n.toNat (cN t) := by
  unfold cN; rw [cutB_list, Ru.cnt_cut]

theorem cutB_rest (t : ByteArray) (n : Int) : cN (cutB t n) + cN (t.extract (cutB t n).size t.size) = cN t := by
  rw [cutB_cnt]
  unfold cN; rw [ext_list, cutB_size]; unfold rest
  rw [Ru.cnt_rest]; omega

theorem below_step {a W V : World} (hb : Below W.heap.size W V) (h : Below a.heap.size a W) : Below a.heap.size a V := h.trans (hb.mono h.size)
end Go.Proofs.Ytoekiencnbgmhaa
/-
  A function returns what the plain functions say: ReRunes.
-/
set_option linter.unusedSimpArgs false
set_option linter.unusedVariables false
namespace Go.Proofs.Ytoekiencnbgmhaa
open Go.RowKit
set_option maxRecDepth 100000

theorem Try.info21 : (Try.prog.info? 21).map (fun i => (i.zero, i.size, i.bytes)) = some (some (.int .i32 0), 1, 4) := by kernel_rfl

theorem Try.info3 : (Try.prog.info? 3).map (fun i => (i.zero, i.size, i.bytes)) = some (some (.int .i64 0), 1, 8) := by kernel_rfl

def Rel (s : ByteArray) (w : World) (R : List (Nat × Nat)) (vl va : Value) (pos : Nat) (wr : World) : Prop :=
  wr.ownsRow w.heap.size 21 1 vl R.length (runeVals R) ∧ wr.ownsRow w.heap.size 3 1 va R.length (atVals R) ∧ Below w.heap.size w wr ∧ R ++ Ru.rns (rest s pos) = Ru.rns s.data.toList ∧ Ru.wsum R = pos ∧ R.length ≤ pos ∧ pos ≤ s.size

def RunesPost (s : ByteArray) (w : World) (e : Ending) (w' : World) : Prop :=
  ∃ vl va, e = .returned (.tuple #[vl, va, .bool (Ru.vld s.data.toList)]) ∧ w'.ownsRow w.heap.size 21 1 vl (Ru.cnt s.data.toList) (runeVals (Ru.rns s.data.toList)) ∧ w'.ownsRow w.heap.size 3 1 va (Ru.cnt s.data.toList) (atVals (Ru.rns s.data.toList)) ∧ Below w.heap.size w w'

def RunesB (s : ByteArray) (b : Bool) (w : World) (e : Ending) (w' : World) : Prop :=
  ∃ vl va, e = .returned (.tuple #[vl, va, .bool b]) ∧ w'.ownsRow w.heap.size 21 1 vl (Ru.cnt s.data.toList) (runeVals (Ru.rns s.data.toList)) ∧ w'.ownsRow w.heap.size 3 1 va (Ru.cnt s.data.toList) (atVals (Ru.rns s.data.toList)) ∧ Below w.heap.size w w'
end Go.Proofs.Ytoekiencnbgmhaa
/-
  The reference's Eq and May on values as data say what the plain functions say.
  Integers are in their ranges; a text has at most 1,000,000 bytes.
-/
set_option linter.unusedSimpArgs false
set_option linter.unusedVariables false
namespace Go.Proofs.Ytoekiencnbgmhaa
open Go.RowKit
set_option maxRecDepth 100000

/-- a value as data -/
structure Raw where
  kind : Int
  n : Int
  s : ByteArray
def Raw.val (r : Raw) : Value := .agg #[.int .i64 r.kind, .int .i64 r.n, .string r.s]
def eqR (a b : Raw) : Bool := a.kind == b.kind && a.n == b.n && a.s.data.toList == b.s.data.toList
def mayR (r : Raw) : Bool := if r.kind = 0 then r.n == 0 && r.s.data.toList.isEmpty else if r.kind = 1 then r.s.data.toList.isEmpty else if r.kind = 2 then r.n == 0 && Ru.vld r.s.data.toList && decide (r.s.size ≤ 200) else false
def Bl (b : Bool) (w : World) (e : Ending) (w' : World) : Prop := e = .returned (.bool b) ∧ Below w.heap.size w w'
theorem below_two (w : World) (o p : Obj) : Below w.heap.size w ((w.alloc o).alloc p) := ((Below.refl _ _).alloc (Nat.le_refl _) _).alloc (by simp) _
theorem below_one (w : World) (o : Obj) : Below w.heap.size w (w.alloc o) := (Below.refl _ _).alloc (Nat.le_refl _) _

end Go.Proofs.Ytoekiencnbgmhaa
/-
  What the program's table says of bytes: one cell, one byte, zero at first; and how an owned row of bytes is told.
  There are no conditions.
-/
set_option linter.unusedSimpArgs false
set_option linter.unusedVariables false
namespace Go.Proofs.Ytoekiencnbgmhaa
open Go.RowKit
set_option maxRecDepth 100000
theorem Try.infoU8 : (Try.prog.info? 5).map (fun i => (i.zero, i.size, i.bytes)) = some (some (.int .u8 0), 1, 1) := by kernel_rfl
/-- a slice value that owns the bytes l among the blocks from B on -/
def OwnB (B : Nat) (v : Value) (l : List UInt8) (w : World) : Prop := w.ownsRow B 5 1 v l.length (Lib.byteCells l)
theorem ownB_nil (B : Nat) (w : World) : OwnB B (.slice none 0 0) [] w := World.ownsRow_nil _ _ _ _
theorem OwnB.alloc {B : Nat} {v : Value} {l : List UInt8} {w : World} (h : OwnB B v l w) (o : Obj) : OwnB B v l (w.alloc o) := World.ownsRow.alloc h o
/-- a function that makes bytes: a new row, what was there stands -/
def Made (l : List UInt8) (w : World) (e : Ending) (w' : World) : Prop := ∃ v, e = .returned v ∧ OwnB w.heap.size v l w' ∧ Below w.heap.size w w'
end Go.Proofs.Ytoekiencnbgmhaa
/-
  A slice of bytes that is there: what it reads as, and that it goes on reading so where the memory below a block stands.
  There are no conditions beyond those that each lemma names.
-/
set_option linter.unusedSimpArgs false
set_option linter.unusedVariables false
namespace Go.Proofs.Ytoekiencnbgmhaa
open Go.RowKit
set_option maxRecDepth 100000

/-- the slice value v reads as the bytes l; its cells lie below block B -/
def Byt (w : World) (B : Nat) (v : Value) (l : List UInt8) : Prop :=
  ∃ A c, v = .slice A l.length c ∧ l.length ≤ c ∧ (0 < l.length → ∃ g o, A = some ⟨g, o, Option.none⟩ ∧ g < B ∧ ∀ k (h : k < l.length), w.cell? ⟨g, o + k, Option.none⟩ = some (.int .u8 (l[k].toNat : Int)))
theorem Byt.keep {w w' : World} {B : Nat} {v : Value} {l : List UInt8} (h : Byt w B v l) (hk : ∀ p : Addr, p.block < B → w'.cell? p = w.cell? p) : Byt w' B v l := by
  obtain ⟨A, c, hv, hc, h⟩ := h
  refine ⟨A, c, hv, hc, fun hn => ?_⟩
  obtain ⟨g, o, hA, hg, hcell⟩ := h hn
  exact ⟨g, o, hA, hg, fun k hk2 => (hk ⟨g, o + k, Option.none⟩ hg).trans (hcell k hk2)⟩
theorem Byt.below {w w' : World} {B C : Nat} {v : Value} {l : List UInt8} (h : Byt w B v l) (hb : Below C w w') (hC : B ≤ C) : Byt w' B v l := h.keep fun _ hp => hb.cell (Nat.lt_of_lt_of_le hp hC)
theorem Byt.more {w : World} {B C : Nat} {v : Value} {l : List UInt8} (h : Byt w B v l) (hC : B ≤ C) : Byt w C v l := by
  obtain ⟨A, c, hv, hc, h⟩ := h
  refine ⟨A, c, hv, hc, fun hn => ?_⟩
  obtain ⟨g, o, hA, hg, hcell⟩ := h hn
  exact ⟨g, o, hA, Nat.lt_of_lt_of_le hg hC, hcell⟩
/-- the tail from place k on, as Go's s[k:] writes it -/
theorem Byt.cut {w : World} {B : Nat} {A : Option Addr} {c k : Nat} {l : List UInt8} (h : Byt w B (.slice A l.length c) l) (hk : k ≤ l.length) : Byt w B (.slice (if c = k then A else A.map (·.add k)) (l.length - k) (c - k)) (l.drop k) := by
  obtain ⟨A', c', hv, hc, h⟩ := h
  injection hv with hA _ hcc; subst hA; subst hcc
  refine ⟨_, _, by rw [List.length_drop], by rw [List.length_drop]; omega, fun hn => ?_⟩
  rw [List.length_drop] at hn
  obtain ⟨g, o, rfl, hg, hcell⟩ := h (by omega)
  rw [if_neg (by omega)]
  refine ⟨g, o + k, ?_, hg, fun j hj => ?_⟩
  · show some (Addr.add ⟨g, o, Option.none⟩ k) = _
    unfold Addr.add; split <;> simp_all
  · rw [List.length_drop] at hj
    rw [Nat.add_assoc, hcell (k + j) (by omega)]; simp
theorem Byt.of_own {w : World} {B : Nat} {v : Value} {l : List UInt8} (h : OwnB B v l w) : Byt w w.heap.size v l := by
  unfold OwnB at h
  have hc := fun (g : Nat) (hg : v.ownBlock = some g) => World.ownsRow.cells h hg
  have hlt := World.ownsRow.lt h
  rcases h.2 with ⟨rfl, h0⟩ | ⟨g, c, cur, rfl, _, _, hnc, _⟩
  · exact ⟨Option.none, 0, by rw [h0], by rw [h0]; exact Nat.le_refl _, fun h => absurd h (by omega)⟩
  · refine ⟨_, c, rfl, hnc, fun _ => ⟨g, 0, rfl, (hlt g rfl).2, fun k hk => ?_⟩⟩
    have h2 := hc g rfl k (.int .u8 (l[k].toNat : Int)) (by simp [Lib.byteCells, hk])
    have e1 : (⟨g, 0, Option.none⟩ : Addr).add k = ⟨g, 0 + k, Option.none⟩ := by unfold Addr.add; split <;> simp_all
    rw [e1] at h2; exact h2
theorem OwnB.below {B : Nat} {v : Value} {l : List UInt8} {w w' : World} (h : OwnB B v l w) (hb : Below w.heap.size w w') : OwnB B v l w' := by
  have hlt := World.ownsRow.lt h
  unfold OwnB at *
  refine ⟨h.1, ?_⟩
  rcases h.2 with h2 | ⟨g, c, cur, hv, hB, hg, r⟩
  · exact .inl h2
  · exact .inr ⟨g, c, cur, hv, hB, (hb.block g (by rw [hv] at hlt; exact (hlt g rfl).2)).trans hg, r⟩
theorem OwnB.lt {B : Nat} {v : Value} {l : List UInt8} {w : World} (h : OwnB B v l w) : ∀ k, v.ownBlock = some k → B ≤ k ∧ k < w.heap.size := World.ownsRow.lt h
theorem OwnB.down {B C : Nat} {v : Value} {l : List UInt8} {w : World} (h : OwnB C v l w) (hB : B ≤ C) : OwnB B v l w := by
  unfold OwnB at *
  refine ⟨h.1, ?_⟩
  rcases h.2 with h2 | ⟨g, c, cur, hv, hb, r⟩
  · exact .inl h2
  · exact .inr ⟨g, c, cur, hv, Nat.le_trans hB hb, r⟩
/-- a row that holds something lies at a block's head -/
theorem OwnB.at_ {B : Nat} {v : Value} {l : List UInt8} {w : World} (h : OwnB B v l w) (hl : 1 ≤ l.length) : ∃ g c, v = .slice (some ⟨g, 0, Option.none⟩) l.length c ∧ g < w.heap.size ∧ ∀ j u, (Lib.byteCells l)[j]? = some u → w.cell? ((⟨g, 0, Option.none⟩ : Addr).add j) = some u := by
  unfold OwnB at h
  have hc := fun (g : Nat) (hg : v.ownBlock = some g) => World.ownsRow.cells h hg
  have hlt := World.ownsRow.lt h
  rcases h.2 with ⟨_, h0⟩ | ⟨g, c, cur, rfl, _⟩
  · omega
  · exact ⟨g, c, rfl, (hlt g rfl).2, hc g rfl⟩
theorem byteCells_one (l : List UInt8) : ∀ u ∈ Lib.byteCells l, u.oneCell' = true := by
  intro u hu; unfold Lib.byteCells at hu
  obtain ⟨b, _, rfl⟩ := List.mem_map.1 hu; rfl
end Go.Proofs.Ytoekiencnbgmhaa
/-
  Rows of one's own: that they stand where nothing below has turned, and how their values are told.
  There are no conditions.
-/
set_option linter.unusedSimpArgs false
set_option linter.unusedVariables false
namespace Go.Proofs.Ytoekiencnbgmhaa
open Go.RowKit
set_option maxRecDepth 100000

theorem ownsRow_below {B e s n : Nat} {v : Value} {xs : List Value} {w w' : World} (h : w.ownsRow B e s v n xs) (hb : Below w.heap.size w w') : w'.ownsRow B e s v n xs := by
  have hlt := World.ownsRow.lt h
  refine ⟨h.1, ?_⟩
  rcases h.2 with h2 | ⟨g, c, cur, hv, hB, hg, r⟩
  · exact .inl h2
  · exact .inr ⟨g, c, cur, hv, hB, (hb.block g (by rw [hv] at hlt; exact (hlt g rfl).2)).trans hg, r⟩
theorem own_slice {B e s n : Nat} {v : Value} {xs : List Value} {w : World} (h : w.ownsRow B e s v n xs) : ∃ A c, v = .slice A n c := by
  rcases h.2 with ⟨rfl, rfl⟩ | ⟨g, c, cur, rfl, _⟩
  · exact ⟨none, 0, rfl⟩
  · exact ⟨_, c, rfl⟩
theorem ownsRow_down {B C e s n : Nat} {v : Value} {xs : List Value} {w : World} (h : w.ownsRow C e s v n xs) (hB : B ≤ C) : w.ownsRow B e s v n xs := by
  refine ⟨h.1, ?_⟩
  rcases h.2 with h2 | ⟨g, c, cur, hv, hb, r⟩
  · exact .inl h2
  · exact .inr ⟨g, c, cur, hv, Nat.le_trans hB hb, r⟩
theorem setCell_grown (w : World) (p : Addr) (v : Value) : w.grownBy (w.setCell p v) (some p.block) := ⟨rfl, rfl, rfl, by simp [World.setCell], fun k _ hk => Below.heap_setCell w _ _ k (fun e => hk (by rw [e]))⟩
/-- a store below the row leaves it -/
theorem ownsRow_set {B e s n : Nat} {v u : Value} {xs : List Value} {w : World} {p : Addr} (h : w.ownsRow B e s v n xs) (hp : p.block < B) : (w.setCell p u).ownsRow B e s v n xs :=
  World.ownsRow.kept h (setCell_grown w p u) (.inr (fun e => by have := (World.ownsRow.lt h _ e).1; omega))
end Go.Proofs.Ytoekiencnbgmhaa
/-
  The reference's records and snapshots: which may be; when two are the same.
  Integers are in their ranges; a text has at most 1,000,000 bytes.
-/
set_option linter.unusedSimpArgs false
set_option linter.unusedVariables false
namespace Go.Proofs.Ytoekiencnbgmhaa
open Go.RowKit
set_option maxRecDepth 100000

/-- an entry of a log -/
structure Ent where
  ix : Int
  et : Int
  kd : Int
  data : ByteArray
/-- a record -/
structure Rcd where
  hard : Bool
  ht : Int
  hv : Int
  e : Ent
/-- a snapshot -/
structure Snp where
  ix : Int
  st : Int
  conf : ByteArray
  data : ByteArray
def Rcd.cs (r : Rcd) : List Value := [.bool r.hard, .int .i64 r.ht, .int .i64 r.hv, .int .i64 r.e.ix, .int .i64 r.e.et, .int .i64 r.e.kd, .string r.e.data]
def Ent.val (e : Ent) : Value := .agg #[.int .i64 e.ix, .int .i64 e.et, .int .i64 e.kd, .string e.data]
def Rcd.val (r : Rcd) : Value := .agg #[.bool r.hard, .int .i64 r.ht, .int .i64 r.hv, .int .i64 r.e.ix, .int .i64 r.e.et, .int .i64 r.e.kd, .string r.e.data]
def Snp.val (s : Snp) : Value := .agg #[.int .i64 s.ix, .int .i64 s.st, .string s.conf, .string s.data]
def mayHard10 (t v : Int) : Bool := decide (0 ≤ t) && decide (t ≤ 1099511627776) && decide (0 ≤ v) && decide (v ≤ 7)
def mayEnt10 (e : Ent) : Bool := decide (1 ≤ e.ix) && decide (e.ix ≤ 1099511627776) && decide (1 ≤ e.et) && decide (e.et ≤ 1099511627776) && decide (1 ≤ e.kd) && decide (e.kd ≤ 3) && decide (e.data.size ≤ 2500)
def maySnp10 (s : Snp) : Bool := decide (0 ≤ s.ix) && decide (s.ix ≤ 1099511627776) && decide (0 ≤ s.st) && decide (s.st ≤ 1099511627776) && decide (s.conf.size ≤ 50) && decide (s.data.size ≤ 200000)
def eqEnt10 (a b : Ent) : Bool := a.ix == b.ix && a.et == b.et && a.kd == b.kd && a.data.data.toList == b.data.data.toList
def eqSnp10 (a b : Snp) : Bool := a.ix == b.ix && a.st == b.st && a.conf.data.toList == b.conf.data.toList && a.data.data.toList == b.data.data.toList
def noEnt : Ent := ⟨0, 0, 0, ByteArray.empty⟩
def may10 (r : Rcd) : Bool := if r.hard then mayHard10 r.ht r.hv && eqEnt10 r.e noEnt else r.ht == 0 && r.hv == 0 && mayEnt10 r.e
def eq10 (a b : Rcd) : Bool := (a.hard == b.hard) && a.ht == b.ht && a.hv == b.hv && eqEnt10 a.e b.e
set_option maxHeartbeats 1050000 in
theorem reqEntry_any (a b : Ent) (w : World) : Calls Try.prog 53 #[a.val, b.val] w (Bl (eqEnt10 a b) w) := by
  obtain ⟨ai, at1, ak, ad⟩ := a
  obtain ⟨bi, bt1, bk, bd⟩ := b
  unfold Ent.val
  go_enter Try.func53, Try.ntmps53
  go_wp2
  all_goals (go_ret; refine ⟨ret_bool ?_, below_two _ _ _⟩)
  all_goals (unfold eqEnt10; simp_all [ByteArray.toList_eq])
set_option maxHeartbeats 1050000 in
theorem reqSnap_any (a b : Snp) (w : World) : Calls Try.prog 54 #[a.val, b.val] w (Bl (eqSnp10 a b) w) := by
  obtain ⟨ai, at1, ak, ad⟩ := a
  obtain ⟨bi, bt1, bk, bd⟩ := b
  unfold Snp.val
  go_enter Try.func54, Try.ntmps54
  go_wp2
  all_goals (go_ret; refine ⟨ret_bool ?_, below_two _ _ _⟩)
  all_goals (unfold eqSnp10; simp_all [ByteArray.toList_eq])
theorem new_cell10 {w : World} {cs : Array Value} {ty : TypeId} {j : Nat} {v : Value} (h : cs[j]? = some v) : (w.alloc (.cells cs ty)).cell? ⟨w.heap.size, j, none⟩ = some v := by
  rw [cell_of_row _ _ j _ _ _ (heap_alloc_new _ _)]; exact h
end Go.Proofs.Ytoekiencnbgmhaa
/-
  How a law's arguments are opened, and that they read behind the call as before, where nothing that was there has turned: raw values, slices of bytes.
  There are no conditions beyond those that each lemma names.
-/
set_option linter.unusedSimpArgs false
set_option linter.unusedVariables false
namespace Go.Proofs.Ytoekiencnbgmhaa
open Go.RowKit Go.WideShapes Go.ChangeShapes Go.Joins
set_option maxRecDepth 100000

theorem Try.laidOut : laidOutB Try.prog = true := by kernel_rfl
section
variable {H : Type} {enc : TypeId × Value → H} {P : Program}
/-- the arguments read again as they read before -/
theorem args_again (hl : laidOutB P = true) {W W' : World} (hb : Below W.heap.size W W') : ∀ {ts : List TypeId} {vs : List Value} {ds : List (DataW H)} {ps : List MemPlace},
    ts.all (fun t => P.readableRec t && decide (t < P.types.size)) = true → DataW.TrodAll enc P W 0 (fun _ => true) true ts vs ds ps → DataW.TrodAll enc P W' 0 (fun b => decide (b < W.heap.size)) true ts vs ds ps
  | [], [], [], _, _, h => h
  | _ :: _, _ :: _, _ :: _, _, hr, ⟨p, q, h1, h2, e⟩ => by
    simp only [List.all_cons, Bool.and_eq_true, decide_eq_true_eq] at hr
    have hlt : ∀ x ∈ p, x.block < W.heap.size := by obtain ⟨m, hm⟩ := h1; exact DataW.trod_lt m _ _ _ hm
    exact ⟨p, q, Below.trod hl hr.1.1 hr.1.2 h1 hb hlt, args_again hl hb hr.2 h2, e⟩
/-- a law's last step -/
theorem law_end {f : Func} {s : ChangeSpec} {W W' : World} {args : Array Value} {v : Value} {ds : List (DataW H)} {ps : List MemPlace} (hl : laidOutB P = true)
    (hr : f.params.toList.all (fun t => P.readableRec t && decide (t < P.types.size)) = true)
    (hW : DataW.Whole enc P f.params.toList s.vars false W args.toList ds [] ps)
    (hA : DataW.TrodAll enc P W 0 (fun _ => true) true f.params.toList args.toList ds ps)
    (hb : Below W.heap.size W W') (hs : (s.fn H (ds ++ [])).args = ds) (hv : s.vars = []) (hv2 : (s.fn H (ds ++ [])).vars = [])
    (hres : DataW.TrodAll enc P W' W.heap.size (fun _ => false) false f.resultTypes.toList (v.resultList f.resultTypes.size) (s.fn H (ds ++ [])).results []) :
    s.post enc P f false true false false W args v W' :=
  ⟨ds, [], ps, [], ps, [], hW, hres, by rw [hs]; exact args_again hl hb hr hA, by rw [hv, hv2]; rfl, hb.frame _, fun h => by cases h⟩
end

def Raw.fits (r : Raw) : Prop := (-9223372036854775808 ≤ r.kind ∧ r.kind ≤ 9223372036854775807) ∧ (-9223372036854775808 ≤ r.n ∧ r.n ≤ 9223372036854775807) ∧ r.s.size ≤ maxLen
theorem wf_i64 {a : Int} (h : (Lit.int .i64 a).wf = true) : -9223372036854775808 ≤ a ∧ a ≤ 9223372036854775807 := by
  have := bounds_i64 h; omega
theorem cell_lt {w : World} {a : Addr} {v : Value} (h : w.cell? a = some v) : a.block < w.heap.size := by
  unfold World.cell? at h
  by_cases hb : a.block < w.heap.size
  · exact hb
  · rw [Array.getElem?_eq_none (by omega)] at h; simp at h
theorem u8_back (a : Int) (h0 : 0 ≤ a) (h1 : a ≤ 255) : ((UInt8.ofNat a.toNat).toNat : Int) = a := by
  rw [UInt8.toNat_ofNat']
  omega
theorem open_bytes {H : Type} {enc : TypeId × Value → H} {W : World} {b0 : Nat} {r : Reach} {v : Value} {d : DataW H} {p : List MemPlace}
    (hv : Value.okWide Try.prog W r b0 109 v) (h : DataW.Trod enc Try.prog W 0 (fun _ => true) true 109 v d p) : ∃ (A : Option Addr) (c : Nat) (l : List UInt8), v = .slice A l.length c ∧ Byt W W.heap.size (.slice A l.length c) l ∧ l.length ≤ maxLen := by
  obtain ⟨a0, len, cap, rfl⟩ := okWide_slice Try.underlying109 hv
  obtain ⟨fuel, hf⟩ := h
  rcases open_ints Try.underlying109 Try.underlying5 (by kernel_rfl) hf with ⟨hcs, _⟩ | ⟨x, n, c, zs, hcs, _, hl, hm, hz, _, hcell, hwz⟩
  · simp [Value.cells] at hcs
    obtain ⟨rfl, rfl, rfl⟩ := hcs
    exact ⟨none, 0, [], rfl, ⟨none, 0, rfl, Nat.le_refl _, fun h => absurd h (by simp)⟩, Nat.zero_le _⟩
  · simp [Value.cells] at hcs
    obtain ⟨rfl, rfl, rfl⟩ := hcs
    have hz : zs.length = cap := by simpa using hz
    have hlen : ((zs.take len).map fun z => UInt8.ofNat z.toNat).length = len := by rw [List.length_map, List.length_take]; omega
    refine ⟨some x, cap, (zs.take len).map fun z => UInt8.ofNat z.toNat, by rw [hlen], ?_, by rw [hlen]; omega⟩
    rw [hlen]
    refine ⟨some x, cap, by rw [hlen], by rw [hlen]; exact hl, fun hn => ?_⟩
    rw [hlen] at hn
    have hc0 := hcell 0 (by omega)
    obtain ⟨b, off, spot⟩ := x
    have hspot : spot = none := by simpa [Addr.add] using World.cell?_spot hc0
    subst hspot
    refine ⟨b, off, rfl, ?_, fun k hk => ?_⟩
    · have := cell_lt hc0; simpa [Addr.add] using this
    · rw [hlen] at hk
      have hk2 : k < zs.length := by omega
      have hc := hcell k hk2
      have e : (⟨b, off, none⟩ : Addr).add k = ⟨b, off + k, none⟩ := by unfold Addr.add; split <;> simp_all
      rw [e] at hc
      rw [hc]
      have hw := bounds_u8 (hwz zs[k] (List.getElem_mem hk2))
      simp only [List.getElem_map, List.getElem_take]
      rw [u8_back _ hw.1 (by omega), List.getD, List.getElem?_eq_getElem hk2]; rfl
/-- behind a piece of code that leaves one frame, whatever its order: what is known of the world -/
def Meet (b : Act) (R : World → Prop) : Exit → Act → World → Prop
  | .normal, a, W => a = b ∧ R W
  | _, _, _ => False
/-- a world that has been laid gets a name -/
theorem wp_world {P : Program} {c : Code} {Q : Exit → Act → World → Prop} {a : Act} {w : World} (R : World → Prop) (h : R w) (k : ∀ W, R W → c.wp P Q a W) : c.wp P Q a w := k w h
theorem meet_intro {a b : Act} {R : World → Prop} {W : World} (h : a = b) (hr : R W) : Meet b R .normal a W := ⟨h, hr⟩
/-- three cells at a block's head, which may be written -/
def Box3 (w : World) (g : Nat) (a b c : Value) : Prop :=
  (w.cell? ⟨g, 0, none⟩ = some a ∧ w.cell? ⟨g, 1, none⟩ = some b ∧ w.cell? ⟨g, 2, none⟩ = some c) ∧ w.frozen? ⟨g, 0, none⟩ = false ∧ w.frozen? ⟨g, 1, none⟩ = false ∧ w.frozen? ⟨g, 2, none⟩ = false
theorem Box3.below {w w' : World} {B g : Nat} {a b c : Value} (h : Box3 w g a b c) (hb : Below B w w') (hg : g < B) : Box3 w' g a b c := by
  obtain ⟨⟨h0, h1, h2⟩, f0, f1, f2⟩ := h
  exact ⟨⟨(hb.cell (p := ⟨g, 0, none⟩) hg).trans h0, (hb.cell (p := ⟨g, 1, none⟩) hg).trans h1, (hb.cell (p := ⟨g, 2, none⟩) hg).trans h2⟩, (hb.frozen (p := ⟨g, 0, none⟩) hg).trans f0, (hb.frozen (p := ⟨g, 1, none⟩) hg).trans f1, (hb.frozen (p := ⟨g, 2, none⟩) hg).trans f2⟩
theorem Box3.drew {w : World} {g : Nat} {a b c : Value} (h : Box3 w g a b c) : Box3 w.drew g a b c := h
theorem cell_far (w : World) (p a : Addr) (v : Value) (h : p.block ≠ a.block) : (w.setCell p v).cell? a = w.cell? a := World.cell?_setCell_other _ _ _ _ (fun e => h (by rw [e]))
theorem Box3.far {w : World} {p : Addr} {v : Value} {g : Nat} {a b c : Value} (h : Box3 w g a b c) (hg : p.block ≠ g) : Box3 (w.setCell p v) g a b c := by
  obtain ⟨⟨h0, h1, h2⟩, f0, f1, f2⟩ := h
  exact ⟨⟨(cell_far w p _ v hg).trans h0, (cell_far w p _ v hg).trans h1, (cell_far w p _ v hg).trans h2⟩, (World.frozen?_setCell _ _ _ _).trans f0, (World.frozen?_setCell _ _ _ _).trans f1, (World.frozen?_setCell _ _ _ _).trans f2⟩
theorem Box3.set0 {w : World} {v : Value} {g : Nat} {a b c : Value} (h : Box3 w g a b c) : Box3 (w.setCell ⟨g, 0, none⟩ v) g v b c := by
  obtain ⟨⟨h0, h1, h2⟩, f0, f1, f2⟩ := h
  exact ⟨⟨World.cell?_setCell_same _ _ _ h0, (World.cell?_setCell_other _ _ _ _ (by simp)).trans h1, (World.cell?_setCell_other _ _ _ _ (by simp)).trans h2⟩, (World.frozen?_setCell _ _ _ _).trans f0, (World.frozen?_setCell _ _ _ _).trans f1, (World.frozen?_setCell _ _ _ _).trans f2⟩
theorem Box3.set1 {w : World} {v : Value} {g : Nat} {a b c : Value} (h : Box3 w g a b c) : Box3 (w.setCell ⟨g, 1, none⟩ v) g a v c := by
  obtain ⟨⟨h0, h1, h2⟩, f0, f1, f2⟩ := h
  exact ⟨⟨(World.cell?_setCell_other _ _ _ _ (by simp)).trans h0, World.cell?_setCell_same _ _ _ h1, (World.cell?_setCell_other _ _ _ _ (by simp)).trans h2⟩, (World.frozen?_setCell _ _ _ _).trans f0, (World.frozen?_setCell _ _ _ _).trans f1, (World.frozen?_setCell _ _ _ _).trans f2⟩
theorem Box3.set2 {w : World} {v : Value} {g : Nat} {a b c : Value} (h : Box3 w g a b c) : Box3 (w.setCell ⟨g, 2, none⟩ v) g a b v := by
  obtain ⟨⟨h0, h1, h2⟩, f0, f1, f2⟩ := h
  exact ⟨⟨(World.cell?_setCell_other _ _ _ _ (by simp)).trans h0, (World.cell?_setCell_other _ _ _ _ (by simp)).trans h1, World.cell?_setCell_same _ _ _ h2⟩, (World.frozen?_setCell _ _ _ _).trans f0, (World.frozen?_setCell _ _ _ _).trans f1, (World.frozen?_setCell _ _ _ _).trans f2⟩
theorem Box3.set {w : World} {x y z : Value} {g : Nat} {a b c : Value} (h : Box3 w g a b c) : Box3 (((w.setCell ⟨g, 0, none⟩ x).setCell ⟨g, 1, none⟩ y).setCell ⟨g, 2, none⟩ z) g x y z := h.set0.set1.set2
theorem Box3.fars {w : World} {x y z : Value} {g k : Nat} {a b c : Value} (h : Box3 w g a b c) (hk : k ≠ g) : Box3 (((w.setCell ⟨k, 0, none⟩ x).setCell ⟨k, 1, none⟩ y).setCell ⟨k, 2, none⟩ z) g a b c := ((h.far hk).far hk).far hk
theorem wp_meet {P : Program} {c : Code} {Q : Exit → Act → World → Prop} {a b : Act} {w : World} {R : World → Prop} (h1 : c.wp P (Meet b R) a w) (h2 : ∀ W, R W → Q .normal b W) : c.wp P Q a w :=
  Code.wp_mono (fun e a' w' h => by
    cases e <;> first | exact h.elim | skip
    obtain ⟨rfl, h⟩ := h
    exact h2 _ h) h1
end Go.Proofs.Ytoekiencnbgmhaa
/-
  A row of bytes that the call owns, and what is put behind it: the bytes of any slice that is there, one byte, a text.
  The rows are shorter than the model's bound on what append makes.
-/
set_option linter.unusedSimpArgs false
set_option linter.unusedVariables false
namespace Go.Proofs.Ytoekiencnbgmhaa
open Go.RowKit
set_option maxRecDepth 100000

theorem append_nil {w : World} {B n c : Nat} {v : Value} {xs : List Value} (ty : TypeId) (hown : w.ownsRow B 5 1 v n xs) :
    (Builtin.append_ #[109, 109] ty #[v, .slice none 0 c]).run Try.prog w = .ok v w := by
  obtain ⟨iR, hiR, _, _, _⟩ := info_parts Try.infoU8
  rcases hown.2 with ⟨rfl, rfl⟩ | ⟨g, cap, cur, rfl, _, _, hnc, _⟩
  · simp [Builtin.append_, run_underlying Try.underlying109, sizeOf, typeInfo, hiR, Builtin.lenOf, Builtin.firstCells]
  · simp [Builtin.append_, run_underlying Try.underlying109, sizeOf, typeInfo, hiR, Builtin.lenOf, Builtin.firstCells, hnc, storeCells]

theorem grownBy_refl (w : World) (r : Option Nat) : w.grownBy w r := ⟨rfl, rfl, rfl, Nat.le_refl _, fun _ _ _ => rfl⟩
theorem bytes_len (l : List UInt8) : (Lib.byteCells l).length = l.length := by simp [Lib.byteCells]

/-- append: nothing but the old row may have turned; the new row lies in the old one's block or in a new one -/
def Grew (v : Value) (w : World) (v' : Value) (w' : World) : Prop := w.grownBy w' v.ownBlock ∧ (v'.ownBlock = v.ownBlock ∨ v'.ownBlock = some w.heap.size)
theorem Grew.range {v v' : Value} {w w' : World} {g o : Nat} {cs : List Value} (h : Grew v w v' w') (hr : w.rangeAt g o cs) (hg : v.ownBlock ≠ some g) : w'.rangeAt g o cs := fun j u hj => h.1.cell (hr j u hj) (fun e => hg e.symm)
theorem Grew.cell {v v' : Value} {w w' : World} {p : Addr} {u : Value} (h : Grew v w v' w') (hr : w.cell? p = some u) (hg : v.ownBlock ≠ some p.block) : w'.cell? p = some u := h.1.cell hr (fun e => hg e.symm)
theorem Grew.apart {v v' : Value} {w w' : World} {g : Nat} (h : Grew v w v' w') (hs : g < w.heap.size) (hg : v.ownBlock ≠ some g) : v'.ownBlock ≠ some g := by
  rcases h.2 with e | e
  · rw [e]; exact hg
  · rw [e]; intro e2; injection e2 with e2; omega
/-- what stands in a slice is put behind a row of one's own -/
theorem wp_append_byt_at {w : World} {o : Oper} {a : Act} {K : Act → World → Prop} {Q : Exit → Act → World → Prop} (s x : Operand)
    (ho : o.op = .call { callee := .builtin .append, args := #[s, x], argTypes := #[109, 109] })
    (B C : Nat) (v u : Value) (l m : List UInt8) (hs : a.eval s = v) (hown : OwnB B v l w) (hx : a.eval x = u) (hu : Byt w C u m) (hlm : l.length + m.length ≤ 140737488355328) (hB : B ≤ w.heap.size)
    (h : ∀ v' w', OwnB B v' (l ++ m) w' → Below B w w' → Grew v w v' w' → K (a.put o.dst v') w') : o.wp Try.prog a w K Q := by
  obtain ⟨iR, hiR, hzR0, hzR1, hzR2⟩ := info_parts Try.infoU8
  obtain ⟨A, c, rfl, hc, hcell⟩ := hu
  have hgr := fun (w' : World) (hg : w.grownBy w' v.ownBlock) => (Below.refl B w).grown hg hB (fun g hg => (hown.lt g hg).1)
  unfold OwnB at hown
  cases A with
  | some ad =>
    obtain ⟨v', w', hr, h2, h3, _, h5⟩ := run_append_own_at (P := Try.prog) w B 109 o.type 5 iR (.int .u8 0) 1 1 Try.underlying109 hiR hzR0 hzR1 hzR2 rfl (by decide) v l.length _ hown ad m.length c (Lib.byteCells m) (by rw [bytes_len]; omega)
      (by
        intro j z hj
        have hjm : j < m.length := by
          have := (List.getElem?_eq_some_iff.1 hj).1; rwa [bytes_len] at this
        obtain ⟨g, oo, hA, _, hcs⟩ := hcell (by omega)
        injection hA with hA; subst hA
        have e1 : (⟨g, oo, Option.none⟩ : Addr).add j = ⟨g, oo + j, Option.none⟩ := by unfold Addr.add; split <;> simp_all
        rw [e1, hcs j hjm]
        unfold Lib.byteCells at hj; rw [List.getElem?_map, List.getElem?_eq_getElem hjm] at hj; simpa using hj) (byteCells_one m) (by unfold maxLen; omega) (by omega) hB
    unfold Oper.wp execOp
    simp only [ho, resolve, invoke, builtin, Sem.run_bind, Sem.run_pure, Result.andThen_ok, List.map_toArray, List.map_cons, List.map_nil, hs, hx, hr]
    refine h v' w' ?_ (hgr w' h3) ⟨h3, h5⟩
    unfold OwnB; rw [Lib.byteCells_append, List.length_append]; exact h2
  | none =>
    have hm : m = [] := by
      cases m with
      | nil => rfl
      | cons y t => obtain ⟨g, oo, hA, _⟩ := hcell (by simp); cases hA
    subst hm
    have hrun := append_nil (c := c) o.type hown
    unfold Oper.wp
    simp [execOp, ho, resolve, invoke, builtin, hs, hx, hrun, Result.andThen]
    refine h v w ?_ (Below.refl _ _) ⟨grownBy_refl _ _, .inl rfl⟩
    unfold OwnB; rw [List.append_nil]; exact hown
theorem wpList_append_byt_at {w : World} {ops : Array Oper} {rest : List Oper} {o : Oper} {a : Act} {Q : Exit → Act → World → Prop} (hgd : o.guard = none) (s x : Operand)
    (ho : o.op = .call { callee := .builtin .append, args := #[s, x], argTypes := #[109, 109] })
    (B C : Nat) (v u : Value) (l m : List UInt8) (hs : a.eval s = v) (hown : OwnB B v l w) (hx : a.eval x = u) (hu : Byt w C u m) (hlm : l.length + m.length ≤ 140737488355328) (hB : B ≤ w.heap.size)
    (h : ∀ v' w', OwnB B v' (l ++ m) w' → Below B w w' → Grew v w v' w' → wpList Try.prog ops Q rest (a.put o.dst v') w') : wpList Try.prog ops Q (o :: rest) a w :=
  wpList_plain hgd fun _ hK => wp_append_byt_at s x ho B C v u l m hs hown hx hu hlm hB fun v' w' h1 h2 h3 => hK _ _ (h v' w' h1 h2 h3)
/-- cells of block g stand -/
def Stands (g : Nat) (w w' : World) : Prop := ∀ (p : Addr) (v : Value), p.block = g → w.cell? p = some v → w'.cell? p = some v
theorem stands_below {w w' : World} {B g : Nat} (hb : Below B w w') (hg : g < B) : Stands g w w' := fun p _ hp h => (hb.cell (p := p) (by rw [hp]; exact hg)).trans h
theorem stands_grew {w w' : World} {v v' : Value} {g : Nat} (h : Grew v w v' w') (hg : v.ownBlock ≠ some g) : Stands g w w' := fun p _ hp hc => h.cell hc (by rw [hp]; exact hg)
theorem Stands.six {g a b c d e f : Nat} {va vb vc vd ve vf : Value} {w w' : World} (h : Stands g w w')
    (k : w.cell? ⟨g, a, Option.none⟩ = some va ∧ w.cell? ⟨g, b, Option.none⟩ = some vb ∧ w.cell? ⟨g, c, Option.none⟩ = some vc ∧ w.cell? ⟨g, d, Option.none⟩ = some vd ∧ w.cell? ⟨g, e, Option.none⟩ = some ve ∧ w.cell? ⟨g, f, Option.none⟩ = some vf) :
    w'.cell? ⟨g, a, Option.none⟩ = some va ∧ w'.cell? ⟨g, b, Option.none⟩ = some vb ∧ w'.cell? ⟨g, c, Option.none⟩ = some vc ∧ w'.cell? ⟨g, d, Option.none⟩ = some vd ∧ w'.cell? ⟨g, e, Option.none⟩ = some ve ∧ w'.cell? ⟨g, f, Option.none⟩ = some vf :=
  ⟨h _ _ rfl k.1, h _ _ rfl k.2.1, h _ _ rfl k.2.2.1, h _ _ rfl k.2.2.2.1, h _ _ rfl k.2.2.2.2.1, h _ _ rfl k.2.2.2.2.2⟩
theorem wpList_append_byt {w : World} {ops : Array Oper} {rest : List Oper} {o : Oper} {a : Act} {Q : Exit → Act → World → Prop} (hgd : o.guard = none) (s x : Operand)
    (ho : o.op = .call { callee := .builtin .append, args := #[s, x], argTypes := #[109, 109] })
    (B C : Nat) (v u : Value) (l m : List UInt8) (hs : a.eval s = v) (hown : OwnB B v l w) (hx : a.eval x = u) (hu : Byt w C u m) (hlm : l.length + m.length ≤ 140737488355328) (hB : B ≤ w.heap.size)
    (h : ∀ v' w', OwnB B v' (l ++ m) w' → Below B w w' → wpList Try.prog ops Q rest (a.put o.dst v') w') : wpList Try.prog ops Q (o :: rest) a w :=
  wpList_append_byt_at hgd s x ho B C v u l m hs hown hx hu hlm hB fun v' w' h1 h2 _ => h v' w' h1 h2

/-- a block of bytes that has just been laid -/
theorem byt_new (w : World) (C : Array Value) (t : TypeId) (m : List UInt8) (hC : C = (Lib.byteCells m).toArray) : Byt (w.alloc (.cells C t)) (w.heap.size + 1) (.slice (some ⟨w.heap.size, 0, Option.none⟩) m.length m.length) m := by
  refine ⟨_, _, rfl, Nat.le_refl _, fun _ => ⟨w.heap.size, 0, rfl, by omega, fun k hk => ?_⟩⟩
  rw [World.cell?_alloc_mark, hC]
  simp [Lib.byteCells, hk]
theorem byt_new1 (w : World) (t : TypeId) (a : Int) (c : UInt8) (h : a = (c.toNat : Int)) : Byt (w.alloc (.cells #[.int .u8 a] t)) (w.heap.size + 1) (.slice (some ⟨w.heap.size, 0, Option.none⟩) 1 1) [c] :=
  byt_new w _ t [c] (by rw [h]; rfl)
theorem byt_new4 (w : World) (t : TypeId) (a b c d : Int) (x y z u : UInt8) (h : a = (x.toNat : Int)) (h2 : b = (y.toNat : Int)) (h3 : c = (z.toNat : Int)) (h4 : d = (u.toNat : Int)) : Byt (w.alloc (.cells #[.int .u8 a, .int .u8 b, .int .u8 c, .int .u8 d] t)) (w.heap.size + 1) (.slice (some ⟨w.heap.size, 0, Option.none⟩) 4 4) [x, y, z, u] :=
  byt_new w _ t [x, y, z, u] (by rw [h, h2, h3, h4]; rfl)
/-- a block of bytes that has just been laid is one's own -/
theorem own_new (w : World) (C : Array Value) (m : List UInt8) (hC : C = (Lib.byteCells m).toArray) (hm : m.length ≤ 1050000) : OwnB w.heap.size (.slice (some ⟨w.heap.size, 0, Option.none⟩) m.length m.length) m (w.alloc (.cells C 5)) := by
  have h := World.ownsRow_lit (base := w.heap.size) (e := 5) (size := 1) w C m.length (Nat.le_refl _) (by unfold maxLen; omega) (by rw [hC]; simp [bytes_len])
  rw [hC] at h ⊢
  exact h
/-- a text is put behind a row of one's own -/
theorem wpList_append_text {w : World} {ops : Array Oper} {rest : List Oper} {o : Oper} {a : Act} {Q : Exit → Act → World → Prop} (hgd : o.guard = none) (s x : Operand)
    (ho : o.op = .call { callee := .builtin .append, args := #[s, x], argTypes := #[109, 9] })
    (B : Nat) (v : Value) (l : List UInt8) (m : ByteArray) (hs : a.eval s = v) (hown : OwnB B v l w) (hx : a.eval x = .string m) (hlm : l.length + m.size ≤ 140737488355328) (hB : B ≤ w.heap.size)
    (h : ∀ v' w', OwnB B v' (l ++ m.data.toList) w' → Below B w w' → wpList Try.prog ops Q rest (a.put o.dst v') w') : wpList Try.prog ops Q (o :: rest) a w := by
  obtain ⟨iR, hiR, hzR0, hzR1, hzR2⟩ := info_parts Try.infoU8
  have hgr := fun (w' : World) (hg : w.grownBy w' v.ownBlock) => (Below.refl B w).grown hg hB (fun g hg => (hown.lt g hg).1)
  unfold OwnB at hown
  refine Lib.wpList_append_own_string w hgd s x 109 9 ho B 5 iR Try.underlying109 Try.underlying9 hiR hzR0 hzR1 hzR2 v l.length _ hs hown m hx (by unfold maxLen; omega) (by omega) hB ?_
  intro v' w' h1 h2 _
  refine h v' w' ?_ (hgr w' h2)
  have e : m.data.toList.length = m.size := by rw [Array.length_toList]; rfl
  unfold OwnB; rw [Lib.byteCells_append, List.length_append, e]; exact h1
end Go.Proofs.Ytoekiencnbgmhaa
/-
  A disk's files as plain data: put into their place by name, told by name; what a crash leaves.
  There are no conditions.
-/
set_option linter.unusedSimpArgs false
set_option linter.unusedVariables false
namespace Go.Proofs.Ytoekiencnbgmhaa
open Go.RowKit
set_option maxRecDepth 100000

/-- a file: its name, its bytes, how many of them last, whether it is there for good -/
structure Fil where
  name : ByteArray
  b : List UInt8
  fast : Nat
  there : Bool
def low8 (c : UInt8) : Bool := decide (97 ≤ c.toNat ∧ c.toNat ≤ 122)
/-- may a file be called so? -/
def goodN (s : ByteArray) : Bool := s.data.toList.all low8 && decide (1 ≤ s.size ∧ s.size ≤ 10)
/-- how many loose bytes of a file stay -/
def kOf9 (n : Int) (f : Fil) : Nat := if 0 < n then (n.tmod ((f.b.length : Int) - f.fast + 1)).toNat else 0
/-- what a crash leaves of a file -/
def left9 (n : Int) (f : Fil) : List Fil := if f.there = true ∨ 0 < kOf9 n f then [⟨f.name, f.b.take (f.fast + kOf9 n f), f.fast + kOf9 n f, true⟩] else []
def crash9 (n : Int) (l : List Fil) : List Fil := l.flatMap (left9 n)
theorem kOf9_le {n : Int} {f : Fil} (h : f.fast ≤ f.b.length) : f.fast + kOf9 n f ≤ f.b.length := by
  unfold kOf9
  split
  · have h1 := Int.tmod_lt_of_pos n (show (0 : Int) < (f.b.length : Int) - f.fast + 1 by omega)
    omega
  · omega
theorem kOf9_pos {n : Int} {f : Fil} (h : 0 < n) (hf : f.fast ≤ f.b.length) : n.tmod ((f.b.length : Int) - f.fast + 1) = (kOf9 n f : Nat) := by
  unfold kOf9
  rw [if_pos h]
  have := Int.tmod_nonneg ((f.b.length : Int) - f.fast + 1) (show 0 ≤ n by omega)
  omega
theorem kOf9_neg {n : Int} {f : Fil} (h : ¬ 0 < n) : kOf9 n f = 0 := by unfold kOf9; rw [if_neg h]
/-- one name ahead of another -/
def ltK (a b : ByteArray) : Bool := bytesBefore a.data.toList b.data.toList
theorem ltK_irrefl (a : ByteArray) : ltK a a = false := WideShapes.before_irrefl (.string a.data.toList)
theorem ltK_trans {a b c : ByteArray} (h1 : ltK a b = true) (h2 : ltK b c = true) : ltK a c = true := WideShapes.before_trans (a := .string a.data.toList) (b := .string b.data.toList) (c := .string c.data.toList) h1 h2
theorem name_ext {a b : ByteArray} (h : a.data.toList = b.data.toList) : a = b := by
  cases a; cases b; congr 1; exact Array.toList_inj.1 h
theorem ltK_total {a b : ByteArray} (h : a ≠ b) (h2 : ltK a b = false) : ltK b a = true := by
  rcases ChangeMaps.before_total (a := .string a.data.toList) (b := .string b.data.toList) ⟨_, rfl⟩ ⟨_, rfl⟩ (fun e => h (name_ext (by injection e))) with h3 | h3
  · have h4 : ltK a b = true := h3
    rw [h2] at h4; cases h4
  · exact h3
theorem ltK_ne {a b : ByteArray} (h : ltK a b = true) : a ≠ b := fun e => by rw [e, ltK_irrefl] at h; cases h
def Sorted9 (l : List Fil) : Prop := l.Pairwise fun x y => ltK x.name y.name = true
def Good9 (f : Fil) : Prop := goodN f.name = true ∧ f.fast ≤ f.b.length ∧ f.b.length ≤ 1048576 ∧ (f.there = false → f.fast = 0)
/-- the file of that name -/
def getF (n : ByteArray) (l : List Fil) : Option Fil := l.find? fun f => decide (f.name = n)
/-- a file put in its place -/
def setF (f : Fil) : List Fil → List Fil
  | [] => [f]
  | x :: t => if f.name = x.name then f :: t else if ltK f.name x.name = true then f :: x :: t else x :: setF f t
/-- the same of files with what holds their bytes -/
def setP (q : Fil × Value) : List (Fil × Value) → List (Fil × Value)
  | [] => [q]
  | x :: t => if q.1.name = x.1.name then q :: t else if ltK q.1.name x.1.name = true then q :: x :: t else x :: setP q t
theorem setP_map (q : Fil × Value) (ps : List (Fil × Value)) : (setP q ps).map (·.1) = setF q.1 (ps.map (·.1)) := by
  induction ps with
  | nil => rfl
  | cons x t ih =>
    unfold setP; rw [List.map_cons]; unfold setF
    split
    · rfl
    · split
      · rfl
      · rw [List.map_cons, ih]
theorem setP_mem {q p : Fil × Value} {ps : List (Fil × Value)} (hp : p ∈ setP q ps) : p = q ∨ p ∈ ps := by
  induction ps with
  | nil => left; simpa [setP] using hp
  | cons x t ih =>
    unfold setP at hp
    split at hp
    · rcases List.mem_cons.1 hp with h | h
      · exact .inl h
      · exact .inr (List.mem_cons_of_mem _ h)
    · split at hp
      · rcases List.mem_cons.1 hp with h | h
        · exact .inl h
        · exact .inr h
      · rcases List.mem_cons.1 hp with h | h
        · exact .inr (by rw [h]; exact List.mem_cons_self)
        · rcases ih h with h | h
          · exact .inl h
          · exact .inr (List.mem_cons_of_mem _ h)
theorem setF_mem {f x : Fil} {l : List Fil} (hp : x ∈ setF f l) : x = f ∨ x ∈ l := by
  induction l with
  | nil => left; simpa [setF] using hp
  | cons y t ih =>
    unfold setF at hp
    split at hp
    · rcases List.mem_cons.1 hp with h | h
      · exact .inl h
      · exact .inr (List.mem_cons_of_mem _ h)
    · split at hp
      · rcases List.mem_cons.1 hp with h | h
        · exact .inl h
        · exact .inr h
      · rcases List.mem_cons.1 hp with h | h
        · exact .inr (by rw [h]; exact List.mem_cons_self)
        · rcases ih h with h | h
          · exact .inl h
          · exact .inr (List.mem_cons_of_mem _ h)
/-- in a sorted list: no other file of that name stays -/
theorem setP_mem_ne {q p : Fil × Value} {ps : List (Fil × Value)} (hs : ps.Pairwise fun x y => ltK x.1.name y.1.name = true) (hp : p ∈ setP q ps) : p = q ∨ (p ∈ ps ∧ p.1.name ≠ q.1.name) := by
  induction ps with
  | nil => left; simpa [setP] using hp
  | cons x t ih =>
    obtain ⟨h1, h2⟩ := List.pairwise_cons.1 hs
    unfold setP at hp
    split at hp
    · rename_i he
      rcases List.mem_cons.1 hp with h | h
      · exact .inl h
      · exact .inr ⟨List.mem_cons_of_mem _ h, by rw [he]; exact (ltK_ne (h1 p h)).symm⟩
    · rename_i hne
      split at hp
      · rename_i hlt
        rcases List.mem_cons.1 hp with h | h
        · exact .inl h
        · refine .inr ⟨h, ?_⟩
          rcases List.mem_cons.1 h with h | h
          · rw [h]; exact (ltK_ne hlt).symm
          · exact (ltK_ne (ltK_trans hlt (h1 p h))).symm
      · rcases List.mem_cons.1 hp with h | h
        · exact .inr ⟨by rw [h]; exact List.mem_cons_self, by rw [h]; exact fun e => hne e.symm⟩
        · rcases ih h2 h with h | h
          · exact .inl h
          · exact .inr ⟨List.mem_cons_of_mem _ h.1, h.2⟩
theorem setF_sorted {f : Fil} {l : List Fil} (h : Sorted9 l) : Sorted9 (setF f l) := by
  unfold Sorted9 at *
  induction l with
  | nil => simp [setF]
  | cons x t ih =>
    obtain ⟨h1, h2⟩ := List.pairwise_cons.1 h
    unfold setF
    split
    · rename_i he
      exact List.pairwise_cons.2 ⟨fun y hy => by rw [he]; exact h1 y hy, h2⟩
    · rename_i hne
      split
      · rename_i hlt
        refine List.pairwise_cons.2 ⟨fun y hy => ?_, h⟩
        rcases List.mem_cons.1 hy with e | hy
        · rw [e]; exact hlt
        · exact ltK_trans hlt (h1 y hy)
      · rename_i hlt
        refine List.pairwise_cons.2 ⟨fun y hy => ?_, ih h2⟩
        rcases setF_mem hy with e | hy
        · rw [e]; exact ltK_total hne (by simpa using hlt)
        · exact h1 y hy
theorem setF_len (f : Fil) (l : List Fil) : (setF f l).length ≤ l.length + 1 := by
  induction l with
  | nil => exact Nat.le_refl _
  | cons x t ih =>
    unfold setF
    split
    · exact Nat.le_succ _
    · split
      · exact Nat.le_refl _
      · rw [List.length_cons, List.length_cons]; omega
/-- a file told that was just put -/
theorem getF_set (f : Fil) (l : List Fil) : getF f.name (setF f l) = some f := by
  unfold getF
  induction l with
  | nil => simp [setF]
  | cons x t ih =>
    unfold setF
    split
    · simp
    · rename_i hne
      split
      · simp
      · rw [List.find?_cons_of_neg (by simpa using fun e : x.name = f.name => hne e.symm)]; exact ih
theorem getF_mem {n : ByteArray} {l : List Fil} {f : Fil} (h : getF n l = some f) : f ∈ l ∧ f.name = n := by
  unfold getF at h
  exact ⟨List.mem_of_find?_eq_some h, by simpa using List.find?_some h⟩

/-! ### the map's datum -/
def kq (p : Fil × Value) : Lit × DataW Value := (.string p.1.name.data.toList, .held (.agg #[p.2, .int .i64 ((p.1.fast : Nat) : Int), .bool p.1.there]))
def DD (ps : List (Fil × Value)) : DataW Value := .map (ps.map kq)
def RH (v : Value) : Option (DataW Value × List MemPlace) := some (.held v, [])
theorem same_name {a b : ByteArray} : (Lit.string a.data.toList).sameKey (.string b.data.toList) = decide (a = b) := by
  by_cases h : a = b
  · subst h; simp [Lit.sameKey]
  · have h2 : ¬ a.data.toList = b.data.toList := fun e => h (name_ext e)
    rw [decide_eq_false h]
    show (a.data.toList == b.data.toList) = false
    exact beq_eq_false_iff_ne.2 h2
theorem filter_all9 {n : ByteArray} {t : List (Fil × Value)} (h : ∀ p ∈ t, p.1.name ≠ n) : (t.map kq).filter (fun p => !p.1.sameKey (.string n.data.toList)) = t.map kq := by
  rw [List.filter_eq_self]
  intro a ha
  obtain ⟨p, hp, rfl⟩ := List.mem_map.1 ha
  show (!(Lit.string p.1.name.data.toList).sameKey (.string n.data.toList)) = true
  rw [same_name, decide_eq_false (h p hp)]; rfl
theorem insert_head9 {q : Fil × Value} {t : List (Fil × Value)} (h : ∀ p ∈ t, ltK q.1.name p.1.name = true) : DataW.insert (kq q) (t.map kq) = (q :: t).map kq := by
  cases t with
  | nil => rfl
  | cons x t =>
    rw [List.map_cons]
    unfold DataW.insert
    rw [if_pos (show (kq q).1.before (kq x).1 = true from h x List.mem_cons_self)]; rfl
theorem put_list9 (q : Fil × Value) (ps : List (Fil × Value)) (hs : ps.Pairwise fun x y => ltK x.1.name y.1.name = true) :
    DataW.insert (kq q) ((ps.map kq).filter fun p => !p.1.sameKey (.string q.1.name.data.toList)) = (setP q ps).map kq := by
  induction ps with
  | nil => rfl
  | cons x t ih =>
    obtain ⟨h1, h2⟩ := List.pairwise_cons.1 hs
    unfold setP
    rw [List.map_cons]
    split
    · rename_i he
      rw [List.filter_cons_of_neg (by show ¬ (!(Lit.string x.1.name.data.toList).sameKey (.string q.1.name.data.toList)) = true; rw [same_name, decide_eq_true he.symm]; simp)]
      rw [filter_all9 (fun p hp => by rw [he]; exact (ltK_ne (h1 p hp)).symm)]
      exact insert_head9 (fun p hp => by rw [he]; exact h1 p hp)
    · rename_i hne
      rw [List.filter_cons_of_pos (by show (!(Lit.string x.1.name.data.toList).sameKey (.string q.1.name.data.toList)) = true; rw [same_name, decide_eq_false (fun e => hne e.symm)]; rfl)]
      split
      · rename_i hlt
        rw [filter_all9 (fun p hp => (ltK_ne (ltK_trans hlt (h1 p hp))).symm), ← List.map_cons]
        refine insert_head9 (fun p hp => ?_)
        rcases List.mem_cons.1 hp with e | hp
        · rw [e]; exact hlt
        · exact ltK_trans hlt (h1 p hp)
      · rename_i hlt
        unfold DataW.insert
        rw [if_neg (show ¬ (kq q).1.before (kq x).1 = true from hlt), ih h2]; rfl
theorem dd_put (q : Fil × Value) (ps : List (Fil × Value)) (hs : ps.Pairwise fun x y => ltK x.1.name y.1.name = true) : (DD ps).put (.string q.1.name.data.toList) (kq q).2 = DD (setP q ps) := congrArg DataW.map (put_list9 q ps hs)
theorem dd_has (n : ByteArray) (ps : List (Fil × Value)) : Maps.has (DD ps) (.string n.data.toList) = ps.any fun p => decide (p.1.name = n) := by
  show (ps.map kq).any _ = _
  rw [List.any_map]
  congr 1; funext p
  exact same_name
theorem dd_at (n : ByteArray) (ps : List (Fil × Value)) (z : DataW Value) : (DD ps).atKey (.string n.data.toList) z = (match ps.find? (fun p => decide (p.1.name = n)) with | some p => (kq p).2 | none => z) := by
  unfold DD DataW.atKey
  simp only
  rw [List.find?_map]
  have e : ((fun p : Lit × DataW Value => p.1.sameKey (.string n.data.toList)) ∘ kq) = fun p : Fil × Value => decide (p.1.name = n) := by funext p; exact same_name
  rw [e]
  cases ps.find? (fun p => decide (p.1.name = n)) <;> rfl
theorem dd_size (ps : List (Fil × Value)) : Maps.size (DD ps) = ps.length := by
  show (ps.map kq).length = _
  rw [List.length_map]
theorem dd_keys (ps : List (Fil × Value)) : strKeys (DD ps) = ps.map fun p => p.1.name.data.toList := by
  show (ps.map kq).map _ = _
  rw [List.map_map]; rfl
theorem find_map9 (n : ByteArray) (ps : List (Fil × Value)) : getF n (ps.map (·.1)) = (ps.find? fun p => decide (p.1.name = n)).map (·.1) := by
  unfold getF
  rw [List.find?_map]; rfl
end Go.Proofs.Ytoekiencnbgmhaa
/-
  Lists of servers, plainly: which may be, one more, one less, who is more than half, the middle one.
  There are no conditions beyond those that each lemma names.
-/
set_option linter.unusedSimpArgs false
set_option linter.unusedVariables false
namespace Go.Proofs.Ytoekiencnbgmhaa
set_option maxRecDepth 100000

/-- rising behind p, up to seven -/
def mayF : Int → List Int → Bool
  | _, [] => true
  | p, x :: xs => decide (p < x) && decide (x ≤ 7) && mayF x xs
def may12 (l : List Int) : Bool := mayF 0 l && decide (0 < l.length)
/-- all lists that rise beyond 7 - n, up to seven -/
def subs : Nat → List (List Int)
  | 0 => [[]]
  | n + 1 => subs n ++ (subs n).map (fun l => (7 - (n : Int)) :: l)
theorem subs_nil : ∀ n, [] ∈ subs n
  | 0 => by simp [subs]
  | n + 1 => by unfold subs; exact List.mem_append_left _ (subs_nil n)
theorem mayF_subs : ∀ (n : Nat) (l : List Int), n ≤ 7 → mayF (7 - (n : Int)) l = true → l ∈ subs n
  | n, [], _, _ => subs_nil n
  | 0, x :: xs, _, h => by simp [mayF] at h; omega
  | n + 1, x :: xs, hn, h => by
    have h' := h
    simp only [mayF, Bool.and_eq_true, decide_eq_true_eq] at h
    unfold subs
    by_cases e : x = 7 - (n : Int)
    · subst e
      exact List.mem_append_right _ (List.mem_map.2 ⟨xs, mayF_subs n xs (by omega) h.2, rfl⟩)
    · refine List.mem_append_left _ (mayF_subs n (x :: xs) (by omega) ?_)
      simp only [mayF, Bool.and_eq_true, decide_eq_true_eq]
      exact ⟨⟨by omega, h.1.2⟩, h.2⟩
theorem may_subs {l : List Int} (h : mayF 0 l = true) : l ∈ subs 7 := mayF_subs 7 l (Nat.le_refl _) h
/-- what holds of all of them -/
theorem all_may {P : List Int → Bool} (h : (subs 7).all P = true) {l : List Int} (hl : mayF 0 l = true) : P l = true := List.all_eq_true.1 h l (may_subs hl)
def ids : List Int := [1, 2, 3, 4, 5, 6, 7]
theorem ids_mem {k : Int} (h0 : 1 ≤ k) (h1 : k ≤ 7) : k ∈ ids := by
  have : k = 1 ∨ k = 2 ∨ k = 3 ∨ k = 4 ∨ k = 5 ∨ k = 6 ∨ k = 7 := by omega
  rcases this with h | h | h | h | h | h | h <;> subst h <;> simp [ids]
theorem all_may2 {P : List Int → Int → Bool} (h : ((subs 7).all fun l => ids.all (P l)) = true) {l : List Int} (hl : mayF 0 l = true) {k : Int} (h0 : 1 ≤ k) (h1 : k ≤ 7) : P l k = true :=
  List.all_eq_true.1 (all_may (P := fun l => ids.all (P l)) h hl) k (ids_mem h0 h1)

/-- one more: where it goes -/
def ins12 (l : List Int) (k : Int) : List Int := l.take (l.countP (· < k)) ++ [k] ++ l.drop (l.countP (· < k))
def del12 (l : List Int) (k : Int) : List Int := l.take (l.countP (· < k)) ++ l.drop (l.countP (· < k) + 1)
def add12 (l : List Int) (k : Int) : Option (List Int) := if may12 l = true ∧ may12 [k] = true ∧ l.contains k = false then some (ins12 l k) else none
def rem12 (l : List Int) (k : Int) : Option (List Int) := if may12 l = true ∧ l.length ≠ 1 ∧ l.contains k = true then some (del12 l k) else none
/-- the reference's change -/
def chg12 (l : List Int) (k : Int) (add : Bool) : List Int := ids.filter fun i => (decide (i = k) && add) || (!decide (i = k) && l.contains i)
def change12 (l : List Int) (k : Int) (add : Bool) : List Int × Bool :=
  if may12 l = true ∧ 1 ≤ k ∧ k ≤ 7 ∧ (l.contains k != add) = true then (chg12 l k add, decide (0 < (chg12 l k add).length)) else ([], false)
theorem mayF_one (k : Int) : mayF 0 [k] = (decide (0 < k) && decide (k ≤ 7)) := by simp [mayF]
theorem may_one (k : Int) : may12 [k] = (decide (1 ≤ k) && decide (k ≤ 7)) := by
  unfold may12
  rw [mayF_one]
  have : decide (0 < k) = decide (1 ≤ k) := by rw [decide_eq_decide]; omega
  rw [this]; simp
theorem may12_F {l : List Int} (h : may12 l = true) : mayF 0 l = true := by unfold may12 at h; simp at h; exact h.1
theorem may12_pos {l : List Int} (h : may12 l = true) : 0 < l.length := by unfold may12 at h; simp only [Bool.and_eq_true, decide_eq_true_eq] at h; exact h.2
theorem mayF_mem : ∀ {p : Int} {l : List Int}, mayF p l = true → ∀ x ∈ l, p < x ∧ x ≤ 7
  | _, [], _, x, hx => by cases hx
  | p, y :: ys, h, x, hx => by
    simp only [mayF, Bool.and_eq_true, decide_eq_true_eq] at h
    rcases List.mem_cons.1 hx with e | e
    · subst e; exact h.1
    · have := mayF_mem h.2 x e; omega
theorem mayF_len : ∀ {p : Int} {l : List Int}, mayF p l = true → p ≤ 7 → (l.length : Int) ≤ 7 - p
  | _, [], _, hp => by simp; omega
  | p, y :: ys, h, hp => by
    simp only [mayF, Bool.and_eq_true, decide_eq_true_eq] at h
    have := mayF_len h.2 h.1.2
    simp only [List.length_cons]; omega
theorem may12_len {l : List Int} (h : may12 l = true) : l.length ≤ 7 := by have := mayF_len (may12_F h) (by omega); omega
theorem mayF_rising : ∀ {p : Int} {l : List Int}, mayF p l = true → l.Pairwise (· < ·)
  | _, [], _ => .nil
  | p, y :: ys, h => by
    have h' := h
    simp only [mayF, Bool.and_eq_true, decide_eq_true_eq] at h
    exact .cons (fun x hx => (mayF_mem h.2 x hx).1) (mayF_rising h.2)
theorem may12_sorted {l : List Int} (h : may12 l = true) : l.Pairwise (· ≤ ·) := (mayF_rising (may12_F h)).imp fun h => Int.le_of_lt h

theorem ins_chg_all : ((subs 7).all fun l => ids.all fun k => l.contains k || (decide (ins12 l k = chg12 l k true) && decide (0 < (chg12 l k true).length))) = true := by decide +kernel
theorem del_chg_all : ((subs 7).all fun l => ids.all fun k => !l.contains k || (decide (del12 l k = chg12 l k false) && (decide (l.length = 1) == decide ((chg12 l k false).length = 0)))) = true := by decide +kernel
/-- the program's and the reference's -/
theorem add_change (l : List Int) (k : Int) : (match add12 l k with | some r => (r, true) | none => ([], false)) = change12 l k true := by
  unfold add12 change12
  by_cases hm : may12 l = true
  · by_cases h1 : 1 ≤ k ∧ k ≤ 7
    · by_cases hc : l.contains k = true
      · rw [if_neg (fun e => by rw [hc] at e; exact absurd e.2.2 (by decide)), if_neg (fun e => by rw [hc] at e; exact absurd e.2.2.2 (by decide))]
      · have hc' : l.contains k = false := by simpa using hc
        have := all_may2 ins_chg_all (may12_F hm) h1.1 h1.2
        simp only [hc', Bool.false_or, Bool.and_eq_true, decide_eq_true_eq] at this
        rw [if_pos ⟨hm, by rw [may_one]; simp; exact h1, hc'⟩, if_pos ⟨hm, h1.1, h1.2, by rw [hc']; rfl⟩]
        simp only [this.1, decide_eq_true this.2]
    · rw [if_neg (fun e => by have := e.2.1; rw [may_one] at this; simp at this; exact h1 this), if_neg (fun e => h1 ⟨e.2.1, e.2.2.1⟩)]
  · rw [if_neg (fun e => hm e.1), if_neg (fun e => hm e.1)]
theorem rem_change (l : List Int) (k : Int) : (match rem12 l k with | some r => (r, true) | none => ([], false)) = (if (change12 l k false).2 = true then change12 l k false else ([], false)) := by
  unfold rem12 change12
  by_cases hm : may12 l = true
  · by_cases hc : l.contains k = true
    · have hk := mayF_mem (may12_F hm) k (by simpa using hc)
      have := all_may2 del_chg_all (may12_F hm) (k := k) (by omega) hk.2
      simp only [hc, Bool.not_true, Bool.false_or, Bool.and_eq_true, decide_eq_true_eq, beq_iff_eq] at this
      rw [if_pos (c := may12 l = true ∧ 1 ≤ k ∧ k ≤ 7 ∧ (l.contains k != false) = true) ⟨hm, by omega, hk.2, by rw [hc]; rfl⟩]
      by_cases h1 : l.length = 1
      · have h0 : (chg12 l k false).length = 0 := by have := this.2; rw [decide_eq_true h1] at this; exact of_decide_eq_true this.symm
        rw [if_neg (fun e => e.2.1 h1)]
        simp [h0]
      · have h0 : ¬ (chg12 l k false).length = 0 := by have := this.2; rw [decide_eq_false h1] at this; exact of_decide_eq_false this.symm
        rw [if_pos ⟨hm, h1, hc⟩]
        have h2 : 0 < (chg12 l k false).length := by omega
        simp [h2, this.1]
    · have hc' : l.contains k = false := by simpa using hc
      have h9 : ¬ (may12 l = true ∧ 1 ≤ k ∧ k ≤ 7 ∧ (l.contains k != false) = true) := fun e => by rw [hc'] at e; exact absurd e.2.2.2 (by decide)
      rw [if_neg (fun e => hc e.2.2), if_neg h9]
      rfl
  · have h9 : ¬ (may12 l = true ∧ 1 ≤ k ∧ k ≤ 7 ∧ (l.contains k != false) = true) := fun e => hm e.1
    rw [if_neg (fun e => hm e.1), if_neg h9]
    rfl

/-- servers by bits -/
def setL (b : Nat) : List Int := ((List.range 7).filter fun k => b / 2 ^ k % 2 == 1).map fun k => (((k + 1 : Nat)) : Int)
theorem setL_mayF : ((List.range 128).all fun b => mayF 0 (setL b)) = true := by decide +kernel
theorem setL_may (b : Nat) (h : b < 128) : mayF 0 (setL b) = true := List.all_eq_true.1 setL_mayF b (List.mem_range.2 h)

/-- more than half -/
def maj12 (l yes : List Int) : Bool := decide (l.length / 2 < l.countP (fun x => yes.contains x))
def miss12 (a b : List Int) : Nat := a.countP (fun x => !b.contains x)
def near12 (a b : List Int) : Bool := may12 a && may12 b && decide (miss12 a b + miss12 b a ≤ 1)
/-- what each has -/
def has12 (l : List Int) (at_ : List Int) : List Int := l.map fun i => at_.getD i.toNat 0
def mid12 (l : List Int) (at_ : List Int) : Int := ((has12 l at_).mergeSort fun x y => decide (x ≤ y)).getD ((l.length - 1) / 2) 0

/-- two majorities of lists that are near have one in common -/
theorem meet_sub {l m a b : List Int} (hs : l.Sublist m) (hm : m.length ≤ l.length + 1) (ha : maj12 l a = true) (hb : maj12 m b = true ∨ maj12 l a = true ∧ maj12 m b = true) : ∃ x ∈ a, x ∈ b ∧ x ∈ m := by
  have hb : maj12 m b = true := by rcases hb with h | h; exact h; exact h.2
  unfold maj12 at ha hb
  simp only [decide_eq_true_eq] at ha hb
  have h1 : l.countP (fun x => a.contains x) ≤ m.countP (fun x => a.contains x) := hs.countP_le
  have hle := hs.length_le
  by_cases h : ∃ x ∈ m, a.contains x = true ∧ b.contains x = true
  · obtain ⟨x, hx, e1, e2⟩ := h
    exact ⟨x, by simpa using e1, by simpa using e2, hx⟩
  · exfalso
    have h2 : m.countP (fun x => a.contains x) + m.countP (fun x => b.contains x) ≤ m.length := by
      have h3 : m.countP (fun x => b.contains x) ≤ m.countP (fun x => !a.contains x) := by
        refine List.countP_mono_left fun x hx hxb => ?_
        cases e : a.contains x
        · rfl
        · exact absurd ⟨x, hx, e, hxb⟩ h
      have h4 := List.length_eq_countP_add_countP (fun x => a.contains x) (l := m)
      have h5 : m.countP (fun x => !a.contains x) = m.countP (fun x => decide ¬ a.contains x = true) := by
        congr 1; funext x; cases a.contains x <;> rfl
      omega
    omega
theorem meet_sub' {l m a b : List Int} (hs : m.Sublist l) (hm : l.length ≤ m.length + 1) (ha : maj12 l a = true) (hb : maj12 m b = true) : ∃ x ∈ a, x ∈ b ∧ x ∈ l := by
  obtain ⟨x, h1, h2, h3⟩ := meet_sub hs hm hb (.inl ha)
  exact ⟨x, h2, h1, h3⟩
theorem ins_sub (l : List Int) (k : Int) : l.Sublist (ins12 l k) := by
  unfold ins12
  have h : l.take (l.countP (· < k)) ++ l.drop (l.countP (· < k)) = l := List.take_append_drop _ _
  have h2 : (l.take (l.countP (· < k)) ++ l.drop (l.countP (· < k))).Sublist (l.take (l.countP (· < k)) ++ [k] ++ l.drop (l.countP (· < k))) :=
    List.Sublist.append (List.sublist_append_left _ _) (List.Sublist.refl _)
  rw [h] at h2
  exact h2
theorem ins_len (l : List Int) (k : Int) : (ins12 l k).length = l.length + 1 := by
  unfold ins12
  have := List.countP_le_length (p := fun x => decide (x < k)) (l := l)
  simp; omega
theorem del_sub (l : List Int) (k : Int) : (del12 l k).Sublist l := by
  unfold del12
  have h : l.take (l.countP (· < k)) ++ l.drop (l.countP (· < k)) = l := List.take_append_drop _ _
  have h2 : (l.take (l.countP (· < k)) ++ l.drop (l.countP (· < k) + 1)).Sublist (l.take (l.countP (· < k)) ++ l.drop (l.countP (· < k))) :=
    List.Sublist.append (List.Sublist.refl _) (by rw [← List.drop_drop]; exact List.drop_sublist _ _)
  rw [h] at h2
  exact h2
theorem del_len (l : List Int) (k : Int) : l.length ≤ (del12 l k).length + 1 := by
  unfold del12
  simp; omega

theorem one_all : ((subs 7).all fun l => ids.all fun k => l.contains k || !decide (0 < l.length) || (may12 (ins12 l k) && decide ((ins12 l k).length ≠ 1) && (ins12 l k).contains k && decide (del12 (ins12 l k) k = l) && near12 l (ins12 l k) && near12 (ins12 l k) l)) = true := by decide +kernel

/-- more than half have the middle one at least, and no greater number -/
theorem sorted_ge {S : List Int} (hs : S.Pairwise (· ≤ ·)) (k : Nat) (hk : k < S.length) : S.length - k ≤ S.countP (fun x => decide (S.getD k 0 ≤ x)) := by
  have h1 : (S.drop k).countP (fun x => decide (S.getD k 0 ≤ x)) ≤ S.countP (fun x => decide (S.getD k 0 ≤ x)) := (List.drop_sublist k S).countP_le
  have h2 : (S.drop k).countP (fun x => decide (S.getD k 0 ≤ x)) = (S.drop k).length := by
    rw [List.countP_eq_length]
    intro x hx
    obtain ⟨i, hi, rfl⟩ := List.mem_iff_getElem.1 hx
    rw [List.getElem_drop, decide_eq_true_eq, List.getD_eq_getElem?_getD, List.getElem?_eq_getElem hk, Option.getD_some]
    by_cases e : i = 0
    · subst e; exact Int.le_refl _
    · exact List.pairwise_iff_getElem.1 hs k (k + i) hk (by simp at hi; omega) (by omega)
  rw [List.length_drop] at h2
  omega
theorem sorted_gt {S : List Int} (hs : S.Pairwise (· ≤ ·)) (k : Nat) (hk : k < S.length) : S.countP (fun x => decide (S.getD k 0 < x)) ≤ S.length - (k + 1) := by
  have h0 : S.countP (fun x => decide (S.getD k 0 < x)) = (S.take (k + 1)).countP (fun x => decide (S.getD k 0 < x)) + (S.drop (k + 1)).countP (fun x => decide (S.getD k 0 < x)) := by
    rw [← List.countP_append, List.take_append_drop]
  have h1 : (S.take (k + 1)).countP (fun x => decide (S.getD k 0 < x)) = 0 := by
    rw [List.countP_eq_zero]
    intro x hx
    obtain ⟨i, hi, rfl⟩ := List.mem_iff_getElem.1 hx
    rw [List.getElem_take, decide_eq_true_eq, List.getD_eq_getElem?_getD, List.getElem?_eq_getElem hk, Option.getD_some]
    simp at hi
    by_cases e : i = k
    · subst e; exact Int.lt_irrefl _
    · have := List.pairwise_iff_getElem.1 hs i k (by omega) hk (by omega)
      omega
  have h2 : (S.drop (k + 1)).countP (fun x => decide (S.getD k 0 < x)) ≤ (S.drop (k + 1)).length := List.countP_le_length
  rw [List.length_drop] at h2
  omega
theorem mid_counts (l at_ : List Int) (h0 : 0 < l.length) : l.length < 2 * (has12 l at_).countP (fun x => decide (mid12 l at_ ≤ x)) ∧ 2 * (has12 l at_).countP (fun x => decide (mid12 l at_ < x)) ≤ l.length := by
  have hp := List.mergeSort_perm (has12 l at_) (fun x y => decide (x ≤ y))
  have hs : ((has12 l at_).mergeSort fun x y => decide (x ≤ y)).Pairwise (· ≤ ·) := by
    have := List.pairwise_mergeSort (le := fun x y : Int => decide (x ≤ y)) (fun a b c h1 h2 => by simp at *; omega) (fun a b => by simp; omega) (has12 l at_)
    exact this.imp fun h => by simpa using h
  have hl : ((has12 l at_).mergeSort fun x y => decide (x ≤ y)).length = l.length := by rw [List.length_mergeSort]; simp [has12]
  have hk : (l.length - 1) / 2 < ((has12 l at_).mergeSort fun x y => decide (x ≤ y)).length := by rw [hl]; omega
  have h1 := sorted_ge hs _ hk
  have h2 := sorted_gt hs _ hk
  rw [hp.countP_eq] at h1 h2
  rw [hl] at h1 h2
  unfold mid12
  omega
/-- a part of a list that is told by its numbers is more than half just if so many have it -/
theorem maj_filter (l : List Int) (q : Int → Bool) : maj12 l (l.filter q) = decide (l.length / 2 < l.countP q) := by
  unfold maj12
  have h : l.countP (fun x => (l.filter q).contains x) = l.countP q := by
    refine List.countP_congr fun x hx => ?_
    simp [hx]
  rw [h]
theorem mid_have (l at_ : List Int) (h0 : 0 < l.length) : maj12 l (l.filter fun i => decide (mid12 l at_ ≤ at_.getD i.toNat 0)) = true ∧ maj12 l (l.filter fun i => decide (mid12 l at_ < at_.getD i.toNat 0)) = false := by
  have h := mid_counts l at_ h0
  unfold has12 at h
  rw [List.countP_map, List.countP_map] at h
  rw [maj_filter, maj_filter]
  constructor
  · exact decide_eq_true (by have := h.1; simp only [Function.comp_def] at this; omega)
  · exact decide_eq_false (by have := h.2; simp only [Function.comp_def] at this; omega)
end Go.Proofs.Ytoekiencnbgmhaa
/-
  A server's log as plain data: a snapshot and the entries behind it; what is asked of it, and what comes of a step on it.
  There are no conditions beyond those that each lemma names.
-/
set_option linter.unusedSimpArgs false
set_option linter.unusedVariables false
namespace Go.Proofs.Ytoekiencnbgmhaa
set_option maxRecDepth 100000

structure Lg where
  s : Snp
  L : List Ent
def lst13 (r : Lg) : Int := r.s.ix + (r.L.length : Int)
def frm13 (r : Lg) (i : Int) : List Ent := if r.s.ix < i ∧ i ≤ lst13 r then r.L.drop (i - r.s.ix - 1).toNat else []
def trm13 (r : Lg) (i : Int) : Int × Bool := if i = r.s.ix then (r.s.st, true) else match frm13 r i with
  | [] => (0, false)
  | e :: _ => (e.et, true)
def fts13 (r : Lg) (i t : Int) : Bool := (trm13 r i).2 && (trm13 r i).1 == t
def get13 (r : Lg) (i n : Int) : List Ent := (frm13 r i).take n.toNat
def nwr13 (r : Lg) (i t : Int) : Bool := decide ((trm13 r (lst13 r)).1 < t) || (t == (trm13 r (lst13 r)).1 && decide (lst13 r ≤ i))
/-- one behind the other, the first one behind i of term t -/
def flw13 : Int → Int → List Ent → Bool
  | _, _, [] => true
  | i, t, e :: l => (e.ix == i + 1 && decide (t ≤ e.et)) && flw13 e.ix e.et l
def lck13 (r : Lg) (e : Ent) : Bool := decide (r.s.ix < e.ix) && !fts13 r e.ix e.et
/-- the entries from the first one on that is not there -/
def rst13 (r : Lg) (l : List Ent) : List Ent := l.dropWhile fun e => !lck13 r e
def put13 (r : Lg) (l : List Ent) : Lg × Int × Bool := match l with
  | [] => (r, 0, true)
  | e0 :: t => if lst13 r + 1 < e0.ix ∨ flw13 e0.ix e0.et t = false then (r, 0, false) else match rst13 r l with
    | [] => (r, 0, true)
    | e :: u => if e.et < (trm13 r (e.ix - 1)).1 ∨ 200 < (e.ix - 1 - r.s.ix).toNat + (e :: u).length then (r, 0, false) else (⟨r.s, r.L.take (e.ix - 1 - r.s.ix).toNat ++ e :: u⟩, e.ix, true)
def pck13 (r : Lg) (s : Snp) : Lg × Bool := if r.s.ix < s.ix ∧ fts13 r s.ix s.st = true then (⟨s, r.L.drop (s.ix - r.s.ix).toNat⟩, true) else (r, false)
def new13 (s : Snp) (l : List Ent) : Bool := (decide (0 ≤ s.ix) && decide (s.ix ≤ 1099511627776)) && (decide (0 ≤ s.st) && decide (s.st ≤ 1099511627776)) && decide (l.length ≤ 200) && flw13 s.ix s.st l
/-- what a log keeps to: numbers that are far from the end, entries that are not too many or long -/
def Lok (m : Nat) (r : Lg) : Prop := 0 ≤ r.s.ix ∧ lst13 r ≤ 1099511627776 + (m : Int) ∧ r.L.length ≤ 200 ∧ (∀ e ∈ r.L, e.data.size ≤ 100000) ∧ r.s.conf.size ≤ 100000 ∧ r.s.data.size ≤ 100000
theorem Lok.more {m n : Nat} {r : Lg} (h : Lok m r) (hn : m ≤ n) : Lok n r := ⟨h.1, Int.le_trans h.2.1 (by omega), h.2.2⟩
theorem Lok.ends {m : Nat} {r : Lg} (h : Lok m r) : 0 ≤ r.s.ix ∧ r.s.ix ≤ 1099511627776 + (m : Int) ∧ r.L.length ≤ 200 := by
  have h1 := h.2.1
  unfold lst13 at h1
  exact ⟨h.1, by omega, h.2.2.1⟩
theorem frm13_in {r : Lg} {i : Int} (h : r.s.ix < i ∧ i ≤ lst13 r) : frm13 r i = r.L.drop (i - r.s.ix - 1).toNat := by unfold frm13; rw [if_pos h]
theorem frm13_out {r : Lg} {i : Int} (h : ¬ (r.s.ix < i ∧ i ≤ lst13 r)) : frm13 r i = [] := by unfold frm13; rw [if_neg h]
theorem frm13_len {r : Lg} {i : Int} (h : r.s.ix < i ∧ i ≤ lst13 r) : (frm13 r i).length = r.L.length - (i - r.s.ix - 1).toNat := by rw [frm13_in h, List.length_drop]
theorem trm13_own (r : Lg) : trm13 r r.s.ix = (r.s.st, true) := by unfold trm13; rw [if_pos rfl]
theorem trm13_out {r : Lg} {i : Int} (h : i ≠ r.s.ix) (h2 : ¬ (r.s.ix < i ∧ i ≤ lst13 r)) : trm13 r i = (0, false) := by unfold trm13; rw [if_neg h, frm13_out h2]
theorem at13 {r : Lg} {i : Int} (h : r.s.ix < i ∧ i ≤ lst13 r) : (i - r.s.ix - 1).toNat < r.L.length := by
  have := h.2; unfold lst13 at this; omega
theorem trm13_in {r : Lg} {i : Int} (h : r.s.ix < i ∧ i ≤ lst13 r) : trm13 r i = ((r.L[(i - r.s.ix - 1).toNat]'(at13 h)).et, true) := by
  unfold trm13; rw [if_neg (by omega), frm13_in h, List.drop_eq_getElem_cons (at13 h)]
theorem flw13_snoc : ∀ (l : List Ent) (i t : Int) (e : Ent), flw13 i t (l ++ [e]) = (flw13 i t l && (e.ix == (match l.getLast? with | none => i | some x => x.ix) + 1 && decide ((match l.getLast? with | none => t | some x => x.et) ≤ e.et)))
  | [], i, t, e => by simp [flw13]; rfl
  | x :: l, i, t, e => by
    rw [List.cons_append]
    show ((x.ix == i + 1 && decide (t ≤ x.et)) && flw13 x.ix x.et (l ++ [e])) = _
    rw [flw13_snoc l x.ix x.et e]
    cases hl : l.getLast? with
    | none =>
      have : l = [] := List.getLast?_eq_none_iff.1 hl
      subst this
      simp [flw13]; rfl
    | some y =>
      have h2 : (x :: l).getLast? = some y := by rw [List.getLast?_cons, hl]; rfl
      rw [h2]
      simp [flw13, Bool.and_assoc]
theorem flw13_at : ∀ (l : List Ent) (i t : Int), flw13 i t l = true → ∀ k (h : k < l.length), l[k].ix = i + 1 + (k : Int)
  | x :: l, i, t, h, 0, _ => by
    simp only [flw13, Bool.and_eq_true, beq_iff_eq] at h
    simp [h.1.1]
  | x :: l, i, t, h, k + 1, hk => by
    simp only [flw13, Bool.and_eq_true, beq_iff_eq] at h
    have := flw13_at l x.ix x.et h.2 k (by simpa using hk)
    rw [List.getElem_cons_succ, this, h.1.1]
    simp; omega
/-- entries that are there are skipped, and the first one that is not follows them -/
theorem rst13_ix {r : Lg} {e0 : Ent} {t : List Ent} (h1 : e0.ix ≤ lst13 r + 1) (h2 : flw13 e0.ix e0.et t = true) {e : Ent} {u : List Ent} (h : rst13 r (e0 :: t) = e :: u) : r.s.ix < e.ix ∧ e.ix ≤ lst13 r + 1 := by
  have key : ∀ (t : List Ent) (e0 : Ent), e0.ix ≤ lst13 r + 1 → flw13 e0.ix e0.et t = true → rst13 r (e0 :: t) = e :: u → e.ix ≤ lst13 r + 1 ∧ lck13 r e = true := by
    intro t
    induction t with
    | nil =>
      intro e0 h1 _ h
      unfold rst13 at h
      rw [List.dropWhile_cons] at h
      split at h
      · cases h
      · rename_i hl
        injection h with e1 _
        subst e1
        exact ⟨h1, by simpa using hl⟩
    | cons x t ih =>
      intro e0 h1 h2 h
      simp only [flw13, Bool.and_eq_true, beq_iff_eq] at h2
      unfold rst13 at h
      rw [List.dropWhile_cons] at h
      split at h
      · rename_i hl
        refine ih x ?_ h2.2 h
        rw [h2.1.1]
        unfold lck13 at hl
        by_cases hi : r.s.ix < e0.ix
        · have hf : fts13 r e0.ix e0.et = true := by simpa [hi] using hl
          by_cases hb : r.s.ix < e0.ix ∧ e0.ix ≤ lst13 r
          · omega
          · unfold fts13 at hf
            rw [trm13_out (by omega) hb] at hf
            simp at hf
        · unfold lst13; omega
      · rename_i hl
        injection h with e1 _
        subst e1
        exact ⟨h1, by simpa using hl⟩
  obtain ⟨h3, h4⟩ := key t e0 h1 h2 h
  unfold lck13 at h4
  simp only [Bool.and_eq_true, decide_eq_true_eq] at h4
  exact ⟨h4.1, h3⟩
theorem put13_ok {m : Nat} {r : Lg} {l : List Ent} (h : Lok m r) (hl : ∀ e ∈ l, e.data.size ≤ 100000) (hn : l.length ≤ 200) : Lok (m + l.length + 1) (put13 r l).1 := by
  cases l with
  | nil => exact h.more (by simp)
  | cons e0 t =>
    unfold put13
    simp only
    by_cases hc : lst13 r + 1 < e0.ix ∨ flw13 e0.ix e0.et t = false
    · rw [if_pos hc]; exact h.more (by omega)
    · rw [if_neg hc]
      cases hr : rst13 r (e0 :: t) with
      | nil => exact h.more (by omega)
      | cons e u =>
        simp only
        by_cases hd : e.et < (trm13 r (e.ix - 1)).1 ∨ 200 < (e.ix - 1 - r.s.ix).toNat + (e :: u).length
        · rw [if_pos hd]; exact h.more (by omega)
        · rw [if_neg hd]
          have hi := rst13_ix (by omega) (by simpa using fun e => hc (.inr e)) hr
          have hsub : ∀ x ∈ e :: u, x ∈ e0 :: t := by
            rw [← hr]; unfold rst13
            exact fun x hx => (List.dropWhile_sublist _).subset hx
          have hul : (e :: u).length ≤ (e0 :: t).length := by
            rw [← hr]; unfold rst13
            exact (List.dropWhile_sublist _).length_le
          have hd2 : ¬ 200 < (e.ix - 1 - r.s.ix).toNat + (e :: u).length := fun h => hd (.inr h)
          have h2 := h.2.1
          have hlt : (e.ix - 1 - r.s.ix).toNat ≤ r.L.length := by
            have := hi.2; unfold lst13 at this; omega
          refine ⟨h.1, ?_, ?_, fun x hx => ?_, h.2.2.2.2⟩
          · unfold lst13 at h2 ⊢
            simp only [List.length_append, List.length_take]
            omega
          · simp only [List.length_append, List.length_take]; omega
          · rcases List.mem_append.1 hx with hx | hx
            · exact h.2.2.2.1 x (List.mem_of_mem_take hx)
            · exact hl x (hsub x hx)
theorem pck13_ok {m : Nat} {r : Lg} {s : Snp} (h : Lok m r) (hc : s.conf.size ≤ 100000) (hd : s.data.size ≤ 100000) : Lok m (pck13 r s).1 := by
  unfold pck13
  by_cases hp : r.s.ix < s.ix ∧ fts13 r s.ix s.st = true
  · rw [if_pos hp]
    have hin : r.s.ix < s.ix ∧ s.ix ≤ lst13 r := by
      apply Classical.byContradiction
      intro hn
      have := hp.2
      unfold fts13 at this
      rw [trm13_out (by omega) hn] at this
      simp at this
    have h2 := h.2.1
    refine ⟨by have := h.1; simp only; omega, ?_, ?_, fun e he => h.2.2.2.1 e (List.mem_of_mem_drop he), hc, hd⟩
    · unfold lst13 at h2 hin ⊢
      simp only [List.length_drop]; omega
    · simp only [List.length_drop]; have := h.2.2.1; omega
  · rw [if_neg hp]; exact h
theorem new13_ok {s : Snp} {l : List Ent} (h : new13 s l = true) (hd : ∀ e ∈ l, e.data.size ≤ 100000) (h1 : s.conf.size ≤ 100000) (h2 : s.data.size ≤ 100000) : Lok 200 ⟨s, l⟩ := by
  unfold new13 at h
  simp only [Bool.and_eq_true, decide_eq_true_eq] at h
  refine ⟨h.1.1.1.1, ?_, h.1.2, hd, h1, h2⟩
  unfold lst13
  simp only
  omega
end Go.Proofs.Ytoekiencnbgmhaa
/-
  A region that draws its order, of whose world something is held: an operation by its place alone.
  There are no conditions.
-/
set_option linter.unusedSimpArgs false
set_option linter.unusedVariables false
namespace Go.Proofs.Ytoekiencnbgmhaa
open Go
section
variable {P : Program} {ops : Array Oper} {Q : Exit → Act → World → Prop} {md : Region.Mode} {S : World → Prop}
/-- number i first: it yields v wherever S holds -/
theorem tkH {n : Nat} {L : Array Bool} {a : Act} {w : World} (i : Nat) (v : Value) {d : Option Tmp} {x : Op} {t : TypeId} {p : String} {e : Array Edge} {g : Option (Nat × Bool)} (hi : ops[i]? = some ⟨d, x, t, p, e, g⟩)
    (hy : ∀ w, S w → (execOp a.eval ⟨d, x, t, p, e, g⟩).run P w = .ok (.value v) w) (h : wpAnyH P md ops Q S n (L.setIfInBounds i true) (a.put d v) w)
    (hb : (Region.noSelect ops && Region.free md ops L i && (Region.ready md ops L).contains i) = true := by kernel_rfl) (hQ : ∀ c a w, Q (.panic c) (a.put d v) w → Q (.panic c) a w := by exact fun _ _ _ h => h)
    (hS : S w := by assumption) (hw : Region.wanted ⟨d, x, t, p, e, g⟩ (yielded ops a.tmps) = true := by rfl) : wpAnyH P md ops Q S (n + 1) L a w := by
  simp only [Bool.and_eq_true] at hb
  exact wpAnyH_take hi hb.1.1 hb.1.2 hb.2 hQ (.inl ⟨hw, hy⟩) hS h
/-- number i is not wanted -/
theorem skH {n : Nat} {L : Array Bool} {a : Act} {w : World} (i : Nat) {d : Option Tmp} {x : Op} {t : TypeId} {p : String} {e : Array Edge} {g : Option (Nat × Bool)} (hi : ops[i]? = some ⟨d, x, t, p, e, g⟩)
    (h : wpAnyH P md ops Q S n (L.setIfInBounds i true) (a.put d undef) w)
    (hb : (Region.noSelect ops && Region.free md ops L i && (Region.ready md ops L).contains i) = true := by kernel_rfl) (hQ : ∀ c a w, Q (.panic c) (a.put d undef) w → Q (.panic c) a w := by exact fun _ _ _ h => h)
    (hS : S w := by assumption) (hw : Region.wanted ⟨d, x, t, p, e, g⟩ (yielded ops a.tmps) = false := by rfl) : wpAnyH P md ops Q S (n + 1) L a w := by
  simp only [Bool.and_eq_true] at hb
  exact wpAnyH_take hi hb.1.1 hb.1.2 hb.2 hQ (.inr ⟨hw, rfl⟩) hS h
/-- number i alone may come up -/
theorem stH {n : Nat} {L : Array Bool} {a : Act} {w : World} (i : Nat) {d : Option Tmp} {x : Op} {t : TypeId} {p : String} {e : Array Edge} {g : Option (Nat × Bool)} (hi : ops[i]? = some ⟨d, x, t, p, e, g⟩)
    (h : ∀ K : Act → World → Prop, Shut (∀ a w, S w → (S w → wpAnyH P md ops Q S n (L.setIfInBounds i true) a w) → K a w) → Oper.wp P ⟨d, x, t, p, e, g⟩ a w K Q)
    (hr : Region.ready md ops L = [i] := by kernel_rfl) (hw : Region.wanted ⟨d, x, t, p, e, g⟩ (yielded ops a.tmps) = true := by rfl) : wpAnyH P md ops Q S (n + 1) L a w :=
  wpAnyH_ready hr (by simp) (AllReadyH.cons hi (fun K hK => by rw [if_pos hw]; exact h K hK) AllReadyH.nil)
/-- one of two may come up -/
theorem stH2 {n : Nat} {L : Array Bool} {a : Act} {w : World} (i j : Nat) {d : Option Tmp} {x : Op} {t : TypeId} {p : String} {e : Array Edge} {g : Option (Nat × Bool)} (hi : ops[i]? = some ⟨d, x, t, p, e, g⟩)
    {d2 : Option Tmp} {x2 : Op} {t2 : TypeId} {p2 : String} {e2 : Array Edge} {g2 : Option (Nat × Bool)} (hj : ops[j]? = some ⟨d2, x2, t2, p2, e2, g2⟩)
    (h : ∀ K : Act → World → Prop, Shut (∀ a w, S w → (S w → wpAnyH P md ops Q S n (L.setIfInBounds i true) a w) → K a w) → Oper.wp P ⟨d, x, t, p, e, g⟩ a w K Q)
    (h2 : ∀ K : Act → World → Prop, Shut (∀ a w, S w → (S w → wpAnyH P md ops Q S n (L.setIfInBounds j true) a w) → K a w) → Oper.wp P ⟨d2, x2, t2, p2, e2, g2⟩ a w K Q)
    (hr : Region.ready md ops L = [i, j] := by kernel_rfl) (hw : Region.wanted ⟨d, x, t, p, e, g⟩ (yielded ops a.tmps) = true := by rfl) (hw2 : Region.wanted ⟨d2, x2, t2, p2, e2, g2⟩ (yielded ops a.tmps) = true := by rfl) : wpAnyH P md ops Q S (n + 1) L a w :=
  wpAnyH_ready hr (by simp) (AllReadyH.cons hi (fun K hK => by rw [if_pos hw]; exact h K hK) (AllReadyH.cons hj (fun K hK => by rw [if_pos hw2]; exact h2 K hK) AllReadyH.nil))
end
end Go.Proofs.Ytoekiencnbgmhaa
/-
  A region that draws its order and whose last operation, which waitsG for all others, may write what the others load: what is held of the world need not hold behind that one.
  There are no conditions.
-/
set_option linter.unusedSimpArgs false
set_option linter.unusedVariables false
namespace Go.Proofs.Ytoekiencnbgmhaa
open Go
section
variable {P : Program} {ops : Array Oper} {Q : Exit → Act → World → Prop} {md : Region.Mode} {S : World → Prop} {f : Nat}

/-- whatever order is picked from here on; S holds behind every operation but f -/
def AnyG (P : Program) (md : Region.Mode) (ops : Array Oper) (Q : Exit → Act → World → Prop) (S : World → Prop) (f : Nat) : Nat → Array Bool → Act → World → Prop
  | 0, L, a, w => Region.ready md ops L = [] ∧ Q .normal a w
  | n + 1, L, a, w => (Region.ready md ops L = [] → Q .normal a w) ∧ ∀ i ∈ Region.ready md ops L, wpOp P ops Q i (fun b v => (f ≤ i ∨ S v) ∧ AnyG P md ops Q S f n (L.setIfInBounds i true) b v) a w
theorem any_of_g : ∀ (n : Nat) (L : Array Bool) (a : Act) (w : World), AnyG P md ops Q S f n L a w → wpAny P md ops Q n L a w
  | 0, _, _, _, h => h
  | n + 1, _, _, _, h => ⟨h.1, fun i hi => wpOp_mono (fun b v hv => any_of_g n _ b v hv.2) (h.2 i hi)⟩
/-- does operation i come ahead of all from f on, in every order? -/
def waitsG (md : Region.Mode) (ops : Array Oper) (f i : Nat) : Bool := (List.range ops.size).all fun j => decide (j < f) || (match ops[j]? with
  | some o => o.after.any fun e => Region.binds md e && e.on == i
  | none => false)
theorem anyG_first {i : Nat} {o : Oper} {v : Value} (hi : ops[i]? = some o) (hsel : ∀ (j : Nat) (o : Oper) cs b, ops[j]? = some o → o.op ≠ .select cs b) (hQ : ∀ c a w, Q (.panic c) (a.put o.dst v) w → Q (.panic c) a w) (hw : waitsG md ops f i = true) (n : Nat) :
    ∀ (L : Array Bool) (a : Act) (w : World), (∀ j p, ops[j]? = some p → j ≠ i → L.getD j true = false → (∀ e ∈ p.after, Region.binds md e = true → e.on ≠ i) → o.apart ops p = true) →
      i ∈ Region.ready md ops L → YieldsIf P ops S o v a → S w → AnyG P md ops Q S f n (L.setIfInBounds i true) (a.put o.dst v) w → AnyG P md ops Q S f (n + 1) L a w := by
  have never : ∀ {j : Nat} {p : Oper}, ops[j]? = some p → f ≤ j → ¬ ∀ e ∈ p.after, Region.binds md e = true → e.on ≠ i := by
    intro j p hp hfj hno
    unfold waitsG at hw
    rw [List.all_eq_true] at hw
    have hjs : j < ops.size := (Array.getElem?_eq_some_iff.1 hp).1
    have h1 := hw j (List.mem_range.2 hjs)
    rw [hp, decide_eq_false (by omega), Bool.false_or] at h1
    obtain ⟨e, he, hb⟩ := Array.any_eq_true'.1 h1
    rw [Bool.and_eq_true] at hb
    exact hno e he hb.1 (by simpa using hb.2)
  induction n with
  | zero =>
    intro L a w _ hr hy hS H
    refine ⟨fun h0 => (by rw [h0] at hr; cases hr), fun j hj => ?_⟩
    by_cases e : j = i
    · subst e; exact hy.wpOp hi hS ⟨.inr hS, H⟩
    · have h1 := ready_mono hj e
      rw [H.1] at h1; cases h1
  | succ n ih =>
    intro L a w hfree hr hy hS H
    refine ⟨fun h0 => (by rw [h0] at hr; cases hr), fun j hj => ?_⟩
    by_cases e : j = i
    · subst e; exact hy.wpOp hi hS ⟨.inr hS, H⟩
    obtain ⟨hjL, p, hp, hafter⟩ := mem_ready.1 hj
    have hno : ∀ e ∈ p.after, Region.binds md e = true → e.on ≠ i := by
      intro x hx hb hxi
      have h1 := hafter x hx hb
      have h0 := (mem_ready.1 hr).1
      rw [hxi] at h1
      by_cases hsz : i < L.size
      · simp [hsz] at h0 h1
        rw [h0] at h1; cases h1
      · simp [Array.getElem?_eq_none (Nat.le_of_not_lt hsz)] at h1
    have hjf : ¬ f ≤ j := fun h => never hp h hno
    have h2 := wpOp_putIf hp (hfree j p hp e hjL hno) (fun cs b => hsel i o cs b hi) (fun cs b => hsel j p cs b hp) hQ hy (H.2 j (ready_mono hj e))
    refine wpOp_mono (fun b u hu => ?_) h2
    have hSu : S u := hu.2.1.resolve_left hjf
    refine ⟨.inr hSu, ih (L.setIfInBounds j true) b u (fun k q hq hki hkL hkn => hfree k q hq hki ?_ hkn) (ready_mono hr (Ne.symm e)) hu.1 hSu ?_⟩
    · by_cases ejk : j = k
      · subst ejk; exact hjL
      · rwa [getD_set_ne true ejk] at hkL
    · rw [Array.setIfInBounds_comm _ _ e]; exact hu.2.2
theorem anyG_take {i : Nat} {oi : Oper} {v : Value} {n : Nat} {L : Array Bool} {a : Act} {w : World} (hi : ops[i]? = some oi) (hw : waitsG md ops f i = true)
    (hs : Region.noSelect ops = true) (hf : Region.free md ops L i = true) (hr : (Region.ready md ops L).contains i = true)
    (hQ : ∀ c a w, Q (.panic c) (a.put oi.dst v) w → Q (.panic c) a w) (hy : YieldsIf P ops S oi v a) (hS : S w)
    (h : AnyG P md ops Q S f n (L.setIfInBounds i true) (a.put oi.dst v) w) : AnyG P md ops Q S f (n + 1) L a w :=
  anyG_first hi (Region.noSelect_spec hs) hQ hw n L a w (Region.free_spec hi hf) (by simpa using hr) hy hS h
/-- number i first, by its place alone -/
theorem tkL {n : Nat} {L : Array Bool} {a : Act} {w : World} (i : Nat) (v : Value) {d : Option Tmp} {x : Op} {t : TypeId} {p : String} {e : Array Edge} {g : Option (Nat × Bool)} (hi : ops[i]? = some ⟨d, x, t, p, e, g⟩)
    (hy : ∀ w, S w → (execOp a.eval ⟨d, x, t, p, e, g⟩).run P w = .ok (.value v) w) (h : AnyG P md ops Q S f n (L.setIfInBounds i true) (a.put d v) w)
    (hb : (waitsG md ops f i && Region.noSelect ops && Region.free md ops L i && (Region.ready md ops L).contains i) = true := by kernel_rfl) (hQ : ∀ c a w, Q (.panic c) (a.put d v) w → Q (.panic c) a w := by exact fun _ _ _ h => h)
    (hS : S w := by assumption) (hw : Region.wanted ⟨d, x, t, p, e, g⟩ (yielded ops a.tmps) = true := by rfl) : AnyG P md ops Q S f (n + 1) L a w := by
  simp only [Bool.and_eq_true] at hb
  exact anyG_take hi hb.1.1.1 hb.1.1.2 hb.1.2 hb.2 hQ (.inl ⟨hw, hy⟩) hS h
/-- .. whatever way it yields -/
theorem tkM {n : Nat} {L : Array Bool} {a : Act} {w : World} (i : Nat) (v : Value) {d : Option Tmp} {x : Op} {t : TypeId} {p : String} {e : Array Edge} {g : Option (Nat × Bool)} (hi : ops[i]? = some ⟨d, x, t, p, e, g⟩)
    (hy : YieldsIf P ops S ⟨d, x, t, p, e, g⟩ v a) (h : AnyG P md ops Q S f n (L.setIfInBounds i true) (a.put d v) w)
    (hb : (waitsG md ops f i && Region.noSelect ops && Region.free md ops L i && (Region.ready md ops L).contains i) = true := by kernel_rfl) (hQ : ∀ c a w, Q (.panic c) (a.put d v) w → Q (.panic c) a w := by exact fun _ _ _ h => h)
    (hS : S w := by assumption) : AnyG P md ops Q S f (n + 1) L a w := by
  simp only [Bool.and_eq_true] at hb
  exact anyG_take hi hb.1.1.1 hb.1.1.2 hb.1.2 hb.2 hQ hy hS h
/-- one operation alone may come up -/
theorem anyG_step {i : Nat} {o : Oper} {n : Nat} {L : Array Bool} {a : Act} {w : World} (hr : Region.ready md ops L = [i]) (ho : ops[i]? = some o)
    (h : ∀ K : Act → World → Prop, Shut (∀ b v, (f ≤ i ∨ S v) → AnyG P md ops Q S f n (L.setIfInBounds i true) b v → K b v) → if Region.wanted o (yielded ops a.tmps) = true then Oper.wp P o a w K Q else K (a.put o.dst undef) w) : AnyG P md ops Q S f (n + 1) L a w :=
  ⟨fun h0 => (by rw [h0] at hr; cases hr), fun j hj => by
    rw [hr, List.mem_singleton] at hj
    subst hj
    exact wpOp_step ho (fun K hK => h K (fun b v h1 h2 => hK b v ⟨h1, h2⟩))⟩
theorem stM {n : Nat} {L : Array Bool} {a : Act} {w : World} (i : Nat) {d : Option Tmp} {x : Op} {t : TypeId} {p : String} {e : Array Edge} {g : Option (Nat × Bool)} (hi : ops[i]? = some ⟨d, x, t, p, e, g⟩)
    (h : ∀ K : Act → World → Prop, Shut (∀ b v, (f ≤ i ∨ S v) → AnyG P md ops Q S f n (L.setIfInBounds i true) b v → K b v) → Oper.wp P ⟨d, x, t, p, e, g⟩ a w K Q)
    (hr : Region.ready md ops L = [i] := by kernel_rfl) (hw : Region.wanted ⟨d, x, t, p, e, g⟩ (yielded ops a.tmps) = true := by rfl) : AnyG P md ops Q S f (n + 1) L a w :=
  anyG_step hr hi fun K hK => by rw [if_pos hw]; exact h K hK
theorem anyG_done {L : Array Bool} {a : Act} {w : World} (hr : Region.ready md ops L = []) (h : Q .normal a w) : ∀ n, AnyG P md ops Q S f n L a w
  | 0 => ⟨hr, h⟩
  | _ + 1 => ⟨fun _ => h, by rw [hr]; simp⟩
theorem region_g {id : Nat} {a : Act} {w : World} (f : Nat) (S : World → Prop) (hm : P.follows .mixedOrders = true)
    (h : AnyG P .any ops Q S f ops.size (Array.replicate ops.size false) a w.drew) : (Code.region id ops true).wp P Q a w :=
  wp_region_any hm (any_of_g _ _ _ _ h)
end
end Go.Proofs.Ytoekiencnbgmhaa
/-
  How a law's arguments that are records, a row of them, or a snapshot are opened.
  There are no conditions.
-/
set_option linter.unusedSimpArgs false
set_option linter.unusedVariables false
namespace Go.Proofs.Ytoekiencnbgmhaa
open Go.RowKit Go.WideShapes Go.ChangeShapes Go.Joins Go.Deep
set_option maxRecDepth 100000

def I64b (a : Int) : Prop := -9223372036854775808 ≤ a ∧ a ≤ 9223372036854775807
theorem i64b_wf {a : Int} (h : (Lit.int .i64 a).wf = true) : I64b a := by
  have := bounds_i64 h; unfold I64b; omega
def Rcd.fit (r : Rcd) : Prop := I64b r.ht ∧ I64b r.hv ∧ I64b r.e.ix ∧ I64b r.e.et ∧ I64b r.e.kd ∧ r.e.data.size ≤ maxLen
def Snp.fit (s : Snp) : Prop := I64b s.ix ∧ I64b s.st ∧ s.conf.size ≤ maxLen ∧ s.data.size ≤ maxLen
/-- a slice value of records; its cells lie below block B -/
def Rcds (w : World) (B : Nat) (v : Value) (L : List Rcd) : Prop :=
  ∃ A c, v = .slice A L.length c ∧ L.length ≤ c ∧ (0 < L.length → ∃ g o, A = some ⟨g, o, Option.none⟩ ∧ g < B ∧ ∀ k (h : k < L.length), w.rangeAt g (o + k * 7) L[k].cs)
theorem Try.cellsEntry10 : Try.prog.cellsOf 65 = 4 := by kernel_rfl
theorem Try.cellsSnap10 : Try.prog.cellsOf 23 = 4 := by kernel_rfl
theorem Try.cellsInt10 : Try.prog.cellsOf 3 = 1 := by kernel_rfl
theorem Try.cellsInt6410 : Try.prog.cellsOf 2 = 1 := by kernel_rfl
theorem Try.cellsString10 : Try.prog.cellsOf 9 = 1 := by kernel_rfl
theorem Try.cellsBool10 : Try.prog.cellsOf 4 = 1 := by kernel_rfl
theorem cell_in10 {w : World} {a : Addr} {v : Value} (h : w.cell? a = some v) : a.block < w.heap.size := cell_lt h
section
variable {H : Type} {enc : TypeId × Value → H} {w : World} {base : Nat} {spare : Nat → Bool} {held : Bool}
theorem trod_struct4_10 {P : Program} {t : TypeId} {f0 f1 f2 f3 : Field} {fuel : Nat} {cs : List Value} {x : DataW H × List MemPlace} (ht : P.underlying t = some (.struct #[f0, f1, f2, f3])) (h : DataW.trod enc P w base spare held fuel t cs = some x) :
    ∃ y0 y1 y2 y3 n, cs.length = P.cellsOf t ∧ DataW.trod enc P w base spare held n f0.type ((cs.drop f0.offset).take (P.cellsOf f0.type)) = some y0 ∧
      DataW.trod enc P w base spare held n f1.type ((cs.drop f1.offset).take (P.cellsOf f1.type)) = some y1 ∧ DataW.trod enc P w base spare held n f2.type ((cs.drop f2.offset).take (P.cellsOf f2.type)) = some y2 ∧
      DataW.trod enc P w base spare held n f3.type ((cs.drop f3.offset).take (P.cellsOf f3.type)) = some y3 := by
  obtain ⟨xs, n, _, rfl, hl, hlen, hf⟩ := DataW.trod_struct ht h
  match xs, hlen with
  | [y0, y1, y2, y3], _ => exact ⟨y0, y1, y2, y3, n, hl, by simpa using hf 0 f0 rfl, by simpa using hf 1 f1 rfl, by simpa using hf 2 f2 rfl, by simpa using hf 3 f3 rfl⟩
theorem trod_struct2_10 {P : Program} {t : TypeId} {f0 f1 : Field} {fuel : Nat} {cs : List Value} {x : DataW H × List MemPlace} (ht : P.underlying t = some (.struct #[f0, f1])) (h : DataW.trod enc P w base spare held fuel t cs = some x) :
    ∃ y0 y1 n, cs.length = P.cellsOf t ∧ DataW.trod enc P w base spare held n f0.type ((cs.drop f0.offset).take (P.cellsOf f0.type)) = some y0 ∧
      DataW.trod enc P w base spare held n f1.type ((cs.drop f1.offset).take (P.cellsOf f1.type)) = some y1 := by
  obtain ⟨xs, n, _, rfl, hl, hlen, hf⟩ := DataW.trod_struct ht h
  match xs, hlen with
  | [y0, y1], _ => exact ⟨y0, y1, n, hl, by simpa using hf 0 f0 rfl, by simpa using hf 1 f1 rfl⟩
theorem trod_struct3_10 {P : Program} {t : TypeId} {f0 f1 f2 : Field} {fuel : Nat} {cs : List Value} {x : DataW H × List MemPlace} (ht : P.underlying t = some (.struct #[f0, f1, f2])) (h : DataW.trod enc P w base spare held fuel t cs = some x) :
    ∃ y0 y1 y2 n, cs.length = P.cellsOf t ∧ DataW.trod enc P w base spare held n f0.type ((cs.drop f0.offset).take (P.cellsOf f0.type)) = some y0 ∧
      DataW.trod enc P w base spare held n f1.type ((cs.drop f1.offset).take (P.cellsOf f1.type)) = some y1 ∧ DataW.trod enc P w base spare held n f2.type ((cs.drop f2.offset).take (P.cellsOf f2.type)) = some y2 := by
  obtain ⟨xs, n, _, rfl, hl, hlen, hf⟩ := DataW.trod_struct ht h
  match xs, hlen with
  | [y0, y1, y2], _ => exact ⟨y0, y1, y2, n, hl, by simpa using hf 0 f0 rfl, by simpa using hf 1 f1 rfl, by simpa using hf 2 f2 rfl⟩
theorem entry_cells {fuel : Nat} {cs : List Value} {x : DataW H × List MemPlace} (h : DataW.trod enc Try.prog w base spare held fuel 65 cs = some x) : ∃ a b c s, cs = [.int .i64 a, .int .i64 b, .int .i64 c, .string s] ∧ I64b a ∧ I64b b ∧ I64b c ∧ s.size ≤ maxLen := by
  obtain ⟨y0, y1, y2, y3, n, hl, h0, h1, h2, h3⟩ := trod_struct4_10 Try.underlying65 h
  rw [Try.cellsEntry10] at hl
  match cs, hl with
  | [c0, c1, c2, c3], _ =>
    simp only [Try.cellsInt10, Try.cellsInt6410, Try.cellsString10, List.drop_zero, List.drop_succ_cons, List.take_succ_cons, List.take_zero] at h0 h1 h2 h3
    obtain ⟨a, e0, _, wa⟩ := DataW.trod_int Try.underlying2 h0
    obtain ⟨b, e1, _, wb⟩ := DataW.trod_int Try.underlying2 h1
    obtain ⟨c, e2, _, wc⟩ := DataW.trod_int Try.underlying3 h2
    obtain ⟨s, e3, _, ws⟩ := DataW.trod_string Try.underlying9 h3
    simp only [List.cons.injEq, and_true] at e0 e1 e2 e3
    subst e0; subst e1; subst e2; subst e3
    exact ⟨a, b, c, s, rfl, i64b_wf wa, i64b_wf wb, i64b_wf wc, ws⟩
theorem snp_cells {fuel : Nat} {cs : List Value} {x : DataW H × List MemPlace} (h : DataW.trod enc Try.prog w base spare held fuel 23 cs = some x) : ∃ s : Snp, cs = [.int .i64 s.ix, .int .i64 s.st, .string s.conf, .string s.data] ∧ s.fit := by
  obtain ⟨y0, y1, y2, y3, n, hl, h0, h1, h2, h3⟩ := trod_struct4_10 Try.underlying23 h
  rw [Try.cellsSnap10] at hl
  match cs, hl with
  | [c0, c1, c2, c3], _ =>
    simp only [Try.cellsInt6410, Try.cellsString10, List.drop_zero, List.drop_succ_cons, List.take_succ_cons, List.take_zero] at h0 h1 h2 h3
    obtain ⟨a, e0, _, wa⟩ := DataW.trod_int Try.underlying2 h0
    obtain ⟨b, e1, _, wb⟩ := DataW.trod_int Try.underlying2 h1
    obtain ⟨c, e2, _, wc⟩ := DataW.trod_string Try.underlying9 h2
    obtain ⟨s, e3, _, ws⟩ := DataW.trod_string Try.underlying9 h3
    simp only [List.cons.injEq, and_true] at e0 e1 e2 e3
    subst e0; subst e1; subst e2; subst e3
    exact ⟨⟨a, b, c, s⟩, rfl, i64b_wf wa, i64b_wf wb, wc, ws⟩
end
section
variable {H : Type} {enc : TypeId × Value → H} {W : World} {base b0 : Nat} {sp : Nat → Bool} {hd : Bool} {r : Reach} {v : Value} {d : DataW H} {p : List MemPlace}
theorem open_snp (hv : Value.okWide Try.prog W r b0 23 v) (h : DataW.Trod enc Try.prog W base sp hd 23 v d p) : ∃ x : Snp, v = x.val ∧ x.fit := by
  obtain ⟨cs, rfl, hsz⟩ := okWide_struct Try.underlying23 hv
  obtain ⟨fuel, hf⟩ := h
  obtain ⟨x, hx, hfit⟩ := snp_cells hf
  have hx2 : cs.toList = [.int .i64 x.ix, .int .i64 x.st, .string x.conf, .string x.data] := by simpa [Value.cells] using hx
  exact ⟨x, by unfold Snp.val; congr 1; apply Array.toList_inj.1; rw [hx2], hfit⟩
end
theorem Rcds.below {w w' : World} {B C : Nat} {v : Value} {L : List Rcd} (h : Rcds w B v L) (hb : Below C w w') (hC : B ≤ C) : Rcds w' B v L := by
  obtain ⟨A, c, hv, hc, h⟩ := h
  refine ⟨A, c, hv, hc, fun hn => ?_⟩
  obtain ⟨g, o, hA, hg, hcs⟩ := h hn
  exact ⟨g, o, hA, hg, fun k hk j z hj => (hb.cell (p := ⟨g, o + k * 7 + j, Option.none⟩) (Nat.lt_of_lt_of_le hg hC)).trans (hcs k hk j z hj)⟩
theorem Rcds.at_ {w : World} {B n c : Nat} {A : Option Addr} {L : List Rcd} (h : Rcds w B (.slice A n c) L) (k : Nat) (hk : k < L.length) : ∃ g o, A = some ⟨g, o, Option.none⟩ ∧ g < B ∧ w.rangeAt g (o + k * 7) L[k].cs := by
  obtain ⟨A', c', hv, _, h⟩ := h
  injection hv with e1 e2 e3
  subst e1
  obtain ⟨g, o, rfl, hg, hcs⟩ := h (by omega)
  exact ⟨g, o, rfl, hg, hcs k hk⟩
end Go.Proofs.Ytoekiencnbgmhaa
/-
  A function returns what the plain functions say: L1Cut.
-/
set_option linter.unusedSimpArgs false
set_option linter.unusedVariables false
namespace Go.Proofs.Ytoekiencnbgmhaa
open Go.RowKit
set_option maxRecDepth 100000

theorem lcut_any (s : ByteArray) (n : Int) (w : World) (h0 : 0 ≤ n) (h1 : n ≤ 1050000) :
    Calls Try.prog 39 #[.string s, .int .i64 n] w (Some n w) := by
  obtain ⟨k, rfl⟩ := Int.eq_ofNat_of_zero_le h0
  by_cases h : k < s.size
  · go_enter Try.func39, Try.ntmps39
    go_wp2
    go_ret
    exact ⟨_, by rw [ByteArray.size_extract]; omega, rfl, rfl⟩
  · go_enter Try.func39, Try.ntmps39
    go_wp2
    go_ret
    exact ⟨s, by omega, rfl, rfl⟩
/-- the first bytes of a text -/
def cutS (s : ByteArray) (n : Nat) : ByteArray := if n < s.size then s.extract 0 n else s
theorem cutS_size (s : ByteArray) (n : Nat) : (cutS s n).size ≤ n := by
  unfold cutS; split
  · rw [ByteArray.size_extract]; omega
  · omega
theorem lcut_to (s t : ByteArray) (k : Nat) (w : World) (h1 : k ≤ 1050000) (ht : cutS s k = t) :
    Calls Try.prog 39 #[.string s, .int .i64 k] w fun e w' => e = .returned (.string t) ∧ w = w' := by
  subst ht
  by_cases h : k < s.size
  · have hc : cutS s k = s.extract 0 k := if_pos h
    have HC := Lib.hid hc; clear hc
    go_enter Try.func39, Try.ntmps39
    go_wp2
    go_ret
    exact ⟨by rw [HC.out]; rfl, rfl⟩
  · have hc : cutS s k = s := if_neg h
    have HC := Lib.hid hc; clear hc
    go_enter Try.func39, Try.ntmps39
    go_wp2
    go_ret
    exact ⟨by rw [HC.out]; rfl, rfl⟩
end Go.Proofs.Ytoekiencnbgmhaa
/-
  A region that draws its order: one of two operations may come up.
  There are no conditions.
-/
set_option linter.unusedSimpArgs false
set_option linter.unusedVariables false
namespace Go.Proofs.Ytoekiencnbgmhaa
open Go
set_option maxRecDepth 100000

section
variable {P : Program} {ops : Array Oper} {Q : Exit → Act → World → Prop} {md : Region.Mode} {S : World → Prop} {f : Nat}
theorem anyG_step2 {i j : Nat} {o p : Oper} {n : Nat} {L : Array Bool} {a : Act} {w : World} (hr : Region.ready md ops L = [i, j]) (ho : ops[i]? = some o) (hp : ops[j]? = some p)
    (h : ∀ K : Act → World → Prop, Shut (∀ b v, (f ≤ i ∨ S v) → AnyG P md ops Q S f n (L.setIfInBounds i true) b v → K b v) → if Region.wanted o (yielded ops a.tmps) = true then Oper.wp P o a w K Q else K (a.put o.dst undef) w)
    (h2 : ∀ K : Act → World → Prop, Shut (∀ b v, (f ≤ j ∨ S v) → AnyG P md ops Q S f n (L.setIfInBounds j true) b v → K b v) → if Region.wanted p (yielded ops a.tmps) = true then Oper.wp P p a w K Q else K (a.put p.dst undef) w) : AnyG P md ops Q S f (n + 1) L a w :=
  ⟨fun h0 => (by rw [h0] at hr; cases hr), fun k hk => by
    rw [hr, List.mem_cons, List.mem_singleton] at hk
    rcases hk with hk | hk
    · subst hk
      exact wpOp_step ho (fun K hK => h K (fun b v h1 h2 => hK b v ⟨h1, h2⟩))
    · subst hk
      exact wpOp_step hp (fun K hK => h2 K (fun b v h1 h2 => hK b v ⟨h1, h2⟩))⟩
theorem stM2 {n : Nat} {L : Array Bool} {a : Act} {w : World} (i j : Nat) {d : Option Tmp} {x : Op} {t : TypeId} {p : String} {e : Array Edge} {g : Option (Nat × Bool)} (hi : ops[i]? = some ⟨d, x, t, p, e, g⟩)
    {d2 : Option Tmp} {x2 : Op} {t2 : TypeId} {p2 : String} {e2 : Array Edge} {g2 : Option (Nat × Bool)} (hj : ops[j]? = some ⟨d2, x2, t2, p2, e2, g2⟩)
    (h : ∀ K : Act → World → Prop, Shut (∀ b v, (f ≤ i ∨ S v) → AnyG P md ops Q S f n (L.setIfInBounds i true) b v → K b v) → Oper.wp P ⟨d, x, t, p, e, g⟩ a w K Q)
    (h2 : ∀ K : Act → World → Prop, Shut (∀ b v, (f ≤ j ∨ S v) → AnyG P md ops Q S f n (L.setIfInBounds j true) b v → K b v) → Oper.wp P ⟨d2, x2, t2, p2, e2, g2⟩ a w K Q)
    (hr : Region.ready md ops L = [i, j] := by kernel_rfl) (hw : Region.wanted ⟨d, x, t, p, e, g⟩ (yielded ops a.tmps) = true := by rfl) (hw2 : Region.wanted ⟨d2, x2, t2, p2, e2, g2⟩ (yielded ops a.tmps) = true := by rfl) : AnyG P md ops Q S f (n + 1) L a w :=
  anyG_step2 hr hi hj (fun K hK => by rw [if_pos hw]; exact h K hK) (fun K hK => by rw [if_pos hw2]; exact h2 K hK)
end
end Go.Proofs.Ytoekiencnbgmhaa
/-
  How arguments are opened that hold operations: an operation, a batch, and the operations of a batch in memory.
  There are no conditions beyond those that each lemma names.
-/
set_option linter.unusedSimpArgs false
set_option linter.unusedVariables false
namespace Go.Proofs.Ytoekiencnbgmhaa
open Go.RowKit Go.WideShapes Go.ChangeShapes Go.Joins Go.Deep
set_option maxRecDepth 100000

def I64 (a : Int) : Prop := -9223372036854775808 ≤ a ∧ a ≤ 9223372036854775807
theorem i64_wf {a : Int} (h : (Lit.int .i64 a).wf = true) : I64 a := by
  have := bounds_i64 h; unfold I64; omega
/-- the cells of a raw value -/
def RawCs (cs : List Value) : Prop := ∃ (k n : Int) (s : ByteArray), cs = [.int .i64 k, .int .i64 n, .string s] ∧ I64 k ∧ I64 n ∧ s.size ≤ maxLen
/-- the cells of an operation -/
def OpCs (cs : List Value) : Prop := ∃ (k : Int) (key : ByteArray) (v o : List Value) (n : Int), cs = [.int .i64 k, .string key] ++ v ++ o ++ [.int .i64 n] ∧ I64 k ∧ key.size ≤ maxLen ∧ RawCs v ∧ RawCs o ∧ I64 n
theorem Try.cellsInt : Try.prog.cellsOf 3 = 1 := by kernel_rfl
theorem Try.cellsInt64 : Try.prog.cellsOf 2 = 1 := by kernel_rfl
theorem Try.cellsString : Try.prog.cellsOf 9 = 1 := by kernel_rfl
section
variable {H : Type} {enc : TypeId × Value → H} {w : World} {base : Nat} {spare : Nat → Bool} {held : Bool}
theorem trod_struct5 {P : Program} {t : TypeId} {f0 f1 f2 f3 f4 : Field} {fuel : Nat} {cs : List Value} {x : DataW H × List MemPlace} (ht : P.underlying t = some (.struct #[f0, f1, f2, f3, f4])) (h : DataW.trod enc P w base spare held fuel t cs = some x) :
    ∃ y0 y1 y2 y3 y4 n, cs.length = P.cellsOf t ∧ DataW.trod enc P w base spare held n f0.type ((cs.drop f0.offset).take (P.cellsOf f0.type)) = some y0 ∧
      DataW.trod enc P w base spare held n f1.type ((cs.drop f1.offset).take (P.cellsOf f1.type)) = some y1 ∧ DataW.trod enc P w base spare held n f2.type ((cs.drop f2.offset).take (P.cellsOf f2.type)) = some y2 ∧
      DataW.trod enc P w base spare held n f3.type ((cs.drop f3.offset).take (P.cellsOf f3.type)) = some y3 ∧ DataW.trod enc P w base spare held n f4.type ((cs.drop f4.offset).take (P.cellsOf f4.type)) = some y4 := by
  obtain ⟨xs, n, _, rfl, hl, hlen, hf⟩ := DataW.trod_struct ht h
  match xs, hlen with
  | [y0, y1, y2, y3, y4], _ => exact ⟨y0, y1, y2, y3, y4, n, hl, by simpa using hf 0 f0 rfl, by simpa using hf 1 f1 rfl, by simpa using hf 2 f2 rfl, by simpa using hf 3 f3 rfl, by simpa using hf 4 f4 rfl⟩
/-- operations in memory: a slice of so many, each nine cells -/
def OpsIn (W : World) (B : Nat) (v : Value) (n : Nat) (C : Nat → List Value) : Prop :=
  ∃ (A : Option Addr) (c : Nat), v = .slice A n c ∧ n ≤ c ∧ n ≤ maxLen ∧ (0 < n → ∃ g o, A = some ⟨g, o, Option.none⟩ ∧ g < B ∧ ∀ i, i < n → OpCs (C i) ∧ ∀ j u, (C i)[j]? = some u → W.cell? ⟨g, o + i * 9 + j, Option.none⟩ = some u)
theorem cell_in {w : World} {a : Addr} {v : Value} (h : w.cell? a = some v) : a.block < w.heap.size := by
  unfold World.cell? at h
  by_cases hb : a.block < w.heap.size
  · exact hb
  · rw [Array.getElem?_eq_none (by omega)] at h; simp at h
end
end Go.Proofs.Ytoekiencnbgmhaa
/-
  How a law's argument that is a slice of integers is opened.
  There are no conditions.
-/
set_option linter.unusedSimpArgs false
set_option linter.unusedVariables false
namespace Go.Proofs.Ytoekiencnbgmhaa
open Go.RowKit Go.WideShapes Go.ChangeShapes Go.Joins Go.Deep
set_option maxRecDepth 100000

/-- a slice value of integers -/
def Ints (w : World) (B : Nat) (v : Value) (L : List Int) : Prop :=
  ∃ A c, v = .slice A L.length c ∧ L.length ≤ c ∧ (0 < L.length → ∃ g o, A = some ⟨g, o, Option.none⟩ ∧ g < B ∧ ∀ k (h : k < L.length), w.cell? ⟨g, o + k, Option.none⟩ = some (.int .i64 L[k]))
theorem add7 (g o k : Nat) : (⟨g, o, Option.none⟩ : Addr).add k = ⟨g, o + k, Option.none⟩ := by unfold Addr.add; split <;> simp_all
section
variable {H : Type} {enc : TypeId × Value → H} {W : World} {b0 : Nat} {r : Reach} {v : Value} {d : DataW H} {p : List MemPlace}
theorem open_ints7 (hv : Value.okWide Try.prog W r b0 50 v) (h : DataW.Trod enc Try.prog W 0 (fun _ => true) true 50 v d p) :
    ∃ (A : Option Addr) (c : Nat) (l : List Int), v = .slice A l.length c ∧ Ints W W.heap.size (.slice A l.length c) l ∧ ∀ x ∈ l, I64 x := by
  obtain ⟨a0, len, cap, rfl⟩ := okWide_slice Try.underlying50 hv
  obtain ⟨fuel, hf⟩ := h
  have hf2 : DataW.trod enc Try.prog W 0 (fun _ => true) true fuel 50 [.slice a0 len cap] = some (d, p) := by simpa [Value.cells] using hf
  rcases open_slice1 Try.underlying50 Try.cellsInt hf2 with ⟨hcs, _⟩ | ⟨a, len', cap', m, n, V, D, Pl, hcs, _, hl, hm, hmm, _, hx⟩
  · simp only [List.cons.injEq, and_true] at hcs
    injection hcs with e1 e2 e3
    subst e1; subst e2; subst e3
    exact ⟨none, 0, [], rfl, ⟨none, 0, rfl, Nat.le_refl _, fun h => absurd h (by decide)⟩, fun x hx => by cases hx⟩
  · simp only [List.cons.injEq, and_true] at hcs
    injection hcs with e1 e2 e3
    subst e1; subst e2; subst e3
    simp only [if_true] at hmm
    subst hmm
    have hS : ∀ i, i < len → ∃ s : Int, W.cell? (a.add i) = some (.int .i64 s) ∧ I64 s := fun i hi => by
      obtain ⟨h1, h2⟩ := hx i (by omega)
      obtain ⟨s, e, _, hs⟩ := DataW.trod_int Try.underlying3 h2
      simp only [List.cons.injEq, and_true] at e
      exact ⟨s, by rw [h1, e], i64_wf hs⟩
    obtain ⟨f, hf⟩ := choose_lt (α := Int) (p := fun i s => W.cell? (a.add i) = some (.int .i64 s) ∧ I64 s) hS
    have hln : ((List.range len).map f).length = len := by simp
    refine ⟨some a, m, (List.range len).map f, by rw [hln], ?_, fun x hx => ?_⟩
    · refine ⟨some a, m, rfl, by rw [hln]; exact hl, fun h0 => ?_⟩
      rw [hln] at h0
      have hc0 := (hf 0 h0).1
      obtain ⟨g, o, spot⟩ := a
      have hspot : spot = Option.none := by simpa [Addr.add] using World.cell?_spot hc0
      subst hspot
      refine ⟨g, o, rfl, ?_, fun k hk => ?_⟩
      · have := cell_in hc0; simpa [Addr.add] using this
      · rw [hln] at hk
        have := (hf k hk).1
        rw [add7] at this
        rw [this]; simp
    · obtain ⟨i, hi, rfl⟩ := List.mem_map.1 hx
      exact (hf i (List.mem_range.1 hi)).2
end
theorem Ints.keep {w w' : World} {B C : Nat} {v : Value} {L : List Int} (h : Ints w B v L) (hb : Below C w w') (hC : B ≤ C) : Ints w' B v L := by
  obtain ⟨A, c, hv, hc, h⟩ := h
  refine ⟨A, c, hv, hc, fun hn => ?_⟩
  obtain ⟨g, o, hA, hg, hcs⟩ := h hn
  exact ⟨g, o, hA, hg, fun k hk => (hb.cell (p := ⟨g, o + k, Option.none⟩) (Nat.lt_of_lt_of_le hg hC)).trans (hcs k hk)⟩
theorem Ints.at_ {w : World} {B n c : Nat} {A : Option Addr} {L : List Int} (h : Ints w B (.slice A n c) L) (k : Nat) (hk : k < L.length) :
    ∃ g o, A = some ⟨g, o, Option.none⟩ ∧ g < B ∧ w.cell? ⟨g, o + k, Option.none⟩ = some (.int .i64 L[k]) := by
  obtain ⟨A', c', hv, _, h⟩ := h
  injection hv with e1 e2 e3
  subst e1
  obtain ⟨g, o, rfl, hg, hcs⟩ := h (by omega)
  exact ⟨g, o, rfl, hg, hcs k hk⟩
end Go.Proofs.Ytoekiencnbgmhaa
/-
  The reference's Sum reckons a sum bit by bit, as the plain function does.
  The bytes are there in memory.
-/
set_option linter.unusedSimpArgs false
set_option linter.unusedVariables false
namespace Go.Proofs.Ytoekiencnbgmhaa
open Go.RowKit
set_option maxRecDepth 100000

def crcBit (c : Nat) : Nat := if c % 2 = 1 then (c / 2) ^^^ 3988292384 else c / 2
def crcBits : Nat → Nat → Nat
  | 0, c => c
  | k + 1, c => crcBits k (crcBit c)
def crcL (c : Nat) : List UInt8 → Nat
  | [] => c
  | b :: t => crcL (crcBits 8 (c ^^^ b.toNat)) t
def crcSum (l : List UInt8) : Nat := 4294967295 - crcL 4294967295 l
theorem crcBit_lt (c : Nat) (h : c < 4294967296) : crcBit c < 4294967296 := by
  unfold crcBit
  split
  · exact Nat.xor_lt_two_pow (n := 32) (by omega) (by omega)
  · omega
theorem crcBits_lt : ∀ (k c : Nat), c < 4294967296 → crcBits k c < 4294967296
  | 0, _, h => h
  | k + 1, c, h => crcBits_lt k _ (crcBit_lt c h)
theorem crcX_lt (c : Nat) (b : UInt8) (h : c < 4294967296) : c ^^^ b.toNat < 4294967296 := by
  have := b.toNat_lt
  exact Nat.xor_lt_two_pow (n := 32) (by omega) (by omega)
theorem crcL_lt : ∀ (l : List UInt8) (c : Nat), c < 4294967296 → crcL c l < 4294967296
  | [], _, h => h
  | b :: t, c, h => crcL_lt t _ (crcBits_lt 8 _ (crcX_lt c b h))
def Num32 (n : Nat) (w : World) (e : Ending) (w' : World) : Prop := e = .returned (.int .u32 n) ∧ w = w'
end Go.Proofs.Ytoekiencnbgmhaa
/-
  Plain facts on numbers written seven bits a byte, with no program in them: what is written is read again.
  There are no conditions beyond those that each lemma names.
-/
set_option linter.unusedVariables false
set_option linter.unusedSimpArgs false
set_option linter.unusedVariables false
namespace Go.Proofs.Ytoekiencnbgmhaa.Nu
open Go

/-- an integer as a natural number, small ones first -/
def zz (n : Int) : Nat := if n < 0 then (-2 * n - 1).toNat else (2 * n).toNat
def unzz (u : Nat) : Int := if u % 2 = 1 then -((u / 2 : Nat) : Int) - 1 else ((u / 2 : Nat) : Int)
theorem unzz_zz (n : Int) : unzz (zz n) = n := by unfold zz unzz; split <;> split <;> omega
theorem zz_unzz (u : Nat) : zz (unzz u) = u := by unfold zz unzz; split <;> split <;> omega
theorem zz_lt (n : Int) (h0 : -9223372036854775808 ≤ n) (h1 : n ≤ 9223372036854775807) : zz n < 18446744073709551616 := by unfold zz; split <;> omega

/-- seven bits a byte, the lowest first -/
def vr : Nat → Nat → List UInt8
  | 0, _ => []
  | f + 1, u => if u < 128 then [u.toUInt8] else (u % 128 + 128).toUInt8 :: vr f (u / 128)
def var (u : Nat) : List UInt8 := vr 10 u
def put (n : Int) : List UInt8 := var (zz n)

/-- what is read from place i on: the number, how many bytes, the error (0: none, 1: form, 2: more) -/
def getF (i u w : Nat) : List UInt8 → Int × Nat × Nat
  | [] => (0, 0, 2)
  | c :: t =>
    if (i = 9 ∧ 1 < c.toNat) ∨ (0 < i ∧ c.toNat = 0) then (0, 0, 1)
    else if c.toNat < 128 then (unzz (u + c.toNat % 128 * w), i + 1, 0)
    else getF (i + 1) (u + c.toNat % 128 * w) (w * 128) t
def get (l : List UInt8) : Int × Nat × Nat := getF 0 0 1 l

theorem u8n (n : Nat) (h : n < 256) : (n.toUInt8).toNat = n := by simp [Nat.toUInt8]; omega

theorem getF_vr (f : Nat) : ∀ (i u0 w u : Nat) (r : List UInt8), u < 128 ^ f → (u = 0 → i = 0) → i + f = 10 → (i = 9 → u ≤ 1) → (0 < f) → u * 128 ^ i < 18446744073709551616 →
    getF i u0 w (vr f u ++ r) = (unzz (u0 + u * w), i + (vr f u).length, 0) := by
  induction f with
  | zero => intro i u0 w u r h h0 hi h9 hf; omega
  | succ f ih =>
    intro i u0 w u r h h0 hi h9 hf hb
    by_cases hu : u < 128
    · simp only [vr, if_pos hu, List.cons_append, List.nil_append, getF, List.length_cons, List.length_nil]
      rw [u8n u (by omega), if_neg (by omega), if_pos hu, Nat.mod_eq_of_lt hu]
    · simp only [vr, if_neg hu, List.cons_append, getF, List.length_cons]
      have hf0 : 0 < f := by
        cases f with
        | zero => simp at h; omega
        | succ f => omega
      rw [u8n _ (by omega), if_neg (by omega), if_neg (by omega)]
      have e : (u % 128 + 128) % 128 = u % 128 := by omega
      rw [e]
      have hp : (128 : Nat) ^ (i + 1) = 128 ^ i * 128 := Nat.pow_succ ..
      have hd : u / 128 * 128 ≤ u := Nat.div_mul_le_self u 128
      have hb2 : u / 128 * 128 ^ (i + 1) < 18446744073709551616 := by
        rw [hp]
        calc u / 128 * (128 ^ i * 128) = (u / 128 * 128) * 128 ^ i := by rw [Nat.mul_comm (128 ^ i) 128, Nat.mul_assoc]
          _ ≤ u * 128 ^ i := Nat.mul_le_mul_right _ hd
          _ < _ := hb
      have hu2 : u / 128 < 128 ^ f := by
        rw [Nat.pow_succ] at h; omega
      rw [ih (i + 1) _ (w * 128) (u / 128) r hu2 (by omega) (by omega) ?_ hf0 hb2]
      · congr 1
        · congr 1
          have h1 : u % 128 * w + u / 128 * (w * 128) = u * w := by
            have h2 : u = u % 128 + u / 128 * 128 := by omega
            calc u % 128 * w + u / 128 * (w * 128) = (u % 128 + u / 128 * 128) * w := by rw [Nat.add_mul, Nat.mul_comm w 128, Nat.mul_assoc]
              _ = u * w := by rw [← h2]
          omega
        · congr 1; omega
      · intro h8
        have hi8 : i + 1 = 9 := h8
        rw [hi8] at hb2
        have : (128 : Nat) ^ 9 = 9223372036854775808 := by decide
        rw [this] at hb2; omega
theorem get_put (n : Int) (r : List UInt8) (h0 : -9223372036854775808 ≤ n) (h1 : n ≤ 9223372036854775807) : get (put n ++ r) = (n, (put n).length, 0) := by
  have hz := zz_lt n h0 h1
  unfold get put var
  rw [getF_vr 10 0 0 1 (zz n) r (by have : (128 : Nat) ^ 10 = 1180591620717411303424 := by decide
                                    omega) (by omega) (by omega) (by omega) (by omega) (by omega)]
  rw [Nat.mul_one, Nat.zero_add, Nat.zero_add, unzz_zz]
theorem vr_len (f u : Nat) : (vr f u).length ≤ f := by
  induction f generalizing u with
  | zero => simp [vr]
  | succ f ih => simp only [vr]; split <;> simp; exact ih _
theorem put_len (n : Int) : (put n).length ≤ 10 := vr_len 10 _
theorem put_ne (n : Int) : 1 ≤ (put n).length := by unfold put var vr; split <;> simp
/-- what is read has as many bytes as there are -/
theorem getF_len : ∀ (l : List UInt8) (i u w : Nat), (getF i u w l).2.1 ≤ i + l.length := by
  intro l; induction l with
  | nil => intro i u w; simp [getF]
  | cons c t ih =>
    intro i u w; simp only [getF]
    split
    · simp
    · split
      · simp
      · have := ih (i + 1) (u + c.toNat % 128 * w) (w * 128); simp only [List.length_cons]; omega
theorem get_len (l : List UInt8) : (get l).2.1 ≤ l.length := by have := getF_len l 0 0 1; unfold get; omega
theorem getF_pos : ∀ (l : List UInt8) (i u w : Nat), (getF i u w l).2.2 = 0 → i + 1 ≤ (getF i u w l).2.1 := by
  intro l; induction l with
  | nil => intro i u w h; simp [getF] at h
  | cons c t ih =>
    intro i u w; simp only [getF]
    split
    · intro h; simp at h
    · split
      · intro _; simp
      · intro h; have := ih (i + 1) (u + c.toNat % 128 * w) (w * 128) h; omega
theorem get_pos (l : List UInt8) (h : (get l).2.2 = 0) : 1 ≤ (get l).2.1 := by have := getF_pos l 0 0 1 h; unfold get; omega
theorem getF_err : ∀ (l : List UInt8) (i u w : Nat), (getF i u w l).2.2 ≤ 2 := by
  intro l; induction l with
  | nil => intro i u w; simp [getF]
  | cons c t ih =>
    intro i u w; simp only [getF]
    split
    · simp
    · split
      · simp
      · exact ih _ _ _
theorem get_err (l : List UInt8) : (get l).2.2 ≤ 2 := getF_err l 0 0 1
/-- a text behind its length -/
def getT (l : List UInt8) : List UInt8 × Nat × Nat :=
  if (get l).2.2 ≠ 0 then ([], 0, (get l).2.2)
  else if (get l).1 < 0 ∨ 1048576 < (get l).1 then ([], 0, 1)
  else if (l.length : Int) - (get l).2.1 < (get l).1 then ([], 0, 2)
  else ((l.drop (get l).2.1).take (get l).1.toNat, (get l).2.1 + (get l).1.toNat, 0)
def putT (l : List UInt8) : List UInt8 := put (l.length : Int) ++ l
theorem getT_putT (l r : List UInt8) (hl : l.length ≤ 1048576) : getT (putT l ++ r) = (l, (putT l).length, 0) := by
  have h := get_put (l.length : Int) (l ++ r) (by omega) (by omega)
  unfold getT putT
  rw [List.append_assoc, h]
  simp only [ne_eq, not_true_eq_false, if_false, Int.toNat_natCast]
  rw [if_neg (by omega), if_neg (by simp only [List.length_append]; omega)]
  simp
end Go.Proofs.Ytoekiencnbgmhaa.Nu
/-
  The reference's Put writes a number seven bits a byte, in new memory.
  There are no conditions beyond the range of the number.
-/
set_option linter.unusedSimpArgs false
set_option linter.unusedVariables false
namespace Go.Proofs.Ytoekiencnbgmhaa
open Go.RowKit
set_option maxRecDepth 100000

theorem u64_not (n : Int) (h0 : n < 0) (h1 : -9223372036854775808 ≤ n) : bits BinOp.xor IntKind.u64 IntKind.u64.max (IntKind.u64.wrap (IntKind.u64.wrap n * 2)) = (Nu.zz n : Nat) := by
  have e1 : IntKind.u64.wrap (IntKind.u64.wrap n * 2) = 2 * n + 18446744073709551616 := by
    unfold IntKind.wrap; simp [IntKind.bits, IntKind.signed]; omega
  have e2 : IntKind.u64.max = 18446744073709551615 := rfl
  rw [e1, e2, u64_xor _ _ (by omega) (by omega) (by omega) (by omega)]
  have e3 := Lib.xor_ones64 (2 * n + 18446744073709551616).toNat (by omega)
  have e4 : (18446744073709551615 : Int).toNat = 2 ^ 64 - 1 := rfl
  rw [e4, e3]
  unfold Nu.zz; rw [if_pos h0]; omega
theorem vr_end (f u : Nat) (h : u < 128) (hf : 0 < f) : Nu.vr f u = [u.toUInt8] := by
  cases f with
  | zero => omega
  | succ f => simp only [Nu.vr, if_pos h]
theorem vr_more (f u : Nat) (h : ¬ u < 128) : Nu.vr (f + 1) u = (u % 128 + 128).toUInt8 :: Nu.vr f (u / 128) := by simp only [Nu.vr, if_neg h]
def Rest (n : Int) (f u : Nat) (done : List UInt8) : Prop := done ++ Nu.vr f u = Nu.put n ∧ u < 128 ^ f ∧ 0 < f ∧ done.length + f = 10
theorem rest_end' (n : Int) (f u : Nat) (done : List UInt8) (h : Rest n f u done) (hu : u < 128) : done ++ [u.toUInt8] = Nu.put n := by
  rw [← h.1, vr_end f u hu h.2.2.1]
theorem rest_more (n : Int) (f u : Nat) (done : List UInt8) (h : Rest n f u done) (hu : ¬ u < 128) : ∃ g, f = g + 1 ∧ Rest n g (u / 128) (done ++ [(u % 128 + 128).toUInt8]) := by
  obtain ⟨h1, h2, h3, h4⟩ := h
  cases f with
  | zero => omega
  | succ g =>
    have hg : 0 < g := by
      cases g with
      | zero => simp at h2; omega
      | succ g => omega
    refine ⟨g, rfl, ?_, ?_, hg, by simp; omega⟩
    · rw [← h1, vr_more g u hu]; simp
    · rw [Nat.pow_succ] at h2; omega
theorem rest_start (n : Int) (h0 : -9223372036854775808 ≤ n) (h1 : n ≤ 9223372036854775807) : Rest n 10 (Nu.zz n) [] := by
  have hz := Nu.zz_lt n h0 h1
  have : (128 : Nat) ^ 10 = 1180591620717411303424 := by decide
  exact ⟨rfl, by omega, by omega, rfl⟩
theorem cell_u8 (c : UInt8) (m : Int) (h : m = (c.toNat : Int)) : Value.int .u8 m = Value.int .u8 (c.toNat : Int) := by rw [h]
theorem bc_snoc (l : List UInt8) (c : UInt8) : Lib.byteCells (l ++ [c]) = Lib.byteCells l ++ [.int .u8 (c.toNat : Int)] := by simp [Lib.byteCells]

end Go.Proofs.Ytoekiencnbgmhaa
/-
  The reference's Seal makes a frame as the plain function says, in new memory.
  The bytes are there in memory, at most 1,000,000.
-/
set_option linter.unusedSimpArgs false
set_option linter.unusedVariables false
namespace Go.Proofs.Ytoekiencnbgmhaa
open Go.RowKit
set_option maxRecDepth 100000

def fourB (n : Nat) : List UInt8 := [(n / 16777216 % 256).toUInt8, (n / 65536 % 256).toUInt8, (n / 256 % 256).toUInt8, (n % 256).toUInt8]
def headB (kind : Int) (l : List UInt8) : List UInt8 := kind.toNat.toUInt8 :: Nu.put (l.length : Int)
def sealB (kind : Int) (l : List UInt8) : List UInt8 := if kind < 1 ∨ 255 < kind ∨ 4000 < l.length then [] else headB kind l ++ fourB (crcSum (headB kind l ++ l)) ++ l
end Go.Proofs.Ytoekiencnbgmhaa
/-
  The reference's Get reads a number as the plain function says, whatever the bytes.
  The bytes are there in memory, at most as many as the model lets a slice have.
-/
set_option linter.unusedSimpArgs false
set_option linter.unusedVariables false
namespace Go.Proofs.Ytoekiencnbgmhaa
open Go.RowKit
set_option maxRecDepth 100000

def GotN (r : Int × Nat × Nat) (w : World) (e : Ending) (w' : World) : Prop := e = .returned (.tuple #[.int .i64 r.1, .int .i64 r.2.1, .int .i64 r.2.2]) ∧ w = w'
theorem gstep (l : List UInt8) (i u p : Nat) (h : Nu.getF i u p (l.drop i) = Nu.get l) (hi : i < l.length) :
    Nu.get l = if (i = 9 ∧ 1 < l[i].toNat) ∨ (0 < i ∧ l[i].toNat = 0) then (0, 0, 1) else if l[i].toNat < 128 then (Nu.unzz (u + l[i].toNat % 128 * p), i + 1, 0) else Nu.getF (i + 1) (u + l[i].toNat % 128 * p) (p * 128) (l.drop (i + 1)) := by
  rw [← h, List.drop_eq_getElem_cons hi]; rfl
theorem got3 {r : Int × Nat × Nat} {w : World} {a b c : Int} (ha : a = r.1) (hb : b = r.2.1) (hc : c = r.2.2) : GotN r w (.returned (.tuple #[.int .i64 a, .int .i64 b, .int .i64 c])) w := ⟨by rw [ha, hb, hc], rfl⟩
theorem mul_bd (x k un : Nat) (hx : x < 128) (hk : k ≤ 8) (hun : un < 128 ^ k) : x * 128 ^ k + un < 9223372036854775808 ∧ 128 ^ k ≤ 72057594037927936 := by
  have h1 : (128 : Nat) ^ k ≤ 128 ^ 8 := Nat.pow_le_pow_right (by decide) hk
  have h2 : (128 : Nat) ^ 8 = 72057594037927936 := by decide
  have h3 : x * 128 ^ k ≤ 127 * 128 ^ k := Nat.mul_le_mul_right _ (by omega)
  omega
theorem unzz_odd (N : Nat) (h : N % 2 = 1) : Nu.unzz N = -((N : Int) / 2) - 1 := by unfold Nu.unzz; rw [if_pos h]; omega
theorem unzz_even (N : Nat) (h : ¬ N % 2 = 1) : Nu.unzz N = (N : Int) / 2 := by unfold Nu.unzz; rw [if_neg h]; omega

end Go.Proofs.Ytoekiencnbgmhaa
/-
  The reference's GetText reads a text behind its length as the plain function says, whatever the bytes.
  The bytes are there in memory, at most 1,000,000.
-/
set_option linter.unusedSimpArgs false
set_option linter.unusedVariables false
namespace Go.Proofs.Ytoekiencnbgmhaa
open Go.RowKit
set_option maxRecDepth 100000

def GotT (r : List UInt8 × Nat × Nat) (w : World) (e : Ending) (w' : World) : Prop := e = .returned (.tuple #[.string ⟨r.1.toArray⟩, .int .i64 r.2.1, .int .i64 r.2.2]) ∧ w = w'
theorem gotT {r : List UInt8 × Nat × Nat} {w : World} {s : ByteArray} {b c : Int} {l : List UInt8} {k e : Nat} (h : r = (l, k, e)) (hs : s = ⟨l.toArray⟩) (hb : b = k) (hc : c = e) : GotT r w (.returned (.tuple #[.string s, .int .i64 b, .int .i64 c])) w := ⟨by rw [h, hs, hb, hc], rfl⟩
theorem conv_part (w : World) (g o : Nat) (l : List UInt8) (k n cap : Nat) (hk : k + n ≤ l.length) (hcell : ∀ j (h : j < l.length), w.cell? ⟨g, o + j, Option.none⟩ = some (.int .u8 (l[j].toNat : Int))) :
    (convert 109 9 (.slice (some ⟨g, o + k, Option.none⟩) n cap)).run Try.prog w = .ok (.string ⟨((l.drop k).take n).toArray⟩) w := by
  have h := run_convert_bytes_arg (P := Try.prog) w 109 5 Try.underlying109 Try.underlying5 g (o + k) n cap (((l.drop k).take n).map fun x => (x.toNat : Int)) (by simp; omega) (fun i hi => by
    rw [Nat.add_assoc, hcell (k + i) (by omega)]
    simp [List.getD, hi, List.getElem?_drop, show k + i < l.length by omega]) 9 Try.underlying9
  rw [h]; congr 2; unfold strOfNums; rw [List.map_map]; congr 2
  conv => rhs; rw [← List.map_id ((l.drop k).take n)]
  apply List.map_congr_left; intro x _; simp
theorem conv_zero (w : World) (g o cap : Nat) :
    (convert 109 9 (.slice (some ⟨g, o, Option.none⟩) 0 cap)).run Try.prog w = .ok (.string ⟨#[]⟩) w :=
  run_convert_bytes_arg (P := Try.prog) w 109 5 Try.underlying109 Try.underlying5 g o 0 cap [] rfl (fun i hi => by omega) 9 Try.underlying9

theorem getT_of (l : List UInt8) : Nu.getT l = if (Nu.get l).2.2 ≠ 0 then ([], 0, (Nu.get l).2.2)
  else if (Nu.get l).1 < 0 ∨ 1048576 < (Nu.get l).1 then ([], 0, 1)
  else if (l.length : Int) - (Nu.get l).2.1 < (Nu.get l).1 then ([], 0, 2)
  else ((l.drop (Nu.get l).2.1).take (Nu.get l).1.toNat, (Nu.get l).2.1 + (Nu.get l).1.toNat, 0) := rfl
end Go.Proofs.Ytoekiencnbgmhaa
/-
  The reference's PutText writes a text's length and its bytes, in new memory.
  The text has at most 1,000,000 bytes.
-/
set_option linter.unusedSimpArgs false
set_option linter.unusedVariables false
namespace Go.Proofs.Ytoekiencnbgmhaa
open Go.RowKit
set_option maxRecDepth 100000

theorem strCells_bytes (s : ByteArray) : Lib.strCells s = Lib.byteCells s.data.toList := rfl
end Go.Proofs.Ytoekiencnbgmhaa
/-
  The reference's PutRaw writes a value's kind, and its number or text, in new memory.
  Integers are in their ranges; a text has at most 1,000,000 bytes.
-/
set_option linter.unusedSimpArgs false
set_option linter.unusedVariables false
namespace Go.Proofs.Ytoekiencnbgmhaa
open Go.RowKit
set_option maxRecDepth 100000

def putR (r : Raw) : List UInt8 := Nu.put r.kind ++ (if r.kind = 1 then Nu.put r.n else if r.kind = 2 then Nu.putT r.s.data.toList else [])
def Raw.ok (r : Raw) : Prop := (-9223372036854775808 ≤ r.kind ∧ r.kind ≤ 9223372036854775807) ∧ (-9223372036854775808 ≤ r.n ∧ r.n ≤ 9223372036854775807) ∧ r.s.size ≤ 1050000
theorem made_app {l m : List UInt8} {w w' : World} {v : Value} (hown : w'.ownsRow w.heap.size 5 1 v (l.length + m.length) (Lib.byteCells l ++ Lib.byteCells m)) (hb : Below w.heap.size w w') : Made (l ++ m) w (.returned v) w' :=
  ⟨v, rfl, by unfold OwnB; rw [List.length_append, Lib.byteCells_append]; exact hown, hb⟩
theorem putT_len (s : ByteArray) : (Nu.putT s.data.toList).length ≤ s.size + 10 := by
  have h1 := Nu.put_len (s.data.toList.length : Int)
  unfold Nu.putT; rw [List.length_append]
  have e : s.data.toList.length = s.size := by rw [Array.length_toList]; rfl
  omega
theorem putT_ne (l : List UInt8) : 1 ≤ (Nu.putT l).length := by
  have h1 := Nu.put_ne (l.length : Int); unfold Nu.putT; rw [List.length_append]; omega

end Go.Proofs.Ytoekiencnbgmhaa
/-
  The reference's GetRaw reads a value as the plain function says, whatever the bytes.
  The bytes are there in memory, at most 1,000,000.
-/
set_option linter.unusedSimpArgs false
set_option linter.unusedVariables false
namespace Go.Proofs.Ytoekiencnbgmhaa
open Go.RowKit
set_option maxRecDepth 100000

def noRaw : Raw := ⟨0, 0, ⟨#[]⟩⟩
/-- what GetRaw reads -/
def getR (l : List UInt8) : Raw × Nat × Nat :=
  if (Nu.get l).2.2 ≠ 0 then (noRaw, 0, (Nu.get l).2.2)
  else if (Nu.get l).1 = 0 then (noRaw, (Nu.get l).2.1, 0)
  else if (Nu.get l).1 = 1 then
    (if (Nu.get (l.drop (Nu.get l).2.1)).2.2 ≠ 0 then (noRaw, 0, (Nu.get (l.drop (Nu.get l).2.1)).2.2)
     else (⟨1, (Nu.get (l.drop (Nu.get l).2.1)).1, ⟨#[]⟩⟩, (Nu.get l).2.1 + (Nu.get (l.drop (Nu.get l).2.1)).2.1, 0))
  else if (Nu.get l).1 = 2 then
    (if (Nu.getT (l.drop (Nu.get l).2.1)).2.2 ≠ 0 then (noRaw, 0, (Nu.getT (l.drop (Nu.get l).2.1)).2.2)
     else if (Ru.vld (Nu.getT (l.drop (Nu.get l).2.1)).1 && decide ((Nu.getT (l.drop (Nu.get l).2.1)).1.length ≤ 200)) = true then (⟨2, 0, ⟨(Nu.getT (l.drop (Nu.get l).2.1)).1.toArray⟩⟩, (Nu.get l).2.1 + (Nu.getT (l.drop (Nu.get l).2.1)).2.1, 0)
     else (noRaw, 0, 1))
  else (noRaw, 0, 1)
def GotR (r : Raw × Nat × Nat) (w : World) (e : Ending) (w' : World) : Prop := e = .returned (.tuple #[r.1.val, .int .i64 r.2.1, .int .i64 r.2.2]) ∧ Below w.heap.size w w'

theorem getR_err (l : List UInt8) (k : Int) (n e : Nat) (h : Nu.get l = (k, n, e)) (he : e ≠ 0) : getR l = (noRaw, 0, e) := by
  unfold getR; rw [h]; exact if_pos he
theorem getR_0 (l : List UInt8) (n : Nat) (h : Nu.get l = (0, n, 0)) : getR l = (noRaw, n, 0) := by
  unfold getR; rw [h]; simp
theorem getR_1e (l : List UInt8) (n : Nat) (m : Int) (j e : Nat) (h : Nu.get l = (1, n, 0)) (h1 : Nu.get (l.drop n) = (m, j, e)) (he : e ≠ 0) : getR l = (noRaw, 0, e) := by
  unfold getR; rw [h]; simp [h1, he]
theorem getR_1 (l : List UInt8) (n : Nat) (m : Int) (j : Nat) (h : Nu.get l = (1, n, 0)) (h1 : Nu.get (l.drop n) = (m, j, 0)) : getR l = (⟨1, m, ⟨#[]⟩⟩, n + j, 0) := by
  unfold getR; rw [h]; simp [h1]
theorem getR_2e (l : List UInt8) (n : Nat) (t : List UInt8) (j e : Nat) (h : Nu.get l = (2, n, 0)) (h1 : Nu.getT (l.drop n) = (t, j, e)) (he : e ≠ 0) : getR l = (noRaw, 0, e) := by
  unfold getR; rw [h]; simp [h1, he]
theorem getR_2 (l : List UInt8) (n : Nat) (t : List UInt8) (j : Nat) (h : Nu.get l = (2, n, 0)) (h1 : Nu.getT (l.drop n) = (t, j, 0)) : getR l = if (Ru.vld t && decide (t.length ≤ 200)) = true then (⟨2, 0, ⟨t.toArray⟩⟩, n + j, 0) else (noRaw, 0, 1) := by
  unfold getR; rw [h]; simp [h1]
theorem getR_x (l : List UInt8) (k : Int) (n : Nat) (h : Nu.get l = (k, n, 0)) (h0 : k ≠ 0) (h1 : k ≠ 1) (h2 : k ≠ 2) : getR l = (noRaw, 0, 1) := by
  unfold getR; rw [h]; simp [h0, h1, h2]
theorem getT_le (l : List UInt8) : (Nu.getT l).1.length ≤ l.length := by
  rw [getT_of]; split
  · simp
  · split
    · simp
    · split
      · simp
      · simp only [List.length_take, List.length_drop]; omega
theorem getT_len (l : List UInt8) : (Nu.getT l).2.1 ≤ l.length := by
  have h := Nu.get_len l
  rw [getT_of]; split
  · simp
  · split
    · simp
    · split
      · simp
      · simp only; omega
theorem add_lit (g o j : Nat) : (some (⟨g, o, Option.none⟩ : Addr)).map (·.add j) = some ⟨g, o + j, Option.none⟩ := by
  show some (Addr.add ⟨g, o, Option.none⟩ j) = _
  unfold Addr.add; split <;> simp_all
end Go.Proofs.Ytoekiencnbgmhaa
/-
  What the law of a log keeps from step to step: entries one behind the other, none of them long.
  There are no conditions beyond those that each lemma names.
-/
set_option linter.unusedSimpArgs false
set_option linter.unusedVariables false
namespace Go.Proofs.Ytoekiencnbgmhaa
set_option maxRecDepth 100000

/-- the entries' places: one behind the other from the snapshot's on -/
def Fol13 (r : Lg) : Prop := ∀ k (h : k < r.L.length), (r.L[k]).ix = r.s.ix + 1 + (k : Int)
/-- no text of a log is long -/
def Dat13 (r : Lg) : Prop := (∀ e ∈ r.L, e.data.size ≤ 1000) ∧ r.s.conf.size ≤ 1000 ∧ r.s.data.size ≤ 1000
theorem Fol13.le {r : Lg} (h : Fol13 r) : ∀ e ∈ r.L, e.ix ≤ r.s.ix + (r.L.length : Int) := by
  intro e he
  obtain ⟨k, hk, rfl⟩ := List.getElem_of_mem he
  rw [h k hk]; omega
theorem fol13_new {s : Snp} {L : List Ent} (h : new13 s L = true) : Fol13 ⟨s, L⟩ := by
  unfold new13 at h
  simp only [Bool.and_eq_true] at h
  exact fun k hk => flw13_at L s.ix s.st h.2 k hk
theorem fol13_set (s : Snp) : Fol13 ⟨s, []⟩ := fun k hk => absurd hk (by simp)
theorem fol13_pack {r : Lg} (h : Fol13 r) (s : Snp) : Fol13 (pck13 r s).1 := by
  unfold pck13
  split
  · rename_i hc
    intro k hk
    have hk' : k < (r.L.drop (s.ix - r.s.ix).toNat).length := hk
    rw [List.length_drop] at hk'
    show ((r.L.drop (s.ix - r.s.ix).toNat)[k]'(by simpa using hk)).ix = s.ix + 1 + (k : Int)
    rw [List.getElem_drop, h _ (by omega)]
    have := hc.1
    omega
  · exact h
theorem dat13_pack {r : Lg} (h : Dat13 r) {s : Snp} (h1 : s.conf.size ≤ 1000) (h2 : s.data.size ≤ 1000) : Dat13 (pck13 r s).1 := by
  unfold pck13
  split
  · exact ⟨fun e he => h.1 e (List.mem_of_mem_drop he), h1, h2⟩
  · exact h
theorem put13_cases (r : Lg) (l : List Ent) : (put13 r l).1 = r ∨ ∃ e0 t e u, l = e0 :: t ∧ e0.ix ≤ lst13 r + 1 ∧ flw13 e0.ix e0.et t = true ∧ rst13 r l = e :: u ∧ (put13 r l).1 = ⟨r.s, r.L.take (e.ix - 1 - r.s.ix).toNat ++ e :: u⟩ := by
  cases l with
  | nil => exact .inl rfl
  | cons e0 t =>
    unfold put13
    simp only
    by_cases hc : lst13 r + 1 < e0.ix ∨ flw13 e0.ix e0.et t = false
    · rw [if_pos hc]; exact .inl rfl
    · rw [if_neg hc]
      cases hr : rst13 r (e0 :: t) with
      | nil => exact .inl rfl
      | cons e u =>
        simp only
        by_cases hd : e.et < (trm13 r (e.ix - 1)).1 ∨ 200 < (e.ix - 1 - r.s.ix).toNat + (e :: u).length
        · rw [if_pos hd]; exact .inl rfl
        · rw [if_neg hd]
          exact .inr ⟨e0, t, e, u, rfl, by have : ¬ lst13 r + 1 < e0.ix := fun h => hc (.inl h); omega, by simpa using fun e => hc (.inr e), rfl, rfl⟩
theorem rst13_sub (r : Lg) (l : List Ent) : ∀ x ∈ rst13 r l, x ∈ l := fun _ hx => (List.dropWhile_sublist _).subset hx
/-- what is left of entries one behind the other is so -/
theorem rst13_flw {r : Lg} : ∀ (t : List Ent) (e0 e : Ent) (u : List Ent), flw13 e0.ix e0.et t = true → rst13 r (e0 :: t) = e :: u → flw13 e.ix e.et u = true
  | [], e0, e, u, _, h => by
    unfold rst13 at h
    rw [List.dropWhile_cons] at h
    split at h
    · cases h
    · injection h with _ h2; subst h2; rfl
  | x :: t, e0, e, u, hf, h => by
    have hf2 : flw13 x.ix x.et t = true := by
      simp only [flw13, Bool.and_eq_true] at hf; exact hf.2
    unfold rst13 at h
    rw [List.dropWhile_cons] at h
    split at h
    · exact rst13_flw t x e u hf2 h
    · injection h with h1 h2; subst h1; subst h2; exact hf
theorem fol13_put {r : Lg} (h : Fol13 r) (l : List Ent) : Fol13 (put13 r l).1 := by
  rcases put13_cases r l with he | ⟨e0, t, e, u, rfl, h1, h2, h3, h4⟩
  · rw [he]; exact h
  · rw [h4]
    have hi := rst13_ix h1 h2 h3
    have hf := rst13_flw t e0 e u h2 h3
    have hlst : lst13 r = r.s.ix + (r.L.length : Int) := rfl
    have hq : (e.ix - 1 - r.s.ix).toNat ≤ r.L.length := by omega
    intro k hk
    show ((r.L.take (e.ix - 1 - r.s.ix).toNat ++ e :: u)[k]'hk).ix = r.s.ix + 1 + (k : Int)
    have hk' : k < (r.L.take (e.ix - 1 - r.s.ix).toNat ++ e :: u).length := hk
    rw [List.length_append, List.length_take, Nat.min_eq_left hq] at hk'
    by_cases hlt : k < (e.ix - 1 - r.s.ix).toNat
    · rw [List.getElem_append_left (by rw [List.length_take]; omega), List.getElem_take, h _ (by omega)]
    · rw [List.getElem_append_right (by rw [List.length_take]; omega)]
      obtain ⟨j, hj⟩ : ∃ j, k - (r.L.take (e.ix - 1 - r.s.ix).toNat).length = j := ⟨_, rfl⟩
      have hjk : (k : Int) = e.ix - 1 - r.s.ix + (j : Int) := by
        rw [List.length_take, Nat.min_eq_left hq] at hj; omega
      simp only [hj]
      cases j with
      | zero => simp; omega
      | succ j =>
        rw [List.getElem_cons_succ, flw13_at u e.ix e.et hf j (by
          rw [List.length_take, Nat.min_eq_left hq] at hj
          simp only [List.length_cons] at hk'; omega)]
        omega
theorem dat13_put {r : Lg} (h : Dat13 r) {l : List Ent} (hl : ∀ e ∈ l, e.data.size ≤ 1000) : Dat13 (put13 r l).1 := by
  rcases put13_cases r l with he | ⟨e0, t, e, u, rfl, _, _, h3, h4⟩
  · rw [he]; exact h
  · rw [h4]
    refine ⟨fun x hx => ?_, h.2⟩
    rcases List.mem_append.1 hx with hx | hx
    · exact h.1 x (List.mem_of_mem_take hx)
    · exact hl x (rst13_sub r _ x (by rw [h3]; exact hx))
end Go.Proofs.Ytoekiencnbgmhaa
