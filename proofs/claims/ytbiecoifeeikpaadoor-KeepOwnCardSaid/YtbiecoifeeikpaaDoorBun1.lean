/-
  Contracts of the program's functions, of the reference's, and plain lemmas on what they answer (part 1 of 7).
  Each lemma names its conditions.
-/
import Derived.Lib.DecodeN
import Derived.Lib.RuneBytes
import GoSem.Claim
import Derived.Lib.Strings
import Derived.WalkKit
import Derived.WalkLawsBesides
import Derived.WalkSpells
import Derived.BigCall
import Derived.BigQuiet
import Derived.Deep.QuietTactic
import Derived.Deep.LoopGhost
import Derived.Lib.Hide
import Derived.Outline
import Derived.Lib.OthersKept
import Derived.WalkSmall
import Derived.Test.YtbiecoifeeikpaaDoorProg
import Derived.Laws.BitsAllLaws
import Derived.Laws.Bits64
import Derived.ProofKit
import Derived.OpenShut
import Derived.ChangeOld
import Derived.Lib.SmallJoins
import Derived.Deep.RegionHeld3
import Derived.Test.YtbiecoifeeikpaaDoorRows
import Derived.Lib.LaidTab
import Derived.LaidLaws
import Derived.LaidHandle
import Derived.Lib.Zigzag
import Derived.Laws.AppendOwnNone
import Derived.Lib.AppendStr
import Derived.Maps.AppendAt
import Derived.Deep.MidRow
import Derived.Deep.Cut
import Derived.Lib.ConvBytes
import Derived.OwnWalk
import Derived.Maps.OwnSet
import Derived.Sort.KeysCollected
/-
  Plain facts on bytes, runes and their order, with no program in them: decoding, encoding, cutting, folding, comparing.
  There are no conditions beyond those that each lemma names.
-/
set_option linter.unusedVariables false
set_option linter.unusedSimpArgs false
set_option linter.unusedVariables false
namespace Go.Proofs.YtbiecoifeeikpaaDoor.Ru
open Go

/-- byte i of a list, 0 beyond its end -/
def byt (l : List UInt8) (i : Nat) : Nat := (l.getD i 0).toNat
theorem byt_lt (l : List UInt8) (i : Nat) : byt l i < 256 := (l.getD i 0).toNat_lt

/-- the first rune of a list of bytes and its width -/
def dcl (l : List UInt8) : Nat × Nat := Lib.decodeN l.length (byt l 0) (byt l 1) (byt l 2) (byt l 3)

theorem get_list (s : ByteArray) (i : Nat) : s.get! i = s.data.toList.getD i 0 := by
  show s.data[i]! = _
  by_cases h : i < s.data.size
  · rw [getElem!_pos s.data i h]; show _ = (s.data.toList[i]?).getD 0; rw [Array.getElem?_toList, Array.getElem?_eq_getElem h]; rfl
  · rw [getElem!_neg s.data i h]; show _ = (s.data.toList[i]?).getD 0; rw [Array.getElem?_toList, Array.getElem?_eq_none (Nat.le_of_not_lt h)]; rfl

theorem byt_drop (l : List UInt8) (i k : Nat) : byt (l.drop i) k = byt l (i + k) := by
  simp [byt, List.getD, List.getElem?_drop]

theorem decode_list (s : ByteArray) (i : Nat) : Utf8.decode s i = dcl (s.data.toList.drop i) := by
  have hl : (s.data.toList.drop i).length = s.size - i := by rw [List.length_drop, Array.length_toList]; rfl
  rw [Lib.decode_at]; unfold dcl
  rw [hl, byt_drop, byt_drop, byt_drop, byt_drop, get_list, get_list, get_list, get_list]
  rfl

/-- a rune that stands there in good bytes -/
def fine (x : Nat × Nat) : Bool := x.1 != 65533 || x.2 == 3

set_option maxHeartbeats 2000000 in
theorem decodeN_w (n b0 b1 b2 b3 : Nat) (hn : 1 ≤ n) : 1 ≤ (Lib.decodeN n b0 b1 b2 b3).2 ∧ (Lib.decodeN n b0 b1 b2 b3).2 ≤ n ∧ (Lib.decodeN n b0 b1 b2 b3).2 ≤ 4 := by
  unfold Lib.decodeN
  repeat' split
  all_goals (simp only; omega)

set_option maxHeartbeats 2000000 in
theorem decodeN_r (n b0 b1 b2 b3 : Nat) : (Lib.decodeN n b0 b1 b2 b3).1 < 55296 ∨ (57344 ≤ (Lib.decodeN n b0 b1 b2 b3).1 ∧ (Lib.decodeN n b0 b1 b2 b3).1 ≤ 1114111) := by
  unfold Lib.decodeN
  repeat' split
  all_goals (simp only; omega)

set_option maxHeartbeats 8000000 in
theorem decodeN_take (n k b0 b1 b2 b3 : Nat) (hn : 1 ≤ n) (hk : (Lib.decodeN n b0 b1 b2 b3).2 ≤ k) (hk1 : 1 ≤ k) :
    Lib.decodeN (min k n) b0 (if 1 < k then b1 else 0) (if 2 < k then b2 else 0) (if 3 < k then b3 else 0) = Lib.decodeN n b0 b1 b2 b3 := by
  have c1 : (1 < min k n) = (1 < k ∧ 1 < n) := propext ⟨fun h => by omega, fun h => by omega⟩
  have c2 : (2 < min k n) = (2 < k ∧ 2 < n) := propext ⟨fun h => by omega, fun h => by omega⟩
  have c3 : (3 < min k n) = (3 < k ∧ 3 < n) := propext ⟨fun h => by omega, fun h => by omega⟩
  have hcase : k = 1 ∨ k = 2 ∨ k = 3 ∨ 4 ≤ k := by omega
  rcases hcase with h | h | h | h
  · subst h
    revert hk
    simp only [Lib.decodeN, c1, c2, c3, show ¬ (1 < 1) by omega, show ¬ (2 < 1) by omega, show ¬ (3 < 1) by omega, if_false, false_and, and_false, if_false]
    repeat' split
    all_goals (intro hk; first | rfl | (exfalso; simp only at hk; omega) | (exfalso; omega))
  · subst h
    revert hk
    simp only [Lib.decodeN, c1, c2, c3, show (1 < 2) by omega, show ¬ (2 < 2) by omega, show ¬ (3 < 2) by omega, if_true, true_and, if_false, false_and, and_false, if_false]
    repeat' split
    all_goals (intro hk; first | rfl | (exfalso; simp only at hk; omega) | (exfalso; omega))
  · subst h
    revert hk
    simp only [Lib.decodeN, c1, c2, c3, show (1 < 3) by omega, show (2 < 3) by omega, show ¬ (3 < 3) by omega, if_true, true_and, if_false, false_and, and_false, if_false]
    repeat' split
    all_goals (intro hk; first | rfl | (exfalso; simp only at hk; omega) | (exfalso; omega))
  · simp only [Lib.decodeN, c1, c2, c3, show 1 < k by omega, show 2 < k by omega, show 3 < k by omega, if_true, true_and]

set_option maxHeartbeats 8000000 in
theorem decodeN_more (n N b0 b1 b2 b3 c1 c2 c3 : Nat) (hn : 1 ≤ n) (hN : n ≤ N) (h1 : 1 < n → c1 = b1) (h2 : 2 < n → c2 = b2) (h3 : 3 < n → c3 = b3)
    (hg : (Lib.decodeN n b0 b1 b2 b3).1 ≠ 65533 ∨ (Lib.decodeN n b0 b1 b2 b3).2 = 3) : Lib.decodeN N b0 c1 c2 c3 = Lib.decodeN n b0 b1 b2 b3 := by
  have hcase : n = 1 ∨ n = 2 ∨ n = 3 ∨ 4 ≤ n := by omega
  rcases hcase with h | h | h | h
  · subst h
    revert hg
    simp only [Lib.decodeN, show ¬ (1 < 1) by omega, show ¬ (2 < 1) by omega, show ¬ (3 < 1) by omega, false_and, and_false, if_false]
    split
    · intro _; rfl
    · intro hg; exfalso; simp at hg
  · subst h
    obtain rfl := h1 (by omega)
    have e1 : 1 < N := by omega
    revert hg
    simp only [Lib.decodeN, e1, show (1 < 2) by omega, show ¬ (2 < 2) by omega, show ¬ (3 < 2) by omega, true_and, false_and, and_false, if_false]
    split
    · intro _; rfl
    · split
      · intro _; rfl
      · intro hg; exfalso; simp at hg
  · subst h
    obtain rfl := h1 (by omega)
    obtain rfl := h2 (by omega)
    have e1 : 1 < N := by omega
    have e2 : 2 < N := by omega
    revert hg
    simp only [Lib.decodeN, e1, e2, show (1 < 3) by omega, show (2 < 3) by omega, show ¬ (3 < 3) by omega, true_and, false_and, and_false, if_false]
    split
    · intro _; rfl
    · split
      · intro _; rfl
      · split
        · intro _; rfl
        · intro hg; exfalso; simp at hg
  · obtain rfl := h1 (by omega)
    obtain rfl := h2 (by omega)
    obtain rfl := h3 (by omega)
    have e1 : 1 < N := by omega
    have e2 : 2 < N := by omega
    have e3 : 3 < N := by omega
    simp only [Lib.decodeN, e1, e2, e3, show 1 < n by omega, show 2 < n by omega, show 3 < n by omega]

theorem dcl_w (l : List UInt8) (h : l ≠ []) : 1 ≤ (dcl l).2 ∧ (dcl l).2 ≤ l.length ∧ (dcl l).2 ≤ 4 := decodeN_w _ _ _ _ _ (by cases l <;> simp_all)
theorem dcl_r (l : List UInt8) : (dcl l).1 < 55296 ∨ (57344 ≤ (dcl l).1 ∧ (dcl l).1 ≤ 1114111) := decodeN_r _ _ _ _ _

theorem byt_take (l : List UInt8) (k i : Nat) : byt (l.take k) i = if i < k then byt l i else 0 := by
  simp only [byt, List.getD, List.getElem?_take]
  split <;> simp

theorem dcl_take (l : List UInt8) (k : Nat) (h : l ≠ []) (hk : (dcl l).2 ≤ k) : dcl (l.take k) = dcl l := by
  have hw := dcl_w l h
  have := decodeN_take l.length k (byt l 0) (byt l 1) (byt l 2) (byt l 3) (by omega) hk (by omega)
  unfold dcl
  rw [← this, List.length_take, byt_take, byt_take, byt_take, byt_take, if_pos (show 0 < k by omega)]

theorem fine_iff (x : Nat × Nat) : fine x = true ↔ (x.1 ≠ 65533 ∨ x.2 = 3) := by simp [fine]

theorem byt_append (l m : List UInt8) (i : Nat) (h : i < l.length) : byt (l ++ m) i = byt l i := by
  simp [byt, List.getD, List.getElem?_append_left h]

theorem dcl_append (l m : List UInt8) (h : l ≠ []) (hf : fine (dcl l) = true) : dcl (l ++ m) = dcl l := by
  have hw := dcl_w l h
  have h0 : byt (l ++ m) 0 = byt l 0 := byt_append l m 0 (by omega)
  have := decodeN_more l.length (l ++ m).length (byt l 0) (byt l 1) (byt l 2) (byt l 3) (byt (l ++ m) 1) (byt (l ++ m) 2) (byt (l ++ m) 3) (by omega) (by simp) (fun h => byt_append l m 1 h) (fun h => byt_append l m 2 h) (fun h => byt_append l m 3 h) ((fine_iff _).1 hf)
  unfold dcl
  rw [h0, this]

/-! ### all runes of a text -/
def rnsF : Nat → List UInt8 → List (Nat × Nat)
  | 0, _ => []
  | f + 1, l => if l = [] then [] else dcl l :: rnsF f (l.drop (dcl l).2)
def rns (l : List UInt8) : List (Nat × Nat) := rnsF l.length l

theorem rnsF_enough (f : Nat) : ∀ g (l : List UInt8), l.length ≤ f → l.length ≤ g → rnsF f l = rnsF g l := by
  induction f with
  | zero => intro g l h _; have : l = [] := by cases l <;> simp_all
            subst this; cases g <;> simp [rnsF]
  | succ f ih =>
    intro g l h hg
    by_cases hl : l = []
    · subst hl; cases g <;> simp [rnsF]
    · have hw := dcl_w l hl
      cases g with
      | zero => exfalso; omega
      | succ g =>
        simp only [rnsF, if_neg hl]
        rw [ih g (l.drop (dcl l).2) (by simp; omega) (by simp; omega)]

@[simp] theorem rns_nil : rns [] = [] := rfl
theorem rns_cons (l : List UInt8) (h : l ≠ []) : rns l = dcl l :: rns (l.drop (dcl l).2) := by
  have hw := dcl_w l h
  obtain ⟨k, hk⟩ : ∃ k, l.length = k + 1 := ⟨l.length - 1, by omega⟩
  unfold rns
  rw [hk]
  simp only [rnsF, if_neg h]
  rw [rnsF_enough k (l.drop (dcl l).2).length _ (by simp; omega) (by simp)]

theorem rns_ind {P : List UInt8 → Prop} (h0 : P []) (h1 : ∀ l, l ≠ [] → P (l.drop (dcl l).2) → P l) (l : List UInt8) : P l := by
  suffices ∀ n (l : List UInt8), l.length ≤ n → P l from this _ l (Nat.le_refl _)
  intro n
  induction n with
  | zero => intro l h; have : l = [] := by cases l <;> simp_all
            subst this; exact h0
  | succ n ih =>
    intro l h
    by_cases hl : l = []
    · subst hl; exact h0
    · have hw := dcl_w l hl
      exact h1 l hl (ih _ (by simp; omega))

theorem rns_eq_nil (l : List UInt8) : rns l = [] ↔ l = [] := by
  by_cases h : l = []
  · simp [h]
  · rw [rns_cons l h]; simp [h]

def wsum (x : List (Nat × Nat)) : Nat := (x.map (·.2)).sum
@[simp] theorem wsum_nil : wsum [] = 0 := rfl
@[simp] theorem wsum_cons (a : Nat × Nat) (x : List (Nat × Nat)) : wsum (a :: x) = a.2 + wsum x := by simp [wsum]
@[simp] theorem wsum_append (x y : List (Nat × Nat)) : wsum (x ++ y) = wsum x + wsum y := by simp [wsum]

theorem wsum_rns (l : List UInt8) : wsum (rns l) = l.length := by
  induction l using rns_ind with
  | h0 => rfl
  | h1 l h ih => rw [rns_cons l h, wsum_cons, ih]; have := dcl_w l h; rw [List.length_drop]; omega

theorem rns_len (l : List UInt8) : (rns l).length ≤ l.length := by
  induction l using rns_ind with
  | h0 => simp
  | h1 l h ih => rw [rns_cons l h]; have := dcl_w l h; rw [List.length_drop] at ih; rw [List.length_cons]; omega

theorem rns_valid (l : List UInt8) : ∀ x ∈ rns l, x.1 < 55296 ∨ (57344 ≤ x.1 ∧ x.1 ≤ 1114111) := by
  induction l using rns_ind with
  | h0 => simp
  | h1 l h ih =>
    rw [rns_cons l h]; intro x hx
    rcases List.mem_cons.1 hx with rfl | hx
    · exact dcl_r l
    · exact ih x hx

def cnt (l : List UInt8) : Nat := (rns l).length
def vld (l : List UInt8) : Bool := (rns l).all fine
/-- where the first k runes end -/
def cutP (k : Nat) (l : List UInt8) : Nat := wsum ((rns l).take k)
@[simp] theorem cutP_zero (l : List UInt8) : cutP 0 l = 0 := by simp [cutP]
@[simp] theorem cutP_nil (k : Nat) : cutP k [] = 0 := by simp [cutP]
theorem cutP_succ (k : Nat) (l : List UInt8) (h : l ≠ []) : cutP (k + 1) l = (dcl l).2 + cutP k (l.drop (dcl l).2) := by
  simp [cutP, rns_cons l h]
theorem cutP_le (k : Nat) (l : List UInt8) : cutP k l ≤ l.length := by
  have := wsum_rns l
  have e : rns l = (rns l).take k ++ (rns l).drop k := (List.take_append_drop _ _).symm
  rw [e, wsum_append] at this
  unfold cutP; omega

theorem rns_take (k : Nat) (l : List UInt8) : rns (l.take (cutP k l)) = (rns l).take k := by
  induction l using rns_ind generalizing k with
  | h0 => simp
  | h1 l h ih =>
    cases k with
    | zero => simp
    | succ k =>
      have hw := dcl_w l h
      rw [cutP_succ k l h, rns_cons l h, List.take_succ_cons, ← ih k]
      have hne : l.take ((dcl l).2 + cutP k (l.drop (dcl l).2)) ≠ [] := by
        intro e; have := congrArg List.length e; rw [List.length_take, List.length_nil] at this; omega
      rw [rns_cons _ hne, dcl_take l _ h (by omega), List.drop_take]
      congr 2
      rw [Nat.add_sub_cancel_left]

theorem rns_drop (k : Nat) (l : List UInt8) : rns (l.drop (cutP k l)) = (rns l).drop k := by
  induction l using rns_ind generalizing k with
  | h0 => simp
  | h1 l h ih =>
    cases k with
    | zero => simp
    | succ k =>
      rw [cutP_succ k l h, rns_cons l h, List.drop_succ_cons, ← ih k, List.drop_drop]

theorem rns_append (l m : List UInt8) (h : vld l = true) : rns (l ++ m) = rns l ++ rns m := by
  induction l using rns_ind with
  | h0 => simp
  | h1 l hl ih =>
    have hw := dcl_w l hl
    unfold vld at h ih
    rw [rns_cons l hl, List.all_cons, Bool.and_eq_true] at h
    rw [rns_cons l hl, rns_cons (l ++ m) (by simp [hl]), dcl_append l m hl h.1, List.cons_append, ← ih h.2, List.drop_append_of_le_length hw.2.1]

/-! ### encoding -/
def rok (r : Nat) : Prop := r < 55296 ∨ (57344 ≤ r ∧ r ≤ 1114111)

theorem byt_cons0 (a : UInt8) (l : List UInt8) : byt (a :: l) 0 = a.toNat := rfl
theorem byt_cons (a : UInt8) (l : List UInt8) (i : Nat) : byt (a :: l) (i + 1) = byt l i := rfl

theorem u8n (n : Nat) (h : n < 256) : (n.toUInt8).toNat = n := by simp [Nat.toUInt8]; omega
def enc (r : Nat) : List UInt8 := Lib.encodeRune (r : Int)

set_option maxHeartbeats 4000000 in
theorem dcl_encode (r : Nat) (m : List UInt8) (h : rok r) : dcl (enc r ++ m) = (r, (enc r).length) := by
  unfold enc
  unfold rok at h
  have hcase : r ≤ 127 ∨ (128 ≤ r ∧ r ≤ 2047) ∨ (2048 ≤ r ∧ r ≤ 65535) ∨ (65536 ≤ r ∧ r ≤ 1114111) := by omega
  rcases hcase with h1 | h1 | h1 | h1
  · have e : Lib.encodeRuneZ (r : Int) = [(r : Int)] := Lib.encodeRuneZ_one (by omega) (by omega)
    have e2 : Lib.encodeRune (r : Int) = [r.toUInt8] := by simp [Lib.encodeRune, e]
    rw [e2, List.cons_append, List.nil_append]; unfold dcl
    rw [byt_cons0]; unfold Lib.decodeN
    rw [u8n r (by omega), if_pos (by omega)]; rfl
  · have e : Lib.encodeRuneZ (r : Int) = [192 + (r : Int) / 64, 128 + (r : Int) % 64] := Lib.encodeRuneZ_two (by omega) (by omega)
    have e2 : Lib.encodeRune (r : Int) = [(192 + r / 64).toUInt8, (128 + r % 64).toUInt8] := by
      simp only [Lib.encodeRune, e, List.map]
      rw [show ((192 : Int) + (r : Int) / 64).toNat = 192 + r / 64 by omega, show ((128 : Int) + (r : Int) % 64).toNat = 128 + r % 64 by omega]
    rw [e2]
    simp only [dcl, List.cons_append, List.nil_append, byt_cons0, byt_cons _ _ 0, List.length_cons, Lib.decodeN]
    rw [u8n (192 + r / 64) (by omega), u8n (128 + r % 64) (by omega), if_neg (by omega), if_pos (by omega), if_pos (by omega)]
    apply Prod.ext <;> simp only [List.length_nil] <;> omega
  · have e : Lib.encodeRuneZ (r : Int) = [224 + (r : Int) / 4096, 128 + (r : Int) / 64 % 64, 128 + (r : Int) % 64] := Lib.encodeRuneZ_three (by omega)
    have e2 : Lib.encodeRune (r : Int) = [(224 + r / 4096).toUInt8, (128 + r / 64 % 64).toUInt8, (128 + r % 64).toUInt8] := by
      simp only [Lib.encodeRune, e, List.map]
      rw [show ((224 : Int) + (r : Int) / 4096).toNat = 224 + r / 4096 by omega, show ((128 : Int) + (r : Int) / 64 % 64).toNat = 128 + r / 64 % 64 by omega, show ((128 : Int) + (r : Int) % 64).toNat = 128 + r % 64 by omega]
    rw [e2]
    simp only [dcl, List.cons_append, List.nil_append, byt_cons0, byt_cons _ _ 0, byt_cons _ _ 1, List.length_cons, Lib.decodeN]
    rw [u8n (224 + r / 4096) (by omega), u8n (128 + r / 64 % 64) (by omega), u8n (128 + r % 64) (by omega), if_neg (by omega), if_neg (by omega), if_pos (by omega), if_pos (by omega)]
    apply Prod.ext <;> simp only [List.length_nil] <;> omega
  · have e : Lib.encodeRuneZ (r : Int) = [240 + (r : Int) / 262144, 128 + (r : Int) / 4096 % 64, 128 + (r : Int) / 64 % 64, 128 + (r : Int) % 64] := Lib.encodeRuneZ_four (by omega) (by omega)
    have e2 : Lib.encodeRune (r : Int) = [(240 + r / 262144).toUInt8, (128 + r / 4096 % 64).toUInt8, (128 + r / 64 % 64).toUInt8, (128 + r % 64).toUInt8] := by
      simp only [Lib.encodeRune, e, List.map]
      rw [show ((240 : Int) + (r : Int) / 262144).toNat = 240 + r / 262144 by omega, show ((128 : Int) + (r : Int) / 4096 % 64).toNat = 128 + r / 4096 % 64 by omega, show ((128 : Int) + (r : Int) / 64 % 64).toNat = 128 + r / 64 % 64 by omega, show ((128 : Int) + (r : Int) % 64).toNat = 128 + r % 64 by omega]
    rw [e2]
    simp only [dcl, List.cons_append, List.nil_append, byt_cons0, byt_cons _ _ 0, byt_cons _ _ 1, byt_cons _ _ 2, List.length_cons, Lib.decodeN]
    rw [u8n (240 + r / 262144) (by omega), u8n (128 + r / 4096 % 64) (by omega), u8n (128 + r / 64 % 64) (by omega), u8n (128 + r % 64) (by omega), if_neg (by omega), if_neg (by omega), if_neg (by omega), if_pos (by omega), if_pos (by omega)]
    apply Prod.ext <;> simp only [List.length_nil] <;> omega

theorem enc_w (r : Nat) : 1 ≤ (enc r).length ∧ (enc r).length ≤ 4 := by
  have := Lib.runeCells_le (r : Int); rw [Lib.runeCells_length] at this; exact this
theorem enc_ne (r : Nat) : enc r ≠ [] := by
  have := enc_w r
  intro e; rw [e] at this; simp at this

def encs (x : List Nat) : List UInt8 := x.flatMap enc
theorem rns_encs (x : List Nat) (h : ∀ r ∈ x, rok r) : rns (encs x) = x.map fun r => (r, (enc r).length) := by
  induction x with
  | nil => rfl
  | cons a x ih =>
    have ha := h a (by simp)
    show rns (enc a ++ encs x) = _
    rw [rns_cons _ (by simp [enc_ne]), dcl_encode a _ ha]
    simp only [List.drop_left, List.map_cons]
    rw [ih (fun r hr => h r (by simp [hr]))]

theorem enc_len3 (r : Nat) (h : r = 65533) : (enc r).length = 3 := by subst h; rfl
theorem fine_enc (r : Nat) : fine (r, (enc r).length) = true := by
  rw [fine_iff]
  by_cases h : r = 65533
  · exact .inr (enc_len3 r h)
  · exact .inl h
theorem vld_encs (x : List Nat) (h : ∀ r ∈ x, rok r) : vld (encs x) = true := by
  unfold vld; rw [rns_encs x h, List.all_map, List.all_eq_true]; intro r _; exact fine_enc r

/-! ### small letters -/
def low (r : Nat) : Nat := if (65 ≤ r ∧ r ≤ 90) ∨ (192 ≤ r ∧ r ≤ 222 ∧ r ≠ 215) ∨ (913 ≤ r ∧ r ≤ 937 ∧ r ≠ 930) ∨ (1040 ≤ r ∧ r ≤ 1071) then r + 32 else r
theorem low_ok (r : Nat) (h : rok r) : rok (low r) := by unfold low rok at *; split <;> omega
theorem low_low (r : Nat) : low (low r) = low r := by
  have e : ∀ x, low x = x ∨ (low x = x + 32) := by intro x; unfold low; split <;> simp
  unfold low; split
  · rw [if_neg (by omega)]
  · rfl
theorem low_ge (r : Nat) : (32 ≤ low r ∧ low r ≠ 127) ↔ (32 ≤ r ∧ r ≠ 127) := by unfold low; split <;> omega

def fld (l : List UInt8) : List UInt8 := encs ((rns l).map fun x => low x.1)
theorem fld_ok (l : List UInt8) : ∀ r ∈ (rns l).map (fun x => low x.1), rok r := by
  intro r hr
  obtain ⟨x, hx, rfl⟩ := List.mem_map.1 hr
  exact low_ok _ (rns_valid l x hx)
theorem rns_fld (l : List UInt8) : rns (fld l) = (rns l).map fun x => (low x.1, (enc (low x.1)).length) := by
  unfold fld; rw [rns_encs _ (fld_ok l), List.map_map]; rfl
theorem vld_fld (l : List UInt8) : vld (fld l) = true := vld_encs _ (fld_ok l)
theorem cnt_fld (l : List UInt8) : cnt (fld l) = cnt l := by simp [cnt, rns_fld]
theorem fld_fld (l : List UInt8) : fld (fld l) = fld l := by
  unfold fld; rw [show rns (encs ((rns l).map fun x => low x.1)) = _ from rns_fld l, List.map_map]
  congr 1
  apply List.map_congr_left; intro x _; simp [low_low]
theorem fld_append (l m : List UInt8) (h : vld l = true) : fld (l ++ m) = fld l ++ fld m := by
  unfold fld; rw [rns_append l m h, List.map_append]; unfold encs; rw [List.flatMap_append]

/-! ### keys -/
def okr (x : Nat × Nat) : Bool := fine x && decide (32 ≤ x.1) && x.1 != 127
def key (l : List UInt8) : Bool := decide (1 ≤ (rns l).length) && decide ((rns l).length ≤ 40) && (rns l).all okr
theorem key_fld (l : List UInt8) (h : key l = true) : key (fld l) = true := by
  unfold key at *
  rw [rns_fld, List.length_map]
  simp only [Bool.and_eq_true] at h ⊢
  refine ⟨h.1, ?_⟩
  rw [List.all_map, List.all_eq_true]
  intro x hx
  have := List.all_eq_true.1 h.2 x hx
  simp only [okr, Bool.and_eq_true, decide_eq_true_eq, bne_iff_ne] at this
  have hl := (low_ge x.1).2 ⟨this.1.2, this.2⟩
  simp only [Function.comp, okr, Bool.and_eq_true, decide_eq_true_eq, bne_iff_ne, fine_enc, true_and]
  exact hl
theorem key_vld (l : List UInt8) (h : key l = true) : vld l = true := by
  unfold key at h; unfold vld
  simp only [Bool.and_eq_true] at h
  rw [List.all_eq_true]; intro x hx
  have := List.all_eq_true.1 h.2 x hx
  simp only [okr, Bool.and_eq_true] at this
  exact this.1.1

/-! ### a stray byte -/
theorem dcl_bad (c : UInt8) (m : List UInt8) (h : 248 ≤ c.toNat) : dcl (c :: m) = (65533, 1) := by
  have hc := c.toNat_lt
  unfold dcl
  rw [byt_cons0]; unfold Lib.decodeN
  rw [if_neg (by omega), if_neg (by omega), if_neg (by omega), if_neg (by omega)]
theorem rns_bad (a b : List UInt8) (c : UInt8) (ha : vld a = true) (h : 248 ≤ c.toNat) : rns (a ++ [c] ++ b) = rns a ++ (65533, 1) :: rns b := by
  rw [List.append_assoc, rns_append a _ ha]
  congr 1
  show rns (c :: b) = _
  rw [rns_cons _ (by simp), dcl_bad c b h]; rfl

set_option maxHeartbeats 4000000 in
theorem decodeN_fffd (n b0 b1 b2 b3 : Nat) (h0 : b0 < 256) (h1 : b1 < 256) (h2 : b2 < 256) (hr : (Lib.decodeN n b0 b1 b2 b3).1 = 65533) : (Lib.decodeN n b0 b1 b2 b3).2 = 3 ↔ (2 < n ∧ b0 = 239 ∧ b1 = 191 ∧ b2 = 189) := by
  revert hr
  unfold Lib.decodeN
  repeat' split
  all_goals (intro hr; omega)

theorem pre3 (l : List UInt8) : (l.take 3 = [239, 191, 189]) ↔ (2 < l.length ∧ byt l 0 = 239 ∧ byt l 1 = 191 ∧ byt l 2 = 189) := by
  constructor
  · intro h
    have hl : 2 < l.length := by have := congrArg List.length h; simp at this; omega
    have e : ∀ i, i < 3 → byt l i = byt (l.take 3) i := by intro i hi; rw [byt_take, if_pos hi]
    rw [e 0 (by omega), e 1 (by omega), e 2 (by omega), h]
    exact ⟨hl, rfl, rfl, rfl⟩
  · rintro ⟨hl, h0, h1, h2⟩
    match l, hl with
    | a :: b :: c :: t, _ =>
      simp only [byt_cons0, byt_cons _ _ 0, byt_cons _ _ 1] at h0 h1 h2
      simp only [List.take_succ_cons, List.take_zero]
      rw [show a = 239 from UInt8.toNat_inj.1 h0, show b = 191 from UInt8.toNat_inj.1 h1, show c = 189 from UInt8.toNat_inj.1 h2]

theorem fine_pre (l : List UInt8) (h : l ≠ []) (hr : (dcl l).1 = 65533) : fine (dcl l) = decide (l.take 3 = [239, 191, 189]) := by
  have := decodeN_fffd l.length (byt l 0) (byt l 1) (byt l 2) (byt l 3) (byt_lt _ _) (byt_lt _ _) (byt_lt _ _) hr
  rw [Bool.eq_iff_iff, decide_eq_true_eq, pre3, ← this, fine_iff]
  constructor
  · rintro (h | h)
    · exact absurd hr h
    · exact h
  · exact .inr

/-! ### order -/
def cmpR : List Nat → List Nat → Bool → Bool
  | [], [], t => t
  | [], _ :: _, _ => true
  | _ :: _, [], _ => false
  | p :: x, q :: y, t => if p = q then cmpR x y t else decide (p < q)

theorem cmpR_total (x : List Nat) : ∀ y t u, (x ≠ y ∨ (t || u) = true) → (cmpR x y t || cmpR y x u) = true := by
  induction x with
  | nil => intro y t u h; cases y <;> simp_all [cmpR]
  | cons p x ih =>
    intro y t u h
    cases y with
    | nil => simp [cmpR]
    | cons q y =>
      simp only [cmpR]
      by_cases e : p = q
      · subst e; rw [if_pos rfl, if_pos rfl]; apply ih
        rcases h with h | h
        · exact .inl fun e => h (by rw [e])
        · exact .inr h
      · rw [if_neg e, if_neg (Ne.symm e)]; simp; omega
theorem cmpR_asym (x : List Nat) : ∀ y t u, (t && u) = false → (cmpR x y t && cmpR y x u) = false := by
  induction x with
  | nil => intro y t u h; cases y <;> simp_all [cmpR]
  | cons p x ih =>
    intro y t u h
    cases y with
    | nil => simp [cmpR]
    | cons q y =>
      simp only [cmpR]
      by_cases e : p = q
      · subst e; rw [if_pos rfl, if_pos rfl]; exact ih y t u h
      · rw [if_neg e, if_neg (Ne.symm e)]; simp; omega
theorem cmpR_trans (x : List Nat) : ∀ y z t u v, (t = true → u = true → v = true) → cmpR x y t = true → cmpR y z u = true → cmpR x z v = true := by
  induction x with
  | nil => intro y z t u v h h1 h2; cases y <;> cases z <;> simp_all [cmpR]
  | cons p x ih =>
    intro y z t u v h h1 h2
    cases y with
    | nil => simp [cmpR] at h1
    | cons q y =>
      cases z with
      | nil => simp [cmpR] at h2
      | cons s z =>
        simp only [cmpR] at h1 h2 ⊢
        by_cases e : p = q
        · subst e; rw [if_pos rfl] at h1
          by_cases e2 : p = s
          · subst e2; rw [if_pos rfl] at h2 ⊢; exact ih y z t u v h h1 h2
          · rw [if_neg e2] at h2 ⊢; exact h2
        · rw [if_neg e] at h1
          have := of_decide_eq_true h1
          by_cases e2 : q = s
          · subst e2; rw [if_neg (by omega)]; exact h1
          · rw [if_neg e2] at h2; have := of_decide_eq_true h2
            rw [if_neg (by omega)]; simp; omega

def runs (l : List UInt8) : List Nat := (rns l).map (·.1)
def les (a b : List UInt8) : Bool := cmpR (runs a) (runs b) (Op.bytesLess a b)

theorem bl_irrefl (a : List UInt8) : Op.bytesLess a a = false := by
  induction a with
  | nil => rfl
  | cons x a ih => simp [Op.bytesLess, ih]
theorem bl_cons (x y : UInt8) (a b : List UInt8) : Op.bytesLess (x :: a) (y :: b) = if x.toNat = y.toNat then Op.bytesLess a b else decide (x.toNat < y.toNat) := by
  have h1 : (x < y) = (x.toNat < y.toNat) := by rw [UInt8.lt_iff_toNat_lt]
  have h2 : (x == y) = decide (x.toNat = y.toNat) := by
    rw [Bool.eq_iff_iff, beq_iff_eq, decide_eq_true_eq, UInt8.toNat_inj]
  simp only [Op.bytesLess, h1, h2]
  split
  · rename_i h; simp [h]
  · rename_i h; simp [h]
theorem bl_asym (a : List UInt8) : ∀ b, (Op.bytesLess a b && Op.bytesLess b a) = false := by
  induction a with
  | nil => intro b; cases b <;> rfl
  | cons x a ih =>
    intro b
    cases b with
    | nil => rfl
    | cons y b =>
      rw [bl_cons, bl_cons]
      by_cases e : x.toNat = y.toNat
      · rw [if_pos e, if_pos e.symm]; exact ih b
      · rw [if_neg e, if_neg (Ne.symm e)]; simp; omega
theorem bl_total (a : List UInt8) : ∀ b, a ≠ b → (Op.bytesLess a b || Op.bytesLess b a) = true := by
  induction a with
  | nil => intro b h; cases b <;> simp_all [Op.bytesLess]
  | cons x a ih =>
    intro b h
    cases b with
    | nil => simp [Op.bytesLess]
    | cons y b =>
      rw [bl_cons, bl_cons]
      by_cases e : x.toNat = y.toNat
      · rw [if_pos e, if_pos e.symm]
        exact ih b fun e2 => h (by rw [e2, UInt8.toNat_inj.1 e])
      · rw [if_neg e, if_neg (Ne.symm e)]; simp; omega
theorem bl_trans (a : List UInt8) : ∀ b c, Op.bytesLess a b = true → Op.bytesLess b c = true → Op.bytesLess a c = true := by
  induction a with
  | nil => intro b c h1 h2; cases b <;> cases c <;> simp_all [Op.bytesLess]
  | cons x a ih =>
    intro b c h1 h2
    cases b with
    | nil => simp [Op.bytesLess] at h1
    | cons y b =>
      cases c with
      | nil => simp [Op.bytesLess] at h2
      | cons z c =>
        rw [bl_cons] at h1 h2 ⊢
        by_cases e : x.toNat = y.toNat
        · rw [if_pos e] at h1
          by_cases e2 : y.toNat = z.toNat
          · rw [if_pos e2] at h2; rw [if_pos (e.trans e2)]; exact ih b c h1 h2
          · rw [if_neg e2] at h2; rw [if_neg (by omega)]; rw [e]; exact h2
        · rw [if_neg e] at h1
          have := of_decide_eq_true h1
          by_cases e2 : y.toNat = z.toNat
          · rw [if_neg (by omega), ← e2]; exact h1
          · rw [if_neg e2] at h2; have := of_decide_eq_true h2
            rw [if_neg (by omega)]; simp; omega

theorem les_asym (a b : List UInt8) : (les a b && les b a) = false := cmpR_asym _ _ _ _ (bl_asym a b)
theorem les_trans (a b c : List UInt8) (h1 : les a b = true) (h2 : les b c = true) : les a c = true := cmpR_trans _ _ _ _ _ _ (bl_trans a b c) h1 h2
theorem les_total (a b : List UInt8) (h : a ≠ b) : (les a b || les b a) = true := cmpR_total _ _ _ _ (.inr (bl_total a b h))
theorem cmpR_self (x : List Nat) (t : Bool) : cmpR x x t = t := by
  induction x with
  | nil => rfl
  | cons p x ih => simp [cmpR, ih]
theorem les_self (a : List UInt8) : les a a = false := by unfold les; rw [cmpR_self, bl_irrefl]
theorem cmpR_front (x y : List Nat) (t : Bool) (h : y ≠ []) : cmpR (x ++ y) x t = false := by
  induction x with
  | nil => cases y <;> simp_all [cmpR]
  | cons p x ih => simp [cmpR, ih]
theorem les_front (a b : List UInt8) (h : vld a = true) : les (a ++ b) a = false := by
  by_cases hb : b = []
  · subst hb; rw [List.append_nil, les_self]
  · unfold les runs
    rw [rns_append a b h, List.map_append]
    exact cmpR_front _ _ _ (by simpa [rns_eq_nil] using hb)
theorem les_eq (a b : List UInt8) : (les a b || les b a) = !(a == b) := by
  by_cases h : a = b
  · subst h; simp [les_self]
  · rw [les_total a b h]; simp [h]
theorem cut_front (a b : List UInt8) (h : vld a = true) : cutP (cnt a) (a ++ b) = a.length := by
  unfold cutP cnt; rw [rns_append a b h, List.take_left, wsum_rns]
theorem cnt_append (a b : List UInt8) (h : vld a = true) : cnt (a ++ b) = cnt a + cnt b := by
  unfold cnt; rw [rns_append a b h, List.length_append]
theorem vld_append (a b : List UInt8) (ha : vld a = true) (hb : vld b = true) : vld (a ++ b) = true := by
  unfold vld at *; rw [rns_append a b ha, List.all_append, ha, hb]; rfl
theorem cnt_cut (k : Nat) (l : List UInt8) : cnt (l.take (cutP k l)) = min k (cnt l) := by
  unfold cnt; rw [rns_take, List.length_take]
theorem cnt_rest (k : Nat) (l : List UInt8) : cnt (l.drop (cutP k l)) = cnt l - k := by
  unfold cnt; rw [rns_drop, List.length_drop]
theorem encs_replicate (n : Nat) (r : Nat) : encs (List.replicate (n + 1) r) = encs (List.replicate n r) ++ enc r := by
  unfold encs; rw [List.replicate_succ', List.flatMap_append]; simp
theorem rns_rep (n r : Nat) (h : rok r) : rns (encs (List.replicate n r)) = List.replicate n (r, (enc r).length) := by
  rw [rns_encs _ (by intro x hx; rw [List.eq_of_mem_replicate hx]; exact h), List.map_replicate]
theorem key_rep (n r : Nat) (h : rok r) (h1 : 32 ≤ r) (h2 : r ≠ 127) : key (encs (List.replicate n r)) = (decide (1 ≤ n) && decide (n ≤ 40)) := by
  unfold key; rw [rns_rep n r h, List.length_replicate]
  have : (List.replicate n (r, (enc r).length)).all okr = true := by
    rw [List.all_eq_true]; intro x hx; rw [List.eq_of_mem_replicate hx]
    simp only [okr, Bool.and_eq_true, decide_eq_true_eq, bne_iff_ne]
    exact ⟨⟨fine_enc r, h1⟩, h2⟩
  rw [this, Bool.and_true]
theorem cnt_rep (n r : Nat) (h : rok r) : cnt (encs (List.replicate n r)) = n := by unfold cnt; rw [rns_rep n r h, List.length_replicate]
theorem dcl_enc (r : Nat) (h : rok r) : dcl (enc r) = (r, (enc r).length) := by
  have := dcl_encode r [] h; rwa [List.append_nil] at this
theorem vld_bad (a b : List UInt8) (c : UInt8) (ha : vld a = true) (h : 248 ≤ c.toNat) : vld (a ++ [c] ++ b) = false := by
  unfold vld; rw [rns_bad a b c ha h, List.all_append, List.all_cons]; simp [fine]
theorem key_bad (a b : List UInt8) (c : UInt8) (ha : vld a = true) (h : 248 ≤ c.toNat) : key (a ++ [c] ++ b) = false := by
  cases hk : key (a ++ [c] ++ b)
  · rfl
  · have := key_vld _ hk; rw [vld_bad a b c ha h] at this; cases this
theorem cnt_bad (a b : List UInt8) (c : UInt8) (ha : vld a = true) (h : 248 ≤ c.toNat) : cnt (a ++ [c] ++ b) = cnt a + 1 + cnt b := by
  unfold cnt; rw [rns_bad a b c ha h]; simp; omega
theorem fld_bad (a b : List UInt8) (c : UInt8) (ha : vld a = true) (h : 248 ≤ c.toNat) : fld (a ++ [c] ++ b) = fld a ++ [239, 191, 189] ++ fld b := by
  unfold fld; rw [rns_bad a b c ha h, List.map_append, List.map_cons]
  unfold encs; rw [List.flatMap_append, List.flatMap_cons]
  have : enc (low 65533) = [239, 191, 189] := by decide
  rw [this]; simp
theorem fld_len (l : List UInt8) : (fld l).length ≤ 4 * l.length := by
  have h : ∀ x : List Nat, (encs x).length ≤ 4 * x.length := by
    intro x; induction x with
    | nil => simp [encs]
    | cons a x ih => have := enc_w a; simp only [encs, List.flatMap_cons, List.length_append, List.length_cons] at *; omega
  have h1 := h ((rns l).map fun x => low x.1)
  have h2 := rns_len l
  rw [List.length_map] at h1
  unfold fld; omega
end Go.Proofs.YtbiecoifeeikpaaDoor.Ru
/-
  Plain facts on texts, runes, values and worlds that the walks of the functions use; no program is named.
-/
set_option linter.unusedSimpArgs false
set_option linter.unusedVariables false
namespace Go.Proofs.YtbiecoifeeikpaaDoor
open Go.RowKit
set_option maxRecDepth 100000

def lowZ (r : Int) : Int := if (65 ≤ r ∧ r ≤ 90) ∨ (192 ≤ r ∧ r ≤ 222 ∧ r ≠ 215) ∨ (913 ≤ r ∧ r ≤ 937 ∧ r ≠ 930) ∨ (1040 ≤ r ∧ r ≤ 1071) then r + 32 else r

theorem low_split (a r : Int) (h : ((65 ≤ r ∧ r ≤ 90) ∨ (192 ≤ r ∧ r ≤ 222 ∧ r ≠ 215) ∨ (913 ≤ r ∧ r ≤ 937 ∧ r ≠ 930) ∨ (1040 ≤ r ∧ r ≤ 1071)) ∧ a = r + 32 ∨ ¬ ((65 ≤ r ∧ r ≤ 90) ∨ (192 ≤ r ∧ r ≤ 222 ∧ r ≠ 215) ∨ (913 ≤ r ∧ r ≤ 937 ∧ r ≠ 930) ∨ (1040 ≤ r ∧ r ≤ 1071)) ∧ a = r) : a = lowZ r := by
  unfold lowZ; rcases h with ⟨h, e⟩ | ⟨h, e⟩
  · rw [if_pos h, e]
  · rw [if_neg h, e]

theorem ret_i32 {a b : Int} (h : a = b) : Ending.returned (.int .i32 a) = .returned (.int .i32 b) := by rw [h]

theorem ofNat_u8 (a : Nat) (b : Int) (h : b.toNat = a) : UInt8.ofNat a = b.toNat.toUInt8 := by rw [h]

theorem enc_str (r : Int) : Utf8.encode r = ⟨(Lib.encodeRune r).toArray⟩ := by
  have hv : Utf8.valid r = decide ((0 ≤ r ∧ r < 55296) ∨ (57343 < r ∧ r ≤ 1114111)) := validRune_eq r
  have hcase : (0 ≤ r ∧ r ≤ 127) ∨ (128 ≤ r ∧ r ≤ 2047) ∨ ((2048 ≤ r ∧ r < 55296) ∨ (57343 < r ∧ r ≤ 65535)) ∨ (65536 ≤ r ∧ r ≤ 1114111) ∨ (r < 0 ∨ (55296 ≤ r ∧ r ≤ 57343) ∨ 1114111 < r) := by omega
  unfold Utf8.encode
  rcases hcase with h | h | h | h | h
  · have e : Lib.encodeRuneZ r = [r] := Lib.encodeRuneZ_one h.1 h.2
    rw [hv, decide_eq_true (by omega)]
    simp only [if_true, Lib.encodeRune, e, List.map]
    rw [if_pos (by omega)]
  · have e : Lib.encodeRuneZ r = [192 + r / 64, 128 + r % 64] := Lib.encodeRuneZ_two h.1 h.2
    rw [hv, decide_eq_true (by omega)]
    simp only [if_true, Lib.encodeRune, e, List.map]
    rw [if_neg (by omega), if_pos (by omega)]
    rw [ofNat_u8 (192 + r.toNat / 64) (192 + r / 64) (by omega), ofNat_u8 (128 + r.toNat % 64) (128 + r % 64) (by omega)]
  · have e : Lib.encodeRuneZ r = [224 + r / 4096, 128 + r / 64 % 64, 128 + r % 64] := Lib.encodeRuneZ_three h
    rw [hv, decide_eq_true (by omega)]
    simp only [if_true, Lib.encodeRune, e, List.map]
    rw [if_neg (by omega), if_neg (by omega), if_pos (by omega)]
    rw [ofNat_u8 (224 + r.toNat / 4096) (224 + r / 4096) (by omega), ofNat_u8 (128 + r.toNat / 64 % 64) (128 + r / 64 % 64) (by omega), ofNat_u8 (128 + r.toNat % 64) (128 + r % 64) (by omega)]
  · have e : Lib.encodeRuneZ r = [240 + r / 262144, 128 + r / 4096 % 64, 128 + r / 64 % 64, 128 + r % 64] := Lib.encodeRuneZ_four h.1 h.2
    rw [hv, decide_eq_true (by omega)]
    simp only [if_true, Lib.encodeRune, e, List.map]
    rw [if_neg (by omega), if_neg (by omega), if_neg (by omega)]
    rw [ofNat_u8 (240 + r.toNat / 262144) (240 + r / 262144) (by omega), ofNat_u8 (128 + r.toNat / 4096 % 64) (128 + r / 4096 % 64) (by omega), ofNat_u8 (128 + r.toNat / 64 % 64) (128 + r / 64 % 64) (by omega), ofNat_u8 (128 + r.toNat % 64) (128 + r % 64) (by omega)]
  · have e : Lib.encodeRuneZ r = [239, 191, 189] := Lib.encodeRuneZ_bad h
    rw [hv, decide_eq_false (by omega)]
    simp only [Lib.encodeRune, e, Bool.false_eq_true, if_false]; decide

theorem nums_enc (xs : List Int) (r : Int) (h : Lib.encodeRuneZ r = xs) : Ending.returned (.string (strOfNums xs)) = .returned (.string ⟨(Lib.encodeRune r).toArray⟩) := by
  rw [← h]; rfl

theorem below_new (w : World) (o : Obj) : Below w.heap.size w (w.alloc o) := (Below.refl _ _).alloc (Nat.le_refl _) _

def Enc (r : Int) (w : World) (e : Ending) (w' : World) : Prop := e = .returned (.string ⟨(Lib.encodeRune r).toArray⟩) ∧ Below w.heap.size w w'

theorem width_pos (s : ByteArray) (pos : Nat) (h : pos < s.size) : 1 ≤ (Utf8.decode s pos).2 := by
  rw [Ru.decode_list]
  exact (Ru.dcl_w _ (by intro e; have := congrArg List.length e; simp at this; omega)).1

/-- the runes from place pos on -/
def rest (s : ByteArray) (pos : Nat) : List UInt8 := s.data.toList.drop pos

theorem rest_ne (s : ByteArray) (pos : Nat) (h : pos < s.size) : rest s pos ≠ [] := by
  intro e; have := congrArg List.length e; simp [rest] at this; omega

theorem rest_end (s : ByteArray) (pos : Nat) (h : ¬ pos < s.size) : rest s pos = [] := by
  unfold rest; apply List.drop_of_length_le; rw [Array.length_toList]; exact Nat.le_of_not_lt h

theorem rest_next (s : ByteArray) (pos : Nat) (h : pos < s.size) : Ru.rns (rest s pos) = Utf8.decode s pos :: Ru.rns (rest s (pos + (Utf8.decode s pos).2)) := by
  rw [Ru.rns_cons _ (rest_ne s pos h), Ru.decode_list]; unfold rest; rw [List.drop_drop]

theorem ret_i64 {a b : Int} (h : a = b) : Ending.returned (.int .i64 a) = .returned (.int .i64 b) := by rw [h]

/-- the first rune of a text and its width, as the program tells it -/
def decB (s : ByteArray) : Nat × Nat := if s.size = 0 then (65533, 0) else Utf8.decode s 0

def Dec (r : Nat × Nat) (w : World) (e : Ending) (w' : World) : Prop := e = .returned (.tuple #[.int .i32 r.1, .int .i64 r.2]) ∧ Below w.heap.size w w'

theorem decB_pos (s : ByteArray) (h : 0 < s.size) : decB s = Utf8.decode s 0 := by unfold decB; rw [if_neg (by omega)]

def Fst (s : ByteArray) (pos : Nat) (f : Int) : Prop := (pos = 0 ∧ f = 65533) ∨ (0 < s.size ∧ 0 < pos ∧ (pos : Int) = (Utf8.decode s 0).2 ∧ f = (Utf8.decode s 0).1)

theorem width_le (s : ByteArray) (pos : Nat) (h : pos < s.size) : pos + (Utf8.decode s pos).2 ≤ s.size := by
  have h1 := (Ru.dcl_w _ (rest_ne s pos h)).2.1
  rw [Ru.decode_list]
  have h2 : (rest s pos).length = s.size - pos := by simp [rest]
  unfold rest at *; omega

theorem dec_ret (s : ByteArray) (w w' : World) (a b : Int) (h : Below w.heap.size w w') (ha : a = (decB s).1) (hb : b = (decB s).2) : Dec (decB s) w (.returned (.tuple #[.int .i32 a, .int .i64 b])) w' := ⟨by rw [ha, hb], h⟩

def pre : ByteArray := ⟨#[239, 191, 189]⟩

theorem ext_list (s : ByteArray) (pos : Nat) : (s.extract pos s.size).data.toList = rest s pos := by
  rw [ByteArray.data_extract, Array.toList_extract]; unfold rest
  rw [List.extract_eq_take_drop, List.take_of_length_le]; simp

theorem pre_take (l : List UInt8) : Lib.hasPrefix l [239, 191, 189] = decide (l.take 3 = [239, 191, 189]) := by
  unfold Lib.hasPrefix
  rw [Bool.eq_iff_iff, List.isPrefixOf_iff_prefix, decide_eq_true_eq, List.prefix_iff_eq_take]
  exact eq_comm

theorem vld_next (s : ByteArray) (pos : Nat) (h : pos < s.size) : Ru.vld (rest s pos) = (Ru.fine (Utf8.decode s pos) && Ru.vld (rest s (pos + (Utf8.decode s pos).2))) := by
  unfold Ru.vld; rw [rest_next s pos h, List.all_cons]

theorem ret_bool {a b : Bool} (h : a = b) : Ending.returned (.bool a) = .returned (.bool b) := by rw [h]

theorem cutP_next (s : ByteArray) (pos k : Nat) (h : pos < s.size) : Ru.cutP (k + 1) (rest s pos) = (Utf8.decode s pos).2 + Ru.cutP k (rest s (pos + (Utf8.decode s pos).2)) := by
  rw [Ru.cutP_succ k _ (rest_ne s pos h), Ru.decode_list]; unfold rest; rw [List.drop_drop]

def cutB (s : ByteArray) (n : Int) : ByteArray := s.extract 0 (Ru.cutP n.toNat s.data.toList)

def Str (t : ByteArray) (w : World) (e : Ending) (w' : World) : Prop := e = .returned (.string t) ∧ Below w.heap.size w w'

theorem str_ret {t u : ByteArray} {w w' : World} (h : t = u) (hb : Below w.heap.size w w') : Str u w (.returned (.string t)) w' := ⟨by rw [h], hb⟩

def KeyRest (k : Nat) (l : List UInt8) : Bool := decide (k + (Ru.rns l).length ≤ 40) && (Ru.rns l).all Ru.okr

theorem keyRest_stop (s : ByteArray) (pos k : Nat) (hp : pos < s.size) (h : 40 < k + 1 ∨ Ru.okr (Utf8.decode s pos) = false) : KeyRest k (rest s pos) = false := by
  unfold KeyRest; rw [rest_next s pos hp, List.length_cons, List.all_cons]
  rcases h with h | h
  · rw [decide_eq_false (by omega), Bool.false_and]
  · rw [h, Bool.false_and, Bool.and_false]

theorem keyRest_go (s : ByteArray) (pos k : Nat) (hp : pos < s.size) (h : Ru.okr (Utf8.decode s pos) = true) : KeyRest k (rest s pos) = KeyRest (k + 1) (rest s (pos + (Utf8.decode s pos).2)) := by
  unfold KeyRest; rw [rest_next s pos hp, List.length_cons, List.all_cons, h, Bool.true_and]
  congr 2
  rw [Nat.add_assoc, Nat.add_comm 1]

theorem okr_low (x : Nat × Nat) (h : x.1 < 32) : Ru.okr x = false := by unfold Ru.okr; rw [decide_eq_false (by omega)]; simp

theorem okr_del (x : Nat × Nat) (h : x.1 = 127) : Ru.okr x = false := by unfold Ru.okr; rw [h]; simp

theorem okr_bad (x : Nat × Nat) (h : Ru.fine x = false) : Ru.okr x = false := by unfold Ru.okr; rw [h]; rfl

theorem okr_ok (x : Nat × Nat) (h : Ru.fine x = true) (h1 : ¬ x.1 < 32) (h2 : ¬ x.1 = 127) : Ru.okr x = true := by
  unfold Ru.okr; rw [h, decide_eq_true (by omega), bne_iff_ne.2 h2]; rfl

theorem low_cast (n : Nat) : lowZ (n : Int) = (Ru.low n : Nat) := by
  unfold lowZ Ru.low
  by_cases h : (65 ≤ n ∧ n ≤ 90) ∨ (192 ≤ n ∧ n ≤ 222 ∧ n ≠ 215) ∨ (913 ≤ n ∧ n ≤ 937 ∧ n ≠ 930) ∨ (1040 ≤ n ∧ n ≤ 1071)
  · rw [if_pos h, if_pos (by omega)]; rfl
  · rw [if_neg h, if_neg (by omega)]

def foldB (s : ByteArray) : ByteArray := ⟨(Ru.fld s.data.toList).toArray⟩

/-- what is still to be written -/
def fldR (l : List UInt8) : List UInt8 := Ru.fld l

theorem fldR_next (s : ByteArray) (pos : Nat) (h : pos < s.size) : fldR (rest s pos) = Ru.enc (Ru.low (Utf8.decode s pos).1) ++ fldR (rest s (pos + (Utf8.decode s pos).2)) := by
  unfold fldR Ru.fld; rw [rest_next s pos h]; rfl

theorem low_bd (s : ByteArray) (pos : Nat) : -2147483648 ≤ lowZ ((Utf8.decode s pos).1 : Int) ∧ lowZ ((Utf8.decode s pos).1 : Int) ≤ 2147483647 := by
  rw [low_cast]
  have h := Ru.low_ok _ (Ru.dcl_r (s.data.toList.drop pos))
  rw [← Ru.decode_list] at h; unfold Ru.rok at h; omega

def lesB (a b : ByteArray) : Bool := Ru.les a.data.toList b.data.toList

def runs (s : ByteArray) : List Nat := Ru.runs s.data.toList

theorem runs_next (s : ByteArray) (h : 0 < s.size) : runs s = (decB s).1 :: runs (s.extract (decB s).2 s.size) := by
  have h1 := rest_next s 0 h
  rw [decB_pos s h]; unfold runs Ru.runs
  rw [ext_list, show s.data.toList = rest s 0 from rfl, h1, List.map_cons, Nat.zero_add]

theorem decB_le (s : ByteArray) (h : 0 < s.size) : 1 ≤ (decB s).2 ∧ (decB s).2 ≤ s.size := by
  rw [decB_pos s h]; have := width_le s 0 h; have := width_pos s 0 h; omega

theorem runs_nil (s : ByteArray) (h : s.size = 0) : runs s = [] := by
  unfold runs Ru.runs; rw [show s.data.toList = rest s 0 from rfl, rest_end s 0 (by omega)]; rfl

theorem runs_ne (s : ByteArray) (h : 0 < s.size) : runs s ≠ [] := by rw [runs_next s h]; simp

theorem cmp_nil (x : List Nat) (t : Bool) (h : x ≠ []) : Ru.cmpR [] x t = true := by cases x <;> simp_all [Ru.cmpR]

theorem cmp_end (x : List Nat) (t : Bool) (h : x ≠ []) : Ru.cmpR x [] t = false := by cases x <;> simp_all [Ru.cmpR]

theorem lst_empty (x : ByteArray) (h : 0 < x.size) : x.toList.isEmpty = false := by
  rw [ByteArray.toList_eq]
  cases he : x.data.toList with
  | nil => have := congrArg List.length he; rw [Array.length_toList] at this; have h2 : x.data.size = x.size := rfl; rw [List.length_nil] at this; omega
  | cons => rfl

theorem lst_nil (x : ByteArray) (h : ¬ 0 < x.size) : x.toList = [] := by
  rw [ByteArray.toList_eq]
  apply List.eq_nil_of_length_eq_zero
  rw [Array.length_toList]; have h2 : x.data.size = x.size := rfl; omega

theorem cmp_step (x y : ByteArray) (t : Bool) (hx : 0 < x.size) (hy : 0 < y.size) : Ru.cmpR (runs x) (runs y) t = if (decB x).1 = (decB y).1 then Ru.cmpR (runs (x.extract (decB x).2 x.size)) (runs (y.extract (decB y).2 y.size)) t else decide ((decB x).1 < (decB y).1) := by
  rw [runs_next x hx, runs_next y hy]; rfl

theorem neq_of {a b : Nat} (h : ¬ a = b) : ((a : Int) != b) = true := by rw [bne_iff_ne]; omega

theorem neq_not {a b : Nat} (h : a = b) : ((a : Int) != b) = false := by rw [h]; simp

def Cmp (a b x y : ByteArray) : Prop := Ru.cmpR (runs x) (runs y) (Op.bytesLess a.toList b.toList) = lesB a b

theorem byt_get (s : ByteArray) (k : Nat) (h : k < s.size) : Ru.byt s.data.toList k = s[k].toNat := by
  unfold Ru.byt
  have h2 : k < s.data.toList.length := by rw [Array.length_toList]; exact h
  rw [List.getD, List.getElem?_eq_getElem h2]; rfl

/-- the model's decode of a text, by its first four bytes -/
def dN (s : ByteArray) : Nat × Nat := Lib.decodeN s.size (Ru.byt s.data.toList 0) (Ru.byt s.data.toList 1) (Ru.byt s.data.toList 2) (Ru.byt s.data.toList 3)

theorem dN_eq (s : ByteArray) (h : 0 < s.size) : decB s = dN s := by
  rw [decB_pos s h, Ru.decode_list, List.drop_zero]; unfold Ru.dcl dN; rw [Array.length_toList]; rfl

def bt (s : ByteArray) (k : Nat) : Nat := Ru.byt s.data.toList k

theorem bt_lt (s : ByteArray) (k : Nat) : bt s k < 256 := Ru.byt_lt _ _

/-- the number so far -/
def acc (s : ByteArray) (b : Int) : Nat → Int
  | 0 => b
  | 1 => b
  | k + 2 => acc s b (k + 1) * 64 + bt s (k + 1) - 128

def Conts (s : ByteArray) (k : Nat) : Prop := ∀ j, 1 ≤ j → j < k → 128 ≤ bt s j ∧ bt s j ≤ 191

theorem conts_one (s : ByteArray) : Conts s 1 := fun j h1 h2 => by omega

theorem conts_next (s : ByteArray) (k : Nat) (h : Conts s k) (h1 : 128 ≤ bt s k) (h2 : bt s k ≤ 191) : Conts s (k + 1) := fun j a b => by
  by_cases e : j = k
  · subst e; exact ⟨h1, h2⟩
  · exact h j a (by omega)

theorem acc_next (s : ByteArray) (b : Int) (k : Nat) (h : 1 ≤ k) : acc s b (k + 1) = acc s b k * 64 + bt s k - 128 := by
  cases k with
  | zero => omega
  | succ k => rfl

theorem acc_bd (s : ByteArray) (b : Int) (k : Nat) (hb0 : 0 ≤ b) (hb1 : b ≤ 31) (h : Conts s k) (h1 : 1 ≤ k) (h4 : k ≤ 4) : 0 ≤ acc s b k ∧ acc s b k ≤ 8388607 := by
  have a1 : acc s b 1 = b := rfl
  have a2 : acc s b 2 = acc s b 1 * 64 + bt s 1 - 128 := rfl
  have a3 : acc s b 3 = acc s b 2 * 64 + bt s 2 - 128 := rfl
  have a4 : acc s b 4 = acc s b 3 * 64 + bt s 3 - 128 := rfl
  have hk : k = 1 ∨ k = 2 ∨ k = 3 ∨ k = 4 := by omega
  rcases hk with rfl | rfl | rfl | rfl
  · omega
  · have := h 1 (by omega) (by omega); omega
  · have := h 1 (by omega) (by omega); have := h 2 (by omega) (by omega); omega
  · have := h 1 (by omega) (by omega); have := h 2 (by omega) (by omega); have := h 3 (by omega) (by omega); omega

set_option maxHeartbeats 4000000 in
theorem dN1 (n b0 b1 b2 b3 : Nat) (h : b0 < 128) : Lib.decodeN n b0 b1 b2 b3 = (b0, 1) := by unfold Lib.decodeN; rw [if_pos h]

set_option maxHeartbeats 4000000 in
theorem dNelse (n b0 b1 b2 b3 : Nat) (h : (128 ≤ b0 ∧ b0 < 192) ∨ 248 ≤ b0) (h2 : b0 < 256) : Lib.decodeN n b0 b1 b2 b3 = (65533, 1) := by
  unfold Lib.decodeN; rw [if_neg (by omega), if_neg (by omega), if_neg (by omega), if_neg (by omega)]

set_option maxHeartbeats 4000000 in
theorem dN2_ok (n b0 b1 b2 b3 : Nat) (v : Int) (h0 : 192 ≤ b0) (h1 : b0 < 224) (hn : 2 ≤ n) (c1 : 128 ≤ b1 ∧ b1 ≤ 191) (hv : v = ((b0 : Int) - 192) * 64 + b1 - 128) (ho : 128 ≤ v) : v = (Lib.decodeN n b0 b1 b2 b3).1 ∧ (2 : Int) = (Lib.decodeN n b0 b1 b2 b3).2 := by
  unfold Lib.decodeN; rw [if_neg (by omega), if_pos (by omega), if_pos (by omega)]; simp only; omega

set_option maxHeartbeats 4000000 in
theorem dN2_bad (n b0 b1 b2 b3 : Nat) (h0 : 192 ≤ b0) (h1 : b0 < 224) (h : n < 2 ∨ b1 < 128 ∨ 191 < b1 ∨ (128 ≤ b1 ∧ ((b0 : Int) - 192) * 64 + b1 - 128 < 128)) (g1 : b1 < 256) : Lib.decodeN n b0 b1 b2 b3 = (65533, 1) := by
  unfold Lib.decodeN; rw [if_neg (by omega)]
  by_cases hc : b0 / 32 = 6 ∧ (1 < n ∧ b1 / 64 = 2)
  · rw [if_pos hc, if_neg (by omega)]
  · rw [if_neg hc, if_neg (by omega), if_neg (by omega)]

set_option maxHeartbeats 4000000 in
theorem dN3_ok (n b0 b1 b2 b3 : Nat) (v : Int) (h0 : 224 ≤ b0) (h1 : b0 < 240) (hn : 3 ≤ n) (c1 : 128 ≤ b1 ∧ b1 ≤ 191) (c2 : 128 ≤ b2 ∧ b2 ≤ 191) (hv : v = (((b0 : Int) - 224) * 64 + b1 - 128) * 64 + b2 - 128) (ho : 2048 ≤ v) (hs : v < 55296 ∨ 57344 ≤ v) : v = (Lib.decodeN n b0 b1 b2 b3).1 ∧ (3 : Int) = (Lib.decodeN n b0 b1 b2 b3).2 := by
  unfold Lib.decodeN; rw [if_neg (by omega), if_neg (by omega), if_pos (by omega), if_pos (by omega)]; simp only; omega

set_option maxHeartbeats 4000000 in
theorem dN3_bad (n b0 b1 b2 b3 : Nat) (h0 : 224 ≤ b0) (h1 : b0 < 240) (g1 : b1 < 256) (g2 : b2 < 256) (h : n < 3 ∨ b1 < 128 ∨ 191 < b1 ∨ b2 < 128 ∨ 191 < b2 ∨ (128 ≤ b1 ∧ 128 ≤ b2 ∧ ((((b0 : Int) - 224) * 64 + b1 - 128) * 64 + b2 - 128 < 2048 ∨ (55296 ≤ (((b0 : Int) - 224) * 64 + b1 - 128) * 64 + b2 - 128 ∧ (((b0 : Int) - 224) * 64 + b1 - 128) * 64 + b2 - 128 < 57344)))) : Lib.decodeN n b0 b1 b2 b3 = (65533, 1) := by
  unfold Lib.decodeN; rw [if_neg (by omega), if_neg (by omega)]
  by_cases hc : b0 / 16 = 14 ∧ (1 < n ∧ b1 / 64 = 2) ∧ (2 < n ∧ b2 / 64 = 2)
  · rw [if_pos hc, if_neg (by omega)]
  · rw [if_neg hc, if_neg (by omega)]

set_option maxHeartbeats 4000000 in
theorem dN4_ok (n b0 b1 b2 b3 : Nat) (v : Int) (h0 : 240 ≤ b0) (h1 : b0 < 248) (hn : 4 ≤ n) (c1 : 128 ≤ b1 ∧ b1 ≤ 191) (c2 : 128 ≤ b2 ∧ b2 ≤ 191) (c3 : 128 ≤ b3 ∧ b3 ≤ 191) (hv : v = ((((b0 : Int) - 240) * 64 + b1 - 128) * 64 + b2 - 128) * 64 + b3 - 128) (ho : 65536 ≤ v) (hs : v ≤ 1114111) : v = (Lib.decodeN n b0 b1 b2 b3).1 ∧ (4 : Int) = (Lib.decodeN n b0 b1 b2 b3).2 := by
  unfold Lib.decodeN; rw [if_neg (by omega), if_neg (by omega), if_neg (by omega), if_pos (by omega), if_pos (by omega)]; simp only; omega

set_option maxHeartbeats 4000000 in
theorem dN4_bad (n b0 b1 b2 b3 : Nat) (h0 : 240 ≤ b0) (h1 : b0 < 248) (g1 : b1 < 256) (g2 : b2 < 256) (g3 : b3 < 256) (h : n < 4 ∨ b1 < 128 ∨ 191 < b1 ∨ b2 < 128 ∨ 191 < b2 ∨ b3 < 128 ∨ 191 < b3 ∨ (128 ≤ b1 ∧ 128 ≤ b2 ∧ 128 ≤ b3 ∧ (((((b0 : Int) - 240) * 64 + b1 - 128) * 64 + b2 - 128) * 64 + b3 - 128 < 65536 ∨ 1114111 < ((((b0 : Int) - 240) * 64 + b1 - 128) * 64 + b2 - 128) * 64 + b3 - 128))) : Lib.decodeN n b0 b1 b2 b3 = (65533, 1) := by
  unfold Lib.decodeN; rw [if_neg (by omega), if_neg (by omega), if_neg (by omega)]
  by_cases hc : b0 / 8 = 30 ∧ (1 < n ∧ b1 / 64 = 2) ∧ (2 < n ∧ b2 / 64 = 2) ∧ (3 < n ∧ b3 / 64 = 2)
  · rw [if_pos hc, if_neg (by omega)]
  · rw [if_neg hc]

/-- what the reference's Decode hands back: the world is as it was -/
def DecQ (r : Nat × Nat) (w : World) (e : Ending) (w' : World) : Prop := e = .returned (.tuple #[.int .i32 r.1, .int .i64 r.2]) ∧ w = w'

/-- what Decode hands back -/
theorem dec_is (s : ByteArray) (w : World) (a b : Int) (h0 : 0 < s.size) (h : a = (dN s).1 ∧ b = (dN s).2) : DecQ (decB s) w (.returned (.tuple #[.int .i32 a, .int .i64 b])) w := by
  rw [dN_eq s h0]; exact ⟨by rw [h.1, h.2], rfl⟩

theorem dec_bad (s : ByteArray) (w : World) (h0 : 0 < s.size) (h : dN s = (65533, 1)) : DecQ (decB s) w (.returned (.tuple #[.int .i32 65533, .int .i64 1])) w :=
  dec_is s w _ _ h0 (by rw [h]; exact ⟨rfl, rfl⟩)

theorem decB_at (s : ByteArray) (pos : Nat) (h : pos < s.size) : decB (s.extract pos s.size) = Utf8.decode s pos := by
  have h2 : 0 < (s.extract pos s.size).size := by rw [ByteArray.size_extract]; omega
  rw [decB_pos _ h2, Ru.decode_list, List.drop_zero, ext_list, Ru.decode_list]; rfl

/-- where each rune begins -/
def ats : Nat → List (Nat × Nat) → List Nat
  | _, [] => []
  | p, x :: l => p :: ats (p + x.2) l

theorem ats_snoc (x : Nat × Nat) : ∀ (l : List (Nat × Nat)) (p : Nat), ats p (l ++ [x]) = ats p l ++ [p + Ru.wsum l]
  | [], p => by simp [ats]
  | a :: l, p => by simp [ats, ats_snoc x l, Nat.add_assoc]

theorem ats_len : ∀ (l : List (Nat × Nat)) (p : Nat), (ats p l).length = l.length
  | [], p => rfl
  | a :: l, p => by simp [ats, ats_len l]

def runeVals (R : List (Nat × Nat)) : List Value := R.map fun x : Nat × Nat => Value.int .i32 (x.1 : Int)

def atVals (R : List (Nat × Nat)) : List Value := (ats 0 R).map fun x : Nat => Value.int .i64 (x : Int)

theorem runeVals_snoc (R : List (Nat × Nat)) (x : Nat × Nat) : runeVals (R ++ [x]) = runeVals R ++ [.int .i32 (x.1 : Int)] := by simp [runeVals]

theorem atVals_snoc (R : List (Nat × Nat)) (x : Nat × Nat) (p : Nat) (h : p = Ru.wsum R) : atVals (R ++ [x]) = atVals R ++ [.int .i64 (p : Int)] := by
  subst h; unfold atVals; rw [ats_snoc, List.map_append, Nat.zero_add]; rfl

/-- rows of different element types lie in different blocks -/
theorem own_apart {w : World} {B B' e e' s s' n n' : Nat} {v v' : Value} {x x' : List Value} (h : w.ownsRow B e s v n x) (h' : w.ownsRow B' e' s' v' n' x') (hne : e ≠ e') : v.ownBlock = Option.none ∨ v.ownBlock ≠ v'.ownBlock := by
  rcases h.2 with ⟨rfl, _⟩ | ⟨g, c, cur, rfl, _, hg, _⟩
  · exact .inl rfl
  · rcases h'.2 with ⟨rfl, _⟩ | ⟨g', c', cur', rfl, _, hg', _⟩
    · exact .inr (by simp [Value.ownBlock])
    · refine .inr fun e1 => ?_
      have : g = g' := by simpa [Value.ownBlock] using e1
      subst this
      rw [hg] at hg'; injection hg' with hg'; injection hg' with _ ht; exact hne ht

theorem own_read {w : World} {B e n : Nat} {v : Value} {xs : List Value} (h : w.ownsRow B e 1 v n xs) :
    ∃ A c, v = .slice A n c ∧ (0 < n → ∃ g, A = some ⟨g, 0, Option.none⟩ ∧ g < w.heap.size ∧ ∀ k u, xs[k]? = some u → w.cell? ⟨g, k, Option.none⟩ = some u) := by
  have hc := fun (g : Nat) (hg : v.ownBlock = some g) => h.cells hg
  rcases h.2 with ⟨rfl, rfl⟩ | ⟨g, c, cur, rfl, _⟩
  · exact ⟨Option.none, 0, rfl, fun h => absurd h (by omega)⟩
  · refine ⟨_, c, rfl, fun _ => ⟨g, rfl, (h.lt g rfl).2, fun k u hu => ?_⟩⟩
    have h2 := hc g rfl k u hu
    have e1 : (⟨g, 0, Option.none⟩ : Addr).add k = ⟨g, k, Option.none⟩ := by unfold Addr.add; split <;> simp_all
    rw [e1] at h2; exact h2

theorem runeVals_at (R : List (Nat × Nat)) (k : Nat) (h : k < R.length) : (runeVals R)[k]? = some (.int .i32 (R[k].1 : Nat)) := by
  simp [runeVals, h]

theorem okr_none (R : List (Nat × Nat)) (h : R.all Ru.fine = false) : R.all Ru.okr = false := by
  obtain ⟨x, hx, hf⟩ := List.all_eq_false.1 h
  exact List.all_eq_false.2 ⟨x, hx, by rw [okr_bad x (by simpa using hf)]; simp⟩

theorem atVals_at (R : List (Nat × Nat)) (k : Nat) (h : k < R.length) : (atVals R)[k]? = some (.int .i64 (Ru.wsum (R.take k) : Nat)) := by
  have key : ∀ (R : List (Nat × Nat)) (p k : Nat), k < R.length → (ats p R)[k]? = some (p + Ru.wsum (R.take k)) := by
    intro R; induction R with
    | nil => intro p k h; simp at h
    | cons x R ih =>
      intro p k h
      cases k with
      | zero => simp [ats]
      | succ k => simp only [ats, List.getElem?_cons_succ, List.take_succ_cons, Ru.wsum_cons]; rw [ih _ k (by simpa using h), Nat.add_assoc]
  unfold atVals; rw [List.getElem?_map, key R 0 k h]; simp

theorem cmp_drop (P Q : List Nat) (t : Bool) (k : Nat) (h1 : k < P.length) (h2 : k < Q.length) : Ru.cmpR (P.drop k) (Q.drop k) t = if P[k] = Q[k] then Ru.cmpR (P.drop (k + 1)) (Q.drop (k + 1)) t else decide (P[k] < Q[k]) := by
  rw [List.drop_eq_getElem_cons h1, List.drop_eq_getElem_cons h2]; rfl

theorem runeVals_runs (R : List (Nat × Nat)) (k : Nat) (h : k < (R.map (·.1)).length) : (runeVals R)[k]? = some (.int .i32 ((R.map (·.1))[k] : Nat)) := by
  rw [List.length_map] at h
  rw [runeVals_at R k h]; simp

theorem fld_drop (R : List (Nat × Nat)) (k : Nat) (h : k < R.length) : Ru.encs ((R.drop k).map fun x => Ru.low x.1) = Ru.enc (Ru.low R[k].1) ++ Ru.encs ((R.drop (k + 1)).map fun x => Ru.low x.1) := by
  rw [List.drop_eq_getElem_cons h]; rfl

theorem ret_pair {a b c d : Int} (h : a = c) (h2 : b = d) : Ending.returned (.tuple #[.int .i32 a, .int .i64 b]) = .returned (.tuple #[.int .i32 c, .int .i64 d]) := by rw [h, h2]

theorem ret_str {a b : ByteArray} (h : a = b) : Ending.returned (.string a) = .returned (.string b) := by rw [h]

def Some (n : Int) (w : World) (e : Ending) (w' : World) : Prop := ∃ t : ByteArray, (t.size : Int) ≤ n ∧ e = .returned (.string t) ∧ w = w'

def ED (r : Int) : Nat := if (0 ≤ r ∧ r < 55296) ∨ (57344 ≤ r ∧ r ≤ 1114111) then r.toNat else 65533

theorem enc_ED (r : Int) : Lib.encodeRune r = Ru.enc (ED r) := by
  unfold ED; split
  · unfold Ru.enc; congr 1; omega
  · have e : Lib.encodeRuneZ r = [239, 191, 189] := Lib.encodeRuneZ_bad (by omega)
    unfold Lib.encodeRune; rw [e]; decide

theorem ED_ok (r : Int) : Ru.rok (ED r) := by unfold ED Ru.rok; split <;> omega

theorem join_list (a b : ByteArray) : (a ++ b).data.toList = a.data.toList ++ b.data.toList := by rw [ByteArray.data_append, Array.toList_append]

theorem bytes_eq {a b : ByteArray} (h : a.data.toList = b.data.toList) : a = b := ByteArray.ext (Array.toList_inj.1 h)

theorem cnt_le (a : ByteArray) : Ru.cnt a.data.toList ≤ a.size := by
  have := Ru.rns_len a.data.toList
  rw [Array.length_toList] at this; exact this

theorem foldB_list (a : ByteArray) : (foldB a).data.toList = Ru.fld a.data.toList := by simp [foldB]

theorem foldB_le (a : ByteArray) : (foldB a).size ≤ 4 * a.size := by
  have := Ru.fld_len a.data.toList
  rw [Array.length_toList] at this
  exact this

theorem foldB_join (a b : ByteArray) (h : Ru.vld a.data.toList = true) : foldB (a ++ b) = foldB a ++ foldB b := by
  apply bytes_eq
  rw [join_list, foldB_list, foldB_list, foldB_list, join_list, Ru.fld_append _ _ h]

theorem cutB_list (s : ByteArray) (n : Int) : (cutB s n).data.toList = s.data.toList.take (Ru.cutP n.toNat s.data.toList) := by
  unfold cutB
  rw [ByteArray.data_extract, Array.toList_extract, List.extract_eq_take_drop]; simp

theorem cutB_join (a b : ByteArray) (h : Ru.vld a.data.toList = true) : cutB (a ++ b) (Ru.cnt a.data.toList : Nat) = a := by
  apply bytes_eq
  rw [cutB_list, Int.toNat_natCast, join_list, Ru.cut_front _ _ h, List.take_left]

def cN (s : ByteArray) : Nat := Ru.cnt s.data.toList

theorem cutB_size (t : ByteArray) (n : Int) : (cutB t n).size = Ru.cutP n.toNat t.data.toList := by
  have := Ru.cutP_le n.toNat t.data.toList
  rw [Array.length_toList] at this
  unfold cutB; rw [ByteArray.size_extract]
  have e : t.data.size = t.size := rfl
  omega

theorem cutB_front (t : ByteArray) (n : Int) : t.extract 0 (cutB t n).size = cutB t n := by rw [cutB_size]; rfl

theorem cutB_cnt (t : ByteArray) (n : Int) : cN (cutB t n) = min n.toNat (cN t) := by
  unfold cN; rw [cutB_list, Ru.cnt_cut]

theorem cutB_rest (t : ByteArray) (n : Int) : cN (cutB t n) + cN (t.extract (cutB t n).size t.size) = cN t := by
  rw [cutB_cnt]
  unfold cN; rw [ext_list, cutB_size]; unfold rest
  rw [Ru.cnt_rest]; omega

theorem below_step {a W V : World} (hb : Below W.heap.size W V) (h : Below a.heap.size a W) : Below a.heap.size a V := h.trans (hb.mono h.size)
end Go.Proofs.YtbiecoifeeikpaaDoor
/-
  What the program's table says of bytes: one cell, one byte, zero at first; and how an owned row of bytes is told.
  There are no conditions.
-/
set_option linter.unusedSimpArgs false
set_option linter.unusedVariables false
namespace Go.Proofs.YtbiecoifeeikpaaDoor
open Go.RowKit
set_option maxRecDepth 100000
theorem Tryd.infoU8 : (Tryd.prog.info? 5).map (fun i => (i.zero, i.size, i.bytes)) = some (some (.int .u8 0), 1, 1) := by kernel_rfl
/-- a slice value that owns the bytes l among the blocks from B on -/
def OwnB (B : Nat) (v : Value) (l : List UInt8) (w : World) : Prop := w.ownsRow B 5 1 v l.length (Lib.byteCells l)
theorem ownB_nil (B : Nat) (w : World) : OwnB B (.slice none 0 0) [] w := World.ownsRow_nil _ _ _ _
theorem OwnB.alloc {B : Nat} {v : Value} {l : List UInt8} {w : World} (h : OwnB B v l w) (o : Obj) : OwnB B v l (w.alloc o) := World.ownsRow.alloc h o
/-- a function that makes bytes: a new row, what was there stands -/
def Made (l : List UInt8) (w : World) (e : Ending) (w' : World) : Prop := ∃ v, e = .returned v ∧ OwnB w.heap.size v l w' ∧ Below w.heap.size w w'
end Go.Proofs.YtbiecoifeeikpaaDoor
/-
  A slice of bytes that is there: what it reads as, and that it goes on reading so where the memory below a block stands.
  There are no conditions beyond those that each lemma names.
-/
set_option linter.unusedSimpArgs false
set_option linter.unusedVariables false
namespace Go.Proofs.YtbiecoifeeikpaaDoor
open Go.RowKit
set_option maxRecDepth 100000

/-- the slice value v reads as the bytes l; its cells lie below block B -/
def Byt (w : World) (B : Nat) (v : Value) (l : List UInt8) : Prop :=
  ∃ A c, v = .slice A l.length c ∧ l.length ≤ c ∧ (0 < l.length → ∃ g o, A = some ⟨g, o, Option.none⟩ ∧ g < B ∧ ∀ k (h : k < l.length), w.cell? ⟨g, o + k, Option.none⟩ = some (.int .u8 (l[k].toNat : Int)))
theorem Byt.keep {w w' : World} {B : Nat} {v : Value} {l : List UInt8} (h : Byt w B v l) (hk : ∀ p : Addr, p.block < B → w'.cell? p = w.cell? p) : Byt w' B v l := by
  obtain ⟨A, c, hv, hc, h⟩ := h
  refine ⟨A, c, hv, hc, fun hn => ?_⟩
  obtain ⟨g, o, hA, hg, hcell⟩ := h hn
  exact ⟨g, o, hA, hg, fun k hk2 => (hk ⟨g, o + k, Option.none⟩ hg).trans (hcell k hk2)⟩
theorem Byt.below {w w' : World} {B C : Nat} {v : Value} {l : List UInt8} (h : Byt w B v l) (hb : Below C w w') (hC : B ≤ C) : Byt w' B v l := h.keep fun _ hp => hb.cell (Nat.lt_of_lt_of_le hp hC)
theorem Byt.more {w : World} {B C : Nat} {v : Value} {l : List UInt8} (h : Byt w B v l) (hC : B ≤ C) : Byt w C v l := by
  obtain ⟨A, c, hv, hc, h⟩ := h
  refine ⟨A, c, hv, hc, fun hn => ?_⟩
  obtain ⟨g, o, hA, hg, hcell⟩ := h hn
  exact ⟨g, o, hA, Nat.lt_of_lt_of_le hg hC, hcell⟩
/-- the tail from place k on, as Go's s[k:] writes it -/
theorem Byt.cut {w : World} {B : Nat} {A : Option Addr} {c k : Nat} {l : List UInt8} (h : Byt w B (.slice A l.length c) l) (hk : k ≤ l.length) : Byt w B (.slice (if c = k then A else A.map (·.add k)) (l.length - k) (c - k)) (l.drop k) := by
  obtain ⟨A', c', hv, hc, h⟩ := h
  injection hv with hA _ hcc; subst hA; subst hcc
  refine ⟨_, _, by rw [List.length_drop], by rw [List.length_drop]; omega, fun hn => ?_⟩
  rw [List.length_drop] at hn
  obtain ⟨g, o, rfl, hg, hcell⟩ := h (by omega)
  rw [if_neg (by omega)]
  refine ⟨g, o + k, ?_, hg, fun j hj => ?_⟩
  · show some (Addr.add ⟨g, o, Option.none⟩ k) = _
    unfold Addr.add; split <;> simp_all
  · rw [List.length_drop] at hj
    rw [Nat.add_assoc, hcell (k + j) (by omega)]; simp
theorem Byt.of_own {w : World} {B : Nat} {v : Value} {l : List UInt8} (h : OwnB B v l w) : Byt w w.heap.size v l := by
  unfold OwnB at h
  have hc := fun (g : Nat) (hg : v.ownBlock = some g) => World.ownsRow.cells h hg
  have hlt := World.ownsRow.lt h
  rcases h.2 with ⟨rfl, h0⟩ | ⟨g, c, cur, rfl, _, _, hnc, _⟩
  · exact ⟨Option.none, 0, by rw [h0], by rw [h0]; exact Nat.le_refl _, fun h => absurd h (by omega)⟩
  · refine ⟨_, c, rfl, hnc, fun _ => ⟨g, 0, rfl, (hlt g rfl).2, fun k hk => ?_⟩⟩
    have h2 := hc g rfl k (.int .u8 (l[k].toNat : Int)) (by simp [Lib.byteCells, hk])
    have e1 : (⟨g, 0, Option.none⟩ : Addr).add k = ⟨g, 0 + k, Option.none⟩ := by unfold Addr.add; split <;> simp_all
    rw [e1] at h2; exact h2
theorem OwnB.below {B : Nat} {v : Value} {l : List UInt8} {w w' : World} (h : OwnB B v l w) (hb : Below w.heap.size w w') : OwnB B v l w' := by
  have hlt := World.ownsRow.lt h
  unfold OwnB at *
  refine ⟨h.1, ?_⟩
  rcases h.2 with h2 | ⟨g, c, cur, hv, hB, hg, r⟩
  · exact .inl h2
  · exact .inr ⟨g, c, cur, hv, hB, (hb.block g (by rw [hv] at hlt; exact (hlt g rfl).2)).trans hg, r⟩
theorem OwnB.lt {B : Nat} {v : Value} {l : List UInt8} {w : World} (h : OwnB B v l w) : ∀ k, v.ownBlock = some k → B ≤ k ∧ k < w.heap.size := World.ownsRow.lt h
theorem OwnB.down {B C : Nat} {v : Value} {l : List UInt8} {w : World} (h : OwnB C v l w) (hB : B ≤ C) : OwnB B v l w := by
  unfold OwnB at *
  refine ⟨h.1, ?_⟩
  rcases h.2 with h2 | ⟨g, c, cur, hv, hb, r⟩
  · exact .inl h2
  · exact .inr ⟨g, c, cur, hv, Nat.le_trans hB hb, r⟩
/-- a row that holds something lies at a block's head -/
theorem OwnB.at_ {B : Nat} {v : Value} {l : List UInt8} {w : World} (h : OwnB B v l w) (hl : 1 ≤ l.length) : ∃ g c, v = .slice (some ⟨g, 0, Option.none⟩) l.length c ∧ g < w.heap.size ∧ ∀ j u, (Lib.byteCells l)[j]? = some u → w.cell? ((⟨g, 0, Option.none⟩ : Addr).add j) = some u := by
  unfold OwnB at h
  have hc := fun (g : Nat) (hg : v.ownBlock = some g) => World.ownsRow.cells h hg
  have hlt := World.ownsRow.lt h
  rcases h.2 with ⟨_, h0⟩ | ⟨g, c, cur, rfl, _⟩
  · omega
  · exact ⟨g, c, rfl, (hlt g rfl).2, hc g rfl⟩
theorem byteCells_one (l : List UInt8) : ∀ u ∈ Lib.byteCells l, u.oneCell' = true := by
  intro u hu; unfold Lib.byteCells at hu
  obtain ⟨b, _, rfl⟩ := List.mem_map.1 hu; rfl
end Go.Proofs.YtbiecoifeeikpaaDoor
/-
  The reference's Sum reckons a sum bit by bit, as the plain function does.
  The bytes are there in memory.
-/
set_option linter.unusedSimpArgs false
set_option linter.unusedVariables false
namespace Go.Proofs.YtbiecoifeeikpaaDoor
open Go.RowKit
set_option maxRecDepth 100000

def crcBit (c : Nat) : Nat := if c % 2 = 1 then (c / 2) ^^^ 3988292384 else c / 2
def crcBits : Nat → Nat → Nat
  | 0, c => c
  | k + 1, c => crcBits k (crcBit c)
def crcL (c : Nat) : List UInt8 → Nat
  | [] => c
  | b :: t => crcL (crcBits 8 (c ^^^ b.toNat)) t
def crcSum (l : List UInt8) : Nat := 4294967295 - crcL 4294967295 l
theorem crcBit_lt (c : Nat) (h : c < 4294967296) : crcBit c < 4294967296 := by
  unfold crcBit
  split
  · exact Nat.xor_lt_two_pow (n := 32) (by omega) (by omega)
  · omega
theorem crcBits_lt : ∀ (k c : Nat), c < 4294967296 → crcBits k c < 4294967296
  | 0, _, h => h
  | k + 1, c, h => crcBits_lt k _ (crcBit_lt c h)
theorem crcX_lt (c : Nat) (b : UInt8) (h : c < 4294967296) : c ^^^ b.toNat < 4294967296 := by
  have := b.toNat_lt
  exact Nat.xor_lt_two_pow (n := 32) (by omega) (by omega)
theorem crcL_lt : ∀ (l : List UInt8) (c : Nat), c < 4294967296 → crcL c l < 4294967296
  | [], _, h => h
  | b :: t, c, h => crcL_lt t _ (crcBits_lt 8 _ (crcX_lt c b h))
def Num32 (n : Nat) (w : World) (e : Ending) (w' : World) : Prop := e = .returned (.int .u32 n) ∧ w = w'
end Go.Proofs.YtbiecoifeeikpaaDoor
/-
  Four bits of a sum at once: by the table that the polynomial makes.
  The register has thirty-two bits.
-/
set_option linter.unusedSimpArgs false
set_option linter.unusedVariables false
namespace Go.Proofs.YtbiecoifeeikpaaDoor
open Go.RowKit
set_option maxRecDepth 100000

def crcM (b : Nat) : Nat := if b = 1 then 3988292384 else 0
theorem crcBit_m (c : Nat) : crcBit c = c / 2 ^^^ crcM (c % 2) := by
  unfold crcBit crcM; split <;> simp
theorem xor_half (a b : Nat) : (a ^^^ b) / 2 = a / 2 ^^^ b / 2 := by
  have := Nat.shiftRight_xor_distrib (a := a) (b := b) (i := 1)
  simpa [Nat.shiftRight_eq_div_pow] using this
theorem xor_low (a b : Nat) (h : b % 2 = 0) : (a ^^^ b) % 2 = a % 2 := by
  have h1 : (a ^^^ b).testBit 0 = (a.testBit 0 ^^ b.testBit 0) := Nat.testBit_xor ..
  simp only [Nat.testBit_zero] at h1
  rw [h] at h1
  rcases Nat.mod_two_eq_zero_or_one a with ha | ha <;> rcases Nat.mod_two_eq_zero_or_one (a ^^^ b) with hx | hx <;> simp_all
theorem crcM_low (b k : Nat) (hk : k ≤ 3) : (crcM b / 2 ^ k) % 2 = 0 := by
  unfold crcM
  split
  · have : k = 0 ∨ k = 1 ∨ k = 2 ∨ k = 3 := by omega
    rcases this with rfl | rfl | rfl | rfl <;> decide
  · simp
theorem crcBits_four (c : Nat) : crcBits 4 c = c / 16 ^^^ (crcM (c % 2) / 8 ^^^ (crcM (c / 2 % 2) / 4 ^^^ (crcM (c / 4 % 2) / 2 ^^^ crcM (c / 8 % 2)))) := by
  have l0 := fun b => crcM_low b 0 (by omega)
  have l1 := fun b => crcM_low b 1 (by omega)
  have l2 := fun b => crcM_low b 2 (by omega)
  simp only [Nat.pow_zero, Nat.div_one, Nat.pow_one, show (2 : Nat) ^ 2 = 4 from rfl] at l0 l1 l2
  show crcBit (crcBit (crcBit (crcBit c))) = _
  have e1 := crcBit_m c
  have e2 : crcBit (crcBit c) = c / 4 ^^^ (crcM (c % 2) / 2 ^^^ crcM (c / 2 % 2)) := by
    rw [crcBit_m (crcBit c), e1, xor_half, xor_low _ _ (l0 _), Nat.div_div_eq_div_mul, Nat.xor_assoc]
  have p2 : (crcM (c % 2) / 2 ^^^ crcM (c / 2 % 2)) % 2 = 0 := by rw [xor_low _ _ (l0 _)]; exact l1 _
  have e3 : crcBit (crcBit (crcBit c)) = c / 8 ^^^ (crcM (c % 2) / 4 ^^^ (crcM (c / 2 % 2) / 2 ^^^ crcM (c / 4 % 2))) := by
    rw [crcBit_m (crcBit (crcBit c)), e2, xor_half, xor_half, xor_low _ _ p2, Nat.div_div_eq_div_mul, Nat.div_div_eq_div_mul, Nat.xor_assoc, Nat.xor_assoc]
  have p3 : (crcM (c % 2) / 4 ^^^ (crcM (c / 2 % 2) / 2 ^^^ crcM (c / 4 % 2))) % 2 = 0 := by
    have : (crcM (c / 2 % 2) / 2 ^^^ crcM (c / 4 % 2)) % 2 = 0 := by rw [xor_low _ _ (l0 _)]; exact l1 _
    rw [xor_low _ _ this]; exact l2 _
  rw [crcBit_m (crcBit (crcBit (crcBit c))), e3, xor_half, xor_half, xor_half, xor_low _ _ p3, Nat.div_div_eq_div_mul, Nat.div_div_eq_div_mul, Nat.div_div_eq_div_mul, Nat.xor_assoc, Nat.xor_assoc, Nat.xor_assoc]
def crcTab : List Nat := [0, 498536548, 997073096, 651767980, 1994146192, 1802195444, 1303535960, 1342533948, 3988292384, 4027552580, 3604390888, 3412177804, 2607071920, 2262029012, 2685067896, 3183342108]
theorem crcTab_lt : ∀ k, k < 16 → crcTab.getD k 0 < 4294967296 := by decide
theorem crcTab_is : ∀ k, k < 16 → crcM (k % 2) / 8 ^^^ (crcM (k / 2 % 2) / 4 ^^^ (crcM (k / 4 % 2) / 2 ^^^ crcM (k / 8 % 2))) = crcTab.getD k 0 := by decide
theorem crcBits_tab (c : Nat) : crcBits 4 c = c / 16 ^^^ crcTab.getD (c % 16) 0 := by
  rw [crcBits_four, ← crcTab_is (c % 16) (by omega), show c % 16 % 2 = c % 2 by omega, show c % 16 / 2 % 2 = c / 2 % 2 by omega, show c % 16 / 4 % 2 = c / 4 % 2 by omega, show c % 16 / 8 % 2 = c / 8 % 2 by omega]
theorem crcBits_at (c q : Nat) (hq : c % 16 = q) : crcBits 4 c = c / 16 ^^^ crcTab.getD q 0 := by
  subst hq; exact crcBits_tab c
theorem crcBits_more : ∀ (a b c : Nat), crcBits (a + b) c = crcBits b (crcBits a c)
  | 0, b, c => by rw [Nat.zero_add]; rfl
  | a + 1, b, c => by rw [show a + 1 + b = (a + b) + 1 by omega]; exact crcBits_more a b (crcBit c)
theorem crcBits_8 (c : Nat) : crcBits 8 c = crcBits 4 (crcBits 4 c) := crcBits_more 4 4 c
theorem u32_not (c : Nat) (h : c < 4294967296) : bits BinOp.xor IntKind.u32 IntKind.u32.max (c : Int) = ((4294967295 - c : Nat) : Int) := by
  have e := u32_xor_nat 4294967295 c (by omega) h
  have e2 : 4294967295 ^^^ c = 4294967295 - c := by
    apply Nat.eq_of_testBit_eq
    intro i
    rw [Nat.testBit_xor, show (4294967295 : Nat) = 2 ^ 32 - 1 from rfl, Nat.testBit_two_pow_sub_one, show 2 ^ 32 - 1 - c = 2 ^ 32 - (c + 1) by omega, Nat.testBit_two_pow_sub_succ (by omega)]
    by_cases hi : i < 32
    · simp [hi]
    · have : c.testBit i = false := Nat.testBit_lt_two_pow (Nat.lt_of_lt_of_le h (Nat.pow_le_pow_right (n := 2) (i := 32) (by decide) (by omega)))
      simp [hi, this]
  rw [e2] at e; exact e
/-- a sum of a text and l behind it, where s is the text's -/
def crcMore (s : Nat) (l : List UInt8) : Nat := 4294967295 - crcL (4294967295 - s) l
theorem crcMore_zero (l : List UInt8) : crcMore 0 l = crcSum l := rfl
theorem crcL_append : ∀ (a b : List UInt8) (c : Nat), crcL c (a ++ b) = crcL (crcL c a) b
  | [], _, _ => rfl
  | _ :: a, b, _ => crcL_append a b _
theorem crcMore_append (a b : List UInt8) : crcMore (crcSum a) b = crcSum (a ++ b) := by
  have := crcL_lt a 4294967295 (by omega)
  unfold crcMore crcSum
  rw [crcL_append]
  congr 2
  omega
/-- the table of package crc lies in memory as it was laid -/
def Tbl (w : World) : Prop := ∀ k, k < 16 → w.cell? ⟨0, k, none⟩ = some (.int .u32 ((crcTab.getD k 0 : Nat) : Int))
end Go.Proofs.YtbiecoifeeikpaaDoor
/-
  A function returns what the plain functions say: ReRunes.
-/
set_option linter.unusedSimpArgs false
set_option linter.unusedVariables false
namespace Go.Proofs.YtbiecoifeeikpaaDoor
open Go.RowKit
set_option maxRecDepth 100000

theorem Tryd.info21 : (Tryd.prog.info? 21).map (fun i => (i.zero, i.size, i.bytes)) = some (some (.int .i32 0), 1, 4) := by kernel_rfl

theorem Tryd.info3 : (Tryd.prog.info? 3).map (fun i => (i.zero, i.size, i.bytes)) = some (some (.int .i64 0), 1, 8) := by kernel_rfl

def Rel (s : ByteArray) (w : World) (R : List (Nat × Nat)) (vl va : Value) (pos : Nat) (wr : World) : Prop :=
  wr.ownsRow w.heap.size 21 1 vl R.length (runeVals R) ∧ wr.ownsRow w.heap.size 3 1 va R.length (atVals R) ∧ Below w.heap.size w wr ∧ R ++ Ru.rns (rest s pos) = Ru.rns s.data.toList ∧ Ru.wsum R = pos ∧ R.length ≤ pos ∧ pos ≤ s.size

def RunesPost (s : ByteArray) (w : World) (e : Ending) (w' : World) : Prop :=
  ∃ vl va, e = .returned (.tuple #[vl, va, .bool (Ru.vld s.data.toList)]) ∧ w'.ownsRow w.heap.size 21 1 vl (Ru.cnt s.data.toList) (runeVals (Ru.rns s.data.toList)) ∧ w'.ownsRow w.heap.size 3 1 va (Ru.cnt s.data.toList) (atVals (Ru.rns s.data.toList)) ∧ Below w.heap.size w w'

def RunesB (s : ByteArray) (b : Bool) (w : World) (e : Ending) (w' : World) : Prop :=
  ∃ vl va, e = .returned (.tuple #[vl, va, .bool b]) ∧ w'.ownsRow w.heap.size 21 1 vl (Ru.cnt s.data.toList) (runeVals (Ru.rns s.data.toList)) ∧ w'.ownsRow w.heap.size 3 1 va (Ru.cnt s.data.toList) (atVals (Ru.rns s.data.toList)) ∧ Below w.heap.size w w'
end Go.Proofs.YtbiecoifeeikpaaDoor
/-
  The reference's Eq and May on values as data say what the plain functions say.
  Integers are in their ranges; a text has at most 1,000,000 bytes.
-/
set_option linter.unusedSimpArgs false
set_option linter.unusedVariables false
namespace Go.Proofs.YtbiecoifeeikpaaDoor
open Go.RowKit
set_option maxRecDepth 100000

/-- a value as data -/
structure Raw where
  kind : Int
  n : Int
  s : ByteArray
def Raw.val (r : Raw) : Value := .agg #[.int .i64 r.kind, .int .i64 r.n, .string r.s]
def eqR (a b : Raw) : Bool := a.kind == b.kind && a.n == b.n && a.s.data.toList == b.s.data.toList
def mayR (r : Raw) : Bool := if r.kind = 0 then r.n == 0 && r.s.data.toList.isEmpty else if r.kind = 1 then r.s.data.toList.isEmpty else if r.kind = 2 then r.n == 0 && Ru.vld r.s.data.toList && decide (r.s.size ≤ 200) else false
def Bl (b : Bool) (w : World) (e : Ending) (w' : World) : Prop := e = .returned (.bool b) ∧ Below w.heap.size w w'
theorem below_two (w : World) (o p : Obj) : Below w.heap.size w ((w.alloc o).alloc p) := ((Below.refl _ _).alloc (Nat.le_refl _) _).alloc (by simp) _
theorem below_one (w : World) (o : Obj) : Below w.heap.size w (w.alloc o) := (Below.refl _ _).alloc (Nat.le_refl _) _

end Go.Proofs.YtbiecoifeeikpaaDoor
/-
  How a law's arguments are opened, and that they read behind the call as before, where nothing that was there has turned: raw values, slices of bytes.
  There are no conditions beyond those that each lemma names.
-/
set_option linter.unusedSimpArgs false
set_option linter.unusedVariables false
namespace Go.Proofs.YtbiecoifeeikpaaDoor
open Go.RowKit Go.WideShapes Go.ChangeShapes Go.Joins
set_option maxRecDepth 100000

theorem Tryd.laidOut : laidOutB Tryd.prog = true := by kernel_rfl
section
variable {H : Type} {enc : TypeId × Value → H} {P : Program}
/-- the arguments read again as they read before -/
theorem args_again (hl : laidOutB P = true) {W W' : World} (hb : Below W.heap.size W W') : ∀ {ts : List TypeId} {vs : List Value} {ds : List (DataW H)} {ps : List MemPlace},
    ts.all (fun t => P.readableRec t && decide (t < P.types.size)) = true → DataW.TrodAll enc P W 0 (fun _ => true) true ts vs ds ps → DataW.TrodAll enc P W' 0 (fun b => decide (b < W.heap.size)) true ts vs ds ps
  | [], [], [], _, _, h => h
  | _ :: _, _ :: _, _ :: _, _, hr, ⟨p, q, h1, h2, e⟩ => by
    simp only [List.all_cons, Bool.and_eq_true, decide_eq_true_eq] at hr
    have hlt : ∀ x ∈ p, x.block < W.heap.size := by obtain ⟨m, hm⟩ := h1; exact DataW.trod_lt m _ _ _ hm
    exact ⟨p, q, Below.trod hl hr.1.1 hr.1.2 h1 hb hlt, args_again hl hb hr.2 h2, e⟩
/-- a law's last step -/
theorem law_end {f : Func} {s : ChangeSpec} {W W' : World} {args : Array Value} {v : Value} {ds : List (DataW H)} {ps : List MemPlace} (hl : laidOutB P = true)
    (hr : f.params.toList.all (fun t => P.readableRec t && decide (t < P.types.size)) = true)
    (hW : DataW.Whole enc P f.params.toList s.vars false W args.toList ds [] ps)
    (hA : DataW.TrodAll enc P W 0 (fun _ => true) true f.params.toList args.toList ds ps)
    (hb : Below W.heap.size W W') (hs : (s.fn H (ds ++ [])).args = ds) (hv : s.vars = []) (hv2 : (s.fn H (ds ++ [])).vars = [])
    (hres : DataW.TrodAll enc P W' W.heap.size (fun _ => false) false f.resultTypes.toList (v.resultList f.resultTypes.size) (s.fn H (ds ++ [])).results []) :
    s.post enc P f false true false false W args v W' :=
  ⟨ds, [], ps, [], ps, [], hW, hres, by rw [hs]; exact args_again hl hb hr hA, by rw [hv, hv2]; rfl, hb.frame _, fun h => by cases h⟩
end

def Raw.fits (r : Raw) : Prop := (-9223372036854775808 ≤ r.kind ∧ r.kind ≤ 9223372036854775807) ∧ (-9223372036854775808 ≤ r.n ∧ r.n ≤ 9223372036854775807) ∧ r.s.size ≤ maxLen
theorem wf_i64 {a : Int} (h : (Lit.int .i64 a).wf = true) : -9223372036854775808 ≤ a ∧ a ≤ 9223372036854775807 := by
  have := bounds_i64 h; omega
theorem cell_lt {w : World} {a : Addr} {v : Value} (h : w.cell? a = some v) : a.block < w.heap.size := by
  unfold World.cell? at h
  by_cases hb : a.block < w.heap.size
  · exact hb
  · rw [Array.getElem?_eq_none (by omega)] at h; simp at h
theorem u8_back (a : Int) (h0 : 0 ≤ a) (h1 : a ≤ 255) : ((UInt8.ofNat a.toNat).toNat : Int) = a := by
  rw [UInt8.toNat_ofNat']
  omega
theorem open_bytes {H : Type} {enc : TypeId × Value → H} {W : World} {b0 : Nat} {r : Reach} {v : Value} {d : DataW H} {p : List MemPlace}
    (hv : Value.okWide Tryd.prog W r b0 46 v) (h : DataW.Trod enc Tryd.prog W 0 (fun _ => true) true 46 v d p) : ∃ (A : Option Addr) (c : Nat) (l : List UInt8), v = .slice A l.length c ∧ Byt W W.heap.size (.slice A l.length c) l ∧ l.length ≤ maxLen := by
  obtain ⟨a0, len, cap, rfl⟩ := okWide_slice Tryd.underlying46 hv
  obtain ⟨fuel, hf⟩ := h
  rcases open_ints Tryd.underlying46 Tryd.underlying5 (by kernel_rfl) hf with ⟨hcs, _⟩ | ⟨x, n, c, zs, hcs, _, hl, hm, hz, _, hcell, hwz⟩
  · simp [Value.cells] at hcs
    obtain ⟨rfl, rfl, rfl⟩ := hcs
    exact ⟨none, 0, [], rfl, ⟨none, 0, rfl, Nat.le_refl _, fun h => absurd h (by simp)⟩, Nat.zero_le _⟩
  · simp [Value.cells] at hcs
    obtain ⟨rfl, rfl, rfl⟩ := hcs
    have hz : zs.length = cap := by simpa using hz
    have hlen : ((zs.take len).map fun z => UInt8.ofNat z.toNat).length = len := by rw [List.length_map, List.length_take]; omega
    refine ⟨some x, cap, (zs.take len).map fun z => UInt8.ofNat z.toNat, by rw [hlen], ?_, by rw [hlen]; omega⟩
    rw [hlen]
    refine ⟨some x, cap, by rw [hlen], by rw [hlen]; exact hl, fun hn => ?_⟩
    rw [hlen] at hn
    have hc0 := hcell 0 (by omega)
    obtain ⟨b, off, spot⟩ := x
    have hspot : spot = none := by simpa [Addr.add] using World.cell?_spot hc0
    subst hspot
    refine ⟨b, off, rfl, ?_, fun k hk => ?_⟩
    · have := cell_lt hc0; simpa [Addr.add] using this
    · rw [hlen] at hk
      have hk2 : k < zs.length := by omega
      have hc := hcell k hk2
      have e : (⟨b, off, none⟩ : Addr).add k = ⟨b, off + k, none⟩ := by unfold Addr.add; split <;> simp_all
      rw [e] at hc
      rw [hc]
      have hw := bounds_u8 (hwz zs[k] (List.getElem_mem hk2))
      simp only [List.getElem_map, List.getElem_take]
      rw [u8_back _ hw.1 (by omega), List.getD, List.getElem?_eq_getElem hk2]; rfl
/-- behind a piece of code that leaves one frame, whatever its order: what is known of the world -/
def Meet (b : Act) (R : World → Prop) : Exit → Act → World → Prop
  | .normal, a, W => a = b ∧ R W
  | _, _, _ => False
/-- a world that has been laid gets a name -/
theorem wp_world {P : Program} {c : Code} {Q : Exit → Act → World → Prop} {a : Act} {w : World} (R : World → Prop) (h : R w) (k : ∀ W, R W → c.wp P Q a W) : c.wp P Q a w := k w h
theorem meet_intro {a b : Act} {R : World → Prop} {W : World} (h : a = b) (hr : R W) : Meet b R .normal a W := ⟨h, hr⟩
/-- three cells at a block's head, which may be written -/
def Box3 (w : World) (g : Nat) (a b c : Value) : Prop :=
  (w.cell? ⟨g, 0, none⟩ = some a ∧ w.cell? ⟨g, 1, none⟩ = some b ∧ w.cell? ⟨g, 2, none⟩ = some c) ∧ w.frozen? ⟨g, 0, none⟩ = false ∧ w.frozen? ⟨g, 1, none⟩ = false ∧ w.frozen? ⟨g, 2, none⟩ = false
theorem Box3.below {w w' : World} {B g : Nat} {a b c : Value} (h : Box3 w g a b c) (hb : Below B w w') (hg : g < B) : Box3 w' g a b c := by
  obtain ⟨⟨h0, h1, h2⟩, f0, f1, f2⟩ := h
  exact ⟨⟨(hb.cell (p := ⟨g, 0, none⟩) hg).trans h0, (hb.cell (p := ⟨g, 1, none⟩) hg).trans h1, (hb.cell (p := ⟨g, 2, none⟩) hg).trans h2⟩, (hb.frozen (p := ⟨g, 0, none⟩) hg).trans f0, (hb.frozen (p := ⟨g, 1, none⟩) hg).trans f1, (hb.frozen (p := ⟨g, 2, none⟩) hg).trans f2⟩
theorem Box3.drew {w : World} {g : Nat} {a b c : Value} (h : Box3 w g a b c) : Box3 w.drew g a b c := h
theorem cell_far (w : World) (p a : Addr) (v : Value) (h : p.block ≠ a.block) : (w.setCell p v).cell? a = w.cell? a := World.cell?_setCell_other _ _ _ _ (fun e => h (by rw [e]))
theorem Box3.far {w : World} {p : Addr} {v : Value} {g : Nat} {a b c : Value} (h : Box3 w g a b c) (hg : p.block ≠ g) : Box3 (w.setCell p v) g a b c := by
  obtain ⟨⟨h0, h1, h2⟩, f0, f1, f2⟩ := h
  exact ⟨⟨(cell_far w p _ v hg).trans h0, (cell_far w p _ v hg).trans h1, (cell_far w p _ v hg).trans h2⟩, (World.frozen?_setCell _ _ _ _).trans f0, (World.frozen?_setCell _ _ _ _).trans f1, (World.frozen?_setCell _ _ _ _).trans f2⟩
theorem Box3.set0 {w : World} {v : Value} {g : Nat} {a b c : Value} (h : Box3 w g a b c) : Box3 (w.setCell ⟨g, 0, none⟩ v) g v b c := by
  obtain ⟨⟨h0, h1, h2⟩, f0, f1, f2⟩ := h
  exact ⟨⟨World.cell?_setCell_same _ _ _ h0, (World.cell?_setCell_other _ _ _ _ (by simp)).trans h1, (World.cell?_setCell_other _ _ _ _ (by simp)).trans h2⟩, (World.frozen?_setCell _ _ _ _).trans f0, (World.frozen?_setCell _ _ _ _).trans f1, (World.frozen?_setCell _ _ _ _).trans f2⟩
theorem Box3.set1 {w : World} {v : Value} {g : Nat} {a b c : Value} (h : Box3 w g a b c) : Box3 (w.setCell ⟨g, 1, none⟩ v) g a v c := by
  obtain ⟨⟨h0, h1, h2⟩, f0, f1, f2⟩ := h
  exact ⟨⟨(World.cell?_setCell_other _ _ _ _ (by simp)).trans h0, World.cell?_setCell_same _ _ _ h1, (World.cell?_setCell_other _ _ _ _ (by simp)).trans h2⟩, (World.frozen?_setCell _ _ _ _).trans f0, (World.frozen?_setCell _ _ _ _).trans f1, (World.frozen?_setCell _ _ _ _).trans f2⟩
theorem Box3.set2 {w : World} {v : Value} {g : Nat} {a b c : Value} (h : Box3 w g a b c) : Box3 (w.setCell ⟨g, 2, none⟩ v) g a b v := by
  obtain ⟨⟨h0, h1, h2⟩, f0, f1, f2⟩ := h
  exact ⟨⟨(World.cell?_setCell_other _ _ _ _ (by simp)).trans h0, (World.cell?_setCell_other _ _ _ _ (by simp)).trans h1, World.cell?_setCell_same _ _ _ h2⟩, (World.frozen?_setCell _ _ _ _).trans f0, (World.frozen?_setCell _ _ _ _).trans f1, (World.frozen?_setCell _ _ _ _).trans f2⟩
theorem Box3.set {w : World} {x y z : Value} {g : Nat} {a b c : Value} (h : Box3 w g a b c) : Box3 (((w.setCell ⟨g, 0, none⟩ x).setCell ⟨g, 1, none⟩ y).setCell ⟨g, 2, none⟩ z) g x y z := h.set0.set1.set2
theorem Box3.fars {w : World} {x y z : Value} {g k : Nat} {a b c : Value} (h : Box3 w g a b c) (hk : k ≠ g) : Box3 (((w.setCell ⟨k, 0, none⟩ x).setCell ⟨k, 1, none⟩ y).setCell ⟨k, 2, none⟩ z) g a b c := ((h.far hk).far hk).far hk
theorem wp_meet {P : Program} {c : Code} {Q : Exit → Act → World → Prop} {a b : Act} {w : World} {R : World → Prop} (h1 : c.wp P (Meet b R) a w) (h2 : ∀ W, R W → Q .normal b W) : c.wp P Q a w :=
  Code.wp_mono (fun e a' w' h => by
    cases e <;> first | exact h.elim | skip
    obtain ⟨rfl, h⟩ := h
    exact h2 _ h) h1
end Go.Proofs.YtbiecoifeeikpaaDoor
/-
  Package crc's table as a row lists it: what the row's condition gives a walk, and a world that meets the condition.
  There are no conditions beyond those that each lemma names.
-/
set_option linter.unusedSimpArgs false
set_option linter.unusedVariables false
namespace Go.Proofs.YtbiecoifeeikpaaDoor
open Go.RowKit
set_option maxRecDepth 100000

def tabU : List Int := [0, 498536548, 997073096, 651767980, 1994146192, 1802195444, 1303535960, 1342533948, 3988292384, 4027552580, 3604390888, 3412177804, 2607071920, 2262029012, 2685067896, 3183342108]
def laidS : List (String × DataW Unit) := [("packhorse/crc.steps", Rows.laid_packhorse_crc_steps)]
/-- no handle stands in the list -/
theorem laid_plain {w : World} (h : laidMetH Tryd.prog laidS w) : laidMet Tryd.prog laidS w := by
  have e : (laidS.filter fun x => x.2.handleName?.isSome) = [] := by kernel_rfl
  unfold laidMetH at h
  rw [e] at h
  exact h
theorem laid_more {w : World} (h : laidMet Tryd.prog laidS w) : laidMetH Tryd.prog laidS w := by
  have e : (laidS.filter fun x => x.2.handleName?.isSome) = [] := by kernel_rfl
  unfold laidMetH
  rw [e]
  exact h
theorem Tryd.gSteps : Tryd.prog.globalNamed "packhorse/crc.steps" = some 0 := by kernel_rfl
theorem tabU_at (k : Nat) (hk : k < 16) : (tabU.map fun z => Value.int .u32 z)[k]? = some (Value.int .u32 ((crcTab.getD k 0 : Nat) : Int)) := by
  rcases (show k = 0 ∨ k = 1 ∨ k = 2 ∨ k = 3 ∨ k = 4 ∨ k = 5 ∨ k = 6 ∨ k = 7 ∨ k = 8 ∨ k = 9 ∨ k = 10 ∨ k = 11 ∨ k = 12 ∨ k = 13 ∨ k = 14 ∨ k = 15 by omega) with rfl | rfl | rfl | rfl | rfl | rfl | rfl | rfl | rfl | rfl | rfl | rfl | rfl | rfl | rfl | rfl <;> rfl
theorem tbl_of_laid {W : World} (h : laidMetH Tryd.prog laidS W) : Tbl W := by
  have hT : Lib.TabIs Tryd.prog W "packhorse/crc.steps" .u32 tabU := Lib.tabIs_of_head (n := 16) Tryd.gSteps (t := 158) (by kernel_rfl) Tryd.underlying158 Tryd.underlying141 (by kernel_rfl) (by kernel_rfl) (laid_plain h)
  intro k hk
  have := World.var?_cell Tryd.gSteps hT k
  rw [this, ← tabU_at k hk]
  simp
theorem Tbl.below {w w' : World} (h : Tbl w) (hb : Below w.heap.size w w') : Tbl w' := fun k hk =>
  (hb.cell (p := ⟨0, k, none⟩) (cell_lt (h k hk))).trans (h k hk)
theorem Tbl.drew {w : World} (h : Tbl w) : Tbl w.drew := h
/-- a world that meets the condition: the settled one, the table laid -/
noncomputable def laidWorld (os : Os) : World :=
  let w0 := World.holding Tryd.prog os ⟨#[], #[], []⟩
  { w0 with heap := w0.heap.modify 0 fun
      | .cells _ t frozen => .cells (tabU.map fun z => Value.int .u32 z).toArray t frozen
      | o => o }
theorem laid_met (os : Os) (args : Array Value) : laidMetH Tryd.prog laidS ((laidWorld os).forCall (fun _ _ => 0) ⟨#[], args, []⟩).memory :=
  laid_more (laidMet_of_run' 8 (by kernel_rfl) (by kernel_rfl))
end Go.Proofs.YtbiecoifeeikpaaDoor
/-
  Plain facts on numbers written seven bits a byte, with no program in them: what is written is read again.
  There are no conditions beyond those that each lemma names.
-/
set_option linter.unusedVariables false
set_option linter.unusedSimpArgs false
set_option linter.unusedVariables false
namespace Go.Proofs.YtbiecoifeeikpaaDoor.Nu
open Go

/-- an integer as a natural number, small ones first -/
def zz (n : Int) : Nat := if n < 0 then (-2 * n - 1).toNat else (2 * n).toNat
def unzz (u : Nat) : Int := if u % 2 = 1 then -((u / 2 : Nat) : Int) - 1 else ((u / 2 : Nat) : Int)
theorem unzz_zz (n : Int) : unzz (zz n) = n := by unfold zz unzz; split <;> split <;> omega
theorem zz_unzz (u : Nat) : zz (unzz u) = u := by unfold zz unzz; split <;> split <;> omega
theorem zz_lt (n : Int) (h0 : -9223372036854775808 ≤ n) (h1 : n ≤ 9223372036854775807) : zz n < 18446744073709551616 := by unfold zz; split <;> omega

/-- seven bits a byte, the lowest first -/
def vr : Nat → Nat → List UInt8
  | 0, _ => []
  | f + 1, u => if u < 128 then [u.toUInt8] else (u % 128 + 128).toUInt8 :: vr f (u / 128)
def var (u : Nat) : List UInt8 := vr 10 u
def put (n : Int) : List UInt8 := var (zz n)

/-- what is read from place i on: the number, how many bytes, the error (0: none, 1: form, 2: more) -/
def getF (i u w : Nat) : List UInt8 → Int × Nat × Nat
  | [] => (0, 0, 2)
  | c :: t =>
    if (i = 9 ∧ 1 < c.toNat) ∨ (0 < i ∧ c.toNat = 0) then (0, 0, 1)
    else if c.toNat < 128 then (unzz (u + c.toNat % 128 * w), i + 1, 0)
    else getF (i + 1) (u + c.toNat % 128 * w) (w * 128) t
def get (l : List UInt8) : Int × Nat × Nat := getF 0 0 1 l

theorem u8n (n : Nat) (h : n < 256) : (n.toUInt8).toNat = n := by simp [Nat.toUInt8]; omega

theorem getF_vr (f : Nat) : ∀ (i u0 w u : Nat) (r : List UInt8), u < 128 ^ f → (u = 0 → i = 0) → i + f = 10 → (i = 9 → u ≤ 1) → (0 < f) → u * 128 ^ i < 18446744073709551616 →
    getF i u0 w (vr f u ++ r) = (unzz (u0 + u * w), i + (vr f u).length, 0) := by
  induction f with
  | zero => intro i u0 w u r h h0 hi h9 hf; omega
  | succ f ih =>
    intro i u0 w u r h h0 hi h9 hf hb
    by_cases hu : u < 128
    · simp only [vr, if_pos hu, List.cons_append, List.nil_append, getF, List.length_cons, List.length_nil]
      rw [u8n u (by omega), if_neg (by omega), if_pos hu, Nat.mod_eq_of_lt hu]
    · simp only [vr, if_neg hu, List.cons_append, getF, List.length_cons]
      have hf0 : 0 < f := by
        cases f with
        | zero => simp at h; omega
        | succ f => omega
      rw [u8n _ (by omega), if_neg (by omega), if_neg (by omega)]
      have e : (u % 128 + 128) % 128 = u % 128 := by omega
      rw [e]
      have hp : (128 : Nat) ^ (i + 1) = 128 ^ i * 128 := Nat.pow_succ ..
      have hd : u / 128 * 128 ≤ u := Nat.div_mul_le_self u 128
      have hb2 : u / 128 * 128 ^ (i + 1) < 18446744073709551616 := by
        rw [hp]
        calc u / 128 * (128 ^ i * 128) = (u / 128 * 128) * 128 ^ i := by rw [Nat.mul_comm (128 ^ i) 128, Nat.mul_assoc]
          _ ≤ u * 128 ^ i := Nat.mul_le_mul_right _ hd
          _ < _ := hb
      have hu2 : u / 128 < 128 ^ f := by
        rw [Nat.pow_succ] at h; omega
      rw [ih (i + 1) _ (w * 128) (u / 128) r hu2 (by omega) (by omega) ?_ hf0 hb2]
      · congr 1
        · congr 1
          have h1 : u % 128 * w + u / 128 * (w * 128) = u * w := by
            have h2 : u = u % 128 + u / 128 * 128 := by omega
            calc u % 128 * w + u / 128 * (w * 128) = (u % 128 + u / 128 * 128) * w := by rw [Nat.add_mul, Nat.mul_comm w 128, Nat.mul_assoc]
              _ = u * w := by rw [← h2]
          omega
        · congr 1; omega
      · intro h8
        have hi8 : i + 1 = 9 := h8
        rw [hi8] at hb2
        have : (128 : Nat) ^ 9 = 9223372036854775808 := by decide
        rw [this] at hb2; omega
theorem get_put (n : Int) (r : List UInt8) (h0 : -9223372036854775808 ≤ n) (h1 : n ≤ 9223372036854775807) : get (put n ++ r) = (n, (put n).length, 0) := by
  have hz := zz_lt n h0 h1
  unfold get put var
  rw [getF_vr 10 0 0 1 (zz n) r (by have : (128 : Nat) ^ 10 = 1180591620717411303424 := by decide
                                    omega) (by omega) (by omega) (by omega) (by omega) (by omega)]
  rw [Nat.mul_one, Nat.zero_add, Nat.zero_add, unzz_zz]
theorem vr_len (f u : Nat) : (vr f u).length ≤ f := by
  induction f generalizing u with
  | zero => simp [vr]
  | succ f ih => simp only [vr]; split <;> simp; exact ih _
theorem put_len (n : Int) : (put n).length ≤ 10 := vr_len 10 _
theorem put_ne (n : Int) : 1 ≤ (put n).length := by unfold put var vr; split <;> simp
/-- what is read has as many bytes as there are -/
theorem getF_len : ∀ (l : List UInt8) (i u w : Nat), (getF i u w l).2.1 ≤ i + l.length := by
  intro l; induction l with
  | nil => intro i u w; simp [getF]
  | cons c t ih =>
    intro i u w; simp only [getF]
    split
    · simp
    · split
      · simp
      · have := ih (i + 1) (u + c.toNat % 128 * w) (w * 128); simp only [List.length_cons]; omega
theorem get_len (l : List UInt8) : (get l).2.1 ≤ l.length := by have := getF_len l 0 0 1; unfold get; omega
theorem getF_pos : ∀ (l : List UInt8) (i u w : Nat), (getF i u w l).2.2 = 0 → i + 1 ≤ (getF i u w l).2.1 := by
  intro l; induction l with
  | nil => intro i u w h; simp [getF] at h
  | cons c t ih =>
    intro i u w; simp only [getF]
    split
    · intro h; simp at h
    · split
      · intro _; simp
      · intro h; have := ih (i + 1) (u + c.toNat % 128 * w) (w * 128) h; omega
theorem get_pos (l : List UInt8) (h : (get l).2.2 = 0) : 1 ≤ (get l).2.1 := by have := getF_pos l 0 0 1 h; unfold get; omega
theorem getF_err : ∀ (l : List UInt8) (i u w : Nat), (getF i u w l).2.2 ≤ 2 := by
  intro l; induction l with
  | nil => intro i u w; simp [getF]
  | cons c t ih =>
    intro i u w; simp only [getF]
    split
    · simp
    · split
      · simp
      · exact ih _ _ _
theorem get_err (l : List UInt8) : (get l).2.2 ≤ 2 := getF_err l 0 0 1
/-- a text behind its length -/
def getT (l : List UInt8) : List UInt8 × Nat × Nat :=
  if (get l).2.2 ≠ 0 then ([], 0, (get l).2.2)
  else if (get l).1 < 0 ∨ 1048576 < (get l).1 then ([], 0, 1)
  else if (l.length : Int) - (get l).2.1 < (get l).1 then ([], 0, 2)
  else ((l.drop (get l).2.1).take (get l).1.toNat, (get l).2.1 + (get l).1.toNat, 0)
def putT (l : List UInt8) : List UInt8 := put (l.length : Int) ++ l
theorem getT_putT (l r : List UInt8) (hl : l.length ≤ 1048576) : getT (putT l ++ r) = (l, (putT l).length, 0) := by
  have h := get_put (l.length : Int) (l ++ r) (by omega) (by omega)
  unfold getT putT
  rw [List.append_assoc, h]
  simp only [ne_eq, not_true_eq_false, if_false, Int.toNat_natCast]
  rw [if_neg (by omega), if_neg (by simp only [List.length_append]; omega)]
  simp
end Go.Proofs.YtbiecoifeeikpaaDoor.Nu
/-
  The reference's Put writes a number seven bits a byte, in new memory.
  There are no conditions beyond the range of the number.
-/
set_option linter.unusedSimpArgs false
set_option linter.unusedVariables false
namespace Go.Proofs.YtbiecoifeeikpaaDoor
open Go.RowKit
set_option maxRecDepth 100000

theorem u64_not (n : Int) (h0 : n < 0) (h1 : -9223372036854775808 ≤ n) : bits BinOp.xor IntKind.u64 IntKind.u64.max (IntKind.u64.wrap (IntKind.u64.wrap n * 2)) = (Nu.zz n : Nat) := by
  have e1 : IntKind.u64.wrap (IntKind.u64.wrap n * 2) = 2 * n + 18446744073709551616 := by
    unfold IntKind.wrap; simp [IntKind.bits, IntKind.signed]; omega
  have e2 : IntKind.u64.max = 18446744073709551615 := rfl
  rw [e1, e2, u64_xor _ _ (by omega) (by omega) (by omega) (by omega)]
  have e3 := Lib.xor_ones64 (2 * n + 18446744073709551616).toNat (by omega)
  have e4 : (18446744073709551615 : Int).toNat = 2 ^ 64 - 1 := rfl
  rw [e4, e3]
  unfold Nu.zz; rw [if_pos h0]; omega
theorem vr_end (f u : Nat) (h : u < 128) (hf : 0 < f) : Nu.vr f u = [u.toUInt8] := by
  cases f with
  | zero => omega
  | succ f => simp only [Nu.vr, if_pos h]
theorem vr_more (f u : Nat) (h : ¬ u < 128) : Nu.vr (f + 1) u = (u % 128 + 128).toUInt8 :: Nu.vr f (u / 128) := by simp only [Nu.vr, if_neg h]
def Rest (n : Int) (f u : Nat) (done : List UInt8) : Prop := done ++ Nu.vr f u = Nu.put n ∧ u < 128 ^ f ∧ 0 < f ∧ done.length + f = 10
theorem rest_end' (n : Int) (f u : Nat) (done : List UInt8) (h : Rest n f u done) (hu : u < 128) : done ++ [u.toUInt8] = Nu.put n := by
  rw [← h.1, vr_end f u hu h.2.2.1]
theorem rest_more (n : Int) (f u : Nat) (done : List UInt8) (h : Rest n f u done) (hu : ¬ u < 128) : ∃ g, f = g + 1 ∧ Rest n g (u / 128) (done ++ [(u % 128 + 128).toUInt8]) := by
  obtain ⟨h1, h2, h3, h4⟩ := h
  cases f with
  | zero => omega
  | succ g =>
    have hg : 0 < g := by
      cases g with
      | zero => simp at h2; omega
      | succ g => omega
    refine ⟨g, rfl, ?_, ?_, hg, by simp; omega⟩
    · rw [← h1, vr_more g u hu]; simp
    · rw [Nat.pow_succ] at h2; omega
theorem rest_start (n : Int) (h0 : -9223372036854775808 ≤ n) (h1 : n ≤ 9223372036854775807) : Rest n 10 (Nu.zz n) [] := by
  have hz := Nu.zz_lt n h0 h1
  have : (128 : Nat) ^ 10 = 1180591620717411303424 := by decide
  exact ⟨rfl, by omega, by omega, rfl⟩
theorem cell_u8 (c : UInt8) (m : Int) (h : m = (c.toNat : Int)) : Value.int .u8 m = Value.int .u8 (c.toNat : Int) := by rw [h]
theorem bc_snoc (l : List UInt8) (c : UInt8) : Lib.byteCells (l ++ [c]) = Lib.byteCells l ++ [.int .u8 (c.toNat : Int)] := by simp [Lib.byteCells]

end Go.Proofs.YtbiecoifeeikpaaDoor
/-
  A row of bytes that the call owns, and what is put behind it: the bytes of any slice that is there, one byte, a text.
  The rows are shorter than the model's bound on what append makes.
-/
set_option linter.unusedSimpArgs false
set_option linter.unusedVariables false
namespace Go.Proofs.YtbiecoifeeikpaaDoor
open Go.RowKit
set_option maxRecDepth 100000

theorem append_nil {w : World} {B n c : Nat} {v : Value} {xs : List Value} (ty : TypeId) (hown : w.ownsRow B 5 1 v n xs) :
    (Builtin.append_ #[46, 46] ty #[v, .slice none 0 c]).run Tryd.prog w = .ok v w := by
  obtain ⟨iR, hiR, _, _, _⟩ := info_parts Tryd.infoU8
  rcases hown.2 with ⟨rfl, rfl⟩ | ⟨g, cap, cur, rfl, _, _, hnc, _⟩
  · simp [Builtin.append_, run_underlying Tryd.underlying46, sizeOf, typeInfo, hiR, Builtin.lenOf, Builtin.firstCells]
  · simp [Builtin.append_, run_underlying Tryd.underlying46, sizeOf, typeInfo, hiR, Builtin.lenOf, Builtin.firstCells, hnc, storeCells]

theorem grownBy_refl (w : World) (r : Option Nat) : w.grownBy w r := ⟨rfl, rfl, rfl, Nat.le_refl _, fun _ _ _ => rfl⟩
theorem bytes_len (l : List UInt8) : (Lib.byteCells l).length = l.length := by simp [Lib.byteCells]

/-- append: nothing but the old row may have turned; the new row lies in the old one's block or in a new one -/
def Grew (v : Value) (w : World) (v' : Value) (w' : World) : Prop := w.grownBy w' v.ownBlock ∧ (v'.ownBlock = v.ownBlock ∨ v'.ownBlock = some w.heap.size)
theorem Grew.range {v v' : Value} {w w' : World} {g o : Nat} {cs : List Value} (h : Grew v w v' w') (hr : w.rangeAt g o cs) (hg : v.ownBlock ≠ some g) : w'.rangeAt g o cs := fun j u hj => h.1.cell (hr j u hj) (fun e => hg e.symm)
theorem Grew.cell {v v' : Value} {w w' : World} {p : Addr} {u : Value} (h : Grew v w v' w') (hr : w.cell? p = some u) (hg : v.ownBlock ≠ some p.block) : w'.cell? p = some u := h.1.cell hr (fun e => hg e.symm)
theorem Grew.apart {v v' : Value} {w w' : World} {g : Nat} (h : Grew v w v' w') (hs : g < w.heap.size) (hg : v.ownBlock ≠ some g) : v'.ownBlock ≠ some g := by
  rcases h.2 with e | e
  · rw [e]; exact hg
  · rw [e]; intro e2; injection e2 with e2; omega
/-- what stands in a slice is put behind a row of one's own -/
theorem wp_append_byt_at {w : World} {o : Oper} {a : Act} {K : Act → World → Prop} {Q : Exit → Act → World → Prop} (s x : Operand)
    (ho : o.op = .call { callee := .builtin .append, args := #[s, x], argTypes := #[46, 46] })
    (B C : Nat) (v u : Value) (l m : List UInt8) (hs : a.eval s = v) (hown : OwnB B v l w) (hx : a.eval x = u) (hu : Byt w C u m) (hlm : l.length + m.length ≤ 140737488355328) (hB : B ≤ w.heap.size)
    (h : ∀ v' w', OwnB B v' (l ++ m) w' → Below B w w' → Grew v w v' w' → K (a.put o.dst v') w') : o.wp Tryd.prog a w K Q := by
  obtain ⟨iR, hiR, hzR0, hzR1, hzR2⟩ := info_parts Tryd.infoU8
  obtain ⟨A, c, rfl, hc, hcell⟩ := hu
  have hgr := fun (w' : World) (hg : w.grownBy w' v.ownBlock) => (Below.refl B w).grown hg hB (fun g hg => (hown.lt g hg).1)
  unfold OwnB at hown
  cases A with
  | some ad =>
    obtain ⟨v', w', hr, h2, h3, _, h5⟩ := run_append_own_at (P := Tryd.prog) w B 46 o.type 5 iR (.int .u8 0) 1 1 Tryd.underlying46 hiR hzR0 hzR1 hzR2 rfl (by decide) v l.length _ hown ad m.length c (Lib.byteCells m) (by rw [bytes_len]; omega)
      (by
        intro j z hj
        have hjm : j < m.length := by
          have := (List.getElem?_eq_some_iff.1 hj).1; rwa [bytes_len] at this
        obtain ⟨g, oo, hA, _, hcs⟩ := hcell (by omega)
        injection hA with hA; subst hA
        have e1 : (⟨g, oo, Option.none⟩ : Addr).add j = ⟨g, oo + j, Option.none⟩ := by unfold Addr.add; split <;> simp_all
        rw [e1, hcs j hjm]
        unfold Lib.byteCells at hj; rw [List.getElem?_map, List.getElem?_eq_getElem hjm] at hj; simpa using hj) (byteCells_one m) (by unfold maxLen; omega) (by omega) hB
    unfold Oper.wp execOp
    simp only [ho, resolve, invoke, builtin, Sem.run_bind, Sem.run_pure, Result.andThen_ok, List.map_toArray, List.map_cons, List.map_nil, hs, hx, hr]
    refine h v' w' ?_ (hgr w' h3) ⟨h3, h5⟩
    unfold OwnB; rw [Lib.byteCells_append, List.length_append]; exact h2
  | none =>
    have hm : m = [] := by
      cases m with
      | nil => rfl
      | cons y t => obtain ⟨g, oo, hA, _⟩ := hcell (by simp); cases hA
    subst hm
    have hrun := append_nil (c := c) o.type hown
    unfold Oper.wp
    simp [execOp, ho, resolve, invoke, builtin, hs, hx, hrun, Result.andThen]
    refine h v w ?_ (Below.refl _ _) ⟨grownBy_refl _ _, .inl rfl⟩
    unfold OwnB; rw [List.append_nil]; exact hown
theorem wpList_append_byt_at {w : World} {ops : Array Oper} {rest : List Oper} {o : Oper} {a : Act} {Q : Exit → Act → World → Prop} (hgd : o.guard = none) (s x : Operand)
    (ho : o.op = .call { callee := .builtin .append, args := #[s, x], argTypes := #[46, 46] })
    (B C : Nat) (v u : Value) (l m : List UInt8) (hs : a.eval s = v) (hown : OwnB B v l w) (hx : a.eval x = u) (hu : Byt w C u m) (hlm : l.length + m.length ≤ 140737488355328) (hB : B ≤ w.heap.size)
    (h : ∀ v' w', OwnB B v' (l ++ m) w' → Below B w w' → Grew v w v' w' → wpList Tryd.prog ops Q rest (a.put o.dst v') w') : wpList Tryd.prog ops Q (o :: rest) a w :=
  wpList_plain hgd fun _ hK => wp_append_byt_at s x ho B C v u l m hs hown hx hu hlm hB fun v' w' h1 h2 h3 => hK _ _ (h v' w' h1 h2 h3)
/-- cells of block g stand -/
def Stands (g : Nat) (w w' : World) : Prop := ∀ (p : Addr) (v : Value), p.block = g → w.cell? p = some v → w'.cell? p = some v
theorem stands_below {w w' : World} {B g : Nat} (hb : Below B w w') (hg : g < B) : Stands g w w' := fun p _ hp h => (hb.cell (p := p) (by rw [hp]; exact hg)).trans h
theorem stands_grew {w w' : World} {v v' : Value} {g : Nat} (h : Grew v w v' w') (hg : v.ownBlock ≠ some g) : Stands g w w' := fun p _ hp hc => h.cell hc (by rw [hp]; exact hg)
theorem Stands.six {g a b c d e f : Nat} {va vb vc vd ve vf : Value} {w w' : World} (h : Stands g w w')
    (k : w.cell? ⟨g, a, Option.none⟩ = some va ∧ w.cell? ⟨g, b, Option.none⟩ = some vb ∧ w.cell? ⟨g, c, Option.none⟩ = some vc ∧ w.cell? ⟨g, d, Option.none⟩ = some vd ∧ w.cell? ⟨g, e, Option.none⟩ = some ve ∧ w.cell? ⟨g, f, Option.none⟩ = some vf) :
    w'.cell? ⟨g, a, Option.none⟩ = some va ∧ w'.cell? ⟨g, b, Option.none⟩ = some vb ∧ w'.cell? ⟨g, c, Option.none⟩ = some vc ∧ w'.cell? ⟨g, d, Option.none⟩ = some vd ∧ w'.cell? ⟨g, e, Option.none⟩ = some ve ∧ w'.cell? ⟨g, f, Option.none⟩ = some vf :=
  ⟨h _ _ rfl k.1, h _ _ rfl k.2.1, h _ _ rfl k.2.2.1, h _ _ rfl k.2.2.2.1, h _ _ rfl k.2.2.2.2.1, h _ _ rfl k.2.2.2.2.2⟩
theorem wpList_append_byt {w : World} {ops : Array Oper} {rest : List Oper} {o : Oper} {a : Act} {Q : Exit → Act → World → Prop} (hgd : o.guard = none) (s x : Operand)
    (ho : o.op = .call { callee := .builtin .append, args := #[s, x], argTypes := #[46, 46] })
    (B C : Nat) (v u : Value) (l m : List UInt8) (hs : a.eval s = v) (hown : OwnB B v l w) (hx : a.eval x = u) (hu : Byt w C u m) (hlm : l.length + m.length ≤ 140737488355328) (hB : B ≤ w.heap.size)
    (h : ∀ v' w', OwnB B v' (l ++ m) w' → Below B w w' → wpList Tryd.prog ops Q rest (a.put o.dst v') w') : wpList Tryd.prog ops Q (o :: rest) a w :=
  wpList_append_byt_at hgd s x ho B C v u l m hs hown hx hu hlm hB fun v' w' h1 h2 _ => h v' w' h1 h2

/-- a block of bytes that has just been laid -/
theorem byt_new (w : World) (C : Array Value) (t : TypeId) (m : List UInt8) (hC : C = (Lib.byteCells m).toArray) : Byt (w.alloc (.cells C t)) (w.heap.size + 1) (.slice (some ⟨w.heap.size, 0, Option.none⟩) m.length m.length) m := by
  refine ⟨_, _, rfl, Nat.le_refl _, fun _ => ⟨w.heap.size, 0, rfl, by omega, fun k hk => ?_⟩⟩
  rw [World.cell?_alloc_mark, hC]
  simp [Lib.byteCells, hk]
theorem byt_new1 (w : World) (t : TypeId) (a : Int) (c : UInt8) (h : a = (c.toNat : Int)) : Byt (w.alloc (.cells #[.int .u8 a] t)) (w.heap.size + 1) (.slice (some ⟨w.heap.size, 0, Option.none⟩) 1 1) [c] :=
  byt_new w _ t [c] (by rw [h]; rfl)
theorem byt_new4 (w : World) (t : TypeId) (a b c d : Int) (x y z u : UInt8) (h : a = (x.toNat : Int)) (h2 : b = (y.toNat : Int)) (h3 : c = (z.toNat : Int)) (h4 : d = (u.toNat : Int)) : Byt (w.alloc (.cells #[.int .u8 a, .int .u8 b, .int .u8 c, .int .u8 d] t)) (w.heap.size + 1) (.slice (some ⟨w.heap.size, 0, Option.none⟩) 4 4) [x, y, z, u] :=
  byt_new w _ t [x, y, z, u] (by rw [h, h2, h3, h4]; rfl)
/-- a block of bytes that has just been laid is one's own -/
theorem own_new (w : World) (C : Array Value) (m : List UInt8) (hC : C = (Lib.byteCells m).toArray) (hm : m.length ≤ 1050000) : OwnB w.heap.size (.slice (some ⟨w.heap.size, 0, Option.none⟩) m.length m.length) m (w.alloc (.cells C 5)) := by
  have h := World.ownsRow_lit (base := w.heap.size) (e := 5) (size := 1) w C m.length (Nat.le_refl _) (by unfold maxLen; omega) (by rw [hC]; simp [bytes_len])
  rw [hC] at h ⊢
  exact h
/-- a text is put behind a row of one's own -/
theorem wpList_append_text {w : World} {ops : Array Oper} {rest : List Oper} {o : Oper} {a : Act} {Q : Exit → Act → World → Prop} (hgd : o.guard = none) (s x : Operand)
    (ho : o.op = .call { callee := .builtin .append, args := #[s, x], argTypes := #[46, 9] })
    (B : Nat) (v : Value) (l : List UInt8) (m : ByteArray) (hs : a.eval s = v) (hown : OwnB B v l w) (hx : a.eval x = .string m) (hlm : l.length + m.size ≤ 140737488355328) (hB : B ≤ w.heap.size)
    (h : ∀ v' w', OwnB B v' (l ++ m.data.toList) w' → Below B w w' → wpList Tryd.prog ops Q rest (a.put o.dst v') w') : wpList Tryd.prog ops Q (o :: rest) a w := by
  obtain ⟨iR, hiR, hzR0, hzR1, hzR2⟩ := info_parts Tryd.infoU8
  have hgr := fun (w' : World) (hg : w.grownBy w' v.ownBlock) => (Below.refl B w).grown hg hB (fun g hg => (hown.lt g hg).1)
  unfold OwnB at hown
  refine Lib.wpList_append_own_string w hgd s x 46 9 ho B 5 iR Tryd.underlying46 Tryd.underlying9 hiR hzR0 hzR1 hzR2 v l.length _ hs hown m hx (by unfold maxLen; omega) (by omega) hB ?_
  intro v' w' h1 h2 _
  refine h v' w' ?_ (hgr w' h2)
  have e : m.data.toList.length = m.size := by rw [Array.length_toList]; rfl
  unfold OwnB; rw [Lib.byteCells_append, List.length_append, e]; exact h1
end Go.Proofs.YtbiecoifeeikpaaDoor
/-
  The reference's Seal makes a frame as the plain function says, in new memory.
  The bytes are there in memory, at most 1,000,000.
-/
set_option linter.unusedSimpArgs false
set_option linter.unusedVariables false
namespace Go.Proofs.YtbiecoifeeikpaaDoor
open Go.RowKit
set_option maxRecDepth 100000

def fourB (n : Nat) : List UInt8 := [(n / 16777216 % 256).toUInt8, (n / 65536 % 256).toUInt8, (n / 256 % 256).toUInt8, (n % 256).toUInt8]
def headB (kind : Int) (l : List UInt8) : List UInt8 := kind.toNat.toUInt8 :: Nu.put (l.length : Int)
def sealB (kind : Int) (l : List UInt8) : List UInt8 := if kind < 1 ∨ 255 < kind ∨ 4000 < l.length then [] else headB kind l ++ fourB (crcSum (headB kind l ++ l)) ++ l
end Go.Proofs.YtbiecoifeeikpaaDoor
/-
  The reference's Get reads a number as the plain function says, whatever the bytes.
  The bytes are there in memory, at most as many as the model lets a slice have.
-/
set_option linter.unusedSimpArgs false
set_option linter.unusedVariables false
namespace Go.Proofs.YtbiecoifeeikpaaDoor
open Go.RowKit
set_option maxRecDepth 100000

def GotN (r : Int × Nat × Nat) (w : World) (e : Ending) (w' : World) : Prop := e = .returned (.tuple #[.int .i64 r.1, .int .i64 r.2.1, .int .i64 r.2.2]) ∧ w = w'
theorem gstep (l : List UInt8) (i u p : Nat) (h : Nu.getF i u p (l.drop i) = Nu.get l) (hi : i < l.length) :
    Nu.get l = if (i = 9 ∧ 1 < l[i].toNat) ∨ (0 < i ∧ l[i].toNat = 0) then (0, 0, 1) else if l[i].toNat < 128 then (Nu.unzz (u + l[i].toNat % 128 * p), i + 1, 0) else Nu.getF (i + 1) (u + l[i].toNat % 128 * p) (p * 128) (l.drop (i + 1)) := by
  rw [← h, List.drop_eq_getElem_cons hi]; rfl
theorem got3 {r : Int × Nat × Nat} {w : World} {a b c : Int} (ha : a = r.1) (hb : b = r.2.1) (hc : c = r.2.2) : GotN r w (.returned (.tuple #[.int .i64 a, .int .i64 b, .int .i64 c])) w := ⟨by rw [ha, hb, hc], rfl⟩
theorem mul_bd (x k un : Nat) (hx : x < 128) (hk : k ≤ 8) (hun : un < 128 ^ k) : x * 128 ^ k + un < 9223372036854775808 ∧ 128 ^ k ≤ 72057594037927936 := by
  have h1 : (128 : Nat) ^ k ≤ 128 ^ 8 := Nat.pow_le_pow_right (by decide) hk
  have h2 : (128 : Nat) ^ 8 = 72057594037927936 := by decide
  have h3 : x * 128 ^ k ≤ 127 * 128 ^ k := Nat.mul_le_mul_right _ (by omega)
  omega
theorem unzz_odd (N : Nat) (h : N % 2 = 1) : Nu.unzz N = -((N : Int) / 2) - 1 := by unfold Nu.unzz; rw [if_pos h]; omega
theorem unzz_even (N : Nat) (h : ¬ N % 2 = 1) : Nu.unzz N = (N : Int) / 2 := by unfold Nu.unzz; rw [if_neg h]; omega

end Go.Proofs.YtbiecoifeeikpaaDoor
/-
  The reference's GetText reads a text behind its length as the plain function says, whatever the bytes.
  The bytes are there in memory, at most 1,000,000.
-/
set_option linter.unusedSimpArgs false
set_option linter.unusedVariables false
namespace Go.Proofs.YtbiecoifeeikpaaDoor
open Go.RowKit
set_option maxRecDepth 100000

def GotT (r : List UInt8 × Nat × Nat) (w : World) (e : Ending) (w' : World) : Prop := e = .returned (.tuple #[.string ⟨r.1.toArray⟩, .int .i64 r.2.1, .int .i64 r.2.2]) ∧ w = w'
theorem gotT {r : List UInt8 × Nat × Nat} {w : World} {s : ByteArray} {b c : Int} {l : List UInt8} {k e : Nat} (h : r = (l, k, e)) (hs : s = ⟨l.toArray⟩) (hb : b = k) (hc : c = e) : GotT r w (.returned (.tuple #[.string s, .int .i64 b, .int .i64 c])) w := ⟨by rw [h, hs, hb, hc], rfl⟩
theorem conv_part (w : World) (g o : Nat) (l : List UInt8) (k n cap : Nat) (hk : k + n ≤ l.length) (hcell : ∀ j (h : j < l.length), w.cell? ⟨g, o + j, Option.none⟩ = some (.int .u8 (l[j].toNat : Int))) :
    (convert 46 9 (.slice (some ⟨g, o + k, Option.none⟩) n cap)).run Tryd.prog w = .ok (.string ⟨((l.drop k).take n).toArray⟩) w := by
  have h := run_convert_bytes_arg (P := Tryd.prog) w 46 5 Tryd.underlying46 Tryd.underlying5 g (o + k) n cap (((l.drop k).take n).map fun x => (x.toNat : Int)) (by simp; omega) (fun i hi => by
    rw [Nat.add_assoc, hcell (k + i) (by omega)]
    simp [List.getD, hi, List.getElem?_drop, show k + i < l.length by omega]) 9 Tryd.underlying9
  rw [h]; congr 2; unfold strOfNums; rw [List.map_map]; congr 2
  conv => rhs; rw [← List.map_id ((l.drop k).take n)]
  apply List.map_congr_left; intro x _; simp
theorem conv_zero (w : World) (g o cap : Nat) :
    (convert 46 9 (.slice (some ⟨g, o, Option.none⟩) 0 cap)).run Tryd.prog w = .ok (.string ⟨#[]⟩) w :=
  run_convert_bytes_arg (P := Tryd.prog) w 46 5 Tryd.underlying46 Tryd.underlying5 g o 0 cap [] rfl (fun i hi => by omega) 9 Tryd.underlying9

theorem getT_of (l : List UInt8) : Nu.getT l = if (Nu.get l).2.2 ≠ 0 then ([], 0, (Nu.get l).2.2)
  else if (Nu.get l).1 < 0 ∨ 1048576 < (Nu.get l).1 then ([], 0, 1)
  else if (l.length : Int) - (Nu.get l).2.1 < (Nu.get l).1 then ([], 0, 2)
  else ((l.drop (Nu.get l).2.1).take (Nu.get l).1.toNat, (Nu.get l).2.1 + (Nu.get l).1.toNat, 0) := rfl
end Go.Proofs.YtbiecoifeeikpaaDoor
/-
  The reference's PutText writes a text's length and its bytes, in new memory.
  The text has at most 1,000,000 bytes.
-/
set_option linter.unusedSimpArgs false
set_option linter.unusedVariables false
namespace Go.Proofs.YtbiecoifeeikpaaDoor
open Go.RowKit
set_option maxRecDepth 100000

theorem strCells_bytes (s : ByteArray) : Lib.strCells s = Lib.byteCells s.data.toList := rfl
end Go.Proofs.YtbiecoifeeikpaaDoor
/-
  The reference's PutRaw writes a value's kind, and its number or text, in new memory.
  Integers are in their ranges; a text has at most 1,000,000 bytes.
-/
set_option linter.unusedSimpArgs false
set_option linter.unusedVariables false
namespace Go.Proofs.YtbiecoifeeikpaaDoor
open Go.RowKit
set_option maxRecDepth 100000

def putR (r : Raw) : List UInt8 := Nu.put r.kind ++ (if r.kind = 1 then Nu.put r.n else if r.kind = 2 then Nu.putT r.s.data.toList else [])
def Raw.ok (r : Raw) : Prop := (-9223372036854775808 ≤ r.kind ∧ r.kind ≤ 9223372036854775807) ∧ (-9223372036854775808 ≤ r.n ∧ r.n ≤ 9223372036854775807) ∧ r.s.size ≤ 1050000
theorem made_app {l m : List UInt8} {w w' : World} {v : Value} (hown : w'.ownsRow w.heap.size 5 1 v (l.length + m.length) (Lib.byteCells l ++ Lib.byteCells m)) (hb : Below w.heap.size w w') : Made (l ++ m) w (.returned v) w' :=
  ⟨v, rfl, by unfold OwnB; rw [List.length_append, Lib.byteCells_append]; exact hown, hb⟩
theorem putT_len (s : ByteArray) : (Nu.putT s.data.toList).length ≤ s.size + 10 := by
  have h1 := Nu.put_len (s.data.toList.length : Int)
  unfold Nu.putT; rw [List.length_append]
  have e : s.data.toList.length = s.size := by rw [Array.length_toList]; rfl
  omega
theorem putT_ne (l : List UInt8) : 1 ≤ (Nu.putT l).length := by
  have h1 := Nu.put_ne (l.length : Int); unfold Nu.putT; rw [List.length_append]; omega

end Go.Proofs.YtbiecoifeeikpaaDoor
/-
  The reference's GetRaw reads a value as the plain function says, whatever the bytes.
  The bytes are there in memory, at most 1,000,000.
-/
set_option linter.unusedSimpArgs false
set_option linter.unusedVariables false
namespace Go.Proofs.YtbiecoifeeikpaaDoor
open Go.RowKit
set_option maxRecDepth 100000

def noRaw : Raw := ⟨0, 0, ⟨#[]⟩⟩
/-- what GetRaw reads -/
def getR (l : List UInt8) : Raw × Nat × Nat :=
  if (Nu.get l).2.2 ≠ 0 then (noRaw, 0, (Nu.get l).2.2)
  else if (Nu.get l).1 = 0 then (noRaw, (Nu.get l).2.1, 0)
  else if (Nu.get l).1 = 1 then
    (if (Nu.get (l.drop (Nu.get l).2.1)).2.2 ≠ 0 then (noRaw, 0, (Nu.get (l.drop (Nu.get l).2.1)).2.2)
     else (⟨1, (Nu.get (l.drop (Nu.get l).2.1)).1, ⟨#[]⟩⟩, (Nu.get l).2.1 + (Nu.get (l.drop (Nu.get l).2.1)).2.1, 0))
  else if (Nu.get l).1 = 2 then
    (if (Nu.getT (l.drop (Nu.get l).2.1)).2.2 ≠ 0 then (noRaw, 0, (Nu.getT (l.drop (Nu.get l).2.1)).2.2)
     else if (Ru.vld (Nu.getT (l.drop (Nu.get l).2.1)).1 && decide ((Nu.getT (l.drop (Nu.get l).2.1)).1.length ≤ 200)) = true then (⟨2, 0, ⟨(Nu.getT (l.drop (Nu.get l).2.1)).1.toArray⟩⟩, (Nu.get l).2.1 + (Nu.getT (l.drop (Nu.get l).2.1)).2.1, 0)
     else (noRaw, 0, 1))
  else (noRaw, 0, 1)
def GotR (r : Raw × Nat × Nat) (w : World) (e : Ending) (w' : World) : Prop := e = .returned (.tuple #[r.1.val, .int .i64 r.2.1, .int .i64 r.2.2]) ∧ Below w.heap.size w w'

theorem getR_err (l : List UInt8) (k : Int) (n e : Nat) (h : Nu.get l = (k, n, e)) (he : e ≠ 0) : getR l = (noRaw, 0, e) := by
  unfold getR; rw [h]; exact if_pos he
theorem getR_0 (l : List UInt8) (n : Nat) (h : Nu.get l = (0, n, 0)) : getR l = (noRaw, n, 0) := by
  unfold getR; rw [h]; simp
theorem getR_1e (l : List UInt8) (n : Nat) (m : Int) (j e : Nat) (h : Nu.get l = (1, n, 0)) (h1 : Nu.get (l.drop n) = (m, j, e)) (he : e ≠ 0) : getR l = (noRaw, 0, e) := by
  unfold getR; rw [h]; simp [h1, he]
theorem getR_1 (l : List UInt8) (n : Nat) (m : Int) (j : Nat) (h : Nu.get l = (1, n, 0)) (h1 : Nu.get (l.drop n) = (m, j, 0)) : getR l = (⟨1, m, ⟨#[]⟩⟩, n + j, 0) := by
  unfold getR; rw [h]; simp [h1]
theorem getR_2e (l : List UInt8) (n : Nat) (t : List UInt8) (j e : Nat) (h : Nu.get l = (2, n, 0)) (h1 : Nu.getT (l.drop n) = (t, j, e)) (he : e ≠ 0) : getR l = (noRaw, 0, e) := by
  unfold getR; rw [h]; simp [h1, he]
theorem getR_2 (l : List UInt8) (n : Nat) (t : List UInt8) (j : Nat) (h : Nu.get l = (2, n, 0)) (h1 : Nu.getT (l.drop n) = (t, j, 0)) : getR l = if (Ru.vld t && decide (t.length ≤ 200)) = true then (⟨2, 0, ⟨t.toArray⟩⟩, n + j, 0) else (noRaw, 0, 1) := by
  unfold getR; rw [h]; simp [h1]
theorem getR_x (l : List UInt8) (k : Int) (n : Nat) (h : Nu.get l = (k, n, 0)) (h0 : k ≠ 0) (h1 : k ≠ 1) (h2 : k ≠ 2) : getR l = (noRaw, 0, 1) := by
  unfold getR; rw [h]; simp [h0, h1, h2]
theorem getT_le (l : List UInt8) : (Nu.getT l).1.length ≤ l.length := by
  rw [getT_of]; split
  · simp
  · split
    · simp
    · split
      · simp
      · simp only [List.length_take, List.length_drop]; omega
theorem getT_len (l : List UInt8) : (Nu.getT l).2.1 ≤ l.length := by
  have h := Nu.get_len l
  rw [getT_of]; split
  · simp
  · split
    · simp
    · split
      · simp
      · simp only; omega
theorem add_lit (g o j : Nat) : (some (⟨g, o, Option.none⟩ : Addr)).map (·.add j) = some ⟨g, o + j, Option.none⟩ := by
  show some (Addr.add ⟨g, o, Option.none⟩ j) = _
  unfold Addr.add; split <;> simp_all
end Go.Proofs.YtbiecoifeeikpaaDoor
/-
  Plain facts on numbers written seven bits a byte, with no program in them: what is read has just one text of bytes.
  There are no conditions beyond those that each lemma names.
-/
set_option linter.unusedVariables false
set_option linter.unusedSimpArgs false
set_option linter.unusedVariables false
namespace Go.Proofs.YtbiecoifeeikpaaDoor.Nu
open Go

theorem getF_canon : ∀ (l : List UInt8) (i u : Nat) (n : Int) (k : Nat), i ≤ 9 → u < 128 ^ i → getF i u (128 ^ i) l = (n, k, 0) →
    ∃ q : Nat, n = unzz (u + q * 128 ^ i) ∧ i ≤ k ∧ l.take (k - i) = vr (10 - i) q ∧ q < 2 * 128 ^ (9 - i) ∧ (0 < i → q ≠ 0) := by
  intro l; induction l with
  | nil => intro i u n k _ _ h; simp [getF] at h
  | cons c t ih =>
    intro i u n k hi hu h
    have hc := c.toNat_lt
    simp only [getF] at h
    by_cases hbad : (i = 9 ∧ 1 < c.toNat) ∨ (0 < i ∧ c.toNat = 0)
    · rw [if_pos hbad] at h; simp at h
    · rw [if_neg hbad] at h
      by_cases hlt : c.toNat < 128
      · rw [if_pos hlt] at h
        simp only [Prod.mk.injEq] at h
        obtain ⟨rfl, rfl, _⟩ := h
        refine ⟨c.toNat, by rw [Nat.mod_eq_of_lt hlt], by omega, ?_, ?_, fun h0 => by omega⟩
        · rw [show i + 1 - i = 1 by omega]
          have hf : 10 - i = (9 - i) + 1 := by omega
          rw [hf]; simp only [vr, if_pos hlt, List.take_succ_cons, List.take_zero]
          simp [Nat.toUInt8]
        · by_cases h9 : i = 9
          · subst h9; simp; omega
          · have : (128 : Nat) ^ 1 ≤ 128 ^ (9 - i) := Nat.pow_le_pow_right (by decide) (by omega)
            simp at this; omega
      · rw [if_neg hlt] at h
        have hi8 : i ≤ 8 := by omega
        have hp : (128 : Nat) ^ (i + 1) = 128 ^ i * 128 := Nat.pow_succ ..
        have hu2 : u + c.toNat % 128 * 128 ^ i < 128 ^ (i + 1) := by
          have h2 : c.toNat % 128 * 128 ^ i ≤ 127 * 128 ^ i := Nat.mul_le_mul_right _ (by omega)
          omega
        rw [← hp] at h
        obtain ⟨q, hq1, hq2, hq3, hq4, hq5⟩ := ih (i + 1) _ n k (by omega) hu2 h
        have hq0 := hq5 (by omega)
        refine ⟨c.toNat % 128 + q * 128, ?_, by omega, ?_, ?_, fun _ => by omega⟩
        · rw [hq1, hp]; congr 1
          rw [Nat.add_mul, Nat.mul_assoc, Nat.mul_comm 128, Nat.add_assoc]
        · have hki : k - i = (k - (i + 1)) + 1 := by omega
          have hf : 10 - i = (10 - (i + 1)) + 1 := by omega
          rw [hki, hf]
          simp only [vr]
          rw [if_neg (by omega), List.take_succ_cons, hq3]
          congr 1
          · have e1 : (c.toNat % 128 + q * 128) % 128 + 128 = c.toNat := by omega
            rw [e1]; simp [Nat.toUInt8]
          · congr 1; omega
        · have hf : 9 - i = (9 - (i + 1)) + 1 := by omega
          rw [hf, Nat.pow_succ]
          omega
theorem get_canon (l : List UInt8) (n : Int) (k : Nat) (h : get l = (n, k, 0)) : l.take k = put n ∧ k = (put n).length ∧ -9223372036854775808 ≤ n ∧ n ≤ 9223372036854775807 := by
  obtain ⟨q, hq1, _, hq3, hq4, _⟩ := getF_canon l 0 0 n k (by decide) (by decide) h
  have h9 : (128 : Nat) ^ 9 = 9223372036854775808 := by decide
  simp only [Nat.zero_add, Nat.pow_zero, Nat.mul_one, Nat.sub_zero] at hq1 hq3 hq4
  rw [h9] at hq4
  have hz : zz n = q := by rw [hq1, zz_unzz]
  have hp : put n = vr 10 q := by unfold put var; rw [hz]
  have hlen : k ≤ l.length := by have := get_len l; rw [h] at this; exact this
  refine ⟨by rw [hp, hq3], ?_, ?_, ?_⟩
  · have := congrArg List.length hq3
    rw [List.length_take, Nat.min_eq_left hlen] at this
    rw [hp]; exact this
  · rw [hq1]; unfold unzz; split <;> omega
  · rw [hq1]; unfold unzz; split <;> omega
theorem get_split (l : List UInt8) (n : Int) (k : Nat) (h : get l = (n, k, 0)) : l = put n ++ l.drop k := by
  have h1 := (get_canon l n k h).1
  conv => lhs; rw [← List.take_append_drop k l, h1]
theorem getT_canon (l t : List UInt8) (k : Nat) (h : getT l = (t, k, 0)) : l = putT t ++ l.drop k ∧ k = (putT t).length ∧ t.length ≤ 1048576 := by
  unfold getT at h
  obtain ⟨x, hg⟩ : ∃ x, get l = x := ⟨_, rfl⟩
  obtain ⟨n, j, e⟩ := x
  rw [hg] at h
  simp only at h
  by_cases he : e = 0
  · subst he
    simp only [ne_eq, not_true_eq_false, if_false] at h
    by_cases h1 : n < 0 ∨ 1048576 < n
    · rw [if_pos h1] at h; simp at h
    · rw [if_neg h1] at h
      by_cases h2 : (l.length : Int) - j < n
      · rw [if_pos h2] at h; simp at h
      · rw [if_neg h2] at h
        simp only [Prod.mk.injEq] at h
        obtain ⟨rfl, rfl, _⟩ := h
        have hs := get_split l n j hg
        have hk := (get_canon l n j hg).2.1
        have hj : j ≤ l.length := by have := get_len l; rw [hg] at this; exact this
        have hlen : ((l.drop j).take n.toNat).length = n.toNat := by rw [List.length_take, List.length_drop]; omega
        have hn : ((((l.drop j).take n.toNat).length : Nat) : Int) = n := by rw [hlen]; omega
        unfold putT
        rw [hn]
        refine ⟨?_, by rw [List.length_append, ← hk, hlen], by omega⟩
        rw [List.append_assoc, ← List.drop_drop, List.take_append_drop]
        exact hs
  · rw [if_pos he] at h
    simp only [Prod.mk.injEq] at h
    omega
end Go.Proofs.YtbiecoifeeikpaaDoor.Nu
/-
  A number's turning into a natural number and back, as package num does it.
  The conditions are the kinds' ranges.
-/
set_option linter.unusedSimpArgs false
set_option linter.unusedVariables false
namespace Go.Proofs.YtbiecoifeeikpaaDoor
open Go.RowKit
set_option maxRecDepth 100000

theorem i64_not_all (n : Int) (h0 : -9223372036854775808 ≤ n) (h1 : n ≤ 9223372036854775807) : bits BinOp.xor IntKind.i64 (-1) n = -n - 1 := by
  by_cases hs : 0 ≤ n
  · obtain ⟨k, rfl⟩ := Int.eq_ofNat_of_zero_le hs
    exact Lib.i64_not k (by omega)
  · show IntKind.i64.wrap ((BitVec.ofInt 64 (-1) ^^^ BitVec.ofInt 64 n).toNat : Int) = _
    have a1 : (BitVec.ofInt 64 (-1)).toNat = 2 ^ 64 - 1 := by decide
    have a2 : (BitVec.ofInt 64 n).toNat = (n + 18446744073709551616).toNat := by
      rw [BitVec.toNat_ofInt]
      have e : n % ((2 ^ 64 : Nat) : Int) = n + 18446744073709551616 := by
        rw [show ((2 ^ 64 : Nat) : Int) = 18446744073709551616 from rfl]; omega
      rw [e]
    rw [BitVec.toNat_xor, a1, a2, Lib.xor_ones64 _ (by omega), IntKind.wrap_i64]
    omega
theorem u64_or1 (n : Nat) (h : n < 9223372036854775808) : bits BinOp.or IntKind.u64 ((n : Int) * 2) 1 = (n : Int) * 2 + 1 := by
  have e : ((n : Int) * 2) = ((n * 2 : Nat) : Int) := by omega
  rw [e, show (1 : Int) = ((1 : Nat) : Int) from rfl, u64_or_nat _ _ (by omega) (by omega), nat_join 1 (n * 2) 1 (by omega) (by omega)]
  rfl
theorem ret_u64 {a b : Int} (h : a = b) : Ending.returned (.int .u64 a) = .returned (.int .u64 b) := by rw [h]

set_option maxHeartbeats 2000000 in
theorem nunsigned_any (n : Int) (w : World) (h0 : -9223372036854775808 ≤ n) (h1 : n ≤ 9223372036854775807) : Calls Tryd.prog 100 #[.int .i64 n] w fun e w' => e = .returned (.int .u64 (Nu.zz n : Nat)) ∧ w = w' := by
  by_cases hs : n < 0
  · have e1 := i64_not_all n h0 h1
    obtain ⟨m, hm⟩ : ∃ m : Nat, -n - 1 = (m : Int) := Int.eq_ofNat_of_zero_le (by omega)
    have e2 : IntKind.u64.wrap (m : Int) = (m : Int) := by rw [IntKind.wrap_u64]; omega
    have e3 : IntKind.u64.wrap ((m : Int) * 2) = (m : Int) * 2 := by rw [IntKind.wrap_u64]; omega
    have e4 := u64_or1 m (by omega)
    rw [hm] at e1
    have e5 : ((Nu.zz n : Nat) : Int) = (m : Int) * 2 + 1 := by unfold Nu.zz; rw [if_pos hs]; omega
    have E5 := Lib.hid e5; clear e5
    have HM := Lib.hid hm; clear hm
    go_enter Tryd.func100, Tryd.ntmps100
    go_wp2
    go_ret
    refine ⟨ret_u64 ?_, rfl⟩
    rw [E5.out]
  · have e5 : ((Nu.zz n : Nat) : Int) = n * 2 := by unfold Nu.zz; rw [if_neg hs]; omega
    have E5 := Lib.hid e5; clear e5
    go_enter Tryd.func100, Tryd.ntmps100
    go_wp2
    go_ret
    exact ⟨ret_u64 E5.out.symm, rfl⟩

set_option maxHeartbeats 2000000 in
theorem nsigned_any (u : Nat) (w : World) (h1 : u < 18446744073709551616) : Calls Tryd.prog 101 #[.int .u64 u] w fun e w' => e = .returned (.int .i64 (Nu.unzz u)) ∧ w = w' := by
  have ea := Lib.u64_and1 (u : Int) (by omega) (by omega)
  have en := i64_not_all ((u : Int) / 2) (by omega) (by omega)
  by_cases hs : u % 2 = 1
  · have e5 : Nu.unzz u = -((u : Int) / 2) - 1 := by unfold Nu.unzz; rw [if_pos hs]; omega
    have eb : ((bits BinOp.and IntKind.u64 (u : Int) 1) == 1) = true := by rw [ea, beq_iff_eq]; omega
    have E5 := Lib.hid e5; clear e5 ea hs
    go_enter Tryd.func101, Tryd.ntmps101
    go_wp2
    go_ret
    refine ⟨ret_i64 ?_, rfl⟩
    rw [E5.out, ← en]
  · have e5 : Nu.unzz u = (u : Int) / 2 := by unfold Nu.unzz; rw [if_neg hs]; omega
    have eb : ((bits BinOp.and IntKind.u64 (u : Int) 1) == 1) = false := by rw [ea, beq_eq_false_iff_ne]; omega
    have E5 := Lib.hid e5; clear e5 ea hs
    go_enter Tryd.func101, Tryd.ntmps101
    go_wp2
    go_ret
    refine ⟨ret_i64 ?_, rfl⟩
    rw [E5.out]
end Go.Proofs.YtbiecoifeeikpaaDoor
/-
  Package num's Get reads a number as the plain function says, whatever the bytes.
  The bytes are there in memory, at most as many as the model lets a slice have.
-/
set_option linter.unusedSimpArgs false
set_option linter.unusedVariables false
namespace Go.Proofs.YtbiecoifeeikpaaDoor
open Go.RowKit
set_option maxRecDepth 100000

set_option maxRecDepth 100000 in
theorem u8_low7 (x : UInt8) : bits BinOp.andNot IntKind.u8 (x.toNat : Int) 128 = ((x.toNat % 128 : Nat) : Int) := by
  have hb := x.toNat_lt
  rw [show (128 : Int) = ((128 : Nat) : Int) from rfl, u8_andNot_nat _ _ (by omega) (by omega), nat_mask7]
theorem pow7 (k : Nat) : (2 : Int) ^ (7 * k) = ((128 ^ k : Nat) : Int) := by
  rw [Int.pow_mul, Int.natCast_pow]; rfl
theorem get_facts (x : UInt8) (k un : Nat) (hk : k ≤ 9) (h9 : k = 9 → x.toNat ≤ 1) (hun : un < 128 ^ k) :
    ∃ N m d : Nat, N = un + x.toNat % 128 * 128 ^ k ∧ N < 18446744073709551616 ∧ N < 128 ^ (k + 1) ∧ bits BinOp.andNot IntKind.u8 (x.toNat : Int) 128 = (d : Int) ∧ IntKind.u64.wrap (d : Int) = (d : Int) ∧ IntKind.u64.wrap ((d : Int) * 2 ^ (7 * k)) = (m : Int) ∧ bits BinOp.or IntKind.u64 (un : Int) (m : Int) = (N : Int) := by
  have hb := x.toNat_lt
  have hw : ∀ z : Nat, z < 18446744073709551616 → IntKind.u64.wrap (z : Int) = (z : Int) := fun z hz => by rw [IntKind.wrap_u64]; omega
  have hx : x.toNat % 128 < 128 := Nat.mod_lt _ (by decide)
  have h8 : (128 : Nat) ^ 8 = 72057594037927936 := by decide
  have h99 : (128 : Nat) ^ 9 = 9223372036854775808 := by decide
  have hN : un + x.toNat % 128 * 128 ^ k < 18446744073709551616 := by
    by_cases hk9 : k = 9
    · have := h9 hk9
      subst hk9
      rw [h99] at hun ⊢
      have : x.toNat % 128 ≤ 1 := by omega
      have := Nat.mul_le_mul_right 9223372036854775808 this
      omega
    · have h1 : (128 : Nat) ^ k ≤ 128 ^ 8 := Nat.pow_le_pow_right (by decide) (by omega)
      have h2 : x.toNat % 128 * 128 ^ k ≤ 127 * 128 ^ k := Nat.mul_le_mul_right _ (by omega)
      omega
  have hN2 : un + x.toNat % 128 * 128 ^ k < 128 ^ (k + 1) := by
    have h2 : x.toNat % 128 * 128 ^ k ≤ 127 * 128 ^ k := Nat.mul_le_mul_right _ (by omega)
    rw [Nat.pow_succ]; omega
  refine ⟨_, x.toNat % 128 * 128 ^ k, x.toNat % 128, rfl, hN, hN2, u8_low7 x, hw _ (by omega), ?_, ?_⟩
  · rw [pow7, ← Int.natCast_mul]; exact hw _ (by omega)
  · rw [u64_or_nat _ _ (by omega) (by omega), Nat.or_comm, nat_join (7 * k) _ un ?_ ?_]
    · rw [Nat.add_comm]
    · rw [Nat.pow_mul]; exact Nat.mul_mod_left _ _
    · rw [Nat.pow_mul]; exact hun
theorem nstep (l : List UInt8) (i u : Nat) (x : UInt8) (h : Nu.getF i u (128 ^ i) (l.drop i) = Nu.get l) (hi : i < l.length) (hx : l[i] = x) :
    Nu.get l = if (i = 9 ∧ 1 < x.toNat) ∨ (0 < i ∧ x.toNat = 0) then (0, 0, 1) else if x.toNat < 128 then (Nu.unzz (u + x.toNat % 128 * 128 ^ i), i + 1, 0) else Nu.getF (i + 1) (u + x.toNat % 128 * 128 ^ i) (128 ^ (i + 1)) (l.drop (i + 1)) := by
  have := gstep l i u _ h hi
  rw [hx, ← Nat.pow_succ] at this
  exact this

set_option maxRecDepth 100000 in
set_option maxHeartbeats 4000000 in
theorem nget_any (A : Option Addr) (c B : Nat) (l : List UInt8) (w : World) (h : Byt w B (.slice A l.length c) l) (hl : l.length ≤ 1050000) :
    Calls Tryd.prog 94 #[.slice A l.length c] w (GotN (Nu.get l) w) := by
  obtain ⟨A', c', hv, hc, hcell⟩ := h
  injection hv with e1 _ e2; subst e1; subst e2
  have HCELL := Lib.hid hcell; clear hcell
  go_enter Tryd.func94, Tryd.ntmps94
  go_wp2
  go_loop [5, 10] (fun u i => ∃ un k : Nat, u = .int .u64 un ∧ i = .int .i64 k ∧ k ≤ 9 ∧ k ≤ l.length ∧ un < 128 ^ k ∧ Nu.getF k un (128 ^ k) (l.drop k) = Nu.get l) (fun _ i => l.length - (intOf i).toNat)
  case atStart => exact ⟨0, 0, rfl, rfl, by omega, by omega, by decide, rfl⟩
  case round =>
    obtain ⟨un, k, rfl, rfl, hk9, hkl, hun, hget⟩ := hrel
    have HU := Lib.hid hun; clear hun
    have HG := Lib.hid hget; clear hget
    by_cases hlt : k < l.length
    · obtain ⟨g, o, rfl, hg, hcs⟩ := HCELL.out (by omega)
      obtain ⟨x, hxl⟩ : ∃ x, l[k] = x := ⟨_, rfl⟩
      have hc1 := hcs k hlt
      rw [hxl] at hc1
      have hstep := nstep l k un x HG.out hlt hxl
      clear hcs HCELL hxl
      have hb := x.toNat_lt
      have HS := Lib.hid hstep; clear hstep
      by_cases hbad : k = 9 ∧ 1 < x.toNat
      · obtain ⟨rfl, hx1⟩ := hbad
        have hform : Nu.get l = (0, 0, 1) := by rw [HS.out, if_pos (.inl ⟨rfl, hx1⟩)]
        have HF := Lib.hid hform; clear hform HS HU HG
        have hx1' : 1 < (x.toNat : Int) := by omega
        go_wp2
        go_ret3
        refine got3 ?_ ?_ ?_ <;> (rw [HF.out]; first | done | rfl)
      · obtain ⟨N, m, d, hNe, hN, hN2, f1, f2, f3, f4⟩ := get_facts x k un hk9 (fun h => by omega) HU.out
        have HN := Lib.hid hNe; clear hNe
        have HN2 := Lib.hid hN2; clear hN2 HU HG
        have HB := Lib.hid hbad; clear hbad
        have t1 : ((k : Int) == 9) = decide (k = 9) := by
          by_cases h : k = 9
          · subst h; rfl
          · rw [decide_eq_false h, beq_eq_false_iff_ne]; omega
        by_cases h9 : k = 9
        · rw [decide_eq_true h9] at t1
          have hx1 : (x.toNat : Int) ≤ 1 := by have := HB.out; omega
          have hx128 : (x.toNat : Int) < 128 := by omega
          have hk0 : 0 < k := by omega
          have H9 := Lib.hid h9; clear h9
          by_cases hx0 : x.toNat = 0
          · have hz : ((x.toNat : Int) == 0) = true := by rw [hx0]; rfl
            have H0 := Lib.hid hx0; clear hx0
            have hform : Nu.get l = (0, 0, 1) := by rw [HS.out, if_pos (.inr ⟨hk0, H0.out⟩)]
            have HF := Lib.hid hform; clear hform HS
            go_wp2
            go_ret3
            refine got3 ?_ ?_ ?_ <;> (rw [HF.out]; first | done | rfl)
          · have hz : ((x.toNat : Int) == 0) = false := by rw [beq_eq_false_iff_ne]; omega
            have hval : Nu.get l = (Nu.unzz N, k + 1, 0) := by rw [HS.out, if_neg (by omega), if_pos (by omega), HN.out]
            have HV := Lib.hid hval; clear hval HS
            have H0 := Lib.hid hx0; clear hx0
            go_wp2_with (go_at_call 101; refine (nsigned_any N _ hN).mono ?_; rintro e w1 ⟨rfl, rfl⟩)
            go_ret3
            refine got3 (by rw [HV.out]) (by rw [HV.out]; first | done | rfl | (show _ = ((_ : Nat) : Int); omega)) (by rw [HV.out]; first | done | rfl)
        · rw [decide_eq_false h9] at t1
          by_cases hx128 : x.toNat < 128
          · have hx128' : (x.toNat : Int) < 128 := by omega
            by_cases hx0 : 0 < k ∧ x.toNat = 0
            · obtain ⟨hk0, hx0⟩ := hx0
              have hz : ((x.toNat : Int) == 0) = true := by rw [hx0]; rfl
              have H0 := Lib.hid hx0; clear hx0
              have hform : Nu.get l = (0, 0, 1) := by rw [HS.out, if_pos (.inr ⟨hk0, H0.out⟩)]
              have HF := Lib.hid hform; clear hform HS
              go_wp2
              go_ret3
              refine got3 ?_ ?_ ?_ <;> (rw [HF.out]; first | done | rfl)
            · have hval : Nu.get l = (Nu.unzz N, k + 1, 0) := by rw [HS.out, if_neg (by omega), if_pos (by omega), HN.out]
              have HV := Lib.hid hval; clear hval HS
              have hz : ((x.toNat : Int) == 0) = decide (x.toNat = 0) := by
                by_cases h : x.toNat = 0
                · rw [h]; rfl
                · rw [decide_eq_false h, beq_eq_false_iff_ne]; omega
              have hor : x.toNat = 0 ∨ x.toNat ≠ 0 := by omega
              rcases hor with h | h
              · rw [decide_eq_true h] at hz
                have hk0' : ¬ 0 < k := by omega
                have HX := Lib.hid hx0; clear hx0
                have HH := Lib.hid h; clear h
                go_wp2_with (go_at_call 101; refine (nsigned_any N _ hN).mono ?_; rintro e w1 ⟨rfl, rfl⟩)
                go_ret3
                refine got3 (by rw [HV.out]) (by rw [HV.out]; first | done | rfl | (show _ = ((_ : Nat) : Int); omega)) (by rw [HV.out]; first | done | rfl)
              · rw [decide_eq_false h] at hz
                have HX := Lib.hid hx0; clear hx0
                have HH := Lib.hid h; clear h
                go_wp2_with (go_at_call 101; refine (nsigned_any N _ hN).mono ?_; rintro e w1 ⟨rfl, rfl⟩)
                go_ret3
                refine got3 (by rw [HV.out]) (by rw [HV.out]; first | done | rfl | (show _ = ((_ : Nat) : Int); omega)) (by rw [HV.out]; first | done | rfl)
          · have hx128' : 128 ≤ (x.toNat : Int) := by omega
            have hnx : Nu.getF (k + 1) N (128 ^ (k + 1)) (l.drop (k + 1)) = Nu.get l := by rw [HS.out, if_neg (by omega), if_neg hx128, HN.out]
            have HX := Lib.hid hnx; clear hnx HS
            go_wp2
            go_round
            case rel => exact ⟨N, k + 1, by first | rfl | simp, by go_num, by omega, by omega, HN2.out, HX.out⟩
            case measure => simp [intOf]; omega
    · have hend : Nu.get l = (0, 0, 2) := by rw [← HG.out, List.drop_of_length_le (by omega)]; rfl
      have HE := Lib.hid hend; clear hend HG
      go_wp2
      go_ret3
      refine got3 ?_ ?_ ?_ <;> (rw [HE.out]; first | done | rfl)
end Go.Proofs.YtbiecoifeeikpaaDoor
/-
  Package num's GetText reads a text behind its length as the plain function says, whatever the bytes.
  The bytes are there in memory, at most 1,000,000.
-/
set_option linter.unusedSimpArgs false
set_option linter.unusedVariables false
namespace Go.Proofs.YtbiecoifeeikpaaDoor
open Go.RowKit
set_option maxRecDepth 100000

set_option maxRecDepth 100000 in
set_option maxHeartbeats 4000000 in
theorem ngetText_any (A : Option Addr) (c B : Nat) (l : List UInt8) (w : World) (h : Byt w B (.slice A l.length c) l) (hl : l.length ≤ 1050000) :
    Calls Tryd.prog 96 #[.slice A l.length c] w (GotT (Nu.getT l) w) := by
  have hget := nget_any A c B l w h hl
  obtain ⟨A', c', hv, hc, hcell⟩ := h
  injection hv with e1 _ e2; subst e1; subst e2
  have hlen := Nu.get_len l
  have hpos := Nu.get_pos l
  have hT := getT_of l
  obtain ⟨r, hr⟩ : ∃ r, Nu.get l = r := ⟨_, rfl⟩
  rw [hr] at hget hlen hpos hT
  obtain ⟨rn, rk, re⟩ := r
  simp only at hlen hpos hT
  have HG := Lib.hid hget; clear hget
  have HCELL := Lib.hid hcell; clear hcell
  clear hr
  by_cases he : re = 0
  · subst he
    have hk1 := hpos rfl
    clear hpos
    simp only [ne_eq, not_true_eq_false, if_false] at hT
    by_cases hn0 : rn < 0
    · have h2 : Nu.getT l = ([], 0, 1) := by rw [hT, if_pos (.inl hn0)]
      have H2 := Lib.hid h2; clear h2 hT
      go_enter Tryd.func96, Tryd.ntmps96
      go_wp2_with fail
      refine HG.out.mono ?_
      rintro e w' ⟨rfl, rfl⟩
      go_wp2
      go_ret3
      exact gotT H2.out rfl rfl rfl
    · by_cases hn1 : 1048576 < rn
      · have h2 : Nu.getT l = ([], 0, 1) := by rw [hT, if_pos (.inr hn1)]
        have H2 := Lib.hid h2; clear h2 hT
        go_enter Tryd.func96, Tryd.ntmps96
        go_wp2_with fail
        refine HG.out.mono ?_
        rintro e w' ⟨rfl, rfl⟩
        go_wp2
        go_ret3
        exact gotT H2.out rfl rfl rfl
      · rw [if_neg (by omega)] at hT
        by_cases hm : (l.length : Int) - rk < rn
        · have h2 : Nu.getT l = ([], 0, 2) := by rw [hT, if_pos hm]
          have H2 := Lib.hid h2; clear h2 hT
          go_enter Tryd.func96, Tryd.ntmps96
          go_wp2_with fail
          refine HG.out.mono ?_
          rintro e w' ⟨rfl, rfl⟩
          go_wp2
          go_ret3
          exact gotT H2.out rfl rfl rfl
        · obtain ⟨n, rfl⟩ := Int.eq_ofNat_of_zero_le (show 0 ≤ rn by omega)
          have h2 : Nu.getT l = ((l.drop rk).take n, rk + n, 0) := by rw [hT, if_neg hm]; rfl
          have H2 := Lib.hid h2; clear h2 hT
          obtain ⟨g, o, rfl, hg, hcs⟩ := HCELL.out (by omega)
          have hkn : rk + n ≤ l.length := by omega
          by_cases hcap : c = rk
          · obtain rfl : n = 0 := by omega
            have kc := conv_zero w g o
            have HC := Lib.hid hcap; clear hcap hcs HCELL
            go_enter Tryd.func96, Tryd.ntmps96
            go_wp2_with fail
            refine HG.out.mono ?_
            rintro e w' ⟨rfl, rfl⟩
            go_wp2
            go_ret3
            exact gotT H2.out (by simp) (by omega) rfl
          · have kc := fun cap => conv_part w g o l rk n cap hkn hcs
            clear hcs HCELL
            go_enter Tryd.func96, Tryd.ntmps96
            go_wp2_with fail
            refine HG.out.mono ?_
            rintro e w' ⟨rfl, rfl⟩
            go_wp2
            go_ret3
            exact gotT H2.out rfl (by omega) rfl
  · have h2 : Nu.getT l = ([], 0, re) := by rw [hT, if_pos he]
    have H2 := Lib.hid h2; clear h2 hT
    have hne : ((re : Int) != 0) = true := by rw [bne_iff_ne]; omega
    have HE := Lib.hid he; clear he
    go_enter Tryd.func96, Tryd.ntmps96
    go_wp2_with fail
    refine HG.out.mono ?_
    rintro e w' ⟨rfl, rfl⟩
    go_wp2
    go_ret3
    exact gotT H2.out rfl rfl rfl
end Go.Proofs.YtbiecoifeeikpaaDoor
/-
  Rows of one's own: that they stand where nothing below has turned, and how their values are told.
  There are no conditions.
-/
set_option linter.unusedSimpArgs false
set_option linter.unusedVariables false
namespace Go.Proofs.YtbiecoifeeikpaaDoor
open Go.RowKit
set_option maxRecDepth 100000

theorem ownsRow_below {B e s n : Nat} {v : Value} {xs : List Value} {w w' : World} (h : w.ownsRow B e s v n xs) (hb : Below w.heap.size w w') : w'.ownsRow B e s v n xs := by
  have hlt := World.ownsRow.lt h
  refine ⟨h.1, ?_⟩
  rcases h.2 with h2 | ⟨g, c, cur, hv, hB, hg, r⟩
  · exact .inl h2
  · exact .inr ⟨g, c, cur, hv, hB, (hb.block g (by rw [hv] at hlt; exact (hlt g rfl).2)).trans hg, r⟩
theorem own_slice {B e s n : Nat} {v : Value} {xs : List Value} {w : World} (h : w.ownsRow B e s v n xs) : ∃ A c, v = .slice A n c := by
  rcases h.2 with ⟨rfl, rfl⟩ | ⟨g, c, cur, rfl, _⟩
  · exact ⟨none, 0, rfl⟩
  · exact ⟨_, c, rfl⟩
theorem ownsRow_down {B C e s n : Nat} {v : Value} {xs : List Value} {w : World} (h : w.ownsRow C e s v n xs) (hB : B ≤ C) : w.ownsRow B e s v n xs := by
  refine ⟨h.1, ?_⟩
  rcases h.2 with h2 | ⟨g, c, cur, hv, hb, r⟩
  · exact .inl h2
  · exact .inr ⟨g, c, cur, hv, Nat.le_trans hB hb, r⟩
theorem setCell_grown (w : World) (p : Addr) (v : Value) : w.grownBy (w.setCell p v) (some p.block) := ⟨rfl, rfl, rfl, by simp [World.setCell], fun k _ hk => Below.heap_setCell w _ _ k (fun e => hk (by rw [e]))⟩
/-- a store below the row leaves it -/
theorem ownsRow_set {B e s n : Nat} {v u : Value} {xs : List Value} {w : World} {p : Addr} (h : w.ownsRow B e s v n xs) (hp : p.block < B) : (w.setCell p u).ownsRow B e s v n xs :=
  World.ownsRow.kept h (setCell_grown w p u) (.inr (fun e => by have := (World.ownsRow.lt h _ e).1; omega))
end Go.Proofs.YtbiecoifeeikpaaDoor
/-
  The reference's records and snapshots: which may be; when two are the same.
  Integers are in their ranges; a text has at most 1,000,000 bytes.
-/
set_option linter.unusedSimpArgs false
set_option linter.unusedVariables false
namespace Go.Proofs.YtbiecoifeeikpaaDoor
open Go.RowKit
set_option maxRecDepth 100000

/-- an entry of a log -/
structure Ent where
  ix : Int
  et : Int
  kd : Int
  data : ByteArray
/-- a record -/
structure Rcd where
  hard : Bool
  ht : Int
  hv : Int
  e : Ent
/-- a snapshot -/
structure Snp where
  ix : Int
  st : Int
  conf : ByteArray
  data : ByteArray
def Ent.val (e : Ent) : Value := .agg #[.int .i64 e.ix, .int .i64 e.et, .int .i64 e.kd, .string e.data]
def Rcd.val (r : Rcd) : Value := .agg #[.bool r.hard, .int .i64 r.ht, .int .i64 r.hv, .int .i64 r.e.ix, .int .i64 r.e.et, .int .i64 r.e.kd, .string r.e.data]
def Snp.val (s : Snp) : Value := .agg #[.int .i64 s.ix, .int .i64 s.st, .string s.conf, .string s.data]
def mayHard10 (t v : Int) : Bool := decide (0 ≤ t) && decide (t ≤ 1099511627776) && decide (0 ≤ v) && decide (v ≤ 7)
def mayEnt10 (e : Ent) : Bool := decide (1 ≤ e.ix) && decide (e.ix ≤ 1099511627776) && decide (1 ≤ e.et) && decide (e.et ≤ 1099511627776) && decide (1 ≤ e.kd) && decide (e.kd ≤ 3) && decide (e.data.size ≤ 2500)
def maySnp10 (s : Snp) : Bool := decide (0 ≤ s.ix) && decide (s.ix ≤ 1099511627776) && decide (0 ≤ s.st) && decide (s.st ≤ 1099511627776) && decide (s.conf.size ≤ 50) && decide (s.data.size ≤ 200000)
def eqEnt10 (a b : Ent) : Bool := a.ix == b.ix && a.et == b.et && a.kd == b.kd && a.data.data.toList == b.data.data.toList
def eqSnp10 (a b : Snp) : Bool := a.ix == b.ix && a.st == b.st && a.conf.data.toList == b.conf.data.toList && a.data.data.toList == b.data.data.toList
def noEnt : Ent := ⟨0, 0, 0, ByteArray.empty⟩
def may10 (r : Rcd) : Bool := if r.hard then mayHard10 r.ht r.hv && eqEnt10 r.e noEnt else r.ht == 0 && r.hv == 0 && mayEnt10 r.e
def eq10 (a b : Rcd) : Bool := (a.hard == b.hard) && a.ht == b.ht && a.hv == b.hv && eqEnt10 a.e b.e
set_option maxHeartbeats 1050000 in
theorem rmayEntry_any (e : Ent) (w : World) (hs : e.data.size ≤ 1050000) : Calls Tryd.prog 22 #[e.val] w (Bl (mayEnt10 e) w) := by
  obtain ⟨ix, et, kd, dt⟩ := e
  simp only at hs
  unfold Ent.val
  go_enter Tryd.func22, Tryd.ntmps22
  go_wp2
  all_goals (go_ret; refine ⟨ret_bool ?_, below_one _ _⟩)
  all_goals (unfold mayEnt10; rw [Bool.eq_iff_iff]; simp only [Bool.and_eq_true, decide_eq_true_eq, Bool.false_eq_true, false_iff]; omega)
set_option maxHeartbeats 1050000 in
theorem reqEntry_any (a b : Ent) (w : World) : Calls Tryd.prog 55 #[a.val, b.val] w (Bl (eqEnt10 a b) w) := by
  obtain ⟨ai, at1, ak, ad⟩ := a
  obtain ⟨bi, bt1, bk, bd⟩ := b
  unfold Ent.val
  go_enter Tryd.func55, Tryd.ntmps55
  go_wp2
  all_goals (go_ret; refine ⟨ret_bool ?_, below_two _ _ _⟩)
  all_goals (unfold eqEnt10; simp_all [ByteArray.toList_eq])
set_option maxHeartbeats 1050000 in
theorem reqSnap_any (a b : Snp) (w : World) : Calls Tryd.prog 35 #[a.val, b.val] w (Bl (eqSnp10 a b) w) := by
  obtain ⟨ai, at1, ak, ad⟩ := a
  obtain ⟨bi, bt1, bk, bd⟩ := b
  unfold Snp.val
  go_enter Tryd.func35, Tryd.ntmps35
  go_wp2
  all_goals (go_ret; refine ⟨ret_bool ?_, below_two _ _ _⟩)
  all_goals (unfold eqSnp10; simp_all [ByteArray.toList_eq])
theorem new_cell10 {w : World} {cs : Array Value} {ty : TypeId} {j : Nat} {v : Value} (h : cs[j]? = some v) : (w.alloc (.cells cs ty)).cell? ⟨w.heap.size, j, none⟩ = some v := by
  rw [cell_of_row _ _ j _ _ _ (heap_alloc_new _ _)]; exact h
end Go.Proofs.YtbiecoifeeikpaaDoor
/-
  Package wal's tests on what may be: a Hard, an entry, a record, a snapshot's head.
  Integers are in their ranges; a text has at most 1,000,000 bytes.
-/
set_option linter.unusedSimpArgs false
set_option linter.unusedVariables false
namespace Go.Proofs.YtbiecoifeeikpaaDoor
open Go.RowKit
set_option maxRecDepth 100000

def mayHead10 (s : Snp) (n : Int) : Bool := decide (0 ≤ s.ix) && decide (s.ix ≤ 1099511627776) && decide (0 ≤ s.st) && decide (s.st ≤ 1099511627776) && decide (s.conf.size ≤ 50) && (decide (0 ≤ n) && decide (n ≤ 200000))
theorem within64 (n a b : Int) (w : World) : Calls Tryd.prog 82 #[.int .i64 n, .int .i64 a, .int .i64 b] w fun e w' => e = .returned (.bool (decide (a ≤ n) && decide (n ≤ b))) ∧ w' = w := by
  go_enter Tryd.func82, Tryd.ntmps82
  go_wp2
  all_goals (go_ret; refine ⟨ret_bool ?_, rfl⟩)
  all_goals (rw [Bool.eq_iff_iff]; simp only [Bool.and_eq_true, decide_eq_true_eq, Bool.false_eq_true, false_iff]; omega)
theorem withinInt (n a b : Int) (w : World) : Calls Tryd.prog 83 #[.int .i64 n, .int .i64 a, .int .i64 b] w fun e w' => e = .returned (.bool (decide (a ≤ n) && decide (n ≤ b))) ∧ w' = w := by
  go_enter Tryd.func83, Tryd.ntmps83
  go_wp2
  all_goals (go_ret; refine ⟨ret_bool ?_, rfl⟩)
  all_goals (rw [Bool.eq_iff_iff]; simp only [Bool.and_eq_true, decide_eq_true_eq, Bool.false_eq_true, false_iff]; omega)
theorem within64_is (n a b : Int) (x : Bool) (w : World) (h : (decide (a ≤ n) && decide (n ≤ b)) = x) : Calls Tryd.prog 82 #[.int .i64 n, .int .i64 a, .int .i64 b] w fun e w' => e = .returned (.bool x) ∧ w' = w := by
  rw [← h]; exact within64 n a b w
theorem withinInt_is (n a b : Int) (x : Bool) (w : World) (h : (decide (a ≤ n) && decide (n ≤ b)) = x) : Calls Tryd.prog 83 #[.int .i64 n, .int .i64 a, .int .i64 b] w fun e w' => e = .returned (.bool x) ∧ w' = w := by
  rw [← h]; exact withinInt n a b w
theorem wmayHard (t v : Int) (w : World) : Calls Tryd.prog 72 #[.agg #[.int .i64 t, .int .i64 v]] w (Bl (mayHard10 t v) w) := by
  obtain ⟨x, hx⟩ : ∃ x, (decide (0 ≤ t) && decide (t ≤ 1099511627776)) = x := ⟨_, rfl⟩
  obtain ⟨y, hy⟩ : ∃ y, (decide (0 ≤ v) && decide (v ≤ 7)) = y := ⟨_, rfl⟩
  have hm : mayHard10 t v = (x && y) := by rw [← hx, ← hy]; unfold mayHard10; cases decide (0 ≤ t) <;> cases decide (t ≤ 1099511627776) <;> cases decide (0 ≤ v) <;> cases decide (v ≤ 7) <;> rfl
  rw [hm]
  have HX := Lib.hid hx; have HY := Lib.hid hy
  clear hx hy hm
  go_enter Tryd.func72, Tryd.ntmps72
  cases x with
  | false =>
    go_wp2_with (go_at_call 82; refine (within64_is _ _ _ _ _ HX.out).mono ?_; rintro e w' ⟨rfl, rfl⟩)
    go_ret
    exact ⟨rfl, below_one _ _⟩
  | true =>
    go_wp2_with (first | (go_at_call 82; refine (within64_is _ _ _ _ _ HX.out).mono ?_; rintro e w' ⟨rfl, rfl⟩) | (go_at_call 83; refine (withinInt_is _ _ _ _ _ HY.out).mono ?_; rintro e w' ⟨rfl, rfl⟩))
    go_ret
    exact ⟨rfl, below_one _ _⟩
set_option maxHeartbeats 1050000 in
theorem wmayEntry (e : Ent) (w : World) (hs : e.data.size ≤ 1050000) : Calls Tryd.prog 73 #[e.val] w (Bl (mayEnt10 e) w) := by
  obtain ⟨ix, et, kd, dt⟩ := e
  simp only at hs
  obtain ⟨x, hx⟩ : ∃ x, (decide (1 ≤ ix) && decide (ix ≤ 1099511627776)) = x := ⟨_, rfl⟩
  obtain ⟨y, hy⟩ : ∃ y, (decide (1 ≤ et) && decide (et ≤ 1099511627776)) = y := ⟨_, rfl⟩
  obtain ⟨z, hz⟩ : ∃ z, (decide (1 ≤ kd) && decide (kd ≤ 3)) = z := ⟨_, rfl⟩
  have hm : mayEnt10 ⟨ix, et, kd, dt⟩ = (x && (y && (z && decide (dt.size ≤ 2500)))) := by
    rw [← hx, ← hy, ← hz]; unfold mayEnt10; simp only [Bool.and_assoc]
  rw [hm]
  unfold Ent.val
  have HX := Lib.hid hx; have HY := Lib.hid hy; have HZ := Lib.hid hz
  clear hx hy hz hm
  go_enter Tryd.func73, Tryd.ntmps73
  cases x with
  | false =>
    go_wp2_with fail
    refine (within64_is _ _ _ _ _ HX.out).mono ?_
    rintro e w' ⟨rfl, rfl⟩
    go_wp2
    go_ret
    exact ⟨rfl, below_one _ _⟩
  | true =>
    go_wp2_with fail
    refine (within64_is _ _ _ _ _ HX.out).mono ?_
    rintro e w' ⟨rfl, rfl⟩
    cases y with
    | false =>
      go_wp2_with fail
      refine (within64_is _ _ _ _ _ HY.out).mono ?_
      rintro e w' ⟨rfl, rfl⟩
      go_wp2
      go_ret
      exact ⟨rfl, below_one _ _⟩
    | true =>
      go_wp2_with fail
      refine (within64_is _ _ _ _ _ HY.out).mono ?_
      rintro e w' ⟨rfl, rfl⟩
      cases z with
      | false =>
        go_wp2_with fail
        refine (withinInt_is _ _ _ _ _ HZ.out).mono ?_
        rintro e w' ⟨rfl, rfl⟩
        go_wp2
        go_ret
        exact ⟨rfl, below_one _ _⟩
      | true =>
        go_wp2_with fail
        refine (withinInt_is _ _ _ _ _ HZ.out).mono ?_
        rintro e w' ⟨rfl, rfl⟩
        go_wp2
        go_ret
        refine ⟨ret_bool ?_, below_one _ _⟩
        rw [Bool.eq_iff_iff]; simp only [Bool.and_eq_true, decide_eq_true_eq, true_and]; omega
set_option maxHeartbeats 1050000 in
theorem wmayHead (s : Snp) (n : Int) (w : World) (hc : s.conf.size ≤ 1050000) : Calls Tryd.prog 63 #[s.val, .int .i64 n] w (Bl (mayHead10 s n) w) := by
  obtain ⟨ix, et, cf, dt⟩ := s
  simp only at hc
  obtain ⟨x, hx⟩ : ∃ x, (decide (0 ≤ ix) && decide (ix ≤ 1099511627776)) = x := ⟨_, rfl⟩
  obtain ⟨y, hy⟩ : ∃ y, (decide (0 ≤ et) && decide (et ≤ 1099511627776)) = y := ⟨_, rfl⟩
  obtain ⟨z, hz⟩ : ∃ z, (decide (0 ≤ n) && decide (n ≤ 200000)) = z := ⟨_, rfl⟩
  have hm : mayHead10 ⟨ix, et, cf, dt⟩ n = (x && (y && (decide (cf.size ≤ 50) && z))) := by
    rw [← hx, ← hy, ← hz]; unfold mayHead10; simp only [Bool.and_assoc]
  rw [hm]
  unfold Snp.val
  have HX := Lib.hid hx; have HY := Lib.hid hy; have HZ := Lib.hid hz
  clear hx hy hz hm
  go_enter Tryd.func63, Tryd.ntmps63
  cases x with
  | false =>
    go_wp2_with fail
    refine (within64_is _ _ _ _ _ HX.out).mono ?_
    rintro e w' ⟨rfl, rfl⟩
    go_wp2
    go_ret
    exact ⟨rfl, below_one _ _⟩
  | true =>
    go_wp2_with fail
    refine (within64_is _ _ _ _ _ HX.out).mono ?_
    rintro e w' ⟨rfl, rfl⟩
    cases y with
    | false =>
      go_wp2_with fail
      refine (within64_is _ _ _ _ _ HY.out).mono ?_
      rintro e w' ⟨rfl, rfl⟩
      go_wp2
      go_ret
      exact ⟨rfl, below_one _ _⟩
    | true =>
      go_wp2_with fail
      refine (within64_is _ _ _ _ _ HY.out).mono ?_
      rintro e w' ⟨rfl, rfl⟩
      by_cases h50 : cf.size ≤ 50
      · have h5i : (cf.size : Int) ≤ 50 := by omega
        have hd : decide (cf.size ≤ 50) = true := by simp; omega
        rw [hd]
        clear hd
        go_wp2_with fail
        refine (withinInt_is _ _ _ _ _ HZ.out).mono ?_
        rintro e w' ⟨rfl, rfl⟩
        go_wp2
        go_ret
        refine ⟨ret_bool ?_, below_one _ _⟩
        simp
        intro _
        omega
      · have h5i : 50 < (cf.size : Int) := by omega
        have hd : decide (cf.size ≤ 50) = false := by simp; omega
        rw [hd]
        clear hd
        go_wp2
        go_ret
        exact ⟨rfl, below_one _ _⟩
set_option maxHeartbeats 1050000 in
theorem wmay10_any (r : Rcd) (w : World) (hs : r.e.data.size ≤ 1050000) : Calls Tryd.prog 50 #[r.val] w (Bl (may10 r) w) := by
  obtain ⟨hd, ht, hv, ⟨ix, et, kd, dt⟩⟩ := r
  simp only at hs
  unfold Rcd.val may10
  simp only
  obtain ⟨W0, hW0⟩ : ∃ W0, w.alloc (.cells #[.bool hd, .int .i64 ht, .int .i64 hv, .int .i64 ix, .int .i64 et, .int .i64 kd, .string dt] 76) = W0 := ⟨_, rfl⟩
  have hb : Below w.heap.size w W0 := by rw [← hW0]; exact below_one _ _
  have hlt : w.heap.size < W0.heap.size := by rw [← hW0]; simp
  have d0 : W0.cell? ⟨w.heap.size, 0, none⟩ = some (.bool hd) := by rw [← hW0]; exact new_cell10 rfl
  have d1 : W0.cell? ⟨w.heap.size, 1, none⟩ = some (.int .i64 ht) := by rw [← hW0]; exact new_cell10 rfl
  have d2 : W0.cell? ⟨w.heap.size, 2, none⟩ = some (.int .i64 hv) := by rw [← hW0]; exact new_cell10 rfl
  have d3 : W0.cell? ⟨w.heap.size, 3, none⟩ = some (.int .i64 ix) := by rw [← hW0]; exact new_cell10 rfl
  have d4 : W0.cell? ⟨w.heap.size, 4, none⟩ = some (.int .i64 et) := by rw [← hW0]; exact new_cell10 rfl
  have d5 : W0.cell? ⟨w.heap.size, 5, none⟩ = some (.int .i64 kd) := by rw [← hW0]; exact new_cell10 rfl
  have d6 : W0.cell? ⟨w.heap.size, 6, none⟩ = some (.string dt) := by rw [← hW0]; exact new_cell10 rfl
  cases hd with
  | true =>
    obtain ⟨x, hx⟩ : ∃ x, mayHard10 ht hv = x := ⟨_, rfl⟩
    have hmay := fun W => wmayHard ht hv W
    rw [if_pos rfl, hx]
    rw [hx] at hmay
    clear hx
    go_enter Tryd.func50, Tryd.ntmps50
    go_wp2_with fail
    refine (hmay _).mono ?_
    rintro e k1 ⟨rfl, hb1⟩
    have e3 := (hb1.cell (p := ⟨w.heap.size, 3, none⟩) hlt).trans d3
    have e4 := (hb1.cell (p := ⟨w.heap.size, 4, none⟩) hlt).trans d4
    have e5 := (hb1.cell (p := ⟨w.heap.size, 5, none⟩) hlt).trans d5
    have e6 := (hb1.cell (p := ⟨w.heap.size, 6, none⟩) hlt).trans d6
    have HB1 := Lib.hid (hb.trans (hb1.mono hb.size))
    clear hb1 hb hlt hW0 d0 d1 d2 d3 d4 d5 d6 hmay
    cases x with
    | false =>
      go_wp2
      go_ret
      exact ⟨rfl, HB1.out⟩
    | true =>
      go_wp2
      all_goals (go_ret; refine ⟨ret_bool ?_, HB1.out⟩)
      all_goals (unfold eqEnt10 noEnt; simp_all [ByteArray.toList_eq])
  | false =>
    obtain ⟨x, hx⟩ : ∃ x, mayEnt10 ⟨ix, et, kd, dt⟩ = x := ⟨_, rfl⟩
    have hmay := fun W => wmayEntry ⟨ix, et, kd, dt⟩ W hs
    rw [if_neg (by simp), hx]
    rw [hx] at hmay
    clear hx
    go_enter Tryd.func50, Tryd.ntmps50
    go_wp2_with fail
    refine (hmay _).mono ?_
    rintro e k1 ⟨rfl, hb1⟩
    have e1 := (hb1.cell (p := ⟨w.heap.size, 1, none⟩) hlt).trans d1
    have e2 := (hb1.cell (p := ⟨w.heap.size, 2, none⟩) hlt).trans d2
    have HB1 := Lib.hid (hb.trans (hb1.mono hb.size))
    clear hb1 hb hlt hW0 d0 d1 d2 d3 d4 d5 d6 hmay
    cases x with
    | false =>
      go_wp2
      go_ret
      exact ⟨by simp, HB1.out⟩
    | true =>
      go_wp2
      all_goals (go_ret; refine ⟨ret_bool ?_, HB1.out⟩)
      all_goals simp_all
end Go.Proofs.YtbiecoifeeikpaaDoor
/-
  The reference's Encode of a record makes what the plain function says, in new memory.
  A text has at most 1,000,000 bytes.
-/
set_option linter.unusedSimpArgs false
set_option linter.unusedVariables false
namespace Go.Proofs.YtbiecoifeeikpaaDoor
open Go.RowKit
set_option maxRecDepth 100000

def bodyE10 (e : Ent) : List UInt8 := Nu.put e.ix ++ (Nu.put e.et ++ (Nu.put e.kd ++ Nu.putT e.data.data.toList))
def encR10 (r : Rcd) : List UInt8 := if may10 r = false then [] else if r.hard then sealB 1 (Nu.put r.ht ++ Nu.put r.hv) else sealB 2 (bodyE10 r.e)
theorem mayHard10_is {t v : Int} (h : mayHard10 t v = true) : 0 ≤ t ∧ t ≤ 1099511627776 ∧ 0 ≤ v ∧ v ≤ 7 := by
  unfold mayHard10 at h; simp only [Bool.and_eq_true, decide_eq_true_eq] at h; omega
theorem mayEnt10_is {e : Ent} (h : mayEnt10 e = true) : 1 ≤ e.ix ∧ e.ix ≤ 1099511627776 ∧ 1 ≤ e.et ∧ e.et ≤ 1099511627776 ∧ 1 ≤ e.kd ∧ e.kd ≤ 3 ∧ e.data.size ≤ 2500 := by
  unfold mayEnt10 at h; simp only [Bool.and_eq_true, decide_eq_true_eq] at h; omega
end Go.Proofs.YtbiecoifeeikpaaDoor
/-
  The reference's PutSnap makes what the plain function says, in new memory.
  Texts have at most 1,000,000 bytes.
-/
set_option linter.unusedSimpArgs false
set_option linter.unusedVariables false
namespace Go.Proofs.YtbiecoifeeikpaaDoor
open Go.RowKit
set_option maxRecDepth 100000

def headS10 (s : Snp) : List UInt8 := sealB 3 (Nu.put s.ix ++ (Nu.put s.st ++ (Nu.putT s.conf.data.toList ++ Nu.put (s.data.size : Int))))
/-- the first k pieces -/
def pieces10 (l : List UInt8) (k : Nat) : List UInt8 := (List.range k).flatMap fun i => sealB 4 ((l.drop (3000 * i)).take 3000)
def snapB10 (s : Snp) : List UInt8 := if maySnp10 s = false then [] else headS10 s ++ pieces10 s.data.data.toList ((s.data.size + 2999) / 3000)
theorem pieces10_more (l : List UInt8) (k : Nat) : pieces10 l (k + 1) = pieces10 l k ++ sealB 4 ((l.drop (3000 * k)).take 3000) := by
  unfold pieces10; rw [List.range_succ, List.flatMap_append]; simp
theorem seal_len (k : Int) (l : List UInt8) : (sealB k l).length ≤ l.length + 15 := by
  unfold sealB
  split
  · exact Nat.zero_le _
  · have := Nu.put_len (l.length : Int)
    simp only [List.length_append, headB, fourB, List.length_cons, List.length_nil]; omega
theorem pieces10_len (l : List UInt8) (k : Nat) : (pieces10 l k).length ≤ k * 3015 := by
  induction k with
  | zero => exact Nat.le_refl _
  | succ k ih =>
    rw [pieces10_more, List.length_append]
    have := seal_len 4 ((l.drop (3000 * k)).take 3000)
    have h2 : ((l.drop (3000 * k)).take 3000).length ≤ 3000 := by rw [List.length_take]; omega
    omega
theorem size_list10 (s : ByteArray) : s.data.toList.length = s.size := by rw [Array.length_toList]; rfl
theorem conv_text10 (W : World) (s : ByteArray) : ∃ c W', (convert 9 46 (.string s)).run Tryd.prog W = .ok (.slice (some ⟨W.heap.size, 0, none⟩) s.size c) W' ∧ Byt W' W'.heap.size (.slice (some ⟨W.heap.size, 0, none⟩) s.size c) s.data.toList ∧ Below W.heap.size W W' ∧ W'.heap.size = W.heap.size + 1 := by
  refine ⟨_, _, Go.Lib.run_convert_string_bytes W _ _ _ s Tryd.underlying9 Tryd.underlying46 Tryd.underlying5, ?_, ?_, Go.Lib.bytesWorld_size _ _ _⟩
  · refine ⟨_, _, by rw [size_list10], ?_, fun _ => ⟨W.heap.size, 0, rfl, by rw [Go.Lib.bytesWorld_size]; omega, fun j hj => ?_⟩⟩
    · exact grownCap_ge _ _ _ _
    · have h := Go.Lib.bytesWorld_cell W 5 s j (by rw [← size_list10]; exact hj)
      rw [Nat.zero_add, h]
      simp only [List.getD_eq_getElem?_getD, List.getElem?_eq_getElem hj, Option.getD_some]
  · exact ⟨rfl, rfl, rfl, by rw [Go.Lib.bytesWorld_size]; omega, fun k hk => Go.Lib.bytesWorld_at_old W _ s k hk⟩
theorem ext_list10 (s : ByteArray) (a b : Nat) : (s.extract a b).data.toList = (s.data.toList.drop a).take (b - a) := by
  simp [ByteArray.data_extract, List.extract_eq_take_drop]
theorem maySnp10_is {s : Snp} (h : maySnp10 s = true) : 0 ≤ s.ix ∧ s.ix ≤ 1099511627776 ∧ 0 ≤ s.st ∧ s.st ≤ 1099511627776 ∧ s.conf.size ≤ 50 ∧ s.data.size ≤ 200000 := by
  unfold maySnp10 at h; simp only [Bool.and_eq_true, decide_eq_true_eq] at h; omega
end Go.Proofs.YtbiecoifeeikpaaDoor
/-
  Package num's add writes a number behind a row that the caller owns.
  The row is shorter than the model's bound on what append makes.
-/
set_option linter.unusedSimpArgs false
set_option linter.unusedVariables false
namespace Go.Proofs.YtbiecoifeeikpaaDoor
open Go.RowKit
set_option maxRecDepth 100000

/-- a row among the blocks from B on, behind a call that turned nothing below B -/
def Onto (B : Nat) (m : List UInt8) (w : World) (e : Ending) (w' : World) : Prop := ∃ v, e = .returned v ∧ OwnB B v m w' ∧ Below B w w'
set_option maxRecDepth 100000 in
theorem u8_or128 (u : Nat) : bits BinOp.or IntKind.u8 ((u : Int) % 256) 128 = ((u % 128 + 128 : Nat) : Int) := by
  have e : ((u : Int) % 256) = ((u % 256 : Nat) : Int) := by omega
  rw [e, show (128 : Int) = ((128 : Nat) : Int) from rfl, u8_or_nat _ _ (by omega) (by omega)]
  congr 1
  have h2 : ∀ x, x < 256 → x ||| 128 = x % 128 + 128 := by decide
  rw [h2 _ (by omega)]; omega
set_option maxRecDepth 100000 in
set_option maxHeartbeats 4000000 in
theorem nadd_any (v : Value) (B : Nat) (l : List UInt8) (n : Int) (w : World) (hown : OwnB B v l w) (hB : B ≤ w.heap.size) (hl : l.length ≤ 70368744177664) (h0 : -9223372036854775808 ≤ n) (h1 : n ≤ 9223372036854775807) :
    Calls Tryd.prog 86 #[v, .int .i64 n] w (Onto B (l ++ Nu.put n) w) := by
  have hst := rest_start n h0 h1
  have HST := Lib.hid hst; clear hst
  go_enter Tryd.func86, Tryd.ntmps86
  go_wp2_with (go_at_call 100; refine (nunsigned_any n w h0 h1).mono ?_; rintro e w1 ⟨rfl, rfl⟩)
  go_loopw [0, 5] (fun s v wr => ∃ (u f : Nat) (done : List UInt8), v = .int .u64 u ∧ u < 18446744073709551616 ∧ OwnB B s (l ++ done) wr ∧ Below B w wr ∧ done.length ≤ 10 ∧ Rest n f u done) (fun _ v _ => (intOf v).toNat)
  case atStart =>
    exact ⟨Nu.zz n, 10, [], rfl, Nu.zz_lt n h0 h1, by rw [List.append_nil]; exact hown, Below.refl _ _, by simp, HST.out⟩
  case round =>
    obtain ⟨u, f, done, rfl, hu64, hown1, hbw, hd, hrest⟩ := hrel
    have HR := Lib.hid hrest; clear hrest hown HST
    have hBr := Nat.le_trans hB hbw.size
    by_cases hu : u < 128
    · obtain ⟨cb, hcb⟩ : ∃ c : UInt8, u.toUInt8 = c := ⟨_, rfl⟩
      have HCB := Lib.hid hcb; clear hcb
      have hw : (u : Int) % 256 = (u : Int) := by omega
      have hB1 : B ≤ (wr.alloc (.cells #[.int .u8 (u : Int)] 5)).heap.size := by simp; omega
      go_wp2_with (at_builtin; refine wpList_append_byt rfl _ _ rfl B _ _ _ _ _ rfl (hown1.alloc _) rfl (byt_new1 wr _ _ cb ?c1) ?c2 hB1 ?_)
      case c1 => rw [← HCB.out, Nu.u8n u (by omega)]
      case c2 => simp; omega
      intro v2 w2 hown2 hb2
      have hb := (hbw.alloc hBr (.cells #[.int .u8 (u : Int)] 5)).trans hb2
      clear hb2
      go_wp2
      go_ret
      refine ⟨v2, rfl, ?_, hb⟩
      rw [← rest_end' n f u done HR.out hu, HCB.out, ← List.append_assoc]; simpa using hown2
    · obtain ⟨cb, hcb⟩ : ∃ c : UInt8, (u % 128 + 128).toUInt8 = c := ⟨_, rfl⟩
      have HCB := Lib.hid hcb; clear hcb
      have hor := u8_or128 u
      have hB1 : B ≤ (wr.alloc (.cells #[.int .u8 ((u % 128 + 128 : Nat) : Int)] 5)).heap.size := by simp; omega
      go_wp2_with (at_builtin; refine wpList_append_byt rfl _ _ rfl B _ _ _ _ _ rfl (hown1.alloc _) rfl (byt_new1 wr _ _ cb ?c1) ?c2 hB1 ?_)
      case c1 => rw [← HCB.out, Nu.u8n _ (by omega)]; first | rfl | omega
      case c2 => simp; omega
      intro v2 w2 hown2 hb2
      have hb := (hbw.alloc hBr (.cells #[.int .u8 ((u % 128 + 128 : Nat) : Int)] 5)).trans hb2
      clear hb2
      go_wp2
      go_roundw
      case rel =>
        obtain ⟨g, rfl, hr2⟩ := rest_more n f u done HR.out hu
        refine ⟨u / 128, g, done ++ [(u % 128 + 128).toUInt8], by simp, by omega, ?_, hb, by have := hr2.2.2.2; omega, hr2⟩
        rw [HCB.out, ← List.append_assoc]; simpa using hown2
      case measure => simp [intOf]; omega
end Go.Proofs.YtbiecoifeeikpaaDoor
/-
  Package num's copyOf makes a new row of the same bytes.
  The bytes are there in memory; they and the room are no more than the model's bound on what is made.
-/
set_option linter.unusedSimpArgs false
set_option linter.unusedVariables false
namespace Go.Proofs.YtbiecoifeeikpaaDoor
open Go.RowKit
set_option maxRecDepth 100000

set_option maxRecDepth 100000 in
set_option maxHeartbeats 4000000 in
theorem ncopyOf_any (u : Value) (B n : Nat) (l : List UInt8) (w : World) (h : Byt w B u l) (hl : l.length + n ≤ 140737488355328) (hB : B ≤ w.heap.size) :
    Calls Tryd.prog 87 #[u, .int .i64 n] w (Made l w) := by
  obtain ⟨iR, hiR, hzR0, hzR1, hzR2⟩ := info_parts Tryd.infoU8
  obtain ⟨A, c, rfl, hrest⟩ := id h
  have HH := Lib.hid h; clear h hrest
  go_enter Tryd.func87, Tryd.ntmps87
  go_wp2_with (at_make; refine wpList_make_own w rfl _ _ 46 rfl w.heap.size 5 iR (.int .u8 0) 1 Tryd.underlying46 hiR hzR0 hzR1 .i64 .i64 ((l.length : Int) + (n : Int)) (l.length + n) rfl rfl (by omega) ?c0 ?c1 (Nat.le_refl _) ?_)
  case c0 => rw [hzR2]; omega
  case c1 => unfold maxLen; omega
  intro w1 hown1 hg1
  have hb1 := (Below.refl w.heap.size w).grown hg1 (Nat.le_refl _) (fun g hg => by cases hg)
  clear hg1
  have hu := HH.out.below hb1 hB
  have hown : OwnB w.heap.size _ [] w1 := hown1
  have HU := Lib.hid hu; clear hu
  go_wp2_with (at_builtin; refine wpList_append_byt rfl _ _ rfl w.heap.size _ _ _ _ _ rfl hown rfl HU.out ?c2 hb1.size ?_)
  case c2 => simp; omega
  intro v2 w2 hown2 hb2
  have hb := hb1.trans hb2
  clear hown hown1 HU
  go_wp2
  go_ret
  exact ⟨v2, rfl, by simpa using hown2, hb⟩
end Go.Proofs.YtbiecoifeeikpaaDoor
/-
  Package num's PutText writes the bytes that come in, and a text's length and its bytes behind them, in new memory.
  The bytes are there in memory; they and the text are shorter than the model's bound on what append makes.
-/
set_option linter.unusedSimpArgs false
set_option linter.unusedVariables false
namespace Go.Proofs.YtbiecoifeeikpaaDoor
open Go.RowKit
set_option maxRecDepth 100000

set_option maxRecDepth 100000 in
set_option maxHeartbeats 4000000 in
theorem nputText_any (u : Value) (B : Nat) (l : List UInt8) (s : ByteArray) (w : World) (h : Byt w B u l) (hl : l.length ≤ 17592186044416) (hs : s.size ≤ 17592186044416) (hB : B ≤ w.heap.size) :
    Calls Tryd.prog 76 #[u, .string s] w (Made (l ++ Nu.putT s.data.toList) w) := by
  obtain ⟨m, hm⟩ : ∃ m : Nat, (10 : Int) + (s.size : Int) = (m : Int) := ⟨10 + s.size, by omega⟩
  have hpl := Nu.put_len (s.size : Int)
  have hA : l.length + m ≤ 140737488355328 := by omega
  have hA2 : l.length ≤ 70368744177664 := by omega
  have hs0 : -9223372036854775808 ≤ (s.size : Int) := by omega
  have hs1 : (s.size : Int) ≤ 9223372036854775807 := by omega
  go_enter Tryd.func76, Tryd.ntmps76
  go_wp2_with fail
  refine (ncopyOf_any u B m l w h hA hB).mono ?_
  rintro e w1 ⟨v1, rfl, hown1, hb1⟩
  go_wp2_with fail
  refine (nadd_any v1 w.heap.size l (s.size : Int) w1 hown1 hb1.size hA2 hs0 hs1).mono ?_
  rintro e w2 ⟨v2, rfl, hown2, hb2⟩
  have hb := hb1.trans hb2
  clear hb1 hb2 hown1
  go_wp2_with (at_builtin; refine wpList_append_text rfl _ _ rfl w.heap.size _ _ _ rfl hown2 rfl ?c2 hb.size ?_)
  case c2 => simp; omega
  intro v3 w3 hown3 hb3
  have hc := hb.trans hb3
  clear hb hb3 hown2
  go_wp2
  go_ret
  refine ⟨v3, rfl, ?_, hc⟩
  unfold Nu.putT
  rw [show (s.data.toList.length : Int) = (s.size : Int) by rw [Array.length_toList]; rfl]; simpa using hown3
end Go.Proofs.YtbiecoifeeikpaaDoor
/-
  Package crc's More and Sum reckon sums as the plain function does.
  The bytes are there in memory, and the package's table as it was laid.
-/
set_option linter.unusedSimpArgs false
set_option linter.unusedVariables false
namespace Go.Proofs.YtbiecoifeeikpaaDoor
open Go.RowKit
set_option maxRecDepth 100000

set_option maxHeartbeats 2000000 in
theorem cmore_any (A : Option Addr) (c B s : Nat) (l : List UInt8) (w : World) (h : Byt w B (.slice A l.length c) l) (hT : Tbl w) (hs : s < 4294967296) (hl : l.length ≤ 1050000) : Calls Tryd.prog 89 #[.int .u32 s, .slice A l.length c] w (Num32 (crcMore s l) w) := by
  obtain ⟨A', c', hv, hc, hcell⟩ := h
  injection hv with e1 _ e2; subst e1; subst e2
  have HC := Lib.hid hcell; clear hcell
  have HT := Lib.hid hT; clear hT
  have hn0 := u32_not s hs
  obtain ⟨s0, hs0⟩ : ∃ s0, 4294967295 - s = s0 := ⟨_, rfl⟩
  have hmore : crcMore s l = 4294967295 - crcL s0 l := by rw [← hs0]; rfl
  have hs1 : s0 < 4294967296 := by omega
  rw [hs0] at hn0
  have HM := Lib.hid hmore
  clear hmore hs0
  go_enter Tryd.func89, Tryd.ntmps89
  go_wp2
  have HN := Lib.hid hn0; clear hn0
  go_loop [5, 12] (fun v i => ∃ cn k : Nat, v = .int .u32 cn ∧ i = .int .i64 k ∧ k ≤ l.length ∧ cn < 4294967296 ∧ crcL cn (l.drop k) = crcL s0 l) (fun _ i => l.length - (intOf i).toNat)
  case atStart => exact ⟨s0, 0, rfl, rfl, by omega, hs1, rfl⟩
  case round =>
    obtain ⟨cn, k, rfl, rfl, hk, hcn, hcr⟩ := hrel
    have HCR := Lib.hid hcr; clear hcr
    by_cases hlt : k < l.length
    · obtain ⟨g, o, rfl, hg, hcs⟩ := HC.out (by omega)
      have hc1 := hcs k hlt
      obtain ⟨x, hx⟩ : ∃ x, l[k] = x := ⟨_, rfl⟩
      rw [hx] at hc1
      have hb := x.toNat_lt
      have hst : crcL cn (l.drop k) = crcL (crcBits 8 (cn ^^^ x.toNat)) (l.drop (k + 1)) := by rw [List.drop_eq_getElem_cons hlt, hx]; rfl
      have hxl := crcX_lt cn x hcn
      have hbx : bits BinOp.xor IntKind.u32 (cn : Int) (x.toNat : Int) = ((cn ^^^ x.toNat : Nat) : Int) := u32_xor_nat _ _ hcn (by omega)
      obtain ⟨m, hm⟩ : ∃ m, cn ^^^ x.toNat = m := ⟨_, rfl⟩
      rw [hm] at hst hxl hbx
      obtain ⟨q, hq⟩ : ∃ q, m % 16 = q := ⟨_, rfl⟩
      have hq16 : q < 16 := by omega
      obtain ⟨tq, htq⟩ : ∃ tq, crcTab.getD q 0 = tq := ⟨_, rfl⟩
      have htl : tq < 4294967296 := by rw [← htq]; exact crcTab_lt q hq16
      have hand : bits BinOp.and IntKind.u32 (m : Int) 15 = (q : Int) := by
        have := u32_and_nat m 15 hxl (by omega)
        rw [show (15 : Nat) = 2 ^ 4 - 1 from rfl, Nat.and_two_pow_sub_one_eq_mod, show (2 : Nat) ^ 4 = 16 from rfl, hq] at this
        exact this
      have hcq := HT.out q hq16
      rw [htq] at hcq
      have hb4 : crcBits 4 m = m / 16 ^^^ tq := by rw [crcBits_at m q hq, htq]
      have hx4 : bits BinOp.xor IntKind.u32 ((m : Int) / 16) (tq : Int) = ((m / 16 ^^^ tq : Nat) : Int) := by
        have := u32_xor_nat (m / 16) tq (by omega) htl
        rw [← this]; congr 1
      obtain ⟨n, hn⟩ : ∃ n, m / 16 ^^^ tq = n := ⟨_, rfl⟩
      rw [hn] at hb4 hx4
      have hnl : n < 4294967296 := by rw [← hn]; exact Nat.xor_lt_two_pow (n := 32) (by omega) (by omega)
      obtain ⟨r, hr⟩ : ∃ r, n % 16 = r := ⟨_, rfl⟩
      have hr16 : r < 16 := by omega
      obtain ⟨tr, htr⟩ : ∃ tr, crcTab.getD r 0 = tr := ⟨_, rfl⟩
      have htrl : tr < 4294967296 := by rw [← htr]; exact crcTab_lt r hr16
      have hand2 : bits BinOp.and IntKind.u32 (n : Int) 15 = (r : Int) := by
        have := u32_and_nat n 15 hnl (by omega)
        rw [show (15 : Nat) = 2 ^ 4 - 1 from rfl, Nat.and_two_pow_sub_one_eq_mod, show (2 : Nat) ^ 4 = 16 from rfl, hr] at this
        exact this
      have hcr := HT.out r hr16
      rw [htr] at hcr
      have hb5 : crcBits 4 n = n / 16 ^^^ tr := by rw [crcBits_at n r hr, htr]
      have hx5 : bits BinOp.xor IntKind.u32 ((n : Int) / 16) (tr : Int) = ((n / 16 ^^^ tr : Nat) : Int) := by
        have := u32_xor_nat (n / 16) tr (by omega) htrl
        rw [← this]; congr 1
      obtain ⟨p, hp⟩ : ∃ p, n / 16 ^^^ tr = p := ⟨_, rfl⟩
      rw [hp] at hb5 hx5
      have hpl : p < 4294967296 := by rw [← hp]; exact Nat.xor_lt_two_pow (n := 32) (by omega) (by omega)
      have hst2 : crcL cn (l.drop k) = crcL p (l.drop (k + 1)) := by rw [hst, crcBits_8, hb4, hb5]
      have HST := Lib.hid hst2
      clear hcs HC HT hx hst hst2 hm hq htq hb4 hn hr htr hb5 hp
      go_wp2
      go_round
      case rel => exact ⟨p, k + 1, rfl, by go_num, by omega, hpl, by rw [← HST.out]; exact HCR.out⟩
      case measure => simp [intOf]; omega
    · have hend : crcL s0 l = cn := by rw [← HCR.out, List.drop_of_length_le (by omega)]; rfl
      have hnot := u32_not cn hcn
      have HE := Lib.hid hend; clear hend
      go_wp2
      go_ret
      exact ⟨by rw [HM.out, HE.out]; rfl, rfl⟩
theorem csum_any (A : Option Addr) (c B : Nat) (l : List UInt8) (w : World) (h : Byt w B (.slice A l.length c) l) (hT : Tbl w) (hl : l.length ≤ 1050000) : Calls Tryd.prog 90 #[.slice A l.length c] w (Num32 (crcSum l) w) := by
  go_enter Tryd.func90, Tryd.ntmps90
  go_wp2_with fail
  refine (cmore_any A c B 0 l w h hT (by omega) hl).mono ?_
  rintro e w1 ⟨rfl, rfl⟩
  go_wp2
  go_ret
  exact ⟨by rw [crcMore_zero]; rfl, rfl⟩
end Go.Proofs.YtbiecoifeeikpaaDoor
/-
  Package num's Put writes the bytes that come in, and a number behind them, in new memory.
  The bytes are there in memory; they are shorter than the model's bound on what append makes.
-/
set_option linter.unusedSimpArgs false
set_option linter.unusedVariables false
namespace Go.Proofs.YtbiecoifeeikpaaDoor
open Go.RowKit
set_option maxRecDepth 100000

set_option maxRecDepth 100000 in
set_option maxHeartbeats 4000000 in
theorem nput_any (u : Value) (B : Nat) (l : List UInt8) (n : Int) (w : World) (h : Byt w B u l) (hl : l.length ≤ 35184372088832) (hB : B ≤ w.heap.size) (h0 : -9223372036854775808 ≤ n) (h1 : n ≤ 9223372036854775807) :
    Calls Tryd.prog 74 #[u, .int .i64 n] w (Made (l ++ Nu.put n) w) := by
  have hA : l.length + 10 ≤ 140737488355328 := by omega
  have hA2 : l.length ≤ 70368744177664 := by omega
  go_enter Tryd.func74, Tryd.ntmps74
  go_wp2_with (go_at_call 87; refine (ncopyOf_any u B 10 l w h hA hB).mono ?_; rintro e w1 ⟨v1, rfl, hown1, hb1⟩)
  go_wp2_with (go_at_call 86; refine (nadd_any v1 w.heap.size l n w1 hown1 hb1.size hA2 h0 h1).mono ?_; rintro e w2 ⟨v2, rfl, hown2, hb2⟩)
  have hb := hb1.trans hb2
  clear hb1 hb2 hown1
  go_wp2
  go_ret
  exact ⟨v2, rfl, hown2, hb⟩
end Go.Proofs.YtbiecoifeeikpaaDoor
/-
  Package num's Four writes a number's four bytes, the highest first, in new memory.
  There are no conditions beyond the number's range.
-/
set_option linter.unusedSimpArgs false
set_option linter.unusedVariables false
namespace Go.Proofs.YtbiecoifeeikpaaDoor
open Go.RowKit
set_option maxRecDepth 100000

def four (n : Nat) : List UInt8 := [(n / 16777216 % 256).toUInt8, (n / 65536 % 256).toUInt8, (n / 256 % 256).toUInt8, (n % 256).toUInt8]
set_option maxRecDepth 100000 in
set_option maxHeartbeats 4000000 in
theorem nfour_any (n : Nat) (w : World) (h : n < 4294967296) : Calls Tryd.prog 88 #[.int .u32 n] w (Made (four n) w) := by
  go_enter Tryd.func88, Tryd.ntmps88
  go_wp2
  go_ret
  refine ⟨_, rfl, own_new w _ (four n) ?_ (by simp [four]), below_new w _⟩
  unfold four Lib.byteCells
  simp only [List.map]
  rw [Nu.u8n _ (Nat.mod_lt _ (by decide)), Nu.u8n _ (Nat.mod_lt _ (by decide)), Nu.u8n _ (Nat.mod_lt _ (by decide)), Nu.u8n _ (Nat.mod_lt _ (by decide))]
  have e1 : ((n / 16777216 % 256 : Nat) : Int) = (n : Int) / 16777216 := by omega
  rw [e1]
  rfl
end Go.Proofs.YtbiecoifeeikpaaDoor
/-
  A disk's files as plain data: put into their place by name, told by name; what a crash leaves.
  There are no conditions.
-/
set_option linter.unusedSimpArgs false
set_option linter.unusedVariables false
namespace Go.Proofs.YtbiecoifeeikpaaDoor
open Go.RowKit
set_option maxRecDepth 100000

/-- a file: its name, its bytes, how many of them last, whether it is there for good -/
structure Fil where
  name : ByteArray
  b : List UInt8
  fast : Nat
  there : Bool
def low8 (c : UInt8) : Bool := decide (97 ≤ c.toNat ∧ c.toNat ≤ 122)
/-- may a file be called so? -/
def goodN (s : ByteArray) : Bool := s.data.toList.all low8 && decide (1 ≤ s.size ∧ s.size ≤ 10)
/-- how many loose bytes of a file stay -/
def kOf9 (n : Int) (f : Fil) : Nat := if 0 < n then (n.tmod ((f.b.length : Int) - f.fast + 1)).toNat else 0
/-- what a crash leaves of a file -/
def left9 (n : Int) (f : Fil) : List Fil := if f.there = true ∨ 0 < kOf9 n f then [⟨f.name, f.b.take (f.fast + kOf9 n f), f.fast + kOf9 n f, true⟩] else []
def crash9 (n : Int) (l : List Fil) : List Fil := l.flatMap (left9 n)
theorem kOf9_le {n : Int} {f : Fil} (h : f.fast ≤ f.b.length) : f.fast + kOf9 n f ≤ f.b.length := by
  unfold kOf9
  split
  · have h1 := Int.tmod_lt_of_pos n (show (0 : Int) < (f.b.length : Int) - f.fast + 1 by omega)
    omega
  · omega
theorem kOf9_pos {n : Int} {f : Fil} (h : 0 < n) (hf : f.fast ≤ f.b.length) : n.tmod ((f.b.length : Int) - f.fast + 1) = (kOf9 n f : Nat) := by
  unfold kOf9
  rw [if_pos h]
  have := Int.tmod_nonneg ((f.b.length : Int) - f.fast + 1) (show 0 ≤ n by omega)
  omega
theorem kOf9_neg {n : Int} {f : Fil} (h : ¬ 0 < n) : kOf9 n f = 0 := by unfold kOf9; rw [if_neg h]
/-- one name ahead of another -/
def ltK (a b : ByteArray) : Bool := bytesBefore a.data.toList b.data.toList
theorem ltK_irrefl (a : ByteArray) : ltK a a = false := WideShapes.before_irrefl (.string a.data.toList)
theorem ltK_trans {a b c : ByteArray} (h1 : ltK a b = true) (h2 : ltK b c = true) : ltK a c = true := WideShapes.before_trans (a := .string a.data.toList) (b := .string b.data.toList) (c := .string c.data.toList) h1 h2
theorem name_ext {a b : ByteArray} (h : a.data.toList = b.data.toList) : a = b := by
  cases a; cases b; congr 1; exact Array.toList_inj.1 h
theorem ltK_total {a b : ByteArray} (h : a ≠ b) (h2 : ltK a b = false) : ltK b a = true := by
  rcases ChangeMaps.before_total (a := .string a.data.toList) (b := .string b.data.toList) ⟨_, rfl⟩ ⟨_, rfl⟩ (fun e => h (name_ext (by injection e))) with h3 | h3
  · have h4 : ltK a b = true := h3
    rw [h2] at h4; cases h4
  · exact h3
theorem ltK_ne {a b : ByteArray} (h : ltK a b = true) : a ≠ b := fun e => by rw [e, ltK_irrefl] at h; cases h
def Sorted9 (l : List Fil) : Prop := l.Pairwise fun x y => ltK x.name y.name = true
def Good9 (f : Fil) : Prop := goodN f.name = true ∧ f.fast ≤ f.b.length ∧ f.b.length ≤ 1048576 ∧ (f.there = false → f.fast = 0)
/-- the file of that name -/
def getF (n : ByteArray) (l : List Fil) : Option Fil := l.find? fun f => decide (f.name = n)
/-- a file put in its place -/
def setF (f : Fil) : List Fil → List Fil
  | [] => [f]
  | x :: t => if f.name = x.name then f :: t else if ltK f.name x.name = true then f :: x :: t else x :: setF f t
/-- the same of files with what holds their bytes -/
def setP (q : Fil × Value) : List (Fil × Value) → List (Fil × Value)
  | [] => [q]
  | x :: t => if q.1.name = x.1.name then q :: t else if ltK q.1.name x.1.name = true then q :: x :: t else x :: setP q t
theorem setP_map (q : Fil × Value) (ps : List (Fil × Value)) : (setP q ps).map (·.1) = setF q.1 (ps.map (·.1)) := by
  induction ps with
  | nil => rfl
  | cons x t ih =>
    unfold setP; rw [List.map_cons]; unfold setF
    split
    · rfl
    · split
      · rfl
      · rw [List.map_cons, ih]
theorem setP_mem {q p : Fil × Value} {ps : List (Fil × Value)} (hp : p ∈ setP q ps) : p = q ∨ p ∈ ps := by
  induction ps with
  | nil => left; simpa [setP] using hp
  | cons x t ih =>
    unfold setP at hp
    split at hp
    · rcases List.mem_cons.1 hp with h | h
      · exact .inl h
      · exact .inr (List.mem_cons_of_mem _ h)
    · split at hp
      · rcases List.mem_cons.1 hp with h | h
        · exact .inl h
        · exact .inr h
      · rcases List.mem_cons.1 hp with h | h
        · exact .inr (by rw [h]; exact List.mem_cons_self)
        · rcases ih h with h | h
          · exact .inl h
          · exact .inr (List.mem_cons_of_mem _ h)
theorem setF_mem {f x : Fil} {l : List Fil} (hp : x ∈ setF f l) : x = f ∨ x ∈ l := by
  induction l with
  | nil => left; simpa [setF] using hp
  | cons y t ih =>
    unfold setF at hp
    split at hp
    · rcases List.mem_cons.1 hp with h | h
      · exact .inl h
      · exact .inr (List.mem_cons_of_mem _ h)
    · split at hp
      · rcases List.mem_cons.1 hp with h | h
        · exact .inl h
        · exact .inr h
      · rcases List.mem_cons.1 hp with h | h
        · exact .inr (by rw [h]; exact List.mem_cons_self)
        · rcases ih h with h | h
          · exact .inl h
          · exact .inr (List.mem_cons_of_mem _ h)
/-- in a sorted list: no other file of that name stays -/
theorem setP_mem_ne {q p : Fil × Value} {ps : List (Fil × Value)} (hs : ps.Pairwise fun x y => ltK x.1.name y.1.name = true) (hp : p ∈ setP q ps) : p = q ∨ (p ∈ ps ∧ p.1.name ≠ q.1.name) := by
  induction ps with
  | nil => left; simpa [setP] using hp
  | cons x t ih =>
    obtain ⟨h1, h2⟩ := List.pairwise_cons.1 hs
    unfold setP at hp
    split at hp
    · rename_i he
      rcases List.mem_cons.1 hp with h | h
      · exact .inl h
      · exact .inr ⟨List.mem_cons_of_mem _ h, by rw [he]; exact (ltK_ne (h1 p h)).symm⟩
    · rename_i hne
      split at hp
      · rename_i hlt
        rcases List.mem_cons.1 hp with h | h
        · exact .inl h
        · refine .inr ⟨h, ?_⟩
          rcases List.mem_cons.1 h with h | h
          · rw [h]; exact (ltK_ne hlt).symm
          · exact (ltK_ne (ltK_trans hlt (h1 p h))).symm
      · rcases List.mem_cons.1 hp with h | h
        · exact .inr ⟨by rw [h]; exact List.mem_cons_self, by rw [h]; exact fun e => hne e.symm⟩
        · rcases ih h2 h with h | h
          · exact .inl h
          · exact .inr ⟨List.mem_cons_of_mem _ h.1, h.2⟩
theorem setF_sorted {f : Fil} {l : List Fil} (h : Sorted9 l) : Sorted9 (setF f l) := by
  unfold Sorted9 at *
  induction l with
  | nil => simp [setF]
  | cons x t ih =>
    obtain ⟨h1, h2⟩ := List.pairwise_cons.1 h
    unfold setF
    split
    · rename_i he
      exact List.pairwise_cons.2 ⟨fun y hy => by rw [he]; exact h1 y hy, h2⟩
    · rename_i hne
      split
      · rename_i hlt
        refine List.pairwise_cons.2 ⟨fun y hy => ?_, h⟩
        rcases List.mem_cons.1 hy with e | hy
        · rw [e]; exact hlt
        · exact ltK_trans hlt (h1 y hy)
      · rename_i hlt
        refine List.pairwise_cons.2 ⟨fun y hy => ?_, ih h2⟩
        rcases setF_mem hy with e | hy
        · rw [e]; exact ltK_total hne (by simpa using hlt)
        · exact h1 y hy
theorem setF_len (f : Fil) (l : List Fil) : (setF f l).length ≤ l.length + 1 := by
  induction l with
  | nil => exact Nat.le_refl _
  | cons x t ih =>
    unfold setF
    split
    · exact Nat.le_succ _
    · split
      · exact Nat.le_refl _
      · rw [List.length_cons, List.length_cons]; omega
/-- a file told that was just put -/
theorem getF_set (f : Fil) (l : List Fil) : getF f.name (setF f l) = some f := by
  unfold getF
  induction l with
  | nil => simp [setF]
  | cons x t ih =>
    unfold setF
    split
    · simp
    · rename_i hne
      split
      · simp
      · rw [List.find?_cons_of_neg (by simpa using fun e : x.name = f.name => hne e.symm)]; exact ih
theorem getF_mem {n : ByteArray} {l : List Fil} {f : Fil} (h : getF n l = some f) : f ∈ l ∧ f.name = n := by
  unfold getF at h
  exact ⟨List.mem_of_find?_eq_some h, by simpa using List.find?_some h⟩

/-! ### the map's datum -/
def kq (p : Fil × Value) : Lit × DataW Value := (.string p.1.name.data.toList, .held (.agg #[p.2, .int .i64 ((p.1.fast : Nat) : Int), .bool p.1.there]))
def DD (ps : List (Fil × Value)) : DataW Value := .map (ps.map kq)
def RH (v : Value) : Option (DataW Value × List MemPlace) := some (.held v, [])
theorem same_name {a b : ByteArray} : (Lit.string a.data.toList).sameKey (.string b.data.toList) = decide (a = b) := by
  by_cases h : a = b
  · subst h; simp [Lit.sameKey]
  · have h2 : ¬ a.data.toList = b.data.toList := fun e => h (name_ext e)
    rw [decide_eq_false h]
    show (a.data.toList == b.data.toList) = false
    exact beq_eq_false_iff_ne.2 h2
theorem filter_all9 {n : ByteArray} {t : List (Fil × Value)} (h : ∀ p ∈ t, p.1.name ≠ n) : (t.map kq).filter (fun p => !p.1.sameKey (.string n.data.toList)) = t.map kq := by
  rw [List.filter_eq_self]
  intro a ha
  obtain ⟨p, hp, rfl⟩ := List.mem_map.1 ha
  show (!(Lit.string p.1.name.data.toList).sameKey (.string n.data.toList)) = true
  rw [same_name, decide_eq_false (h p hp)]; rfl
theorem insert_head9 {q : Fil × Value} {t : List (Fil × Value)} (h : ∀ p ∈ t, ltK q.1.name p.1.name = true) : DataW.insert (kq q) (t.map kq) = (q :: t).map kq := by
  cases t with
  | nil => rfl
  | cons x t =>
    rw [List.map_cons]
    unfold DataW.insert
    rw [if_pos (show (kq q).1.before (kq x).1 = true from h x List.mem_cons_self)]; rfl
theorem put_list9 (q : Fil × Value) (ps : List (Fil × Value)) (hs : ps.Pairwise fun x y => ltK x.1.name y.1.name = true) :
    DataW.insert (kq q) ((ps.map kq).filter fun p => !p.1.sameKey (.string q.1.name.data.toList)) = (setP q ps).map kq := by
  induction ps with
  | nil => rfl
  | cons x t ih =>
    obtain ⟨h1, h2⟩ := List.pairwise_cons.1 hs
    unfold setP
    rw [List.map_cons]
    split
    · rename_i he
      rw [List.filter_cons_of_neg (by show ¬ (!(Lit.string x.1.name.data.toList).sameKey (.string q.1.name.data.toList)) = true; rw [same_name, decide_eq_true he.symm]; simp)]
      rw [filter_all9 (fun p hp => by rw [he]; exact (ltK_ne (h1 p hp)).symm)]
      exact insert_head9 (fun p hp => by rw [he]; exact h1 p hp)
    · rename_i hne
      rw [List.filter_cons_of_pos (by show (!(Lit.string x.1.name.data.toList).sameKey (.string q.1.name.data.toList)) = true; rw [same_name, decide_eq_false (fun e => hne e.symm)]; rfl)]
      split
      · rename_i hlt
        rw [filter_all9 (fun p hp => (ltK_ne (ltK_trans hlt (h1 p hp))).symm), ← List.map_cons]
        refine insert_head9 (fun p hp => ?_)
        rcases List.mem_cons.1 hp with e | hp
        · rw [e]; exact hlt
        · exact ltK_trans hlt (h1 p hp)
      · rename_i hlt
        unfold DataW.insert
        rw [if_neg (show ¬ (kq q).1.before (kq x).1 = true from hlt), ih h2]; rfl
theorem dd_put (q : Fil × Value) (ps : List (Fil × Value)) (hs : ps.Pairwise fun x y => ltK x.1.name y.1.name = true) : (DD ps).put (.string q.1.name.data.toList) (kq q).2 = DD (setP q ps) := congrArg DataW.map (put_list9 q ps hs)
theorem dd_has (n : ByteArray) (ps : List (Fil × Value)) : Maps.has (DD ps) (.string n.data.toList) = ps.any fun p => decide (p.1.name = n) := by
  show (ps.map kq).any _ = _
  rw [List.any_map]
  congr 1; funext p
  exact same_name
theorem dd_at (n : ByteArray) (ps : List (Fil × Value)) (z : DataW Value) : (DD ps).atKey (.string n.data.toList) z = (match ps.find? (fun p => decide (p.1.name = n)) with | some p => (kq p).2 | none => z) := by
  unfold DD DataW.atKey
  simp only
  rw [List.find?_map]
  have e : ((fun p : Lit × DataW Value => p.1.sameKey (.string n.data.toList)) ∘ kq) = fun p : Fil × Value => decide (p.1.name = n) := by funext p; exact same_name
  rw [e]
  cases ps.find? (fun p => decide (p.1.name = n)) <;> rfl
theorem dd_size (ps : List (Fil × Value)) : Maps.size (DD ps) = ps.length := by
  show (ps.map kq).length = _
  rw [List.length_map]
theorem dd_keys (ps : List (Fil × Value)) : strKeys (DD ps) = ps.map fun p => p.1.name.data.toList := by
  show (ps.map kq).map _ = _
  rw [List.map_map]; rfl
theorem find_map9 (n : ByteArray) (ps : List (Fil × Value)) : getF n (ps.map (·.1)) = (ps.find? fun p => decide (p.1.name = n)).map (·.1) := by
  unfold getF
  rw [List.find?_map]; rfl
end Go.Proofs.YtbiecoifeeikpaaDoor
/-
  A function returns what the plain functions say: L1Cut.
-/
set_option linter.unusedSimpArgs false
set_option linter.unusedVariables false
namespace Go.Proofs.YtbiecoifeeikpaaDoor
open Go.RowKit
set_option maxRecDepth 100000

theorem lcut_any (s : ByteArray) (n : Int) (w : World) (h0 : 0 ≤ n) (h1 : n ≤ 1050000) :
    Calls Tryd.prog 21 #[.string s, .int .i64 n] w (Some n w) := by
  obtain ⟨k, rfl⟩ := Int.eq_ofNat_of_zero_le h0
  by_cases h : k < s.size
  · go_enter Tryd.func21, Tryd.ntmps21
    go_wp2
    go_ret
    exact ⟨_, by rw [ByteArray.size_extract]; omega, rfl, rfl⟩
  · go_enter Tryd.func21, Tryd.ntmps21
    go_wp2
    go_ret
    exact ⟨s, by omega, rfl, rfl⟩
/-- the first bytes of a text -/
def cutS (s : ByteArray) (n : Nat) : ByteArray := if n < s.size then s.extract 0 n else s
theorem cutS_size (s : ByteArray) (n : Nat) : (cutS s n).size ≤ n := by
  unfold cutS; split
  · rw [ByteArray.size_extract]; omega
  · omega
theorem lcut_to (s t : ByteArray) (k : Nat) (w : World) (h1 : k ≤ 1050000) (ht : cutS s k = t) :
    Calls Tryd.prog 21 #[.string s, .int .i64 k] w fun e w' => e = .returned (.string t) ∧ w = w' := by
  subst ht
  by_cases h : k < s.size
  · have hc : cutS s k = s.extract 0 k := if_pos h
    have HC := Lib.hid hc; clear hc
    go_enter Tryd.func21, Tryd.ntmps21
    go_wp2
    go_ret
    exact ⟨by rw [HC.out]; rfl, rfl⟩
  · have hc : cutS s k = s := if_neg h
    have HC := Lib.hid hc; clear hc
    go_enter Tryd.func21, Tryd.ntmps21
    go_wp2
    go_ret
    exact ⟨by rw [HC.out]; rfl, rfl⟩
end Go.Proofs.YtbiecoifeeikpaaDoor
/-
  What the statements cut their values and bytes to: some value of the same kind and number with a text of at most 220 bytes; the first bytes.
  There are no conditions beyond those that each lemma names.
-/
set_option linter.unusedSimpArgs false
set_option linter.unusedVariables false
namespace Go.Proofs.YtbiecoifeeikpaaDoor
open Go.RowKit
set_option maxRecDepth 100000

/-- a value whose text has been cut -/
def CutR (r : Raw) (w : World) (e : Ending) (w' : World) : Prop := ∃ t : ByteArray, (t.size : Int) ≤ 220 ∧ e = .returned (Raw.mk r.kind r.n t).val ∧ Below w.heap.size w w'
/-- the first bytes -/
def Sh (B : Nat) (l : List UInt8) (m : Nat) (w : World) (e : Ending) (w' : World) : Prop := ∃ A c, e = .returned (.slice A (l.take m).length c) ∧ Byt w B (.slice A (l.take m).length c) (l.take m) ∧ w = w'
end Go.Proofs.YtbiecoifeeikpaaDoor
/-
  A region that draws its order and whose last operation, which waitsG for all others, may write what the others load: what is held of the world need not hold behind that one.
  There are no conditions.
-/
set_option linter.unusedSimpArgs false
set_option linter.unusedVariables false
namespace Go.Proofs.YtbiecoifeeikpaaDoor
open Go
section
variable {P : Program} {ops : Array Oper} {Q : Exit → Act → World → Prop} {md : Region.Mode} {S : World → Prop} {f : Nat}

/-- whatever order is picked from here on; S holds behind every operation but f -/
def AnyG (P : Program) (md : Region.Mode) (ops : Array Oper) (Q : Exit → Act → World → Prop) (S : World → Prop) (f : Nat) : Nat → Array Bool → Act → World → Prop
  | 0, L, a, w => Region.ready md ops L = [] ∧ Q .normal a w
  | n + 1, L, a, w => (Region.ready md ops L = [] → Q .normal a w) ∧ ∀ i ∈ Region.ready md ops L, wpOp P ops Q i (fun b v => (f ≤ i ∨ S v) ∧ AnyG P md ops Q S f n (L.setIfInBounds i true) b v) a w
theorem any_of_g : ∀ (n : Nat) (L : Array Bool) (a : Act) (w : World), AnyG P md ops Q S f n L a w → wpAny P md ops Q n L a w
  | 0, _, _, _, h => h
  | n + 1, _, _, _, h => ⟨h.1, fun i hi => wpOp_mono (fun b v hv => any_of_g n _ b v hv.2) (h.2 i hi)⟩
/-- does operation i come ahead of all from f on, in every order? -/
def waitsG (md : Region.Mode) (ops : Array Oper) (f i : Nat) : Bool := (List.range ops.size).all fun j => decide (j < f) || (match ops[j]? with
  | some o => o.after.any fun e => Region.binds md e && e.on == i
  | none => false)
theorem anyG_first {i : Nat} {o : Oper} {v : Value} (hi : ops[i]? = some o) (hsel : ∀ (j : Nat) (o : Oper) cs b, ops[j]? = some o → o.op ≠ .select cs b) (hQ : ∀ c a w, Q (.panic c) (a.put o.dst v) w → Q (.panic c) a w) (hw : waitsG md ops f i = true) (n : Nat) :
    ∀ (L : Array Bool) (a : Act) (w : World), (∀ j p, ops[j]? = some p → j ≠ i → L.getD j true = false → (∀ e ∈ p.after, Region.binds md e = true → e.on ≠ i) → o.apart ops p = true) →
      i ∈ Region.ready md ops L → YieldsIf P ops S o v a → S w → AnyG P md ops Q S f n (L.setIfInBounds i true) (a.put o.dst v) w → AnyG P md ops Q S f (n + 1) L a w := by
  have never : ∀ {j : Nat} {p : Oper}, ops[j]? = some p → f ≤ j → ¬ ∀ e ∈ p.after, Region.binds md e = true → e.on ≠ i := by
    intro j p hp hfj hno
    unfold waitsG at hw
    rw [List.all_eq_true] at hw
    have hjs : j < ops.size := (Array.getElem?_eq_some_iff.1 hp).1
    have h1 := hw j (List.mem_range.2 hjs)
    rw [hp, decide_eq_false (by omega), Bool.false_or] at h1
    obtain ⟨e, he, hb⟩ := Array.any_eq_true'.1 h1
    rw [Bool.and_eq_true] at hb
    exact hno e he hb.1 (by simpa using hb.2)
  induction n with
  | zero =>
    intro L a w _ hr hy hS H
    refine ⟨fun h0 => (by rw [h0] at hr; cases hr), fun j hj => ?_⟩
    by_cases e : j = i
    · subst e; exact hy.wpOp hi hS ⟨.inr hS, H⟩
    · have h1 := ready_mono hj e
      rw [H.1] at h1; cases h1
  | succ n ih =>
    intro L a w hfree hr hy hS H
    refine ⟨fun h0 => (by rw [h0] at hr; cases hr), fun j hj => ?_⟩
    by_cases e : j = i
    · subst e; exact hy.wpOp hi hS ⟨.inr hS, H⟩
    obtain ⟨hjL, p, hp, hafter⟩ := mem_ready.1 hj
    have hno : ∀ e ∈ p.after, Region.binds md e = true → e.on ≠ i := by
      intro x hx hb hxi
      have h1 := hafter x hx hb
      have h0 := (mem_ready.1 hr).1
      rw [hxi] at h1
      by_cases hsz : i < L.size
      · simp [hsz] at h0 h1
        rw [h0] at h1; cases h1
      · simp [Array.getElem?_eq_none (Nat.le_of_not_lt hsz)] at h1
    have hjf : ¬ f ≤ j := fun h => never hp h hno
    have h2 := wpOp_putIf hp (hfree j p hp e hjL hno) (fun cs b => hsel i o cs b hi) (fun cs b => hsel j p cs b hp) hQ hy (H.2 j (ready_mono hj e))
    refine wpOp_mono (fun b u hu => ?_) h2
    have hSu : S u := hu.2.1.resolve_left hjf
    refine ⟨.inr hSu, ih (L.setIfInBounds j true) b u (fun k q hq hki hkL hkn => hfree k q hq hki ?_ hkn) (ready_mono hr (Ne.symm e)) hu.1 hSu ?_⟩
    · by_cases ejk : j = k
      · subst ejk; exact hjL
      · rwa [getD_set_ne true ejk] at hkL
    · rw [Array.setIfInBounds_comm _ _ e]; exact hu.2.2
theorem anyG_take {i : Nat} {oi : Oper} {v : Value} {n : Nat} {L : Array Bool} {a : Act} {w : World} (hi : ops[i]? = some oi) (hw : waitsG md ops f i = true)
    (hs : Region.noSelect ops = true) (hf : Region.free md ops L i = true) (hr : (Region.ready md ops L).contains i = true)
    (hQ : ∀ c a w, Q (.panic c) (a.put oi.dst v) w → Q (.panic c) a w) (hy : YieldsIf P ops S oi v a) (hS : S w)
    (h : AnyG P md ops Q S f n (L.setIfInBounds i true) (a.put oi.dst v) w) : AnyG P md ops Q S f (n + 1) L a w :=
  anyG_first hi (Region.noSelect_spec hs) hQ hw n L a w (Region.free_spec hi hf) (by simpa using hr) hy hS h
/-- number i first, by its place alone -/
theorem tkL {n : Nat} {L : Array Bool} {a : Act} {w : World} (i : Nat) (v : Value) {d : Option Tmp} {x : Op} {t : TypeId} {p : String} {e : Array Edge} {g : Option (Nat × Bool)} (hi : ops[i]? = some ⟨d, x, t, p, e, g⟩)
    (hy : ∀ w, S w → (execOp a.eval ⟨d, x, t, p, e, g⟩).run P w = .ok (.value v) w) (h : AnyG P md ops Q S f n (L.setIfInBounds i true) (a.put d v) w)
    (hb : (waitsG md ops f i && Region.noSelect ops && Region.free md ops L i && (Region.ready md ops L).contains i) = true := by kernel_rfl) (hQ : ∀ c a w, Q (.panic c) (a.put d v) w → Q (.panic c) a w := by exact fun _ _ _ h => h)
    (hS : S w := by assumption) (hw : Region.wanted ⟨d, x, t, p, e, g⟩ (yielded ops a.tmps) = true := by rfl) : AnyG P md ops Q S f (n + 1) L a w := by
  simp only [Bool.and_eq_true] at hb
  exact anyG_take hi hb.1.1.1 hb.1.1.2 hb.1.2 hb.2 hQ (.inl ⟨hw, hy⟩) hS h
/-- .. whatever way it yields -/
theorem tkM {n : Nat} {L : Array Bool} {a : Act} {w : World} (i : Nat) (v : Value) {d : Option Tmp} {x : Op} {t : TypeId} {p : String} {e : Array Edge} {g : Option (Nat × Bool)} (hi : ops[i]? = some ⟨d, x, t, p, e, g⟩)
    (hy : YieldsIf P ops S ⟨d, x, t, p, e, g⟩ v a) (h : AnyG P md ops Q S f n (L.setIfInBounds i true) (a.put d v) w)
    (hb : (waitsG md ops f i && Region.noSelect ops && Region.free md ops L i && (Region.ready md ops L).contains i) = true := by kernel_rfl) (hQ : ∀ c a w, Q (.panic c) (a.put d v) w → Q (.panic c) a w := by exact fun _ _ _ h => h)
    (hS : S w := by assumption) : AnyG P md ops Q S f (n + 1) L a w := by
  simp only [Bool.and_eq_true] at hb
  exact anyG_take hi hb.1.1.1 hb.1.1.2 hb.1.2 hb.2 hQ hy hS h
/-- one operation alone may come up -/
theorem anyG_step {i : Nat} {o : Oper} {n : Nat} {L : Array Bool} {a : Act} {w : World} (hr : Region.ready md ops L = [i]) (ho : ops[i]? = some o)
    (h : ∀ K : Act → World → Prop, Shut (∀ b v, (f ≤ i ∨ S v) → AnyG P md ops Q S f n (L.setIfInBounds i true) b v → K b v) → if Region.wanted o (yielded ops a.tmps) = true then Oper.wp P o a w K Q else K (a.put o.dst undef) w) : AnyG P md ops Q S f (n + 1) L a w :=
  ⟨fun h0 => (by rw [h0] at hr; cases hr), fun j hj => by
    rw [hr, List.mem_singleton] at hj
    subst hj
    exact wpOp_step ho (fun K hK => h K (fun b v h1 h2 => hK b v ⟨h1, h2⟩))⟩
theorem stM {n : Nat} {L : Array Bool} {a : Act} {w : World} (i : Nat) {d : Option Tmp} {x : Op} {t : TypeId} {p : String} {e : Array Edge} {g : Option (Nat × Bool)} (hi : ops[i]? = some ⟨d, x, t, p, e, g⟩)
    (h : ∀ K : Act → World → Prop, Shut (∀ b v, (f ≤ i ∨ S v) → AnyG P md ops Q S f n (L.setIfInBounds i true) b v → K b v) → Oper.wp P ⟨d, x, t, p, e, g⟩ a w K Q)
    (hr : Region.ready md ops L = [i] := by kernel_rfl) (hw : Region.wanted ⟨d, x, t, p, e, g⟩ (yielded ops a.tmps) = true := by rfl) : AnyG P md ops Q S f (n + 1) L a w :=
  anyG_step hr hi fun K hK => by rw [if_pos hw]; exact h K hK
theorem anyG_done {L : Array Bool} {a : Act} {w : World} (hr : Region.ready md ops L = []) (h : Q .normal a w) : ∀ n, AnyG P md ops Q S f n L a w
  | 0 => ⟨hr, h⟩
  | _ + 1 => ⟨fun _ => h, by rw [hr]; simp⟩
theorem region_g {id : Nat} {a : Act} {w : World} (f : Nat) (S : World → Prop) (hm : P.follows .mixedOrders = true)
    (h : AnyG P .any ops Q S f ops.size (Array.replicate ops.size false) a w.drew) : (Code.region id ops true).wp P Q a w :=
  wp_region_any hm (any_of_g _ _ _ _ h)
end
end Go.Proofs.YtbiecoifeeikpaaDoor
