/-
  Plain facts on texts, runes, values and worlds that the walks of the functions use; no program is named.
-/
import Derived.Test.YtoekiencnbgmhaaRunesPlain
import Derived.Lib.Strings
import Derived.WalkKit
import Derived.WalkLawsBesides
import Derived.WalkSpells
import Derived.BigCall
import Derived.BigQuiet
import Derived.Deep.QuietTactic
import Derived.Deep.LoopGhost
import Derived.Lib.Hide
import Derived.Outline
import Derived.Lib.OthersKept
import Derived.WalkSmall
set_option linter.unusedSimpArgs false
set_option linter.unusedVariables false
namespace Go.Proofs.Ytoekiencnbgmhaa
open Go.RowKit
set_option maxRecDepth 100000

def lowZ (r : Int) : Int := if (65 ≤ r ∧ r ≤ 90) ∨ (192 ≤ r ∧ r ≤ 222 ∧ r ≠ 215) ∨ (913 ≤ r ∧ r ≤ 937 ∧ r ≠ 930) ∨ (1040 ≤ r ∧ r ≤ 1071) then r + 32 else r

theorem low_split (a r : Int) (h : ((65 ≤ r ∧ r ≤ 90) ∨ (192 ≤ r ∧ r ≤ 222 ∧ r ≠ 215) ∨ (913 ≤ r ∧ r ≤ 937 ∧ r ≠ 930) ∨ (1040 ≤ r ∧ r ≤ 1071)) ∧ a = r + 32 ∨ ¬ ((65 ≤ r ∧ r ≤ 90) ∨ (192 ≤ r ∧ r ≤ 222 ∧ r ≠ 215) ∨ (913 ≤ r ∧ r ≤ 937 ∧ r ≠ 930) ∨ (1040 ≤ r ∧ r ≤ 1071)) ∧ a = r) : a = lowZ r := by
  unfold lowZ; rcases h with ⟨h, e⟩ | ⟨h, e⟩
  · rw [if_pos h, e]
  · rw [if_neg h, e]

theorem ret_i32 {a b : Int} (h : a = b) : Ending.returned (.int .i32 a) = .returned (.int .i32 b) := by rw [h]

theorem ofNat_u8 (a : Nat) (b : Int) (h : b.toNat = a) : UInt8.ofNat a = b.toNat.toUInt8 := by rw [h]

theorem enc_str (r : Int) : Utf8.encode r = ⟨(Lib.encodeRune r).toArray⟩ := by
  have hv : Utf8.valid r = decide ((0 ≤ r ∧ r < 55296) ∨ (57343 < r ∧ r ≤ 1114111)) := validRune_eq r
  have hcase : (0 ≤ r ∧ r ≤ 127) ∨ (128 ≤ r ∧ r ≤ 2047) ∨ ((2048 ≤ r ∧ r < 55296) ∨ (57343 < r ∧ r ≤ 65535)) ∨ (65536 ≤ r ∧ r ≤ 1114111) ∨ (r < 0 ∨ (55296 ≤ r ∧ r ≤ 57343) ∨ 1114111 < r) := by omega
  unfold Utf8.encode
  rcases hcase with h | h | h | h | h
  · have e : Lib.encodeRuneZ r = [r] := Lib.encodeRuneZ_one h.1 h.2
    rw [hv, decide_eq_true (by omega)]
    simp only [if_true, Lib.encodeRune, e, List.map]
    rw [if_pos (by omega)]
  · have e : Lib.encodeRuneZ r = [192 + r / 64, 128 + r % 64] := Lib.encodeRuneZ_two h.1 h.2
    rw [hv, decide_eq_true (by omega)]
    simp only [if_true, Lib.encodeRune, e, List.map]
    rw [if_neg (by omega), if_pos (by omega)]
    rw [ofNat_u8 (192 + r.toNat / 64) (192 + r / 64) (by omega), ofNat_u8 (128 + r.toNat % 64) (128 + r % 64) (by omega)]
  · have e : Lib.encodeRuneZ r = [224 + r / 4096, 128 + r / 64 % 64, 128 + r % 64] := Lib.encodeRuneZ_three h
    rw [hv, decide_eq_true (by omega)]
    simp only [if_true, Lib.encodeRune, e, List.map]
    rw [if_neg (by omega), if_neg (by omega), if_pos (by omega)]
    rw [ofNat_u8 (224 + r.toNat / 4096) (224 + r / 4096) (by omega), ofNat_u8 (128 + r.toNat / 64 % 64) (128 + r / 64 % 64) (by omega), ofNat_u8 (128 + r.toNat % 64) (128 + r % 64) (by omega)]
  · have e : Lib.encodeRuneZ r = [240 + r / 262144, 128 + r / 4096 % 64, 128 + r / 64 % 64, 128 + r % 64] := Lib.encodeRuneZ_four h.1 h.2
    rw [hv, decide_eq_true (by omega)]
    simp only [if_true, Lib.encodeRune, e, List.map]
    rw [if_neg (by omega), if_neg (by omega), if_neg (by omega)]
    rw [ofNat_u8 (240 + r.toNat / 262144) (240 + r / 262144) (by omega), ofNat_u8 (128 + r.toNat / 4096 % 64) (128 + r / 4096 % 64) (by omega), ofNat_u8 (128 + r.toNat / 64 % 64) (128 + r / 64 % 64) (by omega), ofNat_u8 (128 + r.toNat % 64) (128 + r % 64) (by omega)]
  · have e : Lib.encodeRuneZ r = [239, 191, 189] := Lib.encodeRuneZ_bad h
    rw [hv, decide_eq_false (by omega)]
    simp only [Lib.encodeRune, e, Bool.false_eq_true, if_false]; decide

theorem nums_enc (xs : List Int) (r : Int) (h : Lib.encodeRuneZ r = xs) : Ending.returned (.string (strOfNums xs)) = .returned (.string ⟨(Lib.encodeRune r).toArray⟩) := by
  rw [← h]; rfl

theorem below_new (w : World) (o : Obj) : Below w.heap.size w (w.alloc o) := (Below.refl _ _).alloc (Nat.le_refl _) _

def Enc (r : Int) (w : World) (e : Ending) (w' : World) : Prop := e = .returned (.string ⟨(Lib.encodeRune r).toArray⟩) ∧ Below w.heap.size w w'

theorem width_pos (s : ByteArray) (pos : Nat) (h : pos < s.size) : 1 ≤ (Utf8.decode s pos).2 := by
  rw [Ru.decode_list]
  exact (Ru.dcl_w _ (by intro e; have := congrArg List.length e; simp at this; omega)).1

/-- the runes from place pos on -/
def rest (s : ByteArray) (pos : Nat) : List UInt8 := s.data.toList.drop pos

theorem rest_ne (s : ByteArray) (pos : Nat) (h : pos < s.size) : rest s pos ≠ [] := by
  intro e; have := congrArg List.length e; simp [rest] at this; omega

theorem rest_end (s : ByteArray) (pos : Nat) (h : ¬ pos < s.size) : rest s pos = [] := by
  unfold rest; apply List.drop_of_length_le; rw [Array.length_toList]; exact Nat.le_of_not_lt h

theorem rest_next (s : ByteArray) (pos : Nat) (h : pos < s.size) : Ru.rns (rest s pos) = Utf8.decode s pos :: Ru.rns (rest s (pos + (Utf8.decode s pos).2)) := by
  rw [Ru.rns_cons _ (rest_ne s pos h), Ru.decode_list]; unfold rest; rw [List.drop_drop]

theorem ret_i64 {a b : Int} (h : a = b) : Ending.returned (.int .i64 a) = .returned (.int .i64 b) := by rw [h]

/-- the first rune of a text and its width, as the program tells it -/
def decB (s : ByteArray) : Nat × Nat := if s.size = 0 then (65533, 0) else Utf8.decode s 0

def Dec (r : Nat × Nat) (w : World) (e : Ending) (w' : World) : Prop := e = .returned (.tuple #[.int .i32 r.1, .int .i64 r.2]) ∧ Below w.heap.size w w'

theorem decB_pos (s : ByteArray) (h : 0 < s.size) : decB s = Utf8.decode s 0 := by unfold decB; rw [if_neg (by omega)]

def Fst (s : ByteArray) (pos : Nat) (f : Int) : Prop := (pos = 0 ∧ f = 65533) ∨ (0 < s.size ∧ 0 < pos ∧ (pos : Int) = (Utf8.decode s 0).2 ∧ f = (Utf8.decode s 0).1)

theorem width_le (s : ByteArray) (pos : Nat) (h : pos < s.size) : pos + (Utf8.decode s pos).2 ≤ s.size := by
  have h1 := (Ru.dcl_w _ (rest_ne s pos h)).2.1
  rw [Ru.decode_list]
  have h2 : (rest s pos).length = s.size - pos := by simp [rest]
  unfold rest at *; omega

theorem dec_ret (s : ByteArray) (w w' : World) (a b : Int) (h : Below w.heap.size w w') (ha : a = (decB s).1) (hb : b = (decB s).2) : Dec (decB s) w (.returned (.tuple #[.int .i32 a, .int .i64 b])) w' := ⟨by rw [ha, hb], h⟩

def pre : ByteArray := ⟨#[239, 191, 189]⟩

theorem ext_list (s : ByteArray) (pos : Nat) : (s.extract pos s.size).data.toList = rest s pos := by
  rw [ByteArray.data_extract, Array.toList_extract]; unfold rest
  rw [List.extract_eq_take_drop, List.take_of_length_le]; simp

theorem pre_take (l : List UInt8) : Lib.hasPrefix l [239, 191, 189] = decide (l.take 3 = [239, 191, 189]) := by
  unfold Lib.hasPrefix
  rw [Bool.eq_iff_iff, List.isPrefixOf_iff_prefix, decide_eq_true_eq, List.prefix_iff_eq_take]
  exact eq_comm

theorem vld_next (s : ByteArray) (pos : Nat) (h : pos < s.size) : Ru.vld (rest s pos) = (Ru.fine (Utf8.decode s pos) && Ru.vld (rest s (pos + (Utf8.decode s pos).2))) := by
  unfold Ru.vld; rw [rest_next s pos h, List.all_cons]

theorem ret_bool {a b : Bool} (h : a = b) : Ending.returned (.bool a) = .returned (.bool b) := by rw [h]

theorem cutP_next (s : ByteArray) (pos k : Nat) (h : pos < s.size) : Ru.cutP (k + 1) (rest s pos) = (Utf8.decode s pos).2 + Ru.cutP k (rest s (pos + (Utf8.decode s pos).2)) := by
  rw [Ru.cutP_succ k _ (rest_ne s pos h), Ru.decode_list]; unfold rest; rw [List.drop_drop]

def cutB (s : ByteArray) (n : Int) : ByteArray := s.extract 0 (Ru.cutP n.toNat s.data.toList)

def Str (t : ByteArray) (w : World) (e : Ending) (w' : World) : Prop := e = .returned (.string t) ∧ Below w.heap.size w w'

theorem str_ret {t u : ByteArray} {w w' : World} (h : t = u) (hb : Below w.heap.size w w') : Str u w (.returned (.string t)) w' := ⟨by rw [h], hb⟩

def KeyRest (k : Nat) (l : List UInt8) : Bool := decide (k + (Ru.rns l).length ≤ 40) && (Ru.rns l).all Ru.okr

theorem keyRest_stop (s : ByteArray) (pos k : Nat) (hp : pos < s.size) (h : 40 < k + 1 ∨ Ru.okr (Utf8.decode s pos) = false) : KeyRest k (rest s pos) = false := by
  unfold KeyRest; rw [rest_next s pos hp, List.length_cons, List.all_cons]
  rcases h with h | h
  · rw [decide_eq_false (by omega), Bool.false_and]
  · rw [h, Bool.false_and, Bool.and_false]

theorem keyRest_go (s : ByteArray) (pos k : Nat) (hp : pos < s.size) (h : Ru.okr (Utf8.decode s pos) = true) : KeyRest k (rest s pos) = KeyRest (k + 1) (rest s (pos + (Utf8.decode s pos).2)) := by
  unfold KeyRest; rw [rest_next s pos hp, List.length_cons, List.all_cons, h, Bool.true_and]
  congr 2
  rw [Nat.add_assoc, Nat.add_comm 1]

theorem okr_low (x : Nat × Nat) (h : x.1 < 32) : Ru.okr x = false := by unfold Ru.okr; rw [decide_eq_false (by omega)]; simp

theorem okr_del (x : Nat × Nat) (h : x.1 = 127) : Ru.okr x = false := by unfold Ru.okr; rw [h]; simp

theorem okr_bad (x : Nat × Nat) (h : Ru.fine x = false) : Ru.okr x = false := by unfold Ru.okr; rw [h]; rfl

theorem okr_ok (x : Nat × Nat) (h : Ru.fine x = true) (h1 : ¬ x.1 < 32) (h2 : ¬ x.1 = 127) : Ru.okr x = true := by
  unfold Ru.okr; rw [h, decide_eq_true (by omega), bne_iff_ne.2 h2]; rfl

theorem low_cast (n : Nat) : lowZ (n : Int) = (Ru.low n : Nat) := by
  unfold lowZ Ru.low
  by_cases h : (65 ≤ n ∧ n ≤ 90) ∨ (192 ≤ n ∧ n ≤ 222 ∧ n ≠ 215) ∨ (913 ≤ n ∧ n ≤ 937 ∧ n ≠ 930) ∨ (1040 ≤ n ∧ n ≤ 1071)
  · rw [if_pos h, if_pos (by omega)]; rfl
  · rw [if_neg h, if_neg (by omega)]

def foldB (s : ByteArray) : ByteArray := ⟨(Ru.fld s.data.toList).toArray⟩

/-- what is still to be written -/
def fldR (l : List UInt8) : List UInt8 := Ru.fld l

theorem fldR_next (s : ByteArray) (pos : Nat) (h : pos < s.size) : fldR (rest s pos) = Ru.enc (Ru.low (Utf8.decode s pos).1) ++ fldR (rest s (pos + (Utf8.decode s pos).2)) := by
  unfold fldR Ru.fld; rw [rest_next s pos h]; rfl

theorem low_bd (s : ByteArray) (pos : Nat) : -2147483648 ≤ lowZ ((Utf8.decode s pos).1 : Int) ∧ lowZ ((Utf8.decode s pos).1 : Int) ≤ 2147483647 := by
  rw [low_cast]
  have h := Ru.low_ok _ (Ru.dcl_r (s.data.toList.drop pos))
  rw [← Ru.decode_list] at h; unfold Ru.rok at h; omega

def lesB (a b : ByteArray) : Bool := Ru.les a.data.toList b.data.toList

def runs (s : ByteArray) : List Nat := Ru.runs s.data.toList

theorem runs_next (s : ByteArray) (h : 0 < s.size) : runs s = (decB s).1 :: runs (s.extract (decB s).2 s.size) := by
  have h1 := rest_next s 0 h
  rw [decB_pos s h]; unfold runs Ru.runs
  rw [ext_list, show s.data.toList = rest s 0 from rfl, h1, List.map_cons, Nat.zero_add]

theorem decB_le (s : ByteArray) (h : 0 < s.size) : 1 ≤ (decB s).2 ∧ (decB s).2 ≤ s.size := by
  rw [decB_pos s h]; have := width_le s 0 h; have := width_pos s 0 h; omega

theorem runs_nil (s : ByteArray) (h : s.size = 0) : runs s = [] := by
  unfold runs Ru.runs; rw [show s.data.toList = rest s 0 from rfl, rest_end s 0 (by omega)]; rfl

theorem runs_ne (s : ByteArray) (h : 0 < s.size) : runs s ≠ [] := by rw [runs_next s h]; simp

theorem cmp_nil (x : List Nat) (t : Bool) (h : x ≠ []) : Ru.cmpR [] x t = true := by cases x <;> simp_all [Ru.cmpR]

theorem cmp_end (x : List Nat) (t : Bool) (h : x ≠ []) : Ru.cmpR x [] t = false := by cases x <;> simp_all [Ru.cmpR]

theorem lst_empty (x : ByteArray) (h : 0 < x.size) : x.toList.isEmpty = false := by
  rw [ByteArray.toList_eq]
  cases he : x.data.toList with
  | nil => have := congrArg List.length he; rw [Array.length_toList] at this; have h2 : x.data.size = x.size := rfl; rw [List.length_nil] at this; omega
  | cons => rfl

theorem lst_nil (x : ByteArray) (h : ¬ 0 < x.size) : x.toList = [] := by
  rw [ByteArray.toList_eq]
  apply List.eq_nil_of_length_eq_zero
  rw [Array.length_toList]; have h2 : x.data.size = x.size := rfl; omega

theorem cmp_step (x y : ByteArray) (t : Bool) (hx : 0 < x.size) (hy : 0 < y.size) : Ru.cmpR (runs x) (runs y) t = if (decB x).1 = (decB y).1 then Ru.cmpR (runs (x.extract (decB x).2 x.size)) (runs (y.extract (decB y).2 y.size)) t else decide ((decB x).1 < (decB y).1) := by
  rw [runs_next x hx, runs_next y hy]; rfl

theorem neq_of {a b : Nat} (h : ¬ a = b) : ((a : Int) != b) = true := by rw [bne_iff_ne]; omega

theorem neq_not {a b : Nat} (h : a = b) : ((a : Int) != b) = false := by rw [h]; simp

def Cmp (a b x y : ByteArray) : Prop := Ru.cmpR (runs x) (runs y) (Op.bytesLess a.toList b.toList) = lesB a b

theorem byt_get (s : ByteArray) (k : Nat) (h : k < s.size) : Ru.byt s.data.toList k = s[k].toNat := by
  unfold Ru.byt
  have h2 : k < s.data.toList.length := by rw [Array.length_toList]; exact h
  rw [List.getD, List.getElem?_eq_getElem h2]; rfl

/-- the model's decode of a text, by its first four bytes -/
def dN (s : ByteArray) : Nat × Nat := Lib.decodeN s.size (Ru.byt s.data.toList 0) (Ru.byt s.data.toList 1) (Ru.byt s.data.toList 2) (Ru.byt s.data.toList 3)

theorem dN_eq (s : ByteArray) (h : 0 < s.size) : decB s = dN s := by
  rw [decB_pos s h, Ru.decode_list, List.drop_zero]; unfold Ru.dcl dN; rw [Array.length_toList]; rfl

def bt (s : ByteArray) (k : Nat) : Nat := Ru.byt s.data.toList k

theorem bt_lt (s : ByteArray) (k : Nat) : bt s k < 256 := Ru.byt_lt _ _

/-- the number so far -/
def acc (s : ByteArray) (b : Int) : Nat → Int
  | 0 => b
  | 1 => b
  | k + 2 => acc s b (k + 1) * 64 + bt s (k + 1) - 128

def Conts (s : ByteArray) (k : Nat) : Prop := ∀ j, 1 ≤ j → j < k → 128 ≤ bt s j ∧ bt s j ≤ 191

theorem conts_one (s : ByteArray) : Conts s 1 := fun j h1 h2 => by omega

theorem conts_next (s : ByteArray) (k : Nat) (h : Conts s k) (h1 : 128 ≤ bt s k) (h2 : bt s k ≤ 191) : Conts s (k + 1) := fun j a b => by
  by_cases e : j = k
  · subst e; exact ⟨h1, h2⟩
  · exact h j a (by omega)

theorem acc_next (s : ByteArray) (b : Int) (k : Nat) (h : 1 ≤ k) : acc s b (k + 1) = acc s b k * 64 + bt s k - 128 := by
  cases k with
  | zero => omega
  | succ k => rfl

theorem acc_bd (s : ByteArray) (b : Int) (k : Nat) (hb0 : 0 ≤ b) (hb1 : b ≤ 31) (h : Conts s k) (h1 : 1 ≤ k) (h4 : k ≤ 4) : 0 ≤ acc s b k ∧ acc s b k ≤ 8388607 := by
  have a1 : acc s b 1 = b := rfl
  have a2 : acc s b 2 = acc s b 1 * 64 + bt s 1 - 128 := rfl
  have a3 : acc s b 3 = acc s b 2 * 64 + bt s 2 - 128 := rfl
  have a4 : acc s b 4 = acc s b 3 * 64 + bt s 3 - 128 := rfl
  have hk : k = 1 ∨ k = 2 ∨ k = 3 ∨ k = 4 := by omega
  rcases hk with rfl | rfl | rfl | rfl
  · omega
  · have := h 1 (by omega) (by omega); omega
  · have := h 1 (by omega) (by omega); have := h 2 (by omega) (by omega); omega
  · have := h 1 (by omega) (by omega); have := h 2 (by omega) (by omega); have := h 3 (by omega) (by omega); omega

set_option maxHeartbeats 4000000 in
theorem dN1 (n b0 b1 b2 b3 : Nat) (h : b0 < 128) : Lib.decodeN n b0 b1 b2 b3 = (b0, 1) := by unfold Lib.decodeN; rw [if_pos h]

set_option maxHeartbeats 4000000 in
theorem dNelse (n b0 b1 b2 b3 : Nat) (h : (128 ≤ b0 ∧ b0 < 192) ∨ 248 ≤ b0) (h2 : b0 < 256) : Lib.decodeN n b0 b1 b2 b3 = (65533, 1) := by
  unfold Lib.decodeN; rw [if_neg (by omega), if_neg (by omega), if_neg (by omega), if_neg (by omega)]

set_option maxHeartbeats 4000000 in
theorem dN2_ok (n b0 b1 b2 b3 : Nat) (v : Int) (h0 : 192 ≤ b0) (h1 : b0 < 224) (hn : 2 ≤ n) (c1 : 128 ≤ b1 ∧ b1 ≤ 191) (hv : v = ((b0 : Int) - 192) * 64 + b1 - 128) (ho : 128 ≤ v) : v = (Lib.decodeN n b0 b1 b2 b3).1 ∧ (2 : Int) = (Lib.decodeN n b0 b1 b2 b3).2 := by
  unfold Lib.decodeN; rw [if_neg (by omega), if_pos (by omega), if_pos (by omega)]; simp only; omega

set_option maxHeartbeats 4000000 in
theorem dN2_bad (n b0 b1 b2 b3 : Nat) (h0 : 192 ≤ b0) (h1 : b0 < 224) (h : n < 2 ∨ b1 < 128 ∨ 191 < b1 ∨ (128 ≤ b1 ∧ ((b0 : Int) - 192) * 64 + b1 - 128 < 128)) (g1 : b1 < 256) : Lib.decodeN n b0 b1 b2 b3 = (65533, 1) := by
  unfold Lib.decodeN; rw [if_neg (by omega)]
  by_cases hc : b0 / 32 = 6 ∧ (1 < n ∧ b1 / 64 = 2)
  · rw [if_pos hc, if_neg (by omega)]
  · rw [if_neg hc, if_neg (by omega), if_neg (by omega)]

set_option maxHeartbeats 4000000 in
theorem dN3_ok (n b0 b1 b2 b3 : Nat) (v : Int) (h0 : 224 ≤ b0) (h1 : b0 < 240) (hn : 3 ≤ n) (c1 : 128 ≤ b1 ∧ b1 ≤ 191) (c2 : 128 ≤ b2 ∧ b2 ≤ 191) (hv : v = (((b0 : Int) - 224) * 64 + b1 - 128) * 64 + b2 - 128) (ho : 2048 ≤ v) (hs : v < 55296 ∨ 57344 ≤ v) : v = (Lib.decodeN n b0 b1 b2 b3).1 ∧ (3 : Int) = (Lib.decodeN n b0 b1 b2 b3).2 := by
  unfold Lib.decodeN; rw [if_neg (by omega), if_neg (by omega), if_pos (by omega), if_pos (by omega)]; simp only; omega

set_option maxHeartbeats 4000000 in
theorem dN3_bad (n b0 b1 b2 b3 : Nat) (h0 : 224 ≤ b0) (h1 : b0 < 240) (g1 : b1 < 256) (g2 : b2 < 256) (h : n < 3 ∨ b1 < 128 ∨ 191 < b1 ∨ b2 < 128 ∨ 191 < b2 ∨ (128 ≤ b1 ∧ 128 ≤ b2 ∧ ((((b0 : Int) - 224) * 64 + b1 - 128) * 64 + b2 - 128 < 2048 ∨ (55296 ≤ (((b0 : Int) - 224) * 64 + b1 - 128) * 64 + b2 - 128 ∧ (((b0 : Int) - 224) * 64 + b1 - 128) * 64 + b2 - 128 < 57344)))) : Lib.decodeN n b0 b1 b2 b3 = (65533, 1) := by
  unfold Lib.decodeN; rw [if_neg (by omega), if_neg (by omega)]
  by_cases hc : b0 / 16 = 14 ∧ (1 < n ∧ b1 / 64 = 2) ∧ (2 < n ∧ b2 / 64 = 2)
  · rw [if_pos hc, if_neg (by omega)]
  · rw [if_neg hc, if_neg (by omega)]

set_option maxHeartbeats 4000000 in
theorem dN4_ok (n b0 b1 b2 b3 : Nat) (v : Int) (h0 : 240 ≤ b0) (h1 : b0 < 248) (hn : 4 ≤ n) (c1 : 128 ≤ b1 ∧ b1 ≤ 191) (c2 : 128 ≤ b2 ∧ b2 ≤ 191) (c3 : 128 ≤ b3 ∧ b3 ≤ 191) (hv : v = ((((b0 : Int) - 240) * 64 + b1 - 128) * 64 + b2 - 128) * 64 + b3 - 128) (ho : 65536 ≤ v) (hs : v ≤ 1114111) : v = (Lib.decodeN n b0 b1 b2 b3).1 ∧ (4 : Int) = (Lib.decodeN n b0 b1 b2 b3).2 := by
  unfold Lib.decodeN; rw [if_neg (by omega), if_neg (by omega), if_neg (by omega), if_pos (by omega), if_pos (by omega)]; simp only; omega

set_option maxHeartbeats 4000000 in
theorem dN4_bad (n b0 b1 b2 b3 : Nat) (h0 : 240 ≤ b0) (h1 : b0 < 248) (g1 : b1 < 256) (g2 : b2 < 256) (g3 : b3 < 256) (h : n < 4 ∨ b1 < 128 ∨ 191 < b1 ∨ b2 < 128 ∨ 191 < b2 ∨ b3 < 128 ∨ 191 < b3 ∨ (128 ≤ b1 ∧ 128 ≤ b2 ∧ 128 ≤ b3 ∧ (((((b0 : Int) - 240) * 64 + b1 - 128) * 64 + b2 - 128) * 64 + b3 - 128 < 65536 ∨ 1114111 < ((((b0 : Int) - 240) * 64 + b1 - 128) * 64 + b2 - 128) * 64 + b3 - 128))) : Lib.decodeN n b0 b1 b2 b3 = (65533, 1) := by
  unfold Lib.decodeN; rw [if_neg (by omega), if_neg (by omega), if_neg (by omega)]
  by_cases hc : b0 / 8 = 30 ∧ (1 < n ∧ b1 / 64 = 2) ∧ (2 < n ∧ b2 / 64 = 2) ∧ (3 < n ∧ b3 / 64 = 2)
  · rw [if_pos hc, if_neg (by omega)]
  · rw [if_neg hc]

/-- what the reference's Decode hands back: the world is as it was -/
def DecQ (r : Nat × Nat) (w : World) (e : Ending) (w' : World) : Prop := e = .returned (.tuple #[.int .i32 r.1, .int .i64 r.2]) ∧ w = w'

/-- what Decode hands back -/
theorem dec_is (s : ByteArray) (w : World) (a b : Int) (h0 : 0 < s.size) (h : a = (dN s).1 ∧ b = (dN s).2) : DecQ (decB s) w (.returned (.tuple #[.int .i32 a, .int .i64 b])) w := by
  rw [dN_eq s h0]; exact ⟨by rw [h.1, h.2], rfl⟩

theorem dec_bad (s : ByteArray) (w : World) (h0 : 0 < s.size) (h : dN s = (65533, 1)) : DecQ (decB s) w (.returned (.tuple #[.int .i32 65533, .int .i64 1])) w :=
  dec_is s w _ _ h0 (by rw [h]; exact ⟨rfl, rfl⟩)

theorem decB_at (s : ByteArray) (pos : Nat) (h : pos < s.size) : decB (s.extract pos s.size) = Utf8.decode s pos := by
  have h2 : 0 < (s.extract pos s.size).size := by rw [ByteArray.size_extract]; omega
  rw [decB_pos _ h2, Ru.decode_list, List.drop_zero, ext_list, Ru.decode_list]; rfl

/-- where each rune begins -/
def ats : Nat → List (Nat × Nat) → List Nat
  | _, [] => []
  | p, x :: l => p :: ats (p + x.2) l

theorem ats_snoc (x : Nat × Nat) : ∀ (l : List (Nat × Nat)) (p : Nat), ats p (l ++ [x]) = ats p l ++ [p + Ru.wsum l]
  | [], p => by simp [ats]
  | a :: l, p => by simp [ats, ats_snoc x l, Nat.add_assoc]

theorem ats_len : ∀ (l : List (Nat × Nat)) (p : Nat), (ats p l).length = l.length
  | [], p => rfl
  | a :: l, p => by simp [ats, ats_len l]

def runeVals (R : List (Nat × Nat)) : List Value := R.map fun x : Nat × Nat => Value.int .i32 (x.1 : Int)

def atVals (R : List (Nat × Nat)) : List Value := (ats 0 R).map fun x : Nat => Value.int .i64 (x : Int)

theorem runeVals_snoc (R : List (Nat × Nat)) (x : Nat × Nat) : runeVals (R ++ [x]) = runeVals R ++ [.int .i32 (x.1 : Int)] := by simp [runeVals]

theorem atVals_snoc (R : List (Nat × Nat)) (x : Nat × Nat) (p : Nat) (h : p = Ru.wsum R) : atVals (R ++ [x]) = atVals R ++ [.int .i64 (p : Int)] := by
  subst h; unfold atVals; rw [ats_snoc, List.map_append, Nat.zero_add]; rfl

/-- rows of different element types lie in different blocks -/
theorem own_apart {w : World} {B B' e e' s s' n n' : Nat} {v v' : Value} {x x' : List Value} (h : w.ownsRow B e s v n x) (h' : w.ownsRow B' e' s' v' n' x') (hne : e ≠ e') : v.ownBlock = Option.none ∨ v.ownBlock ≠ v'.ownBlock := by
  rcases h.2 with ⟨rfl, _⟩ | ⟨g, c, cur, rfl, _, hg, _⟩
  · exact .inl rfl
  · rcases h'.2 with ⟨rfl, _⟩ | ⟨g', c', cur', rfl, _, hg', _⟩
    · exact .inr (by simp [Value.ownBlock])
    · refine .inr fun e1 => ?_
      have : g = g' := by simpa [Value.ownBlock] using e1
      subst this
      rw [hg] at hg'; injection hg' with hg'; injection hg' with _ ht; exact hne ht

theorem own_read {w : World} {B e n : Nat} {v : Value} {xs : List Value} (h : w.ownsRow B e 1 v n xs) :
    ∃ A c, v = .slice A n c ∧ (0 < n → ∃ g, A = some ⟨g, 0, Option.none⟩ ∧ g < w.heap.size ∧ ∀ k u, xs[k]? = some u → w.cell? ⟨g, k, Option.none⟩ = some u) := by
  have hc := fun (g : Nat) (hg : v.ownBlock = some g) => h.cells hg
  rcases h.2 with ⟨rfl, rfl⟩ | ⟨g, c, cur, rfl, _⟩
  · exact ⟨Option.none, 0, rfl, fun h => absurd h (by omega)⟩
  · refine ⟨_, c, rfl, fun _ => ⟨g, rfl, (h.lt g rfl).2, fun k u hu => ?_⟩⟩
    have h2 := hc g rfl k u hu
    have e1 : (⟨g, 0, Option.none⟩ : Addr).add k = ⟨g, k, Option.none⟩ := by unfold Addr.add; split <;> simp_all
    rw [e1] at h2; exact h2

theorem runeVals_at (R : List (Nat × Nat)) (k : Nat) (h : k < R.length) : (runeVals R)[k]? = some (.int .i32 (R[k].1 : Nat)) := by
  simp [runeVals, h]

theorem okr_none (R : List (Nat × Nat)) (h : R.all Ru.fine = false) : R.all Ru.okr = false := by
  obtain ⟨x, hx, hf⟩ := List.all_eq_false.1 h
  exact List.all_eq_false.2 ⟨x, hx, by rw [okr_bad x (by simpa using hf)]; simp⟩

theorem atVals_at (R : List (Nat × Nat)) (k : Nat) (h : k < R.length) : (atVals R)[k]? = some (.int .i64 (Ru.wsum (R.take k) : Nat)) := by
  have key : ∀ (R : List (Nat × Nat)) (p k : Nat), k < R.length → (ats p R)[k]? = some (p + Ru.wsum (R.take k)) := by
    intro R; induction R with
    | nil => intro p k h; simp at h
    | cons x R ih =>
      intro p k h
      cases k with
      | zero => simp [ats]
      | succ k => simp only [ats, List.getElem?_cons_succ, List.take_succ_cons, Ru.wsum_cons]; rw [ih _ k (by simpa using h), Nat.add_assoc]
  unfold atVals; rw [List.getElem?_map, key R 0 k h]; simp

theorem cmp_drop (P Q : List Nat) (t : Bool) (k : Nat) (h1 : k < P.length) (h2 : k < Q.length) : Ru.cmpR (P.drop k) (Q.drop k) t = if P[k] = Q[k] then Ru.cmpR (P.drop (k + 1)) (Q.drop (k + 1)) t else decide (P[k] < Q[k]) := by
  rw [List.drop_eq_getElem_cons h1, List.drop_eq_getElem_cons h2]; rfl

theorem runeVals_runs (R : List (Nat × Nat)) (k : Nat) (h : k < (R.map (·.1)).length) : (runeVals R)[k]? = some (.int .i32 ((R.map (·.1))[k] : Nat)) := by
  rw [List.length_map] at h
  rw [runeVals_at R k h]; simp

theorem fld_drop (R : List (Nat × Nat)) (k : Nat) (h : k < R.length) : Ru.encs ((R.drop k).map fun x => Ru.low x.1) = Ru.enc (Ru.low R[k].1) ++ Ru.encs ((R.drop (k + 1)).map fun x => Ru.low x.1) := by
  rw [List.drop_eq_getElem_cons h]; rfl

theorem ret_pair {a b c d : Int} (h : a = c) (h2 : b = d) : Ending.returned (.tuple #[.int .i32 a, .int .i64 b]) = .returned (.tuple #[.int .i32 c, .int .i64 d]) := by rw [h, h2]

theorem ret_str {a b : ByteArray} (h : a = b) : Ending.returned (.string a) = .returned (.string b) := by rw [h]

def Some (n : Int) (w : World) (e : Ending) (w' : World) : Prop := ∃ t : ByteArray, (t.size : Int) ≤ n ∧ e = .returned (.string t) ∧ w = w'

def ED (r : Int) : Nat := if (0 ≤ r ∧ r < 55296) ∨ (57344 ≤ r ∧ r ≤ 1114111) then r.toNat else 65533

theorem enc_ED (r : Int) : Lib.encodeRune r = Ru.enc (ED r) := by
  unfold ED; split
  · unfold Ru.enc; congr 1; omega
  · have e : Lib.encodeRuneZ r = [239, 191, 189] := Lib.encodeRuneZ_bad (by omega)
    unfold Lib.encodeRune; rw [e]; decide

theorem ED_ok (r : Int) : Ru.rok (ED r) := by unfold ED Ru.rok; split <;> omega

theorem join_list (a b : ByteArray) : (a ++ b).data.toList = a.data.toList ++ b.data.toList := by rw [ByteArray.data_append, Array.toList_append]

theorem bytes_eq {a b : ByteArray} (h : a.data.toList = b.data.toList) : a = b := ByteArray.ext (Array.toList_inj.1 h)

theorem cnt_le (a : ByteArray) : Ru.cnt a.data.toList ≤ a.size := by
  have := Ru.rns_len a.data.toList
  rw [Array.length_toList] at this; exact this

theorem foldB_list (a : ByteArray) : (foldB a).data.toList = Ru.fld a.data.toList := by simp [foldB]

theorem foldB_le (a : ByteArray) : (foldB a).size ≤ 4 * a.size := by
  have := Ru.fld_len a.data.toList
  rw [Array.length_toList] at this
  exact this

theorem foldB_join (a b : ByteArray) (h : Ru.vld a.data.toList = true) : foldB (a ++ b) = foldB a ++ foldB b := by
  apply bytes_eq
  rw [join_list, foldB_list, foldB_list, foldB_list, join_list, Ru.fld_append _ _ h]

theorem cutB_list (s : ByteArray) (n : Int) : (cutB s n).data.toList = s.data.toList.take (Ru.cutP n.toNat s.data.toList) := by
  unfold cutB
  rw [ByteArray.data_extract, Array.toList_extract, List.extract_eq_take_drop]; simp

theorem cutB_join (a b : ByteArray) (h : Ru.vld a.data.toList = true) : cutB (a ++ b) (Ru.cnt a.data.toList : Nat) = a := by
  apply bytes_eq
  rw [cutB_list, Int.toNat_natCast, join_list, Ru.cut_front _ _ h, List.take_left]

def cN (s : ByteArray) : Nat := Ru.cnt s.data.toList

theorem cutB_size (t : ByteArray) (n : Int) : (cutB t n).size = Ru.cutP n.toNat t.data.toList := by
  have := Ru.cutP_le n.toNat t.data.toList
  rw [Array.length_toList] at this
  unfold cutB; rw [ByteArray.size_extract]
  have e : t.data.size = t.size := rfl
  omega

theorem cutB_front (t : ByteArray) (n : Int) : t.extract 0 (cutB t n).size = cutB t n := by rw [cutB_size]; rfl

theorem cutB_cnt (t : ByteArray) (n : Int) : cN (cutB t n) = min n.toNat (cN t) := by
  unfold cN; rw [cutB_list, Ru.cnt_cut]

theorem cutB_rest (t : ByteArray) (n : Int) : cN (cutB t n) + cN (t.extract (cutB t n).size t.size) = cN t := by
  rw [cutB_cnt]
  unfold cN; rw [ext_list, cutB_size]; unfold rest
  rw [Ru.cnt_rest]; omega

theorem below_step {a W V : World} (hb : Below W.heap.size W V) (h : Below a.heap.size a W) : Below a.heap.size a V := h.trans (hb.mono h.size)
end Go.Proofs.Ytoekiencnbgmhaa
