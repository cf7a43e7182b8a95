/-
  The small functions of package runes and of the reference, each returns what the plain functions say: lower, encode, cut to a length.
  There are no conditions beyond the ranges of Go's own types.
-/
import Derived.Test.YtplogecejioolaaShelf
import Derived.Test.YtplogecejioolaaRunesPlain
import Derived.WalkKit
import Derived.WalkLawsBesides
import Derived.WalkSpells
import Derived.BigCall
import Derived.BigQuiet
import Derived.Deep.QuietTactic
import Derived.Deep.LoopGhost
import Derived.Lib.Hide
import Derived.Outline
namespace Go.Proofs.Ytplogecejioolaa
open Go.RowKit

def lowZ (r : Int) : Int := if (65 ≤ r ∧ r ≤ 90) ∨ (192 ≤ r ∧ r ≤ 222 ∧ r ≠ 215) ∨ (913 ≤ r ∧ r ≤ 937 ∧ r ≠ 930) ∨ (1040 ≤ r ∧ r ≤ 1071) then r + 32 else r

theorem low_split (a r : Int) (h : ((65 ≤ r ∧ r ≤ 90) ∨ (192 ≤ r ∧ r ≤ 222 ∧ r ≠ 215) ∨ (913 ≤ r ∧ r ≤ 937 ∧ r ≠ 930) ∨ (1040 ≤ r ∧ r ≤ 1071)) ∧ a = r + 32 ∨ ¬ ((65 ≤ r ∧ r ≤ 90) ∨ (192 ≤ r ∧ r ≤ 222 ∧ r ≠ 215) ∨ (913 ≤ r ∧ r ≤ 937 ∧ r ≠ 930) ∨ (1040 ≤ r ∧ r ≤ 1071)) ∧ a = r) : a = lowZ r := by
  unfold lowZ; rcases h with ⟨h, e⟩ | ⟨h, e⟩
  · rw [if_pos h, e]
  · rw [if_neg h, e]
theorem ret_i32 {a b : Int} (h : a = b) : Ending.returned (.int .i32 a) = .returned (.int .i32 b) := by rw [h]

set_option maxHeartbeats 1000000 in
theorem lower_any (r : Int) (w : World) (h0 : -2147483648 ≤ r) (h1 : r ≤ 2147483647) :
    Calls Try.prog 27 #[.int .i32 r] w fun e w' => e = .returned (.int .i32 (lowZ r)) ∧ w = w' := by
  go_enter Try.func27, Try.ntmps27
  go_wp2
  all_goals (go_ret; exact ⟨ret_i32 (by unfold lowZ; simp only [bne_iff_ne, bne_eq_false_iff_eq, ne_eq] at *; split <;> first | omega | rfl), rfl⟩)
set_option maxHeartbeats 1000000 in
theorem rlower_any (r : Int) (w : World) (h0 : -2147483648 ≤ r) (h1 : r ≤ 2147483647) :
    Calls Try.prog 28 #[.int .i32 r] w fun e w' => e = .returned (.int .i32 (lowZ r)) ∧ w = w' := by
  go_enter Try.func28, Try.ntmps28
  go_wp2
  all_goals (go_ret; exact ⟨ret_i32 (low_split _ _ (by omega)), rfl⟩)
theorem ofNat_u8 (a : Nat) (b : Int) (h : b.toNat = a) : UInt8.ofNat a = b.toNat.toUInt8 := by rw [h]
theorem enc_str (r : Int) : Utf8.encode r = ⟨(Lib.encodeRune r).toArray⟩ := by
  have hv : Utf8.valid r = decide ((0 ≤ r ∧ r < 55296) ∨ (57343 < r ∧ r ≤ 1114111)) := validRune_eq r
  have hcase : (0 ≤ r ∧ r ≤ 127) ∨ (128 ≤ r ∧ r ≤ 2047) ∨ ((2048 ≤ r ∧ r < 55296) ∨ (57343 < r ∧ r ≤ 65535)) ∨ (65536 ≤ r ∧ r ≤ 1114111) ∨ (r < 0 ∨ (55296 ≤ r ∧ r ≤ 57343) ∨ 1114111 < r) := by omega
  unfold Utf8.encode
  rcases hcase with h | h | h | h | h
  · have e : Lib.encodeRuneZ r = [r] := Lib.encodeRuneZ_one h.1 h.2
    rw [hv, decide_eq_true (by omega)]
    simp only [if_true, Lib.encodeRune, e, List.map]
    rw [if_pos (by omega)]
  · have e : Lib.encodeRuneZ r = [192 + r / 64, 128 + r % 64] := Lib.encodeRuneZ_two h.1 h.2
    rw [hv, decide_eq_true (by omega)]
    simp only [if_true, Lib.encodeRune, e, List.map]
    rw [if_neg (by omega), if_pos (by omega)]
    rw [ofNat_u8 (192 + r.toNat / 64) (192 + r / 64) (by omega), ofNat_u8 (128 + r.toNat % 64) (128 + r % 64) (by omega)]
  · have e : Lib.encodeRuneZ r = [224 + r / 4096, 128 + r / 64 % 64, 128 + r % 64] := Lib.encodeRuneZ_three h
    rw [hv, decide_eq_true (by omega)]
    simp only [if_true, Lib.encodeRune, e, List.map]
    rw [if_neg (by omega), if_neg (by omega), if_pos (by omega)]
    rw [ofNat_u8 (224 + r.toNat / 4096) (224 + r / 4096) (by omega), ofNat_u8 (128 + r.toNat / 64 % 64) (128 + r / 64 % 64) (by omega), ofNat_u8 (128 + r.toNat % 64) (128 + r % 64) (by omega)]
  · have e : Lib.encodeRuneZ r = [240 + r / 262144, 128 + r / 4096 % 64, 128 + r / 64 % 64, 128 + r % 64] := Lib.encodeRuneZ_four h.1 h.2
    rw [hv, decide_eq_true (by omega)]
    simp only [if_true, Lib.encodeRune, e, List.map]
    rw [if_neg (by omega), if_neg (by omega), if_neg (by omega)]
    rw [ofNat_u8 (240 + r.toNat / 262144) (240 + r / 262144) (by omega), ofNat_u8 (128 + r.toNat / 4096 % 64) (128 + r / 4096 % 64) (by omega), ofNat_u8 (128 + r.toNat / 64 % 64) (128 + r / 64 % 64) (by omega), ofNat_u8 (128 + r.toNat % 64) (128 + r % 64) (by omega)]
  · have e : Lib.encodeRuneZ r = [239, 191, 189] := Lib.encodeRuneZ_bad h
    rw [hv, decide_eq_false (by omega)]
    simp only [Lib.encodeRune, e, Bool.false_eq_true, if_false]; decide
theorem encode_any (r : Int) (w : World) :
    Calls Try.prog 25 #[.int .i32 r] w fun e w' => e = .returned (.string ⟨(Lib.encodeRune r).toArray⟩) ∧ w = w' := by
  go_enter Try.func25, Try.ntmps25
  go_wp2
  go_ret
  exact ⟨by rw [enc_str]; rfl, rfl⟩
theorem conv_new (w : World) (C : Array Value) (n : Nat) (xs : List Int) (hn : xs.length = n) (hC : C = (xs.map (Value.int .u8)).toArray) :
    (convert 39 9 (.slice (some ⟨w.heap.size, 0, none⟩) n n)).run Try.prog (w.alloc (.cells C 5)) = .ok (.string (strOfNums xs)) (w.alloc (.cells C 5)) := by
  refine run_convert_bytes_arg (w.alloc (.cells C 5)) 39 5 Try.underlying39 Try.underlying5 w.heap.size 0 n n xs hn (fun i hi => ?_) 9 Try.underlying9
  rw [World.cell?_alloc_mark, hC]
  simp [hn, hi, List.getD]
theorem conv1 (w : World) (a : Int) : (convert 39 9 (.slice (some ⟨w.heap.size, 0, none⟩) 1 1)).run Try.prog (w.alloc (.cells #[.int .u8 a] 5)) = .ok (.string (strOfNums [a])) (w.alloc (.cells #[.int .u8 a] 5)) := conv_new w _ 1 [a] rfl rfl
theorem conv2 (w : World) (a b : Int) : (convert 39 9 (.slice (some ⟨w.heap.size, 0, none⟩) 2 2)).run Try.prog (w.alloc (.cells #[.int .u8 a, .int .u8 b] 5)) = .ok (.string (strOfNums [a, b])) (w.alloc (.cells #[.int .u8 a, .int .u8 b] 5)) := conv_new w _ 2 [a, b] rfl rfl
theorem conv3 (w : World) (a b c : Int) : (convert 39 9 (.slice (some ⟨w.heap.size, 0, none⟩) 3 3)).run Try.prog (w.alloc (.cells #[.int .u8 a, .int .u8 b, .int .u8 c] 5)) = .ok (.string (strOfNums [a, b, c])) (w.alloc (.cells #[.int .u8 a, .int .u8 b, .int .u8 c] 5)) := conv_new w _ 3 [a, b, c] rfl rfl
theorem conv4 (w : World) (a b c d : Int) : (convert 39 9 (.slice (some ⟨w.heap.size, 0, none⟩) 4 4)).run Try.prog (w.alloc (.cells #[.int .u8 a, .int .u8 b, .int .u8 c, .int .u8 d] 5)) = .ok (.string (strOfNums [a, b, c, d])) (w.alloc (.cells #[.int .u8 a, .int .u8 b, .int .u8 c, .int .u8 d] 5)) := conv_new w _ 4 [a, b, c, d] rfl rfl
theorem nums_enc (xs : List Int) (r : Int) (h : Lib.encodeRuneZ r = xs) : Ending.returned (.string (strOfNums xs)) = .returned (.string ⟨(Lib.encodeRune r).toArray⟩) := by
  rw [← h]; rfl
theorem below_new (w : World) (o : Obj) : Below w.heap.size w (w.alloc o) := (Below.refl _ _).alloc (Nat.le_refl _) _

def Enc (r : Int) (w : World) (e : Ending) (w' : World) : Prop := e = .returned (.string ⟨(Lib.encodeRune r).toArray⟩) ∧ Below w.heap.size w w'
set_option maxHeartbeats 1000000 in
theorem rencode1 (r : Int) (w : World) (h0 : 0 ≤ r) (h1 : r ≤ 127) : Calls Try.prog 26 #[.int .i32 r] w (Enc r w) := by
  have kc := conv1 w
  have hr := nums_enc [r] r (Lib.encodeRuneZ_one h0 h1)
  have HR := Lib.hid hr; clear hr
  go_enter Try.func26, Try.ntmps26
  go_wp2
  go_ret
  exact ⟨HR.out, below_new _ _⟩
set_option maxHeartbeats 1000000 in
theorem rencode2 (r : Int) (w : World) (h0 : 128 ≤ r) (h1 : r ≤ 2047) : Calls Try.prog 26 #[.int .i32 r] w (Enc r w) := by
  have kc := conv2 w
  have hr := nums_enc _ r (Lib.encodeRuneZ_two h0 h1)
  have HR := Lib.hid hr; clear hr
  go_enter Try.func26, Try.ntmps26
  go_wp2
  go_ret
  exact ⟨HR.out, below_new _ _⟩
set_option maxHeartbeats 1000000 in
theorem rencode3 (r : Int) (w : World) (h0 : 2048 ≤ r) (h1 : r < 55296) : Calls Try.prog 26 #[.int .i32 r] w (Enc r w) := by
  have kc := conv3 w
  have hr := nums_enc _ r (Lib.encodeRuneZ_three (.inl ⟨h0, h1⟩))
  have HR := Lib.hid hr; clear hr
  go_enter Try.func26, Try.ntmps26
  go_wp2
  go_ret
  exact ⟨HR.out, below_new _ _⟩
set_option maxHeartbeats 1000000 in
theorem rencode3b (r : Int) (w : World) (h0 : 57344 ≤ r) (h1 : r ≤ 65535) : Calls Try.prog 26 #[.int .i32 r] w (Enc r w) := by
  have kc := conv3 w
  have hr := nums_enc _ r (Lib.encodeRuneZ_three (.inr ⟨by omega, h1⟩))
  have HR := Lib.hid hr; clear hr
  go_enter Try.func26, Try.ntmps26
  go_wp2
  go_ret
  exact ⟨HR.out, below_new _ _⟩
set_option maxHeartbeats 1000000 in
theorem rencode4 (r : Int) (w : World) (h0 : 65536 ≤ r) (h1 : r ≤ 1114111) : Calls Try.prog 26 #[.int .i32 r] w (Enc r w) := by
  have kc := conv4 w
  have hr := nums_enc _ r (Lib.encodeRuneZ_four h0 h1)
  have HR := Lib.hid hr; clear hr
  go_enter Try.func26, Try.ntmps26
  go_wp2
  go_ret
  exact ⟨HR.out, below_new _ _⟩
set_option maxHeartbeats 1000000 in
theorem rencode5 (r : Int) (w : World) (h : r < 0 ∨ (55296 ≤ r ∧ r < 57344) ∨ 1114111 < r) : Calls Try.prog 26 #[.int .i32 r] w (Enc r w) := by
  have kc := conv3 w 239 191 189
  have hr := nums_enc _ r (Lib.encodeRuneZ_bad (by omega))
  have HR := Lib.hid hr; clear hr
  rcases h with h | h | h
  all_goals
    go_enter Try.func26, Try.ntmps26
    go_wp2
    go_ret
    exact ⟨HR.out, below_new _ _⟩
theorem rencode_any (r : Int) (w : World) : Calls Try.prog 26 #[.int .i32 r] w fun e w' => e = .returned (.string ⟨(Lib.encodeRune r).toArray⟩) ∧ Below w.heap.size w w' := by
  have hcase : (0 ≤ r ∧ r ≤ 127) ∨ (128 ≤ r ∧ r ≤ 2047) ∨ (2048 ≤ r ∧ r < 55296) ∨ (57344 ≤ r ∧ r ≤ 65535) ∨ (65536 ≤ r ∧ r ≤ 1114111) ∨ (r < 0 ∨ (55296 ≤ r ∧ r < 57344) ∨ 1114111 < r) := by omega
  rcases hcase with h | h | h | h | h | h
  · exact rencode1 r w h.1 h.2
  · exact rencode2 r w h.1 h.2
  · exact rencode3 r w h.1 h.2
  · exact rencode3b r w h.1 h.2
  · exact rencode4 r w h.1 h.2
  · exact rencode5 r w h
end Go.Proofs.Ytplogecejioolaa
