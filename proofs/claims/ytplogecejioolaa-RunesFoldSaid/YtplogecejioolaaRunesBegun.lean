/-
  begun of the first layer's statements returns true; a text that is cut to a length is some text of at most that length.
  There are no conditions.
-/
import Derived.Test.YtplogecejioolaaRunesRefTop
namespace Go.Proofs.Ytplogecejioolaa
open Go.RowKit

theorem ret_pair {a b c d : Int} (h : a = c) (h2 : b = d) : Ending.returned (.tuple #[.int .i32 a, .int .i64 b]) = .returned (.tuple #[.int .i32 c, .int .i64 d]) := by rw [h, h2]
theorem ret_str {a b : ByteArray} (h : a = b) : Ending.returned (.string a) = .returned (.string b) := by rw [h]
theorem b_dec (w : World) : Calls Try.prog 15 #[.string ⟨#[195, 169, 120]⟩] w fun e w' => e = .returned (.tuple #[.int .i32 233, .int .i64 2]) ∧ Below w.heap.size w w' :=
  (decode_any ⟨#[195, 169, 120]⟩ w (by unfold maxLen; decide)).mono fun e w' ⟨he, hb⟩ => ⟨by rw [he]; exact ret_pair (by decide +kernel) (by decide +kernel), hb⟩
theorem b_val1 (w : World) : Calls Try.prog 17 #[.string ⟨#[97, 195, 169]⟩] w fun e w' => e = .returned (.bool true) ∧ Below w.heap.size w w' :=
  (valid_any ⟨#[97, 195, 169]⟩ w).mono fun e w' ⟨he, hb⟩ => ⟨by rw [he]; exact ret_bool (by decide +kernel), hb⟩
theorem b_val2 (w : World) : Calls Try.prog 17 #[.string ⟨#[255]⟩] w fun e w' => e = .returned (.bool false) ∧ Below w.heap.size w w' :=
  (valid_any ⟨#[255]⟩ w).mono fun e w' ⟨he, hb⟩ => ⟨by rw [he]; exact ret_bool (by decide +kernel), hb⟩
theorem b_cnt (w : World) : Calls Try.prog 18 #[.string ⟨#[97, 195, 169, 255]⟩] w fun e w' => e = .returned (.int .i64 3) ∧ Below w.heap.size w w' :=
  (count_any ⟨#[97, 195, 169, 255]⟩ w (by unfold maxLen; decide)).mono fun e w' ⟨he, hb⟩ => ⟨by rw [he]; exact ret_i64 (by decide +kernel), hb⟩
theorem b_cut (w : World) : Calls Try.prog 19 #[.string ⟨#[97, 195, 169, 98]⟩, .int .i64 2] w fun e w' => e = .returned (.string ⟨#[97, 195, 169]⟩) ∧ Below w.heap.size w w' :=
  (cut_any ⟨#[97, 195, 169, 98]⟩ 2 w (by decide) (by decide) (by decide)).mono fun e w' ⟨he, hb⟩ => ⟨by rw [he]; exact ret_str (by decide +kernel), hb⟩
theorem b_key1 (w : World) : Calls Try.prog 21 #[.string ⟨#[107]⟩] w fun e w' => e = .returned (.bool true) ∧ Below w.heap.size w w' :=
  (key_any ⟨#[107]⟩ w).mono fun e w' ⟨he, hb⟩ => ⟨by rw [he]; exact ret_bool (by decide +kernel), hb⟩
theorem b_key2 (w : World) : Calls Try.prog 21 #[.string ⟨#[]⟩] w fun e w' => e = .returned (.bool false) ∧ Below w.heap.size w w' :=
  (key_any ⟨#[]⟩ w).mono fun e w' ⟨he, hb⟩ => ⟨by rw [he]; exact ret_bool (by decide +kernel), hb⟩
theorem b_less (w : World) : Calls Try.prog 29 #[.string ⟨#[97]⟩, .string ⟨#[98]⟩] w fun e w' => e = .returned (.bool true) ∧ Below w.heap.size w w' :=
  (less_any ⟨#[97]⟩ ⟨#[98]⟩ w (by unfold maxLen; decide) (by unfold maxLen; decide)).mono fun e w' ⟨he, hb⟩ => ⟨by rw [he]; exact ret_bool (by decide +kernel), hb⟩
theorem b_low (w : World) : Calls Try.prog 27 #[.int .i32 65] w fun e w' => e = .returned (.int .i32 97) ∧ w = w' :=
  (lower_any 65 w (by decide) (by decide)).mono fun e w' ⟨he, hb⟩ => ⟨by rw [he]; exact ret_i32 (by decide), hb⟩
theorem b_fold (w : World) : Calls Try.prog 23 #[.string ⟨#[195, 128, 255]⟩] w fun e w' => e = .returned (.string ⟨#[195, 160, 239, 191, 189]⟩) ∧ Below w.heap.size w w' :=
  (fold_any ⟨#[195, 128, 255]⟩ w (by decide)).mono fun e w' ⟨he, hb⟩ => ⟨by rw [he]; exact ret_str (by decide +kernel), hb⟩
theorem b_enc (w : World) : Calls Try.prog 25 #[.int .i32 55296] w fun e w' => e = .returned (.string ⟨#[239, 191, 189]⟩) ∧ w = w' :=
  (encode_any 55296 w).mono fun e w' ⟨he, hb⟩ => ⟨by rw [he]; exact ret_str (by decide +kernel), hb⟩

set_option maxRecDepth 100000 in
set_option maxHeartbeats 4000000 in
theorem begun_any (w : World) : Calls Try.prog 12 #[] w fun e w' => e = .returned (.bool true) ∧ Below w.heap.size w w' := by
  go_enter Try.func12, Try.ntmps12
  go_wp2_with fail
  refine (b_dec _).mono ?_
  rintro e w1 ⟨rfl, k1⟩
  go_wp2_with fail
  refine (b_val1 _).mono ?_
  rintro e w2 ⟨rfl, k2⟩
  have k2 := k1.trans (k2.mono k1.size); clear k1
  go_wp2_with fail
  refine (b_val2 _).mono ?_
  rintro e w3 ⟨rfl, k3⟩
  have k3 := k2.trans (k3.mono k2.size); clear k2
  go_wp2_with fail
  refine (b_cnt _).mono ?_
  rintro e w4 ⟨rfl, k4⟩
  have k4 := k3.trans (k4.mono k3.size); clear k3
  go_wp2_with fail
  refine (b_cut _).mono ?_
  rintro e w5 ⟨rfl, k5⟩
  have k5 := k4.trans (k5.mono k4.size); clear k4
  go_wp2_with fail
  refine (b_key1 _).mono ?_
  rintro e w6 ⟨rfl, k6⟩
  have k6 := k5.trans (k6.mono k5.size); clear k5
  go_wp2_with fail
  refine (b_key2 _).mono ?_
  rintro e w7 ⟨rfl, k7⟩
  have k7 := k6.trans (k7.mono k6.size); clear k6
  go_wp2_with fail
  refine (b_less _).mono ?_
  rintro e w8 ⟨rfl, k8⟩
  have k8 := k7.trans (k8.mono k7.size); clear k7
  go_wp2_with fail
  refine (b_low _).mono ?_
  rintro e w9 ⟨rfl, rfl⟩
  go_wp2_with fail
  refine (b_fold _).mono ?_
  rintro e w10 ⟨rfl, k10⟩
  have k10 := k8.trans (k10.mono k8.size); clear k8
  go_wp2_with fail
  refine (b_enc _).mono ?_
  rintro e w11 ⟨rfl, rfl⟩
  go_wp2
  go_ret
  exact ⟨rfl, k10⟩

def Some (n : Int) (w : World) (e : Ending) (w' : World) : Prop := ∃ t : ByteArray, (t.size : Int) ≤ n ∧ e = .returned (.string t) ∧ w = w'
theorem lcut_any (s : ByteArray) (n : Int) (w : World) (h0 : 0 ≤ n) (h1 : n ≤ 1000000) :
    Calls Try.prog 13 #[.string s, .int .i64 n] w (Some n w) := by
  obtain ⟨k, rfl⟩ := Int.eq_ofNat_of_zero_le h0
  by_cases h : k < s.size
  · go_enter Try.func13, Try.ntmps13
    go_wp2
    go_ret
    exact ⟨_, by rw [ByteArray.size_extract]; omega, rfl, rfl⟩
  · go_enter Try.func13, Try.ntmps13
    go_wp2
    go_ret
    exact ⟨s, by omega, rfl, rfl⟩
end Go.Proofs.Ytplogecejioolaa
