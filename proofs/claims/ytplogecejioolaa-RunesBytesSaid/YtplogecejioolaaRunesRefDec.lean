/-
  The reference's Decode tells the model's own rune and width, at every text.
  There are no conditions beyond the length that the model lets a text have.
-/
import Derived.Test.YtplogecejioolaaRunesLess
namespace Go.Proofs.Ytplogecejioolaa
open Go.RowKit

theorem byt_get (s : ByteArray) (k : Nat) (h : k < s.size) : Ru.byt s.data.toList k = s[k].toNat := by
  unfold Ru.byt
  have h2 : k < s.data.toList.length := by rw [Array.length_toList]; exact h
  rw [List.getD, List.getElem?_eq_getElem h2]; rfl
/-- the model's decode of a text, by its first four bytes -/
def dN (s : ByteArray) : Nat × Nat := Lib.decodeN s.size (Ru.byt s.data.toList 0) (Ru.byt s.data.toList 1) (Ru.byt s.data.toList 2) (Ru.byt s.data.toList 3)
theorem dN_eq (s : ByteArray) (h : 0 < s.size) : decB s = dN s := by
  rw [decB_pos s h, Ru.decode_list, List.drop_zero]; unfold Ru.dcl dN; rw [Array.length_toList]; rfl
def bt (s : ByteArray) (k : Nat) : Nat := Ru.byt s.data.toList k
theorem bt_lt (s : ByteArray) (k : Nat) : bt s k < 256 := Ru.byt_lt _ _
/-- the number so far -/
def acc (s : ByteArray) (b : Int) : Nat → Int
  | 0 => b
  | 1 => b
  | k + 2 => acc s b (k + 1) * 64 + bt s (k + 1) - 128
def Conts (s : ByteArray) (k : Nat) : Prop := ∀ j, 1 ≤ j → j < k → 128 ≤ bt s j ∧ bt s j ≤ 191
theorem conts_one (s : ByteArray) : Conts s 1 := fun j h1 h2 => by omega
theorem conts_next (s : ByteArray) (k : Nat) (h : Conts s k) (h1 : 128 ≤ bt s k) (h2 : bt s k ≤ 191) : Conts s (k + 1) := fun j a b => by
  by_cases e : j = k
  · subst e; exact ⟨h1, h2⟩
  · exact h j a (by omega)
theorem acc_next (s : ByteArray) (b : Int) (k : Nat) (h : 1 ≤ k) : acc s b (k + 1) = acc s b k * 64 + bt s k - 128 := by
  cases k with
  | zero => omega
  | succ k => rfl
theorem acc_bd (s : ByteArray) (b : Int) (k : Nat) (hb0 : 0 ≤ b) (hb1 : b ≤ 31) (h : Conts s k) (h1 : 1 ≤ k) (h4 : k ≤ 4) : 0 ≤ acc s b k ∧ acc s b k ≤ 8388607 := by
  have a1 : acc s b 1 = b := rfl
  have a2 : acc s b 2 = acc s b 1 * 64 + bt s 1 - 128 := rfl
  have a3 : acc s b 3 = acc s b 2 * 64 + bt s 2 - 128 := rfl
  have a4 : acc s b 4 = acc s b 3 * 64 + bt s 3 - 128 := rfl
  have hk : k = 1 ∨ k = 2 ∨ k = 3 ∨ k = 4 := by omega
  rcases hk with rfl | rfl | rfl | rfl
  · omega
  · have := h 1 (by omega) (by omega); omega
  · have := h 1 (by omega) (by omega); have := h 2 (by omega) (by omega); omega
  · have := h 1 (by omega) (by omega); have := h 2 (by omega) (by omega); have := h 3 (by omega) (by omega); omega

/-! ### the classes of a first byte, plain -/
set_option maxHeartbeats 4000000 in
theorem dN1 (n b0 b1 b2 b3 : Nat) (h : b0 < 128) : Lib.decodeN n b0 b1 b2 b3 = (b0, 1) := by unfold Lib.decodeN; rw [if_pos h]
set_option maxHeartbeats 4000000 in
theorem dNelse (n b0 b1 b2 b3 : Nat) (h : (128 ≤ b0 ∧ b0 < 192) ∨ 248 ≤ b0) (h2 : b0 < 256) : Lib.decodeN n b0 b1 b2 b3 = (65533, 1) := by
  unfold Lib.decodeN; rw [if_neg (by omega), if_neg (by omega), if_neg (by omega), if_neg (by omega)]
set_option maxHeartbeats 4000000 in
theorem dN2_ok (n b0 b1 b2 b3 : Nat) (v : Int) (h0 : 192 ≤ b0) (h1 : b0 < 224) (hn : 2 ≤ n) (c1 : 128 ≤ b1 ∧ b1 ≤ 191) (hv : v = ((b0 : Int) - 192) * 64 + b1 - 128) (ho : 128 ≤ v) : v = (Lib.decodeN n b0 b1 b2 b3).1 ∧ (2 : Int) = (Lib.decodeN n b0 b1 b2 b3).2 := by
  unfold Lib.decodeN; rw [if_neg (by omega), if_pos (by omega), if_pos (by omega)]; simp only; omega
set_option maxHeartbeats 4000000 in
theorem dN2_bad (n b0 b1 b2 b3 : Nat) (h0 : 192 ≤ b0) (h1 : b0 < 224) (h : n < 2 ∨ b1 < 128 ∨ 191 < b1 ∨ (128 ≤ b1 ∧ ((b0 : Int) - 192) * 64 + b1 - 128 < 128)) (g1 : b1 < 256) : Lib.decodeN n b0 b1 b2 b3 = (65533, 1) := by
  unfold Lib.decodeN; rw [if_neg (by omega)]
  by_cases hc : b0 / 32 = 6 ∧ (1 < n ∧ b1 / 64 = 2)
  · rw [if_pos hc, if_neg (by omega)]
  · rw [if_neg hc, if_neg (by omega), if_neg (by omega)]
set_option maxHeartbeats 4000000 in
theorem dN3_ok (n b0 b1 b2 b3 : Nat) (v : Int) (h0 : 224 ≤ b0) (h1 : b0 < 240) (hn : 3 ≤ n) (c1 : 128 ≤ b1 ∧ b1 ≤ 191) (c2 : 128 ≤ b2 ∧ b2 ≤ 191) (hv : v = (((b0 : Int) - 224) * 64 + b1 - 128) * 64 + b2 - 128) (ho : 2048 ≤ v) (hs : v < 55296 ∨ 57344 ≤ v) : v = (Lib.decodeN n b0 b1 b2 b3).1 ∧ (3 : Int) = (Lib.decodeN n b0 b1 b2 b3).2 := by
  unfold Lib.decodeN; rw [if_neg (by omega), if_neg (by omega), if_pos (by omega), if_pos (by omega)]; simp only; omega
set_option maxHeartbeats 4000000 in
theorem dN3_bad (n b0 b1 b2 b3 : Nat) (h0 : 224 ≤ b0) (h1 : b0 < 240) (g1 : b1 < 256) (g2 : b2 < 256) (h : n < 3 ∨ b1 < 128 ∨ 191 < b1 ∨ b2 < 128 ∨ 191 < b2 ∨ (128 ≤ b1 ∧ 128 ≤ b2 ∧ ((((b0 : Int) - 224) * 64 + b1 - 128) * 64 + b2 - 128 < 2048 ∨ (55296 ≤ (((b0 : Int) - 224) * 64 + b1 - 128) * 64 + b2 - 128 ∧ (((b0 : Int) - 224) * 64 + b1 - 128) * 64 + b2 - 128 < 57344)))) : Lib.decodeN n b0 b1 b2 b3 = (65533, 1) := by
  unfold Lib.decodeN; rw [if_neg (by omega), if_neg (by omega)]
  by_cases hc : b0 / 16 = 14 ∧ (1 < n ∧ b1 / 64 = 2) ∧ (2 < n ∧ b2 / 64 = 2)
  · rw [if_pos hc, if_neg (by omega)]
  · rw [if_neg hc, if_neg (by omega)]
set_option maxHeartbeats 4000000 in
theorem dN4_ok (n b0 b1 b2 b3 : Nat) (v : Int) (h0 : 240 ≤ b0) (h1 : b0 < 248) (hn : 4 ≤ n) (c1 : 128 ≤ b1 ∧ b1 ≤ 191) (c2 : 128 ≤ b2 ∧ b2 ≤ 191) (c3 : 128 ≤ b3 ∧ b3 ≤ 191) (hv : v = ((((b0 : Int) - 240) * 64 + b1 - 128) * 64 + b2 - 128) * 64 + b3 - 128) (ho : 65536 ≤ v) (hs : v ≤ 1114111) : v = (Lib.decodeN n b0 b1 b2 b3).1 ∧ (4 : Int) = (Lib.decodeN n b0 b1 b2 b3).2 := by
  unfold Lib.decodeN; rw [if_neg (by omega), if_neg (by omega), if_neg (by omega), if_pos (by omega), if_pos (by omega)]; simp only; omega
set_option maxHeartbeats 4000000 in
theorem dN4_bad (n b0 b1 b2 b3 : Nat) (h0 : 240 ≤ b0) (h1 : b0 < 248) (g1 : b1 < 256) (g2 : b2 < 256) (g3 : b3 < 256) (h : n < 4 ∨ b1 < 128 ∨ 191 < b1 ∨ b2 < 128 ∨ 191 < b2 ∨ b3 < 128 ∨ 191 < b3 ∨ (128 ≤ b1 ∧ 128 ≤ b2 ∧ 128 ≤ b3 ∧ (((((b0 : Int) - 240) * 64 + b1 - 128) * 64 + b2 - 128) * 64 + b3 - 128 < 65536 ∨ 1114111 < ((((b0 : Int) - 240) * 64 + b1 - 128) * 64 + b2 - 128) * 64 + b3 - 128))) : Lib.decodeN n b0 b1 b2 b3 = (65533, 1) := by
  unfold Lib.decodeN; rw [if_neg (by omega), if_neg (by omega), if_neg (by omega)]
  by_cases hc : b0 / 8 = 30 ∧ (1 < n ∧ b1 / 64 = 2) ∧ (2 < n ∧ b2 / 64 = 2) ∧ (3 < n ∧ b3 / 64 = 2)
  · rw [if_pos hc, if_neg (by omega)]
  · rw [if_neg hc]

/-- what the reference's Decode hands back: the world is as it was -/
def DecQ (r : Nat × Nat) (w : World) (e : Ending) (w' : World) : Prop := e = .returned (.tuple #[.int .i32 r.1, .int .i64 r.2]) ∧ w = w'
/-- what Decode hands back -/
theorem dec_is (s : ByteArray) (w : World) (a b : Int) (h0 : 0 < s.size) (h : a = (dN s).1 ∧ b = (dN s).2) : DecQ (decB s) w (.returned (.tuple #[.int .i32 a, .int .i64 b])) w := by
  rw [dN_eq s h0]; exact ⟨by rw [h.1, h.2], rfl⟩
theorem dec_bad (s : ByteArray) (w : World) (h0 : 0 < s.size) (h : dN s = (65533, 1)) : DecQ (decB s) w (.returned (.tuple #[.int .i32 65533, .int .i64 1])) w :=
  dec_is s w _ _ h0 (by rw [h]; exact ⟨rfl, rfl⟩)

/-! ### the walks -/
set_option maxRecDepth 100000 in
set_option maxHeartbeats 4000000 in
theorem rdec_none (s : ByteArray) (w : World) (h0 : s.size = 0) : Calls Try.prog 16 #[.string s] w (DecQ (decB s) w) := by
  have he := lst_nil s (by omega)
  have he2 : s.toList.isEmpty = true := by rw [he]; rfl
  go_enter Try.func16, Try.ntmps16
  go_wp2
  go_ret2
  unfold decB; rw [if_pos h0]; exact ⟨rfl, rfl⟩
set_option maxRecDepth 100000 in
set_option maxHeartbeats 4000000 in
theorem rdec_one (s : ByteArray) (w : World) (h0 : 0 < s.size) (hc : (s[0].toNat : Int) < 128) : Calls Try.prog 16 #[.string s] w (DecQ (decB s) w) := by
  have he := lst_empty s h0
  have g0 : bt s 0 = s[0].toNat := byt_get s 0 h0
  have G := Lib.hid g0; clear g0
  go_enter Try.func16, Try.ntmps16
  go_wp2
  go_ret2
  refine dec_is s w _ _ h0 ?_
  have := G.out
  unfold dN; rw [dN1 _ _ _ _ _ (by show bt s 0 < 128; omega)]
  refine ⟨?_, rfl⟩
  show (s[0].toNat : Int) = (bt s 0 : Nat); omega
set_option maxRecDepth 100000 in
set_option maxHeartbeats 4000000 in
theorem rdec_else (s : ByteArray) (w : World) (h0 : 0 < s.size) (hc : (128 ≤ (s[0].toNat : Int) ∧ (s[0].toNat : Int) < 192) ∨ 248 ≤ (s[0].toNat : Int)) : Calls Try.prog 16 #[.string s] w (DecQ (decB s) w) := by
  have he := lst_empty s h0
  have g0 : bt s 0 = s[0].toNat := byt_get s 0 h0
  have hdn : dN s = (65533, 1) := dNelse _ _ _ _ _ (by show (128 ≤ bt s 0 ∧ bt s 0 < 192) ∨ 248 ≤ bt s 0; omega) (bt_lt s 0)
  have HD := Lib.hid hdn; clear hdn g0
  rcases hc with hc | hc
  · go_enter Try.func16, Try.ntmps16
    go_wp2
    go_ret2
    exact dec_bad s w h0 HD.out
  · go_enter Try.func16, Try.ntmps16
    go_wp2
    go_ret2
    exact dec_bad s w h0 HD.out
set_option maxRecDepth 100000 in
set_option maxHeartbeats 4000000 in
theorem rdec_short2 (s : ByteArray) (w : World) (hs : s.size ≤ maxLen) (h0 : 0 < s.size) (hc : 192 ≤ (s[0].toNat : Int)) (hc2 : (s[0].toNat : Int) < 224) (hn : s.size < 2) : Calls Try.prog 16 #[.string s] w (DecQ (decB s) w) := by
  unfold maxLen at hs
  have he := lst_empty s h0
  have g0 : bt s 0 = s[0].toNat := byt_get s 0 h0
  have hdn : dN s = (65533, 1) := dN2_bad _ _ _ _ _ (by show 192 ≤ bt s 0; omega) (by show bt s 0 < 224; omega) (.inl hn) (bt_lt s 1)
  have HD := Lib.hid hdn; clear hdn g0
  go_enter Try.func16, Try.ntmps16
  go_wp2
  go_ret2
  exact dec_bad s w h0 HD.out
set_option maxRecDepth 100000 in
set_option maxHeartbeats 4000000 in
theorem rdec_long2 (s : ByteArray) (w : World) (hs : s.size ≤ maxLen) (h0 : 0 < s.size) (hc : 192 ≤ (s[0].toNat : Int)) (hc2 : (s[0].toNat : Int) < 224) (hn : 2 ≤ s.size) : Calls Try.prog 16 #[.string s] w (DecQ (decB s) w) := by
  unfold maxLen at hs
  have he := lst_empty s h0
  have g0 : bt s 0 = s[0].toNat := byt_get s 0 h0
  have L0 : 192 ≤ bt s 0 := by omega
  have L1 : bt s 0 < 224 := by omega
  have G := Lib.hid g0; clear g0
  have HL0 := Lib.hid L0; clear L0
  have HL1 := Lib.hid L1; clear L1
  go_enter Try.func16, Try.ntmps16
  go_wp2
  go_loop [7, 8] (fun r i => ∃ k : Nat, 1 ≤ k ∧ k ≤ 2 ∧ i = .int .i64 k ∧ r = .int .i32 (acc s (s[0].toNat - 192) k) ∧ Conts s k) (fun _ i => 2 - (intOf i).toNat)
  case atStart => exact ⟨1, by omega, by omega, rfl, rfl, conts_one s⟩
  case round =>
    obtain ⟨k, hk1, hkn, rfl, rfl, hcs⟩ := hrel
    have hb := acc_bd s (s[0].toNat - 192) k (by omega) (by omega) hcs hk1 (by omega)
    have hbl := hb.1
    have hbh := hb.2
    clear hb
    have HC := Lib.hid hcs; clear hcs
    by_cases hlt : k < 2
    · have hks : k < s.size := by omega
      have gk : bt s k = s[k].toNat := byt_get s k hks
      have an := acc_next s (s[0].toNat - 192) k hk1
      have AN := Lib.hid an; clear an
      by_cases q1 : (s[k].toNat : Int) < 128
      · have hdn : dN s = (65533, 1) := by
          have e : k = 1 := by omega
          refine dN2_bad _ _ _ _ _ HL0.out HL1.out ?_ (bt_lt s 1)
          show _ ∨ bt s 1 < 128 ∨ 191 < bt s 1 ∨ _
          rcases e with rfl <;> omega
        have HD := Lib.hid hdn; clear hdn gk
        go_wp2
        go_ret2
        exact dec_bad s w h0 HD.out
      · by_cases q2 : 191 < (s[k].toNat : Int)
        · have hdn : dN s = (65533, 1) := by
            have e : k = 1 := by omega
            refine dN2_bad _ _ _ _ _ HL0.out HL1.out ?_ (bt_lt s 1)
            show _ ∨ bt s 1 < 128 ∨ 191 < bt s 1 ∨ _
            rcases e with rfl <;> omega
          have HD := Lib.hid hdn; clear hdn gk
          go_wp2
          go_ret2
          exact dec_bad s w h0 HD.out
        · have hcn := conts_next s k HC.out (by omega) (by omega)
          have HN := Lib.hid hcn; clear hcn
          have GK := Lib.hid gk; clear gk
          go_wp2
          go_round
          case rel => exact ⟨k + 1, by omega, by omega, by go_num, by rw [AN.out, GK.out], HN.out⟩
          case measure => simp [intOf]; omega
    · obtain rfl : k = 2 := by omega
      have hv : acc s (s[0].toNat - 192) 2 = ((bt s 0 : Int) - 192) * 64 + bt s 1 - 128 := by rw [G.out]; rfl
      have c1 := HC.out 1 (by omega) (by omega)
      have C := Lib.hid (And.intro c1 trivial); clear c1
      have HV := Lib.hid hv; clear hv
      have hbh2 : acc s (s[0].toNat - 192) 2 ≤ 2047 := by have r1 := HV.out; have r2 := C.out; have r3 := HL1.out; omega
      by_cases v1 : acc s (s[0].toNat - 192) 2 < 128
      · have hdn : dN s = (65533, 1) := by
          refine dN2_bad _ _ _ _ _ HL0.out HL1.out ?_ (bt_lt s 1)
          show _ ∨ bt s 1 < 128 ∨ 191 < bt s 1 ∨ _
          have r1 := HV.out
          have r2 := C.out
          refine .inr (.inr (.inr ?_))
          have e0 : bt s 0 = Ru.byt s.data.toList 0 := rfl; have e1 : bt s 1 = Ru.byt s.data.toList 1 := rfl
          omega
        have HD := Lib.hid hdn; clear hdn
        go_wp2
        go_ret2
        exact dec_bad s w h0 HD.out
      · have hok := dN2_ok s.size (bt s 0) (bt s 1) (bt s 2) (bt s 3) _ HL0.out HL1.out hn C.out.1 HV.out (by omega)
        have HK := Lib.hid hok; clear hok
        go_wp2
        go_ret2
        exact dec_is s w _ _ h0 HK.out
set_option maxRecDepth 100000 in
set_option maxHeartbeats 4000000 in
theorem rdec_short3 (s : ByteArray) (w : World) (hs : s.size ≤ maxLen) (h0 : 0 < s.size) (hc : 224 ≤ (s[0].toNat : Int)) (hc2 : (s[0].toNat : Int) < 240) (hn : s.size < 3) : Calls Try.prog 16 #[.string s] w (DecQ (decB s) w) := by
  unfold maxLen at hs
  have he := lst_empty s h0
  have g0 : bt s 0 = s[0].toNat := byt_get s 0 h0
  have hdn : dN s = (65533, 1) := dN3_bad _ _ _ _ _ (by show 224 ≤ bt s 0; omega) (by show bt s 0 < 240; omega) (bt_lt s 1) (bt_lt s 2) (.inl hn)
  have HD := Lib.hid hdn; clear hdn g0
  go_enter Try.func16, Try.ntmps16
  go_wp2
  go_ret2
  exact dec_bad s w h0 HD.out
set_option maxRecDepth 100000 in
set_option maxHeartbeats 4000000 in
theorem rdec_long3 (s : ByteArray) (w : World) (hs : s.size ≤ maxLen) (h0 : 0 < s.size) (hc : 224 ≤ (s[0].toNat : Int)) (hc2 : (s[0].toNat : Int) < 240) (hn : 3 ≤ s.size) : Calls Try.prog 16 #[.string s] w (DecQ (decB s) w) := by
  unfold maxLen at hs
  have he := lst_empty s h0
  have g0 : bt s 0 = s[0].toNat := byt_get s 0 h0
  have L0 : 224 ≤ bt s 0 := by omega
  have L1 : bt s 0 < 240 := by omega
  have G := Lib.hid g0; clear g0
  have HL0 := Lib.hid L0; clear L0
  have HL1 := Lib.hid L1; clear L1
  go_enter Try.func16, Try.ntmps16
  go_wp2
  go_loop [7, 8] (fun r i => ∃ k : Nat, 1 ≤ k ∧ k ≤ 3 ∧ i = .int .i64 k ∧ r = .int .i32 (acc s (s[0].toNat - 224) k) ∧ Conts s k) (fun _ i => 3 - (intOf i).toNat)
  case atStart => exact ⟨1, by omega, by omega, rfl, rfl, conts_one s⟩
  case round =>
    obtain ⟨k, hk1, hkn, rfl, rfl, hcs⟩ := hrel
    have hb := acc_bd s (s[0].toNat - 224) k (by omega) (by omega) hcs hk1 (by omega)
    have hbl := hb.1
    have hbh := hb.2
    clear hb
    have HC := Lib.hid hcs; clear hcs
    by_cases hlt : k < 3
    · have hks : k < s.size := by omega
      have gk : bt s k = s[k].toNat := byt_get s k hks
      have an := acc_next s (s[0].toNat - 224) k hk1
      have AN := Lib.hid an; clear an
      by_cases q1 : (s[k].toNat : Int) < 128
      · have hdn : dN s = (65533, 1) := by
          have e : k = 1 ∨ k = 2 := by omega
          refine dN3_bad _ _ _ _ _ HL0.out HL1.out (bt_lt s 1) (bt_lt s 2) ?_
          show _ ∨ bt s 1 < 128 ∨ 191 < bt s 1 ∨ bt s 2 < 128 ∨ 191 < bt s 2 ∨ _
          rcases e with rfl | rfl <;> omega
        have HD := Lib.hid hdn; clear hdn gk
        go_wp2
        go_ret2
        exact dec_bad s w h0 HD.out
      · by_cases q2 : 191 < (s[k].toNat : Int)
        · have hdn : dN s = (65533, 1) := by
            have e : k = 1 ∨ k = 2 := by omega
            refine dN3_bad _ _ _ _ _ HL0.out HL1.out (bt_lt s 1) (bt_lt s 2) ?_
            show _ ∨ bt s 1 < 128 ∨ 191 < bt s 1 ∨ bt s 2 < 128 ∨ 191 < bt s 2 ∨ _
            rcases e with rfl | rfl <;> omega
          have HD := Lib.hid hdn; clear hdn gk
          go_wp2
          go_ret2
          exact dec_bad s w h0 HD.out
        · have hcn := conts_next s k HC.out (by omega) (by omega)
          have HN := Lib.hid hcn; clear hcn
          have GK := Lib.hid gk; clear gk
          go_wp2
          go_round
          case rel => exact ⟨k + 1, by omega, by omega, by go_num, by rw [AN.out, GK.out], HN.out⟩
          case measure => simp [intOf]; omega
    · obtain rfl : k = 3 := by omega
      have hv : acc s (s[0].toNat - 224) 3 = (((bt s 0 : Int) - 224) * 64 + bt s 1 - 128) * 64 + bt s 2 - 128 := by rw [G.out]; rfl
      have c1 := HC.out 1 (by omega) (by omega)
      have c2 := HC.out 2 (by omega) (by omega)
      have C := Lib.hid (And.intro c1 c2); clear c1 c2
      have HV := Lib.hid hv; clear hv
      have hbh2 : acc s (s[0].toNat - 224) 3 ≤ 65535 := by have r1 := HV.out; have r2 := C.out; have r3 := HL1.out; omega
      by_cases v1 : acc s (s[0].toNat - 224) 3 < 2048
      · have hdn : dN s = (65533, 1) := by
          refine dN3_bad _ _ _ _ _ HL0.out HL1.out (bt_lt s 1) (bt_lt s 2) ?_
          show _ ∨ bt s 1 < 128 ∨ 191 < bt s 1 ∨ bt s 2 < 128 ∨ 191 < bt s 2 ∨ _
          have r1 := HV.out
          have r2 := C.out
          refine .inr (.inr (.inr (.inr (.inr ?_))))
          have e0 : bt s 0 = Ru.byt s.data.toList 0 := rfl; have e1 : bt s 1 = Ru.byt s.data.toList 1 := rfl; have e2 : bt s 2 = Ru.byt s.data.toList 2 := rfl
          omega
        have HD := Lib.hid hdn; clear hdn
        go_wp2
        go_ret2
        exact dec_bad s w h0 HD.out
      · by_cases v2 : 55296 ≤ acc s (s[0].toNat - 224) 3
        · by_cases v3 : acc s (s[0].toNat - 224) 3 < 57344
          · have hdn : dN s = (65533, 1) := by
              refine dN3_bad _ _ _ _ _ HL0.out HL1.out (bt_lt s 1) (bt_lt s 2) ?_
              show _ ∨ bt s 1 < 128 ∨ 191 < bt s 1 ∨ bt s 2 < 128 ∨ 191 < bt s 2 ∨ _
              have r1 := HV.out
              have r2 := C.out
              refine .inr (.inr (.inr (.inr (.inr ?_))))
              have e0 : bt s 0 = Ru.byt s.data.toList 0 := rfl; have e1 : bt s 1 = Ru.byt s.data.toList 1 := rfl; have e2 : bt s 2 = Ru.byt s.data.toList 2 := rfl
              omega
            have HD := Lib.hid hdn; clear hdn
            go_wp2
            go_ret2
            exact dec_bad s w h0 HD.out
          · have hok := dN3_ok s.size (bt s 0) (bt s 1) (bt s 2) (bt s 3) _ HL0.out HL1.out hn C.out.1 C.out.2 HV.out (by omega) (by omega)
            have HK := Lib.hid hok; clear hok
            go_wp2
            go_ret2
            exact dec_is s w _ _ h0 HK.out
        · have hok := dN3_ok s.size (bt s 0) (bt s 1) (bt s 2) (bt s 3) _ HL0.out HL1.out hn C.out.1 C.out.2 HV.out (by omega) (by omega)
          have HK := Lib.hid hok; clear hok
          go_wp2
          go_ret2
          exact dec_is s w _ _ h0 HK.out
set_option maxRecDepth 100000 in
set_option maxHeartbeats 4000000 in
theorem rdec_short4 (s : ByteArray) (w : World) (hs : s.size ≤ maxLen) (h0 : 0 < s.size) (hc : 240 ≤ (s[0].toNat : Int)) (hc2 : (s[0].toNat : Int) < 248) (hn : s.size < 4) : Calls Try.prog 16 #[.string s] w (DecQ (decB s) w) := by
  unfold maxLen at hs
  have he := lst_empty s h0
  have g0 : bt s 0 = s[0].toNat := byt_get s 0 h0
  have hdn : dN s = (65533, 1) := dN4_bad _ _ _ _ _ (by show 240 ≤ bt s 0; omega) (by show bt s 0 < 248; omega) (bt_lt s 1) (bt_lt s 2) (bt_lt s 3) (.inl hn)
  have HD := Lib.hid hdn; clear hdn g0
  go_enter Try.func16, Try.ntmps16
  go_wp2
  go_ret2
  exact dec_bad s w h0 HD.out
set_option maxRecDepth 100000 in
set_option maxHeartbeats 4000000 in
theorem rdec_long4 (s : ByteArray) (w : World) (hs : s.size ≤ maxLen) (h0 : 0 < s.size) (hc : 240 ≤ (s[0].toNat : Int)) (hc2 : (s[0].toNat : Int) < 248) (hn : 4 ≤ s.size) : Calls Try.prog 16 #[.string s] w (DecQ (decB s) w) := by
  unfold maxLen at hs
  have he := lst_empty s h0
  have g0 : bt s 0 = s[0].toNat := byt_get s 0 h0
  have L0 : 240 ≤ bt s 0 := by omega
  have L1 : bt s 0 < 248 := by omega
  have G := Lib.hid g0; clear g0
  have HL0 := Lib.hid L0; clear L0
  have HL1 := Lib.hid L1; clear L1
  go_enter Try.func16, Try.ntmps16
  go_wp2
  go_loop [7, 8] (fun r i => ∃ k : Nat, 1 ≤ k ∧ k ≤ 4 ∧ i = .int .i64 k ∧ r = .int .i32 (acc s (s[0].toNat - 240) k) ∧ Conts s k) (fun _ i => 4 - (intOf i).toNat)
  case atStart => exact ⟨1, by omega, by omega, rfl, rfl, conts_one s⟩
  case round =>
    obtain ⟨k, hk1, hkn, rfl, rfl, hcs⟩ := hrel
    have hb := acc_bd s (s[0].toNat - 240) k (by omega) (by omega) hcs hk1 (by omega)
    have hbl := hb.1
    have hbh := hb.2
    clear hb
    have HC := Lib.hid hcs; clear hcs
    by_cases hlt : k < 4
    · have hks : k < s.size := by omega
      have gk : bt s k = s[k].toNat := byt_get s k hks
      have an := acc_next s (s[0].toNat - 240) k hk1
      have AN := Lib.hid an; clear an
      by_cases q1 : (s[k].toNat : Int) < 128
      · have hdn : dN s = (65533, 1) := by
          have e : k = 1 ∨ k = 2 ∨ k = 3 := by omega
          refine dN4_bad _ _ _ _ _ HL0.out HL1.out (bt_lt s 1) (bt_lt s 2) (bt_lt s 3) ?_
          show _ ∨ bt s 1 < 128 ∨ 191 < bt s 1 ∨ bt s 2 < 128 ∨ 191 < bt s 2 ∨ bt s 3 < 128 ∨ 191 < bt s 3 ∨ _
          rcases e with rfl | rfl | rfl <;> omega
        have HD := Lib.hid hdn; clear hdn gk
        go_wp2
        go_ret2
        exact dec_bad s w h0 HD.out
      · by_cases q2 : 191 < (s[k].toNat : Int)
        · have hdn : dN s = (65533, 1) := by
            have e : k = 1 ∨ k = 2 ∨ k = 3 := by omega
            refine dN4_bad _ _ _ _ _ HL0.out HL1.out (bt_lt s 1) (bt_lt s 2) (bt_lt s 3) ?_
            show _ ∨ bt s 1 < 128 ∨ 191 < bt s 1 ∨ bt s 2 < 128 ∨ 191 < bt s 2 ∨ bt s 3 < 128 ∨ 191 < bt s 3 ∨ _
            rcases e with rfl | rfl | rfl <;> omega
          have HD := Lib.hid hdn; clear hdn gk
          go_wp2
          go_ret2
          exact dec_bad s w h0 HD.out
        · have hcn := conts_next s k HC.out (by omega) (by omega)
          have HN := Lib.hid hcn; clear hcn
          have GK := Lib.hid gk; clear gk
          go_wp2
          go_round
          case rel => exact ⟨k + 1, by omega, by omega, by go_num, by rw [AN.out, GK.out], HN.out⟩
          case measure => simp [intOf]; omega
    · obtain rfl : k = 4 := by omega
      have hv : acc s (s[0].toNat - 240) 4 = ((((bt s 0 : Int) - 240) * 64 + bt s 1 - 128) * 64 + bt s 2 - 128) * 64 + bt s 3 - 128 := by rw [G.out]; rfl
      have c1 := HC.out 1 (by omega) (by omega)
      have c2 := HC.out 2 (by omega) (by omega)
      have c3 := HC.out 3 (by omega) (by omega)
      have C := Lib.hid (And.intro c1 (And.intro c2 c3)); clear c1 c2 c3
      have HV := Lib.hid hv; clear hv
      by_cases v1 : acc s (s[0].toNat - 240) 4 < 65536
      · have hdn : dN s = (65533, 1) := by
          refine dN4_bad _ _ _ _ _ HL0.out HL1.out (bt_lt s 1) (bt_lt s 2) (bt_lt s 3) ?_
          show _ ∨ bt s 1 < 128 ∨ 191 < bt s 1 ∨ bt s 2 < 128 ∨ 191 < bt s 2 ∨ bt s 3 < 128 ∨ 191 < bt s 3 ∨ _
          have r1 := HV.out
          have r2 := C.out
          refine .inr (.inr (.inr (.inr (.inr (.inr (.inr ?_))))))
          have e0 : bt s 0 = Ru.byt s.data.toList 0 := rfl; have e1 : bt s 1 = Ru.byt s.data.toList 1 := rfl; have e2 : bt s 2 = Ru.byt s.data.toList 2 := rfl; have e3 : bt s 3 = Ru.byt s.data.toList 3 := rfl
          omega
        have HD := Lib.hid hdn; clear hdn
        go_wp2
        go_ret2
        exact dec_bad s w h0 HD.out
      · by_cases v2 : 1114111 < acc s (s[0].toNat - 240) 4
        · have hdn : dN s = (65533, 1) := by
            refine dN4_bad _ _ _ _ _ HL0.out HL1.out (bt_lt s 1) (bt_lt s 2) (bt_lt s 3) ?_
            show _ ∨ bt s 1 < 128 ∨ 191 < bt s 1 ∨ bt s 2 < 128 ∨ 191 < bt s 2 ∨ bt s 3 < 128 ∨ 191 < bt s 3 ∨ _
            have r1 := HV.out
            have r2 := C.out
            refine .inr (.inr (.inr (.inr (.inr (.inr (.inr ?_))))))
            have e0 : bt s 0 = Ru.byt s.data.toList 0 := rfl; have e1 : bt s 1 = Ru.byt s.data.toList 1 := rfl; have e2 : bt s 2 = Ru.byt s.data.toList 2 := rfl; have e3 : bt s 3 = Ru.byt s.data.toList 3 := rfl
            omega
          have HD := Lib.hid hdn; clear hdn
          go_wp2
          go_ret2
          exact dec_bad s w h0 HD.out
        · have hok := dN4_ok s.size (bt s 0) (bt s 1) (bt s 2) (bt s 3) _ HL0.out HL1.out hn C.out.1 C.out.2.1 C.out.2.2 HV.out (by omega) (by omega)
          have HK := Lib.hid hok; clear hok
          go_wp2
          go_ret2
          exact dec_is s w _ _ h0 HK.out

theorem rdecode_any (s : ByteArray) (w : World) (hs : s.size ≤ maxLen) : Calls Try.prog 16 #[.string s] w (DecQ (decB s) w) := by
  by_cases h0 : 0 < s.size
  · have hb := s[0].toNat_lt
    by_cases h1 : (s[0].toNat : Int) < 128
    · exact rdec_one s w h0 h1
    · by_cases h2 : (s[0].toNat : Int) < 192
      · exact rdec_else s w h0 (.inl ⟨by omega, h2⟩)
      · by_cases h3 : 248 ≤ (s[0].toNat : Int)
        · exact rdec_else s w h0 (.inr h3)
        · by_cases h4 : (s[0].toNat : Int) < 224
          · by_cases hn : s.size < 2
            · exact rdec_short2 s w hs h0 (by omega) h4 hn
            · exact rdec_long2 s w hs h0 (by omega) h4 (by omega)
          · by_cases h5 : (s[0].toNat : Int) < 240
            · by_cases hn : s.size < 3
              · exact rdec_short3 s w hs h0 (by omega) h5 hn
              · exact rdec_long3 s w hs h0 (by omega) h5 (by omega)
            · by_cases hn : s.size < 4
              · exact rdec_short4 s w hs h0 (by omega) (by omega) hn
              · exact rdec_long4 s w hs h0 (by omega) (by omega) (by omega)
  · exact rdec_none s w (by omega)
theorem decB_at (s : ByteArray) (pos : Nat) (h : pos < s.size) : decB (s.extract pos s.size) = Utf8.decode s pos := by
  have h2 : 0 < (s.extract pos s.size).size := by rw [ByteArray.size_extract]; omega
  rw [decB_pos _ h2, Ru.decode_list, List.drop_zero, ext_list, Ru.decode_list]; rfl
theorem rdecode_at (s : ByteArray) (pos : Nat) (w : World) (hs : s.size ≤ maxLen) (h : pos < s.size) : Calls Try.prog 16 #[.string (s.extract pos s.size)] w (DecQ (Utf8.decode s pos) w) := by
  rw [← decB_at s pos h]
  exact rdecode_any _ w (by rw [ByteArray.size_extract]; omega)
end Go.Proofs.Ytplogecejioolaa
