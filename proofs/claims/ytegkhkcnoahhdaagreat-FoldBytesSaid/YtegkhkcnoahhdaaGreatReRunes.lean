/- A function returns what the plain functions say: ReDecode. -/
import Derived.Test.YtegkhkcnoahhdaaGreatProg
import Derived.Test.YtegkhkcnoahhdaaGreatWBase
set_option linter.unusedSimpArgs false
set_option linter.unusedVariables false
namespace Go.Proofs.YtegkhkcnoahhdaaGreat
open Lib (hid)
open Go.RowKit
set_option maxRecDepth 100000
set_option maxRecDepth 100000 in
set_option maxHeartbeats 4000000 in
theorem rdec_none (s : ByteArray) (w : World) (h0 : s.size = 0) : Calls Tryz.prog 119 #[.string s] w (DecQ (decB s) w) := by
 have he := lst_nil s (by omega)
 have he2 : s.toList.isEmpty = true := by rw [he]; rfl
 go_enter Tryz.func119, Tryz.ntmps119
 go_wp2
 go_ret2
 unfold decB; rw [if_pos h0]; exact ⟨rfl, rfl⟩
set_option maxRecDepth 100000 in
set_option maxHeartbeats 4000000 in
theorem rdec_one (s : ByteArray) (w : World) (h0 : 0 < s.size) (hc : (s[0].toNat : Int) < 128) : Calls Tryz.prog 119 #[.string s] w (DecQ (decB s) w) := by
 have he := lst_empty s h0
 have g0 : bt s 0 = s[0].toNat := byt_get s 0 h0
 have G := hid g0; clear g0
 go_enter Tryz.func119, Tryz.ntmps119
 go_wp2
 go_ret2
 refine dec_is s w _ _ h0 ?_
 have := G.out
 unfold dN; rw [dN1 _ _ _ _ _ (by show bt s 0 < 128; omega)]
 refine ⟨?_, rfl⟩
 show (s[0].toNat : Int) = (bt s 0 : Nat); omega
set_option maxRecDepth 100000 in
set_option maxHeartbeats 4000000 in
theorem rdec_else (s : ByteArray) (w : World) (h0 : 0 < s.size) (hc : (128 ≤ (s[0].toNat : Int) ∧ (s[0].toNat : Int) < 192) ∨ 248 ≤ (s[0].toNat : Int)) : Calls Tryz.prog 119 #[.string s] w (DecQ (decB s) w) := by
 have he := lst_empty s h0
 have g0 : bt s 0 = s[0].toNat := byt_get s 0 h0
 have hdn : dN s = (65533, 1) := dNelse _ _ _ _ _ (by show (128 ≤ bt s 0 ∧ bt s 0 < 192) ∨ 248 ≤ bt s 0; omega) (bt_lt s 0)
 have HD := hid hdn; clear hdn g0
 rcases hc with hc | hc
 ·go_enter Tryz.func119, Tryz.ntmps119
  go_wp2
  go_ret2
  exact dec_bad s w h0 HD.out
 ·go_enter Tryz.func119, Tryz.ntmps119
  go_wp2
  go_ret2
  exact dec_bad s w h0 HD.out
set_option maxRecDepth 100000 in
set_option maxHeartbeats 4000000 in
theorem rdec_short2 (s : ByteArray) (w : World) (hs : s.size ≤ maxLen) (h0 : 0 < s.size) (hc : 192 ≤ (s[0].toNat : Int)) (hc2 : (s[0].toNat : Int) < 224) (hn : s.size < 2) : Calls Tryz.prog 119 #[.string s] w (DecQ (decB s) w) := by
 unfold maxLen at hs
 have he := lst_empty s h0
 have g0 : bt s 0 = s[0].toNat := byt_get s 0 h0
 have hdn : dN s = (65533, 1) := dN2_bad _ _ _ _ _ (by show 192 ≤ bt s 0; omega) (by show bt s 0 < 224; omega) (.inl hn) (bt_lt s 1)
 have HD := hid hdn; clear hdn g0
 go_enter Tryz.func119, Tryz.ntmps119
 go_wp2
 go_ret2
 exact dec_bad s w h0 HD.out
set_option maxRecDepth 100000 in
set_option maxHeartbeats 4000000 in
theorem rdec_long2 (s : ByteArray) (w : World) (hs : s.size ≤ maxLen) (h0 : 0 < s.size) (hc : 192 ≤ (s[0].toNat : Int)) (hc2 : (s[0].toNat : Int) < 224) (hn : 2 ≤ s.size) : Calls Tryz.prog 119 #[.string s] w (DecQ (decB s) w) := by
 unfold maxLen at hs
 have he := lst_empty s h0
 have g0 : bt s 0 = s[0].toNat := byt_get s 0 h0
 have L0 : 192 ≤ bt s 0 := by omega
 have L1 : bt s 0 < 224 := by omega
 have G := hid g0; clear g0
 have HL0 := hid L0; clear L0
 have HL1 := hid L1; clear L1
 go_enter Tryz.func119, Tryz.ntmps119
 go_wp2
 go_loop [7, 8] (fun r i => ∃ k : Nat, 1 ≤ k ∧ k ≤ 2 ∧ i = .int .i64 k ∧ r = .int .i32 (acc s (s[0].toNat - 192) k) ∧ Conts s k) (fun _ i => 2 - (intOf i).toNat)
 case atStart => exact ⟨1, by omega, by omega, rfl, rfl, conts_one s⟩
 case round =>
  obtain ⟨k, hk1, hkn, rfl, rfl, hcs⟩ := hrel
  have hb := acc_bd s (s[0].toNat - 192) k (by omega) (by omega) hcs hk1 (by omega)
  have hbl := hb.1
  have hbh := hb.2
  clear hb
  have HC := hid hcs; clear hcs
  by_cases hlt : k < 2
  ·have hks : k < s.size := by omega
   have gk : bt s k = s[k].toNat := byt_get s k hks
   have an := acc_next s (s[0].toNat - 192) k hk1
   have AN := hid an; clear an
   by_cases q1 : (s[k].toNat : Int) < 128
   ·have hdn : dN s = (65533, 1) := by
     have e : k = 1 := by omega
     refine dN2_bad _ _ _ _ _ HL0.out HL1.out ?_ (bt_lt s 1)
     show _ ∨ bt s 1 < 128 ∨ 191 < bt s 1 ∨ _
     rcases e with rfl <;> omega
    have HD := hid hdn; clear hdn gk
    go_wp2
    go_ret2
    exact dec_bad s w h0 HD.out
   ·by_cases q2 : 191 < (s[k].toNat : Int)
    ·have hdn : dN s = (65533, 1) := by
      have e : k = 1 := by omega
      refine dN2_bad _ _ _ _ _ HL0.out HL1.out ?_ (bt_lt s 1)
      show _ ∨ bt s 1 < 128 ∨ 191 < bt s 1 ∨ _
      rcases e with rfl <;> omega
     have HD := hid hdn; clear hdn gk
     go_wp2
     go_ret2
     exact dec_bad s w h0 HD.out
    ·have hcn := conts_next s k HC.out (by omega) (by omega)
     have HN := hid hcn; clear hcn
     have GK := hid gk; clear gk
     go_wp2
     go_round
     case rel => exact ⟨k + 1, by omega, by omega, by go_num, by rw [AN.out, GK.out], HN.out⟩
     case measure => simp [intOf]; omega
  ·obtain rfl : k = 2 := by omega
   have hv : acc s (s[0].toNat - 192) 2 = ((bt s 0 : Int) - 192) * 64 + bt s 1 - 128 := by rw [G.out]; rfl
   have c1 := HC.out 1 (by omega) (by omega)
   have C := hid (And.intro c1 trivial); clear c1
   have HV := hid hv; clear hv
   have hbh2 : acc s (s[0].toNat - 192) 2 ≤ 2047 := by have r1 := HV.out; have r2 := C.out; have r3 := HL1.out; omega
   by_cases v1 : acc s (s[0].toNat - 192) 2 < 128
   ·have hdn : dN s = (65533, 1) := by
     refine dN2_bad _ _ _ _ _ HL0.out HL1.out ?_ (bt_lt s 1)
     show _ ∨ bt s 1 < 128 ∨ 191 < bt s 1 ∨ _
     have r1 := HV.out
     have r2 := C.out
     refine .inr (.inr (.inr ?_))
     have e0 : bt s 0 = Ru.byt s.data.toList 0 := rfl; have e1 : bt s 1 = Ru.byt s.data.toList 1 := rfl
     omega
    have HD := hid hdn; clear hdn
    go_wp2
    go_ret2
    exact dec_bad s w h0 HD.out
   ·have hok := dN2_ok s.size (bt s 0) (bt s 1) (bt s 2) (bt s 3) _ HL0.out HL1.out hn C.out.1 HV.out (by omega)
    have HK := hid hok; clear hok
    go_wp2
    go_ret2
    exact dec_is s w _ _ h0 HK.out
set_option maxRecDepth 100000 in
set_option maxHeartbeats 4000000 in
theorem rdec_short3 (s : ByteArray) (w : World) (hs : s.size ≤ maxLen) (h0 : 0 < s.size) (hc : 224 ≤ (s[0].toNat : Int)) (hc2 : (s[0].toNat : Int) < 240) (hn : s.size < 3) : Calls Tryz.prog 119 #[.string s] w (DecQ (decB s) w) := by
 unfold maxLen at hs
 have he := lst_empty s h0
 have g0 : bt s 0 = s[0].toNat := byt_get s 0 h0
 have hdn : dN s = (65533, 1) := dN3_bad _ _ _ _ _ (by show 224 ≤ bt s 0; omega) (by show bt s 0 < 240; omega) (bt_lt s 1) (bt_lt s 2) (.inl hn)
 have HD := hid hdn; clear hdn g0
 go_enter Tryz.func119, Tryz.ntmps119
 go_wp2
 go_ret2
 exact dec_bad s w h0 HD.out
set_option maxRecDepth 100000 in
set_option maxHeartbeats 4000000 in
theorem rdec_long3 (s : ByteArray) (w : World) (hs : s.size ≤ maxLen) (h0 : 0 < s.size) (hc : 224 ≤ (s[0].toNat : Int)) (hc2 : (s[0].toNat : Int) < 240) (hn : 3 ≤ s.size) : Calls Tryz.prog 119 #[.string s] w (DecQ (decB s) w) := by
 unfold maxLen at hs
 have he := lst_empty s h0
 have g0 : bt s 0 = s[0].toNat := byt_get s 0 h0
 have L0 : 224 ≤ bt s 0 := by omega
 have L1 : bt s 0 < 240 := by omega
 have G := hid g0; clear g0
 have HL0 := hid L0; clear L0
 have HL1 := hid L1; clear L1
 go_enter Tryz.func119, Tryz.ntmps119
 go_wp2
 go_loop [7, 8] (fun r i => ∃ k : Nat, 1 ≤ k ∧ k ≤ 3 ∧ i = .int .i64 k ∧ r = .int .i32 (acc s (s[0].toNat - 224) k) ∧ Conts s k) (fun _ i => 3 - (intOf i).toNat)
 case atStart => exact ⟨1, by omega, by omega, rfl, rfl, conts_one s⟩
 case round =>
  obtain ⟨k, hk1, hkn, rfl, rfl, hcs⟩ := hrel
  have hb := acc_bd s (s[0].toNat - 224) k (by omega) (by omega) hcs hk1 (by omega)
  have hbl := hb.1
  have hbh := hb.2
  clear hb
  have HC := hid hcs; clear hcs
  by_cases hlt : k < 3
  ·have hks : k < s.size := by omega
   have gk : bt s k = s[k].toNat := byt_get s k hks
   have an := acc_next s (s[0].toNat - 224) k hk1
   have AN := hid an; clear an
   by_cases q1 : (s[k].toNat : Int) < 128
   ·have hdn : dN s = (65533, 1) := by
     have e : k = 1 ∨ k = 2 := by omega
     refine dN3_bad _ _ _ _ _ HL0.out HL1.out (bt_lt s 1) (bt_lt s 2) ?_
     show _ ∨ bt s 1 < 128 ∨ 191 < bt s 1 ∨ bt s 2 < 128 ∨ 191 < bt s 2 ∨ _
     rcases e with rfl | rfl <;> omega
    have HD := hid hdn; clear hdn gk
    go_wp2
    go_ret2
    exact dec_bad s w h0 HD.out
   ·by_cases q2 : 191 < (s[k].toNat : Int)
    ·have hdn : dN s = (65533, 1) := by
      have e : k = 1 ∨ k = 2 := by omega
      refine dN3_bad _ _ _ _ _ HL0.out HL1.out (bt_lt s 1) (bt_lt s 2) ?_
      show _ ∨ bt s 1 < 128 ∨ 191 < bt s 1 ∨ bt s 2 < 128 ∨ 191 < bt s 2 ∨ _
      rcases e with rfl | rfl <;> omega
     have HD := hid hdn; clear hdn gk
     go_wp2
     go_ret2
     exact dec_bad s w h0 HD.out
    ·have hcn := conts_next s k HC.out (by omega) (by omega)
     have HN := hid hcn; clear hcn
     have GK := hid gk; clear gk
     go_wp2
     go_round
     case rel => exact ⟨k + 1, by omega, by omega, by go_num, by rw [AN.out, GK.out], HN.out⟩
     case measure => simp [intOf]; omega
  ·obtain rfl : k = 3 := by omega
   have hv : acc s (s[0].toNat - 224) 3 = (((bt s 0 : Int) - 224) * 64 + bt s 1 - 128) * 64 + bt s 2 - 128 := by rw [G.out]; rfl
   have c1 := HC.out 1 (by omega) (by omega)
   have c2 := HC.out 2 (by omega) (by omega)
   have C := hid (And.intro c1 c2); clear c1 c2
   have HV := hid hv; clear hv
   have hbh2 : acc s (s[0].toNat - 224) 3 ≤ 65535 := by have r1 := HV.out; have r2 := C.out; have r3 := HL1.out; omega
   by_cases v1 : acc s (s[0].toNat - 224) 3 < 2048
   ·have hdn : dN s = (65533, 1) := by
     refine dN3_bad _ _ _ _ _ HL0.out HL1.out (bt_lt s 1) (bt_lt s 2) ?_
     show _ ∨ bt s 1 < 128 ∨ 191 < bt s 1 ∨ bt s 2 < 128 ∨ 191 < bt s 2 ∨ _
     have r1 := HV.out
     have r2 := C.out
     refine .inr (.inr (.inr (.inr (.inr ?_))))
     have e0 : bt s 0 = Ru.byt s.data.toList 0 := rfl; have e1 : bt s 1 = Ru.byt s.data.toList 1 := rfl; have e2 : bt s 2 = Ru.byt s.data.toList 2 := rfl
     omega
    have HD := hid hdn; clear hdn
    go_wp2
    go_ret2
    exact dec_bad s w h0 HD.out
   ·by_cases v2 : 55296 ≤ acc s (s[0].toNat - 224) 3
    ·by_cases v3 : acc s (s[0].toNat - 224) 3 < 57344
     ·have hdn : dN s = (65533, 1) := by
       refine dN3_bad _ _ _ _ _ HL0.out HL1.out (bt_lt s 1) (bt_lt s 2) ?_
       show _ ∨ bt s 1 < 128 ∨ 191 < bt s 1 ∨ bt s 2 < 128 ∨ 191 < bt s 2 ∨ _
       have r1 := HV.out
       have r2 := C.out
       refine .inr (.inr (.inr (.inr (.inr ?_))))
       have e0 : bt s 0 = Ru.byt s.data.toList 0 := rfl; have e1 : bt s 1 = Ru.byt s.data.toList 1 := rfl; have e2 : bt s 2 = Ru.byt s.data.toList 2 := rfl
       omega
      have HD := hid hdn; clear hdn
      go_wp2
      go_ret2
      exact dec_bad s w h0 HD.out
     ·have hok := dN3_ok s.size (bt s 0) (bt s 1) (bt s 2) (bt s 3) _ HL0.out HL1.out hn C.out.1 C.out.2 HV.out (by omega) (by omega)
      have HK := hid hok; clear hok
      go_wp2
      go_ret2
      exact dec_is s w _ _ h0 HK.out
    ·have hok := dN3_ok s.size (bt s 0) (bt s 1) (bt s 2) (bt s 3) _ HL0.out HL1.out hn C.out.1 C.out.2 HV.out (by omega) (by omega)
     have HK := hid hok; clear hok
     go_wp2
     go_ret2
     exact dec_is s w _ _ h0 HK.out
set_option maxRecDepth 100000 in
set_option maxHeartbeats 4000000 in
theorem rdec_short4 (s : ByteArray) (w : World) (hs : s.size ≤ maxLen) (h0 : 0 < s.size) (hc : 240 ≤ (s[0].toNat : Int)) (hc2 : (s[0].toNat : Int) < 248) (hn : s.size < 4) : Calls Tryz.prog 119 #[.string s] w (DecQ (decB s) w) := by
 unfold maxLen at hs
 have he := lst_empty s h0
 have g0 : bt s 0 = s[0].toNat := byt_get s 0 h0
 have hdn : dN s = (65533, 1) := dN4_bad _ _ _ _ _ (by show 240 ≤ bt s 0; omega) (by show bt s 0 < 248; omega) (bt_lt s 1) (bt_lt s 2) (bt_lt s 3) (.inl hn)
 have HD := hid hdn; clear hdn g0
 go_enter Tryz.func119, Tryz.ntmps119
 go_wp2
 go_ret2
 exact dec_bad s w h0 HD.out
set_option maxRecDepth 100000 in
set_option maxHeartbeats 4000000 in
theorem rdec_long4 (s : ByteArray) (w : World) (hs : s.size ≤ maxLen) (h0 : 0 < s.size) (hc : 240 ≤ (s[0].toNat : Int)) (hc2 : (s[0].toNat : Int) < 248) (hn : 4 ≤ s.size) : Calls Tryz.prog 119 #[.string s] w (DecQ (decB s) w) := by
 unfold maxLen at hs
 have he := lst_empty s h0
 have g0 : bt s 0 = s[0].toNat := byt_get s 0 h0
 have L0 : 240 ≤ bt s 0 := by omega
 have L1 : bt s 0 < 248 := by omega
 have G := hid g0; clear g0
 have HL0 := hid L0; clear L0
 have HL1 := hid L1; clear L1
 go_enter Tryz.func119, Tryz.ntmps119
 go_wp2
 go_loop [7, 8] (fun r i => ∃ k : Nat, 1 ≤ k ∧ k ≤ 4 ∧ i = .int .i64 k ∧ r = .int .i32 (acc s (s[0].toNat - 240) k) ∧ Conts s k) (fun _ i => 4 - (intOf i).toNat)
 case atStart => exact ⟨1, by omega, by omega, rfl, rfl, conts_one s⟩
 case round =>
  obtain ⟨k, hk1, hkn, rfl, rfl, hcs⟩ := hrel
  have hb := acc_bd s (s[0].toNat - 240) k (by omega) (by omega) hcs hk1 (by omega)
  have hbl := hb.1
  have hbh := hb.2
  clear hb
  have HC := hid hcs; clear hcs
  by_cases hlt : k < 4
  ·have hks : k < s.size := by omega
   have gk : bt s k = s[k].toNat := byt_get s k hks
   have an := acc_next s (s[0].toNat - 240) k hk1
   have AN := hid an; clear an
   by_cases q1 : (s[k].toNat : Int) < 128
   ·have hdn : dN s = (65533, 1) := by
     have e : k = 1 ∨ k = 2 ∨ k = 3 := by omega
     refine dN4_bad _ _ _ _ _ HL0.out HL1.out (bt_lt s 1) (bt_lt s 2) (bt_lt s 3) ?_
     show _ ∨ bt s 1 < 128 ∨ 191 < bt s 1 ∨ bt s 2 < 128 ∨ 191 < bt s 2 ∨ bt s 3 < 128 ∨ 191 < bt s 3 ∨ _
     rcases e with rfl | rfl | rfl <;> omega
    have HD := hid hdn; clear hdn gk
    go_wp2
    go_ret2
    exact dec_bad s w h0 HD.out
   ·by_cases q2 : 191 < (s[k].toNat : Int)
    ·have hdn : dN s = (65533, 1) := by
      have e : k = 1 ∨ k = 2 ∨ k = 3 := by omega
      refine dN4_bad _ _ _ _ _ HL0.out HL1.out (bt_lt s 1) (bt_lt s 2) (bt_lt s 3) ?_
      show _ ∨ bt s 1 < 128 ∨ 191 < bt s 1 ∨ bt s 2 < 128 ∨ 191 < bt s 2 ∨ bt s 3 < 128 ∨ 191 < bt s 3 ∨ _
      rcases e with rfl | rfl | rfl <;> omega
     have HD := hid hdn; clear hdn gk
     go_wp2
     go_ret2
     exact dec_bad s w h0 HD.out
    ·have hcn := conts_next s k HC.out (by omega) (by omega)
     have HN := hid hcn; clear hcn
     have GK := hid gk; clear gk
     go_wp2
     go_round
     case rel => exact ⟨k + 1, by omega, by omega, by go_num, by rw [AN.out, GK.out], HN.out⟩
     case measure => simp [intOf]; omega
  ·obtain rfl : k = 4 := by omega
   have hv : acc s (s[0].toNat - 240) 4 = ((((bt s 0 : Int) - 240) * 64 + bt s 1 - 128) * 64 + bt s 2 - 128) * 64 + bt s 3 - 128 := by rw [G.out]; rfl
   have c1 := HC.out 1 (by omega) (by omega)
   have c2 := HC.out 2 (by omega) (by omega)
   have c3 := HC.out 3 (by omega) (by omega)
   have C := hid (And.intro c1 (And.intro c2 c3)); clear c1 c2 c3
   have HV := hid hv; clear hv
   by_cases v1 : acc s (s[0].toNat - 240) 4 < 65536
   ·have hdn : dN s = (65533, 1) := by
     refine dN4_bad _ _ _ _ _ HL0.out HL1.out (bt_lt s 1) (bt_lt s 2) (bt_lt s 3) ?_
     show _ ∨ bt s 1 < 128 ∨ 191 < bt s 1 ∨ bt s 2 < 128 ∨ 191 < bt s 2 ∨ bt s 3 < 128 ∨ 191 < bt s 3 ∨ _
     have r1 := HV.out
     have r2 := C.out
     refine .inr (.inr (.inr (.inr (.inr (.inr (.inr ?_))))))
     have e0 : bt s 0 = Ru.byt s.data.toList 0 := rfl; have e1 : bt s 1 = Ru.byt s.data.toList 1 := rfl; have e2 : bt s 2 = Ru.byt s.data.toList 2 := rfl; have e3 : bt s 3 = Ru.byt s.data.toList 3 := rfl
     omega
    have HD := hid hdn; clear hdn
    go_wp2
    go_ret2
    exact dec_bad s w h0 HD.out
   ·by_cases v2 : 1114111 < acc s (s[0].toNat - 240) 4
    ·have hdn : dN s = (65533, 1) := by
      refine dN4_bad _ _ _ _ _ HL0.out HL1.out (bt_lt s 1) (bt_lt s 2) (bt_lt s 3) ?_
      show _ ∨ bt s 1 < 128 ∨ 191 < bt s 1 ∨ bt s 2 < 128 ∨ 191 < bt s 2 ∨ bt s 3 < 128 ∨ 191 < bt s 3 ∨ _
      have r1 := HV.out
      have r2 := C.out
      refine .inr (.inr (.inr (.inr (.inr (.inr (.inr ?_))))))
      have e0 : bt s 0 = Ru.byt s.data.toList 0 := rfl; have e1 : bt s 1 = Ru.byt s.data.toList 1 := rfl; have e2 : bt s 2 = Ru.byt s.data.toList 2 := rfl; have e3 : bt s 3 = Ru.byt s.data.toList 3 := rfl
      omega
     have HD := hid hdn; clear hdn
     go_wp2
     go_ret2
     exact dec_bad s w h0 HD.out
    ·have hok := dN4_ok s.size (bt s 0) (bt s 1) (bt s 2) (bt s 3) _ HL0.out HL1.out hn C.out.1 C.out.2.1 C.out.2.2 HV.out (by omega) (by omega)
     have HK := hid hok; clear hok
     go_wp2
     go_ret2
     exact dec_is s w _ _ h0 HK.out
theorem rdecode_any (s : ByteArray) (w : World) (hs : s.size ≤ maxLen) : Calls Tryz.prog 119 #[.string s] w (DecQ (decB s) w) := by
 by_cases h0 : 0 < s.size
 ·have hb := s[0].toNat_lt
  by_cases h1 : (s[0].toNat : Int) < 128
  ·exact rdec_one s w h0 h1
  ·by_cases h2 : (s[0].toNat : Int) < 192
   ·exact rdec_else s w h0 (.inl ⟨by omega, h2⟩)
   ·by_cases h3 : 248 ≤ (s[0].toNat : Int)
    ·exact rdec_else s w h0 (.inr h3)
    ·by_cases h4 : (s[0].toNat : Int) < 224
     ·by_cases hn : s.size < 2
      ·exact rdec_short2 s w hs h0 (by omega) h4 hn
      ·exact rdec_long2 s w hs h0 (by omega) h4 (by omega)
     ·by_cases h5 : (s[0].toNat : Int) < 240
      ·by_cases hn : s.size < 3
       ·exact rdec_short3 s w hs h0 (by omega) h5 hn
       ·exact rdec_long3 s w hs h0 (by omega) h5 (by omega)
      ·by_cases hn : s.size < 4
       ·exact rdec_short4 s w hs h0 (by omega) (by omega) hn
       ·exact rdec_long4 s w hs h0 (by omega) (by omega) (by omega)
 ·exact rdec_none s w (by omega)
theorem rdecode_at (s : ByteArray) (pos : Nat) (w : World) (hs : s.size ≤ maxLen) (h : pos < s.size) : Calls Tryz.prog 119 #[.string (s.extract pos s.size)] w (DecQ (Utf8.decode s pos) w) := by
 rw [← decB_at s pos h]
 exact rdecode_any _ w (by rw [ByteArray.size_extract]; omega)
end Go.Proofs.YtegkhkcnoahhdaaGreat
/-
A function returns what the plain functions say: ReRunes.
-/
namespace Go.Proofs.YtegkhkcnoahhdaaGreat
open Lib (hid)
open Go.RowKit
set_option maxRecDepth 100000
theorem Tryz.info21 : (Tryz.prog.info? 21).map (fun i => (i.zero, i.size, i.bytes)) = some (some (.int .i32 0), 1, 4) := by kernel_rfl
theorem Tryz.info3 : (Tryz.prog.info? 3).map (fun i => (i.zero, i.size, i.bytes)) = some (some (.int .i64 0), 1, 8) := by kernel_rfl
def Rel (s : ByteArray) (w : World) (R : List (Nat × Nat)) (vl va : Value) (pos : Nat) (wr : World) : Prop :=
 wr.ownsRow w.heap.size 21 1 vl R.length (runeVals R) ∧ wr.ownsRow w.heap.size 3 1 va R.length (atVals R) ∧ Below w.heap.size w wr ∧ R ++ Ru.rns (rest s pos) = Ru.rns s.data.toList ∧ Ru.wsum R = pos ∧ R.length ≤ pos ∧ pos ≤ s.size
def RunesPost (s : ByteArray) (w : World) (e : Ending) (w' : World) : Prop :=
 ∃ vl va, e = .returned (.tuple #[vl, va, .bool (Ru.vld s.data.toList)]) ∧ w'.ownsRow w.heap.size 21 1 vl (Ru.cnt s.data.toList) (runeVals (Ru.rns s.data.toList)) ∧ w'.ownsRow w.heap.size 3 1 va (Ru.cnt s.data.toList) (atVals (Ru.rns s.data.toList)) ∧ Below w.heap.size w w'
set_option maxRecDepth 100000 in
set_option maxHeartbeats 4000000 in
theorem runes_any (s : ByteArray) (w : World) (hs : s.size ≤ 1000000) : Calls Tryz.prog 104 #[.string s] w (RunesPost s w) := by
 obtain ⟨iR, hiR, hzR0, hzR1, hzR2⟩ := info_parts Tryz.info21
 obtain ⟨iA, hiA, hzA0, hzA1, hzA2⟩ := info_parts Tryz.info3
 go_enter Tryz.func104, Tryz.ntmps104
 go_wp2
 go_loopw [5, 6, 7, 8] (fun vl va g i wr => ∃ (R : List (Nat × Nat)) (pos : Nat) (b : Bool), i = .int .i64 pos ∧ g = .bool b ∧ R.all Ru.fine = b ∧ Rel s w R vl va pos wr) (fun _ _ _ i _ => s.size - (intOf i).toNat)
 case atStart => exact ⟨[], 0, true, rfl, rfl, rfl, World.ownsRow_nil _ _ _ _, World.ownsRow_nil _ _ _ _, Below.refl _ _, rfl, rfl, Nat.le_refl _, Nat.zero_le _⟩
 case round =>
  obtain ⟨R, pos, b, rfl, rfl, hgood, hl, ha, hbw, hR, hws, hRl, hps⟩ := hrel
  have HG := hid hgood; clear hgood
  have HR := hid hR; clear hR
  have HW := hid hws; clear hws
  by_cases hp : pos < s.size
  ·have hd := Ru.dcl_r (s.data.toList.drop pos)
   rw [← Ru.decode_list] at hd
   have hwd := width_pos s pos hp
   have hwl := width_le s pos hp
   have hnx := rest_next s pos hp
   have HN := hid hnx; clear hnx
   have hB := hbw.size
   go_wp2_with fail
   refine (rdecode_at s pos _ (by unfold maxLen; omega) hp).mono ?_
   rintro e w' ⟨rfl, rfl⟩
   go_wp2_with (at_builtin; refine wpList_append_own _ rfl (.tmp 22) (.tmp 24) 164 rfl w.heap.size 21 iR (.int .i32 0) 1 4 Tryz.underlying164 hiR hzR0 hzR1 hzR2 rfl (by decide) _ _ _ rfl (hl.alloc _) ⟨wr.heap.size, 0, none⟩ 1 1 [.int .i32 ((Utf8.decode s pos).1 : Nat)] rfl rfl ?c1 ?c2 ?c3 ?c4 ?c5 ?_)
   case c1 => exact cell_one_new _ _ _
   case c2 => intro u hu; simp at hu; subst hu; rfl
   case c3 => unfold maxLen; omega
   case c4 => omega
   case c5 => simp; omega
   intro v1 w1 hl1 hg1 _
   have ha1 := (ha.alloc (.cells #[.int .i32 ((Utf8.decode s pos).1 : Nat)] 21)).kept hg1 (own_apart ha hl (by decide))
   have hb1 := (hbw.alloc hB (.cells #[.int .i32 ((Utf8.decode s pos).1 : Nat)] 21)).grown hg1 (by simp; omega) (fun g hg => (hl.lt g hg).1)
   have hB1 := hb1.size
   clear hg1
   go_wp2_with (at_builtin; refine wpList_append_own _ rfl (.tmp 26) (.tmp 28) 165 rfl w.heap.size 3 iA (.int .i64 0) 1 8 Tryz.underlying165 hiA hzA0 hzA1 hzA2 rfl (by decide) _ _ _ rfl (ha1.alloc _) ⟨w1.heap.size, 0, none⟩ 1 1 [.int .i64 (pos : Nat)] rfl rfl ?d1 ?d2 ?d3 ?d4 ?d5 ?_)
   case d1 => exact cell_one_new _ _ _
   case d2 => intro u hu; simp at hu; subst hu; rfl
   case d3 => unfold maxLen; omega
   case d4 => omega
   case d5 => simp; omega
   intro v2 w2 ha2 hg2 _
   have hl2 := (hl1.alloc (.cells #[.int .i64 (pos : Nat)] 3)).kept hg2 (own_apart hl1 ha1 (by decide))
   have hb2 := (hb1.alloc hB1 (.cells #[.int .i64 (pos : Nat)] 3)).grown hg2 (by simp; omega) (fun g hg => (ha1.lt g hg).1)
   clear hg2
   have hrel2 : Rel s w (R ++ [Utf8.decode s pos]) v1 v2 (pos + (Utf8.decode s pos).2) w2 := by
    refine ⟨?_, ?_, hb2, ?_, ?_, ?_, hwl⟩
    ·rw [runeVals_snoc, List.length_append]; exact hl2
    ·rw [atVals_snoc R _ pos HW.out.symm, List.length_append]; exact ha2
    ·rw [← HR.out, HN.out]; simp
    ·rw [Ru.wsum_append, HW.out]; simp
    ·rw [List.length_append]; simp; omega
   have HREL := hid hrel2; clear hrel2 hl1 ha1 hb1 hl2 ha2 hb2 hl ha hbw
   have hall : ∀ c, (b && Ru.fine (Utf8.decode s pos)) = c → (R ++ [Utf8.decode s pos]).all Ru.fine = c := by
    intro c hc; rw [← hc, List.all_append, HG.out]; simp
   have HALL := hid hall; clear hall
   cases b
   ·go_wp2
    go_roundw
    case rel => exact ⟨_, _, false, by go_num, rfl, HALL.out _ rfl, HREL.out⟩
    case measure => simp [intOf]; omega
   ·by_cases hr : (Utf8.decode s pos).1 = 65533
    ·have hr2 : (((Utf8.decode s pos).1 : Int) != 65533) = false := by rw [hr]; rfl
     have HR1 := hid hr; clear hr
     by_cases hn : (Utf8.decode s pos).2 = 3
     ·have hn2 : (((Utf8.decode s pos).2 : Int) == 3) = true := by rw [hn]; rfl
      have HN1 := hid hn; clear hn
      go_wp2
      go_roundw
      case rel => exact ⟨_, _, true, by go_num, rfl, HALL.out _ (by rw [Bool.true_and, Ru.fine_iff]; exact .inr HN1.out), HREL.out⟩
      case measure => simp [intOf]; omega
     ·have hn2 : (((Utf8.decode s pos).2 : Int) == 3) = false := by rw [beq_eq_false_iff_ne]; omega
      have HN1 := hid hn; clear hn
      go_wp2
      go_roundw
      case rel => exact ⟨_, _, false, by go_num, rfl, HALL.out _ (by rw [Bool.true_and]; unfold Ru.fine; rw [HR1.out, beq_eq_false_iff_ne.2 HN1.out]; rfl), HREL.out⟩
      case measure => simp [intOf]; omega
    ·have hr2 : (((Utf8.decode s pos).1 : Int) != 65533) = true := by rw [bne_iff_ne]; omega
     have HR1 := hid hr; clear hr
     go_wp2
     go_roundw
     case rel => exact ⟨_, _, true, by go_num, rfl, HALL.out _ (by rw [Bool.true_and, Ru.fine_iff]; exact .inl HR1.out), HREL.out⟩
     case measure => simp [intOf]; omega
  ·go_wp2
   go_ret3
   have := HR.out
   rw [rest_end s pos hp, Ru.rns_nil, List.append_nil] at this
   rw [this] at hl ha
   refine ⟨_, _, ?_, hl, ha, hbw⟩
   have hg := HG.out
   rw [this] at hg
   unfold Ru.vld; rw [hg]; rfl
def RunesB (s : ByteArray) (b : Bool) (w : World) (e : Ending) (w' : World) : Prop :=
 ∃ vl va, e = .returned (.tuple #[vl, va, .bool b]) ∧ w'.ownsRow w.heap.size 21 1 vl (Ru.cnt s.data.toList) (runeVals (Ru.rns s.data.toList)) ∧ w'.ownsRow w.heap.size 3 1 va (Ru.cnt s.data.toList) (atVals (Ru.rns s.data.toList)) ∧ Below w.heap.size w w'
theorem runes_is (s : ByteArray) (b : Bool) (w : World) (hs : s.size ≤ 1000000) (h : Ru.vld s.data.toList = b) : Calls Tryz.prog 104 #[.string s] w (RunesB s b w) :=
 (runes_any s w hs).mono fun e w' ⟨vl, va, he, hl, ha, hb⟩ => ⟨vl, va, by rw [he, h], hl, ha, hb⟩
end Go.Proofs.YtegkhkcnoahhdaaGreat
