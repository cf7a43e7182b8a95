/-
  A number's turning into a natural number and back, as package num does it.
  The conditions are the kinds' ranges.
-/
import Derived.Test.YtegkhkcnoahhdaaWAppend
import Derived.Test.YtegkhkcnoahhdaaRePut
import Derived.Lib.Zigzag
import Derived.Laws.BitsAllLaws
import Derived.OwnWalk
set_option linter.unusedSimpArgs false
set_option linter.unusedVariables false
namespace Go.Proofs.Ytegkhkcnoahhdaa
open Go.RowKit
set_option maxRecDepth 100000

theorem i64_not_all (n : Int) (h0 : -9223372036854775808 ≤ n) (h1 : n ≤ 9223372036854775807) : bits BinOp.xor IntKind.i64 (-1) n = -n - 1 := by
  by_cases hs : 0 ≤ n
  · obtain ⟨k, rfl⟩ := Int.eq_ofNat_of_zero_le hs
    exact Lib.i64_not k (by omega)
  · show IntKind.i64.wrap ((BitVec.ofInt 64 (-1) ^^^ BitVec.ofInt 64 n).toNat : Int) = _
    have a1 : (BitVec.ofInt 64 (-1)).toNat = 2 ^ 64 - 1 := by decide
    have a2 : (BitVec.ofInt 64 n).toNat = (n + 18446744073709551616).toNat := by
      rw [BitVec.toNat_ofInt]
      have e : n % ((2 ^ 64 : Nat) : Int) = n + 18446744073709551616 := by
        rw [show ((2 ^ 64 : Nat) : Int) = 18446744073709551616 from rfl]; omega
      rw [e]
    rw [BitVec.toNat_xor, a1, a2, Lib.xor_ones64 _ (by omega), IntKind.wrap_i64]
    omega
theorem u64_or1 (n : Nat) (h : n < 9223372036854775808) : bits BinOp.or IntKind.u64 ((n : Int) * 2) 1 = (n : Int) * 2 + 1 := by
  have e : ((n : Int) * 2) = ((n * 2 : Nat) : Int) := by omega
  rw [e, show (1 : Int) = ((1 : Nat) : Int) from rfl, u64_or_nat _ _ (by omega) (by omega), nat_join 1 (n * 2) 1 (by omega) (by omega)]
  rfl
theorem ret_u64 {a b : Int} (h : a = b) : Ending.returned (.int .u64 a) = .returned (.int .u64 b) := by rw [h]

set_option maxHeartbeats 2000000 in
theorem nunsigned_any (n : Int) (w : World) (h0 : -9223372036854775808 ≤ n) (h1 : n ≤ 9223372036854775807) : Calls Try.prog 68 #[.int .i64 n] w fun e w' => e = .returned (.int .u64 (Nu.zz n : Nat)) ∧ w = w' := by
  by_cases hs : n < 0
  · have e1 := i64_not_all n h0 h1
    obtain ⟨m, hm⟩ : ∃ m : Nat, -n - 1 = (m : Int) := Int.eq_ofNat_of_zero_le (by omega)
    have e2 : IntKind.u64.wrap (m : Int) = (m : Int) := by rw [IntKind.wrap_u64]; omega
    have e3 : IntKind.u64.wrap ((m : Int) * 2) = (m : Int) * 2 := by rw [IntKind.wrap_u64]; omega
    have e4 := u64_or1 m (by omega)
    rw [hm] at e1
    have e5 : ((Nu.zz n : Nat) : Int) = (m : Int) * 2 + 1 := by unfold Nu.zz; rw [if_pos hs]; omega
    have E5 := Lib.hid e5; clear e5
    have HM := Lib.hid hm; clear hm
    go_enter Try.func68, Try.ntmps68
    go_wp2
    go_ret
    refine ⟨ret_u64 ?_, rfl⟩
    rw [E5.out]
  · have e5 : ((Nu.zz n : Nat) : Int) = n * 2 := by unfold Nu.zz; rw [if_neg hs]; omega
    have E5 := Lib.hid e5; clear e5
    go_enter Try.func68, Try.ntmps68
    go_wp2
    go_ret
    exact ⟨ret_u64 E5.out.symm, rfl⟩

set_option maxHeartbeats 2000000 in
theorem nsigned_any (u : Nat) (w : World) (h1 : u < 18446744073709551616) : Calls Try.prog 80 #[.int .u64 u] w fun e w' => e = .returned (.int .i64 (Nu.unzz u)) ∧ w = w' := by
  have ea := Lib.u64_and1 (u : Int) (by omega) (by omega)
  have en := i64_not_all ((u : Int) / 2) (by omega) (by omega)
  by_cases hs : u % 2 = 1
  · have e5 : Nu.unzz u = -((u : Int) / 2) - 1 := by unfold Nu.unzz; rw [if_pos hs]; omega
    have eb : ((bits BinOp.and IntKind.u64 (u : Int) 1) == 1) = true := by rw [ea, beq_iff_eq]; omega
    have E5 := Lib.hid e5; clear e5 ea hs
    go_enter Try.func80, Try.ntmps80
    go_wp2
    go_ret
    refine ⟨ret_i64 ?_, rfl⟩
    rw [E5.out, ← en]
  · have e5 : Nu.unzz u = (u : Int) / 2 := by unfold Nu.unzz; rw [if_neg hs]; omega
    have eb : ((bits BinOp.and IntKind.u64 (u : Int) 1) == 1) = false := by rw [ea, beq_eq_false_iff_ne]; omega
    have E5 := Lib.hid e5; clear e5 ea hs
    go_enter Try.func80, Try.ntmps80
    go_wp2
    go_ret
    refine ⟨ret_i64 ?_, rfl⟩
    rw [E5.out]
end Go.Proofs.Ytegkhkcnoahhdaa
/-
  Package num's Get reads a number as the plain function says, whatever the bytes.
  The bytes are there in memory, at most as many as the model lets a slice have.
-/
namespace Go.Proofs.Ytegkhkcnoahhdaa
open Go.RowKit
set_option maxRecDepth 100000

set_option maxRecDepth 100000 in
theorem u8_low7 (x : UInt8) : bits BinOp.andNot IntKind.u8 (x.toNat : Int) 128 = ((x.toNat % 128 : Nat) : Int) := by
  have hb := x.toNat_lt
  rw [show (128 : Int) = ((128 : Nat) : Int) from rfl, u8_andNot_nat _ _ (by omega) (by omega), nat_mask7]
theorem pow7 (k : Nat) : (2 : Int) ^ (7 * k) = ((128 ^ k : Nat) : Int) := by
  rw [Int.pow_mul, Int.natCast_pow]; rfl
theorem get_facts (x : UInt8) (k un : Nat) (hk : k ≤ 9) (h9 : k = 9 → x.toNat ≤ 1) (hun : un < 128 ^ k) :
    ∃ N m d : Nat, N = un + x.toNat % 128 * 128 ^ k ∧ N < 18446744073709551616 ∧ N < 128 ^ (k + 1) ∧ bits BinOp.andNot IntKind.u8 (x.toNat : Int) 128 = (d : Int) ∧ IntKind.u64.wrap (d : Int) = (d : Int) ∧ IntKind.u64.wrap ((d : Int) * 2 ^ (7 * k)) = (m : Int) ∧ bits BinOp.or IntKind.u64 (un : Int) (m : Int) = (N : Int) := by
  have hb := x.toNat_lt
  have hw : ∀ z : Nat, z < 18446744073709551616 → IntKind.u64.wrap (z : Int) = (z : Int) := fun z hz => by rw [IntKind.wrap_u64]; omega
  have hx : x.toNat % 128 < 128 := Nat.mod_lt _ (by decide)
  have h8 : (128 : Nat) ^ 8 = 72057594037927936 := by decide
  have h99 : (128 : Nat) ^ 9 = 9223372036854775808 := by decide
  have hN : un + x.toNat % 128 * 128 ^ k < 18446744073709551616 := by
    by_cases hk9 : k = 9
    · have := h9 hk9
      subst hk9
      rw [h99] at hun ⊢
      have : x.toNat % 128 ≤ 1 := by omega
      have := Nat.mul_le_mul_right 9223372036854775808 this
      omega
    · have h1 : (128 : Nat) ^ k ≤ 128 ^ 8 := Nat.pow_le_pow_right (by decide) (by omega)
      have h2 : x.toNat % 128 * 128 ^ k ≤ 127 * 128 ^ k := Nat.mul_le_mul_right _ (by omega)
      omega
  have hN2 : un + x.toNat % 128 * 128 ^ k < 128 ^ (k + 1) := by
    have h2 : x.toNat % 128 * 128 ^ k ≤ 127 * 128 ^ k := Nat.mul_le_mul_right _ (by omega)
    rw [Nat.pow_succ]; omega
  refine ⟨_, x.toNat % 128 * 128 ^ k, x.toNat % 128, rfl, hN, hN2, u8_low7 x, hw _ (by omega), ?_, ?_⟩
  · rw [pow7, ← Int.natCast_mul]; exact hw _ (by omega)
  · rw [u64_or_nat _ _ (by omega) (by omega), Nat.or_comm, nat_join (7 * k) _ un ?_ ?_]
    · rw [Nat.add_comm]
    · rw [Nat.pow_mul]; exact Nat.mul_mod_left _ _
    · rw [Nat.pow_mul]; exact hun
theorem nstep (l : List UInt8) (i u : Nat) (x : UInt8) (h : Nu.getF i u (128 ^ i) (l.drop i) = Nu.get l) (hi : i < l.length) (hx : l[i] = x) :
    Nu.get l = if (i = 9 ∧ 1 < x.toNat) ∨ (0 < i ∧ x.toNat = 0) then (0, 0, 1) else if x.toNat < 128 then (Nu.unzz (u + x.toNat % 128 * 128 ^ i), i + 1, 0) else Nu.getF (i + 1) (u + x.toNat % 128 * 128 ^ i) (128 ^ (i + 1)) (l.drop (i + 1)) := by
  have := gstep l i u _ h hi
  rw [hx, ← Nat.pow_succ] at this
  exact this

set_option maxRecDepth 100000 in
set_option maxHeartbeats 4000000 in
theorem nget_any (A : Option Addr) (c B : Nat) (l : List UInt8) (w : World) (h : Byt w B (.slice A l.length c) l) (hl : l.length ≤ 1000000) :
    Calls Try.prog 60 #[.slice A l.length c] w (GotN (Nu.get l) w) := by
  obtain ⟨A', c', hv, hc, hcell⟩ := h
  injection hv with e1 _ e2; subst e1; subst e2
  have HCELL := Lib.hid hcell; clear hcell
  go_enter Try.func60, Try.ntmps60
  go_wp2
  go_loop [5, 10] (fun u i => ∃ un k : Nat, u = .int .u64 un ∧ i = .int .i64 k ∧ k ≤ 9 ∧ k ≤ l.length ∧ un < 128 ^ k ∧ Nu.getF k un (128 ^ k) (l.drop k) = Nu.get l) (fun _ i => l.length - (intOf i).toNat)
  case atStart => exact ⟨0, 0, rfl, rfl, by omega, by omega, by decide, rfl⟩
  case round =>
    obtain ⟨un, k, rfl, rfl, hk9, hkl, hun, hget⟩ := hrel
    have HU := Lib.hid hun; clear hun
    have HG := Lib.hid hget; clear hget
    by_cases hlt : k < l.length
    · obtain ⟨g, o, rfl, hg, hcs⟩ := HCELL.out (by omega)
      obtain ⟨x, hxl⟩ : ∃ x, l[k] = x := ⟨_, rfl⟩
      have hc1 := hcs k hlt
      rw [hxl] at hc1
      have hstep := nstep l k un x HG.out hlt hxl
      clear hcs HCELL hxl
      have hb := x.toNat_lt
      have HS := Lib.hid hstep; clear hstep
      by_cases hbad : k = 9 ∧ 1 < x.toNat
      · obtain ⟨rfl, hx1⟩ := hbad
        have hform : Nu.get l = (0, 0, 1) := by rw [HS.out, if_pos (.inl ⟨rfl, hx1⟩)]
        have HF := Lib.hid hform; clear hform HS HU HG
        have hx1' : 1 < (x.toNat : Int) := by omega
        go_wp2
        go_ret3
        refine got3 ?_ ?_ ?_ <;> (rw [HF.out]; first | done | rfl)
      · obtain ⟨N, m, d, hNe, hN, hN2, f1, f2, f3, f4⟩ := get_facts x k un hk9 (fun h => by omega) HU.out
        have HN := Lib.hid hNe; clear hNe
        have HN2 := Lib.hid hN2; clear hN2 HU HG
        have HB := Lib.hid hbad; clear hbad
        have t1 : ((k : Int) == 9) = decide (k = 9) := by
          by_cases h : k = 9
          · subst h; rfl
          · rw [decide_eq_false h, beq_eq_false_iff_ne]; omega
        by_cases h9 : k = 9
        · rw [decide_eq_true h9] at t1
          have hx1 : (x.toNat : Int) ≤ 1 := by have := HB.out; omega
          have hx128 : (x.toNat : Int) < 128 := by omega
          have hk0 : 0 < k := by omega
          have H9 := Lib.hid h9; clear h9
          by_cases hx0 : x.toNat = 0
          · have hz : ((x.toNat : Int) == 0) = true := by rw [hx0]; rfl
            have H0 := Lib.hid hx0; clear hx0
            have hform : Nu.get l = (0, 0, 1) := by rw [HS.out, if_pos (.inr ⟨hk0, H0.out⟩)]
            have HF := Lib.hid hform; clear hform HS
            go_wp2
            go_ret3
            refine got3 ?_ ?_ ?_ <;> (rw [HF.out]; first | done | rfl)
          · have hz : ((x.toNat : Int) == 0) = false := by rw [beq_eq_false_iff_ne]; omega
            have hval : Nu.get l = (Nu.unzz N, k + 1, 0) := by rw [HS.out, if_neg (by omega), if_pos (by omega), HN.out]
            have HV := Lib.hid hval; clear hval HS
            have H0 := Lib.hid hx0; clear hx0
            go_wp2_with (go_at_call 80; refine (nsigned_any N _ hN).mono ?_; rintro e w1 ⟨rfl, rfl⟩)
            go_ret3
            refine got3 (by rw [HV.out]) (by rw [HV.out]; first | done | rfl | (show _ = ((_ : Nat) : Int); omega)) (by rw [HV.out]; first | done | rfl)
        · rw [decide_eq_false h9] at t1
          by_cases hx128 : x.toNat < 128
          · have hx128' : (x.toNat : Int) < 128 := by omega
            by_cases hx0 : 0 < k ∧ x.toNat = 0
            · obtain ⟨hk0, hx0⟩ := hx0
              have hz : ((x.toNat : Int) == 0) = true := by rw [hx0]; rfl
              have H0 := Lib.hid hx0; clear hx0
              have hform : Nu.get l = (0, 0, 1) := by rw [HS.out, if_pos (.inr ⟨hk0, H0.out⟩)]
              have HF := Lib.hid hform; clear hform HS
              go_wp2
              go_ret3
              refine got3 ?_ ?_ ?_ <;> (rw [HF.out]; first | done | rfl)
            · have hval : Nu.get l = (Nu.unzz N, k + 1, 0) := by rw [HS.out, if_neg (by omega), if_pos (by omega), HN.out]
              have HV := Lib.hid hval; clear hval HS
              have hz : ((x.toNat : Int) == 0) = decide (x.toNat = 0) := by
                by_cases h : x.toNat = 0
                · rw [h]; rfl
                · rw [decide_eq_false h, beq_eq_false_iff_ne]; omega
              have hor : x.toNat = 0 ∨ x.toNat ≠ 0 := by omega
              rcases hor with h | h
              · rw [decide_eq_true h] at hz
                have hk0' : ¬ 0 < k := by omega
                have HX := Lib.hid hx0; clear hx0
                have HH := Lib.hid h; clear h
                go_wp2_with (go_at_call 80; refine (nsigned_any N _ hN).mono ?_; rintro e w1 ⟨rfl, rfl⟩)
                go_ret3
                refine got3 (by rw [HV.out]) (by rw [HV.out]; first | done | rfl | (show _ = ((_ : Nat) : Int); omega)) (by rw [HV.out]; first | done | rfl)
              · rw [decide_eq_false h] at hz
                have HX := Lib.hid hx0; clear hx0
                have HH := Lib.hid h; clear h
                go_wp2_with (go_at_call 80; refine (nsigned_any N _ hN).mono ?_; rintro e w1 ⟨rfl, rfl⟩)
                go_ret3
                refine got3 (by rw [HV.out]) (by rw [HV.out]; first | done | rfl | (show _ = ((_ : Nat) : Int); omega)) (by rw [HV.out]; first | done | rfl)
          · have hx128' : 128 ≤ (x.toNat : Int) := by omega
            have hnx : Nu.getF (k + 1) N (128 ^ (k + 1)) (l.drop (k + 1)) = Nu.get l := by rw [HS.out, if_neg (by omega), if_neg hx128, HN.out]
            have HX := Lib.hid hnx; clear hnx HS
            go_wp2
            go_round
            case rel => exact ⟨N, k + 1, by first | rfl | simp, by go_num, by omega, by omega, HN2.out, HX.out⟩
            case measure => simp [intOf]; omega
    · have hend : Nu.get l = (0, 0, 2) := by rw [← HG.out, List.drop_of_length_le (by omega)]; rfl
      have HE := Lib.hid hend; clear hend HG
      go_wp2
      go_ret3
      refine got3 ?_ ?_ ?_ <;> (rw [HE.out]; first | done | rfl)
end Go.Proofs.Ytegkhkcnoahhdaa
/-
  Package num's GetText reads a text behind its length as the plain function says, whatever the bytes.
  The bytes are there in memory, at most 1,000,000.
-/
namespace Go.Proofs.Ytegkhkcnoahhdaa
open Go.RowKit
set_option maxRecDepth 100000

set_option maxRecDepth 100000 in
set_option maxHeartbeats 4000000 in
theorem ngetText_any (A : Option Addr) (c B : Nat) (l : List UInt8) (w : World) (h : Byt w B (.slice A l.length c) l) (hl : l.length ≤ 1000000) :
    Calls Try.prog 84 #[.slice A l.length c] w (GotT (Nu.getT l) w) := by
  have hget := nget_any A c B l w h hl
  obtain ⟨A', c', hv, hc, hcell⟩ := h
  injection hv with e1 _ e2; subst e1; subst e2
  have hlen := Nu.get_len l
  have hpos := Nu.get_pos l
  have hT := getT_of l
  obtain ⟨r, hr⟩ : ∃ r, Nu.get l = r := ⟨_, rfl⟩
  rw [hr] at hget hlen hpos hT
  obtain ⟨rn, rk, re⟩ := r
  simp only at hlen hpos hT
  have HG := Lib.hid hget; clear hget
  have HCELL := Lib.hid hcell; clear hcell
  clear hr
  by_cases he : re = 0
  · subst he
    have hk1 := hpos rfl
    clear hpos
    simp only [ne_eq, not_true_eq_false, if_false] at hT
    by_cases hn0 : rn < 0
    · have h2 : Nu.getT l = ([], 0, 1) := by rw [hT, if_pos (.inl hn0)]
      have H2 := Lib.hid h2; clear h2 hT
      go_enter Try.func84, Try.ntmps84
      go_wp2_with fail
      refine HG.out.mono ?_
      rintro e w' ⟨rfl, rfl⟩
      go_wp2
      go_ret3
      exact gotT H2.out rfl rfl rfl
    · by_cases hn1 : 1048576 < rn
      · have h2 : Nu.getT l = ([], 0, 1) := by rw [hT, if_pos (.inr hn1)]
        have H2 := Lib.hid h2; clear h2 hT
        go_enter Try.func84, Try.ntmps84
        go_wp2_with fail
        refine HG.out.mono ?_
        rintro e w' ⟨rfl, rfl⟩
        go_wp2
        go_ret3
        exact gotT H2.out rfl rfl rfl
      · rw [if_neg (by omega)] at hT
        by_cases hm : (l.length : Int) - rk < rn
        · have h2 : Nu.getT l = ([], 0, 2) := by rw [hT, if_pos hm]
          have H2 := Lib.hid h2; clear h2 hT
          go_enter Try.func84, Try.ntmps84
          go_wp2_with fail
          refine HG.out.mono ?_
          rintro e w' ⟨rfl, rfl⟩
          go_wp2
          go_ret3
          exact gotT H2.out rfl rfl rfl
        · obtain ⟨n, rfl⟩ := Int.eq_ofNat_of_zero_le (show 0 ≤ rn by omega)
          have h2 : Nu.getT l = ((l.drop rk).take n, rk + n, 0) := by rw [hT, if_neg hm]; rfl
          have H2 := Lib.hid h2; clear h2 hT
          obtain ⟨g, o, rfl, hg, hcs⟩ := HCELL.out (by omega)
          have hkn : rk + n ≤ l.length := by omega
          by_cases hcap : c = rk
          · obtain rfl : n = 0 := by omega
            have kc := conv_zero w g o
            have HC := Lib.hid hcap; clear hcap hcs HCELL
            go_enter Try.func84, Try.ntmps84
            go_wp2_with fail
            refine HG.out.mono ?_
            rintro e w' ⟨rfl, rfl⟩
            go_wp2
            go_ret3
            exact gotT H2.out (by simp) (by omega) rfl
          · have kc := fun cap => conv_part w g o l rk n cap hkn hcs
            clear hcs HCELL
            go_enter Try.func84, Try.ntmps84
            go_wp2_with fail
            refine HG.out.mono ?_
            rintro e w' ⟨rfl, rfl⟩
            go_wp2
            go_ret3
            exact gotT H2.out rfl (by omega) rfl
  · have h2 : Nu.getT l = ([], 0, re) := by rw [hT, if_pos he]
    have H2 := Lib.hid h2; clear h2 hT
    have hne : ((re : Int) != 0) = true := by rw [bne_iff_ne]; omega
    have HE := Lib.hid he; clear he
    go_enter Try.func84, Try.ntmps84
    go_wp2_with fail
    refine HG.out.mono ?_
    rintro e w' ⟨rfl, rfl⟩
    go_wp2
    go_ret3
    exact gotT H2.out rfl rfl rfl
end Go.Proofs.Ytegkhkcnoahhdaa
/-
  Package num's copyOf makes a new row of the same bytes.
  The bytes are there in memory; they and the room are no more than the model's bound on what is made.
-/
namespace Go.Proofs.Ytegkhkcnoahhdaa
open Go.RowKit
set_option maxRecDepth 100000

set_option maxRecDepth 100000 in
set_option maxHeartbeats 4000000 in
theorem ncopyOf_any (u : Value) (B n : Nat) (l : List UInt8) (w : World) (h : Byt w B u l) (hl : l.length + n ≤ 140737488355328) (hB : B ≤ w.heap.size) :
    Calls Try.prog 51 #[u, .int .i64 n] w (Made l w) := by
  obtain ⟨iR, hiR, hzR0, hzR1, hzR2⟩ := info_parts Try.infoU8
  obtain ⟨A, c, rfl, hrest⟩ := id h
  have HH := Lib.hid h; clear h hrest
  go_enter Try.func51, Try.ntmps51
  go_wp2_with (at_make; refine wpList_make_own w rfl _ _ 22 rfl w.heap.size 5 iR (.int .u8 0) 1 Try.underlying22 hiR hzR0 hzR1 .i64 .i64 ((l.length : Int) + (n : Int)) (l.length + n) rfl rfl (by omega) ?c0 ?c1 (Nat.le_refl _) ?_)
  case c0 => rw [hzR2]; omega
  case c1 => unfold maxLen; omega
  intro w1 hown1 hg1
  have hb1 := (Below.refl w.heap.size w).grown hg1 (Nat.le_refl _) (fun g hg => by cases hg)
  clear hg1
  have hu := HH.out.below hb1 hB
  have hown : OwnB w.heap.size _ [] w1 := hown1
  have HU := Lib.hid hu; clear hu
  go_wp2_with (at_builtin; refine wpList_append_byt rfl _ _ rfl w.heap.size _ _ _ _ _ rfl hown rfl HU.out ?c2 hb1.size ?_)
  case c2 => simp; omega
  intro v2 w2 hown2 hb2
  have hb := hb1.trans hb2
  clear hown hown1 HU
  go_wp2
  go_ret
  exact ⟨v2, rfl, by simpa using hown2, hb⟩
end Go.Proofs.Ytegkhkcnoahhdaa
/-
  Package num's add writes a number behind a row that the caller owns.
  The row is shorter than the model's bound on what append makes.
-/
namespace Go.Proofs.Ytegkhkcnoahhdaa
open Go.RowKit
set_option maxRecDepth 100000

/-- a row among the blocks from B on, behind a call that turned nothing below B -/
def Onto (B : Nat) (m : List UInt8) (w : World) (e : Ending) (w' : World) : Prop := ∃ v, e = .returned v ∧ OwnB B v m w' ∧ Below B w w'
set_option maxRecDepth 100000 in
theorem u8_or128 (u : Nat) : bits BinOp.or IntKind.u8 ((u : Int) % 256) 128 = ((u % 128 + 128 : Nat) : Int) := by
  have e : ((u : Int) % 256) = ((u % 256 : Nat) : Int) := by omega
  rw [e, show (128 : Int) = ((128 : Nat) : Int) from rfl, u8_or_nat _ _ (by omega) (by omega)]
  congr 1
  have h2 : ∀ x, x < 256 → x ||| 128 = x % 128 + 128 := by decide
  rw [h2 _ (by omega)]; omega
set_option maxRecDepth 100000 in
set_option maxHeartbeats 4000000 in
theorem nadd_any (v : Value) (B : Nat) (l : List UInt8) (n : Int) (w : World) (hown : OwnB B v l w) (hB : B ≤ w.heap.size) (hl : l.length ≤ 70368744177664) (h0 : -9223372036854775808 ≤ n) (h1 : n ≤ 9223372036854775807) :
    Calls Try.prog 50 #[v, .int .i64 n] w (Onto B (l ++ Nu.put n) w) := by
  have hst := rest_start n h0 h1
  have HST := Lib.hid hst; clear hst
  go_enter Try.func50, Try.ntmps50
  go_wp2_with (go_at_call 68; refine (nunsigned_any n w h0 h1).mono ?_; rintro e w1 ⟨rfl, rfl⟩)
  go_loopw [0, 5] (fun s v wr => ∃ (u f : Nat) (done : List UInt8), v = .int .u64 u ∧ u < 18446744073709551616 ∧ OwnB B s (l ++ done) wr ∧ Below B w wr ∧ done.length ≤ 10 ∧ Rest n f u done) (fun _ v _ => (intOf v).toNat)
  case atStart =>
    exact ⟨Nu.zz n, 10, [], rfl, Nu.zz_lt n h0 h1, by rw [List.append_nil]; exact hown, Below.refl _ _, by simp, HST.out⟩
  case round =>
    obtain ⟨u, f, done, rfl, hu64, hown1, hbw, hd, hrest⟩ := hrel
    have HR := Lib.hid hrest; clear hrest hown HST
    have hBr := Nat.le_trans hB hbw.size
    by_cases hu : u < 128
    · obtain ⟨cb, hcb⟩ : ∃ c : UInt8, u.toUInt8 = c := ⟨_, rfl⟩
      have HCB := Lib.hid hcb; clear hcb
      have hw : (u : Int) % 256 = (u : Int) := by omega
      have hB1 : B ≤ (wr.alloc (.cells #[.int .u8 (u : Int)] 5)).heap.size := by simp; omega
      go_wp2_with (at_builtin; refine wpList_append_byt rfl _ _ rfl B _ _ _ _ _ rfl (hown1.alloc _) rfl (byt_new1 wr _ _ cb ?c1) ?c2 hB1 ?_)
      case c1 => rw [← HCB.out, Nu.u8n u (by omega)]
      case c2 => simp; omega
      intro v2 w2 hown2 hb2
      have hb := (hbw.alloc hBr (.cells #[.int .u8 (u : Int)] 5)).trans hb2
      clear hb2
      go_wp2
      go_ret
      refine ⟨v2, rfl, ?_, hb⟩
      rw [← rest_end' n f u done HR.out hu, HCB.out, ← List.append_assoc]; simpa using hown2
    · obtain ⟨cb, hcb⟩ : ∃ c : UInt8, (u % 128 + 128).toUInt8 = c := ⟨_, rfl⟩
      have HCB := Lib.hid hcb; clear hcb
      have hor := u8_or128 u
      have hB1 : B ≤ (wr.alloc (.cells #[.int .u8 ((u % 128 + 128 : Nat) : Int)] 5)).heap.size := by simp; omega
      go_wp2_with (at_builtin; refine wpList_append_byt rfl _ _ rfl B _ _ _ _ _ rfl (hown1.alloc _) rfl (byt_new1 wr _ _ cb ?c1) ?c2 hB1 ?_)
      case c1 => rw [← HCB.out, Nu.u8n _ (by omega)]; first | rfl | omega
      case c2 => simp; omega
      intro v2 w2 hown2 hb2
      have hb := (hbw.alloc hBr (.cells #[.int .u8 ((u % 128 + 128 : Nat) : Int)] 5)).trans hb2
      clear hb2
      go_wp2
      go_roundw
      case rel =>
        obtain ⟨g, rfl, hr2⟩ := rest_more n f u done HR.out hu
        refine ⟨u / 128, g, done ++ [(u % 128 + 128).toUInt8], by simp, by omega, ?_, hb, by have := hr2.2.2.2; omega, hr2⟩
        rw [HCB.out, ← List.append_assoc]; simpa using hown2
      case measure => simp [intOf]; omega
end Go.Proofs.Ytegkhkcnoahhdaa
/-
  Package num's Put writes the bytes that come in, and a number behind them, in new memory.
  The bytes are there in memory; they are shorter than the model's bound on what append makes.
-/
namespace Go.Proofs.Ytegkhkcnoahhdaa
open Go.RowKit
set_option maxRecDepth 100000

set_option maxRecDepth 100000 in
set_option maxHeartbeats 4000000 in
theorem nput_any (u : Value) (B : Nat) (l : List UInt8) (n : Int) (w : World) (h : Byt w B u l) (hl : l.length ≤ 35184372088832) (hB : B ≤ w.heap.size) (h0 : -9223372036854775808 ≤ n) (h1 : n ≤ 9223372036854775807) :
    Calls Try.prog 30 #[u, .int .i64 n] w (Made (l ++ Nu.put n) w) := by
  have hA : l.length + 10 ≤ 140737488355328 := by omega
  have hA2 : l.length ≤ 70368744177664 := by omega
  go_enter Try.func30, Try.ntmps30
  go_wp2_with (go_at_call 51; refine (ncopyOf_any u B 10 l w h hA hB).mono ?_; rintro e w1 ⟨v1, rfl, hown1, hb1⟩)
  go_wp2_with (go_at_call 50; refine (nadd_any v1 w.heap.size l n w1 hown1 hb1.size hA2 h0 h1).mono ?_; rintro e w2 ⟨v2, rfl, hown2, hb2⟩)
  have hb := hb1.trans hb2
  clear hb1 hb2 hown1
  go_wp2
  go_ret
  exact ⟨v2, rfl, hown2, hb⟩
end Go.Proofs.Ytegkhkcnoahhdaa
/-
  Package num's PutText writes the bytes that come in, and a text's length and its bytes behind them, in new memory.
  The bytes are there in memory; they and the text are shorter than the model's bound on what append makes.
-/
namespace Go.Proofs.Ytegkhkcnoahhdaa
open Go.RowKit
set_option maxRecDepth 100000

set_option maxRecDepth 100000 in
set_option maxHeartbeats 4000000 in
theorem nputText_any (u : Value) (B : Nat) (l : List UInt8) (s : ByteArray) (w : World) (h : Byt w B u l) (hl : l.length ≤ 17592186044416) (hs : s.size ≤ 17592186044416) (hB : B ≤ w.heap.size) :
    Calls Try.prog 31 #[u, .string s] w (Made (l ++ Nu.putT s.data.toList) w) := by
  obtain ⟨m, hm⟩ : ∃ m : Nat, (10 : Int) + (s.size : Int) = (m : Int) := ⟨10 + s.size, by omega⟩
  have hpl := Nu.put_len (s.size : Int)
  have hA : l.length + m ≤ 140737488355328 := by omega
  have hA2 : l.length ≤ 70368744177664 := by omega
  have hs0 : -9223372036854775808 ≤ (s.size : Int) := by omega
  have hs1 : (s.size : Int) ≤ 9223372036854775807 := by omega
  go_enter Try.func31, Try.ntmps31
  go_wp2_with fail
  refine (ncopyOf_any u B m l w h hA hB).mono ?_
  rintro e w1 ⟨v1, rfl, hown1, hb1⟩
  go_wp2_with fail
  refine (nadd_any v1 w.heap.size l (s.size : Int) w1 hown1 hb1.size hA2 hs0 hs1).mono ?_
  rintro e w2 ⟨v2, rfl, hown2, hb2⟩
  have hb := hb1.trans hb2
  clear hb1 hb2 hown1
  go_wp2_with (at_builtin; refine wpList_append_text rfl _ _ rfl w.heap.size _ _ _ rfl hown2 rfl ?c2 hb.size ?_)
  case c2 => simp; omega
  intro v3 w3 hown3 hb3
  have hc := hb.trans hb3
  clear hb hb3 hown2
  go_wp2
  go_ret
  refine ⟨v3, rfl, ?_, hc⟩
  unfold Nu.putT
  rw [show (s.data.toList.length : Int) = (s.size : Int) by rw [Array.length_toList]; rfl]; simpa using hown3
end Go.Proofs.Ytegkhkcnoahhdaa
