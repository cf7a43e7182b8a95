/-
  Package num's Get reads a number as the plain function says, whatever the bytes.
  The bytes are there in memory, at most as many as the model lets a slice have.
-/
import Derived.Test.YtmpdjioclalifaaDoorWBytes
import Derived.Test.YtmpdjioclalifaaDoorNuSmall
import Derived.Test.YtmpdjioclalifaaDoorReGet
set_option linter.unusedSimpArgs false
set_option linter.unusedVariables false
namespace Go.Proofs.YtmpdjioclalifaaDoor
open Go.RowKit
set_option maxRecDepth 100000

set_option maxRecDepth 100000 in
theorem u8_low7 (x : UInt8) : bits BinOp.andNot IntKind.u8 (x.toNat : Int) 128 = ((x.toNat % 128 : Nat) : Int) := by
  have hb := x.toNat_lt
  rw [show (128 : Int) = ((128 : Nat) : Int) from rfl, u8_andNot_nat _ _ (by omega) (by omega), nat_mask7]
theorem pow7 (k : Nat) : (2 : Int) ^ (7 * k) = ((128 ^ k : Nat) : Int) := by
  rw [Int.pow_mul, Int.natCast_pow]; rfl
theorem get_facts (x : UInt8) (k un : Nat) (hk : k ≤ 9) (h9 : k = 9 → x.toNat ≤ 1) (hun : un < 128 ^ k) :
    ∃ N m d : Nat, N = un + x.toNat % 128 * 128 ^ k ∧ N < 18446744073709551616 ∧ N < 128 ^ (k + 1) ∧ bits BinOp.andNot IntKind.u8 (x.toNat : Int) 128 = (d : Int) ∧ IntKind.u64.wrap (d : Int) = (d : Int) ∧ IntKind.u64.wrap ((d : Int) * 2 ^ (7 * k)) = (m : Int) ∧ bits BinOp.or IntKind.u64 (un : Int) (m : Int) = (N : Int) := by
  have hb := x.toNat_lt
  have hw : ∀ z : Nat, z < 18446744073709551616 → IntKind.u64.wrap (z : Int) = (z : Int) := fun z hz => by rw [IntKind.wrap_u64]; omega
  have hx : x.toNat % 128 < 128 := Nat.mod_lt _ (by decide)
  have h8 : (128 : Nat) ^ 8 = 72057594037927936 := by decide
  have h99 : (128 : Nat) ^ 9 = 9223372036854775808 := by decide
  have hN : un + x.toNat % 128 * 128 ^ k < 18446744073709551616 := by
    by_cases hk9 : k = 9
    · have := h9 hk9
      subst hk9
      rw [h99] at hun ⊢
      have : x.toNat % 128 ≤ 1 := by omega
      have := Nat.mul_le_mul_right 9223372036854775808 this
      omega
    · have h1 : (128 : Nat) ^ k ≤ 128 ^ 8 := Nat.pow_le_pow_right (by decide) (by omega)
      have h2 : x.toNat % 128 * 128 ^ k ≤ 127 * 128 ^ k := Nat.mul_le_mul_right _ (by omega)
      omega
  have hN2 : un + x.toNat % 128 * 128 ^ k < 128 ^ (k + 1) := by
    have h2 : x.toNat % 128 * 128 ^ k ≤ 127 * 128 ^ k := Nat.mul_le_mul_right _ (by omega)
    rw [Nat.pow_succ]; omega
  refine ⟨_, x.toNat % 128 * 128 ^ k, x.toNat % 128, rfl, hN, hN2, u8_low7 x, hw _ (by omega), ?_, ?_⟩
  · rw [pow7, ← Int.natCast_mul]; exact hw _ (by omega)
  · rw [u64_or_nat _ _ (by omega) (by omega), Nat.or_comm, nat_join (7 * k) _ un ?_ ?_]
    · rw [Nat.add_comm]
    · rw [Nat.pow_mul]; exact Nat.mul_mod_left _ _
    · rw [Nat.pow_mul]; exact hun
theorem nstep (l : List UInt8) (i u : Nat) (x : UInt8) (h : Nu.getF i u (128 ^ i) (l.drop i) = Nu.get l) (hi : i < l.length) (hx : l[i] = x) :
    Nu.get l = if (i = 9 ∧ 1 < x.toNat) ∨ (0 < i ∧ x.toNat = 0) then (0, 0, 1) else if x.toNat < 128 then (Nu.unzz (u + x.toNat % 128 * 128 ^ i), i + 1, 0) else Nu.getF (i + 1) (u + x.toNat % 128 * 128 ^ i) (128 ^ (i + 1)) (l.drop (i + 1)) := by
  have := gstep l i u _ h hi
  rw [hx, ← Nat.pow_succ] at this
  exact this

set_option maxRecDepth 100000 in
set_option maxHeartbeats 4000000 in
theorem nget_any (A : Option Addr) (c B : Nat) (l : List UInt8) (w : World) (h : Byt w B (.slice A l.length c) l) (hl : l.length ≤ 1000000) :
    Calls Tryd.prog 30 #[.slice A l.length c] w (GotN (Nu.get l) w) := by
  obtain ⟨A', c', hv, hc, hcell⟩ := h
  injection hv with e1 _ e2; subst e1; subst e2
  have HCELL := Lib.hid hcell; clear hcell
  go_enter Tryd.func30, Tryd.ntmps30
  go_wp2
  go_loop [5, 10] (fun u i => ∃ un k : Nat, u = .int .u64 un ∧ i = .int .i64 k ∧ k ≤ 9 ∧ k ≤ l.length ∧ un < 128 ^ k ∧ Nu.getF k un (128 ^ k) (l.drop k) = Nu.get l) (fun _ i => l.length - (intOf i).toNat)
  case atStart => exact ⟨0, 0, rfl, rfl, by omega, by omega, by decide, rfl⟩
  case round =>
    obtain ⟨un, k, rfl, rfl, hk9, hkl, hun, hget⟩ := hrel
    have HU := Lib.hid hun; clear hun
    have HG := Lib.hid hget; clear hget
    by_cases hlt : k < l.length
    · obtain ⟨g, o, rfl, hg, hcs⟩ := HCELL.out (by omega)
      obtain ⟨x, hxl⟩ : ∃ x, l[k] = x := ⟨_, rfl⟩
      have hc1 := hcs k hlt
      rw [hxl] at hc1
      have hstep := nstep l k un x HG.out hlt hxl
      clear hcs HCELL hxl
      have hb := x.toNat_lt
      have HS := Lib.hid hstep; clear hstep
      by_cases hbad : k = 9 ∧ 1 < x.toNat
      · obtain ⟨rfl, hx1⟩ := hbad
        have hform : Nu.get l = (0, 0, 1) := by rw [HS.out, if_pos (.inl ⟨rfl, hx1⟩)]
        have HF := Lib.hid hform; clear hform HS HU HG
        have hx1' : 1 < (x.toNat : Int) := by omega
        go_wp2
        go_ret3
        refine got3 ?_ ?_ ?_ <;> (rw [HF.out]; first | done | rfl)
      · obtain ⟨N, m, d, hNe, hN, hN2, f1, f2, f3, f4⟩ := get_facts x k un hk9 (fun h => by omega) HU.out
        have HN := Lib.hid hNe; clear hNe
        have HN2 := Lib.hid hN2; clear hN2 HU HG
        have HB := Lib.hid hbad; clear hbad
        have t1 : ((k : Int) == 9) = decide (k = 9) := by
          by_cases h : k = 9
          · subst h; rfl
          · rw [decide_eq_false h, beq_eq_false_iff_ne]; omega
        by_cases h9 : k = 9
        · rw [decide_eq_true h9] at t1
          have hx1 : (x.toNat : Int) ≤ 1 := by have := HB.out; omega
          have hx128 : (x.toNat : Int) < 128 := by omega
          have hk0 : 0 < k := by omega
          have H9 := Lib.hid h9; clear h9
          by_cases hx0 : x.toNat = 0
          · have hz : ((x.toNat : Int) == 0) = true := by rw [hx0]; rfl
            have H0 := Lib.hid hx0; clear hx0
            have hform : Nu.get l = (0, 0, 1) := by rw [HS.out, if_pos (.inr ⟨hk0, H0.out⟩)]
            have HF := Lib.hid hform; clear hform HS
            go_wp2
            go_ret3
            refine got3 ?_ ?_ ?_ <;> (rw [HF.out]; first | done | rfl)
          · have hz : ((x.toNat : Int) == 0) = false := by rw [beq_eq_false_iff_ne]; omega
            have hval : Nu.get l = (Nu.unzz N, k + 1, 0) := by rw [HS.out, if_neg (by omega), if_pos (by omega), HN.out]
            have HV := Lib.hid hval; clear hval HS
            have H0 := Lib.hid hx0; clear hx0
            go_wp2_with (go_at_call 32; refine (nsigned_any N _ hN).mono ?_; rintro e w1 ⟨rfl, rfl⟩)
            go_ret3
            refine got3 (by rw [HV.out]) (by rw [HV.out]; first | done | rfl | (show _ = ((_ : Nat) : Int); omega)) (by rw [HV.out]; first | done | rfl)
        · rw [decide_eq_false h9] at t1
          by_cases hx128 : x.toNat < 128
          · have hx128' : (x.toNat : Int) < 128 := by omega
            by_cases hx0 : 0 < k ∧ x.toNat = 0
            · obtain ⟨hk0, hx0⟩ := hx0
              have hz : ((x.toNat : Int) == 0) = true := by rw [hx0]; rfl
              have H0 := Lib.hid hx0; clear hx0
              have hform : Nu.get l = (0, 0, 1) := by rw [HS.out, if_pos (.inr ⟨hk0, H0.out⟩)]
              have HF := Lib.hid hform; clear hform HS
              go_wp2
              go_ret3
              refine got3 ?_ ?_ ?_ <;> (rw [HF.out]; first | done | rfl)
            · have hval : Nu.get l = (Nu.unzz N, k + 1, 0) := by rw [HS.out, if_neg (by omega), if_pos (by omega), HN.out]
              have HV := Lib.hid hval; clear hval HS
              have hz : ((x.toNat : Int) == 0) = decide (x.toNat = 0) := by
                by_cases h : x.toNat = 0
                · rw [h]; rfl
                · rw [decide_eq_false h, beq_eq_false_iff_ne]; omega
              have hor : x.toNat = 0 ∨ x.toNat ≠ 0 := by omega
              rcases hor with h | h
              · rw [decide_eq_true h] at hz
                have hk0' : ¬ 0 < k := by omega
                have HX := Lib.hid hx0; clear hx0
                have HH := Lib.hid h; clear h
                go_wp2_with (go_at_call 32; refine (nsigned_any N _ hN).mono ?_; rintro e w1 ⟨rfl, rfl⟩)
                go_ret3
                refine got3 (by rw [HV.out]) (by rw [HV.out]; first | done | rfl | (show _ = ((_ : Nat) : Int); omega)) (by rw [HV.out]; first | done | rfl)
              · rw [decide_eq_false h] at hz
                have HX := Lib.hid hx0; clear hx0
                have HH := Lib.hid h; clear h
                go_wp2_with (go_at_call 32; refine (nsigned_any N _ hN).mono ?_; rintro e w1 ⟨rfl, rfl⟩)
                go_ret3
                refine got3 (by rw [HV.out]) (by rw [HV.out]; first | done | rfl | (show _ = ((_ : Nat) : Int); omega)) (by rw [HV.out]; first | done | rfl)
          · have hx128' : 128 ≤ (x.toNat : Int) := by omega
            have hnx : Nu.getF (k + 1) N (128 ^ (k + 1)) (l.drop (k + 1)) = Nu.get l := by rw [HS.out, if_neg (by omega), if_neg hx128, HN.out]
            have HX := Lib.hid hnx; clear hnx HS
            go_wp2
            go_round
            case rel => exact ⟨N, k + 1, by first | rfl | simp, by go_num, by omega, by omega, HN2.out, HX.out⟩
            case measure => simp [intOf]; omega
    · have hend : Nu.get l = (0, 0, 2) := by rw [← HG.out, List.drop_of_length_le (by omega)]; rfl
      have HE := Lib.hid hend; clear hend HG
      go_wp2
      go_ret3
      refine got3 ?_ ?_ ?_ <;> (rw [HE.out]; first | done | rfl)
end Go.Proofs.YtmpdjioclalifaaDoor
