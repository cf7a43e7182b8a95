/-
  The reference's Get reads a number as the plain function says, whatever the bytes.
  The bytes are there in memory, at most as many as the model lets a slice have.
-/
import Derived.Test.YtmpdjioclalifaaDoorWBytes
import Derived.Test.YtmpdjioclalifaaDoorNumPlain
set_option linter.unusedSimpArgs false
set_option linter.unusedVariables false
namespace Go.Proofs.YtmpdjioclalifaaDoor
open Go.RowKit
set_option maxRecDepth 100000

def GotN (r : Int × Nat × Nat) (w : World) (e : Ending) (w' : World) : Prop := e = .returned (.tuple #[.int .i64 r.1, .int .i64 r.2.1, .int .i64 r.2.2]) ∧ w = w'
theorem gstep (l : List UInt8) (i u p : Nat) (h : Nu.getF i u p (l.drop i) = Nu.get l) (hi : i < l.length) :
    Nu.get l = if (i = 9 ∧ 1 < l[i].toNat) ∨ (0 < i ∧ l[i].toNat = 0) then (0, 0, 1) else if l[i].toNat < 128 then (Nu.unzz (u + l[i].toNat % 128 * p), i + 1, 0) else Nu.getF (i + 1) (u + l[i].toNat % 128 * p) (p * 128) (l.drop (i + 1)) := by
  rw [← h, List.drop_eq_getElem_cons hi]; rfl
theorem got3 {r : Int × Nat × Nat} {w : World} {a b c : Int} (ha : a = r.1) (hb : b = r.2.1) (hc : c = r.2.2) : GotN r w (.returned (.tuple #[.int .i64 a, .int .i64 b, .int .i64 c])) w := ⟨by rw [ha, hb, hc], rfl⟩
theorem mul_bd (x k un : Nat) (hx : x < 128) (hk : k ≤ 8) (hun : un < 128 ^ k) : x * 128 ^ k + un < 9223372036854775808 ∧ 128 ^ k ≤ 72057594037927936 := by
  have h1 : (128 : Nat) ^ k ≤ 128 ^ 8 := Nat.pow_le_pow_right (by decide) hk
  have h2 : (128 : Nat) ^ 8 = 72057594037927936 := by decide
  have h3 : x * 128 ^ k ≤ 127 * 128 ^ k := Nat.mul_le_mul_right _ (by omega)
  omega
theorem unzz_odd (N : Nat) (h : N % 2 = 1) : Nu.unzz N = -((N : Int) / 2) - 1 := by unfold Nu.unzz; rw [if_pos h]; omega
theorem unzz_even (N : Nat) (h : ¬ N % 2 = 1) : Nu.unzz N = (N : Int) / 2 := by unfold Nu.unzz; rw [if_neg h]; omega

set_option maxRecDepth 100000 in
set_option maxHeartbeats 4000000 in
theorem rget_any (A : Option Addr) (c B : Nat) (l : List UInt8) (w : World) (h : Byt w B (.slice A l.length c) l) (hl : l.length ≤ 1000000) :
    Calls Tryd.prog 24 #[.slice A l.length c] w (GotN (Nu.get l) w) := by
  obtain ⟨A', c', hv, hc, hcell⟩ := h
  injection hv with e1 _ e2; subst e1; subst e2
  have HCELL := Lib.hid hcell; clear hcell
  go_enter Tryd.func24, Tryd.ntmps24
  go_wp2
  go_loop [5, 6, 7] (fun u p i => ∃ un pn k : Nat, u = .int .u64 un ∧ p = .int .u64 pn ∧ i = .int .i64 k ∧ k ≤ 9 ∧ k ≤ l.length ∧ pn = 128 ^ k ∧ un < pn ∧ Nu.getF k un pn (l.drop k) = Nu.get l) (fun _ _ i => l.length - (intOf i).toNat)
  case atStart => exact ⟨0, 1, 0, rfl, rfl, rfl, by omega, by omega, rfl, by omega, rfl⟩
  case round =>
    obtain ⟨un, pn, k, rfl, rfl, rfl, hk9, hkl, hpn, hun, hget⟩ := hrel
    by_cases hlt : k < l.length
    · obtain ⟨g, o, rfl, hg, hcs⟩ := HCELL.out (by omega)
      have hc1 := hcs k hlt
      clear hcs HCELL
      have hb := l[k].toNat_lt
      have hstep := gstep l k un pn hget hlt
      clear hget
      generalize l[k] = x at *
      by_cases h9 : k = 9
      · subst h9
        have hp9 : pn = 9223372036854775808 := by rw [hpn]
        clear hpn
        by_cases hx1 : 1 < x.toNat
        · have hform : Nu.get l = (0, 0, 1) := by rw [hstep, if_pos (.inl ⟨rfl, hx1⟩)]
          have HF := Lib.hid hform; clear hform hstep hp9 hun
          go_wp2
          go_ret3
          refine got3 ?_ ?_ ?_ <;> (rw [HF.out]; first | done | rfl)
        · by_cases hx0 : x.toNat = 0
          · have hz : ((x.toNat : Int) == 0) = true := by rw [hx0]; rfl
            have H0 := Lib.hid hx0; clear hx0
            have hform : Nu.get l = (0, 0, 1) := by rw [hstep, if_pos (.inr ⟨by omega, H0.out⟩)]
            have HF := Lib.hid hform; clear hform hstep hp9 hun
            go_wp2
            go_ret3
            refine got3 ?_ ?_ ?_ <;> (rw [HF.out]; first | done | rfl)
          · have hz : ((x.toNat : Int) == 0) = false := by rw [beq_eq_false_iff_ne]; omega
            have hxx : x.toNat = 1 := by omega
            obtain ⟨m, hm⟩ : ∃ m : Nat, m = 9223372036854775808 := ⟨_, rfl⟩
            have hmul : IntKind.u64.wrap ((x.toNat : Int) % 128 * (pn : Int)) = (m : Int) := by rw [hxx, hp9, hm]; decide
            have hN : un + m < 18446744073709551616 := by omega
            have hval : Nu.get l = (Nu.unzz (un + m), 10, 0) := by
              rw [hstep, if_neg (by omega), if_pos (by omega), hxx, hp9, hm]
            have HV := Lib.hid hval; clear hval hstep
            have hlt2 : (x.toNat : Int) < 128 := by omega
            have HXX := Lib.hid hxx; clear hxx hm
            have HP := Lib.hid hp9; clear hp9 hun
            by_cases hodd : (un + m) % 2 = 1
            · have ho : ((((un : Int) + (m : Int)) % 2) == 1) = true := by rw [beq_iff_eq]; omega
              have HO := Lib.hid hodd; clear hodd
              go_wp2
              go_ret3
              refine got3 (by rw [HV.out]; show _ = Nu.unzz _; rw [unzz_odd _ HO.out]; omega) (by rw [HV.out]; first | done | rfl | (show _ = ((_ : Nat) : Int); omega)) (by rw [HV.out]; first | done | rfl)
            · have ho : ((((un : Int) + (m : Int)) % 2) == 1) = false := by rw [beq_eq_false_iff_ne]; omega
              have HO := Lib.hid hodd; clear hodd
              go_wp2
              go_ret3
              refine got3 (by rw [HV.out]; show _ = Nu.unzz _; rw [unzz_even _ HO.out]; omega) (by rw [HV.out]; first | done | rfl | (show _ = ((_ : Nat) : Int); omega)) (by rw [HV.out]; first | done | rfl)
      · have hk8 : k ≤ 8 := by omega
        by_cases hz0 : 0 < k ∧ x.toNat = 0
        · obtain ⟨hk0, hx0⟩ := hz0
          have hz : ((x.toNat : Int) == 0) = true := by rw [hx0]; rfl
          have H0 := Lib.hid hx0; clear hx0
          have hn9 : ((k : Int) == 9) = false := by rw [beq_eq_false_iff_ne]; omega
          have hform : Nu.get l = (0, 0, 1) := by rw [hstep, if_pos (.inr ⟨hk0, H0.out⟩)]
          have HF := Lib.hid hform; clear hform hstep hpn hun
          go_wp2
          go_ret3
          refine got3 ?_ ?_ ?_ <;> (rw [HF.out]; first | done | rfl)
        · have hn9 : ((k : Int) == 9) = false := by rw [beq_eq_false_iff_ne]; omega
          have hmb := mul_bd (x.toNat % 128) k un (by omega) hk8 (by rw [← hpn]; exact hun)
          rw [← hpn] at hmb
          obtain ⟨m, hm⟩ : ∃ m : Nat, x.toNat % 128 * pn = m := ⟨_, rfl⟩
          rw [hm] at hmb hstep
          have hN := hmb.1
          have hpb := hmb.2
          clear hmb
          have hmul : IntKind.u64.wrap ((x.toNat : Int) % 128 * (pn : Int)) = (m : Int) := by
            have e : (x.toNat : Int) % 128 * (pn : Int) = ((x.toNat % 128 * pn : Nat) : Int) := by rw [Int.natCast_mul]; rfl
            rw [e, hm]
            have : ∀ z : Int, 0 ≤ z → z < 18446744073709551616 → IntKind.u64.wrap z = z := by intro z h1 h2; unfold IntKind.wrap; simp [IntKind.bits, IntKind.signed]; omega
            exact this _ (by omega) (by omega)
          rw [if_neg (by omega)] at hstep
          by_cases hx128 : x.toNat < 128
          · have hval : Nu.get l = (Nu.unzz (un + m), k + 1, 0) := by rw [hstep, if_pos hx128]
            have HV := Lib.hid hval; clear hval hstep
            have HM := Lib.hid hm; clear hm hpn
            have hlt2 : (x.toNat : Int) < 128 := by omega
            by_cases hk0 : 0 < k
            · have hz : ((x.toNat : Int) == 0) = false := by rw [beq_eq_false_iff_ne]; omega
              clear hz0
              by_cases hodd : (un + m) % 2 = 1
              · have ho : ((((un : Int) + (m : Int)) % 2) == 1) = true := by rw [beq_iff_eq]; omega
                have HO := Lib.hid hodd; clear hodd
                go_wp2
                go_ret3
                refine got3 (by rw [HV.out]; show _ = Nu.unzz _; rw [unzz_odd _ HO.out]; omega) (by rw [HV.out]; first | done | rfl | (show _ = ((_ : Nat) : Int); omega)) (by rw [HV.out]; first | done | rfl)
              · have ho : ((((un : Int) + (m : Int)) % 2) == 1) = false := by rw [beq_eq_false_iff_ne]; omega
                have HO := Lib.hid hodd; clear hodd
                go_wp2
                go_ret3
                refine got3 (by rw [HV.out]; show _ = Nu.unzz _; rw [unzz_even _ HO.out]; omega) (by rw [HV.out]; first | done | rfl | (show _ = ((_ : Nat) : Int); omega)) (by rw [HV.out]; first | done | rfl)
            · clear hz0
              by_cases hodd : (un + m) % 2 = 1
              · have ho : ((((un : Int) + (m : Int)) % 2) == 1) = true := by rw [beq_iff_eq]; omega
                have HO := Lib.hid hodd; clear hodd
                go_wp2
                go_ret3
                refine got3 (by rw [HV.out]; show _ = Nu.unzz _; rw [unzz_odd _ HO.out]; omega) (by rw [HV.out]; first | done | rfl | (show _ = ((_ : Nat) : Int); omega)) (by rw [HV.out]; first | done | rfl)
              · have ho : ((((un : Int) + (m : Int)) % 2) == 1) = false := by rw [beq_eq_false_iff_ne]; omega
                have HO := Lib.hid hodd; clear hodd
                go_wp2
                go_ret3
                refine got3 (by rw [HV.out]; show _ = Nu.unzz _; rw [unzz_even _ HO.out]; omega) (by rw [HV.out]; first | done | rfl | (show _ = ((_ : Nat) : Int); omega)) (by rw [HV.out]; first | done | rfl)
          · rw [if_neg hx128] at hstep
            have hnx : 128 ≤ (x.toNat : Int) := by omega
            have hum : un + m < pn * 128 := by
              have h1 : x.toNat % 128 * pn ≤ 127 * pn := Nat.mul_le_mul_right _ (by omega)
              omega
            have hpow : pn * 128 = 128 ^ (k + 1) := by rw [hpn, Nat.pow_succ]
            have HS := Lib.hid hstep; clear hstep
            have HW := Lib.hid hpow; clear hpow
            have HM := Lib.hid hm; clear hm hpn
            have hz : ((x.toNat : Int) == 0) = false := by rw [beq_eq_false_iff_ne]; omega
            clear hz0
            by_cases hk0 : 0 < k
            all_goals
              go_wp2
              go_round
              case rel =>
                refine ⟨un + m, pn * 128, k + 1, by simp, by simp, by go_num, by omega, by omega, HW.out, hum, HS.out.symm⟩
              case measure => simp [intOf]; omega
    · have hend : Nu.get l = (0, 0, 2) := by rw [← hget, List.drop_of_length_le (by omega)]; rfl
      have HE := Lib.hid hend; clear hend hget hpn
      go_wp2
      go_ret3
      refine got3 ?_ ?_ ?_ <;> (rw [HE.out]; first | done | rfl)
end Go.Proofs.YtmpdjioclalifaaDoor
