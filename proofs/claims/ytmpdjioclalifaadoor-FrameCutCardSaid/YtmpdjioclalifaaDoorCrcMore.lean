/-
  Package crc's More and Sum reckon sums as the plain function does.
  The bytes are there in memory, and the package's table as it was laid.
-/
import Derived.Test.YtmpdjioclalifaaDoorCrcPlain
set_option linter.unusedSimpArgs false
set_option linter.unusedVariables false
namespace Go.Proofs.YtmpdjioclalifaaDoor
open Go.RowKit
set_option maxRecDepth 100000

set_option maxHeartbeats 2000000 in
theorem cmore_any (A : Option Addr) (c B s : Nat) (l : List UInt8) (w : World) (h : Byt w B (.slice A l.length c) l) (hT : Tbl w) (hs : s < 4294967296) (hl : l.length ≤ 1000000) : Calls Tryd.prog 28 #[.int .u32 s, .slice A l.length c] w (Num32 (crcMore s l) w) := by
  obtain ⟨A', c', hv, hc, hcell⟩ := h
  injection hv with e1 _ e2; subst e1; subst e2
  have HC := Lib.hid hcell; clear hcell
  have HT := Lib.hid hT; clear hT
  have hn0 := u32_not s hs
  obtain ⟨s0, hs0⟩ : ∃ s0, 4294967295 - s = s0 := ⟨_, rfl⟩
  have hmore : crcMore s l = 4294967295 - crcL s0 l := by rw [← hs0]; rfl
  have hs1 : s0 < 4294967296 := by omega
  rw [hs0] at hn0
  have HM := Lib.hid hmore
  clear hmore hs0
  go_enter Tryd.func28, Tryd.ntmps28
  go_wp2
  have HN := Lib.hid hn0; clear hn0
  go_loop [5, 12] (fun v i => ∃ cn k : Nat, v = .int .u32 cn ∧ i = .int .i64 k ∧ k ≤ l.length ∧ cn < 4294967296 ∧ crcL cn (l.drop k) = crcL s0 l) (fun _ i => l.length - (intOf i).toNat)
  case atStart => exact ⟨s0, 0, rfl, rfl, by omega, hs1, rfl⟩
  case round =>
    obtain ⟨cn, k, rfl, rfl, hk, hcn, hcr⟩ := hrel
    have HCR := Lib.hid hcr; clear hcr
    by_cases hlt : k < l.length
    · obtain ⟨g, o, rfl, hg, hcs⟩ := HC.out (by omega)
      have hc1 := hcs k hlt
      obtain ⟨x, hx⟩ : ∃ x, l[k] = x := ⟨_, rfl⟩
      rw [hx] at hc1
      have hb := x.toNat_lt
      have hst : crcL cn (l.drop k) = crcL (crcBits 8 (cn ^^^ x.toNat)) (l.drop (k + 1)) := by rw [List.drop_eq_getElem_cons hlt, hx]; rfl
      have hxl := crcX_lt cn x hcn
      have hbx : bits BinOp.xor IntKind.u32 (cn : Int) (x.toNat : Int) = ((cn ^^^ x.toNat : Nat) : Int) := u32_xor_nat _ _ hcn (by omega)
      obtain ⟨m, hm⟩ : ∃ m, cn ^^^ x.toNat = m := ⟨_, rfl⟩
      rw [hm] at hst hxl hbx
      obtain ⟨q, hq⟩ : ∃ q, m % 16 = q := ⟨_, rfl⟩
      have hq16 : q < 16 := by omega
      obtain ⟨tq, htq⟩ : ∃ tq, crcTab.getD q 0 = tq := ⟨_, rfl⟩
      have htl : tq < 4294967296 := by rw [← htq]; exact crcTab_lt q hq16
      have hand : bits BinOp.and IntKind.u32 (m : Int) 15 = (q : Int) := by
        have := u32_and_nat m 15 hxl (by omega)
        rw [show (15 : Nat) = 2 ^ 4 - 1 from rfl, Nat.and_two_pow_sub_one_eq_mod, show (2 : Nat) ^ 4 = 16 from rfl, hq] at this
        exact this
      have hcq := HT.out q hq16
      rw [htq] at hcq
      have hb4 : crcBits 4 m = m / 16 ^^^ tq := by rw [crcBits_at m q hq, htq]
      have hx4 : bits BinOp.xor IntKind.u32 ((m : Int) / 16) (tq : Int) = ((m / 16 ^^^ tq : Nat) : Int) := by
        have := u32_xor_nat (m / 16) tq (by omega) htl
        rw [← this]; congr 1
      obtain ⟨n, hn⟩ : ∃ n, m / 16 ^^^ tq = n := ⟨_, rfl⟩
      rw [hn] at hb4 hx4
      have hnl : n < 4294967296 := by rw [← hn]; exact Nat.xor_lt_two_pow (n := 32) (by omega) (by omega)
      obtain ⟨r, hr⟩ : ∃ r, n % 16 = r := ⟨_, rfl⟩
      have hr16 : r < 16 := by omega
      obtain ⟨tr, htr⟩ : ∃ tr, crcTab.getD r 0 = tr := ⟨_, rfl⟩
      have htrl : tr < 4294967296 := by rw [← htr]; exact crcTab_lt r hr16
      have hand2 : bits BinOp.and IntKind.u32 (n : Int) 15 = (r : Int) := by
        have := u32_and_nat n 15 hnl (by omega)
        rw [show (15 : Nat) = 2 ^ 4 - 1 from rfl, Nat.and_two_pow_sub_one_eq_mod, show (2 : Nat) ^ 4 = 16 from rfl, hr] at this
        exact this
      have hcr := HT.out r hr16
      rw [htr] at hcr
      have hb5 : crcBits 4 n = n / 16 ^^^ tr := by rw [crcBits_at n r hr, htr]
      have hx5 : bits BinOp.xor IntKind.u32 ((n : Int) / 16) (tr : Int) = ((n / 16 ^^^ tr : Nat) : Int) := by
        have := u32_xor_nat (n / 16) tr (by omega) htrl
        rw [← this]; congr 1
      obtain ⟨p, hp⟩ : ∃ p, n / 16 ^^^ tr = p := ⟨_, rfl⟩
      rw [hp] at hb5 hx5
      have hpl : p < 4294967296 := by rw [← hp]; exact Nat.xor_lt_two_pow (n := 32) (by omega) (by omega)
      have hst2 : crcL cn (l.drop k) = crcL p (l.drop (k + 1)) := by rw [hst, crcBits_8, hb4, hb5]
      have HST := Lib.hid hst2
      clear hcs HC HT hx hst hst2 hm hq htq hb4 hn hr htr hb5 hp
      go_wp2
      go_round
      case rel => exact ⟨p, k + 1, rfl, by go_num, by omega, hpl, by rw [← HST.out]; exact HCR.out⟩
      case measure => simp [intOf]; omega
    · have hend : crcL s0 l = cn := by rw [← HCR.out, List.drop_of_length_le (by omega)]; rfl
      have hnot := u32_not cn hcn
      have HE := Lib.hid hend; clear hend
      go_wp2
      go_ret
      exact ⟨by rw [HM.out, HE.out]; rfl, rfl⟩
theorem csum_any (A : Option Addr) (c B : Nat) (l : List UInt8) (w : World) (h : Byt w B (.slice A l.length c) l) (hT : Tbl w) (hl : l.length ≤ 1000000) : Calls Tryd.prog 29 #[.slice A l.length c] w (Num32 (crcSum l) w) := by
  go_enter Tryd.func29, Tryd.ntmps29
  go_wp2_with fail
  refine (cmore_any A c B 0 l w h hT (by omega) hl).mono ?_
  rintro e w1 ⟨rfl, rfl⟩
  go_wp2
  go_ret
  exact ⟨by rw [crcMore_zero]; rfl, rfl⟩
end Go.Proofs.YtmpdjioclalifaaDoor
