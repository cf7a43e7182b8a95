/-
  The reference's Sum reckons a sum bit by bit, as the plain function does.
  The bytes are there in memory.
-/
import Derived.Test.YtmpdjioclalifaaDoorWBytes
import Derived.Laws.BitsAllLaws
import Derived.Laws.Bits64
set_option linter.unusedSimpArgs false
set_option linter.unusedVariables false
namespace Go.Proofs.YtmpdjioclalifaaDoor
open Go.RowKit
set_option maxRecDepth 100000

def crcBit (c : Nat) : Nat := if c % 2 = 1 then (c / 2) ^^^ 3988292384 else c / 2
def crcBits : Nat → Nat → Nat
  | 0, c => c
  | k + 1, c => crcBits k (crcBit c)
def crcL (c : Nat) : List UInt8 → Nat
  | [] => c
  | b :: t => crcL (crcBits 8 (c ^^^ b.toNat)) t
def crcSum (l : List UInt8) : Nat := 4294967295 - crcL 4294967295 l
theorem crcBit_lt (c : Nat) (h : c < 4294967296) : crcBit c < 4294967296 := by
  unfold crcBit
  split
  · exact Nat.xor_lt_two_pow (n := 32) (by omega) (by omega)
  · omega
theorem crcBits_lt : ∀ (k c : Nat), c < 4294967296 → crcBits k c < 4294967296
  | 0, _, h => h
  | k + 1, c, h => crcBits_lt k _ (crcBit_lt c h)
theorem crcX_lt (c : Nat) (b : UInt8) (h : c < 4294967296) : c ^^^ b.toNat < 4294967296 := by
  have := b.toNat_lt
  exact Nat.xor_lt_two_pow (n := 32) (by omega) (by omega)
theorem crcL_lt : ∀ (l : List UInt8) (c : Nat), c < 4294967296 → crcL c l < 4294967296
  | [], _, h => h
  | b :: t, c, h => crcL_lt t _ (crcBits_lt 8 _ (crcX_lt c b h))
def Num32 (n : Nat) (w : World) (e : Ending) (w' : World) : Prop := e = .returned (.int .u32 n) ∧ w = w'
set_option maxRecDepth 100000 in
set_option maxHeartbeats 1000000 in
theorem rsum_any (A : Option Addr) (c B : Nat) (l : List UInt8) (w : World) (h : Byt w B (.slice A l.length c) l) (hl : l.length ≤ 1000000) : Calls Tryd.prog 20 #[.slice A l.length c] w (Num32 (crcSum l) w) := by
  obtain ⟨A', c', hv, hc, hcell⟩ := h
  injection hv with e1 _ e2; subst e1; subst e2
  have HC := Lib.hid hcell; clear hcell
  go_enter Tryd.func20, Tryd.ntmps20
  go_wp2
  go_loop [3, 4] (fun v i => ∃ cn k : Nat, v = .int .u32 cn ∧ i = .int .i64 k ∧ k ≤ l.length ∧ cn < 4294967296 ∧ crcL cn (l.drop k) = crcL 4294967295 l) (fun _ i => l.length - (intOf i).toNat)
  case atStart => exact ⟨4294967295, 0, by first | rfl | simp, rfl, by omega, by omega, rfl⟩
  case round =>
    obtain ⟨cn, k, rfl, rfl, hk, hcn, hcr⟩ := hrel
    have HCR := Lib.hid hcr; clear hcr
    by_cases hlt : k < l.length
    · obtain ⟨g, o, rfl, hg, hcs⟩ := HC.out (by omega)
      have hc1 := hcs k hlt
      obtain ⟨x, hx⟩ : ∃ x, l[k] = x := ⟨_, rfl⟩
      rw [hx] at hc1
      have hb := x.toNat_lt
      have hst : crcL cn (l.drop k) = crcL (crcBits 8 (cn ^^^ x.toNat)) (l.drop (k + 1)) := by rw [List.drop_eq_getElem_cons hlt, hx]; rfl
      have hxl := crcX_lt cn x hcn
      have hbx : bits BinOp.xor IntKind.u32 (cn : Int) (x.toNat : Int) = ((cn ^^^ x.toNat : Nat) : Int) := u32_xor_nat _ _ hcn (by omega)
      obtain ⟨m, hm⟩ : ∃ m, cn ^^^ x.toNat = m := ⟨_, rfl⟩
      rw [hm] at hst hxl hbx
      have HST := Lib.hid hst
      clear hcs HC hx hst hm
      go_wp2
      go_loop [3, 5] (fun v i => ∃ cm j : Nat, v = .int .u32 cm ∧ i = .int .i64 j ∧ j ≤ 8 ∧ cm < 4294967296 ∧ crcBits (8 - j) cm = crcBits 8 m) (fun _ i => 8 - (intOf i).toNat)
      case atStart => exact ⟨m, 0, rfl, rfl, by omega, hxl, rfl⟩
      case round =>
        obtain ⟨cm, j, rfl, rfl, hj, hcm, hcb⟩ := hrel
        have HCB := Lib.hid hcb; clear hcb
        by_cases hj8 : j < 8
        · have hsj : crcBits (8 - j) cm = crcBits (8 - (j + 1)) (crcBit cm) := by
            rw [show 8 - j = (8 - (j + 1)) + 1 by omega]; rfl
          have hbl := crcBit_lt cm hcm
          have HSJ := Lib.hid hsj; clear hsj
          by_cases ho : cm % 2 = 1
          · have hbt : crcBit cm = cm / 2 ^^^ 3988292384 := by unfold crcBit; rw [if_pos ho]
            have hxx : bits BinOp.xor IntKind.u32 ((cm : Int) / 2) 3988292384 = ((cm / 2 ^^^ 3988292384 : Nat) : Int) := by
              have := u32_xor_nat (cm / 2) 3988292384 (by omega) (by omega)
              rw [← this]; congr 1
            obtain ⟨q, hq⟩ : ∃ q, cm / 2 ^^^ 3988292384 = q := ⟨_, rfl⟩
            rw [hq] at hxx hbt
            rw [hbt] at hbl
            have ho2 : ((((cm : Int) % 2)) == 1) = true := by rw [beq_iff_eq]; omega
            have HBT := Lib.hid hbt; have HO := Lib.hid ho
            clear hbt hq ho
            go_wp2
            go_round
            case rel => exact ⟨q, j + 1, by first | rfl | simp, by go_num, by omega, hbl, by rw [← HBT.out, ← HSJ.out]; exact HCB.out⟩
            case measure => simp [intOf]; omega
          · have hbt : crcBit cm = cm / 2 := by unfold crcBit; rw [if_neg ho]
            have ho2 : ((((cm : Int) % 2)) == 1) = false := by rw [beq_eq_false_iff_ne]; omega
            have HBT := Lib.hid hbt; have HO := Lib.hid ho
            clear hbt ho hbl
            go_wp2
            go_round
            case rel => exact ⟨cm / 2, j + 1, by first | rfl | simp, by go_num, by omega, by omega, by rw [← HBT.out, ← HSJ.out]; exact HCB.out⟩
            case measure => simp [intOf]; omega
        · have hend : crcBits 8 m = cm := by rw [← HCB.out, show 8 - j = 0 by omega]; rfl
          have HE := Lib.hid hend; clear hend
          go_wp2
          go_round
          case rel => exact ⟨cm, k + 1, rfl, by go_num, by omega, hcm, by rw [← HE.out, ← HST.out]; exact HCR.out⟩
          case measure => simp [intOf]; omega
    · have hend : crcL 4294967295 l = cn := by rw [← HCR.out, List.drop_of_length_le (by omega)]; rfl
      have hnot : bits BinOp.xor IntKind.u32 IntKind.u32.max (cn : Int) = ((4294967295 - cn : Nat) : Int) := by
        have e := u32_xor_nat 4294967295 cn (by omega) hcn
        have e2 : 4294967295 ^^^ cn = 4294967295 - cn := by
          apply Nat.eq_of_testBit_eq
          intro i
          rw [Nat.testBit_xor, show (4294967295 : Nat) = 2 ^ 32 - 1 from rfl, Nat.testBit_two_pow_sub_one, show 2 ^ 32 - 1 - cn = 2 ^ 32 - (cn + 1) by omega, Nat.testBit_two_pow_sub_succ (by omega)]
          by_cases hi : i < 32
          · simp [hi]
          · have : cn.testBit i = false := Nat.testBit_lt_two_pow (Nat.lt_of_lt_of_le hcn (Nat.pow_le_pow_right (n := 2) (i := 32) (by decide) (by omega)))
            simp [hi, this]
        rw [e2] at e; exact e
      have HE := Lib.hid hend; clear hend
      go_wp2
      go_ret
      exact ⟨by unfold crcSum; rw [HE.out]; rfl, rfl⟩
end Go.Proofs.YtmpdjioclalifaaDoor
