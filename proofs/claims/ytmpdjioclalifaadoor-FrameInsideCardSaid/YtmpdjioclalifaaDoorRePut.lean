/-
  The reference's Put writes a number seven bits a byte, in new memory.
  There are no conditions beyond the range of the number.
-/
import Derived.Test.YtmpdjioclalifaaDoorWInfo
import Derived.Test.YtmpdjioclalifaaDoorNumPlain
import Derived.Lib.Zigzag
import Derived.Laws.BitsAllLaws
set_option linter.unusedSimpArgs false
set_option linter.unusedVariables false
namespace Go.Proofs.YtmpdjioclalifaaDoor
open Go.RowKit
set_option maxRecDepth 100000

theorem u64_not (n : Int) (h0 : n < 0) (h1 : -9223372036854775808 ≤ n) : bits BinOp.xor IntKind.u64 IntKind.u64.max (IntKind.u64.wrap (IntKind.u64.wrap n * 2)) = (Nu.zz n : Nat) := by
  have e1 : IntKind.u64.wrap (IntKind.u64.wrap n * 2) = 2 * n + 18446744073709551616 := by
    unfold IntKind.wrap; simp [IntKind.bits, IntKind.signed]; omega
  have e2 : IntKind.u64.max = 18446744073709551615 := rfl
  rw [e1, e2, u64_xor _ _ (by omega) (by omega) (by omega) (by omega)]
  have e3 := Lib.xor_ones64 (2 * n + 18446744073709551616).toNat (by omega)
  have e4 : (18446744073709551615 : Int).toNat = 2 ^ 64 - 1 := rfl
  rw [e4, e3]
  unfold Nu.zz; rw [if_pos h0]; omega
theorem vr_end (f u : Nat) (h : u < 128) (hf : 0 < f) : Nu.vr f u = [u.toUInt8] := by
  cases f with
  | zero => omega
  | succ f => simp only [Nu.vr, if_pos h]
theorem vr_more (f u : Nat) (h : ¬ u < 128) : Nu.vr (f + 1) u = (u % 128 + 128).toUInt8 :: Nu.vr f (u / 128) := by simp only [Nu.vr, if_neg h]
def Rest (n : Int) (f u : Nat) (done : List UInt8) : Prop := done ++ Nu.vr f u = Nu.put n ∧ u < 128 ^ f ∧ 0 < f ∧ done.length + f = 10
theorem rest_end' (n : Int) (f u : Nat) (done : List UInt8) (h : Rest n f u done) (hu : u < 128) : done ++ [u.toUInt8] = Nu.put n := by
  rw [← h.1, vr_end f u hu h.2.2.1]
theorem rest_more (n : Int) (f u : Nat) (done : List UInt8) (h : Rest n f u done) (hu : ¬ u < 128) : ∃ g, f = g + 1 ∧ Rest n g (u / 128) (done ++ [(u % 128 + 128).toUInt8]) := by
  obtain ⟨h1, h2, h3, h4⟩ := h
  cases f with
  | zero => omega
  | succ g =>
    have hg : 0 < g := by
      cases g with
      | zero => simp at h2; omega
      | succ g => omega
    refine ⟨g, rfl, ?_, ?_, hg, by simp; omega⟩
    · rw [← h1, vr_more g u hu]; simp
    · rw [Nat.pow_succ] at h2; omega
theorem rest_start (n : Int) (h0 : -9223372036854775808 ≤ n) (h1 : n ≤ 9223372036854775807) : Rest n 10 (Nu.zz n) [] := by
  have hz := Nu.zz_lt n h0 h1
  have : (128 : Nat) ^ 10 = 1180591620717411303424 := by decide
  exact ⟨rfl, by omega, by omega, rfl⟩
theorem cell_u8 (c : UInt8) (m : Int) (h : m = (c.toNat : Int)) : Value.int .u8 m = Value.int .u8 (c.toNat : Int) := by rw [h]
theorem bc_snoc (l : List UInt8) (c : UInt8) : Lib.byteCells (l ++ [c]) = Lib.byteCells l ++ [.int .u8 (c.toNat : Int)] := by simp [Lib.byteCells]

set_option maxRecDepth 100000 in
set_option maxHeartbeats 4000000 in
theorem rput_any (n : Int) (w : World) (h0 : -9223372036854775808 ≤ n) (h1 : n ≤ 9223372036854775807) : Calls Tryd.prog 19 #[.int .i64 n] w (Made (Nu.put n) w) := by
  obtain ⟨iR, hiR, hzR0, hzR1, hzR2⟩ := info_parts Tryd.infoU8
  have hst := rest_start n h0 h1
  have HST := Lib.hid hst; clear hst
  by_cases hs : n < 0
  all_goals
    have hzz : (n < 0 → bits BinOp.xor IntKind.u64 IntKind.u64.max (IntKind.u64.wrap (IntKind.u64.wrap n * 2)) = (Nu.zz n : Nat)) ∧ (¬ n < 0 → n * 2 = (Nu.zz n : Nat)) := ⟨fun h => u64_not n h h0, fun h => by unfold Nu.zz; rw [if_neg h]; omega⟩
    have HZ := Lib.hid hzz; clear hzz
    go_enter Tryd.func19, Tryd.ntmps19
    go_wp2
    go_loopw [3, 4] (fun v s wr => ∃ (u f : Nat) (done : List UInt8), v = .int .u64 u ∧ u < 18446744073709551616 ∧ OwnB w.heap.size s done wr ∧ Below w.heap.size w wr ∧ done.length ≤ 10 ∧ Rest n f u done) (fun v _ _ => (intOf v).toNat)
    case atStart =>
      refine ⟨Nu.zz n, 10, [], ?_, Nu.zz_lt n h0 h1, ownB_nil _ _, Below.refl _ _, by simp, HST.out⟩
      first | rw [HZ.out.1 hs] | rw [HZ.out.2 hs]
    case round =>
      obtain ⟨u, f, done, rfl, hu64, hown, hbw, hd, hrest⟩ := hrel
      have HR := Lib.hid hrest; clear hrest
      have hB := hbw.size
      by_cases hu : u < 128
      · go_wp2_with (at_builtin; refine wpList_append_own _ rfl (.tmp 23) (.tmp 26) 22 rfl w.heap.size 5 iR (.int .u8 0) 1 1 Tryd.underlying22 hiR hzR0 hzR1 hzR2 rfl (by decide) _ _ _ rfl (hown.alloc _) ⟨wr.heap.size, 0, none⟩ 1 1 [.int .u8 (u : Nat)] rfl rfl ?c1 ?c2 ?c3 ?c4 ?c5 ?_)
        case c1 => exact cell_one_new _ _ _
        case c2 => intro x hx; simp at hx; subst hx; rfl
        case c3 => unfold maxLen; omega
        case c4 => omega
        case c5 => simp; omega
        intro v1 w1 hown1 hg1 _
        have hb1 := (hbw.alloc hB (.cells #[.int .u8 (u : Nat)] 5)).grown hg1 (by simp; omega) (fun g hg => (World.ownsRow.lt hown g hg).1)
        clear hg1
        go_wp2
        go_ret
        have he := rest_end' n f u done HR.out hu
        refine ⟨v1, rfl, ?_, hb1⟩
        unfold OwnB
        rw [← he, bc_snoc, Nu.u8n u (by omega), List.length_append]
        exact hown1
      · go_wp2_with (at_builtin; refine wpList_append_own _ rfl (.tmp 14) (.tmp 19) 22 rfl w.heap.size 5 iR (.int .u8 0) 1 1 Tryd.underlying22 hiR hzR0 hzR1 hzR2 rfl (by decide) _ _ _ rfl (hown.alloc _) ⟨wr.heap.size, 0, none⟩ 1 1 [.int .u8 ((u : Int) % 128 + 128)] rfl rfl ?c1 ?c2 ?c3 ?c4 ?c5 ?_)
        case c1 => exact cell_one_new _ _ _
        case c2 => intro x hx; simp at hx; subst hx; rfl
        case c3 => unfold maxLen; omega
        case c4 => omega
        case c5 => simp; omega
        intro v1 w1 hown1 hg1 _
        have hb1 := (hbw.alloc hB (.cells #[.int .u8 ((u : Int) % 128 + 128)] 5)).grown hg1 (by simp; omega) (fun g hg => (World.ownsRow.lt hown g hg).1)
        clear hg1
        go_wp2
        go_roundw
        case rel =>
          obtain ⟨g, rfl, hr2⟩ := rest_more n f u done HR.out hu
          refine ⟨u / 128, g, done ++ [(u % 128 + 128).toUInt8], by simp, by omega, ?_, hb1, by have := hr2.2.2.2; omega, hr2⟩
          unfold OwnB
          rw [bc_snoc, Nu.u8n _ (by omega), List.length_append]
          exact hown1
        case measure => simp [intOf]; omega
end Go.Proofs.YtmpdjioclalifaaDoor
