/-
  Package num's add writes a number behind a row that the caller owns.
  The row is shorter than the model's bound on what append makes.
-/
import Derived.Test.YtmpdjioclalifaaDoorWAppend
import Derived.Test.YtmpdjioclalifaaDoorNuSmall
import Derived.Test.YtmpdjioclalifaaDoorRePut
set_option linter.unusedSimpArgs false
set_option linter.unusedVariables false
namespace Go.Proofs.YtmpdjioclalifaaDoor
open Go.RowKit
set_option maxRecDepth 100000

/-- a row among the blocks from B on, behind a call that turned nothing below B -/
def Onto (B : Nat) (m : List UInt8) (w : World) (e : Ending) (w' : World) : Prop := ∃ v, e = .returned v ∧ OwnB B v m w' ∧ Below B w w'
set_option maxRecDepth 100000 in
theorem u8_or128 (u : Nat) : bits BinOp.or IntKind.u8 ((u : Int) % 256) 128 = ((u % 128 + 128 : Nat) : Int) := by
  have e : ((u : Int) % 256) = ((u % 256 : Nat) : Int) := by omega
  rw [e, show (128 : Int) = ((128 : Nat) : Int) from rfl, u8_or_nat _ _ (by omega) (by omega)]
  congr 1
  have h2 : ∀ x, x < 256 → x ||| 128 = x % 128 + 128 := by decide
  rw [h2 _ (by omega)]; omega
set_option maxRecDepth 100000 in
set_option maxHeartbeats 4000000 in
theorem nadd_any (v : Value) (B : Nat) (l : List UInt8) (n : Int) (w : World) (hown : OwnB B v l w) (hB : B ≤ w.heap.size) (hl : l.length ≤ 70368744177664) (h0 : -9223372036854775808 ≤ n) (h1 : n ≤ 9223372036854775807) :
    Calls Tryd.prog 25 #[v, .int .i64 n] w (Onto B (l ++ Nu.put n) w) := by
  have hst := rest_start n h0 h1
  have HST := Lib.hid hst; clear hst
  go_enter Tryd.func25, Tryd.ntmps25
  go_wp2_with (go_at_call 31; refine (nunsigned_any n w h0 h1).mono ?_; rintro e w1 ⟨rfl, rfl⟩)
  go_loopw [0, 5] (fun s v wr => ∃ (u f : Nat) (done : List UInt8), v = .int .u64 u ∧ u < 18446744073709551616 ∧ OwnB B s (l ++ done) wr ∧ Below B w wr ∧ done.length ≤ 10 ∧ Rest n f u done) (fun _ v _ => (intOf v).toNat)
  case atStart =>
    exact ⟨Nu.zz n, 10, [], rfl, Nu.zz_lt n h0 h1, by rw [List.append_nil]; exact hown, Below.refl _ _, by simp, HST.out⟩
  case round =>
    obtain ⟨u, f, done, rfl, hu64, hown1, hbw, hd, hrest⟩ := hrel
    have HR := Lib.hid hrest; clear hrest hown HST
    have hBr := Nat.le_trans hB hbw.size
    by_cases hu : u < 128
    · obtain ⟨cb, hcb⟩ : ∃ c : UInt8, u.toUInt8 = c := ⟨_, rfl⟩
      have HCB := Lib.hid hcb; clear hcb
      have hw : (u : Int) % 256 = (u : Int) := by omega
      have hB1 : B ≤ (wr.alloc (.cells #[.int .u8 (u : Int)] 5)).heap.size := by simp; omega
      go_wp2_with (at_builtin; refine wpList_append_byt rfl _ _ rfl B _ _ _ _ _ rfl (hown1.alloc _) rfl (byt_new1 wr _ _ cb ?c1) ?c2 hB1 ?_)
      case c1 => rw [← HCB.out, Nu.u8n u (by omega)]
      case c2 => simp; omega
      intro v2 w2 hown2 hb2
      have hb := (hbw.alloc hBr (.cells #[.int .u8 (u : Int)] 5)).trans hb2
      clear hb2
      go_wp2
      go_ret
      refine ⟨v2, rfl, ?_, hb⟩
      rw [← rest_end' n f u done HR.out hu, HCB.out, ← List.append_assoc]; simpa using hown2
    · obtain ⟨cb, hcb⟩ : ∃ c : UInt8, (u % 128 + 128).toUInt8 = c := ⟨_, rfl⟩
      have HCB := Lib.hid hcb; clear hcb
      have hor := u8_or128 u
      have hB1 : B ≤ (wr.alloc (.cells #[.int .u8 ((u % 128 + 128 : Nat) : Int)] 5)).heap.size := by simp; omega
      go_wp2_with (at_builtin; refine wpList_append_byt rfl _ _ rfl B _ _ _ _ _ rfl (hown1.alloc _) rfl (byt_new1 wr _ _ cb ?c1) ?c2 hB1 ?_)
      case c1 => rw [← HCB.out, Nu.u8n _ (by omega)]; first | rfl | omega
      case c2 => simp; omega
      intro v2 w2 hown2 hb2
      have hb := (hbw.alloc hBr (.cells #[.int .u8 ((u % 128 + 128 : Nat) : Int)] 5)).trans hb2
      clear hb2
      go_wp2
      go_roundw
      case rel =>
        obtain ⟨g, rfl, hr2⟩ := rest_more n f u done HR.out hu
        refine ⟨u / 128, g, done ++ [(u % 128 + 128).toUInt8], by simp, by omega, ?_, hb, by have := hr2.2.2.2; omega, hr2⟩
        rw [HCB.out, ← List.append_assoc]; simpa using hown2
      case measure => simp [intOf]; omega
end Go.Proofs.YtmpdjioclalifaaDoor
