/-
  Package num's copyOf makes a new row of the same bytes.
  The bytes are there in memory; they and the room are no more than the model's bound on what is made.
-/
import Derived.Test.YtdhppekfehbngaaWAppend
import Derived.OwnWalk
import Derived.Test.YtdhppekfehbngaaNuSmall
import Derived.Test.YtdhppekfehbngaaRePut
set_option linter.unusedSimpArgs false
set_option linter.unusedVariables false
namespace Go.Proofs.Ytdhppekfehbngaa
open Go.RowKit
set_option maxRecDepth 100000

set_option maxRecDepth 100000 in
set_option maxHeartbeats 4000000 in
theorem ncopyOf_any (u : Value) (B n : Nat) (l : List UInt8) (w : World) (h : Byt w B u l) (hl : l.length + n ≤ 140737488355328) (hB : B ≤ w.heap.size) :
    Calls Try.prog 44 #[u, .int .i64 n] w (Made l w) := by
  obtain ⟨iR, hiR, hzR0, hzR1, hzR2⟩ := info_parts Try.infoU8
  obtain ⟨A, c, rfl, hrest⟩ := id h
  have HH := Lib.hid h; clear h hrest
  go_enter Try.func44, Try.ntmps44
  go_wp2_with (at_make; refine wpList_make_own w rfl _ _ 34 rfl w.heap.size 5 iR (.int .u8 0) 1 Try.underlying34 hiR hzR0 hzR1 .i64 .i64 ((l.length : Int) + (n : Int)) (l.length + n) rfl rfl (by omega) ?c0 ?c1 (Nat.le_refl _) ?_)
  case c0 => rw [hzR2]; omega
  case c1 => unfold maxLen; omega
  intro w1 hown1 hg1
  have hb1 := (Below.refl w.heap.size w).grown hg1 (Nat.le_refl _) (fun g hg => by cases hg)
  clear hg1
  have hu := HH.out.below hb1 hB
  have hown : OwnB w.heap.size _ [] w1 := hown1
  have HU := Lib.hid hu; clear hu
  go_wp2_with (at_builtin; refine wpList_append_byt rfl _ _ rfl w.heap.size _ _ _ _ _ rfl hown rfl HU.out ?c2 hb1.size ?_)
  case c2 => simp; omega
  intro v2 w2 hown2 hb2
  have hb := hb1.trans hb2
  clear hown hown1 HU
  go_wp2
  go_ret
  exact ⟨v2, rfl, by simpa using hown2, hb⟩
end Go.Proofs.Ytdhppekfehbngaa
/-
  Package num's add writes a number behind a row that the caller owns.
  The row is shorter than the model's bound on what append makes.
-/
namespace Go.Proofs.Ytdhppekfehbngaa
open Go.RowKit
set_option maxRecDepth 100000

/-- a row among the blocks from B on, behind a call that turned nothing below B -/
def Onto (B : Nat) (m : List UInt8) (w : World) (e : Ending) (w' : World) : Prop := ∃ v, e = .returned v ∧ OwnB B v m w' ∧ Below B w w'
set_option maxRecDepth 100000 in
theorem u8_or128 (u : Nat) : bits BinOp.or IntKind.u8 ((u : Int) % 256) 128 = ((u % 128 + 128 : Nat) : Int) := by
  have e : ((u : Int) % 256) = ((u % 256 : Nat) : Int) := by omega
  rw [e, show (128 : Int) = ((128 : Nat) : Int) from rfl, u8_or_nat _ _ (by omega) (by omega)]
  congr 1
  have h2 : ∀ x, x < 256 → x ||| 128 = x % 128 + 128 := by decide
  rw [h2 _ (by omega)]; omega
set_option maxRecDepth 100000 in
set_option maxHeartbeats 4000000 in
theorem nadd_any (v : Value) (B : Nat) (l : List UInt8) (n : Int) (w : World) (hown : OwnB B v l w) (hB : B ≤ w.heap.size) (hl : l.length ≤ 70368744177664) (h0 : -9223372036854775808 ≤ n) (h1 : n ≤ 9223372036854775807) :
    Calls Try.prog 43 #[v, .int .i64 n] w (Onto B (l ++ Nu.put n) w) := by
  have hst := rest_start n h0 h1
  have HST := Lib.hid hst; clear hst
  go_enter Try.func43, Try.ntmps43
  go_wp2_with (go_at_call 53; refine (nunsigned_any n w h0 h1).mono ?_; rintro e w1 ⟨rfl, rfl⟩)
  go_loopw [0, 5] (fun s v wr => ∃ (u f : Nat) (done : List UInt8), v = .int .u64 u ∧ u < 18446744073709551616 ∧ OwnB B s (l ++ done) wr ∧ Below B w wr ∧ done.length ≤ 10 ∧ Rest n f u done) (fun _ v _ => (intOf v).toNat)
  case atStart =>
    exact ⟨Nu.zz n, 10, [], rfl, Nu.zz_lt n h0 h1, by rw [List.append_nil]; exact hown, Below.refl _ _, by simp, HST.out⟩
  case round =>
    obtain ⟨u, f, done, rfl, hu64, hown1, hbw, hd, hrest⟩ := hrel
    have HR := Lib.hid hrest; clear hrest hown HST
    have hBr := Nat.le_trans hB hbw.size
    by_cases hu : u < 128
    · obtain ⟨cb, hcb⟩ : ∃ c : UInt8, u.toUInt8 = c := ⟨_, rfl⟩
      have HCB := Lib.hid hcb; clear hcb
      have hw : (u : Int) % 256 = (u : Int) := by omega
      have hB1 : B ≤ (wr.alloc (.cells #[.int .u8 (u : Int)] 5)).heap.size := by simp; omega
      go_wp2_with (at_builtin; refine wpList_append_byt rfl _ _ rfl B _ _ _ _ _ rfl (hown1.alloc _) rfl (byt_new1 wr _ _ cb ?c1) ?c2 hB1 ?_)
      case c1 => rw [← HCB.out, Nu.u8n u (by omega)]
      case c2 => simp; omega
      intro v2 w2 hown2 hb2
      have hb := (hbw.alloc hBr (.cells #[.int .u8 (u : Int)] 5)).trans hb2
      clear hb2
      go_wp2
      go_ret
      refine ⟨v2, rfl, ?_, hb⟩
      rw [← rest_end' n f u done HR.out hu, HCB.out, ← List.append_assoc]; simpa using hown2
    · obtain ⟨cb, hcb⟩ : ∃ c : UInt8, (u % 128 + 128).toUInt8 = c := ⟨_, rfl⟩
      have HCB := Lib.hid hcb; clear hcb
      have hor := u8_or128 u
      have hB1 : B ≤ (wr.alloc (.cells #[.int .u8 ((u % 128 + 128 : Nat) : Int)] 5)).heap.size := by simp; omega
      go_wp2_with (at_builtin; refine wpList_append_byt rfl _ _ rfl B _ _ _ _ _ rfl (hown1.alloc _) rfl (byt_new1 wr _ _ cb ?c1) ?c2 hB1 ?_)
      case c1 => rw [← HCB.out, Nu.u8n _ (by omega)]; first | rfl | omega
      case c2 => simp; omega
      intro v2 w2 hown2 hb2
      have hb := (hbw.alloc hBr (.cells #[.int .u8 ((u % 128 + 128 : Nat) : Int)] 5)).trans hb2
      clear hb2
      go_wp2
      go_roundw
      case rel =>
        obtain ⟨g, rfl, hr2⟩ := rest_more n f u done HR.out hu
        refine ⟨u / 128, g, done ++ [(u % 128 + 128).toUInt8], by simp, by omega, ?_, hb, by have := hr2.2.2.2; omega, hr2⟩
        rw [HCB.out, ← List.append_assoc]; simpa using hown2
      case measure => simp [intOf]; omega
end Go.Proofs.Ytdhppekfehbngaa
/-
  Package num's Put writes the bytes that come in, and a number behind them, in new memory.
  The bytes are there in memory; they are shorter than the model's bound on what append makes.
-/
namespace Go.Proofs.Ytdhppekfehbngaa
open Go.RowKit
set_option maxRecDepth 100000

set_option maxRecDepth 100000 in
set_option maxHeartbeats 4000000 in
theorem nput_any (u : Value) (B : Nat) (l : List UInt8) (n : Int) (w : World) (h : Byt w B u l) (hl : l.length ≤ 35184372088832) (hB : B ≤ w.heap.size) (h0 : -9223372036854775808 ≤ n) (h1 : n ≤ 9223372036854775807) :
    Calls Try.prog 33 #[u, .int .i64 n] w (Made (l ++ Nu.put n) w) := by
  have hA : l.length + 10 ≤ 140737488355328 := by omega
  have hA2 : l.length ≤ 70368744177664 := by omega
  go_enter Try.func33, Try.ntmps33
  go_wp2_with (go_at_call 44; refine (ncopyOf_any u B 10 l w h hA hB).mono ?_; rintro e w1 ⟨v1, rfl, hown1, hb1⟩)
  go_wp2_with (go_at_call 43; refine (nadd_any v1 w.heap.size l n w1 hown1 hb1.size hA2 h0 h1).mono ?_; rintro e w2 ⟨v2, rfl, hown2, hb2⟩)
  have hb := hb1.trans hb2
  clear hb1 hb2 hown1
  go_wp2
  go_ret
  exact ⟨v2, rfl, hown2, hb⟩
end Go.Proofs.Ytdhppekfehbngaa
/-
  Package num's PutText writes the bytes that come in, and a text's length and its bytes behind them, in new memory.
  The bytes are there in memory; they and the text are shorter than the model's bound on what append makes.
-/
namespace Go.Proofs.Ytdhppekfehbngaa
open Go.RowKit
set_option maxRecDepth 100000

set_option maxRecDepth 100000 in
set_option maxHeartbeats 4000000 in
theorem nputText_any (u : Value) (B : Nat) (l : List UInt8) (s : ByteArray) (w : World) (h : Byt w B u l) (hl : l.length ≤ 17592186044416) (hs : s.size ≤ 17592186044416) (hB : B ≤ w.heap.size) :
    Calls Try.prog 45 #[u, .string s] w (Made (l ++ Nu.putT s.data.toList) w) := by
  obtain ⟨m, hm⟩ : ∃ m : Nat, (10 : Int) + (s.size : Int) = (m : Int) := ⟨10 + s.size, by omega⟩
  have hpl := Nu.put_len (s.size : Int)
  have hA : l.length + m ≤ 140737488355328 := by omega
  have hA2 : l.length ≤ 70368744177664 := by omega
  have hs0 : -9223372036854775808 ≤ (s.size : Int) := by omega
  have hs1 : (s.size : Int) ≤ 9223372036854775807 := by omega
  go_enter Try.func45, Try.ntmps45
  go_wp2_with fail
  refine (ncopyOf_any u B m l w h hA hB).mono ?_
  rintro e w1 ⟨v1, rfl, hown1, hb1⟩
  go_wp2_with fail
  refine (nadd_any v1 w.heap.size l (s.size : Int) w1 hown1 hb1.size hA2 hs0 hs1).mono ?_
  rintro e w2 ⟨v2, rfl, hown2, hb2⟩
  have hb := hb1.trans hb2
  clear hb1 hb2 hown1
  go_wp2_with (at_builtin; refine wpList_append_text rfl _ _ rfl w.heap.size _ _ _ rfl hown2 rfl ?c2 hb.size ?_)
  case c2 => simp; omega
  intro v3 w3 hown3 hb3
  have hc := hb.trans hb3
  clear hb hb3 hown2
  go_wp2
  go_ret
  refine ⟨v3, rfl, ?_, hc⟩
  unfold Nu.putT
  rw [show (s.data.toList.length : Int) = (s.size : Int) by rw [Array.length_toList]; rfl]; simpa using hown3
end Go.Proofs.Ytdhppekfehbngaa
