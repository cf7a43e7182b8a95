/-
  Package num's copyOf makes a new row of the same bytes.
  The bytes are there in memory; they and the room are no more than the model's bound on what is made.
-/
import Derived.Test.YtmpdjioclalifaaDoorWAppend
import Derived.OwnWalk
set_option linter.unusedSimpArgs false
set_option linter.unusedVariables false
namespace Go.Proofs.YtmpdjioclalifaaDoor
open Go.RowKit
set_option maxRecDepth 100000

set_option maxRecDepth 100000 in
set_option maxHeartbeats 4000000 in
theorem ncopyOf_any (u : Value) (B n : Nat) (l : List UInt8) (w : World) (h : Byt w B u l) (hl : l.length + n ≤ 140737488355328) (hB : B ≤ w.heap.size) :
    Calls Tryd.prog 26 #[u, .int .i64 n] w (Made l w) := by
  obtain ⟨iR, hiR, hzR0, hzR1, hzR2⟩ := info_parts Tryd.infoU8
  obtain ⟨A, c, rfl, hrest⟩ := id h
  have HH := Lib.hid h; clear h hrest
  go_enter Tryd.func26, Tryd.ntmps26
  go_wp2_with (at_make; refine wpList_make_own w rfl _ _ 22 rfl w.heap.size 5 iR (.int .u8 0) 1 Tryd.underlying22 hiR hzR0 hzR1 .i64 .i64 ((l.length : Int) + (n : Int)) (l.length + n) rfl rfl (by omega) ?c0 ?c1 (Nat.le_refl _) ?_)
  case c0 => rw [hzR2]; omega
  case c1 => unfold maxLen; omega
  intro w1 hown1 hg1
  have hb1 := (Below.refl w.heap.size w).grown hg1 (Nat.le_refl _) (fun g hg => by cases hg)
  clear hg1
  have hu := HH.out.below hb1 hB
  have hown : OwnB w.heap.size _ [] w1 := hown1
  have HU := Lib.hid hu; clear hu
  go_wp2_with (at_builtin; refine wpList_append_byt rfl _ _ rfl w.heap.size _ _ _ _ _ rfl hown rfl HU.out ?c2 hb1.size ?_)
  case c2 => simp; omega
  intro v2 w2 hown2 hb2
  have hb := hb1.trans hb2
  clear hown hown1 HU
  go_wp2
  go_ret
  exact ⟨v2, rfl, by simpa using hown2, hb⟩
end Go.Proofs.YtmpdjioclalifaaDoor
