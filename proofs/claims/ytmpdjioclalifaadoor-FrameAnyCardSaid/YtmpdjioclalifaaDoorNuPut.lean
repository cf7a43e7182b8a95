/-
  Package num's Put writes the bytes that come in, and a number behind them, in new memory.
  The bytes are there in memory; they are shorter than the model's bound on what append makes.
-/
import Derived.Test.YtmpdjioclalifaaDoorNuAdd
import Derived.Test.YtmpdjioclalifaaDoorNuCopyOf
set_option linter.unusedSimpArgs false
set_option linter.unusedVariables false
namespace Go.Proofs.YtmpdjioclalifaaDoor
open Go.RowKit
set_option maxRecDepth 100000

set_option maxRecDepth 100000 in
set_option maxHeartbeats 4000000 in
theorem nput_any (u : Value) (B : Nat) (l : List UInt8) (n : Int) (w : World) (h : Byt w B u l) (hl : l.length ≤ 35184372088832) (hB : B ≤ w.heap.size) (h0 : -9223372036854775808 ≤ n) (h1 : n ≤ 9223372036854775807) :
    Calls Tryd.prog 17 #[u, .int .i64 n] w (Made (l ++ Nu.put n) w) := by
  have hA : l.length + 10 ≤ 140737488355328 := by omega
  have hA2 : l.length ≤ 70368744177664 := by omega
  go_enter Tryd.func17, Tryd.ntmps17
  go_wp2_with (go_at_call 26; refine (ncopyOf_any u B 10 l w h hA hB).mono ?_; rintro e w1 ⟨v1, rfl, hown1, hb1⟩)
  go_wp2_with (go_at_call 25; refine (nadd_any v1 w.heap.size l n w1 hown1 hb1.size hA2 h0 h1).mono ?_; rintro e w2 ⟨v2, rfl, hown2, hb2⟩)
  have hb := hb1.trans hb2
  clear hb1 hb2 hown1
  go_wp2
  go_ret
  exact ⟨v2, rfl, hown2, hb⟩
end Go.Proofs.YtmpdjioclalifaaDoor
