/-
  Package num's PutText writes the bytes that come in, and a text's length and its bytes behind them, in new memory.
  The bytes are there in memory; they and the text are shorter than the model's bound on what append makes.
-/
import Derived.Test.YtffklbkdmfeimaaNuAdd
import Derived.Test.YtffklbkdmfeimaaNuCopyOf
namespace Go.Proofs.Ytffklbkdmfeimaa
open Go.RowKit
set_option maxRecDepth 100000

set_option maxRecDepth 100000 in
set_option maxHeartbeats 4000000 in
theorem nputText_any (u : Value) (B : Nat) (l : List UInt8) (s : ByteArray) (w : World) (h : Byt w B u l) (hl : l.length ≤ 17592186044416) (hs : s.size ≤ 17592186044416) (hB : B ≤ w.heap.size) :
    Calls Try.prog 31 #[u, .string s] w (Made (l ++ Nu.putT s.data.toList) w) := by
  obtain ⟨m, hm⟩ : ∃ m : Nat, (10 : Int) + (s.size : Int) = (m : Int) := ⟨10 + s.size, by omega⟩
  have hpl := Nu.put_len (s.size : Int)
  have hA : l.length + m ≤ 140737488355328 := by omega
  have hA2 : l.length ≤ 70368744177664 := by omega
  have hs0 : -9223372036854775808 ≤ (s.size : Int) := by omega
  have hs1 : (s.size : Int) ≤ 9223372036854775807 := by omega
  go_enter Try.func31, Try.ntmps31
  go_wp2_with fail
  refine (ncopyOf_any u B m l w h hA hB).mono ?_
  rintro e w1 ⟨v1, rfl, hown1, hb1⟩
  go_wp2_with fail
  refine (nadd_any v1 w.heap.size l (s.size : Int) w1 hown1 hb1.size hA2 hs0 hs1).mono ?_
  rintro e w2 ⟨v2, rfl, hown2, hb2⟩
  have hb := hb1.trans hb2
  clear hb1 hb2 hown1
  go_wp2_with (at_builtin; refine wpList_append_text rfl _ _ rfl w.heap.size _ _ _ rfl hown2 rfl ?c2 hb.size ?_)
  case c2 => simp; omega
  intro v3 w3 hown3 hb3
  have hc := hb.trans hb3
  clear hb hb3 hown2
  go_wp2
  go_ret
  refine ⟨v3, rfl, ?_, hc⟩
  unfold Nu.putT
  rw [show (s.data.toList.length : Int) = (s.size : Int) by rw [Array.length_toList]; rfl]; simpa using hown3
end Go.Proofs.Ytffklbkdmfeimaa
