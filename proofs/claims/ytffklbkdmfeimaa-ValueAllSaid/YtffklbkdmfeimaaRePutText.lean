/-
  The reference's PutText writes a text's length and its bytes, in new memory.
  The text has at most 1,000,000 bytes.
-/
import Derived.Test.YtffklbkdmfeimaaRePut
import Derived.Test.YtffklbkdmfeimaaWBytes
import Derived.Lib.AppendStr
namespace Go.Proofs.Ytffklbkdmfeimaa
open Go.RowKit
set_option maxRecDepth 100000

theorem strCells_bytes (s : ByteArray) : Lib.strCells s = Lib.byteCells s.data.toList := rfl
set_option maxRecDepth 100000 in
set_option maxHeartbeats 4000000 in
theorem rputText_any (s : ByteArray) (w : World) (hs : s.size ≤ 1000000) : Calls Try.prog 35 #[.string s] w (Made (Nu.putT s.data.toList) w) := by
  obtain ⟨iR, hiR, hzR0, hzR1, hzR2⟩ := info_parts Try.infoU8
  have hlen : (s.data.toList.length : Int) = (s.size : Int) := by rw [Array.length_toList]; rfl
  have hpl := Nu.put_len (s.size : Int)
  have HL := Lib.hid hlen; clear hlen
  go_enter Try.func35, Try.ntmps35
  go_wp2_with fail
  refine (rput_any _ _ (by omega) (by omega)).mono ?_
  rintro e w1 ⟨v, rfl, hown, hb⟩
  have hB := hb.size
  go_wp2_with (at_builtin; refine Lib.wpList_append_own_string _ rfl (.tmp 5) (.tmp 6) 24 9 rfl w.heap.size 5 iR Try.underlying24 Try.underlying9 hiR hzR0 hzR1 hzR2 _ _ _ rfl hown s rfl ?c1 ?c2 hB ?_)
  case c1 => unfold maxLen; omega
  case c2 => omega
  intro v1 w2 hown1 hg1 _
  have hb1 := hb.grown hg1 hB (fun g hg => (hown.lt g hg).1)
  go_wp2
  go_ret
  refine ⟨v1, rfl, ?_, hb1⟩
  unfold OwnB Nu.putT
  rw [HL.out, List.length_append, Lib.byteCells_append]
  have e : s.data.toList.length = s.size := by rw [Array.length_toList]; rfl
  rw [e]
  exact hown1
end Go.Proofs.Ytffklbkdmfeimaa
