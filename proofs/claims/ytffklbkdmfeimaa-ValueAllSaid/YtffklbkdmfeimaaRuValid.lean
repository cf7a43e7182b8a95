/-
  A function returns what the plain functions say: RuValid.
-/
import Derived.Test.YtffklbkdmfeimaaProg
import Derived.Test.YtffklbkdmfeimaaWBase
import Derived.Test.YtffklbkdmfeimaaRuStray
namespace Go.Proofs.Ytffklbkdmfeimaa
open Go.RowKit
set_option maxRecDepth 100000

set_option maxHeartbeats 2000000 in
theorem valid_any (s : ByteArray) (w : World) :
    Calls Try.prog 38 #[.string s] w fun e w' => e = .returned (.bool (Ru.vld s.data.toList)) ∧ Below w.heap.size w w' := by
  go_enter Try.func38, Try.ntmps38
  go_wp2
  go_loopw [] (fun wr => ∃ pos : Nat, wr.heap[w.heap.size]? = some (.stringIter s pos) ∧ Below w.heap.size w wr ∧ Ru.vld (rest s pos) = Ru.vld s.data.toList) (fun wr => s.size - wr.iterPos w.heap.size)
  case atStart =>
    exact ⟨0, World.iter_heap w s 0, below_new w _, by simp [rest]⟩
  case round =>
    obtain ⟨pos, hit, hbw, hcnt⟩ := hrel
    have HC := Lib.hid hcnt; clear hcnt
    by_cases hp : pos < s.size
    · have hnx : ∀ ty, (Instr.next (.pointer (some ⟨w.heap.size, 0, none⟩)) true ty).run Try.prog wr = _ := fun ty => Lib.run_next_any_at wr w.heap.size s pos ty hit hp
      have hwd := width_pos s pos hp
      have hit2 := Lib.iterAt_heap wr w.heap.size s pos (pos + (Utf8.decode s pos).2) hit
      have hbw2 := Lib.below_iterAt hbw (k := w.heap.size) (Nat.le_refl _) s (pos + (Utf8.decode s pos).2)
      have hn := vld_next s pos hp
      cases hf : Ru.fine (Utf8.decode s pos)
      all_goals
        have HN := Lib.hid hn; clear hn
        have HF := Lib.hid hf; clear hf
        go_wp2_with (go_at_call 46; refine (stray_at s pos _ hp _ HF.out).mono ?_; rintro e w' ⟨rfl, rfl⟩)
      · go_ret
        refine ⟨ret_bool ?_, hbw2⟩
        rw [← HC.out, HN.out, HF.out]; rfl
      · go_roundw
        case rel =>
          refine ⟨pos + (Utf8.decode s pos).2, hit2, hbw2, ?_⟩
          rw [← HC.out, HN.out, HF.out]; rfl
        case measure =>
          simp only [World.iterPos, hit2, hit]
          omega
    · have hnx : ∀ ty, (Instr.next (.pointer (some ⟨w.heap.size, 0, none⟩)) true ty).run Try.prog wr = _ := fun ty => Lib.run_next_end_at wr w.heap.size s pos ty hit hp
      go_wp2
      go_ret
      refine ⟨ret_bool ?_, hbw⟩
      rw [← HC.out, rest_end s pos hp]; rfl

theorem valid_is (t : ByteArray) (w : World) (b : Bool) (h : Ru.vld t.data.toList = b) : Calls Try.prog 38 #[.string t] w fun e w' => e = .returned (.bool b) ∧ Below w.heap.size w w' := by
  rw [← h]; exact valid_any t w
end Go.Proofs.Ytffklbkdmfeimaa
