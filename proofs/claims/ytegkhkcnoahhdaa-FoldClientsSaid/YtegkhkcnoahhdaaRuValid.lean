/-
  A function returns what the plain functions say: RuStray.
-/
import Derived.Test.YtegkhkcnoahhdaaShelf
import Derived.Test.YtegkhkcnoahhdaaProg
import Derived.Test.YtegkhkcnoahhdaaWBase
set_option linter.unusedSimpArgs false
set_option linter.unusedVariables false
namespace Go.Proofs.Ytegkhkcnoahhdaa
open Go.RowKit
set_option maxRecDepth 100000

theorem stray_not (t : ByteArray) (r : Int) (w : World) (h : (r == 65533) = false) : Calls Try.prog 87 #[.string t, .int .i32 r] w fun e w' => e = .returned (.bool false) ∧ w = w' := by
  go_enter Try.func87, Try.ntmps87
  go_wp2
  go_ret
  exact ⟨rfl, rfl⟩

theorem stray_is (t : ByteArray) (w : World) (b : Bool) (h : Lib.hasPrefix t.data.toList [239, 191, 189] = b) : Calls Try.prog 87 #[.string t, .int .i32 65533] w fun e w' => e = .returned (.bool !b) ∧ w = w' := by
  have H := Lib.hid h; clear h
  go_enter Try.func87, Try.ntmps87
  go_wp2_with (go_at_call 91; refine (Try.strings_HasPrefix t pre w).mono ?_; rintro e w' ⟨rfl, rfl⟩)
  go_ret
  rw [show Lib.hasPrefix t.data.toList pre.data.toList = b from H.out]
  exact ⟨rfl, rfl⟩

theorem stray_at (s : ByteArray) (pos : Nat) (w : World) (hp : pos < s.size) (b : Bool) (h : Ru.fine (Utf8.decode s pos) = b) : Calls Try.prog 87 #[.string (s.extract pos s.size), .int .i32 (Utf8.decode s pos).1] w fun e w' => e = .returned (.bool !b) ∧ w = w' := by
  by_cases hr : (Utf8.decode s pos).1 = 65533
  · have h2 : Lib.hasPrefix (s.extract pos s.size).data.toList [239, 191, 189] = b := by
      rw [ext_list, pre_take, ← h, Ru.decode_list]
      exact (Ru.fine_pre _ (rest_ne s pos hp) (by rw [Ru.decode_list] at hr; exact hr)).symm
    rw [hr]
    exact stray_is _ w b h2
  · have hb : b = true := by rw [← h, Ru.fine_iff]; exact .inl hr
    subst hb
    exact stray_not _ _ w (by rw [beq_eq_false_iff_ne]; omega)
end Go.Proofs.Ytegkhkcnoahhdaa
/-
  A function returns what the plain functions say: RuValid.
-/
namespace Go.Proofs.Ytegkhkcnoahhdaa
open Go.RowKit
set_option maxRecDepth 100000

set_option maxHeartbeats 2000000 in
theorem valid_any (s : ByteArray) (w : World) :
    Calls Try.prog 86 #[.string s] w fun e w' => e = .returned (.bool (Ru.vld s.data.toList)) ∧ Below w.heap.size w w' := by
  go_enter Try.func86, Try.ntmps86
  go_wp2
  go_loopw [] (fun wr => ∃ pos : Nat, wr.heap[w.heap.size]? = some (.stringIter s pos) ∧ Below w.heap.size w wr ∧ Ru.vld (rest s pos) = Ru.vld s.data.toList) (fun wr => s.size - wr.iterPos w.heap.size)
  case atStart =>
    exact ⟨0, World.iter_heap w s 0, below_new w _, by simp [rest]⟩
  case round =>
    obtain ⟨pos, hit, hbw, hcnt⟩ := hrel
    have HC := Lib.hid hcnt; clear hcnt
    by_cases hp : pos < s.size
    · have hnx : ∀ ty, (Instr.next (.pointer (some ⟨w.heap.size, 0, none⟩)) true ty).run Try.prog wr = _ := fun ty => Lib.run_next_any_at wr w.heap.size s pos ty hit hp
      have hwd := width_pos s pos hp
      have hit2 := Lib.iterAt_heap wr w.heap.size s pos (pos + (Utf8.decode s pos).2) hit
      have hbw2 := Lib.below_iterAt hbw (k := w.heap.size) (Nat.le_refl _) s (pos + (Utf8.decode s pos).2)
      have hn := vld_next s pos hp
      cases hf : Ru.fine (Utf8.decode s pos)
      all_goals
        have HN := Lib.hid hn; clear hn
        have HF := Lib.hid hf; clear hf
        go_wp2_with (go_at_call 87; refine (stray_at s pos _ hp _ HF.out).mono ?_; rintro e w' ⟨rfl, rfl⟩)
      · go_ret
        refine ⟨ret_bool ?_, hbw2⟩
        rw [← HC.out, HN.out, HF.out]; rfl
      · go_roundw
        case rel =>
          refine ⟨pos + (Utf8.decode s pos).2, hit2, hbw2, ?_⟩
          rw [← HC.out, HN.out, HF.out]; rfl
        case measure =>
          simp only [World.iterPos, hit2, hit]
          omega
    · have hnx : ∀ ty, (Instr.next (.pointer (some ⟨w.heap.size, 0, none⟩)) true ty).run Try.prog wr = _ := fun ty => Lib.run_next_end_at wr w.heap.size s pos ty hit hp
      go_wp2
      go_ret
      refine ⟨ret_bool ?_, hbw⟩
      rw [← HC.out, rest_end s pos hp]; rfl

theorem valid_is (t : ByteArray) (w : World) (b : Bool) (h : Ru.vld t.data.toList = b) : Calls Try.prog 86 #[.string t] w fun e w' => e = .returned (.bool b) ∧ Below w.heap.size w w' := by
  rw [← h]; exact valid_any t w
end Go.Proofs.Ytegkhkcnoahhdaa
