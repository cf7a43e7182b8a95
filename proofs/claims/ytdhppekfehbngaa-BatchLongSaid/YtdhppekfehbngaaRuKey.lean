/-
  A function returns what the plain functions say: RuKey.
-/
import Derived.Test.YtdhppekfehbngaaProg
import Derived.Test.YtdhppekfehbngaaWBase
import Derived.Test.YtdhppekfehbngaaRuValid
set_option linter.unusedSimpArgs false
set_option linter.unusedVariables false
namespace Go.Proofs.Ytdhppekfehbngaa
open Go.RowKit
set_option maxRecDepth 100000

set_option maxHeartbeats 4000000 in
theorem key_any (s : ByteArray) (w : World) :
    Calls Try.prog 24 #[.string s] w fun e w' => e = .returned (.bool (Ru.key s.data.toList)) ∧ Below w.heap.size w w' := by
  go_enter Try.func24, Try.ntmps24
  go_wp2
  go_loopw [3] (fun v wr => ∃ pos k : Nat, v = .int .i64 k ∧ k ≤ pos ∧ k ≤ 40 ∧ pos ≤ s.size ∧ wr.heap[w.heap.size]? = some (.stringIter s pos) ∧ Below w.heap.size w wr ∧ (decide (0 < k + (Ru.rns (rest s pos)).length) && KeyRest k (rest s pos)) = Ru.key s.data.toList) (fun _ wr => s.size - wr.iterPos w.heap.size)
  case atStart =>
    refine ⟨0, 0, rfl, Nat.le_refl _, Nat.zero_le _, Nat.zero_le _, World.iter_heap w s 0, below_new w _, ?_⟩
    simp only [KeyRest, Ru.key, rest, List.drop_zero, Nat.zero_add, Bool.and_assoc]; rfl
  case round =>
    obtain ⟨pos, k, rfl, hkp, hk40, hps, hit, hbw, hcnt⟩ := hrel
    have HC := Lib.hid hcnt; clear hcnt
    by_cases hp : pos < s.size
    · have hnx : ∀ ty, (Instr.next (.pointer (some ⟨w.heap.size, 0, none⟩)) true ty).run Try.prog wr = _ := fun ty => Lib.run_next_any_at wr w.heap.size s pos ty hit hp
      have hwd := width_pos s pos hp
      have hwl := width_le s pos hp
      have hit2 := Lib.iterAt_heap wr w.heap.size s pos (pos + (Utf8.decode s pos).2) hit
      have hbw2 := Lib.below_iterAt hbw (k := w.heap.size) (Nat.le_refl _) s (pos + (Utf8.decode s pos).2)
      by_cases h40 : 40 < k + 1
      · go_wp2
        go_ret
        refine ⟨ret_bool ?_, hbw2⟩
        rw [← HC.out, keyRest_stop s pos k hp (.inl h40), Bool.and_false]
      · by_cases h32 : (Utf8.decode s pos).1 < 32
        · go_wp2
          go_ret
          refine ⟨ret_bool ?_, hbw2⟩
          rw [← HC.out, keyRest_stop s pos k hp (.inr (okr_low _ h32)), Bool.and_false]
        · by_cases h127 : (Utf8.decode s pos).1 = 127
          · have hb : (((Utf8.decode s pos).1 : Int) == 127) = true := by rw [beq_iff_eq]; omega
            have H1 := Lib.hid h127; clear h127
            go_wp2
            go_ret
            refine ⟨ret_bool ?_, hbw2⟩
            rw [← HC.out, keyRest_stop s pos k hp (.inr (okr_del _ H1.out)), Bool.and_false]
          · have hb : (((Utf8.decode s pos).1 : Int) == 127) = false := by rw [beq_eq_false_iff_ne]; omega
            have H1 := Lib.hid h127; clear h127
            have H2 := Lib.hid h32
            cases hf : Ru.fine (Utf8.decode s pos)
            all_goals
              have HF := Lib.hid hf; clear hf
              go_wp2_with (go_at_call 37; refine (stray_at s pos _ hp _ HF.out).mono ?_; rintro e w' ⟨rfl, rfl⟩)
            · go_ret
              refine ⟨ret_bool ?_, hbw2⟩
              rw [← HC.out, keyRest_stop s pos k hp (.inr (okr_bad _ HF.out)), Bool.and_false]
            · go_roundw
              case rel =>
                refine ⟨pos + (Utf8.decode s pos).2, k + 1, by go_num, by omega, by omega, hwl, hit2, hbw2, ?_⟩
                rw [← HC.out, keyRest_go s pos k hp (okr_ok _ HF.out H2.out H1.out), rest_next s pos hp, List.length_cons]
                congr 2; apply propext; constructor <;> intro _ <;> omega
              case measure =>
                simp only [World.iterPos, hit2, hit]
                omega
    · have hnx : ∀ ty, (Instr.next (.pointer (some ⟨w.heap.size, 0, none⟩)) true ty).run Try.prog wr = _ := fun ty => Lib.run_next_end_at wr w.heap.size s pos ty hit hp
      go_wp2
      go_ret
      refine ⟨ret_bool ?_, hbw⟩
      rw [← HC.out, rest_end s pos hp]
      have e : KeyRest k [] = true := by
        show (decide (k + 0 ≤ 40) && true) = true
        rw [decide_eq_true (by omega)]; rfl
      rw [e, Bool.and_true, Bool.eq_iff_iff, decide_eq_true_eq, decide_eq_true_eq, Ru.rns_nil, List.length_nil]; omega

theorem key_is (t : ByteArray) (w : World) (b : Bool) (h : Ru.key t.data.toList = b) : Calls Try.prog 24 #[.string t] w fun e w' => e = .returned (.bool b) ∧ Below w.heap.size w w' := by
  rw [← h]; exact key_any t w
end Go.Proofs.Ytdhppekfehbngaa
