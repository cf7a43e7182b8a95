/-
  A function returns what the plain functions say: RuDecode.
-/
import Derived.Test.YtegkhkcnoahhdaaProg
import Derived.Test.YtegkhkcnoahhdaaWBase
import Derived.Test.YtegkhkcnoahhdaaRuValid
set_option linter.unusedSimpArgs false
set_option linter.unusedVariables false
namespace Go.Proofs.Ytegkhkcnoahhdaa
open Go.RowKit
set_option maxRecDepth 100000

set_option maxHeartbeats 2000000 in
theorem decode_any (s : ByteArray) (w : World) (hs : s.size ≤ maxLen) :
    Calls Try.prog 85 #[.string s] w (Dec (decB s) w) := by
  unfold maxLen at hs
  go_enter Try.func85, Try.ntmps85
  go_wp2
  go_loopw [4] (fun n wr => ∃ (pos : Nat) (f : Int), n = .int .i32 f ∧ wr.heap[w.heap.size]? = some (.stringIter s pos) ∧ Below w.heap.size w wr ∧ pos ≤ s.size ∧ Fst s pos f) (fun _ wr => s.size - wr.iterPos w.heap.size)
  case atStart =>
    exact ⟨0, 65533, rfl, World.iter_heap w s 0, below_new w _, Nat.zero_le _, .inl ⟨rfl, rfl⟩⟩
  case round =>
    obtain ⟨pos, f, rfl, hit, hbw, hps, hf⟩ := hrel
    have HF := Lib.hid hf; clear hf
    by_cases hp : pos < s.size
    · have hnx : ∀ ty, (Instr.next (.pointer (some ⟨w.heap.size, 0, none⟩)) true ty).run Try.prog wr = _ := fun ty => Lib.run_next_any_at wr w.heap.size s pos ty hit hp
      have hwd := width_pos s pos hp
      have hwl := width_le s pos hp
      have hit2 := Lib.iterAt_heap wr w.heap.size s pos (pos + (Utf8.decode s pos).2) hit
      have hbw2 := Lib.below_iterAt hbw (k := w.heap.size) (Nat.le_refl _) s (pos + (Utf8.decode s pos).2)
      by_cases h0 : 0 < pos
      · go_wp2
        go_ret2
        have := HF.out
        unfold Fst at this
        refine dec_ret s w _ _ _ hbw2 ?_ ?_
        · rw [decB_pos s (by omega)]; omega
        · rw [decB_pos s (by omega)]; omega
      · obtain rfl : pos = 0 := by omega
        rw [Nat.zero_add] at hit2 hbw2 hwl
        go_wp2
        go_roundw
        case rel =>
          exact ⟨(Utf8.decode s 0).2, _, rfl, hit2, hbw2, hwl, .inr ⟨by omega, by omega, by omega, rfl⟩⟩
        case measure =>
          simp only [World.iterPos, hit2, hit]
          omega
    · have hnx : ∀ ty, (Instr.next (.pointer (some ⟨w.heap.size, 0, none⟩)) true ty).run Try.prog wr = _ := fun ty => Lib.run_next_end_at wr w.heap.size s pos ty hit hp
      go_wp2
      go_ret2
      have hq := HF.out
      unfold Fst at hq
      by_cases h0 : s.size = 0
      · refine dec_ret s w _ _ _ hbw ?_ ?_
        · unfold decB; rw [if_pos h0]; omega
        · unfold decB; rw [if_pos h0]; omega
      · refine dec_ret s w _ _ _ hbw ?_ ?_
        · rw [decB_pos s (by omega)]; omega
        · rw [decB_pos s (by omega)]; omega

theorem decode_enc (r : Int) (w : World) : Calls Try.prog 85 #[.string ⟨(Lib.encodeRune r).toArray⟩] w (Dec (ED r, (Lib.encodeRune r).length) w) := by
  have hd : decB ⟨(Lib.encodeRune r).toArray⟩ = (ED r, (Lib.encodeRune r).length) := by
    have h4 := Ru.enc_w (ED r)
    rw [enc_ED]
    have hs : (⟨(Ru.enc (ED r)).toArray⟩ : ByteArray).size = (Ru.enc (ED r)).length := by rfl
    rw [decB_pos _ (by rw [hs]; omega), Ru.decode_list, List.drop_zero]
    exact Ru.dcl_enc (ED r) (ED_ok r)
  rw [← hd]
  refine decode_any _ w ?_
  have h4 := Ru.enc_w (ED r)
  rw [← enc_ED] at h4
  show (Lib.encodeRune r).length ≤ maxLen
  unfold maxLen; omega
end Go.Proofs.Ytegkhkcnoahhdaa
/-
  A function returns what the plain functions say: RuLess.
-/
namespace Go.Proofs.Ytegkhkcnoahhdaa
open Go.RowKit
set_option maxRecDepth 100000

set_option maxHeartbeats 4000000 in
theorem less_any (a b : ByteArray) (w : World) (ha : a.size ≤ maxLen) (hb : b.size ≤ maxLen) :
    Calls Try.prog 67 #[.string a, .string b] w fun e w' => e = .returned (.bool (lesB a b)) ∧ Below w.heap.size w w' := by
  unfold maxLen at ha hb
  go_enter Try.func67, Try.ntmps67
  go_wp2
  go_loopw [5, 6] (fun u v wr => ∃ x y : ByteArray, u = .string x ∧ v = .string y ∧ x.size ≤ a.size ∧ y.size ≤ b.size ∧ Below w.heap.size w wr ∧ Cmp a b x y) (fun u _ _ => match u with | .string x => x.size | _ => 0)
  case atStart =>
    refine ⟨a, b, rfl, rfl, Nat.le_refl _, Nat.le_refl _, Below.refl _ _, ?_⟩
    unfold Cmp; rw [ByteArray.toList_eq, ByteArray.toList_eq]; rfl
  case round =>
    obtain ⟨x, y, rfl, rfl, hx, hy, hbw, hc⟩ := hrel
    have HC := Lib.hid hc; clear hc
    by_cases hx0 : 0 < x.size
    · by_cases hy0 : 0 < y.size
      · have hx1 := lst_empty x hx0
        have hy1 := lst_empty y hy0
        have hxd := decB_le x hx0
        have hyd := decB_le y hy0
        have hcs := cmp_step x y (Op.bytesLess a.toList b.toList) hx0 hy0
        have HS := Lib.hid hcs; clear hcs
        by_cases he : (decB x).1 = (decB y).1
        · have hne := neq_not he
          have HE := Lib.hid he; clear he
          go_wp2_with fail
          refine (decode_any x _ (by unfold maxLen; omega)).mono ?_
          rintro e w1 ⟨rfl, hb1⟩
          go_wp2_with fail
          refine (decode_any y _ (by unfold maxLen; omega)).mono ?_
          rintro e w2 ⟨rfl, hb2⟩
          go_wp2_with fail
          go_quiet (fail)
          go_wp2
          go_roundw
          case rel =>
            refine ⟨_, _, rfl, rfl, ?_, ?_, below_drewN ((hbw.trans (hb1.mono hbw.size)).trans (hb2.mono (Nat.le_trans hbw.size hb1.size))) _, ?_⟩
            · rw [ByteArray.size_extract]; omega
            · rw [ByteArray.size_extract]; omega
            · unfold Cmp
              have := HC.out; unfold Cmp at this
              rw [← this, HS.out, if_pos HE.out]
          case measure => show (x.extract (decB x).2 x.size).size < x.size; rw [ByteArray.size_extract]; omega
        · have hne := neq_of he
          have HE := Lib.hid he; clear he
          go_wp2_with fail
          refine (decode_any x _ (by unfold maxLen; omega)).mono ?_
          rintro e w1 ⟨rfl, hb1⟩
          go_wp2_with fail
          refine (decode_any y _ (by unfold maxLen; omega)).mono ?_
          rintro e w2 ⟨rfl, hb2⟩
          go_wp2
          go_ret
          refine ⟨ret_bool ?_, (hbw.trans (hb1.mono hbw.size)).trans (hb2.mono (Nat.le_trans hbw.size hb1.size))⟩
          have := HC.out; unfold Cmp at this
          rw [← this, HS.out, if_neg HE.out]
      · have hx1 := lst_empty x hx0
        have hy1 := lst_nil y hy0
        have hy2 : y.toList.isEmpty = true := by rw [hy1]; rfl
        go_wp2
        go_ret
        refine ⟨ret_bool ?_, hbw⟩
        have := HC.out; unfold Cmp at this
        rw [← this, runs_nil y (by omega), cmp_end _ _ (runs_ne x hx0)]
    · have hx1 := lst_nil x hx0
      have hx2 : x.toList.isEmpty = true := by rw [hx1]; rfl
      by_cases hy0 : 0 < y.size
      · have hy1 := lst_empty y hy0
        go_wp2
        go_ret
        refine ⟨ret_bool ?_, hbw⟩
        have := HC.out; unfold Cmp at this
        rw [← this, runs_nil x (by omega), cmp_nil _ _ (runs_ne y hy0)]
      · have hy1 := lst_nil y hy0
        have hy2 : y.toList.isEmpty = true := by rw [hy1]; rfl
        go_wp2
        go_ret
        refine ⟨ret_bool ?_, hbw⟩
        have := HC.out; unfold Cmp at this
        rw [← this, runs_nil x (by omega), runs_nil y (by omega)]; rfl

theorem less_is (a b : ByteArray) (w : World) (v : Bool) (ha : a.size ≤ maxLen) (hb : b.size ≤ maxLen) (h : lesB a b = v) : Calls Try.prog 67 #[.string a, .string b] w fun e w' => e = .returned (.bool v) ∧ Below w.heap.size w w' := by
  rw [← h]; exact less_any a b w ha hb
end Go.Proofs.Ytegkhkcnoahhdaa
/-
  A function returns what the plain functions say: RuKey.
-/
namespace Go.Proofs.Ytegkhkcnoahhdaa
open Go.RowKit
set_option maxRecDepth 100000

set_option maxHeartbeats 4000000 in
theorem key_any (s : ByteArray) (w : World) :
    Calls Try.prog 70 #[.string s] w fun e w' => e = .returned (.bool (Ru.key s.data.toList)) ∧ Below w.heap.size w w' := by
  go_enter Try.func70, Try.ntmps70
  go_wp2
  go_loopw [3] (fun v wr => ∃ pos k : Nat, v = .int .i64 k ∧ k ≤ pos ∧ k ≤ 40 ∧ pos ≤ s.size ∧ wr.heap[w.heap.size]? = some (.stringIter s pos) ∧ Below w.heap.size w wr ∧ (decide (0 < k + (Ru.rns (rest s pos)).length) && KeyRest k (rest s pos)) = Ru.key s.data.toList) (fun _ wr => s.size - wr.iterPos w.heap.size)
  case atStart =>
    refine ⟨0, 0, rfl, Nat.le_refl _, Nat.zero_le _, Nat.zero_le _, World.iter_heap w s 0, below_new w _, ?_⟩
    simp only [KeyRest, Ru.key, rest, List.drop_zero, Nat.zero_add, Bool.and_assoc]; rfl
  case round =>
    obtain ⟨pos, k, rfl, hkp, hk40, hps, hit, hbw, hcnt⟩ := hrel
    have HC := Lib.hid hcnt; clear hcnt
    by_cases hp : pos < s.size
    · have hnx : ∀ ty, (Instr.next (.pointer (some ⟨w.heap.size, 0, none⟩)) true ty).run Try.prog wr = _ := fun ty => Lib.run_next_any_at wr w.heap.size s pos ty hit hp
      have hwd := width_pos s pos hp
      have hwl := width_le s pos hp
      have hit2 := Lib.iterAt_heap wr w.heap.size s pos (pos + (Utf8.decode s pos).2) hit
      have hbw2 := Lib.below_iterAt hbw (k := w.heap.size) (Nat.le_refl _) s (pos + (Utf8.decode s pos).2)
      by_cases h40 : 40 < k + 1
      · go_wp2
        go_ret
        refine ⟨ret_bool ?_, hbw2⟩
        rw [← HC.out, keyRest_stop s pos k hp (.inl h40), Bool.and_false]
      · by_cases h32 : (Utf8.decode s pos).1 < 32
        · go_wp2
          go_ret
          refine ⟨ret_bool ?_, hbw2⟩
          rw [← HC.out, keyRest_stop s pos k hp (.inr (okr_low _ h32)), Bool.and_false]
        · by_cases h127 : (Utf8.decode s pos).1 = 127
          · have hb : (((Utf8.decode s pos).1 : Int) == 127) = true := by rw [beq_iff_eq]; omega
            have H1 := Lib.hid h127; clear h127
            go_wp2
            go_ret
            refine ⟨ret_bool ?_, hbw2⟩
            rw [← HC.out, keyRest_stop s pos k hp (.inr (okr_del _ H1.out)), Bool.and_false]
          · have hb : (((Utf8.decode s pos).1 : Int) == 127) = false := by rw [beq_eq_false_iff_ne]; omega
            have H1 := Lib.hid h127; clear h127
            have H2 := Lib.hid h32
            cases hf : Ru.fine (Utf8.decode s pos)
            all_goals
              have HF := Lib.hid hf; clear hf
              go_wp2_with (go_at_call 87; refine (stray_at s pos _ hp _ HF.out).mono ?_; rintro e w' ⟨rfl, rfl⟩)
            · go_ret
              refine ⟨ret_bool ?_, hbw2⟩
              rw [← HC.out, keyRest_stop s pos k hp (.inr (okr_bad _ HF.out)), Bool.and_false]
            · go_roundw
              case rel =>
                refine ⟨pos + (Utf8.decode s pos).2, k + 1, by go_num, by omega, by omega, hwl, hit2, hbw2, ?_⟩
                rw [← HC.out, keyRest_go s pos k hp (okr_ok _ HF.out H2.out H1.out), rest_next s pos hp, List.length_cons]
                congr 2; apply propext; constructor <;> intro _ <;> omega
              case measure =>
                simp only [World.iterPos, hit2, hit]
                omega
    · have hnx : ∀ ty, (Instr.next (.pointer (some ⟨w.heap.size, 0, none⟩)) true ty).run Try.prog wr = _ := fun ty => Lib.run_next_end_at wr w.heap.size s pos ty hit hp
      go_wp2
      go_ret
      refine ⟨ret_bool ?_, hbw⟩
      rw [← HC.out, rest_end s pos hp]
      have e : KeyRest k [] = true := by
        show (decide (k + 0 ≤ 40) && true) = true
        rw [decide_eq_true (by omega)]; rfl
      rw [e, Bool.and_true, Bool.eq_iff_iff, decide_eq_true_eq, decide_eq_true_eq, Ru.rns_nil, List.length_nil]; omega

theorem key_is (t : ByteArray) (w : World) (b : Bool) (h : Ru.key t.data.toList = b) : Calls Try.prog 70 #[.string t] w fun e w' => e = .returned (.bool b) ∧ Below w.heap.size w w' := by
  rw [← h]; exact key_any t w
end Go.Proofs.Ytegkhkcnoahhdaa
