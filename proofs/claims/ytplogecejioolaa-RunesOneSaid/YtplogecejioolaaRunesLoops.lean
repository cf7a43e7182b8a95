/-
  Valid, Cut, Key and Fold of package runes return what the plain functions say, at every text.
  A text has at most as many bytes as the model lets one have; Fold's at most 2^45.
-/
import Derived.Test.YtplogecejioolaaRunesCount
namespace Go.Proofs.Ytplogecejioolaa
open Go.RowKit

theorem ext_list (s : ByteArray) (pos : Nat) : (s.extract pos s.size).data.toList = rest s pos := by
  rw [ByteArray.data_extract, Array.toList_extract]; unfold rest
  rw [List.extract_eq_take_drop, List.take_of_length_le]; simp
theorem pre_take (l : List UInt8) : Lib.hasPrefix l [239, 191, 189] = decide (l.take 3 = [239, 191, 189]) := by
  unfold Lib.hasPrefix
  rw [Bool.eq_iff_iff, List.isPrefixOf_iff_prefix, decide_eq_true_eq, List.prefix_iff_eq_take]
  exact eq_comm
theorem stray_at (s : ByteArray) (pos : Nat) (w : World) (hp : pos < s.size) (b : Bool) (h : Ru.fine (Utf8.decode s pos) = b) : Calls Try.prog 31 #[.string (s.extract pos s.size), .int .i32 (Utf8.decode s pos).1] w fun e w' => e = .returned (.bool !b) ∧ w = w' := by
  by_cases hr : (Utf8.decode s pos).1 = 65533
  · have h2 : Lib.hasPrefix (s.extract pos s.size).data.toList [239, 191, 189] = b := by
      rw [ext_list, pre_take, ← h, Ru.decode_list]
      exact (Ru.fine_pre _ (rest_ne s pos hp) (by rw [Ru.decode_list] at hr; exact hr)).symm
    rw [hr]
    exact stray_is _ w b h2
  · have hb : b = true := by rw [← h, Ru.fine_iff]; exact .inl hr
    subst hb
    exact stray_not _ _ w (by rw [beq_eq_false_iff_ne]; omega)

theorem vld_next (s : ByteArray) (pos : Nat) (h : pos < s.size) : Ru.vld (rest s pos) = (Ru.fine (Utf8.decode s pos) && Ru.vld (rest s (pos + (Utf8.decode s pos).2))) := by
  unfold Ru.vld; rw [rest_next s pos h, List.all_cons]
theorem ret_bool {a b : Bool} (h : a = b) : Ending.returned (.bool a) = .returned (.bool b) := by rw [h]

set_option maxHeartbeats 2000000 in
theorem valid_any (s : ByteArray) (w : World) :
    Calls Try.prog 17 #[.string s] w fun e w' => e = .returned (.bool (Ru.vld s.data.toList)) ∧ Below w.heap.size w w' := by
  go_enter Try.func17, Try.ntmps17
  go_wp2
  go_loopw [] (fun wr => ∃ pos : Nat, wr.heap[w.heap.size]? = some (.stringIter s pos) ∧ Below w.heap.size w wr ∧ Ru.vld (rest s pos) = Ru.vld s.data.toList) (fun wr => s.size - wr.iterPos w.heap.size)
  case atStart =>
    exact ⟨0, World.iter_heap w s 0, below_new w _, by simp [rest]⟩
  case round =>
    obtain ⟨pos, hit, hbw, hcnt⟩ := hrel
    have HC := Lib.hid hcnt; clear hcnt
    by_cases hp : pos < s.size
    · have hnx : ∀ ty, (Instr.next (.pointer (some ⟨w.heap.size, 0, none⟩)) true ty).run Try.prog wr = _ := fun ty => Lib.run_next_any_at wr w.heap.size s pos ty hit hp
      have hwd := width_pos s pos hp
      have hit2 := Lib.iterAt_heap wr w.heap.size s pos (pos + (Utf8.decode s pos).2) hit
      have hbw2 := Lib.below_iterAt hbw (k := w.heap.size) (Nat.le_refl _) s (pos + (Utf8.decode s pos).2)
      have hn := vld_next s pos hp
      cases hf : Ru.fine (Utf8.decode s pos)
      all_goals
        have HN := Lib.hid hn; clear hn
        have HF := Lib.hid hf; clear hf
        go_wp2_with (go_at_call 31; refine (stray_at s pos _ hp _ HF.out).mono ?_; rintro e w' ⟨rfl, rfl⟩)
      · go_ret
        refine ⟨ret_bool ?_, hbw2⟩
        rw [← HC.out, HN.out, HF.out]; rfl
      · go_roundw
        case rel =>
          refine ⟨pos + (Utf8.decode s pos).2, hit2, hbw2, ?_⟩
          rw [← HC.out, HN.out, HF.out]; rfl
        case measure =>
          simp only [World.iterPos, hit2, hit]
          omega
    · have hnx : ∀ ty, (Instr.next (.pointer (some ⟨w.heap.size, 0, none⟩)) true ty).run Try.prog wr = _ := fun ty => Lib.run_next_end_at wr w.heap.size s pos ty hit hp
      go_wp2
      go_ret
      refine ⟨ret_bool ?_, hbw⟩
      rw [← HC.out, rest_end s pos hp]; rfl

theorem cutP_next (s : ByteArray) (pos k : Nat) (h : pos < s.size) : Ru.cutP (k + 1) (rest s pos) = (Utf8.decode s pos).2 + Ru.cutP k (rest s (pos + (Utf8.decode s pos).2)) := by
  rw [Ru.cutP_succ k _ (rest_ne s pos h), Ru.decode_list]; unfold rest; rw [List.drop_drop]
def cutB (s : ByteArray) (n : Int) : ByteArray := s.extract 0 (Ru.cutP n.toNat s.data.toList)
def Str (t : ByteArray) (w : World) (e : Ending) (w' : World) : Prop := e = .returned (.string t) ∧ Below w.heap.size w w'
theorem str_ret {t u : ByteArray} {w w' : World} (h : t = u) (hb : Below w.heap.size w w') : Str u w (.returned (.string t)) w' := ⟨by rw [h], hb⟩

set_option maxHeartbeats 2000000 in
theorem cut_any (s : ByteArray) (n : Int) (w : World) (hs : s.size ≤ 281474976710656) (hn1 : -9223372036854775808 ≤ n) (hn2 : n ≤ 9223372036854775807) :
    Calls Try.prog 19 #[.string s, .int .i64 n] w (Str (cutB s n) w) := by
  go_enter Try.func19, Try.ntmps19
  go_wp2
  go_loopw [1] (fun v wr => ∃ (pos : Nat) (m : Int), v = .int .i64 m ∧ -9223372036854775808 ≤ m ∧ m ≤ 9223372036854775807 ∧ wr.heap[w.heap.size]? = some (.stringIter s pos) ∧ Below w.heap.size w wr ∧ pos ≤ s.size ∧ pos + Ru.cutP m.toNat (rest s pos) = Ru.cutP n.toNat s.data.toList) (fun _ wr => s.size - wr.iterPos w.heap.size)
  case atStart =>
    exact ⟨0, n, rfl, hn1, hn2, World.iter_heap w s 0, below_new w _, Nat.zero_le _, by simp [rest]⟩
  case round =>
    obtain ⟨pos, m, rfl, hm1, hm2, hit, hbw, hps, hcnt⟩ := hrel
    have HC := Lib.hid hcnt; clear hcnt
    by_cases hp : pos < s.size
    · have hnx : ∀ ty, (Instr.next (.pointer (some ⟨w.heap.size, 0, none⟩)) true ty).run Try.prog wr = _ := fun ty => Lib.run_next_any_at wr w.heap.size s pos ty hit hp
      have hwd := width_pos s pos hp
      have hwl := width_le s pos hp
      have hit2 := Lib.iterAt_heap wr w.heap.size s pos (pos + (Utf8.decode s pos).2) hit
      have hbw2 := Lib.below_iterAt hbw (k := w.heap.size) (Nat.le_refl _) s (pos + (Utf8.decode s pos).2)
      have hsz : (s.extract 0 pos).size ≤ 281474976710656 := by rw [ByteArray.size_extract]; omega
      have HS := Lib.hid hsz; clear hsz
      by_cases hm : m ≤ 0
      · go_wp2_with (go_at_call 32; refine (clone_any _ _ HS.out).mono ?_; rintro e w1 ⟨rfl, hb⟩)
        go_ret
        refine str_ret ?_ (hbw2.trans (hb.mono hbw2.size))
        have := HC.out
        rw [show m.toNat = 0 by omega, Ru.cutP_zero, Nat.add_zero] at this
        unfold cutB; rw [← this]
      · go_wp2
        go_roundw
        case rel =>
          refine ⟨pos + (Utf8.decode s pos).2, m - 1, by go_num, by omega, by omega, hit2, hbw2, hwl, ?_⟩
          rw [← HC.out]
          obtain ⟨k, hk⟩ : ∃ k, m.toNat = k + 1 := ⟨m.toNat - 1, by omega⟩
          rw [hk, show (m - 1).toNat = k by omega, cutP_next s pos k hp]; omega
        case measure =>
          simp only [World.iterPos, hit2, hit]
          omega
    · have hnx : ∀ ty, (Instr.next (.pointer (some ⟨w.heap.size, 0, none⟩)) true ty).run Try.prog wr = _ := fun ty => Lib.run_next_end_at wr w.heap.size s pos ty hit hp
      go_wp2_with (go_at_call 32; refine (clone_any s _ hs).mono ?_; rintro e w1 ⟨rfl, hb⟩)
      go_ret
      refine str_ret ?_ (hbw.trans (hb.mono hbw.size))
      have := HC.out
      rw [rest_end s pos hp, Ru.cutP_nil, Nat.add_zero] at this
      unfold cutB; rw [← this, show pos = s.size by omega, ByteArray.extract_zero_size]

def KeyRest (k : Nat) (l : List UInt8) : Bool := decide (k + (Ru.rns l).length ≤ 40) && (Ru.rns l).all Ru.okr
theorem keyRest_stop (s : ByteArray) (pos k : Nat) (hp : pos < s.size) (h : 40 < k + 1 ∨ Ru.okr (Utf8.decode s pos) = false) : KeyRest k (rest s pos) = false := by
  unfold KeyRest; rw [rest_next s pos hp, List.length_cons, List.all_cons]
  rcases h with h | h
  · rw [decide_eq_false (by omega), Bool.false_and]
  · rw [h, Bool.false_and, Bool.and_false]
theorem keyRest_go (s : ByteArray) (pos k : Nat) (hp : pos < s.size) (h : Ru.okr (Utf8.decode s pos) = true) : KeyRest k (rest s pos) = KeyRest (k + 1) (rest s (pos + (Utf8.decode s pos).2)) := by
  unfold KeyRest; rw [rest_next s pos hp, List.length_cons, List.all_cons, h, Bool.true_and]
  congr 2
  rw [Nat.add_assoc, Nat.add_comm 1]
theorem okr_low (x : Nat × Nat) (h : x.1 < 32) : Ru.okr x = false := by unfold Ru.okr; rw [decide_eq_false (by omega)]; simp
theorem okr_del (x : Nat × Nat) (h : x.1 = 127) : Ru.okr x = false := by unfold Ru.okr; rw [h]; simp
theorem okr_bad (x : Nat × Nat) (h : Ru.fine x = false) : Ru.okr x = false := by unfold Ru.okr; rw [h]; rfl
theorem okr_ok (x : Nat × Nat) (h : Ru.fine x = true) (h1 : ¬ x.1 < 32) (h2 : ¬ x.1 = 127) : Ru.okr x = true := by
  unfold Ru.okr; rw [h, decide_eq_true (by omega), bne_iff_ne.2 h2]; rfl

set_option maxHeartbeats 4000000 in
theorem key_any (s : ByteArray) (w : World) :
    Calls Try.prog 21 #[.string s] w fun e w' => e = .returned (.bool (Ru.key s.data.toList)) ∧ Below w.heap.size w w' := by
  go_enter Try.func21, Try.ntmps21
  go_wp2
  go_loopw [3] (fun v wr => ∃ pos k : Nat, v = .int .i64 k ∧ k ≤ pos ∧ k ≤ 40 ∧ pos ≤ s.size ∧ wr.heap[w.heap.size]? = some (.stringIter s pos) ∧ Below w.heap.size w wr ∧ (decide (0 < k + (Ru.rns (rest s pos)).length) && KeyRest k (rest s pos)) = Ru.key s.data.toList) (fun _ wr => s.size - wr.iterPos w.heap.size)
  case atStart =>
    refine ⟨0, 0, rfl, Nat.le_refl _, Nat.zero_le _, Nat.zero_le _, World.iter_heap w s 0, below_new w _, ?_⟩
    simp only [KeyRest, Ru.key, rest, List.drop_zero, Nat.zero_add, Bool.and_assoc]; rfl
  case round =>
    obtain ⟨pos, k, rfl, hkp, hk40, hps, hit, hbw, hcnt⟩ := hrel
    have HC := Lib.hid hcnt; clear hcnt
    by_cases hp : pos < s.size
    · have hnx : ∀ ty, (Instr.next (.pointer (some ⟨w.heap.size, 0, none⟩)) true ty).run Try.prog wr = _ := fun ty => Lib.run_next_any_at wr w.heap.size s pos ty hit hp
      have hwd := width_pos s pos hp
      have hwl := width_le s pos hp
      have hit2 := Lib.iterAt_heap wr w.heap.size s pos (pos + (Utf8.decode s pos).2) hit
      have hbw2 := Lib.below_iterAt hbw (k := w.heap.size) (Nat.le_refl _) s (pos + (Utf8.decode s pos).2)
      by_cases h40 : 40 < k + 1
      · go_wp2
        go_ret
        refine ⟨ret_bool ?_, hbw2⟩
        rw [← HC.out, keyRest_stop s pos k hp (.inl h40), Bool.and_false]
      · by_cases h32 : (Utf8.decode s pos).1 < 32
        · go_wp2
          go_ret
          refine ⟨ret_bool ?_, hbw2⟩
          rw [← HC.out, keyRest_stop s pos k hp (.inr (okr_low _ h32)), Bool.and_false]
        · by_cases h127 : (Utf8.decode s pos).1 = 127
          · have hb : (((Utf8.decode s pos).1 : Int) == 127) = true := by rw [beq_iff_eq]; omega
            have H1 := Lib.hid h127; clear h127
            go_wp2
            go_ret
            refine ⟨ret_bool ?_, hbw2⟩
            rw [← HC.out, keyRest_stop s pos k hp (.inr (okr_del _ H1.out)), Bool.and_false]
          · have hb : (((Utf8.decode s pos).1 : Int) == 127) = false := by rw [beq_eq_false_iff_ne]; omega
            have H1 := Lib.hid h127; clear h127
            have H2 := Lib.hid h32
            cases hf : Ru.fine (Utf8.decode s pos)
            all_goals
              have HF := Lib.hid hf; clear hf
              go_wp2_with (go_at_call 31; refine (stray_at s pos _ hp _ HF.out).mono ?_; rintro e w' ⟨rfl, rfl⟩)
            · go_ret
              refine ⟨ret_bool ?_, hbw2⟩
              rw [← HC.out, keyRest_stop s pos k hp (.inr (okr_bad _ HF.out)), Bool.and_false]
            · go_roundw
              case rel =>
                refine ⟨pos + (Utf8.decode s pos).2, k + 1, by go_num, by omega, by omega, hwl, hit2, hbw2, ?_⟩
                rw [← HC.out, keyRest_go s pos k hp (okr_ok _ HF.out H2.out H1.out), rest_next s pos hp, List.length_cons]
                congr 2; apply propext; constructor <;> intro _ <;> omega
              case measure =>
                simp only [World.iterPos, hit2, hit]
                omega
    · have hnx : ∀ ty, (Instr.next (.pointer (some ⟨w.heap.size, 0, none⟩)) true ty).run Try.prog wr = _ := fun ty => Lib.run_next_end_at wr w.heap.size s pos ty hit hp
      go_wp2
      go_ret
      refine ⟨ret_bool ?_, hbw⟩
      rw [← HC.out, rest_end s pos hp]
      have e : KeyRest k [] = true := by
        show (decide (k + 0 ≤ 40) && true) = true
        rw [decide_eq_true (by omega)]; rfl
      rw [e, Bool.and_true, Bool.eq_iff_iff, decide_eq_true_eq, decide_eq_true_eq, Ru.rns_nil, List.length_nil]; omega

/-! ### Fold -/
theorem low_cast (n : Nat) : lowZ (n : Int) = (Ru.low n : Nat) := by
  unfold lowZ Ru.low
  by_cases h : (65 ≤ n ∧ n ≤ 90) ∨ (192 ≤ n ∧ n ≤ 222 ∧ n ≠ 215) ∨ (913 ≤ n ∧ n ≤ 937 ∧ n ≠ 930) ∨ (1040 ≤ n ∧ n ≤ 1071)
  · rw [if_pos h, if_pos (by omega)]; rfl
  · rw [if_neg h, if_neg (by omega)]
def foldB (s : ByteArray) : ByteArray := ⟨(Ru.fld s.data.toList).toArray⟩
/-- what is still to be written -/
def fldR (l : List UInt8) : List UInt8 := Ru.fld l
theorem fldR_next (s : ByteArray) (pos : Nat) (h : pos < s.size) : fldR (rest s pos) = Ru.enc (Ru.low (Utf8.decode s pos).1) ++ fldR (rest s (pos + (Utf8.decode s pos).2)) := by
  unfold fldR Ru.fld; rw [rest_next s pos h]; rfl
theorem low_bd (s : ByteArray) (pos : Nat) : -2147483648 ≤ lowZ ((Utf8.decode s pos).1 : Int) ∧ lowZ ((Utf8.decode s pos).1 : Int) ≤ 2147483647 := by
  rw [low_cast]
  have h := Ru.low_ok _ (Ru.dcl_r (s.data.toList.drop pos))
  rw [← Ru.decode_list] at h; unfold Ru.rok at h; omega

set_option maxHeartbeats 4000000 in
set_option maxRecDepth 1000000 in
theorem fold_any (s : ByteArray) (w : World) (hs : s.size ≤ 35184372088832) :
    Calls Try.prog 23 #[.string s] w (Str (foldB s) w) := by
  go_enter Try.func23, Try.ntmps23
  go_wp2
  go_loopw [] (fun wr => ∃ (pos : Nat) (acc : List UInt8), Lib.IsBuilderF 46 5 w.heap.size w.heap.size (Lib.byteCells acc) wr ∧ wr.heap[w.heap.size + 1]? = some (.stringIter s pos) ∧ Below w.heap.size w wr ∧ pos ≤ s.size ∧ acc ++ fldR (rest s pos) = Ru.fld s.data.toList ∧ acc.length ≤ 4 * pos) (fun wr => s.size - wr.iterPos (w.heap.size + 1))
  case atStart =>
    refine ⟨0, [], (Lib.IsBuilderF.of (Lib.fresh_isBuilder 46 5 w)).alloc _, ?_, ((Below.refl _ w).alloc (Nat.le_refl _) _).alloc (by simp) _, Nat.zero_le _, rfl, by simp⟩
    have := World.iter_heap (w.alloc (.cells #[.pointer none, .slice none 0 0] 46)) s 0
    simpa using this
  case round =>
    obtain ⟨pos, acc, hI, hit, hbw, hps, hacc, hal⟩ := hrel
    have HA := Lib.hid hacc; clear hacc
    have hsz : w.heap.size + 1 < wr.heap.size := (Array.getElem?_eq_some_iff.1 hit).1
    by_cases hp : pos < s.size
    · have hnx : ∀ ty, (Instr.next (.pointer (some ⟨w.heap.size + 1, 0, none⟩)) true ty).run Try.prog wr = _ := fun ty => Lib.run_next_any_at wr (w.heap.size + 1) s pos ty hit hp
      have hwd := width_pos s pos hp
      have hwl := width_le s pos hp
      have hd1 := decode_le s pos
      have hI2 := hI.iterAt hit (pos + (Utf8.decode s pos).2)
      have hit2 := Lib.iterAt_heap wr (w.heap.size + 1) s pos (pos + (Utf8.decode s pos).2) hit
      have hbw2 := Lib.below_iterAt hbw (k := w.heap.size + 1) (by omega) s (pos + (Utf8.decode s pos).2)
      have hsz2 : w.heap.size ≤ (wr.iterAt (w.heap.size + 1) s (pos + (Utf8.decode s pos).2)).heap.size := by rw [Lib.iterAt_size]; omega
      have hlo := (low_bd s pos).1
      have hhi := (low_bd s pos).2
      have hn := fldR_next s pos hp
      have HN := Lib.hid hn; clear hn
      go_wp2_with (go_at_call 27; refine (lower_any _ _ (by omega) (by omega)).mono ?_; rintro e w' ⟨rfl, rfl⟩)
      go_wp2_with (go_at_call 33; refine (Try.Builder_WriteRune_k w.heap.size w.heap.size _ _ hlo hhi _ hI2 (by rw [Lib.byteCells_length]; omega) hsz2).mono ?_)
      rintro e W1 ⟨rfl, h1, b1, k1⟩
      go_wp2
      go_roundw
      case rel =>
        have hl4 := Ru.enc_w (Ru.low (Utf8.decode s pos).1)
        refine ⟨pos + (Utf8.decode s pos).2, acc ++ Ru.enc (Ru.low (Utf8.decode s pos).1), ?_, k1.iter hit2 (by omega), hbw2.trans b1, hwl, ?_, ?_⟩
        · rw [Lib.byteCells_append, Ru.enc, Lib.byteCells_encodeRune, ← low_cast]; exact Or.inr h1
        · rw [← HA.out, HN.out, List.append_assoc]
        · rw [List.length_append]; omega
      case measure =>
        simp only [World.iterPos, k1.iter hit2 (by omega), hit]
        omega
    · have hnx : ∀ ty, (Instr.next (.pointer (some ⟨w.heap.size + 1, 0, none⟩)) true ty).run Try.prog wr = _ := fun ty => Lib.run_next_end_at wr (w.heap.size + 1) s pos ty hit hp
      go_wp2_with (go_at_call 34; refine (Try.Builder_String_any_k w.heap.size w.heap.size acc _ hI (by omega)).mono ?_)
      rintro e W1 ⟨rfl, _, b1, _⟩
      go_wp2
      go_ret
      have := HA.out
      rw [rest_end s pos hp] at this
      refine str_ret ?_ (hbw.trans b1)
      unfold foldB; rw [← this]; simp [fldR, Ru.fld, Ru.encs]
end Go.Proofs.Ytplogecejioolaa
