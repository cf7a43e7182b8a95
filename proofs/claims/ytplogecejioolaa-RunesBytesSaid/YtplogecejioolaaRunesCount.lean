/-
  The functions of package runes that range over a text return what the plain functions say, at every text.
  A text has at most as many bytes as the model lets one have.
-/
import Derived.Test.YtplogecejioolaaRunesSmall
namespace Go.Proofs.Ytplogecejioolaa
open Go.RowKit

theorem width_pos (s : ByteArray) (pos : Nat) (h : pos < s.size) : 1 ≤ (Utf8.decode s pos).2 := by
  rw [Ru.decode_list]
  exact (Ru.dcl_w _ (by intro e; have := congrArg List.length e; simp at this; omega)).1
/-- the runes from place pos on -/
def rest (s : ByteArray) (pos : Nat) : List UInt8 := s.data.toList.drop pos
theorem rest_ne (s : ByteArray) (pos : Nat) (h : pos < s.size) : rest s pos ≠ [] := by
  intro e; have := congrArg List.length e; simp [rest] at this; omega
theorem rest_end (s : ByteArray) (pos : Nat) (h : ¬ pos < s.size) : rest s pos = [] := by
  unfold rest; apply List.drop_of_length_le; rw [Array.length_toList]; exact Nat.le_of_not_lt h
theorem rest_next (s : ByteArray) (pos : Nat) (h : pos < s.size) : Ru.rns (rest s pos) = Utf8.decode s pos :: Ru.rns (rest s (pos + (Utf8.decode s pos).2)) := by
  rw [Ru.rns_cons _ (rest_ne s pos h), Ru.decode_list]; unfold rest; rw [List.drop_drop]

theorem ret_i64 {a b : Int} (h : a = b) : Ending.returned (.int .i64 a) = .returned (.int .i64 b) := by rw [h]
set_option maxHeartbeats 2000000 in
theorem count_any (s : ByteArray) (w : World) (hs : s.size ≤ maxLen) :
    Calls Try.prog 18 #[.string s] w fun e w' => e = .returned (.int .i64 (Ru.cnt s.data.toList)) ∧ Below w.heap.size w w' := by
  unfold maxLen at hs
  go_enter Try.func18, Try.ntmps18
  go_wp2
  go_loopw [3] (fun n wr => ∃ pos k : Nat, n = .int .i64 k ∧ wr.heap[w.heap.size]? = some (.stringIter s pos) ∧ Below w.heap.size w wr ∧ k ≤ pos ∧ k + Ru.cnt (rest s pos) = Ru.cnt s.data.toList) (fun _ wr => s.size - wr.iterPos w.heap.size)
  case atStart =>
    exact ⟨0, 0, rfl, World.iter_heap w s 0, below_new w _, Nat.le_refl _, by simp [rest]⟩
  case round =>
    obtain ⟨pos, k, rfl, hit, hbw, hkp, hcnt⟩ := hrel
    have HC := Lib.hid hcnt; clear hcnt
    by_cases hp : pos < s.size
    · have hnx : ∀ ty, (Instr.next (.pointer (some ⟨w.heap.size, 0, none⟩)) true ty).run Try.prog wr = _ := fun ty => Lib.run_next_any_at wr w.heap.size s pos ty hit hp
      have hwd := width_pos s pos hp
      have hit2 := Lib.iterAt_heap wr w.heap.size s pos (pos + (Utf8.decode s pos).2) hit
      have hbw2 := Lib.below_iterAt hbw (k := w.heap.size) (Nat.le_refl _) s (pos + (Utf8.decode s pos).2)
      have hn := rest_next s pos hp
      have HN := Lib.hid hn; clear hn
      go_wp2
      go_roundw
      case rel =>
        refine ⟨pos + (Utf8.decode s pos).2, k + 1, by go_num, hit2, hbw2, by omega, ?_⟩
        rw [← HC.out]; unfold Ru.cnt; rw [HN.out, List.length_cons]; omega
      case measure =>
        simp only [World.iterPos, hit2, hit]
        omega
    · have hnx : ∀ ty, (Instr.next (.pointer (some ⟨w.heap.size, 0, none⟩)) true ty).run Try.prog wr = _ := fun ty => Lib.run_next_end_at wr w.heap.size s pos ty hit hp
      go_wp2
      go_ret
      refine ⟨ret_i64 ?_, hbw⟩
      rw [← HC.out, rest_end s pos hp]; simp [Ru.cnt]

/-- the first rune of a text and its width, as the program tells it -/
def decB (s : ByteArray) : Nat × Nat := if s.size = 0 then (65533, 0) else Utf8.decode s 0
def Dec (r : Nat × Nat) (w : World) (e : Ending) (w' : World) : Prop := e = .returned (.tuple #[.int .i32 r.1, .int .i64 r.2]) ∧ Below w.heap.size w w'
theorem decB_pos (s : ByteArray) (h : 0 < s.size) : decB s = Utf8.decode s 0 := by unfold decB; rw [if_neg (by omega)]
def Fst (s : ByteArray) (pos : Nat) (f : Int) : Prop := (pos = 0 ∧ f = 65533) ∨ (0 < s.size ∧ 0 < pos ∧ (pos : Int) = (Utf8.decode s 0).2 ∧ f = (Utf8.decode s 0).1)
theorem width_le (s : ByteArray) (pos : Nat) (h : pos < s.size) : pos + (Utf8.decode s pos).2 ≤ s.size := by
  have h1 := (Ru.dcl_w _ (rest_ne s pos h)).2.1
  rw [Ru.decode_list]
  have h2 : (rest s pos).length = s.size - pos := by simp [rest]
  unfold rest at *; omega
theorem dec_ret (s : ByteArray) (w w' : World) (a b : Int) (h : Below w.heap.size w w') (ha : a = (decB s).1) (hb : b = (decB s).2) : Dec (decB s) w (.returned (.tuple #[.int .i32 a, .int .i64 b])) w' := ⟨by rw [ha, hb], h⟩
set_option maxHeartbeats 2000000 in
theorem decode_any (s : ByteArray) (w : World) (hs : s.size ≤ maxLen) :
    Calls Try.prog 15 #[.string s] w (Dec (decB s) w) := by
  unfold maxLen at hs
  go_enter Try.func15, Try.ntmps15
  go_wp2
  go_loopw [4] (fun n wr => ∃ (pos : Nat) (f : Int), n = .int .i32 f ∧ wr.heap[w.heap.size]? = some (.stringIter s pos) ∧ Below w.heap.size w wr ∧ pos ≤ s.size ∧ Fst s pos f) (fun _ wr => s.size - wr.iterPos w.heap.size)
  case atStart =>
    exact ⟨0, 65533, rfl, World.iter_heap w s 0, below_new w _, Nat.zero_le _, .inl ⟨rfl, rfl⟩⟩
  case round =>
    obtain ⟨pos, f, rfl, hit, hbw, hps, hf⟩ := hrel
    have HF := Lib.hid hf; clear hf
    by_cases hp : pos < s.size
    · have hnx : ∀ ty, (Instr.next (.pointer (some ⟨w.heap.size, 0, none⟩)) true ty).run Try.prog wr = _ := fun ty => Lib.run_next_any_at wr w.heap.size s pos ty hit hp
      have hwd := width_pos s pos hp
      have hwl := width_le s pos hp
      have hit2 := Lib.iterAt_heap wr w.heap.size s pos (pos + (Utf8.decode s pos).2) hit
      have hbw2 := Lib.below_iterAt hbw (k := w.heap.size) (Nat.le_refl _) s (pos + (Utf8.decode s pos).2)
      by_cases h0 : 0 < pos
      · go_wp2
        go_ret2
        have := HF.out
        unfold Fst at this
        refine dec_ret s w _ _ _ hbw2 ?_ ?_
        · rw [decB_pos s (by omega)]; omega
        · rw [decB_pos s (by omega)]; omega
      · obtain rfl : pos = 0 := by omega
        rw [Nat.zero_add] at hit2 hbw2 hwl
        go_wp2
        go_roundw
        case rel =>
          exact ⟨(Utf8.decode s 0).2, _, rfl, hit2, hbw2, hwl, .inr ⟨by omega, by omega, by omega, rfl⟩⟩
        case measure =>
          simp only [World.iterPos, hit2, hit]
          omega
    · have hnx : ∀ ty, (Instr.next (.pointer (some ⟨w.heap.size, 0, none⟩)) true ty).run Try.prog wr = _ := fun ty => Lib.run_next_end_at wr w.heap.size s pos ty hit hp
      go_wp2
      go_ret2
      have hq := HF.out
      unfold Fst at hq
      by_cases h0 : s.size = 0
      · refine dec_ret s w _ _ _ hbw ?_ ?_
        · unfold decB; rw [if_pos h0]; omega
        · unfold decB; rw [if_pos h0]; omega
      · refine dec_ret s w _ _ _ hbw ?_ ?_
        · rw [decB_pos s (by omega)]; omega
        · rw [decB_pos s (by omega)]; omega

/-! ### strings.Clone, stray, Valid, Cut, Key, Fold -/
theorem clone_any (s : ByteArray) (w : World) (hs : s.size ≤ 281474976710656) : Calls Try.prog 32 #[.string s] w fun e w' => e = .returned (.string s) ∧ Below w.heap.size w w' := by
  go_enter Try.func32, Try.ntmps32
  go_wp2_with (go_at_call 36; refine (Try.stringslite_Clone s w hs).mono ?_; rintro e w' ⟨rfl, hb⟩)
  go_ret
  exact ⟨rfl, hb⟩

def pre : ByteArray := ⟨#[239, 191, 189]⟩
theorem stray_not (t : ByteArray) (r : Int) (w : World) (h : (r == 65533) = false) : Calls Try.prog 31 #[.string t, .int .i32 r] w fun e w' => e = .returned (.bool false) ∧ w = w' := by
  go_enter Try.func31, Try.ntmps31
  go_wp2
  go_ret
  exact ⟨rfl, rfl⟩
theorem stray_is (t : ByteArray) (w : World) (b : Bool) (h : Lib.hasPrefix t.data.toList [239, 191, 189] = b) : Calls Try.prog 31 #[.string t, .int .i32 65533] w fun e w' => e = .returned (.bool !b) ∧ w = w' := by
  have H := Lib.hid h; clear h
  go_enter Try.func31, Try.ntmps31
  go_wp2_with (go_at_call 35; refine (Try.strings_HasPrefix t pre w).mono ?_; rintro e w' ⟨rfl, rfl⟩)
  go_ret
  rw [show Lib.hasPrefix t.data.toList pre.data.toList = b from H.out]
  exact ⟨rfl, rfl⟩
end Go.Proofs.Ytplogecejioolaa
