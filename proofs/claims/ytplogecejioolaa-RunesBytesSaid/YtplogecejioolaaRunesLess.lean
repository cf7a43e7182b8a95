/-
  Less of package runes returns what the plain order says, at every two texts.
  A text has at most as many bytes as the model lets one have.
-/
import Derived.Test.YtplogecejioolaaRunesLoops
namespace Go.Proofs.Ytplogecejioolaa
open Go.RowKit

def lesB (a b : ByteArray) : Bool := Ru.les a.data.toList b.data.toList
def runs (s : ByteArray) : List Nat := Ru.runs s.data.toList
theorem runs_next (s : ByteArray) (h : 0 < s.size) : runs s = (decB s).1 :: runs (s.extract (decB s).2 s.size) := by
  have h1 := rest_next s 0 h
  rw [decB_pos s h]; unfold runs Ru.runs
  rw [ext_list, show s.data.toList = rest s 0 from rfl, h1, List.map_cons, Nat.zero_add]
theorem decB_le (s : ByteArray) (h : 0 < s.size) : 1 ≤ (decB s).2 ∧ (decB s).2 ≤ s.size := by
  rw [decB_pos s h]; have := width_le s 0 h; have := width_pos s 0 h; omega
theorem runs_nil (s : ByteArray) (h : s.size = 0) : runs s = [] := by
  unfold runs Ru.runs; rw [show s.data.toList = rest s 0 from rfl, rest_end s 0 (by omega)]; rfl
theorem runs_ne (s : ByteArray) (h : 0 < s.size) : runs s ≠ [] := by rw [runs_next s h]; simp
theorem cmp_nil (x : List Nat) (t : Bool) (h : x ≠ []) : Ru.cmpR [] x t = true := by cases x <;> simp_all [Ru.cmpR]
theorem cmp_end (x : List Nat) (t : Bool) (h : x ≠ []) : Ru.cmpR x [] t = false := by cases x <;> simp_all [Ru.cmpR]

theorem lst_empty (x : ByteArray) (h : 0 < x.size) : x.toList.isEmpty = false := by
  rw [ByteArray.toList_eq]
  cases he : x.data.toList with
  | nil => have := congrArg List.length he; rw [Array.length_toList] at this; have h2 : x.data.size = x.size := rfl; rw [List.length_nil] at this; omega
  | cons => rfl
theorem lst_nil (x : ByteArray) (h : ¬ 0 < x.size) : x.toList = [] := by
  rw [ByteArray.toList_eq]
  apply List.eq_nil_of_length_eq_zero
  rw [Array.length_toList]; have h2 : x.data.size = x.size := rfl; omega
theorem cmp_step (x y : ByteArray) (t : Bool) (hx : 0 < x.size) (hy : 0 < y.size) : Ru.cmpR (runs x) (runs y) t = if (decB x).1 = (decB y).1 then Ru.cmpR (runs (x.extract (decB x).2 x.size)) (runs (y.extract (decB y).2 y.size)) t else decide ((decB x).1 < (decB y).1) := by
  rw [runs_next x hx, runs_next y hy]; rfl
theorem neq_of {a b : Nat} (h : ¬ a = b) : ((a : Int) != b) = true := by rw [bne_iff_ne]; omega
theorem neq_not {a b : Nat} (h : a = b) : ((a : Int) != b) = false := by rw [h]; simp
def Cmp (a b x y : ByteArray) : Prop := Ru.cmpR (runs x) (runs y) (Op.bytesLess a.toList b.toList) = lesB a b

set_option maxHeartbeats 4000000 in
theorem less_any (a b : ByteArray) (w : World) (ha : a.size ≤ maxLen) (hb : b.size ≤ maxLen) :
    Calls Try.prog 29 #[.string a, .string b] w fun e w' => e = .returned (.bool (lesB a b)) ∧ Below w.heap.size w w' := by
  unfold maxLen at ha hb
  go_enter Try.func29, Try.ntmps29
  go_wp2
  go_loopw [5, 6] (fun u v wr => ∃ x y : ByteArray, u = .string x ∧ v = .string y ∧ x.size ≤ a.size ∧ y.size ≤ b.size ∧ Below w.heap.size w wr ∧ Cmp a b x y) (fun u _ _ => match u with | .string x => x.size | _ => 0)
  case atStart =>
    refine ⟨a, b, rfl, rfl, Nat.le_refl _, Nat.le_refl _, Below.refl _ _, ?_⟩
    unfold Cmp; rw [ByteArray.toList_eq, ByteArray.toList_eq]; rfl
  case round =>
    obtain ⟨x, y, rfl, rfl, hx, hy, hbw, hc⟩ := hrel
    have HC := Lib.hid hc; clear hc
    by_cases hx0 : 0 < x.size
    · by_cases hy0 : 0 < y.size
      · have hx1 := lst_empty x hx0
        have hy1 := lst_empty y hy0
        have hxd := decB_le x hx0
        have hyd := decB_le y hy0
        have hcs := cmp_step x y (Op.bytesLess a.toList b.toList) hx0 hy0
        have HS := Lib.hid hcs; clear hcs
        by_cases he : (decB x).1 = (decB y).1
        · have hne := neq_not he
          have HE := Lib.hid he; clear he
          go_wp2_with fail
          refine (decode_any x _ (by unfold maxLen; omega)).mono ?_
          rintro e w1 ⟨rfl, hb1⟩
          go_wp2_with fail
          refine (decode_any y _ (by unfold maxLen; omega)).mono ?_
          rintro e w2 ⟨rfl, hb2⟩
          go_wp2_with fail
          go_quiet (fail)
          go_wp2
          go_roundw
          case rel =>
            refine ⟨_, _, rfl, rfl, ?_, ?_, below_drewN ((hbw.trans (hb1.mono hbw.size)).trans (hb2.mono (Nat.le_trans hbw.size hb1.size))) _, ?_⟩
            · rw [ByteArray.size_extract]; omega
            · rw [ByteArray.size_extract]; omega
            · unfold Cmp
              have := HC.out; unfold Cmp at this
              rw [← this, HS.out, if_pos HE.out]
          case measure => show (x.extract (decB x).2 x.size).size < x.size; rw [ByteArray.size_extract]; omega
        · have hne := neq_of he
          have HE := Lib.hid he; clear he
          go_wp2_with fail
          refine (decode_any x _ (by unfold maxLen; omega)).mono ?_
          rintro e w1 ⟨rfl, hb1⟩
          go_wp2_with fail
          refine (decode_any y _ (by unfold maxLen; omega)).mono ?_
          rintro e w2 ⟨rfl, hb2⟩
          go_wp2
          go_ret
          refine ⟨ret_bool ?_, (hbw.trans (hb1.mono hbw.size)).trans (hb2.mono (Nat.le_trans hbw.size hb1.size))⟩
          have := HC.out; unfold Cmp at this
          rw [← this, HS.out, if_neg HE.out]
      · have hx1 := lst_empty x hx0
        have hy1 := lst_nil y hy0
        have hy2 : y.toList.isEmpty = true := by rw [hy1]; rfl
        go_wp2
        go_ret
        refine ⟨ret_bool ?_, hbw⟩
        have := HC.out; unfold Cmp at this
        rw [← this, runs_nil y (by omega), cmp_end _ _ (runs_ne x hx0)]
    · have hx1 := lst_nil x hx0
      have hx2 : x.toList.isEmpty = true := by rw [hx1]; rfl
      by_cases hy0 : 0 < y.size
      · have hy1 := lst_empty y hy0
        go_wp2
        go_ret
        refine ⟨ret_bool ?_, hbw⟩
        have := HC.out; unfold Cmp at this
        rw [← this, runs_nil x (by omega), cmp_nil _ _ (runs_ne y hy0)]
      · have hy1 := lst_nil y hy0
        have hy2 : y.toList.isEmpty = true := by rw [hy1]; rfl
        go_wp2
        go_ret
        refine ⟨ret_bool ?_, hbw⟩
        have := HC.out; unfold Cmp at this
        rw [← this, runs_nil x (by omega), runs_nil y (by omega)]; rfl
end Go.Proofs.Ytplogecejioolaa
