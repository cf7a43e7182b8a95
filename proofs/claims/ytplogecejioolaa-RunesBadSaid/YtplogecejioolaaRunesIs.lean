/-
  The functions of package runes return a value that is named ahead: each of the contracts, with what it returns written by the caller.
  The condition is that the plain function has that value.
-/
import Derived.Test.YtplogecejioolaaRunesBegun
namespace Go.Proofs.Ytplogecejioolaa
open Go.RowKit

theorem valid_is (t : ByteArray) (w : World) (b : Bool) (h : Ru.vld t.data.toList = b) : Calls Try.prog 17 #[.string t] w fun e w' => e = .returned (.bool b) ∧ Below w.heap.size w w' := by
  rw [← h]; exact valid_any t w
theorem key_is (t : ByteArray) (w : World) (b : Bool) (h : Ru.key t.data.toList = b) : Calls Try.prog 21 #[.string t] w fun e w' => e = .returned (.bool b) ∧ Below w.heap.size w w' := by
  rw [← h]; exact key_any t w
theorem count_is (t : ByteArray) (w : World) (n : Nat) (hs : t.size ≤ maxLen) (h : Ru.cnt t.data.toList = n) : Calls Try.prog 18 #[.string t] w fun e w' => e = .returned (.int .i64 n) ∧ Below w.heap.size w w' := by
  rw [← h]; exact count_any t w hs
theorem less_is (a b : ByteArray) (w : World) (v : Bool) (ha : a.size ≤ maxLen) (hb : b.size ≤ maxLen) (h : lesB a b = v) : Calls Try.prog 29 #[.string a, .string b] w fun e w' => e = .returned (.bool v) ∧ Below w.heap.size w w' := by
  rw [← h]; exact less_any a b w ha hb
theorem rless_is (a b : ByteArray) (w : World) (v : Bool) (ha : a.size ≤ 1000000) (hb : b.size ≤ 1000000) (h : lesB a b = v) : Calls Try.prog 30 #[.string a, .string b] w fun e w' => e = .returned (.bool v) ∧ Below w.heap.size w w' := by
  rw [← h]; exact rless_any a b w ha hb
theorem fold_is (t u : ByteArray) (w : World) (hs : t.size ≤ 35184372088832) (h : foldB t = u) : Calls Try.prog 23 #[.string t] w (Str u w) := by
  rw [← h]; exact fold_any t w hs
theorem cut_is (t u : ByteArray) (n : Int) (w : World) (hs : t.size ≤ 281474976710656) (hn1 : -9223372036854775808 ≤ n) (hn2 : n ≤ 9223372036854775807) (h : cutB t n = u) : Calls Try.prog 19 #[.string t, .int .i64 n] w (Str u w) := by
  rw [← h]; exact cut_any t n w hs hn1 hn2
def ED (r : Int) : Nat := if (0 ≤ r ∧ r < 55296) ∨ (57344 ≤ r ∧ r ≤ 1114111) then r.toNat else 65533
theorem enc_ED (r : Int) : Lib.encodeRune r = Ru.enc (ED r) := by
  unfold ED; split
  · unfold Ru.enc; congr 1; omega
  · have e : Lib.encodeRuneZ r = [239, 191, 189] := Lib.encodeRuneZ_bad (by omega)
    unfold Lib.encodeRune; rw [e]; decide
theorem ED_ok (r : Int) : Ru.rok (ED r) := by unfold ED Ru.rok; split <;> omega
theorem decode_enc (r : Int) (w : World) : Calls Try.prog 15 #[.string ⟨(Lib.encodeRune r).toArray⟩] w (Dec (ED r, (Lib.encodeRune r).length) w) := by
  have hd : decB ⟨(Lib.encodeRune r).toArray⟩ = (ED r, (Lib.encodeRune r).length) := by
    have h4 := Ru.enc_w (ED r)
    rw [enc_ED]
    have hs : (⟨(Ru.enc (ED r)).toArray⟩ : ByteArray).size = (Ru.enc (ED r)).length := by rfl
    rw [decB_pos _ (by rw [hs]; omega), Ru.decode_list, List.drop_zero]
    exact Ru.dcl_enc (ED r) (ED_ok r)
  rw [← hd]
  refine decode_any _ w ?_
  have h4 := Ru.enc_w (ED r)
  rw [← enc_ED] at h4
  show (Lib.encodeRune r).length ≤ maxLen
  unfold maxLen; omega
theorem join_list (a b : ByteArray) : (a ++ b).data.toList = a.data.toList ++ b.data.toList := by rw [ByteArray.data_append, Array.toList_append]
theorem bytes_eq {a b : ByteArray} (h : a.data.toList = b.data.toList) : a = b := ByteArray.ext (Array.toList_inj.1 h)
theorem cnt_le (a : ByteArray) : Ru.cnt a.data.toList ≤ a.size := by
  have := Ru.rns_len a.data.toList
  rw [Array.length_toList] at this; exact this
theorem foldB_list (a : ByteArray) : (foldB a).data.toList = Ru.fld a.data.toList := by simp [foldB]
theorem foldB_le (a : ByteArray) : (foldB a).size ≤ 4 * a.size := by
  have := Ru.fld_len a.data.toList
  rw [Array.length_toList] at this
  exact this
theorem foldB_join (a b : ByteArray) (h : Ru.vld a.data.toList = true) : foldB (a ++ b) = foldB a ++ foldB b := by
  apply bytes_eq
  rw [join_list, foldB_list, foldB_list, foldB_list, join_list, Ru.fld_append _ _ h]
theorem cutB_list (s : ByteArray) (n : Int) : (cutB s n).data.toList = s.data.toList.take (Ru.cutP n.toNat s.data.toList) := by
  unfold cutB
  rw [ByteArray.data_extract, Array.toList_extract, List.extract_eq_take_drop]; simp
theorem cutB_join (a b : ByteArray) (h : Ru.vld a.data.toList = true) : cutB (a ++ b) (Ru.cnt a.data.toList : Nat) = a := by
  apply bytes_eq
  rw [cutB_list, Int.toNat_natCast, join_list, Ru.cut_front _ _ h, List.take_left]
theorem encode_is (r : Int) (l : List UInt8) (w : World) (h : Lib.encodeRune r = l) : Calls Try.prog 25 #[.int .i32 r] w fun e w' => e = .returned (.string ⟨l.toArray⟩) ∧ w = w' := by
  rw [← h]; exact encode_any r w
def cN (s : ByteArray) : Nat := Ru.cnt s.data.toList
theorem count_c (t : ByteArray) (n : Nat) (w : World) (hs : t.size ≤ maxLen) (h : cN t = n) : Calls Try.prog 18 #[.string t] w fun e w' => e = .returned (.int .i64 n) ∧ Below w.heap.size w w' := count_is t w n hs h
theorem cutB_size (t : ByteArray) (n : Int) : (cutB t n).size = Ru.cutP n.toNat t.data.toList := by
  have := Ru.cutP_le n.toNat t.data.toList
  rw [Array.length_toList] at this
  unfold cutB; rw [ByteArray.size_extract]
  have e : t.data.size = t.size := rfl
  omega
theorem cutB_front (t : ByteArray) (n : Int) : t.extract 0 (cutB t n).size = cutB t n := by rw [cutB_size]; rfl
theorem cutB_cnt (t : ByteArray) (n : Int) : cN (cutB t n) = min n.toNat (cN t) := by
  unfold cN; rw [cutB_list, Ru.cnt_cut]
theorem cutB_rest (t : ByteArray) (n : Int) : cN (cutB t n) + cN (t.extract (cutB t n).size t.size) = cN t := by
  rw [cutB_cnt]
  unfold cN; rw [ext_list, cutB_size]; unfold rest
  rw [Ru.cnt_rest]; omega
theorem below_step {a W V : World} (hb : Below W.heap.size W V) (h : Below a.heap.size a W) : Below a.heap.size a V := h.trans (hb.mono h.size)
end Go.Proofs.Ytplogecejioolaa
