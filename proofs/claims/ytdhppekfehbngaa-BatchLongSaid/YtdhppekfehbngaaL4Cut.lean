/-
  A function returns what the plain functions say: L1Cut.
-/
import Derived.Test.YtdhppekfehbngaaProg
import Derived.Test.YtdhppekfehbngaaWBase
import Derived.Test.YtdhppekfehbngaaReEq
import Derived.Test.YtdhppekfehbngaaWBytes
set_option linter.unusedSimpArgs false
set_option linter.unusedVariables false
namespace Go.Proofs.Ytdhppekfehbngaa
open Go.RowKit
set_option maxRecDepth 100000

theorem lcut_any (s : ByteArray) (n : Int) (w : World) (h0 : 0 ≤ n) (h1 : n ≤ 1000000) :
    Calls Try.prog 22 #[.string s, .int .i64 n] w (Some n w) := by
  obtain ⟨k, rfl⟩ := Int.eq_ofNat_of_zero_le h0
  by_cases h : k < s.size
  · go_enter Try.func22, Try.ntmps22
    go_wp2
    go_ret
    exact ⟨_, by rw [ByteArray.size_extract]; omega, rfl, rfl⟩
  · go_enter Try.func22, Try.ntmps22
    go_wp2
    go_ret
    exact ⟨s, by omega, rfl, rfl⟩
/-- the first bytes of a text -/
def cutS (s : ByteArray) (n : Nat) : ByteArray := if n < s.size then s.extract 0 n else s
theorem cutS_size (s : ByteArray) (n : Nat) : (cutS s n).size ≤ n := by
  unfold cutS; split
  · rw [ByteArray.size_extract]; omega
  · omega
theorem lcut_to (s t : ByteArray) (k : Nat) (w : World) (h1 : k ≤ 1000000) (ht : cutS s k = t) :
    Calls Try.prog 22 #[.string s, .int .i64 k] w fun e w' => e = .returned (.string t) ∧ w = w' := by
  subst ht
  by_cases h : k < s.size
  · have hc : cutS s k = s.extract 0 k := if_pos h
    have HC := Lib.hid hc; clear hc
    go_enter Try.func22, Try.ntmps22
    go_wp2
    go_ret
    exact ⟨by rw [HC.out]; rfl, rfl⟩
  · have hc : cutS s k = s := if_neg h
    have HC := Lib.hid hc; clear hc
    go_enter Try.func22, Try.ntmps22
    go_wp2
    go_ret
    exact ⟨by rw [HC.out]; rfl, rfl⟩
end Go.Proofs.Ytdhppekfehbngaa
/-
  What the statements cut their values and bytes to: some value of the same kind and number with a text of at most 220 bytes; the first bytes.
  There are no conditions beyond those that each lemma names.
-/
namespace Go.Proofs.Ytdhppekfehbngaa
open Go.RowKit
set_option maxRecDepth 100000

/-- a value whose text has been cut -/
def CutR (r : Raw) (w : World) (e : Ending) (w' : World) : Prop := ∃ t : ByteArray, (t.size : Int) ≤ 220 ∧ e = .returned (Raw.mk r.kind r.n t).val ∧ Below w.heap.size w w'
set_option maxRecDepth 100000 in
set_option maxHeartbeats 1000000 in
theorem l4cut_any (r : Raw) (w : World) : Calls Try.prog 23 #[r.val] w (CutR r w) := by
  obtain ⟨k, n, s⟩ := r
  unfold Raw.val
  go_enter Try.func23, Try.ntmps23
  go_wp2_with fail
  refine (lcut_any _ _ _ (by omega) (by omega)).mono ?_
  rintro e w' ⟨t, ht, rfl, rfl⟩
  go_wp2
  exact bodyPost_ret (v := (Raw.mk k n t).val) (by simp [results, Try.results23, go_sem, Raw.val]) rfl ⟨t, ht, rfl, below_two _ _ _⟩
set_option maxHeartbeats 400000 in
theorem l4cut_to (u : Value) (k n : Int) (s t : ByteArray) (w : World) (hu : u = (Raw.mk k n s).val) (ht : cutS s 220 = t) :
    Calls Try.prog 23 #[u] w fun e w' => e = .returned (.agg #[.int .i64 k, .int .i64 n, .string t]) ∧ Below w.heap.size w w' := by
  subst hu
  unfold Raw.val
  have HT := Lib.hid ht; clear ht
  go_enter Try.func23, Try.ntmps23
  go_wp2_with fail
  refine (lcut_to s t 220 _ (by decide) HT.out).mono ?_
  rintro e w' ⟨rfl, rfl⟩
  go_wp2
  exact bodyPost_ret (v := .agg #[.int .i64 k, .int .i64 n, .string t]) (by simp [results, Try.results23, go_sem]) rfl ⟨rfl, below_two _ _ _⟩
/-- the first bytes -/
def Sh (B : Nat) (l : List UInt8) (m : Nat) (w : World) (e : Ending) (w' : World) : Prop := ∃ A c, e = .returned (.slice A (l.take m).length c) ∧ Byt w B (.slice A (l.take m).length c) (l.take m) ∧ w = w'
set_option maxRecDepth 100000 in
set_option maxHeartbeats 1000000 in
theorem short_any (A : Option Addr) (n c B m : Nat) (l : List UInt8) (w : World) (h : Byt w B (.slice A n c) l) (hm : m ≤ 1000000) :
    Calls Try.prog 21 #[.slice A n c, .int .i64 m] w (Sh B l m w) := by
  obtain ⟨A', c', hv, hc, hcell⟩ := id h
  injection hv with e1 e2 e3; subst e1; subst e3; subst e2
  have HB := Lib.hid h; clear h
  have HC := Lib.hid hcell; clear hcell
  by_cases hlt : m < l.length
  · obtain ⟨g, o, rfl, hg, hcs⟩ := HC.out (by omega)
    go_enter Try.func21, Try.ntmps21
    go_wp2
    go_ret
    have e : (l.take m).length = m := by rw [List.length_take]; omega
    refine ⟨some ⟨g, o, none⟩, c, by rw [e]; rfl, ?_, rfl⟩
    refine ⟨_, c, rfl, by omega, fun hn => ⟨g, o, rfl, hg, fun k hk => ?_⟩⟩
    rw [e] at hk
    rw [hcs k (by omega)]; simp
  · go_enter Try.func21, Try.ntmps21
    go_wp2
    go_ret
    have e : l.take m = l := List.take_of_length_le (by omega)
    refine ⟨A, c, by rw [e]; rfl, ?_, rfl⟩
    rw [e]; exact HB.out
end Go.Proofs.Ytdhppekfehbngaa
