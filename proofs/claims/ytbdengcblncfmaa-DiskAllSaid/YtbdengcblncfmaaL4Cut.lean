/-
  What the statements cut their values and bytes to: some value of the same kind and number with a text of at most 220 bytes; the first bytes.
  There are no conditions beyond those that each lemma names.
-/
import Derived.Test.YtbdengcblncfmaaReEq
import Derived.Test.YtbdengcblncfmaaWBytes
import Derived.Test.YtbdengcblncfmaaL1Cut
set_option linter.unusedSimpArgs false
set_option linter.unusedVariables false
namespace Go.Proofs.Ytbdengcblncfmaa
open Go.RowKit
set_option maxRecDepth 100000

/-- a value whose text has been cut -/
def CutR (r : Raw) (w : World) (e : Ending) (w' : World) : Prop := ∃ t : ByteArray, (t.size : Int) ≤ 220 ∧ e = .returned (Raw.mk r.kind r.n t).val ∧ Below w.heap.size w w'
/-- the first bytes -/
def Sh (B : Nat) (l : List UInt8) (m : Nat) (w : World) (e : Ending) (w' : World) : Prop := ∃ A c, e = .returned (.slice A (l.take m).length c) ∧ Byt w B (.slice A (l.take m).length c) (l.take m) ∧ w = w'
set_option maxRecDepth 100000 in
set_option maxHeartbeats 1000000 in
theorem short_any (A : Option Addr) (n c B m : Nat) (l : List UInt8) (w : World) (h : Byt w B (.slice A n c) l) (hm : m ≤ 1000000) :
    Calls Try.prog 13 #[.slice A n c, .int .i64 m] w (Sh B l m w) := by
  obtain ⟨A', c', hv, hc, hcell⟩ := id h
  injection hv with e1 e2 e3; subst e1; subst e3; subst e2
  have HB := Lib.hid h; clear h
  have HC := Lib.hid hcell; clear hcell
  by_cases hlt : m < l.length
  · obtain ⟨g, o, rfl, hg, hcs⟩ := HC.out (by omega)
    go_enter Try.func13, Try.ntmps13
    go_wp2
    go_ret
    have e : (l.take m).length = m := by rw [List.length_take]; omega
    refine ⟨some ⟨g, o, none⟩, c, by rw [e]; rfl, ?_, rfl⟩
    refine ⟨_, c, rfl, by omega, fun hn => ⟨g, o, rfl, hg, fun k hk => ?_⟩⟩
    rw [e] at hk
    rw [hcs k (by omega)]; simp
  · go_enter Try.func13, Try.ntmps13
    go_wp2
    go_ret
    have e : l.take m = l := List.take_of_length_le (by omega)
    refine ⟨A, c, by rw [e]; rfl, ?_, rfl⟩
    rw [e]; exact HB.out
end Go.Proofs.Ytbdengcblncfmaa
