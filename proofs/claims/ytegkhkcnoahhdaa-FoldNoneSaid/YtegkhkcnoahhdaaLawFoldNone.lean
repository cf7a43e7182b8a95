/-
  Where there is no fold, nothing is told, and nothing is done. There are no conditions.
-/
import Derived.Test.YtegkhkcnoahhdaaRows
import Derived.Test.YtegkhkcnoahhdaaL7Begun
import Derived.Test.YtegkhkcnoahhdaaL7Nil
import Derived.Test.YtegkhkcnoahhdaaLawKit
import Derived.WalkKit
import Derived.ProofKit
import Derived.OpenShut
import Derived.ShutString
set_option linter.unusedSimpArgs false
set_option linter.unusedVariables false
namespace Go.Proofs.Ytegkhkcnoahhdaa.foldNone
open Go.ChangeShapes Go.WideShapes Go.ChangeAt Go.RowKit
open Go.ChangeMaps (open_string shut_string)
set_option linter.unusedVariables false

theorem own : ownKnob Try.prog.godebug = none := by kernel_rfl

set_option maxRecDepth 100000 in
set_option maxHeartbeats 8000000 in
theorem walk (w : World)  :
    Calls Try.prog 4 #[] w fun e w' => e = .returned (.bool true) ∧ Below w.heap.size w w' := by
  have hb := Below.refl w.heap.size w
  go_enter Try.func4, Try.ntmps4
  go_wp2_with fail
  refine (fnext_nilz 1 1 _ _).mono ?_
  rintro e k1 ⟨rfl, h⟩
  have hk : Below w.heap.size w k1 := HK9 h
  have hz := h.size
  try simp at hz
  replace hb : Below w.heap.size w k1 := hb.trans (hk.mono hb.size)
  clear h hk
  go_wp2_with fail
  refine (ftold_nilz 1 _).mono ?_
  rintro e k2 ⟨rfl, h⟩
  have hk : Below k1.heap.size k1 k2 := HK9 h
  have hz := h.size
  try simp at hz
  replace hb : Below w.heap.size w k2 := hb.trans (hk.mono hb.size)
  clear h hk
  go_wp2_with fail
  refine (fdec_no none 0 0 w.heap.size [] _ (d_byt_nil _ _) (by have := hb.size; first | omega | (simp; omega)) (by decide) (by decide +kernel)).mono ?_
  rintro e k3 ⟨rfl, h⟩
  have hk : Below k2.heap.size k2 k3 := HK9 h
  have hz := h.size
  try simp at hz
  replace hb : Below w.heap.size w k3 := hb.trans (hk.mono hb.size)
  clear h hk
  go_wp2_with fail
  refine (begun7_any _).mono ?_
  rintro e k4 ⟨rfl, h⟩
  have hk : Below k3.heap.size k3 k4 := HK9 h
  have hz := h.size
  try simp at hz
  replace hb : Below w.heap.size w k4 := hb.trans (hk.mono hb.size)
  clear h hk
  go_wp2_with fail
  refine (fplace_nil _).mono ?_
  rintro e k90 ⟨rfl, hk90⟩
  rw [hk90]
  clear hk90 k90
  go_wp2_with fail
  refine (fLast_nil 1 _).mono ?_
  rintro e k5 ⟨rfl, h⟩
  have hk : Below k4.heap.size k4 k5 := HK9 h
  have hz := h.size
  try simp at hz
  replace hb : Below w.heap.size w k5 := hb.trans (hk.mono hb.size)
  clear h hk
  go_wp2_with fail
  refine (fnew_is w.heap.size _ (by have := hb.size; first | omega | exact Nat.le_refl _ | (simp; omega))).mono ?_
  rintro e k6 ⟨rfl, hd9, h⟩
  have hk : Below k5.heap.size k5 k6 := HK9 h
  have hz := h.size
  try simp at hz
  replace hb : Below w.heap.size w k6 := hb.trans (hk.mono hb.size)
  clear h hk
  have HA := Lib.hid hd9; clear hd9
  have hltHA : k5.heap.size < k6.heap.size := HA.out.lt
  go_wp2_with fail
  refine (fnew_is w.heap.size _ (by have := hb.size; first | omega | exact Nat.le_refl _ | (simp; omega))).mono ?_
  rintro e k7 ⟨rfl, hd9, h⟩
  have hk : Below k6.heap.size k6 k7 := HK9 h
  have hz := h.size
  try simp at hz
  replace HA := Lib.hid (Fd.below HA.out hk)
  replace hb : Below w.heap.size w k7 := hb.trans (hk.mono hb.size)
  clear h hk
  have HB := Lib.hid hd9; clear hd9
  have hltHB : k6.heap.size < k7.heap.size := HB.out.lt
  go_wp2_with fail
  refine (feq_same w.heap.size w.heap.size _ _ fo0 _ (Fd.below HA.out BL9) (Fd.below HB.out BL9)).mono ?_
  rintro e k8 ⟨rfl, h⟩
  have hk : Below k7.heap.size k7 k8 := HK9 h
  have hz := h.size
  try simp at hz
  replace HA := Lib.hid (Fd.below HA.out hk)
  replace HB := Lib.hid (Fd.below HB.out hk)
  replace hb : Below w.heap.size w k8 := hb.trans (hk.mono hb.size)
  clear h hk
  go_wp2
  go_ret
  exact ⟨rfl, by first | exact hb | exact hb.alloc hb.size _⟩

set_option maxRecDepth 100000 in
theorem lifted (os : Os) (started : os.Started) (H : Type) (enc : TypeId × Value → H) :
    ReturnsInHanded {} Try.checked os 4 .any (Rows.foldNoneSpec.pre6 enc Try.prog Try.f4 Rows.foldNoneRow.domain false) (Rows.foldNoneSpec.post enc Try.prog Try.f4 false true false false) := by
  refine returnsInHanded_of_change (C := Try.checked) own started (by kernel_rfl) Try.func4
    (ChangeSpec.witness6 (enc := enc) (C := Try.checked) false ⟨#[], #[], []⟩ 8 (by kernel_rfl) (by kernel_rfl) (by kernel_rfl) (by kernel_rfl)) ?_
  intro W base args ds gs before hval0 hW hcnd _
  have hval : ∀ (j : Nat) t v, Try.f4.params[j]? = some t → args[j]? = some v → Value.okWide Try.prog W .any base t v := hval0
  have hW' := hW
  obtain ⟨p, q, hA0, hV, rfl, hfz, hnd⟩ := hW
  have hA : DataW.TrodAll enc Try.prog W 0 (fun _ => true) true Try.f4.params.toList args.toList ds p := hA0
  have hA1 := hA
  rw [Try.params4] at hA hval
  obtain ⟨hargs, rfl, rfl⟩ := trodAll_nil hA
  obtain rfl : args = #[] := by cases args; simp_all
  obtain ⟨rfl, rfl⟩ := trodVars_none hV
  clear hA0 hval0
  simp only [List.append_nil] at hW'
  try simp only [List.append_nil] at hA1
  refine (walk W ).mono fun e W' ⟨he, hg⟩ => ?_
  subst he
  exact ⟨_, rfl, law_end Try.laidOut (by kernel_rfl) hW' hA1 hg rfl rfl rfl (trodAll_mk1 (shut_bool Try.underlying4 _))⟩

theorem over : Rows.foldNoneRow.holds Try.pinned (OpenSpec.ofChange Rows.foldNoneSpec) :=
  OpenClaim.holds_of_wide 4 Try.f4 rfl rfl rfl rfl rfl rfl rfl ⟨rfl, rfl, rfl, rfl, rfl⟩ rfl rfl rfl rfl rfl (by kernel_rfl) Try.func4 (by kernel_rfl)
    (of_decide_eq_true (by kernel_rfl)) (by unfold Func.isWrapper; first | (rw [if_pos (by decide +kernel)]; kernel_rfl) | (rw [if_neg (by decide +kernel)]; exact ⟨rfl, rfl⟩))
    (fun os started H enc _ => lifted os started H enc)

/-- the statement -/
theorem proved : Rows.FoldNoneSaid := over
#print axioms proved
end Go.Proofs.Ytegkhkcnoahhdaa.foldNone
