/-
  The zero value is none: no number, no kind, and its MustInt panics; it equals the value made of the zero data alone. There is no input.
-/
import Derived.Test.YtffklbkdmfeimaaRows
import Derived.Test.YtffklbkdmfeimaaL4Begun
import Derived.Test.YtffklbkdmfeimaaL4Cut
import Derived.Test.YtffklbkdmfeimaaVaPlain
import Derived.Test.YtffklbkdmfeimaaLawKit
import Derived.WalkKit
import Derived.ProofKit
import Derived.OpenShut
import Derived.ShutString
namespace Go.Proofs.Ytffklbkdmfeimaa.valueNone
open Go.ChangeShapes Go.WideShapes Go.ChangeAt Go.RowKit
open Go.ChangeMaps (open_string shut_string)
set_option linter.unusedVariables false

theorem own : ownKnob Try.prog.godebug = none := by kernel_rfl

set_option maxRecDepth 100000 in
set_option maxHeartbeats 8000000 in
theorem walk (w : World)  :
    Calls Try.prog 7 #[] w fun e w' => e = .returned (.bool true) ∧ Below w.heap.size w w' := by
  have fk := Try.raw_kind
  have hb := Below.refl w.heap.size w
  go_enter Try.func7, Try.ntmps7
  go_wp2_with fail
  refine (vasInt_is _ .none 0 false _ rfl rfl rfl).mono ?_
  rintro e k1 ⟨rfl, h⟩
  have hk : Below w.heap.size w k1 := by
    refine Below.trans ?_ (h.mono (by first | (simp; done) | (simp; omega) | omega))
    repeat' (first | exact Below.refl _ _ | refine Below.alloc ?_ (by first | (simp; done) | (simp; omega) | omega) _ | refine Below.setCell ?_ (by first | (simp; done) | (simp; omega) | omega) _)
  have hz := h.size
  try simp at hz
  have v : k1.cell? ⟨w.heap.size, 0, none⟩ = some (.nilIface) := (h.cell (p := ⟨w.heap.size, 0, none⟩) (by first | (simp; done) | (simp; omega) | omega)).trans (by go_simp)
  have : w.heap.size < k1.heap.size := by omega
  have hb : Below w.heap.size w k1 := hb.trans (hk.mono hb.size)
  clear h hk
  go_wp2_with fail
  refine (must_is _ .none 0 false _ rfl rfl rfl).mono ?_
  rintro e k2 ⟨rfl, h⟩
  have hk : Below k1.heap.size k1 k2 := by
    refine Below.trans ?_ (h.mono (by first | (simp; done) | (simp; omega) | omega))
    repeat' (first | exact Below.refl _ _ | refine Below.alloc ?_ (by first | (simp; done) | (simp; omega) | omega) _ | refine Below.setCell ?_ (by first | (simp; done) | (simp; omega) | omega) _)
  have v : k2.cell? ⟨w.heap.size, 0, none⟩ = some (.nilIface) := (hk.cell (p := ⟨w.heap.size, 0, none⟩) (by first | (simp; done) | (simp; omega) | omega)).trans v
  have hz := h.size
  try simp at hz
  have : w.heap.size < k2.heap.size := by omega
  have hb : Below w.heap.size w k2 := hb.trans (hk.mono hb.size)
  clear h hk
  go_wp2_with fail
  refine (vof_is _ ⟨1, 0, ⟨#[]⟩⟩ (.num 0) (.iface 51 (.int .i64 0)) 0 _ rfl (Nat.zero_le _) (of_num 0) rfl (okE_num 0)).mono ?_
  rintro e k3 ⟨rfl, h⟩
  have hk : Below k2.heap.size k2 k3 := by
    refine Below.trans ?_ (h.mono (by first | (simp; done) | (simp; omega) | omega))
    repeat' (first | exact Below.refl _ _ | refine Below.alloc ?_ (by first | (simp; done) | (simp; omega) | omega) _ | refine Below.setCell ?_ (by first | (simp; done) | (simp; omega) | omega) _)
  have v : k3.cell? ⟨w.heap.size, 0, none⟩ = some (.nilIface) := (hk.cell (p := ⟨w.heap.size, 0, none⟩) (by first | (simp; done) | (simp; omega) | omega)).trans v
  have hz := h.size
  try simp at hz
  have : w.heap.size < k3.heap.size := by omega
  have hb : Below w.heap.size w k3 := hb.trans (hk.mono hb.size)
  clear h hk
  go_wp2_with fail
  refine (vof_is _ ⟨0, 0, ⟨#[]⟩⟩ .none .nilIface 0 _ rfl (by decide) (by decide) rfl (by decide)).mono ?_
  rintro e k4 ⟨rfl, h⟩
  have hk : Below k3.heap.size k3 k4 := by
    refine Below.trans ?_ (h.mono (by first | (simp; done) | (simp; omega) | omega))
    repeat' (first | exact Below.refl _ _ | refine Below.alloc ?_ (by first | (simp; done) | (simp; omega) | omega) _ | refine Below.setCell ?_ (by first | (simp; done) | (simp; omega) | omega) _)
  have v : k4.cell? ⟨w.heap.size, 0, none⟩ = some (.nilIface) := (hk.cell (p := ⟨w.heap.size, 0, none⟩) (by first | (simp; done) | (simp; omega) | omega)).trans v
  have hz := h.size
  try simp at hz
  have u : k4.cell? ⟨k3.heap.size, 0, none⟩ = some (.iface 51 (.int .i64 0)) := (h.cell (p := ⟨k3.heap.size, 0, none⟩) (by first | (simp; done) | (simp; omega) | omega)).trans (by go_simp)
  have : w.heap.size < k4.heap.size := by omega
  have : k3.heap.size < k4.heap.size := by omega
  have hb : Below w.heap.size w k4 := hb.trans (hk.mono hb.size)
  clear h hk
  go_wp2_with fail
  refine (begun4_any _).mono ?_
  rintro e k5 ⟨rfl, h⟩
  have hk : Below k4.heap.size k4 k5 := by
    refine Below.trans ?_ (h.mono (by first | (simp; done) | (simp; omega) | omega))
    repeat' (first | exact Below.refl _ _ | refine Below.alloc ?_ (by first | (simp; done) | (simp; omega) | omega) _ | refine Below.setCell ?_ (by first | (simp; done) | (simp; omega) | omega) _)
  have v : k5.cell? ⟨w.heap.size, 0, none⟩ = some (.nilIface) := (hk.cell (p := ⟨w.heap.size, 0, none⟩) (by first | (simp; done) | (simp; omega) | omega)).trans v
  have u : k5.cell? ⟨k3.heap.size, 0, none⟩ = some (.iface 51 (.int .i64 0)) := (hk.cell (p := ⟨k3.heap.size, 0, none⟩) (by first | (simp; done) | (simp; omega) | omega)).trans u
  have hz := h.size
  try simp at hz
  have x : k5.cell? ⟨k4.heap.size, 0, none⟩ = some (.nilIface) := (h.cell (p := ⟨k4.heap.size, 0, none⟩) (by first | (simp; done) | (simp; omega) | omega)).trans (by go_simp)
  have : w.heap.size < k5.heap.size := by omega
  have : k3.heap.size < k5.heap.size := by omega
  have : k4.heap.size < k5.heap.size := by omega
  have hb : Below w.heap.size w k5 := hb.trans (hk.mono hb.size)
  clear h hk
  go_wp2_with fail
  refine (vkind_is _ .none 0 _ rfl rfl).mono ?_
  rintro e k6 ⟨rfl, h⟩
  have hk : Below k5.heap.size k5 k6 := by
    refine Below.trans ?_ (h.mono (by first | (simp; done) | (simp; omega) | omega))
    repeat' (first | exact Below.refl _ _ | refine Below.alloc ?_ (by first | (simp; done) | (simp; omega) | omega) _ | refine Below.setCell ?_ (by first | (simp; done) | (simp; omega) | omega) _)
  have v : k6.cell? ⟨w.heap.size, 0, none⟩ = some (.nilIface) := (hk.cell (p := ⟨w.heap.size, 0, none⟩) (by first | (simp; done) | (simp; omega) | omega)).trans v
  have u : k6.cell? ⟨k3.heap.size, 0, none⟩ = some (.iface 51 (.int .i64 0)) := (hk.cell (p := ⟨k3.heap.size, 0, none⟩) (by first | (simp; done) | (simp; omega) | omega)).trans u
  have x : k6.cell? ⟨k4.heap.size, 0, none⟩ = some (.nilIface) := (hk.cell (p := ⟨k4.heap.size, 0, none⟩) (by first | (simp; done) | (simp; omega) | omega)).trans x
  have hz := h.size
  try simp at hz
  have : w.heap.size < k6.heap.size := by omega
  have : k3.heap.size < k6.heap.size := by omega
  have : k4.heap.size < k6.heap.size := by omega
  have hb : Below w.heap.size w k6 := hb.trans (hk.mono hb.size)
  clear h hk
  go_wp2_with fail
  refine (vraw_is _ .none 0 0 ⟨#[]⟩ _ rfl rfl (Nat.zero_le _)).mono ?_
  rintro e k7 ⟨rfl, h⟩
  have hk : Below k6.heap.size k6 k7 := by
    refine Below.trans ?_ (h.mono (by first | (simp; done) | (simp; omega) | omega))
    repeat' (first | exact Below.refl _ _ | refine Below.alloc ?_ (by first | (simp; done) | (simp; omega) | omega) _ | refine Below.setCell ?_ (by first | (simp; done) | (simp; omega) | omega) _)
  have v : k7.cell? ⟨w.heap.size, 0, none⟩ = some (.nilIface) := (hk.cell (p := ⟨w.heap.size, 0, none⟩) (by first | (simp; done) | (simp; omega) | omega)).trans v
  have u : k7.cell? ⟨k3.heap.size, 0, none⟩ = some (.iface 51 (.int .i64 0)) := (hk.cell (p := ⟨k3.heap.size, 0, none⟩) (by first | (simp; done) | (simp; omega) | omega)).trans u
  have x : k7.cell? ⟨k4.heap.size, 0, none⟩ = some (.nilIface) := (hk.cell (p := ⟨k4.heap.size, 0, none⟩) (by first | (simp; done) | (simp; omega) | omega)).trans x
  have hz := h.size
  try simp at hz
  have : w.heap.size < k7.heap.size := by omega
  have : k3.heap.size < k7.heap.size := by omega
  have : k4.heap.size < k7.heap.size := by omega
  have hb : Below w.heap.size w k7 := hb.trans (hk.mono hb.size)
  clear h hk
  go_wp2_with fail
  refine (veq_is _ _ .none .none true _ rfl rfl rfl).mono ?_
  rintro e k8 ⟨rfl, h⟩
  have hk : Below k7.heap.size k7 k8 := by
    refine Below.trans ?_ (h.mono (by first | (simp; done) | (simp; omega) | omega))
    repeat' (first | exact Below.refl _ _ | refine Below.alloc ?_ (by first | (simp; done) | (simp; omega) | omega) _ | refine Below.setCell ?_ (by first | (simp; done) | (simp; omega) | omega) _)
  have v : k8.cell? ⟨w.heap.size, 0, none⟩ = some (.nilIface) := (hk.cell (p := ⟨w.heap.size, 0, none⟩) (by first | (simp; done) | (simp; omega) | omega)).trans v
  have u : k8.cell? ⟨k3.heap.size, 0, none⟩ = some (.iface 51 (.int .i64 0)) := (hk.cell (p := ⟨k3.heap.size, 0, none⟩) (by first | (simp; done) | (simp; omega) | omega)).trans u
  have x : k8.cell? ⟨k4.heap.size, 0, none⟩ = some (.nilIface) := (hk.cell (p := ⟨k4.heap.size, 0, none⟩) (by first | (simp; done) | (simp; omega) | omega)).trans x
  have hz := h.size
  try simp at hz
  have : w.heap.size < k8.heap.size := by omega
  have : k3.heap.size < k8.heap.size := by omega
  have : k4.heap.size < k8.heap.size := by omega
  have hb : Below w.heap.size w k8 := hb.trans (hk.mono hb.size)
  clear h hk
  go_wp2_with fail
  refine (veq_is _ _ .none (.num 0) false _ rfl rfl rfl).mono ?_
  rintro e k9 ⟨rfl, h⟩
  have hk : Below k8.heap.size k8 k9 := by
    refine Below.trans ?_ (h.mono (by first | (simp; done) | (simp; omega) | omega))
    repeat' (first | exact Below.refl _ _ | refine Below.alloc ?_ (by first | (simp; done) | (simp; omega) | omega) _ | refine Below.setCell ?_ (by first | (simp; done) | (simp; omega) | omega) _)
  have v : k9.cell? ⟨w.heap.size, 0, none⟩ = some (.nilIface) := (hk.cell (p := ⟨w.heap.size, 0, none⟩) (by first | (simp; done) | (simp; omega) | omega)).trans v
  have u : k9.cell? ⟨k3.heap.size, 0, none⟩ = some (.iface 51 (.int .i64 0)) := (hk.cell (p := ⟨k3.heap.size, 0, none⟩) (by first | (simp; done) | (simp; omega) | omega)).trans u
  have x : k9.cell? ⟨k4.heap.size, 0, none⟩ = some (.nilIface) := (hk.cell (p := ⟨k4.heap.size, 0, none⟩) (by first | (simp; done) | (simp; omega) | omega)).trans x
  have hz := h.size
  try simp at hz
  have : w.heap.size < k9.heap.size := by omega
  have : k3.heap.size < k9.heap.size := by omega
  have : k4.heap.size < k9.heap.size := by omega
  have hb : Below w.heap.size w k9 := hb.trans (hk.mono hb.size)
  clear h hk
  go_wp2_with fail
  refine (veq_is _ _ (.num 0) .none false _ rfl rfl rfl).mono ?_
  rintro e k10 ⟨rfl, h⟩
  have hk : Below k9.heap.size k9 k10 := by
    refine Below.trans ?_ (h.mono (by first | (simp; done) | (simp; omega) | omega))
    repeat' (first | exact Below.refl _ _ | refine Below.alloc ?_ (by first | (simp; done) | (simp; omega) | omega) _ | refine Below.setCell ?_ (by first | (simp; done) | (simp; omega) | omega) _)
  have v : k10.cell? ⟨w.heap.size, 0, none⟩ = some (.nilIface) := (hk.cell (p := ⟨w.heap.size, 0, none⟩) (by first | (simp; done) | (simp; omega) | omega)).trans v
  have u : k10.cell? ⟨k3.heap.size, 0, none⟩ = some (.iface 51 (.int .i64 0)) := (hk.cell (p := ⟨k3.heap.size, 0, none⟩) (by first | (simp; done) | (simp; omega) | omega)).trans u
  have x : k10.cell? ⟨k4.heap.size, 0, none⟩ = some (.nilIface) := (hk.cell (p := ⟨k4.heap.size, 0, none⟩) (by first | (simp; done) | (simp; omega) | omega)).trans x
  have hz := h.size
  try simp at hz
  have : w.heap.size < k10.heap.size := by omega
  have : k3.heap.size < k10.heap.size := by omega
  have : k4.heap.size < k10.heap.size := by omega
  have hb : Below w.heap.size w k10 := hb.trans (hk.mono hb.size)
  clear h hk
  go_wp2
  go_ret
  exact ⟨rfl, hb⟩

set_option maxRecDepth 100000 in
theorem lifted (os : Os) (started : os.Started) (H : Type) (enc : TypeId × Value → H) :
    ReturnsInHanded {} Try.checked os 7 .any (Rows.valueNoneSpec.pre6 enc Try.prog Try.f7 Rows.valueNoneRow.domain false) (Rows.valueNoneSpec.post enc Try.prog Try.f7 false true false false) := by
  refine returnsInHanded_of_change (C := Try.checked) own started (by kernel_rfl) Try.func7
    (ChangeSpec.witness6 (enc := enc) (C := Try.checked) false ⟨#[], #[], []⟩ 8 (by kernel_rfl) (by kernel_rfl) (by kernel_rfl) (by kernel_rfl)) ?_
  intro W base args ds gs before hval0 hW hcnd _
  have hval : ∀ (j : Nat) t v, Try.f7.params[j]? = some t → args[j]? = some v → Value.okWide Try.prog W .any base t v := hval0
  have hW' := hW
  obtain ⟨p, q, hA0, hV, rfl, hfz, hnd⟩ := hW
  have hA : DataW.TrodAll enc Try.prog W 0 (fun _ => true) true Try.f7.params.toList args.toList ds p := hA0
  have hA1 := hA
  rw [Try.params7] at hA hval
  obtain ⟨hargs, rfl, rfl⟩ := trodAll_nil hA
  obtain rfl : args = #[] := by cases args; simp_all
  obtain ⟨rfl, rfl⟩ := trodVars_none hV
  clear hA0 hval0
  simp only [List.append_nil] at hW'
  try simp only [List.append_nil] at hA1
  refine (walk W ).mono fun e W' ⟨he, hg⟩ => ?_
  subst he
  exact ⟨_, rfl, law_end Try.laidOut (by kernel_rfl) hW' hA1 hg rfl rfl rfl (trodAll_mk1 (shut_bool Try.underlying4 _))⟩

theorem over : Rows.valueNoneRow.holds Try.pinned (OpenSpec.ofChange Rows.valueNoneSpec) :=
  OpenClaim.holds_of_wide 7 Try.f7 rfl rfl rfl rfl rfl rfl rfl ⟨rfl, rfl, rfl, rfl, rfl⟩ rfl rfl rfl rfl rfl (by kernel_rfl) Try.func7 (by kernel_rfl)
    (of_decide_eq_true (by kernel_rfl)) (by unfold Func.isWrapper; first | (rw [if_pos (by decide +kernel)]; kernel_rfl) | (rw [if_neg (by decide +kernel)]; exact ⟨rfl, rfl⟩))
    (fun os started H enc _ => lifted os started H enc)

/-- the statement -/
theorem proved : Rows.ValueNoneSaid := over
#print axioms proved
end Go.Proofs.Ytffklbkdmfeimaa.valueNone
