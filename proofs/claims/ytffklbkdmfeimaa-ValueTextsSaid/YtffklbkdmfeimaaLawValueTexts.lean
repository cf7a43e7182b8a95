/-
  A text of up to 200 bytes is a value, a longer one is none. There are no conditions.
-/
import Derived.Test.YtffklbkdmfeimaaRows
import Derived.Test.YtffklbkdmfeimaaL4Begun
import Derived.Test.YtffklbkdmfeimaaL4Cut
import Derived.Test.YtffklbkdmfeimaaVaPlain
import Derived.Test.YtffklbkdmfeimaaL4Text
import Derived.Test.YtffklbkdmfeimaaLawKit
import Derived.WalkKit
import Derived.ProofKit
import Derived.OpenShut
import Derived.ShutString
namespace Go.Proofs.Ytffklbkdmfeimaa.valueTexts
open Go.ChangeShapes Go.WideShapes Go.ChangeAt Go.RowKit
open Go.ChangeMaps (open_string shut_string)
set_option linter.unusedVariables false

theorem own : ownKnob Try.prog.godebug = none := by kernel_rfl

set_option maxRecDepth 100000 in
set_option maxHeartbeats 8000000 in
theorem walk (w : World) (a0 : Int) (w0 : (Lit.int .i64 a0).wf = true) :
    Calls Try.prog 9 #[.int .i64 a0] w fun e w' => e = .returned (.bool true) ∧ Below w.heap.size w w' := by
  have hn := wf_i64 w0
  have hb := Below.refl w.heap.size w
  have fs := Try.raw_s
  by_cases hlo : a0 < 0
  · go_enter Try.func9, Try.ntmps9
    go_wp2_with fail
    refine (begun4_any _).mono ?_
    rintro e k1 ⟨rfl, h⟩
    have hk : Below w.heap.size w k1 := by
      refine Below.trans ?_ (h.mono (by first | (simp; done) | (simp; omega) | omega))
      repeat' (first | exact Below.refl _ _ | refine Below.alloc ?_ (by first | (simp; done) | (simp; omega) | omega) _ | refine Below.setCell ?_ (by first | (simp; done) | (simp; omega) | omega) _)
    have hz := h.size
    try simp at hz
    replace hb : Below w.heap.size w k1 := hb.trans (hk.mono hb.size)
    clear h hk
    go_wp2
    go_ret
    exact ⟨rfl, by first | exact hb | exact hb.alloc hb.size _⟩
  by_cases hhi : 250 < a0
  · go_enter Try.func9, Try.ntmps9
    go_wp2_with fail
    refine (begun4_any _).mono ?_
    rintro e k1 ⟨rfl, h⟩
    have hk : Below w.heap.size w k1 := by
      refine Below.trans ?_ (h.mono (by first | (simp; done) | (simp; omega) | omega))
      repeat' (first | exact Below.refl _ _ | refine Below.alloc ?_ (by first | (simp; done) | (simp; omega) | omega) _ | refine Below.setCell ?_ (by first | (simp; done) | (simp; omega) | omega) _)
    have hz := h.size
    try simp at hz
    replace hb : Below w.heap.size w k1 := hb.trans (hk.mono hb.size)
    clear h hk
    go_wp2
    go_ret
    exact ⟨rfl, by first | exact hb | exact hb.alloc hb.size _⟩
  obtain ⟨n, rfl⟩ := Int.eq_ofNat_of_zero_le (show 0 ≤ a0 by omega)
  have hn250 : n ≤ 250 := by omega
  have hmk := make_zer n (by omega)
  have hcv := conv_zer n
  have hsz : (zer n).size ≤ 1000000 := by rw [zer_size]; omega
  by_cases h200 : n ≤ 200
  · have HZ := Lib.hid (zer_some n h200)
    go_enter Try.func9, Try.ntmps9
    go_wp2_with fail
    refine (begun4_any _).mono ?_
    rintro e k1 ⟨rfl, h⟩
    have hk : Below w.heap.size w k1 := by
      refine Below.trans ?_ (h.mono (by first | (simp; done) | (simp; omega) | omega))
      repeat' (first | exact Below.refl _ _ | refine Below.alloc ?_ (by first | (simp; done) | (simp; omega) | omega) _ | refine Below.setCell ?_ (by first | (simp; done) | (simp; omega) | omega) _)
    have hz := h.size
    try simp at hz
    replace hb : Below w.heap.size w k1 := hb.trans (hk.mono hb.size)
    clear h hk
    go_wp2_with fail
    refine (vof_is _ ⟨2, 0, zer n⟩ (.txt (zer n)) (.iface 52 (.string (zer n))) 0 _ rfl hsz HZ.out.1 rfl HZ.out.2).mono ?_
    rintro e k2 ⟨rfl, h⟩
    have hk : Below k1.heap.size k1 k2 := by
      refine Below.trans ?_ (h.mono (by first | (simp; done) | (simp; omega) | omega))
      repeat' (first | exact Below.refl _ _ | refine Below.alloc ?_ (by first | (simp; done) | (simp; omega) | omega) _ | refine Below.setCell ?_ (by first | (simp; done) | (simp; omega) | omega) _)
    have hz := h.size
    try simp at hz
    replace hb : Below w.heap.size w k2 := hb.trans (hk.mono hb.size)
    clear h hk
    go_wp2_with fail
    refine (vof_is _ ⟨2, 0, zer n⟩ (.txt (zer n)) (.iface 52 (.string (zer n))) 0 _ rfl hsz HZ.out.1 rfl HZ.out.2).mono ?_
    rintro e k3 ⟨rfl, h⟩
    have hk : Below k2.heap.size k2 k3 := by
      refine Below.trans ?_ (h.mono (by first | (simp; done) | (simp; omega) | omega))
      repeat' (first | exact Below.refl _ _ | refine Below.alloc ?_ (by first | (simp; done) | (simp; omega) | omega) _ | refine Below.setCell ?_ (by first | (simp; done) | (simp; omega) | omega) _)
    have hz := h.size
    try simp at hz
    have v : k3.cell? ⟨k2.heap.size, 0, none⟩ = some (.iface 52 (.string (zer n))) := (h.cell (p := ⟨k2.heap.size, 0, none⟩) (by first | (simp; done) | (simp; omega) | omega)).trans (by go_simp)
    have : k2.heap.size < k3.heap.size := by omega
    replace hb : Below w.heap.size w k3 := hb.trans (hk.mono hb.size)
    clear h hk
    go_wp2_with fail
    refine (vkind_is _ (.txt (zer n)) 2 _ rfl rfl).mono ?_
    rintro e k4 ⟨rfl, h⟩
    have hk : Below k3.heap.size k3 k4 := by
      refine Below.trans ?_ (h.mono (by first | (simp; done) | (simp; omega) | omega))
      repeat' (first | exact Below.refl _ _ | refine Below.alloc ?_ (by first | (simp; done) | (simp; omega) | omega) _ | refine Below.setCell ?_ (by first | (simp; done) | (simp; omega) | omega) _)
    replace v : k4.cell? ⟨k2.heap.size, 0, none⟩ = some (.iface 52 (.string (zer n))) := (hk.cell (p := ⟨k2.heap.size, 0, none⟩) (by first | (simp; done) | (simp; omega) | omega)).trans v
    have hz := h.size
    try simp at hz
    have x : k4.cell? ⟨k3.heap.size, 0, none⟩ = some (.iface 52 (.string (zer n))) := (h.cell (p := ⟨k3.heap.size, 0, none⟩) (by first | (simp; done) | (simp; omega) | omega)).trans (by go_simp)
    have : k2.heap.size < k4.heap.size := by omega
    have : k3.heap.size < k4.heap.size := by omega
    replace hb : Below w.heap.size w k4 := hb.trans (hk.mono hb.size)
    clear h hk
    go_wp2_with fail
    refine (vraw_is _ (.txt (zer n)) 2 0 (zer n) _ rfl rfl hsz).mono ?_
    rintro e k5 ⟨rfl, h⟩
    have hk : Below k4.heap.size k4 k5 := by
      refine Below.trans ?_ (h.mono (by first | (simp; done) | (simp; omega) | omega))
      repeat' (first | exact Below.refl _ _ | refine Below.alloc ?_ (by first | (simp; done) | (simp; omega) | omega) _ | refine Below.setCell ?_ (by first | (simp; done) | (simp; omega) | omega) _)
    replace v : k5.cell? ⟨k2.heap.size, 0, none⟩ = some (.iface 52 (.string (zer n))) := (hk.cell (p := ⟨k2.heap.size, 0, none⟩) (by first | (simp; done) | (simp; omega) | omega)).trans v
    replace x : k5.cell? ⟨k3.heap.size, 0, none⟩ = some (.iface 52 (.string (zer n))) := (hk.cell (p := ⟨k3.heap.size, 0, none⟩) (by first | (simp; done) | (simp; omega) | omega)).trans x
    have hz := h.size
    try simp at hz
    have : k2.heap.size < k5.heap.size := by omega
    have : k3.heap.size < k5.heap.size := by omega
    replace hb : Below w.heap.size w k5 := hb.trans (hk.mono hb.size)
    clear h hk
    go_wp2_with fail
    refine (veq_is _ _ (.txt (zer n)) (.txt (zer n)) true _ rfl rfl (eqV_self _)).mono ?_
    rintro e k6 ⟨rfl, h⟩
    have hk : Below k5.heap.size k5 k6 := by
      refine Below.trans ?_ (h.mono (by first | (simp; done) | (simp; omega) | omega))
      repeat' (first | exact Below.refl _ _ | refine Below.alloc ?_ (by first | (simp; done) | (simp; omega) | omega) _ | refine Below.setCell ?_ (by first | (simp; done) | (simp; omega) | omega) _)
    replace v : k6.cell? ⟨k2.heap.size, 0, none⟩ = some (.iface 52 (.string (zer n))) := (hk.cell (p := ⟨k2.heap.size, 0, none⟩) (by first | (simp; done) | (simp; omega) | omega)).trans v
    replace x : k6.cell? ⟨k3.heap.size, 0, none⟩ = some (.iface 52 (.string (zer n))) := (hk.cell (p := ⟨k3.heap.size, 0, none⟩) (by first | (simp; done) | (simp; omega) | omega)).trans x
    have hz := h.size
    try simp at hz
    have : k2.heap.size < k6.heap.size := by omega
    have : k3.heap.size < k6.heap.size := by omega
    replace hb : Below w.heap.size w k6 := hb.trans (hk.mono hb.size)
    clear h hk
    go_wp2
    go_ret
    exact ⟨rfl, by first | exact hb | exact hb.alloc hb.size _⟩
  · have HZ := Lib.hid (zer_none n h200)
    go_enter Try.func9, Try.ntmps9
    go_wp2_with fail
    refine (begun4_any _).mono ?_
    rintro e k1 ⟨rfl, h⟩
    have hk : Below w.heap.size w k1 := by
      refine Below.trans ?_ (h.mono (by first | (simp; done) | (simp; omega) | omega))
      repeat' (first | exact Below.refl _ _ | refine Below.alloc ?_ (by first | (simp; done) | (simp; omega) | omega) _ | refine Below.setCell ?_ (by first | (simp; done) | (simp; omega) | omega) _)
    have hz := h.size
    try simp at hz
    replace hb : Below w.heap.size w k1 := hb.trans (hk.mono hb.size)
    clear h hk
    go_wp2_with fail
    refine (vof_is _ ⟨2, 0, zer n⟩ .none .nilIface 1 _ rfl hsz HZ.out.1 rfl HZ.out.2).mono ?_
    rintro e k2 ⟨rfl, h⟩
    have hk : Below k1.heap.size k1 k2 := by
      refine Below.trans ?_ (h.mono (by first | (simp; done) | (simp; omega) | omega))
      repeat' (first | exact Below.refl _ _ | refine Below.alloc ?_ (by first | (simp; done) | (simp; omega) | omega) _ | refine Below.setCell ?_ (by first | (simp; done) | (simp; omega) | omega) _)
    have hz := h.size
    try simp at hz
    replace hb : Below w.heap.size w k2 := hb.trans (hk.mono hb.size)
    clear h hk
    go_wp2_with fail
    refine (vkind_is _ .none 0 _ rfl rfl).mono ?_
    rintro e k3 ⟨rfl, h⟩
    have hk : Below k2.heap.size k2 k3 := by
      refine Below.trans ?_ (h.mono (by first | (simp; done) | (simp; omega) | omega))
      repeat' (first | exact Below.refl _ _ | refine Below.alloc ?_ (by first | (simp; done) | (simp; omega) | omega) _ | refine Below.setCell ?_ (by first | (simp; done) | (simp; omega) | omega) _)
    have hz := h.size
    try simp at hz
    have v : k3.cell? ⟨k2.heap.size, 0, none⟩ = some (.nilIface) := (h.cell (p := ⟨k2.heap.size, 0, none⟩) (by first | (simp; done) | (simp; omega) | omega)).trans (by go_simp)
    have : k2.heap.size < k3.heap.size := by omega
    replace hb : Below w.heap.size w k3 := hb.trans (hk.mono hb.size)
    clear h hk
    go_wp2
    go_ret
    exact ⟨rfl, by first | exact hb | exact hb.alloc hb.size _⟩

set_option maxRecDepth 100000 in
theorem lifted (os : Os) (started : os.Started) (H : Type) (enc : TypeId × Value → H) :
    ReturnsInHanded {} Try.checked os 9 .any (Rows.valueTextsSpec.pre6 enc Try.prog Try.f9 Rows.valueTextsRow.domain false) (Rows.valueTextsSpec.post enc Try.prog Try.f9 false true false false) := by
  refine returnsInHanded_of_change (C := Try.checked) own started (by kernel_rfl) Try.func9
    (ChangeSpec.witness6 (enc := enc) (C := Try.checked) false ⟨#[], #[.int .i64 0], []⟩ 8 (by kernel_rfl) (by kernel_rfl) (by kernel_rfl) (by kernel_rfl)) ?_
  intro W base args ds gs before hval0 hW hcnd _
  have hval : ∀ (j : Nat) t v, Try.f9.params[j]? = some t → args[j]? = some v → Value.okWide Try.prog W .any base t v := hval0
  have hW' := hW
  obtain ⟨p, q, hA0, hV, rfl, hfz, hnd⟩ := hW
  have hA : DataW.TrodAll enc Try.prog W 0 (fun _ => true) true Try.f9.params.toList args.toList ds p := hA0
  have hA1 := hA
  rw [Try.params9] at hA hval
  obtain ⟨v0, vs0, d0, ds0, p0, q0, hargs, rfl, rfl, h0, r0⟩ := trodAll_cons hA
  obtain ⟨rfl, rfl, rfl⟩ := trodAll_nil r0
  obtain rfl : args = #[v0] := by cases args; simp_all
  obtain ⟨rfl, rfl⟩ := trodVars_none hV
  obtain ⟨a0, rfl, rfl, rfl, w0⟩ := open_int Try.underlying3 (hval 0 3 v0 rfl rfl) h0
  clear hA0 hval0
  simp only [List.append_nil] at hW'
  try simp only [List.append_nil] at hA1
  refine (walk W a0 w0).mono fun e W' ⟨he, hg⟩ => ?_
  subst he
  exact ⟨_, rfl, law_end Try.laidOut (by kernel_rfl) hW' hA1 hg rfl rfl rfl (trodAll_mk1 (shut_bool Try.underlying4 _))⟩

theorem over : Rows.valueTextsRow.holds Try.pinned (OpenSpec.ofChange Rows.valueTextsSpec) :=
  OpenClaim.holds_of_wide 9 Try.f9 rfl rfl rfl rfl rfl rfl rfl ⟨rfl, rfl, rfl, rfl, rfl⟩ rfl rfl rfl rfl rfl (by kernel_rfl) Try.func9 (by kernel_rfl)
    (of_decide_eq_true (by kernel_rfl)) (by unfold Func.isWrapper; first | (rw [if_pos (by decide +kernel)]; kernel_rfl) | (rw [if_neg (by decide +kernel)]; exact ⟨rfl, rfl⟩))
    (fun os started H enc _ => lifted os started H enc)

/-- the statement -/
theorem proved : Rows.ValueTextsSaid := over
#print axioms proved
end Go.Proofs.Ytffklbkdmfeimaa.valueTexts
