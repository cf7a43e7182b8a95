/-
  For every text RunesFold returns true, and the argument reads as before; there is no further condition.
-/
import Derived.Test.YtplogecejioolaaRows
import Derived.Test.YtplogecejioolaaPostLaw
import Derived.Test.YtplogecejioolaaRunesIs
import Derived.WalkKit
import Derived.ProofKit
import Derived.OpenShut
import Derived.ShutString
namespace Go.Proofs.Ytplogecejioolaa.runesFold
open Go.ChangeShapes Go.WideShapes Go.ChangeAt Go.RowKit
open Go.ChangeMaps (open_string shut_string)
set_option linter.unusedVariables false

theorem own : ownKnob Try.prog.godebug = none := by kernel_rfl

set_option maxRecDepth 100000 in
set_option maxHeartbeats 8000000 in
theorem walk (a0 : ByteArray) (w0 : a0.size ≤ maxLen) (w : World) :
    Calls Try.prog 6 #[.string a0] w fun e w' => e = .returned (.bool true) ∧ Below w.heap.size w w' := by
  go_enter Try.func6, Try.ntmps6
  go_wp2_with fail
  refine (begun_any _).mono ?_
  rintro e k1 ⟨rfl, hk⟩
  go_wp2_with fail
  refine (lcut_any _ _ _ (by omega) (by omega)).mono ?_
  rintro e w' ⟨t, ht, rfl, rfl⟩
  have t3 : t.size ≤ maxLen := by unfold maxLen; omega
  have t5 : t.size ≤ 35184372088832 := by omega
  have hfl : (foldB t).size ≤ 4 * t.size := by
    have := Ru.fld_len t.data.toList
    rw [Array.length_toList] at this
    have e : (foldB t).size = (Ru.fld t.data.toList).length := rfl
    rw [e]; exact this
  have f3 : (foldB t).size ≤ maxLen := by unfold maxLen; omega
  have f5 : (foldB t).size ≤ 35184372088832 := by omega
  have el : (foldB t).data.toList = Ru.fld t.data.toList := by simp [foldB]
  have hff : foldB (foldB t) = foldB t := by unfold foldB at el ⊢; rw [el, Ru.fld_fld]
  have hfv : Ru.vld (foldB t).data.toList = true := by rw [el, Ru.vld_fld]
  have hfc : Ru.cnt (foldB t).data.toList = Ru.cnt t.data.toList := by rw [el, Ru.cnt_fld]
  have hfk : Ru.key t.data.toList = true → Ru.key (foldB t).data.toList = true := by rw [el]; exact Ru.key_fld _
  obtain ⟨f, hf⟩ : ∃ f, foldB t = f := ⟨_, rfl⟩
  rw [hf] at hfl f3 f5 hff hfv hfc hfk
  clear el
  obtain ⟨kt, hkt⟩ : ∃ v, Ru.key t.data.toList = v := ⟨_, rfl⟩
  rw [hkt] at hfk
  have HF := Lib.hid hf; clear hf
  have HFF := Lib.hid hff; clear hff
  have HFV := Lib.hid hfv; clear hfv
  have HFC := Lib.hid hfc; clear hfc
  have HFK := Lib.hid hfk; clear hfk
  have HKT := Lib.hid hkt; clear hkt
  go_wp2_with fail
  refine (fold_is t f _ t5 HF.out).mono ?_
  rintro e k2 ⟨rfl, h2⟩
  have hk := hk.trans (h2.mono hk.size); clear h2
  go_wp2_with fail
  refine (fold_is f f _ f5 HFF.out).mono ?_
  rintro e k3 ⟨rfl, h3⟩
  have hk := hk.trans (h3.mono hk.size); clear h3
  go_wp2_with fail
  refine (valid_is f _ true HFV.out).mono ?_
  rintro e k4 ⟨rfl, h4⟩
  have hk := hk.trans (h4.mono hk.size); clear h4
  go_wp2_with fail
  refine (count_is f _ _ f3 HFC.out).mono ?_
  rintro e k5 ⟨rfl, h5⟩
  have hk := hk.trans (h5.mono hk.size); clear h5
  go_wp2_with fail
  refine (count_is t _ _ t3 rfl).mono ?_
  rintro e k6 ⟨rfl, h6⟩
  have hk := hk.trans (h6.mono hk.size); clear h6
  go_wp2_with fail
  refine (key_is t _ kt HKT.out).mono ?_
  rintro e k7 ⟨rfl, h7⟩
  have hk := hk.trans (h7.mono hk.size); clear h7
  cases kt
  · go_wp2
    go_ret
    exact ⟨by simp, hk⟩
  · go_wp2_with fail
    refine (key_is f _ true (HFK.out (by trivial))).mono ?_
    rintro e k8 ⟨rfl, h8⟩
    have hk := hk.trans (h8.mono hk.size); clear h8
    go_wp2
    go_ret
    exact ⟨by simp, hk⟩

set_option maxRecDepth 100000 in
theorem lifted (os : Os) (started : os.Started) (H : Type) (enc : TypeId × Value → H) :
    ReturnsInHanded {} Try.checked os 6 .any (Rows.runesFoldSpec.pre6 enc Try.prog Try.f6 Rows.runesFoldRow.domain false) (Rows.runesFoldSpec.post enc Try.prog Try.f6 false true false false) := by
  refine returnsInHanded_of_change (C := Try.checked) own started (by kernel_rfl) Try.func6
    (ChangeSpec.witness6 (enc := enc) (C := Try.checked) false ⟨#[], #[.string ByteArray.empty], []⟩ 8 (by kernel_rfl) (by kernel_rfl) (by kernel_rfl) (by kernel_rfl)) ?_
  intro W base args ds gs before hval0 hW hcnd _
  have hval : ∀ (j : Nat) t v, Try.f6.params[j]? = some t → args[j]? = some v → Value.okWide Try.prog W .any base t v := hval0
  have hW' := hW
  obtain ⟨p, q, hA0, hV, rfl, hfz, hnd⟩ := hW
  have hA : DataW.TrodAll enc Try.prog W 0 (fun _ => true) true Try.f6.params.toList args.toList ds p := hA0
  rw [Try.params6] at hA hval
  obtain ⟨v0, vs0, d0, ds0, p0, q0, hargs, rfl, rfl, h0, r0⟩ := trodAll_cons hA
  obtain ⟨rfl, rfl, rfl⟩ := trodAll_nil r0
  obtain rfl : args = #[v0] := by cases args; simp_all
  obtain ⟨rfl, rfl⟩ := trodVars_none hV
  obtain ⟨a0, rfl, rfl, rfl, w0⟩ := open_string Try.underlying9 (hval 0 9 v0 rfl rfl) h0
  clear hA0 hval0
  simp only [List.append_nil] at hW'
  refine (walk a0 w0 W).mono fun e W' ⟨he, hg⟩ => ?_
  subst he
  exact ⟨_, rfl, post_law hW' (fun _ _ _ => (trodAll_cons_mk (shut_bool Try.underlying4 _) trodAll_mk0)) (fun sp => (trodAll_cons_mk (shut_string Try.underlying9 w0) trodAll_mk0)) (fun _ => rfl) hg (ok_one (by kernel_rfl) rfl (okWide_bool_mk Try.underlying4 _))⟩

theorem over : Rows.runesFoldRow.holds Try.pinned (OpenSpec.ofChange Rows.runesFoldSpec) :=
  OpenClaim.holds_of_wide 6 Try.f6 rfl rfl rfl rfl rfl rfl rfl ⟨rfl, rfl, rfl, rfl, rfl⟩ rfl rfl rfl rfl rfl (by kernel_rfl) Try.func6 (by kernel_rfl)
    (of_decide_eq_true (by kernel_rfl)) (by unfold Func.isWrapper; first | (rw [if_pos (by decide +kernel)]; kernel_rfl) | (rw [if_neg (by decide +kernel)]; exact ⟨rfl, rfl⟩))
    (fun os started H enc _ => lifted os started H enc)

/-- the statement -/
theorem proved : Rows.RunesFoldSaid := over
#print axioms proved
end Go.Proofs.Ytplogecejioolaa.runesFold
