/-
  For every text and every number RunesParts returns true, and the arguments read as before; there is no further condition.
-/
import Derived.Test.YtplogecejioolaaRows
import Derived.Test.YtplogecejioolaaPostLaw
import Derived.Test.YtplogecejioolaaRunesIs
import Derived.WalkKit
import Derived.Deep.RegionHeld3
import Derived.ProofKit
import Derived.OpenShut
import Derived.ShutString
namespace Go.Proofs.Ytplogecejioolaa.runesParts
open Go.ChangeShapes Go.WideShapes Go.ChangeAt Go.RowKit
open Go.ChangeMaps (open_string shut_string)
set_option linter.unusedVariables false

theorem own : ownKnob Try.prog.godebug = none := by kernel_rfl

set_option maxRecDepth 100000 in
set_option maxHeartbeats 8000000 in
theorem walk (a0 : ByteArray) (a1 : Int) (w0 : a0.size ≤ maxLen) (w1 : (Lit.int .i64 a1).wf = true) (w : World) :
    Calls Try.prog 7 #[.string a0, .int .i64 a1] w fun e w' => e = .returned (.bool true) ∧ Below w.heap.size w w' := by
  go_enter Try.func7, Try.ntmps7
  go_wp2_with fail
  refine (begun_any _).mono ?_
  rintro e k1 ⟨rfl, hk⟩
  go_wp2_with fail
  refine (lcut_any _ _ _ (by omega) (by omega)).mono ?_
  rintro e w' ⟨t, ht, rfl, rfl⟩
  have hn := bounds_i64 w1
  have t3 : t.size ≤ maxLen := by unfold maxLen; omega
  have t4 : t.size ≤ 281474976710656 := by omega
  obtain ⟨u, hu⟩ : ∃ u, cutB t a1 = u := ⟨_, rfl⟩
  have hus : u.size ≤ t.size := by rw [← hu]; unfold cutB; rw [ByteArray.size_extract]; omega
  have u3 : u.size ≤ maxLen := by unfold maxLen; omega
  have r3 : (t.extract u.size t.size).size ≤ maxLen := by rw [ByteArray.size_extract]; unfold maxLen; omega
  have heq : ((t.extract 0 u.size).toList == u.toList) = true := by rw [← hu, cutB_front t a1]; simp
  have hcu : cN u = min a1.toNat (cN t) := by rw [← hu]; exact cutB_cnt t a1
  have hcr : cN u + cN (t.extract u.size t.size) = cN t := by rw [← hu]; exact cutB_rest t a1
  have hct : cN t ≤ 100 := by have := cnt_le t; unfold cN; omega
  have HU := Lib.hid hu; clear hu
  go_wp2_with fail
  refine (cut_is t u a1 _ t4 hn.1 hn.2 HU.out).mono ?_
  rintro e k2 ⟨rfl, h2⟩
  have hk := hk.trans (h2.mono hk.size); clear h2
  have H := Lib.hid hk; clear hk
  obtain ⟨cu, hcu2⟩ : ∃ c, cN u = c := ⟨_, rfl⟩
  obtain ⟨ct, hct2⟩ : ∃ c, cN t = c := ⟨_, rfl⟩
  obtain ⟨cr, hcr2⟩ : ∃ c, cN (t.extract u.size t.size) = c := ⟨_, rfl⟩
  rw [hcu2, hct2] at hcu
  rw [hcu2, hct2, hcr2] at hcr
  rw [hct2] at hct
  have hcu100 : cu ≤ 100 := by omega
  have hcr100 : cr ≤ 100 := by omega
  have hsum : (IntKind.i64.wrap ((cu : Int) + (cr : Int)) == (ct : Int)) = true := by rw [IntWalk.i64_in _ (by omega), beq_iff_eq]; omega
  have hg : ((cu : Int) == max 0 (min a1 (ct : Int))) = true := by rw [beq_iff_eq]; omega
  have HR3 := Lib.hid r3; clear r3
  have HCR := Lib.hid hcr; clear hcr
  have HU2 := Lib.hid hcu2; clear hcu2
  have HT2 := Lib.hid hct2; clear hct2
  have HR2 := Lib.hid hcr2; clear hcr2
  have HCU := Lib.hid hcu; clear hcu
  have hkB := H.out
  clear H
  go_wp2_with fail
  go_region_held3 (fun W => Below w.heap.size w W) (first | assumption | exact Below.drew (by assumption) | exact below_step hb (by assumption)) (first | (go_at_call_of 18 (Value.string u); refine (count_c u cu _ u3 HU2.out).mono ?_; rintro e w' ⟨rfl, hb⟩) | (go_at_call_of 18 (Value.string t); refine (count_c t ct _ t3 HT2.out).mono ?_; rintro e w' ⟨rfl, hb⟩) | (go_at_call_of 18 (Value.string (t.extract u.size t.size)); refine (count_c (t.extract u.size t.size) cr _ HR3.out HR2.out).mono ?_; rintro e w' ⟨rfl, hb⟩))
  go_wp2
  go_ret
  exact ⟨rfl, by assumption⟩

set_option maxRecDepth 100000 in
theorem lifted (os : Os) (started : os.Started) (H : Type) (enc : TypeId × Value → H) :
    ReturnsInHanded {} Try.checked os 7 .any (Rows.runesPartsSpec.pre6 enc Try.prog Try.f7 Rows.runesPartsRow.domain false) (Rows.runesPartsSpec.post enc Try.prog Try.f7 false true false false) := by
  refine returnsInHanded_of_change (C := Try.checked) own started (by kernel_rfl) Try.func7
    (ChangeSpec.witness6 (enc := enc) (C := Try.checked) false ⟨#[], #[.string ByteArray.empty, .int .i64 0], []⟩ 8 (by kernel_rfl) (by kernel_rfl) (by kernel_rfl) (by kernel_rfl)) ?_
  intro W base args ds gs before hval0 hW hcnd _
  have hval : ∀ (j : Nat) t v, Try.f7.params[j]? = some t → args[j]? = some v → Value.okWide Try.prog W .any base t v := hval0
  have hW' := hW
  obtain ⟨p, q, hA0, hV, rfl, hfz, hnd⟩ := hW
  have hA : DataW.TrodAll enc Try.prog W 0 (fun _ => true) true Try.f7.params.toList args.toList ds p := hA0
  rw [Try.params7] at hA hval
  obtain ⟨v0, vs0, d0, ds0, p0, q0, hargs, rfl, rfl, h0, r0⟩ := trodAll_cons hA
  obtain ⟨v1, vs1, d1, ds1, p1, q1, rfl, rfl, rfl, h1, r1⟩ := trodAll_cons r0
  obtain ⟨rfl, rfl, rfl⟩ := trodAll_nil r1
  obtain rfl : args = #[v0, v1] := by cases args; simp_all
  obtain ⟨rfl, rfl⟩ := trodVars_none hV
  obtain ⟨a0, rfl, rfl, rfl, w0⟩ := open_string Try.underlying9 (hval 0 9 v0 rfl rfl) h0
  obtain ⟨a1, rfl, rfl, rfl, w1⟩ := open_int Try.underlying3 (hval 1 3 v1 rfl rfl) h1
  clear hA0 hval0
  simp only [List.append_nil] at hW'
  refine (walk a0 a1 w0 w1 W).mono fun e W' ⟨he, hg⟩ => ?_
  subst he
  exact ⟨_, rfl, post_law hW' (fun _ _ _ => (trodAll_cons_mk (shut_bool Try.underlying4 _) trodAll_mk0)) (fun sp => (trodAll_cons_mk (shut_string Try.underlying9 w0) (trodAll_cons_mk (shut_int Try.underlying3 w1) trodAll_mk0))) (fun _ => rfl) hg (ok_one (by kernel_rfl) rfl (okWide_bool_mk Try.underlying4 _))⟩

theorem over : Rows.runesPartsRow.holds Try.pinned (OpenSpec.ofChange Rows.runesPartsSpec) :=
  OpenClaim.holds_of_wide 7 Try.f7 rfl rfl rfl rfl rfl rfl rfl ⟨rfl, rfl, rfl, rfl, rfl⟩ rfl rfl rfl rfl rfl (by kernel_rfl) Try.func7 (by kernel_rfl)
    (of_decide_eq_true (by kernel_rfl)) (by unfold Func.isWrapper; first | (rw [if_pos (by decide +kernel)]; kernel_rfl) | (rw [if_neg (by decide +kernel)]; exact ⟨rfl, rfl⟩))
    (fun os started H enc _ => lifted os started H enc)

/-- the statement -/
theorem proved : Rows.RunesPartsSaid := over
#print axioms proved
end Go.Proofs.Ytplogecejioolaa.runesParts
