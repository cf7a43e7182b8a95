/-
  A swap lasts at once, whole; what stood there is gone.
-/
import Derived.Test.YtbdengcblncfmaaRows
import Derived.Test.YtbdengcblncfmaaL9One
import Derived.Test.YtbdengcblncfmaaLawKit
import Derived.WalkKit
import Derived.ProofKit
import Derived.OpenShut
import Derived.ShutString
set_option linter.unusedSimpArgs false
set_option linter.unusedVariables false
namespace Go.Proofs.Ytbdengcblncfmaa.diskSwap
open Go.ChangeShapes Go.WideShapes Go.ChangeAt Go.RowKit
open Go.ChangeMaps (open_string shut_string)
set_option linter.unusedVariables false

theorem own : ownKnob Try.prog.godebug = none := by kernel_rfl

set_option maxRecDepth 100000 in
set_option maxHeartbeats 8000000 in
theorem walk (w : World) (A0 : Option Addr) (c0 : Nat) (a0 : List UInt8) (w0 : Byt w w.heap.size (.slice A0 a0.length c0) a0) (x0 : a0.length ≤ maxLen) (A1 : Option Addr) (c1 : Nat) (a1 : List UInt8) (w1 : Byt w w.heap.size (.slice A1 a1.length c1) a1) (x1 : a1.length ≤ maxLen) (a2 : Int) (w2 : (Lit.int .i64 a2).wf = true) :
    Calls Try.prog 8 #[.slice A0 a0.length c0, .slice A1 a1.length c1, .int .i64 a2] w fun e w' => e = .returned (.bool true) ∧ Below w.heap.size w w' := by
  have HML := Lib.hid nF_size
  have HA0 := Lib.hid w0; clear w0
  obtain ⟨q0, hq0⟩ : ∃ q, a0.length = q := ⟨_, rfl⟩
  rw [hq0] at HA0
  have HQ0 := Lib.hid hq0
  clear x0
  have HA1 := Lib.hid w1; clear w1
  obtain ⟨q1, hq1⟩ : ∃ q, a1.length = q := ⟨_, rfl⟩
  rw [hq1] at HA1
  have HQ1 := Lib.hid hq1
  clear x1
  have hn2 := wf_i64 w2
  rw [hq0, hq1]
  clear hq0 hq1 w2
  have HN2 := Lib.hid hn2; clear hn2
  have h9 : (60 : Int) < q0 ∨ (¬ (60 : Int) < q0 ∧ (60 : Int) < q1) ∨ (¬ (60 : Int) < q0 ∧ ¬ (60 : Int) < q1) := by omega
  rcases h9 with h9 | ⟨h9, h8⟩ | ⟨h9, h8⟩
  · go_enter Try.func8, Try.ntmps8
    go_wp2_with fail
    refine (begun9_any w).mono ?_
    rintro e k1 ⟨rfl, hb⟩
    have HB1 := Lib.hid hb
    clear hb
    go_wp2
    go_ret
    exact ⟨rfl, HB1.out⟩
  · go_enter Try.func8, Try.ntmps8
    go_wp2_with fail
    refine (begun9_any w).mono ?_
    rintro e k1 ⟨rfl, hb⟩
    have HB1 := Lib.hid hb
    clear hb
    go_wp2
    go_ret
    exact ⟨rfl, HB1.out⟩
  · go_enter Try.func8, Try.ntmps8
    go_wp2_with fail
    refine (begun9_any w).mono ?_
    rintro e k1 ⟨rfl, hb⟩
    have HB1 := Lib.hid hb
    clear hb
    go_wp2_with fail
    refine (new_dk _).mono ?_
    rintro e k2 ⟨rfl, hd, hb⟩
    have HD := Lib.hid hd
    have HZ1 := Lib.hid HB1.out.size
    have HZ := Lib.hid hb.size
    have HB2 := Lib.hid (HB1.out.trans (hb.mono HB1.out.size))
    clear hd hb HB1
    go_wp2_with fail
    refine (app_dk (n := nF) (bs := a0) HD.out HZ.out HML.out (by omega) (Nat.zero_le _) ((HA0.out.below HB2.out (Nat.le_refl _)).more HZ1.out) (by rw [HQ0.out]; omega) _ (one_app0 a0 (by rw [HQ0.out]; omega))).mono ?_
    rintro e k3 ⟨rfl, hd, hb⟩
    clear HD
    have HD := Lib.hid hd
    have HZ3 := Lib.hid (Nat.le_trans HZ.out hb.size)
    have HB3 := Lib.hid (HB2.out.trans (hb.mono HZ1.out))
    clear hd hb HB2
    go_wp2_with fail
    refine (swap_dk (n := nF) (bs := a1) HD.out HZ3.out HML.out (by omega) (by simp) ((HA1.out.below HB3.out (Nat.le_refl _)).more HZ1.out) (by rw [HQ1.out]; omega) _ (one_swap a1 a0 _ _ (by rw [HQ1.out]; omega))).mono ?_
    rintro e k4 ⟨rfl, hd, hb⟩
    clear HD
    have HD := Lib.hid hd
    have HB4 := Lib.hid (HB3.out.trans (hb.mono HZ1.out))
    clear hd hb HB3
    go_wp2_with fail
    refine (loose_dk (n := nF) HD.out HML.out 0 (by rw [one_loose]; exact Int.sub_self _)).mono ?_
    rintro e k5 ⟨rfl, hb⟩
    replace HD := Lib.hid (HD.out.below hb)
    have HB5 := Lib.hid (HB4.out.trans (hb.mono HB4.out.size))
    clear hb HB4
    go_wp2_with fail
    refine (crash_dk (n := a2) HD.out (by simp) (by have := HN2.out; omega) _ (one_crash_full a1 a2)).mono ?_
    rintro e k6 ⟨rfl, hd, hb⟩
    have HC := Lib.hid hd
    have HB6 := Lib.hid (HB5.out.trans (hb.mono HB5.out.size))
    clear hb hd HB5 HD
    go_wp2_with fail
    refine (read_dk (n := nF) HC.out HML.out _ (one_get ⟨nF, a1, a1.length, true⟩)).mono ?_
    rintro e k7 ⟨v7, rfl, hv, hb⟩
    have HB7 := Lib.hid (HB6.out.trans (hb.mono HB6.out.size))
    clear hb HB6 HC
    obtain ⟨S, hS⟩ : ∃ S : ByteArray, (⟨a1.toArray⟩ : ByteArray) = S := ⟨_, rfl⟩
    have hc1 := conv9 (Byt.of_own hv) hS
    have hc2 := conv9 (HA1.out.below HB7.out (Nat.le_refl _)) hS
    have hss : (S.toList == S.toList) = true := beq_self_eq_true _
    clear hv hS
    go_wp2
    go_ret
    exact ⟨rfl, HB7.out⟩

set_option maxRecDepth 100000 in
theorem lifted (os : Os) (started : os.Started) (H : Type) (enc : TypeId × Value → H) :
    ReturnsInHanded {} Try.checked os 8 .any (Rows.diskSwapSpec.pre6 enc Try.prog Try.f8 Rows.diskSwapRow.domain false) (Rows.diskSwapSpec.post enc Try.prog Try.f8 false true false false) := by
  refine returnsInHanded_of_change (C := Try.checked) own started (by kernel_rfl) Try.func8
    (ChangeSpec.witness6 (enc := enc) (C := Try.checked) false ⟨#[], #[.slice none 0 0, .slice none 0 0, .int .i64 0], []⟩ 8 (by kernel_rfl) (by kernel_rfl) (by kernel_rfl) (by kernel_rfl)) ?_
  intro W base args ds gs before hval0 hW hcnd _
  have hval : ∀ (j : Nat) t v, Try.f8.params[j]? = some t → args[j]? = some v → Value.okWide Try.prog W .any base t v := hval0
  have hW' := hW
  obtain ⟨p, q, hA0, hV, rfl, hfz, hnd⟩ := hW
  have hA : DataW.TrodAll enc Try.prog W 0 (fun _ => true) true Try.f8.params.toList args.toList ds p := hA0
  have hA1 := hA
  rw [Try.params8] at hA hval
  obtain ⟨v0, vs0, d0, ds0, p0, q0, hargs, rfl, rfl, h0, r0⟩ := trodAll_cons hA
  obtain ⟨v1, vs1, d1, ds1, p1, q1, rfl, rfl, rfl, h1, r1⟩ := trodAll_cons r0
  obtain ⟨v2, vs2, d2, ds2, p2, q2, rfl, rfl, rfl, h2, r2⟩ := trodAll_cons r1
  obtain ⟨rfl, rfl, rfl⟩ := trodAll_nil r2
  obtain rfl : args = #[v0, v1, v2] := by cases args; simp_all
  obtain ⟨rfl, rfl⟩ := trodVars_none hV
  obtain ⟨A0, c0, a0, rfl, w0, x0⟩ := open_bytes (hval 0 30 v0 rfl rfl) h0
  obtain ⟨A1, c1, a1, rfl, w1, x1⟩ := open_bytes (hval 1 30 v1 rfl rfl) h1
  obtain ⟨a2, rfl, rfl, rfl, w2⟩ := open_int Try.underlying3 (hval 2 3 v2 rfl rfl) h2
  clear hA0 hval0
  simp only [List.append_nil] at hW'
  try simp only [List.append_nil] at hA1
  refine (walk W A0 c0 a0 w0 x0 A1 c1 a1 w1 x1 a2 w2).mono fun e W' ⟨he, hg⟩ => ?_
  subst he
  exact ⟨_, rfl, law_end Try.laidOut (by kernel_rfl) hW' hA1 hg rfl rfl rfl (trodAll_mk1 (shut_bool Try.underlying4 _))⟩

theorem over : Rows.diskSwapRow.holds Try.pinned (OpenSpec.ofChange Rows.diskSwapSpec) :=
  OpenClaim.holds_of_wide 8 Try.f8 rfl rfl rfl rfl rfl rfl rfl ⟨rfl, rfl, rfl, rfl, rfl⟩ rfl rfl rfl rfl rfl (by kernel_rfl) Try.func8 (by kernel_rfl)
    (of_decide_eq_true (by kernel_rfl)) (by unfold Func.isWrapper; first | (rw [if_pos (by decide +kernel)]; kernel_rfl) | (rw [if_neg (by decide +kernel)]; exact ⟨rfl, rfl⟩))
    (fun os started H enc _ => lifted os started H enc)

/-- the statement -/
theorem proved : Rows.DiskSwapSaid := over
#print axioms proved
end Go.Proofs.Ytbdengcblncfmaa.diskSwap
