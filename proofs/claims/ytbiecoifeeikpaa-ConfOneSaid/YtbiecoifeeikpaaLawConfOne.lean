/-
  A server more and one less again is the same; each step is near.
-/
import Derived.Test.YtbiecoifeeikpaaRows
import Derived.Test.YtbiecoifeeikpaaL12Kit
import Derived.Test.YtbiecoifeeikpaaLawKit
import Derived.WalkKit
import Derived.ProofKit
import Derived.OpenShut
import Derived.ShutString
namespace Go.Proofs.Ytbiecoifeeikpaa.confOne
open Go.ChangeShapes Go.WideShapes Go.ChangeAt Go.RowKit
open Go.ChangeMaps (open_string shut_string)
set_option linter.unusedVariables false

theorem own : ownKnob Try.prog.godebug = none := by kernel_rfl

set_option maxRecDepth 100000 in
set_option maxHeartbeats 8000000 in
theorem walk (w : World) (a0 : Int) (w0 : (Lit.int .i64 a0).wf = true) (a1 : Int) (w1 : (Lit.int .i64 a1).wf = true) :
    Calls Try.prog 5 #[.int .i64 a0, .int .i64 a1] w fun e w' => e = .returned (.bool true) ∧ Below w.heap.size w w' := by
  obtain ⟨r, q, hr, hr1, hr2, hq, hq6⟩ := server12 a1
  obtain ⟨L, hL⟩ : ∃ L, setF (bitF a0) = L := ⟨_, rfl⟩
  have hmF : mayF 0 L = true := by rw [← hL]; exact setF_may _
  have hlen : L.length ≤ 7 := by rw [← hL]; exact setF_len _
  have hset := fun W => set_n (w := W) a0 hL
  obtain ⟨n, hn⟩ : ∃ n, L.length = n := ⟨_, rfl⟩
  rw [hn] at hlen hset
  have HN := Lib.hid hn
  have HMF := Lib.hid hmF
  clear hn hL hmF
  clear w0 w1
  go_enter Try.func5, Try.ntmps5
  go_wp2_with fail
  refine (begun12_any _).mono ?_
  rintro e k1 ⟨rfl, hbk1⟩
  have HB1 := Lib.hid (hbk1)
  clear hbk1
  go_wp2_with fail
  refine (hset _).mono ?_
  rintro e k2 ⟨A1, c1, rfl, hi1, hbk2⟩
  have HB2 := Lib.hid (HB1.out.trans (hbk2.mono HB1.out.size))
  clear hbk2
  have IL := Lib.hid hi1
  clear hi1
  clear hset
  by_cases h0 : n = 0
  · have hmy : may12 L = false := by unfold may12; rw [HMF.out, HN.out, h0]; rfl
    have HMY := Lib.hid hmy
    clear hmy
    subst h0
    go_wp2_with fail
    refine (may_n IL.out HN.out (by omega) HMY.out).mono ?_
    rintro e w' ⟨rfl, rfl⟩
    go_wp2
    go_ret
    exact ⟨rfl, HB2.out⟩
  · have hmy : may12 L = true := by unfold may12; rw [HMF.out, HN.out]; simp; omega
    have HMY := Lib.hid hmy
    clear hmy
    go_wp2_with fail
    refine (may_n IL.out HN.out (by omega) HMY.out).mono ?_
    rintro e w' ⟨rfl, rfl⟩
    cases hc : L.contains (1 + (q : Int)) with
    | true =>
      have HC := Lib.hid hc
      clear hc
      go_wp2_with fail
      refine (addp_n (1 + (q : Int)) IL.out HN.out (by omega) (R := []) (b := false) (by rw [add12_none3 HC.out]; rfl) rfl).mono ?_
      rintro e k3 ⟨hbk3, A2, c2, rfl, hi2⟩
      replace IL := Lib.hid (IL.out.nxt hbk3)
      have HB3 := Lib.hid (HB2.out.trans (hbk3.mono HB2.out.size))
      clear hbk3
      have IM := Lib.hid hi2
      clear hi2
      go_wp2_with fail
      refine (has_n (1 + (q : Int)) IL.out HN.out (by omega) HC.out).mono ?_
      rintro e w' ⟨rfl, rfl⟩
      go_wp2
      go_ret
      exact ⟨rfl, HB3.out⟩
    | false =>
      have h1 : may12 [1 + (q : Int)] = true := by rw [may_one]; simp; omega
      obtain ⟨e1, e2, e3, e4, e5, e6⟩ := one_is HMF.out (by rw [HN.out]; omega) (x := 1 + (q : Int)) (by omega) (by omega) hc
      obtain ⟨M, hM⟩ : ∃ M, ins12 L (1 + (q : Int)) = M := ⟨_, rfl⟩
      have hMl : M.length = n + 1 := by rw [← hM, ins_len, HN.out]
      have HA := Lib.hid (show optL (add12 L (1 + (q : Int))) = (M, true) by rw [add12_some HMY.out h1 hc, hM]; rfl)
      rw [hM] at e1 e2 e3 e4 e5 e6
      have HR := Lib.hid (show optL (rem12 M (1 + (q : Int))) = (L, true) by rw [rem12_some e1 e2 e3, e4]; rfl)
      have E3 := Lib.hid e3
      have E5 := Lib.hid e5
      have E6 := Lib.hid e6
      have HML := Lib.hid hMl
      clear hc h1 e1 e2 e3 e4 e5 e6 hM hMl
      go_wp2_with fail
      refine (addp_n (1 + (q : Int)) IL.out HN.out (by omega) HA.out HML.out).mono ?_
      rintro e k3 ⟨hbk3, A2, c2, rfl, hi2⟩
      replace IL := Lib.hid (IL.out.nxt hbk3)
      have HB3 := Lib.hid (HB2.out.trans (hbk3.mono HB2.out.size))
      clear hbk3
      have IM := Lib.hid hi2
      clear hi2
      go_wp2_with fail
      refine (remp_n (1 + (q : Int)) IM.out HML.out (by omega) HR.out HN.out).mono ?_
      rintro e k4 ⟨hbk4, A3, c3, rfl, hi3⟩
      replace IL := Lib.hid (IL.out.nxt hbk4)
      replace IM := Lib.hid (IM.out.nxt hbk4)
      have HB4 := Lib.hid (HB3.out.trans (hbk4.mono HB3.out.size))
      clear hbk4
      have IO := Lib.hid hi3
      clear hi3
      go_wp2_with fail
      refine (eq_n IL.out IO.out HN.out HN.out (by omega) (by omega) (b := true) (decide_eq_true rfl)).mono ?_
      rintro e k5 ⟨rfl, hbk5⟩
      replace IL := Lib.hid (IL.out.nxt hbk5)
      replace IM := Lib.hid (IM.out.nxt hbk5)
      replace IO := Lib.hid (IO.out.nxt hbk5)
      have HB5 := Lib.hid (HB4.out.trans (hbk5.mono HB4.out.size))
      clear hbk5
      go_wp2_with fail
      refine (near_n IL.out IM.out HN.out HML.out (by omega) (by omega) E5.out).mono ?_
      rintro e w' ⟨rfl, rfl⟩
      go_wp2_with fail
      refine (near_n IM.out IL.out HML.out HN.out (by omega) (by omega) E6.out).mono ?_
      rintro e w' ⟨rfl, rfl⟩
      go_wp2_with fail
      refine (has_n (1 + (q : Int)) IM.out HML.out (by omega) E3.out).mono ?_
      rintro e w' ⟨rfl, rfl⟩
      go_wp2
      go_ret
      exact ⟨rfl, HB5.out⟩

set_option maxRecDepth 100000 in
theorem lifted (os : Os) (started : os.Started) (H : Type) (enc : TypeId × Value → H) :
    ReturnsInHanded {} Try.checked os 5 .any (Rows.confOneSpec.pre6 enc Try.prog Try.f5 Rows.confOneRow.domain false) (Rows.confOneSpec.post enc Try.prog Try.f5 false true false false) := by
  refine returnsInHanded_of_change (C := Try.checked) own started (by kernel_rfl) Try.func5
    (ChangeSpec.witness6 (enc := enc) (C := Try.checked) false ⟨#[], #[.int .i64 0, .int .i64 0], []⟩ 8 (by kernel_rfl) (by kernel_rfl) (by kernel_rfl) (by kernel_rfl)) ?_
  intro W base args ds gs before hval0 hW hcnd _
  have hval : ∀ (j : Nat) t v, Try.f5.params[j]? = some t → args[j]? = some v → Value.okWide Try.prog W .any base t v := hval0
  have hW' := hW
  obtain ⟨p, q, hA0, hV, rfl, hfz, hnd⟩ := hW
  have hA : DataW.TrodAll enc Try.prog W 0 (fun _ => true) true Try.f5.params.toList args.toList ds p := hA0
  have hA1 := hA
  rw [Try.params5] at hA hval
  obtain ⟨v0, vs0, d0, ds0, p0, q0, hargs, rfl, rfl, h0, r0⟩ := trodAll_cons hA
  obtain ⟨v1, vs1, d1, ds1, p1, q1, rfl, rfl, rfl, h1, r1⟩ := trodAll_cons r0
  obtain ⟨rfl, rfl, rfl⟩ := trodAll_nil r1
  obtain rfl : args = #[v0, v1] := by cases args; simp_all
  obtain ⟨rfl, rfl⟩ := trodVars_none hV
  obtain ⟨a0, rfl, rfl, rfl, w0⟩ := open_int Try.underlying3 (hval 0 3 v0 rfl rfl) h0
  obtain ⟨a1, rfl, rfl, rfl, w1⟩ := open_int Try.underlying3 (hval 1 3 v1 rfl rfl) h1
  clear hA0 hval0
  simp only [List.append_nil] at hW'
  try simp only [List.append_nil] at hA1
  refine (walk W a0 w0 a1 w1).mono fun e W' ⟨he, hg⟩ => ?_
  subst he
  exact ⟨_, rfl, law_end Try.laidOut (by kernel_rfl) hW' hA1 hg rfl rfl rfl (trodAll_mk1 (shut_bool Try.underlying4 _))⟩

theorem over : Rows.confOneRow.holds Try.pinned (OpenSpec.ofChange Rows.confOneSpec) :=
  OpenClaim.holds_of_wide 5 Try.f5 rfl rfl rfl rfl rfl rfl rfl ⟨rfl, rfl, rfl, rfl, rfl⟩ rfl rfl rfl rfl rfl (by kernel_rfl) Try.func5 (by kernel_rfl)
    (of_decide_eq_true (by kernel_rfl)) (by unfold Func.isWrapper; first | (rw [if_pos (by decide +kernel)]; kernel_rfl) | (rw [if_neg (by decide +kernel)]; exact ⟨rfl, rfl⟩))
    (fun os started H enc _ => lifted os started H enc)

/-- the statement -/
theorem proved : Rows.ConfOneSaid := over
#print axioms proved
end Go.Proofs.Ytbiecoifeeikpaa.confOne
