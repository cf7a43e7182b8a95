/-
  LogCut: another entry at a place takes all behind it away. It is true for all arguments.
-/
import Derived.Test.YtmmlkfkepncpgaaRows
import Derived.Test.YtmmlkfkepncpgaaBun2
import Derived.Test.YtmmlkfkepncpgaaBun1
import Derived.WalkKit
import Derived.ProofKit
import Derived.OpenShut
import Derived.ShutString
namespace Go.Proofs.Ytmmlkfkepncpgaa.logCut
open Go.ChangeShapes Go.WideShapes Go.ChangeAt Go.RowKit
open Go.ChangeMaps (open_string shut_string)
set_option linter.unusedVariables false

theorem own : ownKnob Try.prog.godebug = none := by kernel_rfl

set_option maxRecDepth 100000 in
set_option maxHeartbeats 8000000 in
theorem walk (w : World) (a0 : Int) (w0 : (Lit.int .i64 a0).wf = true) (a1 : Int) (w1 : (Lit.int .i64 a1).wf = true) :
    Calls Try.prog 6 #[.int .i64 a0, .int .i64 a1] w fun e w' => e = .returned (.bool true) ∧ Below w.heap.size w w' := by
  go_enter Try.func6, Try.ntmps6
  go_wp2_with fail
  refine (begun13_any w).mono ?_
  rintro e k1 ⟨rfl, hb1⟩
  have HB1 := Lib.hid hb1
  clear hb1
  by_cases hc : 1 ≤ a0 ∧ a0 ≤ 50 ∧ 1 ≤ a1 ∧ a1 ≤ a0
  · obtain ⟨h1, h2, h3, h4⟩ := hc
    obtain ⟨n, rfl⟩ : ∃ n : Nat, a0 = (n : Int) := ⟨a0.toNat, by omega⟩
    obtain ⟨a, rfl⟩ : ∃ a : Nat, a1 = (a : Int) := ⟨a1.toNat, by omega⟩
    have HP := Lib.hid (cut_at (n := n) (a := a) (by omega) (by omega) (by omega) (by omega))
    have hn50 : n ≤ 50 := by omega
    have hna : a ≤ n := by omega
    have t1 : ¬ (n : Int) < 1 := by omega
    have t2 : ¬ (50 : Int) < (n : Int) := by omega
    have t3 : ¬ (a : Int) < 1 := by omega
    have t4 : ¬ n < a := by omega
    have t5 : ¬ (n : Int) < (a : Int) := by omega
    go_wp2_with fail
    go_loopw [6, 7] (fun u i wr => ∃ k : Nat, i = .int .i64 ((k : Int) + 1) ∧ k ≤ n ∧ OwnEn w.heap.size u (cutL k) wr ∧ Below w.heap.size w wr) (fun _ i _ => n + 2 - (intOf i).toNat)
    case atStart => exact ⟨0, rfl, Nat.zero_le _, OwnEn.nil _ _, HB1.out⟩
    case round =>
      have HH := Lib.hid (And.intro hn50 (And.intro hna (And.intro h1 h3)))
      clear hn50 hna h1 h2 h3 h4 w0 w1 t1 t2 t3 t4 t5
      obtain ⟨k, rfl, hk, hO, hb⟩ := hrel
      obtain ⟨A, c, hu⟩ := hO.slice
      rw [cutL_len] at hu
      subst hu
      by_cases hkn : k < n
      · have hki : (k : Int) + 1 ≤ (n : Int) := by omega
        obtain ⟨W, hW⟩ : ∃ W, wr.alloc (.cells #[.int .i64 ((k : Int) + 1), .int .i64 1, .int .i64 1, .string ⟨#[]⟩] 51) = W := ⟨_, rfl⟩
        have hR : Rt W wr.heap.size 51 [.int .i64 ((k : Int) + 1), .int .i64 1, .int .i64 1, .string ⟨#[]⟩] := by rw [← hW]; exact Rt.new _ _ _
        have hbW : Below wr.heap.size wr W := by rw [← hW]; exact below_new _ _
        have HO := Lib.hid (hO.below hbW)
        have HE := Lib.hid (en_one (N := fun _ => True) hR trivial)
        have HBW := Lib.hid (hb.trans (hbW.mono hb.size))
        have hlen : (cutL k).length + 1 ≤ 1050000 := by rw [cutL_len]; have := HH.out; omega
        have hwk : IntKind.i64.wrap ((k : Int) + 1 + 1) = (k : Int) + 1 + 1 := by rw [IntKind.wrap_i64]; have := HH.out; omega
        clear hO hb hbW hR
        go_wp2_with (at_builtin; refine wpList_append_en rfl _ _ rfl w.heap.size _ _ _ (cutL k) [⟨(k : Int) + 1, 1, 1, ⟨#[]⟩⟩] rfl HO.out rfl HE.out hlen HBW.out.size ?_; intro v' w' g1 g2 g3; (obtain ⟨A2, c2, hv2⟩ := g1.slice); (rw [List.length_append, cutL_len] at hv2); subst hv2; (have HG1 := Lib.hid g1); (have HG2 := Lib.hid g2); clear g1 g2 g3)
        go_roundw
        case rel => exact ⟨k + 1, by go_num, by omega, by rw [cutL_snoc]; exact HG1.out, HBW.out.trans HG2.out⟩
        case measure => first | (simp [intOf]; omega) | (simp [intOf]; done)
      · obtain rfl : k = n := by omega
        have HE := Lib.hid (Ens.of_own hO)
        obtain ⟨p1, p2, p3, p4, p5, p6⟩ := HP.out
        have HO := Lib.hid hO
        have HB := Lib.hid hb
        clear hO hb
        go_wp2_with fail
        refine (new_lk (fun j => j < wr.heap.size) zS13 A k c (cutL k) wr (fun _ h => h) (HE.out.mono fun j _ hl => hl) (by rw [cutL_len]; have := HH.out; omega) (by decide) (cutL_ok k (by have := HH.out; omega)) (by decide) (by decide) true p1).mono ?_
        rintro e w2 ⟨hb2, ⟨h, _⟩ | ⟨_, g, rfl, hL1⟩⟩
        · cases h
        have HL1 := Lib.hid hL1
        have HB2 := Lib.hid (HB.out.trans (hb2.mono HB.out.size))
        have HZ := Lib.hid (Nat.le_trans HB.out.size (Nat.le_refl _))
        clear hb2 hL1 HB HO HE
        obtain ⟨W, hW⟩ : ∃ W, w2.alloc (.cells #[.int .i64 (a : Int), .int .i64 2, .int .i64 1, .string ⟨#[]⟩] 51) = W := ⟨_, rfl⟩
        have hR : Rt W w2.heap.size 51 [.int .i64 (a : Int), .int .i64 2, .int .i64 1, .string ⟨#[]⟩] := by rw [← hW]; exact Rt.new _ _ _
        have hbW : Below w2.heap.size w2 W := by rw [← hW]; exact below_new _ _
        have HL2 := Lib.hid (HL1.out.others hbW)
        have HE := Lib.hid (en_one (N := Nw (fun j => j < wr.heap.size) w2 W) hR (.inr ⟨Nat.le_refl _, hR.lt⟩))
        have HB3 := Lib.hid (HB2.out.trans (hbW.mono HB2.out.size))
        obtain ⟨r', hr'⟩ : ∃ r', (cutPut k a).1 = r' := ⟨_, rfl⟩
        rw [hr'] at p3 p4 p5 p6
        have hput : put13 ⟨zS13, cutL k⟩ [⟨(a : Int), 2, 1, ⟨#[]⟩⟩] = (r', (a : Int), true) := by
          rw [← hr', ← p2]; rfl
        clear hR hbW HL1 HB2
        go_wp2_with fail
        refine (lPut_any _ 200 _ 1 1 _ HL2.out (by decide) HE.out (by simp) (by
          intro e he
          rw [List.mem_singleton] at he
          subst he
          exact ⟨show (⟨#[]⟩ : ByteArray).size ≤ 100000 by decide, by simp only; have := HH.out; omega, by simp only; have := HH.out; omega⟩) r' (a : Int) true hput).mono ?_
        rintro e w3 ⟨rfl, hL3, hS3⟩
        have HL3 := Lib.hid hL3
        have HB4 := Lib.hid (HB3.out.trans (hS3.below HB3.out.size fun j hj => .inl (by have := HZ.out; omega)))
        clear hL3 hS3 HL2 HB3 hW
        go_wp2_with fail
        refine (term_lk HL3.out (by decide) (a : Int) 2 true p3).mono ?_
        rintro e w4 ⟨rfl, h⟩
        have HL4 := Lib.hid (HL3.out.below h)
        have HB5 := Lib.hid (HB4.out.trans (h.mono HB4.out.size))
        clear HL3 HB4 h
        go_wp2_with fail
        refine (last_lk HL4.out (by decide) (a : Int) p4).mono ?_
        rintro e w5 ⟨rfl, h⟩
        have HL5 := Lib.hid (HL4.out.below h)
        have HB6 := Lib.hid (HB5.out.trans (h.mono HB5.out.size))
        clear HL4 HB5 h
        go_wp2_with fail
        refine (newer_lk HL5.out (by decide) (a : Int) 2 true p5).mono ?_
        rintro e w6 ⟨rfl, h⟩
        have HL6 := Lib.hid (HL5.out.below h)
        have HB7 := Lib.hid (HB6.out.trans (h.mono HB6.out.size))
        clear HL5 HB6 h
        go_wp2_with fail
        refine (newer_lk HL6.out (by decide) (k : Int) 1 false p6).mono ?_
        rintro e w7 ⟨rfl, h⟩
        have HB8 := Lib.hid (HB7.out.trans (h.mono HB7.out.size))
        clear HL6 HB7 h
        go_wp2
        go_ret
        exact ⟨rfl, HB8.out⟩
  · by_cases c1 : a0 < 1
    · go_wp2
      go_ret
      exact ⟨rfl, HB1.out⟩
    · by_cases c2 : 50 < a0
      · go_wp2
        go_ret
        exact ⟨rfl, HB1.out⟩
      · by_cases c3 : a1 < 1
        · go_wp2
          go_ret
          exact ⟨rfl, HB1.out⟩
        · have c4 : a0 < a1 := by omega
          go_wp2
          go_ret
          exact ⟨rfl, HB1.out⟩

set_option maxRecDepth 100000 in
theorem lifted (os : Os) (started : os.Started) (H : Type) (enc : TypeId × Value → H) :
    ReturnsInHanded {} Try.checked os 6 .any (Rows.logCutSpec.pre6 enc Try.prog Try.f6 Rows.logCutRow.domain false) (Rows.logCutSpec.post enc Try.prog Try.f6 false true false false) := by
  refine returnsInHanded_of_change (C := Try.checked) own started (by kernel_rfl) Try.func6
    (ChangeSpec.witness6 (enc := enc) (C := Try.checked) false ⟨#[], #[.int .i64 0, .int .i64 0], []⟩ 8 (by kernel_rfl) (by kernel_rfl) (by kernel_rfl) (by kernel_rfl)) ?_
  intro W base args ds gs before hval0 hW hcnd _
  have hval : ∀ (j : Nat) t v, Try.f6.params[j]? = some t → args[j]? = some v → Value.okWide Try.prog W .any base t v := hval0
  have hW' := hW
  obtain ⟨p, q, hA0, hV, rfl, hfz, hnd⟩ := hW
  have hA : DataW.TrodAll enc Try.prog W 0 (fun _ => true) true Try.f6.params.toList args.toList ds p := hA0
  have hA1 := hA
  rw [Try.params6] at hA hval
  obtain ⟨v0, vs0, d0, ds0, p0, q0, hargs, rfl, rfl, h0, r0⟩ := trodAll_cons hA
  obtain ⟨v1, vs1, d1, ds1, p1, q1, rfl, rfl, rfl, h1, r1⟩ := trodAll_cons r0
  obtain ⟨rfl, rfl, rfl⟩ := trodAll_nil r1
  obtain rfl : args = #[v0, v1] := by cases args; simp_all
  obtain ⟨rfl, rfl⟩ := trodVars_none hV
  obtain ⟨a0, rfl, rfl, rfl, w0⟩ := open_int Try.underlying3 (hval 0 3 v0 rfl rfl) h0
  obtain ⟨a1, rfl, rfl, rfl, w1⟩ := open_int Try.underlying3 (hval 1 3 v1 rfl rfl) h1
  clear hA0 hval0
  simp only [List.append_nil] at hW'
  try simp only [List.append_nil] at hA1
  refine (walk W a0 w0 a1 w1).mono fun e W' ⟨he, hg⟩ => ?_
  subst he
  exact ⟨_, rfl, law_end Try.laidOut (by kernel_rfl) hW' hA1 hg rfl rfl rfl (trodAll_mk1 (shut_bool Try.underlying4 _))⟩

theorem over : Rows.logCutRow.holds Try.pinned (OpenSpec.ofChange Rows.logCutSpec) :=
  OpenClaim.holds_of_wide 6 Try.f6 rfl rfl rfl rfl rfl rfl rfl ⟨rfl, rfl, rfl, rfl, rfl⟩ rfl rfl rfl rfl rfl (by kernel_rfl) Try.func6 (by kernel_rfl)
    (of_decide_eq_true (by kernel_rfl)) (by unfold Func.isWrapper; first | (rw [if_pos (by decide +kernel)]; kernel_rfl) | (rw [if_neg (by decide +kernel)]; exact ⟨rfl, rfl⟩))
    (fun os started H enc _ => lifted os started H enc)

/-- the statement -/
theorem proved : Rows.LogCutSaid := over
#print axioms proved
end Go.Proofs.Ytmmlkfkepncpgaa.logCut
