/-
  Two hundred entries there may be behind a snapshot (KeepFull).
  There are no conditions.
-/
import Derived.Test.YtmoaacaopphgbaaDoorRows
import Derived.Test.YtmoaacaopphgbaaDoorCards
import Derived.Test.YtmoaacaopphgbaaDoorTie
import Derived.Test.YtmoaacaopphgbaaDoorBun1
import Derived.SevenTiedAt
import Derived.Test.YtmoaacaopphgbaaDoorBun5
import Derived.WalkKit
import Derived.ProofKit
import Derived.OpenShut
import Derived.ShutString
namespace Go.Proofs.YtmoaacaopphgbaaDoor.keepFull
open Go.ChangeShapes Go.WideShapes Go.ChangeAt Go.RowKit
open Go.ChangeMaps (open_string shut_string)
set_option linter.unusedVariables false

theorem own : ownKnob Tryd.prog.godebug = none := by kernel_rfl
def fullK (m : Nat) : Kst := ⟨0, 0, zSnp, (List.range m).map fun j => ⟨((j + 1 : Nat) : Int), 1, 1, ByteArray.empty⟩⟩
theorem full_write (m : Nat) (hm : m < 220) : write11 (fullK (min m 200)) [⟨((m : Int) + 1), 1, 1, ByteArray.empty⟩] = (if m < 200 then 0 else if m = 200 then 5 else 1, fullK (min (m + 1) 200)) := by
  have hl : last11 (fullK (min m 200)) = ((min m 200 : Nat) : Int) := by simp [last11, fullK, zSnp]
  have hrw : row11 ((m : Int) + 1) [(⟨((m : Int) + 1), 1, 1, ByteArray.empty⟩ : Ent)] = true := by
    simp [row11, mayEnt10]
    omega
  unfold write11
  simp only [fits11, hl, hrw]
  have hz : (fullK (min m 200)).s.ix = 0 := rfl
  rw [hz]
  by_cases h1 : m < 200
  · have h2 : min m 200 = m := by omega
    have h3 : min (m + 1) 200 = m + 1 := by omega
    rw [if_pos ⟨by simp; omega, trivial⟩, if_neg (by simp; omega), if_pos h1, h2, h3]
    refine congrArg _ ?_
    have hq : ((m : Int) + 1 - (fullK m).s.ix - 1).toNat = m := by show ((m : Int) + 1 - 0 - 1).toNat = m; omega
    have hlq : (fullK m).log.length = m := by simp [fullK]
    unfold put11
    rw [hq, List.take_of_length_le (by omega)]
    unfold fullK
    rw [List.range_succ, List.map_append]
    rfl
  · have h2 : min m 200 = 200 := by omega
    have h3 : min (m + 1) 200 = 200 := by omega
    rw [h2, h3, if_neg h1]
    by_cases h4 : m = 200
    · subst h4
      rw [if_pos ⟨by simp, trivial⟩, if_pos (by simp), if_pos rfl]
    · rw [if_neg (by simp; omega), if_neg h4]

set_option maxRecDepth 100000 in
set_option maxHeartbeats 8000000 in
theorem walk (w : World) (a0 : Int) (w0 : (Lit.int .i64 a0).wf = true) (hT : Tbl w) :
    Calls Tryd.prog 7 #[.int .i64 a0] w fun e w' => e = .returned (.bool true) ∧ Below w.heap.size w w' := by
  have W0 := Lib.hid w0; clear w0
  have HT0 := Lib.hid hT
  have HT := Lib.hid hT; clear hT
  go_enter Tryd.func7, Tryd.ntmps7
  go_wp2_with fail
  refine (begun11_any w HT.out).mono ?_
  rintro e w1 ⟨rfl, hb1⟩
  have HT1 := Lib.hid (tbl_keep HT.out hb1)
  have HB1 := Lib.hid hb1
  clear HT hb1
  go_wp2_with fail
  · go_ret
    exact ⟨rfl, HB1.out⟩
  · have hst : 0 < w1.heap.size := cell_lt (HT1.out 0 (by omega))
    have hst0 : 0 < w.heap.size := cell_lt (HT0.out 0 (by omega))
    obtain ⟨B, hBw⟩ : ∃ B, w.heap.size = B := ⟨_, rfl⟩
    have HBW := Lib.hid hBw
    have HZ : ∀ k, Below B w k → B ≤ k.heap.size := fun k h => by rw [← hBw]; exact h.size
    have HST := Lib.hid hst0
    have hnw := new_kd w1 (fun j => j < B) (fun j hj => by have := HB1.out.size; omega) (by omega) HT1.out
    obtain ⟨d, hd⟩ : ∃ d, w1.heap.size = d := ⟨_, rfl⟩
    have HN := Lib.hid hnw
    rw [hd] at HN
    clear hnw hst hst0
    go_wp2_with fail
    refine HN.out.mono ?_
    rintro e k1 ⟨rfl, hd1, hb1⟩
    have HB1' := HB1.out
    rw [hBw] at HB1'
    have hb1 := HB1'.trans (hb1.mono (by rw [← hd]; exact HZ _ HB1'))
    have HD1 := Lib.hid hd1
    have HB2 := Lib.hid hb1
    clear hd1 hb1 HB1' hd
    go_wp2_with fail
    refine (open_none_kk HD1.out).mono ?_
    rintro e k2 ⟨g, rfl, hk2, hs2⟩
    have hb2 := HB2.out.trans (hs2.below (HZ _ HB2.out) (fun j hj => hj))
    have HK3 := Lib.hid hk2
    have HB3 := Lib.hid hb2
    clear hk2 hs2 hb2 HD1 HB2 HN
    go_wp2_with fail
    go_loopw [6] (fun i wr => ∃ (m : Nat) (x : Fk), i = .int .i64 ((m : Int) + 1) ∧ (m : Int) ≤ a0 ∧ KK (fun j => j < B) wr g d (fullK (min m 200)) x (2 * m) ∧ Below B w wr) (fun i _ => 221 - (intOf i).toNat)
    case atStart => exact ⟨0, none, by simp, by omega, HK3.out, HB3.out⟩
    case round =>
      obtain ⟨m, x, rfl, hm, hk, hb⟩ := hrel
      have HK4 := Lib.hid hk
      have HB4 := Lib.hid hb
      clear hk hb HK3 HB3
      by_cases hlt : ((m : Int) + 1) ≤ a0
      · have hm2 : m < 220 := by omega
        obtain ⟨W4, hW4⟩ : ∃ W4, wr.alloc (.cells #[.int .i64 ((m : Int) + 1), .int .i64 1, .int .i64 1, .string ⟨#[]⟩] 41) = W4 := ⟨_, rfl⟩
        have hb4 : Below wr.heap.size wr W4 := by rw [← hW4]; exact below_new _ _
        have hr4 : Rt W4 wr.heap.size 41 [.int .i64 ((m : Int) + 1), .int .i64 1, .int .i64 1, .string ⟨#[]⟩] := by rw [← hW4]; exact Rt.new _ _ _
        have hK4 := HK4.out.others hb4
        have hw4 := write_kk hK4 (by omega) (some ⟨wr.heap.size, 0, none⟩) 1 1 [⟨((m : Int) + 1), 1, 1, ByteArray.empty⟩] (ens_one hr4 (.inr ⟨Nat.le_refl _, hr4.lt⟩)) (by simp) (fun e he => by rw [List.mem_singleton.1 he]; show ByteArray.empty.size ≤ _; decide) (fun e he => by rw [List.mem_singleton.1 he]; constructor <;> simp only <;> omega) _ _ (full_write m hm2)
        have HW4 := Lib.hid hw4
        have HB5 := Lib.hid (HB4.out.trans (hb4.mono (HZ _ HB4.out)))
        clear hw4 hb4 hr4 hK4
        obtain ⟨rr, hrr⟩ : ∃ rr : Int, (if m < 200 then 0 else if m = 200 then 5 else 1) = rr := ⟨_, rfl⟩
        rw [hrr] at HW4
        have hcase : (m < 200 ∧ rr = 0) ∨ (m = 200 ∧ rr = 5) ∨ (200 < m ∧ rr = 1) := by
          by_cases h1 : m < 200
          · rw [if_pos h1] at hrr; exact .inl ⟨h1, hrr.symm⟩
          · rw [if_neg h1] at hrr
            by_cases h2 : m = 200
            · rw [if_pos h2] at hrr; exact .inr (.inl ⟨h2, hrr.symm⟩)
            · rw [if_neg h2] at hrr; exact .inr (.inr ⟨by omega, hrr.symm⟩)
        clear hrr
        go_wp2_with fail
        refine HW4.out.mono ?_
        rintro e w5 ⟨rfl, hk5, hs5⟩
        have HB6 := Lib.hid (HB5.out.trans (hs5.below (HZ _ HB5.out) (fun j hj => .inl hj)))
        have HK5 := Lib.hid (hk5.less (fun j hj => .inl hj) (by rw [← HBW.out]; exact HST.out))
        clear hk5 hs5 HW4 hW4
        rcases hcase with ⟨h1, rfl⟩ | ⟨h1, rfl⟩ | ⟨h1, rfl⟩
        all_goals
          go_wp2_with fail
          go_roundw
          case rel => exact ⟨m + 1, _, by go_num, by omega, HK5.out, HB6.out⟩
          case measure => simp [intOf]; omega
      · have hm2 : (m : Int) = a0 := by omega
        have hst := state_kk HK4.out
        have hfl : (fullK (min m 200)).log.length = min m 200 := by simp [fullK]
        have HST2 := Lib.hid hst
        clear hst HK4
        go_wp2_with fail
        refine HST2.out.mono ?_
        rintro e w5 ⟨v9, rfl, hv9, hb9⟩
        have HB5 := Lib.hid (HB4.out.trans (hb9.mono (HZ _ HB4.out)))
        obtain ⟨A9, c9, rfl⟩ := hv9.slice
        rw [hfl]
        have hfd : ∀ W, (Instr.field 52 (.agg #[.int .i64 (fullK (min m 200)).ht, .int .i64 (fullK (min m 200)).hv, .int .i64 (fullK (min m 200)).s.ix, .int .i64 (fullK (min m 200)).s.st, .string (fullK (min m 200)).s.conf, .string (fullK (min m 200)).s.data, .slice A9 (min m 200) c9]) 2).run Tryd.prog W = .ok (.slice A9 (min m 200) c9) W := fun _ => by kernel_rfl
        clear hv9 hb9 HST2
        go_wp2_with fail
        go_ret
        have hq : (((min m 200 : Nat) : Int) == min a0 200) = true := by rw [beq_iff_eq]; omega
        exact ⟨congrArg (fun b => Ending.returned (Value.bool b)) hq, by rw [HBW.out]; exact HB5.out⟩
  · go_ret
    exact ⟨rfl, HB1.out⟩

set_option maxRecDepth 100000 in
theorem lifted (os : Os) (started : os.Started) (H : Type) (enc : TypeId × Value → H) :
    ReturnsInHanded {} Tryd.checked os 7 .any (fun w args => (Rows.keepFullSpec.pre enc Tryd.prog Tryd.f7 [] false w args ∧ laidMetH Tryd.prog laidS w) ∧ sizedMet enc Tryd.prog Tryd.f7 (OpenSpec.ofChange Rows.keepFullSpec) false w args) (Rows.keepFullSpec.post enc Tryd.prog Tryd.f7 false true false false) := by
  refine returnsInHanded_of_change_and (C := Tryd.checked) (X := fun w _ => laidMetH Tryd.prog laidS w) (fun _ _ _ hh h => h.of_heap hh) own started (by kernel_rfl) Tryd.func7
    (ChangeSpec.witness_at (enc := enc) (C := Tryd.checked) (os := os) (X := fun w _ => laidMetH Tryd.prog laidS w) false (laidWorld os) #[.int .i64 0] 8 rfl (by kernel_rfl) (by kernel_rfl) (by kernel_rfl) (by kernel_rfl) (by kernel_rfl) (laid_met os _)) ?_
  intro W base args ds gs before hval0 hW hcnd _ hL _
  have hT := tbl_of_laid hL
  have hval : ∀ (j : Nat) t v, Tryd.f7.params[j]? = some t → args[j]? = some v → Value.okWide Tryd.prog W .any base t v := hval0
  have hW' := hW
  obtain ⟨p, q, hA0, hV, rfl, hfz, hnd⟩ := hW
  have hA : DataW.TrodAll enc Tryd.prog W 0 (fun _ => true) true Tryd.f7.params.toList args.toList ds p := hA0
  have hA1 := hA
  rw [Tryd.params7] at hA hval
  obtain ⟨v0, vs0, d0, ds0, p0, q0, hargs, rfl, rfl, h0, r0⟩ := trodAll_cons hA
  obtain ⟨rfl, rfl, rfl⟩ := trodAll_nil r0
  obtain rfl : args = #[v0] := by cases args; simp_all
  obtain ⟨rfl, rfl⟩ := trodVars_none hV
  obtain ⟨a0, rfl, rfl, rfl, w0⟩ := open_int Tryd.underlying3 (hval 0 3 v0 rfl rfl) h0
  clear hA0 hval0
  simp only [List.append_nil] at hW'
  try simp only [List.append_nil] at hA1
  refine (walk W a0 w0 hT).mono fun e W' ⟨he, hg⟩ => ?_
  subst he
  exact ⟨_, rfl, law_end Tryd.laidOut (by kernel_rfl) hW' hA1 hg rfl rfl rfl (trodAll_mk1 (shut_bool Tryd.underlying4 _))⟩

theorem over : Rows.keepFullRow.holds Tryd.pinned (OpenSpec.ofChange Rows.keepFullSpec) :=
  OpenClaim.holds_of_wide 7 Tryd.f7 rfl rfl rfl rfl rfl rfl rfl ⟨rfl, rfl, rfl, rfl, rfl⟩ rfl rfl rfl rfl rfl (by kernel_rfl) Tryd.func7 (by kernel_rfl)
    (of_decide_eq_true (by kernel_rfl)) (by unfold Func.isWrapper; first | (rw [if_pos (by decide +kernel)]; kernel_rfl) | (rw [if_neg (by decide +kernel)]; exact ⟨rfl, rfl⟩))
    (fun os started H enc _ => lifted os started H enc)


/-- the statement: the card, closed by the builder's one call -/
theorem proved : Rows.KeepFullCardSaid :=
  Claim7.holds_tied_plain_at .later [] [.data] true Rows.keepFullCard.stood.harness Rows.keepFullCard.stood.looks
    over (fun _ h => by cases h) (by kernel_rfl) (fun _ h => by cases h) keepFull_row_tie rfl ⟨rfl, rfl⟩ (by kernel_rfl) rfl
    (fun f fn hf hfn => by
      obtain rfl : f = 7 := Option.some.inj ((show Tryd.prog.funcNamed "packhorse/packhorselaw11.KeepFull" = some 7 by kernel_rfl).symm.trans hf) |>.symm
      obtain rfl : fn = Tryd.f7 := (Option.some.inj (Tryd.func7.symm.trans hfn)).symm
      refine ⟨by kernel_rfl, fun j t ht => ?_⟩
      have h := List.all_eq_true.1 (show (Tryd.f7.params.toList.all fun t => !Tryd.prog.wantsStandIn t) = true by kernel_rfl) t (List.mem_of_getElem? (by simpa using ht))
      exact (show Tryd.prog.wantsStandIn t = false by simpa using h))
    (by kernel_rfl)
#print axioms proved
end Go.Proofs.YtmoaacaopphgbaaDoor.keepFull
