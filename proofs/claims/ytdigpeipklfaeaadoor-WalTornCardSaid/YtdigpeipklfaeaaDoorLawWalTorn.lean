/-
  Records of which the last one is torn: all others are told (WalTorn).
  There are no conditions.
-/
import Derived.Test.YtdigpeipklfaeaaDoorRows
import Derived.Test.YtdigpeipklfaeaaDoorCards
import Derived.Test.YtdigpeipklfaeaaDoorTie
import Derived.Test.YtdigpeipklfaeaaDoorBun1
import Derived.Test.YtdigpeipklfaeaaDoorBun4
import Derived.Test.YtdigpeipklfaeaaDoorBun8
import Derived.SevenTiedAt
import Derived.WalkKit
import Derived.ProofKit
import Derived.OpenShut
import Derived.ShutString
namespace Go.Proofs.YtdigpeipklfaeaaDoor.walTorn
open Go.ChangeShapes Go.WideShapes Go.ChangeAt Go.RowKit
open Go.ChangeMaps (open_string shut_string)
set_option linter.unusedVariables false

theorem own : ownKnob Tryd.prog.godebug = none := by kernel_rfl

set_option maxRecDepth 100000 in
set_option maxHeartbeats 8000000 in
theorem walk (w : World) (A0 : Option Addr) (c0 : Nat) (a0 : List Rcd) (w0 : Rcds w w.heap.size (.slice A0 a0.length c0) a0) (x0 : ∀ x ∈ a0, x.fit) (a1 : Int) (w1 : (Lit.int .i64 a1).wf = true) (hT : Tbl w) :
    Calls Tryd.prog 7 #[.slice A0 a0.length c0, .int .i64 a1] w fun e w' => e = .returned (.bool true) ∧ Below w.heap.size w w' := by
  have HA0 := Lib.hid w0; have HF0 := Lib.hid x0; have HW1 := Lib.hid w1; clear w0 x0 w1
  have hTT := fun (k : World) (h : Below w.heap.size w k) => tbl_keep hT h
  have HT := Lib.hid hT; clear hT
  go_enter Tryd.func7, Tryd.ntmps7
  go_wp2_with fail
  refine (begun10_any w HT.out).mono ?_
  rintro e w1 ⟨rfl, hb1⟩
  have HT1 := Lib.hid (tbl_keep HT.out hb1)
  have HB1 := Lib.hid hb1
  clear HT hb1
  have HL := Lib.hid (HA0.out.below HB1.out (Nat.le_refl _))
  have hww := HB1.out.size
  go_wp2_with fail
  go_loopw [6, 7, 8, 9] (fun v n la i wr => ∃ (k L : Nat) (rs : List Rcd), i = .int .i64 k ∧ n = .int .i64 rs.length ∧ la = .int .i64 L ∧ k ≤ a0.length ∧ k ≤ 8 ∧ rs.length ≤ k ∧ (∀ r ∈ rs, may10 r = true) ∧ Last10 rs L ∧ OwnB w1.heap.size v (encs10 rs) wr ∧ Below w1.heap.size w1 wr) (fun _ _ _ i _ => 8 - (intOf i).toNat)
  case atStart => exact ⟨0, 0, [], rfl, rfl, rfl, Nat.zero_le _, Nat.zero_le _, Nat.zero_le _, (fun r h => absurd h (by simp)), .inl ⟨rfl, rfl⟩, ownB_nil _ _, Below.refl _ _⟩
  case round =>
    obtain ⟨k, L, rs, rfl, rfl, rfl, hk, hk8, hrk, hmy, hls, hown, hb⟩ := hrel
    obtain ⟨A, c, hv⟩ := own_slice hown
    have hel := encs10_len rs
    obtain ⟨m, hm⟩ : ∃ m, (encs10 rs).length = m := ⟨_, rfl⟩
    rw [hm] at hv hel
    subst hv
    have HMY := Lib.hid hmy; have HLS := Lib.hid hls; have HM := Lib.hid hm; have HO := Lib.hid hown; have HBR := Lib.hid hb
    have hm9 : m ≤ 20856 := by omega
    obtain ⟨q, hq⟩ : ∃ q, rs.length = q := ⟨_, rfl⟩
    rw [hq] at hrk hel ⊢
    have HQ := Lib.hid hq
    clear hmy hls hm hown hb hq hel
    by_cases hkn : k < a0.length ∧ k < 8
    · obtain ⟨hk1, hk2⟩ := hkn
      have hi1 : (k : Int) < a0.length := by omega
      have hi2 : (k : Int) < 8 := by omega
      obtain ⟨g, o, hA0, hg, hr⟩ := (HL.out.below HBR.out hww).at_ k hk1
      subst hA0
      obtain ⟨⟨hd, ht, hv, ⟨ix, et, kd, dt0⟩⟩, hrr⟩ : ∃ r, a0[k] = r := ⟨_, rfl⟩
      rw [hrr] at hr
      have y0 := hr 0 _ rfl
      have y1 := hr 1 _ rfl
      have y2 := hr 2 _ rfl
      have y3 := hr 3 _ rfl
      have y4 := hr 4 _ rfl
      have y5 := hr 5 _ rfl
      have y6 := hr 6 _ rfl
      rw [Nat.add_zero] at y0
      clear hr hrr
      go_wp2_with fail
      refine (cut10_any hd ht hv ix et kd dt0 _).mono ?_
      rintro e k2 ⟨rfl, h2⟩
      obtain ⟨dt, hdt⟩ : ∃ dt, cutS dt0 300 = dt := ⟨_, rfl⟩
      have hds : dt.size ≤ 300 := by rw [← hdt]; exact cutS_size _ _
      rw [hdt]
      have HB2 := Lib.hid (HBR.out.trans (h2.mono HBR.out.size))
      have HO2 := Lib.hid (HO.out.below h2)
      clear h2 hdt y0 y1 y2 y3 y4 y5 y6
      obtain ⟨mm, hmm⟩ : ∃ mm, encR10 ⟨hd, ht, hv, ⟨ix, et, kd, dt⟩⟩ = mm := ⟨_, rfl⟩
      have HMM := Lib.hid hmm
      have hms : mm.length ≤ 2607 := by rw [← hmm]; exact enc10_short _
      clear hmm
      go_wp2_with fail
      refine (renc_v hd ht hv ix et kd dt mm _ (by omega) HMM.out).mono ?_
      rintro e k3 ⟨v3, rfl, ho3, h3⟩
      have HB3 := Lib.hid (HB2.out.trans (h3.mono HB2.out.size))
      have HO3 := Lib.hid (HO2.out.below h3)
      have HX3 := Lib.hid (Byt.of_own ho3)
      have hnz := own_nz ho3
      clear h3 ho3
      by_cases hy : may10 ⟨hd, ht, hv, ⟨ix, et, kd, dt⟩⟩ = true
      · have h6 : 6 ≤ mm.length := by rw [← HMM.out]; exact (enc10_len hy).1
        obtain ⟨A3, c3, rfl⟩ := byt_slice HX3.out
        have hz6 : ¬ ((mm.length : Int) = 0) := by omega
        have HY := Lib.hid hy
        have hown3 := HO3.out
        have hby3 := HX3.out
        have hbs := HB3.out.size
        clear hy hnz
        go_wp2_with (at_builtin; refine wpList_append_byt_at rfl _ _ rfl w1.heap.size _ _ _ _ _ rfl hown3 rfl hby3 ?x1 hbs ?_)
        case x1 => have := HM.out; omega
        intro v4 w4 hown4 hb4 _
        have HO4 := Lib.hid hown4
        have HB4 := Lib.hid (HB3.out.trans hb4)
        clear hown4 hb4 hown3 hby3 hbs
        go_wp2
        go_roundw
        case rel => exact ⟨k + 1, m, rs ++ [⟨hd, ht, hv, ⟨ix, et, kd, dt⟩⟩], by go_num, by rw [List.length_append, HQ.out]; go_num, rfl, by omega, by omega, by rw [List.length_append, HQ.out]; simp; omega, (fun r h => by
          rcases List.mem_append.1 h with h | h
          · exact HMY.out r h
          · rw [List.mem_singleton.1 h]; exact HY.out), .inr ⟨rs, _, rfl, HM.out.symm⟩, (by rw [encs10_snoc, HMM.out]; exact HO4.out), HB4.out⟩
        case measure => simp [intOf]; omega
      · have hz : mm = [] := by rw [← HMM.out]; unfold encR10; rw [if_pos (by simpa using hy)]
        subst hz
        rcases hnz rfl with rfl | ⟨g9, o9, c9, rfl⟩
        all_goals
          clear hnz
          go_wp2
          go_roundw
          case rel => exact ⟨k + 1, L, rs, by go_num, by rw [HQ.out], rfl, by omega, by omega, by rw [HQ.out]; omega, HMY.out, HLS.out, HO3.out, HB3.out⟩
          case measure => simp [intOf]; omega
    · have hcs : (a0.length : Int) ≤ k ∨ ((k : Int) < a0.length ∧ 8 ≤ (k : Int)) := by omega
      rcases hcs with h1 | ⟨h1, h2⟩
      all_goals
        rcases HLS.out with ⟨hrs, hL⟩ | ⟨rs', r, hrs, hL⟩
        · have hq0 : q = 0 := by rw [← HQ.out, hrs]; rfl
          subst hq0
          clear hrs
          go_wp2_with fail
          go_ret
          exact ⟨rfl, HB1.out.trans (HBR.out.mono HB1.out.size)⟩
        · have hqr : q = rs'.length + 1 := by rw [← HQ.out, hrs]; simp
          have hr0 := HMY.out r (by rw [hrs]; simp)
          have hr1 : ∀ p ∈ rs', may10 p = true := fun p hp => HMY.out p (by rw [hrs]; exact List.mem_append_left _ hp)
          have hmL : m = L + (encR10 r).length := by rw [← HM.out, hrs, encs10_snoc, List.length_append, hL]
          have hle := enc10_len hr0
          have hLm : L ≤ m := by omega
          have hown := HO.out
          have hcap := (byt_len (Byt.of_own hown)).2
          rw [HM.out] at hcap
          rw [hrs, encs10_snoc] at hown
          subst hqr
          have HOW := Lib.hid hown; have HR0 := Lib.hid hr0; have HR1 := Lib.hid hr1; have HLE := Lib.hid hle; have HML := Lib.hid hmL; have HL0 := Lib.hid hL
          have hq1 : ¬ ((rs'.length : Int) + 1 = 0) := by omega
          clear hown hr0 hr1 hle hmL hL hrs HLS HMY HM HQ HO
          by_cases hc1 : a1 < 1
          · go_wp2_with fail
            go_ret
            exact ⟨rfl, HB1.out.trans (HBR.out.mono HB1.out.size)⟩
          · by_cases hc2 : (m : Int) - L ≤ a1
            · go_wp2_with fail
              go_ret
              exact ⟨rfl, HB1.out.trans (HBR.out.mono HB1.out.size)⟩
            · obtain ⟨x, rfl⟩ : ∃ x : Nat, a1 = (x : Int) := ⟨a1.toNat, by omega⟩
              have hx1 : 1 ≤ x := by omega
              have hx2 : L + x < m := by omega
              have hx3 : ((m : Int) - x) = ((m - x : Nat) : Int) := by omega
              go_wp2_with fail
              have e : (encs10 rs' ++ encR10 r).length = m := by rw [List.length_append, ← HL0.out, HML.out]
              have hby := Byt.of_own HOW.out
              have hbt := byt_take10 (n := m - x) (l := encs10 rs' ++ encR10 r) (A := A) (c := c) (by rw [e]; exact hby) (by rw [e]; omega)
              have htk : (encs10 rs' ++ encR10 r).take (m - x) = encs10 rs' ++ (encR10 r).take (m - x - L) := by
                rw [List.take_append, ← HL0.out, List.take_of_length_le (by have := HL0.out; omega)]
              rw [htk] at hbt
              have hj : m - x - L < (encR10 r).length := by have := HML.out; omega
              have hj2 : 0 < m - x - L := by omega
              have ht := decR10_cut HR0.out hj
              have htl : ((encR10 r).take (m - x - L)).length = m - x - L := by rw [List.length_take]; omega
              obtain ⟨t, htt⟩ : ∃ t, (encR10 r).take (m - x - L) = t := ⟨_, rfl⟩
              rw [htt] at hbt ht htl
              have sc := scr_torn10 t 2 ht (by decide) rs' HR1.out
              rw [← HL0.out] at sc
              have hl9 : (encs10 rs' ++ t).length = m - x := by rw [List.length_append, ← HL0.out, htl]; omega
              refine (Swscan_any _ _ (encs10 rs' ++ t) wr hbt (Nat.le_refl _) (by rw [hl9]; omega) (hTT _ (HB1.out.trans (HBR.out.mono HB1.out.size))) (fun h => absurd (congrArg List.length h) (by rw [hl9]; simp; omega))).mono ?_
              rintro e w6 ⟨L', u', e', v', hs, rfl, ho, h6⟩
              obtain ⟨rfl, rfl, rfl⟩ := ScR.two hs sc
              obtain ⟨A6, c6, rfl⟩ := ho.slice
              have hb6 := (HB1.out.trans (HBR.out.mono HB1.out.size)).trans (h6.mono (HB1.out.trans (HBR.out.mono HB1.out.size)).size)
              clear hs sc ho h6 hl9 htt htl ht hj hj2 htk hbt hby e HL0 HML HLE HR1 HR0 HOW
              go_wp2_with fail
              go_ret
              exact ⟨rfl, hb6⟩

set_option maxRecDepth 100000 in
theorem lifted (os : Os) (started : os.Started) (H : Type) (enc : TypeId × Value → H) :
    ReturnsInHanded {} Tryd.checked os 7 .any (fun w args => (Rows.walTornSpec.pre enc Tryd.prog Tryd.f7 [] false w args ∧ laidMetH Tryd.prog laidS w) ∧ sizedMet enc Tryd.prog Tryd.f7 (OpenSpec.ofChange Rows.walTornSpec) false w args) (Rows.walTornSpec.post enc Tryd.prog Tryd.f7 false true false false) := by
  refine returnsInHanded_of_change_and (C := Tryd.checked) (X := fun w _ => laidMetH Tryd.prog laidS w) (fun _ _ _ hh h => h.of_heap hh) own started (by kernel_rfl) Tryd.func7
    (ChangeSpec.witness_at (enc := enc) (C := Tryd.checked) (os := os) (X := fun w _ => laidMetH Tryd.prog laidS w) false (laidWorld os) #[.slice none 0 0, .int .i64 0] 8 rfl (by kernel_rfl) (by kernel_rfl) (by kernel_rfl) (by kernel_rfl) (by kernel_rfl) (laid_met os _)) ?_
  intro W base args ds gs before hval0 hW hcnd _ hL _
  have hT := tbl_of_laid hL
  have hval : ∀ (j : Nat) t v, Tryd.f7.params[j]? = some t → args[j]? = some v → Value.okWide Tryd.prog W .any base t v := hval0
  have hW' := hW
  obtain ⟨p, q, hA0, hV, rfl, hfz, hnd⟩ := hW
  have hA : DataW.TrodAll enc Tryd.prog W 0 (fun _ => true) true Tryd.f7.params.toList args.toList ds p := hA0
  have hA1 := hA
  rw [Tryd.params7] at hA hval
  obtain ⟨v0, vs0, d0, ds0, p0, q0, hargs, rfl, rfl, h0, r0⟩ := trodAll_cons hA
  obtain ⟨v1, vs1, d1, ds1, p1, q1, rfl, rfl, rfl, h1, r1⟩ := trodAll_cons r0
  obtain ⟨rfl, rfl, rfl⟩ := trodAll_nil r1
  obtain rfl : args = #[v0, v1] := by cases args; simp_all
  obtain ⟨rfl, rfl⟩ := trodVars_none hV
  obtain ⟨A0, c0, a0, rfl, w0, x0⟩ := open_rcds (hval 0 43 v0 rfl rfl) h0
  obtain ⟨a1, rfl, rfl, rfl, w1⟩ := open_int Tryd.underlying3 (hval 1 3 v1 rfl rfl) h1
  clear hA0 hval0
  simp only [List.append_nil] at hW'
  try simp only [List.append_nil] at hA1
  refine (walk W A0 c0 a0 w0 x0 a1 w1 hT).mono fun e W' ⟨he, hg⟩ => ?_
  subst he
  exact ⟨_, rfl, law_end Tryd.laidOut (by kernel_rfl) hW' hA1 hg rfl rfl rfl (trodAll_mk1 (shut_bool Tryd.underlying4 _))⟩

theorem over : Rows.walTornRow.holds Tryd.pinned (OpenSpec.ofChange Rows.walTornSpec) :=
  OpenClaim.holds_of_wide 7 Tryd.f7 rfl rfl rfl rfl rfl rfl rfl ⟨rfl, rfl, rfl, rfl, rfl⟩ rfl rfl rfl rfl rfl (by kernel_rfl) Tryd.func7 (by kernel_rfl)
    (of_decide_eq_true (by kernel_rfl)) (by unfold Func.isWrapper; first | (rw [if_pos (by decide +kernel)]; kernel_rfl) | (rw [if_neg (by decide +kernel)]; exact ⟨rfl, rfl⟩))
    (fun os started H enc _ => lifted os started H enc)


/-- the statement: the card, closed by the builder's one call -/
theorem proved : Rows.WalTornCardSaid :=
  Claim7.holds_tied_plain_at .later [] [.data] true Rows.walTornCard.stood.harness Rows.walTornCard.stood.looks
    over (fun _ h => by cases h) (by kernel_rfl) (fun _ h => by cases h) walTorn_row_tie rfl ⟨rfl, rfl⟩ (by kernel_rfl) rfl
    (fun f fn hf hfn => by
      obtain rfl : f = 7 := Option.some.inj ((show Tryd.prog.funcNamed "packhorse/packhorselaw10.WalTorn" = some 7 by kernel_rfl).symm.trans hf) |>.symm
      obtain rfl : fn = Tryd.f7 := (Option.some.inj (Tryd.func7.symm.trans hfn)).symm
      refine ⟨by kernel_rfl, fun j t ht => ?_⟩
      have h := List.all_eq_true.1 (show (Tryd.f7.params.toList.all fun t => !Tryd.prog.wantsStandIn t) = true by kernel_rfl) t (List.mem_of_getElem? (by simpa using ht))
      exact (show Tryd.prog.wantsStandIn t = false by simpa using h))
    (by kernel_rfl)
#print axioms proved
end Go.Proofs.YtdigpeipklfaeaaDoor.walTorn
