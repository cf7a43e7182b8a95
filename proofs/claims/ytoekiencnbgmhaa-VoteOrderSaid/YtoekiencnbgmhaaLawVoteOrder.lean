/-
  In whatever order votes come, they are won or lost alike.
-/
import Derived.Test.YtoekiencnbgmhaaRows
import Derived.Test.YtoekiencnbgmhaaL14One
import Derived.Test.YtoekiencnbgmhaaLawKit
import Derived.WalkKit
import Derived.ProofKit
import Derived.OpenShut
import Derived.ShutString
namespace Go.Proofs.Ytoekiencnbgmhaa.voteOrder
open Go.ChangeShapes Go.WideShapes Go.ChangeAt Go.RowKit
open Go.ChangeMaps (open_string shut_string)
set_option linter.unusedVariables false

theorem own : ownKnob Try.prog.godebug = none := by kernel_rfl

set_option maxRecDepth 100000 in
set_option maxHeartbeats 8000000 in
theorem walk (w : World) (a0 : Int) (w0 : (Lit.int .i64 a0).wf = true) (A1 : Option Addr) (c1 : Nat) (a1 : List Bool) (w1 : Bls w w.heap.size (.slice A1 a1.length c1) a1) (a2 : Int) (w2 : (Lit.int .i64 a2).wf = true) :
    Calls Try.prog 6 #[.int .i64 a0, .slice A1 a1.length c1, .int .i64 a2] w fun e w' => e = .returned (.bool true) ∧ Below w.heap.size w w' := by
  obtain ⟨m, hm⟩ : ∃ m, a1.length = m := ⟨_, rfl⟩
  rw [hm] at w1 ⊢
  have IY := Lib.hid w1
  have HM := Lib.hid hm
  clear w0 w2 w1 hm
  go_enter Try.func6, Try.ntmps6
  go_wp2_with fail
  refine (begun14_any _).mono ?_
  rintro e k1 ⟨rfl, hb⟩
  have HB1 := Lib.hid hb
  clear hb
  by_cases hn1 : a0 < 1
  · go_wp2
    go_ret
    exact ⟨rfl, HB1.out⟩
  by_cases hn7 : 7 < a0
  · go_wp2
    go_ret
    exact ⟨rfl, HB1.out⟩
  by_cases ht0 : a2 < 0
  · go_wp2
    go_ret
    exact ⟨rfl, HB1.out⟩
  obtain ⟨n, rfl⟩ : ∃ n : Nat, a0 = (n : Int) := ⟨a0.toNat, by omega⟩
  obtain ⟨t, rfl⟩ : ∃ t : Nat, a2 = (t : Int) := ⟨a2.toNat, by omega⟩
  have ht9 : 0 ≤ (t : Int) := by omega
  have hd1 : decide ((n : Int) < 1) = false := decide_eq_false hn1
  have hd7 : decide (7 < (n : Int)) = false := decide_eq_false hn7
  have hd0 : decide ((t : Int) < 0) = false := decide_eq_false ht0
  go_wp2_with fail
  go_loopw [8, 9] (fun l i wr => ∃ k : Nat, k ≤ n ∧ i = .int .i64 ((k : Int) + 1) ∧ OwnZ k1.heap.size l (upto14 k) wr ∧ Below k1.heap.size k1 wr) (fun _ i _ => n + 1 - (intOf i).toNat)
  case atStart => exact ⟨0, Nat.zero_le _, rfl, OwnZ.nil _ _, Below.refl _ _⟩
  case round =>
    obtain ⟨k, hk, rfl, ho, hb⟩ := hrel
    obtain ⟨Al, cl, hl⟩ := ho.slice
    rw [upto14_len] at hl
    subst hl
    have HO := Lib.hid ho
    have HBW := Lib.hid hb
    clear ho hb
    by_cases hlt : k < n
    · have hki : ((k : Int) + 1) ≤ (n : Int) := by omega
      obtain ⟨wa, hwa⟩ : ∃ q, wr.alloc (.cells #[.int .i64 ((k : Int) + 1)] 3) = q := ⟨_, rfl⟩
      have hba := below_at hwa
      have hia := ints_at [.int .i64 ((k : Int) + 1)] 3 [((k : Int) + 1)] 1 rfl rfl hwa
      have HOA := Lib.hid (HO.out.below hba)
      have HIA := Lib.hid hia
      have HBB := Lib.hid (HBW.out.trans (hba.mono HBW.out.size))
      clear hba hia HO HBW
      go_wp2_with (at_builtin; refine wpList_append_ints rfl _ _ rfl k1.heap.size wa.heap.size _ _ _ [((k : Int) + 1)] rfl HOA.out rfl HIA.out ?x1 ?x2 ?_)
      case x1 => rw [upto14_len]; show k + 1 ≤ _; omega
      case x2 => exact HBB.out.size
      intro u5 w5 ho5 hb5
      have HS := Lib.hid (show upto14 k ++ [((k : Int) + 1)] = upto14 (k + 1) by rw [upto14_succ])
      rw [HS.out] at ho5
      go_wp2
      go_roundw
      case rel => exact ⟨k + 1, by omega, by go_num, ho5, HBB.out.trans hb5⟩
      case measure => simp [intOf]; omega
    · have hkn : k = n := by omega
      subst hkn
      have hki : ¬ ((k : Int) + 1) ≤ (k : Int) := by omega
      have HIL := Lib.hid (Ints.of_own HO.out)
      have HB2 := Lib.hid (HB1.out.trans (HBW.out.mono HB1.out.size))
      have HLN := Lib.hid (upto14_len k)
      have HMY := Lib.hid (show (if may12 (upto14 k) = true then upto14 k else []) = upto14 k by rw [if_pos (upto14_may (by omega) (by omega))])
      clear HO HBW HB1
      go_wp2_with fail
      refine (vnew_n HIL.out HLN.out (by omega) HMY.out).mono ?_
      rintro e k2 ⟨ga, va, rfl, hv, hb⟩
      have HA := Lib.hid hv
      have HIL2 := Lib.hid ((HIL.out.keep hb (Nat.le_refl _)).more hb.size)
      have HZA := Lib.hid (show w.heap.size ≤ wr.heap.size from HB2.out.size)
      have HB3 := Lib.hid (HB2.out.trans (hb.mono HB2.out.size))
      clear hv hb HIL
      go_wp2_with fail
      refine (vnew_n HIL2.out HLN.out (by omega) HMY.out).mono ?_
      rintro e k3 ⟨gb, vb, rfl, hv, hb⟩
      have HV := Lib.hid hv
      have HAL := Lib.hid (show ga < k2.heap.size ∧ ∀ j, va.ownBlock = some j → j < k2.heap.size from ⟨HA.out.box.lt, fun j hj => (World.ownsRow.lt HA.out.row j hj).2⟩)
      have HA2 := Lib.hid (HA.out.below hb)
      have HZB := Lib.hid (show w.heap.size ≤ k2.heap.size from HB3.out.size)
      have HB4 := Lib.hid (HB3.out.trans (hb.mono HB3.out.size))
      clear hv hb HIL2 HA
      have HK0 := Lib.hid hn1
      obtain ⟨q, hq⟩ : ∃ q, t % k = q := ⟨_, rfl⟩
      have hk0 : 0 < k := by omega
      have hqk : q < k := by rw [← hq]; exact Nat.mod_lt _ hk0
      have hr1 : Int.tmod (t : Int) (k : Int) = (q : Int) := by rw [← hq]; rfl
      generalize hBa : wr.heap.size = Ba at HA2 HZA
      have HZ1 := Lib.hid (Nat.le_trans HB2.out.size (Nat.le_refl _))
      clear hBa hq HB2 HB3 HMY
      have hkz : ¬ (k : Int) = 0 := by omega
      have hkb : ((k : Int) == 0) = false := by simpa using hkz
      go_wp2_with fail
      go_loopw [12] (fun i wx => ∃ j : Nat, j ≤ k ∧ i = .int .i64 (j : Int) ∧ ∃ sa sb, VB Ba wx ga va (upto14 k) sa ∧ VB k2.heap.size wx gb vb (upto14 k) sb ∧ Told14 a1 sa ∧ Told14 a1 sb ∧ (∀ x, x < j → sa ((x : Int) + 1) = word14 a1 x) ∧ (∀ x, x < j → sb ((((x + q) % k : Nat) : Int) + 1) = word14 a1 ((x + q) % k)) ∧ Below w.heap.size w wx) (fun i _ => k - (intOf i).toNat)
      case atStart => exact ⟨0, Nat.zero_le _, rfl, _, _, HA2.out, HV.out, Told14.zero _, Told14.zero _, fun x h => absurd h (Nat.not_lt_zero x), fun x h => absurd h (Nat.not_lt_zero x), HB4.out⟩
      case round =>
        obtain ⟨j, hj, rfl, sa, sb, hva, hvb, hta, htb, hsa, hsb, hbw⟩ := hrel
        have HVA := Lib.hid hva
        have HVB := Lib.hid hvb
        have HTA := Lib.hid hta
        have HTB := Lib.hid htb
        have HSA := Lib.hid hsa
        have HSB := Lib.hid hsb
        have HBX := Lib.hid hbw
        clear hva hvb hta htb hsa hsb hbw HA2 HV
        by_cases hjk : j < k
        · have hji : (j : Int) < (k : Int) := by omega
          obtain ⟨p, hp⟩ : ∃ p, (j + q) % k = p := ⟨_, rfl⟩
          have hpk : p < k := by rw [← hp]; exact Nat.mod_lt _ hk0
          have hr2 : Int.tmod ((j : Int) + (q : Int)) (k : Int) = (p : Int) := by rw [← hp]; rfl
          have hwr : IntKind.i64.wrap ((j : Int) + (q : Int)) = (j : Int) + (q : Int) := by rw [IntKind.wrap_i64]; omega
          have HP := Lib.hid hp
          clear hp
          go_wp2_with fail
          refine (one14_any HVA.out (IY.out.keep HBX.out (Nat.le_refl _)) HM.out j (by omega)).mono ?_
          rintro e k4 ⟨⟨u, rfl⟩, h1, h2, h3⟩
          have HVA2 := Lib.hid h1
          have HVB2 := Lib.hid (HVB.out.other h2 (fun e => by have := HAL.out.1; have := HVB.out.base; omega) (fun e => by have := HAL.out.1; have := (World.ownsRow.lt HVB.out.row _ e).1; omega))
          have HBY := Lib.hid (HBX.out.trans (h3.mono HZA.out))
          clear h1 h2 h3 HVA HVB HBX
          go_wp2_with fail
          refine (one14_any HVB2.out (IY.out.keep HBY.out (Nat.le_refl _)) HM.out p (by omega)).mono ?_
          rintro e k5 ⟨⟨u, rfl⟩, h1, h2, h3⟩
          have HVB3 := Lib.hid h1
          have HVA3 := Lib.hid (HVA2.out.other h2 (fun e => by have := HAL.out.1; have := HVB2.out.base; omega) (fun e => by have := HAL.out.2 _ e; have := HVB2.out.base; omega))
          have HBZ := Lib.hid (HBY.out.trans (h3.mono HZB.out))
          have HSA2 := Lib.hid (show ∀ x, x < j + 1 → take14 (upto14 k) sa ((j : Int) + 1) (word14 a1 j) ((x : Int) + 1) = word14 a1 x from fun x hx => by
            rcases Nat.lt_succ_iff_lt_or_eq.1 hx with h9 | h9
            · exact HTA.out.keep (HSA.out x h9)
            · subst h9; exact HTA.out.has (upto14_mem.2 ⟨by omega, by omega⟩))
          have HSB2 := Lib.hid (show ∀ x, x < j + 1 → take14 (upto14 k) sb ((p : Int) + 1) (word14 a1 p) ((((x + q) % k : Nat) : Int) + 1) = word14 a1 ((x + q) % k) from fun x hx => by
            rcases Nat.lt_succ_iff_lt_or_eq.1 hx with h9 | h9
            · exact HTB.out.keep (HSB.out x h9)
            · subst h9; rw [HP.out]; exact HTB.out.has (upto14_mem.2 ⟨by omega, by omega⟩))
          clear h1 h2 h3 HVB2 HVA2 HBY HSA HSB
          go_wp2
          go_roundw
          case rel => exact ⟨j + 1, by omega, by go_num, _, _, HVA3.out, HVB3.out, HTA.out.take _ _, HTB.out.take _ _, HSA2.out, HSB2.out, HBZ.out⟩
          case measure => simp [intOf]; omega
        · have hjk2 : j = k := by omega
          subst hjk2
          have HLA := Lib.hid (told14_lost (Y := a1) (by omega) HSA.out)
          have HWA := Lib.hid (told14_won HSA.out)
          have hsb2 : ∀ y, y < j → sb ((y : Int) + 1) = word14 a1 y := fun y hy => by
            obtain ⟨x, hx, e⟩ := turn14 hk0 hqk hy
            have := HSB.out x hx
            rw [e] at this
            exact this
          have HLB := Lib.hid (told14_lost (Y := a1) (by omega) hsb2)
          have HWB := Lib.hid (told14_won hsb2)
          clear hsb2 HSA HSB HTA HTB hr1 hqk hkb
          go_wp2_with fail
          go_loop [13, 14] (fun u i => ∃ x : Nat, x ≤ j ∧ (x ≤ m ∨ x = 0) ∧ i = .int .i64 (x : Int) ∧ u = .int .i64 (yes14 a1 x : Nat)) (fun _ i => j - (intOf i).toNat)
          case atStart => exact ⟨0, Nat.zero_le _, .inr rfl, rfl, rfl⟩
          case round =>
            obtain ⟨x, hx, hxm, rfl, rfl⟩ := hrel
            have hyl := yes14_le a1 x
            by_cases hxj : x < j
            · have hxi : (x : Int) < (j : Int) := by omega
              by_cases hxm2 : x < m
              · have hxmi : (x : Int) < (m : Int) := by omega
                obtain ⟨gy, oy, hA, hgy, hcy⟩ := IY.out.at_ x (by rw [HM.out]; exact hxm2)
                subst hA
                replace hcy := (HBX.out.cell (p := ⟨gy, oy + x, none⟩) hgy).trans hcy
                obtain ⟨b, hb⟩ : ∃ b, a1[x]'(by rw [HM.out]; exact hxm2) = b := ⟨_, rfl⟩
                rw [hb] at hcy
                have hgd : a1.getD x false = b := by rw [List.getD_eq_getElem?_getD, List.getElem?_eq_getElem (by rw [HM.out]; exact hxm2), hb]; rfl
                have hys := yes14_succ a1 x
                rw [hgd] at hys
                have HYS := Lib.hid hys
                clear hys hgd hb
                cases b with
                | true =>
                  go_wp2
                  go_round
                  case rel => exact ⟨x + 1, by omega, .inl (by omega), by go_num, by rw [HYS.out]; go_num⟩
                  case measure => simp [intOf]; omega
                | false =>
                  go_wp2
                  go_round
                  case rel => exact ⟨x + 1, by omega, .inl (by omega), by go_num, by rw [HYS.out]; rfl⟩
                  case measure => simp [intOf]; omega
              · have hxmi : ¬ (x : Int) < (m : Int) := by omega
                have HYE := Lib.hid (show yes14 a1 j = yes14 a1 x by
                  have := yes14_end a1 (j := x) (by rw [HM.out]; omega) (j - x)
                  rw [← this, show x + (j - x) = j by omega])
                rw [HYE.out] at HLA HWA HLB HWB
                obtain ⟨z, hz⟩ : ∃ z, yes14 a1 x = z := ⟨_, rfl⟩
                rw [hz] at HLA HWA HLB HWB hyl ⊢
                clear hz HYE hxm
                by_cases hwin : j < 2 * z
                · have hwi : (j : Int) < 2 * (z : Int) := by omega
                  have hwd : decide (j < 2 * z) = true := decide_eq_true hwin
                  rw [hwd] at HLA HWA HLB HWB
                  clear hwd
                  go_wp2_with fail
                  refine (vwon_n HVA.out (b := true) HWA.out).mono ?_
                  rintro e q0 ⟨rfl, h1, h2⟩
                  replace HVA := Lib.hid h1
                  replace HVB := Lib.hid (HVB.out.below h2)
                  replace HBX := Lib.hid (HBX.out.trans (h2.mono HBX.out.size))
                  clear h1 h2
                  go_wp2_with fail
                  refine (vwon_n HVB.out (b := true) HWB.out).mono ?_
                  rintro e q1 ⟨rfl, h1, h2⟩
                  replace HVB := Lib.hid h1
                  replace HVA := Lib.hid (HVA.out.below h2)
                  replace HBX := Lib.hid (HBX.out.trans (h2.mono HBX.out.size))
                  clear h1 h2
                  go_wp2_with fail
                  refine (vlost_n HVA.out (b := false) HLA.out).mono ?_
                  rintro e q2 ⟨rfl, h1, h2⟩
                  replace HVA := Lib.hid h1
                  replace HVB := Lib.hid (HVB.out.below h2)
                  replace HBX := Lib.hid (HBX.out.trans (h2.mono HBX.out.size))
                  clear h1 h2
                  go_wp2_with fail
                  refine (vlost_n HVB.out (b := false) HLB.out).mono ?_
                  rintro e q3 ⟨rfl, h1, h2⟩
                  replace HVB := Lib.hid h1
                  replace HVA := Lib.hid (HVA.out.below h2)
                  replace HBX := Lib.hid (HBX.out.trans (h2.mono HBX.out.size))
                  clear h1 h2
                  go_wp2_with fail
                  refine (vwon_n HVA.out (b := true) HWA.out).mono ?_
                  rintro e q4 ⟨rfl, h1, h2⟩
                  replace HVA := Lib.hid h1
                  replace HVB := Lib.hid (HVB.out.below h2)
                  replace HBX := Lib.hid (HBX.out.trans (h2.mono HBX.out.size))
                  clear h1 h2
                  go_wp2_with fail
                  refine (vlost_n HVA.out (b := false) HLA.out).mono ?_
                  rintro e q5 ⟨rfl, h1, h2⟩
                  replace HVA := Lib.hid h1
                  replace HVB := Lib.hid (HVB.out.below h2)
                  replace HBX := Lib.hid (HBX.out.trans (h2.mono HBX.out.size))
                  clear h1 h2
                  go_wp2_with fail
                  refine (vwon_n HVA.out (b := true) HWA.out).mono ?_
                  rintro e q6 ⟨rfl, h1, h2⟩
                  replace HVA := Lib.hid h1
                  replace HVB := Lib.hid (HVB.out.below h2)
                  replace HBX := Lib.hid (HBX.out.trans (h2.mono HBX.out.size))
                  clear h1 h2
                  go_wp2
                  go_ret
                  exact ⟨rfl, HBX.out⟩
                · have hwi : decide ((j : Int) < 2 * (z : Int)) = false := decide_eq_false (by omega)
                  have hwd : decide (j < 2 * z) = false := decide_eq_false hwin
                  rw [hwd] at HLA HWA HLB HWB
                  clear hwd
                  go_wp2_with fail
                  refine (vwon_n HVA.out (b := false) HWA.out).mono ?_
                  rintro e q0 ⟨rfl, h1, h2⟩
                  replace HVA := Lib.hid h1
                  replace HVB := Lib.hid (HVB.out.below h2)
                  replace HBX := Lib.hid (HBX.out.trans (h2.mono HBX.out.size))
                  clear h1 h2
                  go_wp2_with fail
                  refine (vwon_n HVB.out (b := false) HWB.out).mono ?_
                  rintro e q1 ⟨rfl, h1, h2⟩
                  replace HVB := Lib.hid h1
                  replace HVA := Lib.hid (HVA.out.below h2)
                  replace HBX := Lib.hid (HBX.out.trans (h2.mono HBX.out.size))
                  clear h1 h2
                  go_wp2_with fail
                  refine (vlost_n HVA.out (b := true) HLA.out).mono ?_
                  rintro e q2 ⟨rfl, h1, h2⟩
                  replace HVA := Lib.hid h1
                  replace HVB := Lib.hid (HVB.out.below h2)
                  replace HBX := Lib.hid (HBX.out.trans (h2.mono HBX.out.size))
                  clear h1 h2
                  go_wp2_with fail
                  refine (vlost_n HVB.out (b := true) HLB.out).mono ?_
                  rintro e q3 ⟨rfl, h1, h2⟩
                  replace HVB := Lib.hid h1
                  replace HVA := Lib.hid (HVA.out.below h2)
                  replace HBX := Lib.hid (HBX.out.trans (h2.mono HBX.out.size))
                  clear h1 h2
                  go_wp2_with fail
                  refine (vwon_n HVA.out (b := false) HWA.out).mono ?_
                  rintro e q4 ⟨rfl, h1, h2⟩
                  replace HVA := Lib.hid h1
                  replace HVB := Lib.hid (HVB.out.below h2)
                  replace HBX := Lib.hid (HBX.out.trans (h2.mono HBX.out.size))
                  clear h1 h2
                  go_wp2_with fail
                  refine (vlost_n HVA.out (b := true) HLA.out).mono ?_
                  rintro e q5 ⟨rfl, h1, h2⟩
                  replace HVA := Lib.hid h1
                  replace HVB := Lib.hid (HVB.out.below h2)
                  replace HBX := Lib.hid (HBX.out.trans (h2.mono HBX.out.size))
                  clear h1 h2
                  go_wp2_with fail
                  refine (vwon_n HVA.out (b := false) HWA.out).mono ?_
                  rintro e q6 ⟨rfl, h1, h2⟩
                  replace HVA := Lib.hid h1
                  replace HVB := Lib.hid (HVB.out.below h2)
                  replace HBX := Lib.hid (HBX.out.trans (h2.mono HBX.out.size))
                  clear h1 h2
                  go_wp2
                  go_ret
                  exact ⟨rfl, HBX.out⟩
            · have hxi : ¬ (x : Int) < (j : Int) := by omega
              have HYE := Lib.hid (show yes14 a1 j = yes14 a1 x by rw [show x = j by omega])
              rw [HYE.out] at HLA HWA HLB HWB
              obtain ⟨z, hz⟩ : ∃ z, yes14 a1 x = z := ⟨_, rfl⟩
              rw [hz] at HLA HWA HLB HWB hyl ⊢
              clear hz HYE hxm
              by_cases hwin : j < 2 * z
              · have hwi : (j : Int) < 2 * (z : Int) := by omega
                have hwd : decide (j < 2 * z) = true := decide_eq_true hwin
                rw [hwd] at HLA HWA HLB HWB
                clear hwd
                go_wp2_with fail
                refine (vwon_n HVA.out (b := true) HWA.out).mono ?_
                rintro e q0 ⟨rfl, h1, h2⟩
                replace HVA := Lib.hid h1
                replace HVB := Lib.hid (HVB.out.below h2)
                replace HBX := Lib.hid (HBX.out.trans (h2.mono HBX.out.size))
                clear h1 h2
                go_wp2_with fail
                refine (vwon_n HVB.out (b := true) HWB.out).mono ?_
                rintro e q1 ⟨rfl, h1, h2⟩
                replace HVB := Lib.hid h1
                replace HVA := Lib.hid (HVA.out.below h2)
                replace HBX := Lib.hid (HBX.out.trans (h2.mono HBX.out.size))
                clear h1 h2
                go_wp2_with fail
                refine (vlost_n HVA.out (b := false) HLA.out).mono ?_
                rintro e q2 ⟨rfl, h1, h2⟩
                replace HVA := Lib.hid h1
                replace HVB := Lib.hid (HVB.out.below h2)
                replace HBX := Lib.hid (HBX.out.trans (h2.mono HBX.out.size))
                clear h1 h2
                go_wp2_with fail
                refine (vlost_n HVB.out (b := false) HLB.out).mono ?_
                rintro e q3 ⟨rfl, h1, h2⟩
                replace HVB := Lib.hid h1
                replace HVA := Lib.hid (HVA.out.below h2)
                replace HBX := Lib.hid (HBX.out.trans (h2.mono HBX.out.size))
                clear h1 h2
                go_wp2_with fail
                refine (vwon_n HVA.out (b := true) HWA.out).mono ?_
                rintro e q4 ⟨rfl, h1, h2⟩
                replace HVA := Lib.hid h1
                replace HVB := Lib.hid (HVB.out.below h2)
                replace HBX := Lib.hid (HBX.out.trans (h2.mono HBX.out.size))
                clear h1 h2
                go_wp2_with fail
                refine (vlost_n HVA.out (b := false) HLA.out).mono ?_
                rintro e q5 ⟨rfl, h1, h2⟩
                replace HVA := Lib.hid h1
                replace HVB := Lib.hid (HVB.out.below h2)
                replace HBX := Lib.hid (HBX.out.trans (h2.mono HBX.out.size))
                clear h1 h2
                go_wp2_with fail
                refine (vwon_n HVA.out (b := true) HWA.out).mono ?_
                rintro e q6 ⟨rfl, h1, h2⟩
                replace HVA := Lib.hid h1
                replace HVB := Lib.hid (HVB.out.below h2)
                replace HBX := Lib.hid (HBX.out.trans (h2.mono HBX.out.size))
                clear h1 h2
                go_wp2
                go_ret
                exact ⟨rfl, HBX.out⟩
              · have hwi : decide ((j : Int) < 2 * (z : Int)) = false := decide_eq_false (by omega)
                have hwd : decide (j < 2 * z) = false := decide_eq_false hwin
                rw [hwd] at HLA HWA HLB HWB
                clear hwd
                go_wp2_with fail
                refine (vwon_n HVA.out (b := false) HWA.out).mono ?_
                rintro e q0 ⟨rfl, h1, h2⟩
                replace HVA := Lib.hid h1
                replace HVB := Lib.hid (HVB.out.below h2)
                replace HBX := Lib.hid (HBX.out.trans (h2.mono HBX.out.size))
                clear h1 h2
                go_wp2_with fail
                refine (vwon_n HVB.out (b := false) HWB.out).mono ?_
                rintro e q1 ⟨rfl, h1, h2⟩
                replace HVB := Lib.hid h1
                replace HVA := Lib.hid (HVA.out.below h2)
                replace HBX := Lib.hid (HBX.out.trans (h2.mono HBX.out.size))
                clear h1 h2
                go_wp2_with fail
                refine (vlost_n HVA.out (b := true) HLA.out).mono ?_
                rintro e q2 ⟨rfl, h1, h2⟩
                replace HVA := Lib.hid h1
                replace HVB := Lib.hid (HVB.out.below h2)
                replace HBX := Lib.hid (HBX.out.trans (h2.mono HBX.out.size))
                clear h1 h2
                go_wp2_with fail
                refine (vlost_n HVB.out (b := true) HLB.out).mono ?_
                rintro e q3 ⟨rfl, h1, h2⟩
                replace HVB := Lib.hid h1
                replace HVA := Lib.hid (HVA.out.below h2)
                replace HBX := Lib.hid (HBX.out.trans (h2.mono HBX.out.size))
                clear h1 h2
                go_wp2_with fail
                refine (vwon_n HVA.out (b := false) HWA.out).mono ?_
                rintro e q4 ⟨rfl, h1, h2⟩
                replace HVA := Lib.hid h1
                replace HVB := Lib.hid (HVB.out.below h2)
                replace HBX := Lib.hid (HBX.out.trans (h2.mono HBX.out.size))
                clear h1 h2
                go_wp2_with fail
                refine (vlost_n HVA.out (b := true) HLA.out).mono ?_
                rintro e q5 ⟨rfl, h1, h2⟩
                replace HVA := Lib.hid h1
                replace HVB := Lib.hid (HVB.out.below h2)
                replace HBX := Lib.hid (HBX.out.trans (h2.mono HBX.out.size))
                clear h1 h2
                go_wp2_with fail
                refine (vwon_n HVA.out (b := false) HWA.out).mono ?_
                rintro e q6 ⟨rfl, h1, h2⟩
                replace HVA := Lib.hid h1
                replace HVB := Lib.hid (HVB.out.below h2)
                replace HBX := Lib.hid (HBX.out.trans (h2.mono HBX.out.size))
                clear h1 h2
                go_wp2
                go_ret
                exact ⟨rfl, HBX.out⟩

set_option maxRecDepth 100000 in
theorem lifted (os : Os) (started : os.Started) (H : Type) (enc : TypeId × Value → H) :
    ReturnsInHanded {} Try.checked os 6 .any (Rows.voteOrderSpec.pre6 enc Try.prog Try.f6 Rows.voteOrderRow.domain false) (Rows.voteOrderSpec.post enc Try.prog Try.f6 false true false false) := by
  refine returnsInHanded_of_change (C := Try.checked) own started (by kernel_rfl) Try.func6
    (ChangeSpec.witness6 (enc := enc) (C := Try.checked) false ⟨#[], #[.int .i64 0, .slice none 0 0, .int .i64 0], []⟩ 8 (by kernel_rfl) (by kernel_rfl) (by kernel_rfl) (by kernel_rfl)) ?_
  intro W base args ds gs before hval0 hW hcnd _
  have hval : ∀ (j : Nat) t v, Try.f6.params[j]? = some t → args[j]? = some v → Value.okWide Try.prog W .any base t v := hval0
  have hW' := hW
  obtain ⟨p, q, hA0, hV, rfl, hfz, hnd⟩ := hW
  have hA : DataW.TrodAll enc Try.prog W 0 (fun _ => true) true Try.f6.params.toList args.toList ds p := hA0
  have hA1 := hA
  rw [Try.params6] at hA hval
  obtain ⟨v0, vs0, d0, ds0, p0, q0, hargs, rfl, rfl, h0, r0⟩ := trodAll_cons hA
  obtain ⟨v1, vs1, d1, ds1, p1, q1, rfl, rfl, rfl, h1, r1⟩ := trodAll_cons r0
  obtain ⟨v2, vs2, d2, ds2, p2, q2, rfl, rfl, rfl, h2, r2⟩ := trodAll_cons r1
  obtain ⟨rfl, rfl, rfl⟩ := trodAll_nil r2
  obtain rfl : args = #[v0, v1, v2] := by cases args; simp_all
  obtain ⟨rfl, rfl⟩ := trodVars_none hV
  obtain ⟨a0, rfl, rfl, rfl, w0⟩ := open_int Try.underlying3 (hval 0 3 v0 rfl rfl) h0
  obtain ⟨A1, c1, a1, rfl, w1⟩ := open_bls (hval 1 61 v1 rfl rfl) h1
  obtain ⟨a2, rfl, rfl, rfl, w2⟩ := open_int Try.underlying3 (hval 2 3 v2 rfl rfl) h2
  clear hA0 hval0
  simp only [List.append_nil] at hW'
  try simp only [List.append_nil] at hA1
  refine (walk W a0 w0 A1 c1 a1 w1 a2 w2).mono fun e W' ⟨he, hg⟩ => ?_
  subst he
  exact ⟨_, rfl, law_end Try.laidOut (by kernel_rfl) hW' hA1 hg rfl rfl rfl (trodAll_mk1 (shut_bool Try.underlying4 _))⟩

theorem over : Rows.voteOrderRow.holds Try.pinned (OpenSpec.ofChange Rows.voteOrderSpec) :=
  OpenClaim.holds_of_wide 6 Try.f6 rfl rfl rfl rfl rfl rfl rfl ⟨rfl, rfl, rfl, rfl, rfl⟩ rfl rfl rfl rfl rfl (by kernel_rfl) Try.func6 (by kernel_rfl)
    (of_decide_eq_true (by kernel_rfl)) (by unfold Func.isWrapper; first | (rw [if_pos (by decide +kernel)]; kernel_rfl) | (rw [if_neg (by decide +kernel)]; exact ⟨rfl, rfl⟩))
    (fun os started H enc _ => lifted os started H enc)

/-- the statement -/
theorem proved : Rows.VoteOrderSaid := over
#print axioms proved
end Go.Proofs.Ytoekiencnbgmhaa.voteOrder
