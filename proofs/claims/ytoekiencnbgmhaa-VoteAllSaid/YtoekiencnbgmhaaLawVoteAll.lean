/-
  Each votes once; it is won by more than half, lost when it can't be any more.
-/
import Derived.Test.YtoekiencnbgmhaaRows
import Derived.Test.YtoekiencnbgmhaaL14All
import Derived.Test.YtoekiencnbgmhaaLawKit
import Derived.WalkKit
import Derived.ProofKit
import Derived.OpenShut
import Derived.ShutString
namespace Go.Proofs.Ytoekiencnbgmhaa.voteAll
open Go.ChangeShapes Go.WideShapes Go.ChangeAt Go.RowKit
open Go.ChangeMaps (open_string shut_string)
set_option linter.unusedVariables false

theorem own : ownKnob Try.prog.godebug = none := by kernel_rfl

set_option maxRecDepth 100000 in
set_option maxHeartbeats 8000000 in
theorem walk (w : World) (A0 : Option Addr) (c0 : Nat) (a0 : List Int) (w0 : Ints w w.heap.size (.slice A0 a0.length c0) a0) (x0 : ∀ x ∈ a0, I64 x) (A1 : Option Addr) (c1 : Nat) (a1 : List (Int × Bool)) (w1 : Vops w w.heap.size (.slice A1 a1.length c1) a1) (x1 : ∀ x ∈ a1, I64 x.1) :
    Calls Try.prog 4 #[.slice A0 a0.length c0, .slice A1 a1.length c1] w fun e w' => e = .returned (.bool true) ∧ Below w.heap.size w w' := by
  obtain ⟨m, hm⟩ : ∃ m, a0.length = m := ⟨_, rfl⟩
  obtain ⟨r, hr⟩ : ∃ m, a1.length = m := ⟨_, rfl⟩
  rw [hm] at w0 ⊢
  rw [hr] at w1 ⊢
  have IL := Lib.hid w0
  have HM := Lib.hid hm
  have IO := Lib.hid w1
  have HR := Lib.hid hr
  clear w0 x0 w1 x1 hm hr
  go_enter Try.func4, Try.ntmps4
  go_wp2_with fail
  refine (begun14_any _).mono ?_
  rintro e k1 ⟨rfl, hb⟩
  have HB1 := Lib.hid hb
  clear hb
  have hcap := IL.out.cap
  by_cases h10 : 10 < m
  · have h10i : (10 : Int) < (m : Int) := by omega
    have hc10 : (10 : Int) ≤ (c0 : Int) := by omega
    have hc10n : 10 ≤ c0 := by omega
    have HI := Lib.hid (((IL.out.take 10 (by rw [HM.out]; omega)).keep HB1.out (Nat.le_refl _)).more HB1.out.size)
    have hlen : (a0.take 10).length = 10 := by rw [List.length_take, HM.out]; omega
    obtain ⟨L, hL⟩ : ∃ L, a0.take 10 = L := ⟨_, rfl⟩
    rw [hL] at hlen HI
    obtain ⟨n, hn⟩ : ∃ n, 10 = n := ⟨_, rfl⟩
    have hn10 : n ≤ 10 := by omega
    rw [hn] at hlen HI
    have HN := Lib.hid hlen
    have HTEN := Lib.hid (show (10 : Int) = (n : Int) by omega)
    have HTENN := Lib.hid hn
    clear hL hlen
    go_wp2_with fail
    clear hn HTEN HTENN hcap h10 h10i hc10 hc10n HM IL
    obtain ⟨M, hM⟩ : ∃ M, (if may12 L = true then L else []) = M := ⟨_, rfl⟩
    have HMM := Lib.hid hM
    refine (vnew_n HI.out HN.out (by omega) hM).mono ?_
    rintro e k2 ⟨g, v, rfl, hv, hb⟩
    have HV := Lib.hid hv
    have HIL := Lib.hid HI.out
    replace HI := Lib.hid ((HI.out.keep hb (Nat.le_refl _)).more hb.size)
    have HBK2 := Lib.hid hb
    have HZ := Lib.hid HB1.out.size
    have HB2 := Lib.hid (HB1.out.trans (hb.mono HB1.out.size))
    obtain ⟨bm, hbm⟩ : ∃ b, may12 L = b := ⟨_, rfl⟩
    have HBM := Lib.hid hbm
    clear hv hb hM
    go_wp2_with fail
    refine (rmay_n HI.out HN.out (by omega) HBM.out).mono ?_
    rintro e k3 ⟨rfl, hb⟩
    replace HV := Lib.hid (HV.out.below hb)
    replace HI := Lib.hid ((HI.out.keep hb (Nat.le_refl _)).more hb.size)
    have HB3 := Lib.hid (HB2.out.trans (hb.mono HB2.out.size))
    have HBK := Lib.hid (HBK2.out.trans (hb.mono HBK2.out.size))
    have HKK := Lib.hid (show k1.heap.size ≤ k3.heap.size from Nat.le_trans HBK2.out.size hb.size)
    clear hb hbm HBK2
    go_wp2_with fail
    go_loopw [8, 9, 10] (fun u t i wx => ∃ j : Nat, j ≤ r ∧ i = .int .i64 (j : Int) ∧ ∃ s Y N, VB k1.heap.size wx g v M s ∧ VR M s Y N ∧ OwnZ k3.heap.size u Y wx ∧ OwnZ k3.heap.size t N wx ∧ Apart12 u t ∧ Y.length ≤ j ∧ N.length ≤ j ∧ j ≤ 20 ∧ Below k1.heap.size k1 wx ∧ k3.heap.size ≤ wx.heap.size) (fun _ _ i _ => r - (intOf i).toNat)
    case atStart => exact ⟨0, Nat.zero_le _, rfl, _, [], [], HV.out, VR.zero M, OwnZ.nil _ _, OwnZ.nil _ _, fun g h => absurd h (by simp [Value.ownBlock]), Nat.le_refl _, Nat.le_refl _, by decide, HBK.out, Nat.le_refl _⟩
    case round =>
      have hgk : g < k3.heap.size := HV.out.box.lt
      have hvk : ∀ x, v.ownBlock = some x → x < k3.heap.size := fun x hx => (World.ownsRow.lt HV.out.row x hx).2
      obtain ⟨j, hj, rfl, s, Y, N, hvb, hvr, hoy, hon, hap, hyl, hnl, hj20, hbx, hz3⟩ := hrel
      obtain ⟨Ay, cy, hu⟩ := hoy.slice
      obtain ⟨An, cn, ht⟩ := hon.slice
      obtain ⟨ny, hny⟩ : ∃ n, Y.length = n := ⟨_, rfl⟩
      obtain ⟨nn, hnn⟩ : ∃ n, N.length = n := ⟨_, rfl⟩
      rw [hny] at hu hyl
      rw [hnn] at ht hnl
      subst hu
      subst ht
      have HVB := Lib.hid hvb
      have HVR := Lib.hid hvr
      have HOY := Lib.hid hoy
      have HON := Lib.hid hon
      have HAP := Lib.hid hap
      have HNY := Lib.hid hny
      have HNN := Lib.hid hnn
      have HVK := Lib.hid hvk
      have HGK := Lib.hid hgk
      have HBX := Lib.hid hbx
      have HZ3 := Lib.hid hz3
      clear hvb hvr hoy hon hap hny hnn hvk hbx HV HBK hgk hz3
      by_cases hjr : j < r
      · have hji : (j : Int) < (r : Int) := by omega
        by_cases h20 : j < 20
        · have h20i : (j : Int) < 20 := by omega
          obtain ⟨go, oo, hA, hgo, hcells⟩ := IO.out.at_ j (by rw [HR.out]; exact hjr)
          subst hA
          obtain ⟨⟨x, y⟩, hxy⟩ : ∃ q, a1[j]'(by rw [HR.out]; exact hjr) = q := ⟨_, rfl⟩
          rw [hxy] at hcells
          simp only at hcells
          have hbw : Below w.heap.size w wr := HB1.out.trans (HBX.out.mono HB1.out.size)
          have hc0' : wr.cell? ⟨go, oo + j * 2, none⟩ = some (.int .i64 x) := (hbw.cell (p := ⟨go, oo + j * 2, none⟩) hgo).trans (hcells 0 _ rfl)
          have hc1' : wr.cell? ⟨go, oo + j * 2 + 1, none⟩ = some (.bool y) := (hbw.cell (p := ⟨go, oo + j * 2 + 1, none⟩) hgo).trans (hcells 1 _ rfl)
          obtain ⟨be, hbe⟩ : ∃ be, wr.heap.size = be := ⟨_, rfl⟩
          obtain ⟨W0, hW0⟩ : ∃ W0, wr.alloc (.cells #[.int .i64 x, .bool y] 56) = W0 := ⟨_, rfl⟩
          have hb0 : Below wr.heap.size wr W0 := below_at hW0
          have hbox : Rt W0 be 56 [.int .i64 x, .bool y] := by rw [← hW0, ← hbe]; exact Rt.new _ _ _
          have x0 := hbox.cell (j := 0) rfl
          have x1 := hbox.cell (j := 1) rfl
          have HBE := Lib.hid (show g < be from by rw [← hbe]; exact Nat.lt_of_lt_of_le HGK.out HZ3.out)
          have HBOX := Lib.hid hbox
          have HW0 := Lib.hid hW0
          have HBX0 := Lib.hid (HBX.out.trans (hb0.mono HBX.out.size))
          have HZ30 := Lib.hid (Nat.le_trans HZ3.out hb0.size)
          have HVB0 := Lib.hid (HVB.out.below hb0)
          have HOY0 := Lib.hid (HOY.out.below hb0)
          have HON0 := Lib.hid (HON.out.below hb0)
          clear hb0 hbox hcells hxy HVB HOY HON HBX HZ3 hbw hW0 hgo
          have hIL := (HIL.out.keep HBX0.out (Nat.le_refl _)).more HBX0.out.size
          have hIY := Ints.of_own HOY0.out
          have hIN := Ints.of_own HON0.out
          have HI0 := Lib.hid hIL
          have HIY := Lib.hid hIY
          have HIN := Lib.hid hIN
          clear hIL hIY hIN
          have hwant := votes_want14 HMM.out HVR.out x
          rw [HBM.out] at hwant
          cases bm with
          | false =>
            have HT := Lib.hid (show takes14 M s x = false by rw [hwant]; rfl)
            clear hwant
            cases y with
            | true =>
              obtain ⟨s2, hs2⟩ : ∃ s2, take14 M s x 1 = s2 := ⟨_, rfl⟩
              have HVR2 := Lib.hid (show VR M s2 Y N from hs2 ▸ HVR.out.none HT.out)
              go_wp2_with fail
              rw [HW0.out]
              refine (vyes_n HVB0.out x HT.out hs2).mono ?_
              rintro e k5 ⟨rfl, h1, h2, h3⟩
              have HVB5 := Lib.hid h1
              have HOY5 := Lib.hid (HOY0.out.off14 h2 HGK.out)
              have HON5 := Lib.hid (HON0.out.off14 h2 HGK.out)
              have HBX5 := Lib.hid (HBX0.out.trans h3)
              have HZ35 := Lib.hid (Nat.le_trans HZ30.out h3.size)
              have hbx5 := HBOX.out.grown h2 (fun e => by have := HBE.out; omega)
              replace x0 := hbx5.cell (j := 0) rfl
              replace x1 := hbx5.cell (j := 1) rfl
              clear h1 h2 h3 hs2 hbx5 HVB0 HOY0 HON0 HBX0 HZ30 HI0 HIY HIN HVR
              have HIY5 := Lib.hid (Ints.of_own HOY5.out)
              have HIL5 := Lib.hid ((HIL.out.keep HBX5.out (Nat.le_refl _)).more HBX5.out.size)
              obtain ⟨wn, hwn⟩ : ∃ b, won14 M s2 = b := ⟨_, rfl⟩
              obtain ⟨ln, hln⟩ : ∃ b, lost14 M s2 = b := ⟨_, rfl⟩
              have HWN := Lib.hid hwn
              have HLN := Lib.hid hln
              have HMJ := Lib.hid ((votes_won14 HMM.out HVR2.out).symm.trans hwn)
              have hld := (votes_lost14 HMM.out HVR2.out).symm.trans hln
              rw [HBM.out, HN.out, HNN.out] at hld
              clear hwn hln
              rw [Bool.false_and] at hld
              subst hld
              go_wp2_with fail
              refine (vwon_n HVB5.out (b := wn) HWN.out).mono ?_
              rintro e k6 ⟨rfl, h1, h2⟩
              replace HVB5 := Lib.hid h1
              have HYZ := Lib.hid (HOY5.out.below h2)
              have HNZ := Lib.hid (HON5.out.below h2)
              replace HIY5 := Lib.hid (Ints.of_own HYZ.out)
              replace HIL5 := Lib.hid ((HIL5.out.keep h2 (Nat.le_refl _)).more h2.size)
              replace HBX5 := Lib.hid (HBX5.out.trans (h2.mono HBX5.out.size))
              replace HZ35 := Lib.hid (Nat.le_trans HZ35.out h2.size)
              clear h1 h2
              go_wp2_with fail
              refine (rmaj_n HIL5.out HIY5.out HN.out HNY.out (by omega) (by omega) HMJ.out).mono ?_
              rintro e k7 ⟨rfl, h2⟩
              replace HVB5 := Lib.hid (HVB5.out.below h2)
              replace HYZ := Lib.hid (HYZ.out.below h2)
              replace HNZ := Lib.hid (HNZ.out.below h2)
              replace HBX5 := Lib.hid (HBX5.out.trans (h2.mono HBX5.out.size))
              replace HZ35 := Lib.hid (Nat.le_trans HZ35.out h2.size)
              clear h2
              go_wp2_with fail
              refine (vlost_n HVB5.out HLN.out).mono ?_
              rintro e k8 ⟨rfl, h1, h2⟩
              replace HVB5 := Lib.hid h1
              replace HYZ := Lib.hid (HYZ.out.below h2)
              replace HNZ := Lib.hid (HNZ.out.below h2)
              replace HBX5 := Lib.hid (HBX5.out.trans (h2.mono HBX5.out.size))
              replace HZ35 := Lib.hid (Nat.le_trans HZ35.out h2.size)
              clear h1 h2
              go_wp2
              go_roundw
              case rel => exact ⟨j + 1, by omega, by go_num, s2, Y, N, HVB5.out, HVR2.out, HYZ.out, HNZ.out, HAP.out, by rw [HNY.out]; omega, by rw [HNN.out]; omega, by omega, HBX5.out, HZ35.out⟩
              case measure => simp [intOf]; omega
            | false =>
              obtain ⟨s2, hs2⟩ : ∃ s2, take14 M s x 2 = s2 := ⟨_, rfl⟩
              have HVR2 := Lib.hid (show VR M s2 Y N from hs2 ▸ HVR.out.none HT.out)
              go_wp2_with fail
              rw [HW0.out]
              refine (vno_n HVB0.out x HT.out hs2).mono ?_
              rintro e k5 ⟨rfl, h1, h2, h3⟩
              have HVB5 := Lib.hid h1
              have HOY5 := Lib.hid (HOY0.out.off14 h2 HGK.out)
              have HON5 := Lib.hid (HON0.out.off14 h2 HGK.out)
              have HBX5 := Lib.hid (HBX0.out.trans h3)
              have HZ35 := Lib.hid (Nat.le_trans HZ30.out h3.size)
              have hbx5 := HBOX.out.grown h2 (fun e => by have := HBE.out; omega)
              replace x0 := hbx5.cell (j := 0) rfl
              replace x1 := hbx5.cell (j := 1) rfl
              clear h1 h2 h3 hs2 hbx5 HVB0 HOY0 HON0 HBX0 HZ30 HI0 HIY HIN HVR
              have HIY5 := Lib.hid (Ints.of_own HOY5.out)
              have HIL5 := Lib.hid ((HIL.out.keep HBX5.out (Nat.le_refl _)).more HBX5.out.size)
              obtain ⟨wn, hwn⟩ : ∃ b, won14 M s2 = b := ⟨_, rfl⟩
              obtain ⟨ln, hln⟩ : ∃ b, lost14 M s2 = b := ⟨_, rfl⟩
              have HWN := Lib.hid hwn
              have HLN := Lib.hid hln
              have HMJ := Lib.hid ((votes_won14 HMM.out HVR2.out).symm.trans hwn)
              have hld := (votes_lost14 HMM.out HVR2.out).symm.trans hln
              rw [HBM.out, HN.out, HNN.out] at hld
              clear hwn hln
              rw [Bool.false_and] at hld
              subst hld
              go_wp2_with fail
              refine (vwon_n HVB5.out (b := wn) HWN.out).mono ?_
              rintro e k6 ⟨rfl, h1, h2⟩
              replace HVB5 := Lib.hid h1
              have HYZ := Lib.hid (HOY5.out.below h2)
              have HNZ := Lib.hid (HON5.out.below h2)
              replace HIY5 := Lib.hid (Ints.of_own HYZ.out)
              replace HIL5 := Lib.hid ((HIL5.out.keep h2 (Nat.le_refl _)).more h2.size)
              replace HBX5 := Lib.hid (HBX5.out.trans (h2.mono HBX5.out.size))
              replace HZ35 := Lib.hid (Nat.le_trans HZ35.out h2.size)
              clear h1 h2
              go_wp2_with fail
              refine (rmaj_n HIL5.out HIY5.out HN.out HNY.out (by omega) (by omega) HMJ.out).mono ?_
              rintro e k7 ⟨rfl, h2⟩
              replace HVB5 := Lib.hid (HVB5.out.below h2)
              replace HYZ := Lib.hid (HYZ.out.below h2)
              replace HNZ := Lib.hid (HNZ.out.below h2)
              replace HBX5 := Lib.hid (HBX5.out.trans (h2.mono HBX5.out.size))
              replace HZ35 := Lib.hid (Nat.le_trans HZ35.out h2.size)
              clear h2
              go_wp2_with fail
              refine (vlost_n HVB5.out HLN.out).mono ?_
              rintro e k8 ⟨rfl, h1, h2⟩
              replace HVB5 := Lib.hid h1
              replace HYZ := Lib.hid (HYZ.out.below h2)
              replace HNZ := Lib.hid (HNZ.out.below h2)
              replace HBX5 := Lib.hid (HBX5.out.trans (h2.mono HBX5.out.size))
              replace HZ35 := Lib.hid (Nat.le_trans HZ35.out h2.size)
              clear h1 h2
              go_wp2
              go_roundw
              case rel => exact ⟨j + 1, by omega, by go_num, s2, Y, N, HVB5.out, HVR2.out, HYZ.out, HNZ.out, HAP.out, by rw [HNY.out]; omega, by rw [HNN.out]; omega, by omega, HBX5.out, HZ35.out⟩
              case measure => simp [intOf]; omega
          | true =>
            cases hl : L.contains x with
            | false =>
              have HT := Lib.hid (show takes14 M s x = false by rw [hwant, hl]; rfl)
              have HCL := Lib.hid hl
              clear hwant hl
              cases y with
              | true =>
                go_wp2_with fail
                rw [HW0.out]
                refine (rhas_n x HI0.out HN.out (by omega) HCL.out).mono ?_
                rintro e w' ⟨rfl, rfl⟩
                obtain ⟨s2, hs2⟩ : ∃ s2, take14 M s x 1 = s2 := ⟨_, rfl⟩
                have HVR2 := Lib.hid (show VR M s2 Y N from hs2 ▸ HVR.out.none HT.out)
                go_wp2_with fail
                refine (vyes_n HVB0.out x HT.out hs2).mono ?_
                rintro e k5 ⟨rfl, h1, h2, h3⟩
                have HVB5 := Lib.hid h1
                have HOY5 := Lib.hid (HOY0.out.off14 h2 HGK.out)
                have HON5 := Lib.hid (HON0.out.off14 h2 HGK.out)
                have HBX5 := Lib.hid (HBX0.out.trans h3)
                have HZ35 := Lib.hid (Nat.le_trans HZ30.out h3.size)
                have hbx5 := HBOX.out.grown h2 (fun e => by have := HBE.out; omega)
                replace x0 := hbx5.cell (j := 0) rfl
                replace x1 := hbx5.cell (j := 1) rfl
                clear h1 h2 h3 hs2 hbx5 HVB0 HOY0 HON0 HBX0 HZ30 HI0 HIY HIN HVR
                have HIY5 := Lib.hid (Ints.of_own HOY5.out)
                have HIL5 := Lib.hid ((HIL.out.keep HBX5.out (Nat.le_refl _)).more HBX5.out.size)
                obtain ⟨wn, hwn⟩ : ∃ b, won14 M s2 = b := ⟨_, rfl⟩
                obtain ⟨ln, hln⟩ : ∃ b, lost14 M s2 = b := ⟨_, rfl⟩
                have HWN := Lib.hid hwn
                have HLN := Lib.hid hln
                have HMJ := Lib.hid ((votes_won14 HMM.out HVR2.out).symm.trans hwn)
                have hld := (votes_lost14 HMM.out HVR2.out).symm.trans hln
                rw [HBM.out, HN.out, HNN.out] at hld
                clear hwn hln
                rw [Bool.true_and] at hld
                have hw1 : IntKind.i64.wrap ((n : Int) - (nn : Int)) = (n : Int) - (nn : Int) := by rw [IntKind.wrap_i64]; omega
                have hw2 : IntKind.i64.wrap (2 * ((n : Int) - (nn : Int))) = 2 * ((n : Int) - (nn : Int)) := by rw [IntKind.wrap_i64]; omega
                by_cases hle : 2 * ((n : Int) - (nn : Int)) ≤ (n : Int)
                · rw [decide_eq_true hle] at hld
                  subst hld
                  go_wp2_with fail
                  refine (vwon_n HVB5.out (b := wn) HWN.out).mono ?_
                  rintro e k6 ⟨rfl, h1, h2⟩
                  replace HVB5 := Lib.hid h1
                  have HYZ := Lib.hid (HOY5.out.below h2)
                  have HNZ := Lib.hid (HON5.out.below h2)
                  replace HIY5 := Lib.hid (Ints.of_own HYZ.out)
                  replace HIL5 := Lib.hid ((HIL5.out.keep h2 (Nat.le_refl _)).more h2.size)
                  replace HBX5 := Lib.hid (HBX5.out.trans (h2.mono HBX5.out.size))
                  replace HZ35 := Lib.hid (Nat.le_trans HZ35.out h2.size)
                  clear h1 h2
                  go_wp2_with fail
                  refine (rmaj_n HIL5.out HIY5.out HN.out HNY.out (by omega) (by omega) HMJ.out).mono ?_
                  rintro e k7 ⟨rfl, h2⟩
                  replace HVB5 := Lib.hid (HVB5.out.below h2)
                  replace HYZ := Lib.hid (HYZ.out.below h2)
                  replace HNZ := Lib.hid (HNZ.out.below h2)
                  replace HBX5 := Lib.hid (HBX5.out.trans (h2.mono HBX5.out.size))
                  replace HZ35 := Lib.hid (Nat.le_trans HZ35.out h2.size)
                  clear h2
                  go_wp2_with fail
                  refine (vlost_n HVB5.out HLN.out).mono ?_
                  rintro e k8 ⟨rfl, h1, h2⟩
                  replace HVB5 := Lib.hid h1
                  replace HYZ := Lib.hid (HYZ.out.below h2)
                  replace HNZ := Lib.hid (HNZ.out.below h2)
                  replace HBX5 := Lib.hid (HBX5.out.trans (h2.mono HBX5.out.size))
                  replace HZ35 := Lib.hid (Nat.le_trans HZ35.out h2.size)
                  clear h1 h2
                  go_wp2
                  go_roundw
                  case rel => exact ⟨j + 1, by omega, by go_num, s2, Y, N, HVB5.out, HVR2.out, HYZ.out, HNZ.out, HAP.out, by rw [HNY.out]; omega, by rw [HNN.out]; omega, by omega, HBX5.out, HZ35.out⟩
                  case measure => simp [intOf]; omega
                · rw [decide_eq_false hle] at hld
                  subst hld
                  go_wp2_with fail
                  refine (vwon_n HVB5.out (b := wn) HWN.out).mono ?_
                  rintro e k6 ⟨rfl, h1, h2⟩
                  replace HVB5 := Lib.hid h1
                  have HYZ := Lib.hid (HOY5.out.below h2)
                  have HNZ := Lib.hid (HON5.out.below h2)
                  replace HIY5 := Lib.hid (Ints.of_own HYZ.out)
                  replace HIL5 := Lib.hid ((HIL5.out.keep h2 (Nat.le_refl _)).more h2.size)
                  replace HBX5 := Lib.hid (HBX5.out.trans (h2.mono HBX5.out.size))
                  replace HZ35 := Lib.hid (Nat.le_trans HZ35.out h2.size)
                  clear h1 h2
                  go_wp2_with fail
                  refine (rmaj_n HIL5.out HIY5.out HN.out HNY.out (by omega) (by omega) HMJ.out).mono ?_
                  rintro e k7 ⟨rfl, h2⟩
                  replace HVB5 := Lib.hid (HVB5.out.below h2)
                  replace HYZ := Lib.hid (HYZ.out.below h2)
                  replace HNZ := Lib.hid (HNZ.out.below h2)
                  replace HBX5 := Lib.hid (HBX5.out.trans (h2.mono HBX5.out.size))
                  replace HZ35 := Lib.hid (Nat.le_trans HZ35.out h2.size)
                  clear h2
                  go_wp2_with fail
                  refine (vlost_n HVB5.out HLN.out).mono ?_
                  rintro e k8 ⟨rfl, h1, h2⟩
                  replace HVB5 := Lib.hid h1
                  replace HYZ := Lib.hid (HYZ.out.below h2)
                  replace HNZ := Lib.hid (HNZ.out.below h2)
                  replace HBX5 := Lib.hid (HBX5.out.trans (h2.mono HBX5.out.size))
                  replace HZ35 := Lib.hid (Nat.le_trans HZ35.out h2.size)
                  clear h1 h2
                  go_wp2
                  go_roundw
                  case rel => exact ⟨j + 1, by omega, by go_num, s2, Y, N, HVB5.out, HVR2.out, HYZ.out, HNZ.out, HAP.out, by rw [HNY.out]; omega, by rw [HNN.out]; omega, by omega, HBX5.out, HZ35.out⟩
                  case measure => simp [intOf]; omega
              | false =>
                go_wp2_with fail
                rw [HW0.out]
                refine (rhas_n x HI0.out HN.out (by omega) HCL.out).mono ?_
                rintro e w' ⟨rfl, rfl⟩
                obtain ⟨s2, hs2⟩ : ∃ s2, take14 M s x 2 = s2 := ⟨_, rfl⟩
                have HVR2 := Lib.hid (show VR M s2 Y N from hs2 ▸ HVR.out.none HT.out)
                go_wp2_with fail
                refine (vno_n HVB0.out x HT.out hs2).mono ?_
                rintro e k5 ⟨rfl, h1, h2, h3⟩
                have HVB5 := Lib.hid h1
                have HOY5 := Lib.hid (HOY0.out.off14 h2 HGK.out)
                have HON5 := Lib.hid (HON0.out.off14 h2 HGK.out)
                have HBX5 := Lib.hid (HBX0.out.trans h3)
                have HZ35 := Lib.hid (Nat.le_trans HZ30.out h3.size)
                have hbx5 := HBOX.out.grown h2 (fun e => by have := HBE.out; omega)
                replace x0 := hbx5.cell (j := 0) rfl
                replace x1 := hbx5.cell (j := 1) rfl
                clear h1 h2 h3 hs2 hbx5 HVB0 HOY0 HON0 HBX0 HZ30 HI0 HIY HIN HVR
                have HIY5 := Lib.hid (Ints.of_own HOY5.out)
                have HIL5 := Lib.hid ((HIL.out.keep HBX5.out (Nat.le_refl _)).more HBX5.out.size)
                obtain ⟨wn, hwn⟩ : ∃ b, won14 M s2 = b := ⟨_, rfl⟩
                obtain ⟨ln, hln⟩ : ∃ b, lost14 M s2 = b := ⟨_, rfl⟩
                have HWN := Lib.hid hwn
                have HLN := Lib.hid hln
                have HMJ := Lib.hid ((votes_won14 HMM.out HVR2.out).symm.trans hwn)
                have hld := (votes_lost14 HMM.out HVR2.out).symm.trans hln
                rw [HBM.out, HN.out, HNN.out] at hld
                clear hwn hln
                rw [Bool.true_and] at hld
                have hw1 : IntKind.i64.wrap ((n : Int) - (nn : Int)) = (n : Int) - (nn : Int) := by rw [IntKind.wrap_i64]; omega
                have hw2 : IntKind.i64.wrap (2 * ((n : Int) - (nn : Int))) = 2 * ((n : Int) - (nn : Int)) := by rw [IntKind.wrap_i64]; omega
                by_cases hle : 2 * ((n : Int) - (nn : Int)) ≤ (n : Int)
                · rw [decide_eq_true hle] at hld
                  subst hld
                  go_wp2_with fail
                  refine (vwon_n HVB5.out (b := wn) HWN.out).mono ?_
                  rintro e k6 ⟨rfl, h1, h2⟩
                  replace HVB5 := Lib.hid h1
                  have HYZ := Lib.hid (HOY5.out.below h2)
                  have HNZ := Lib.hid (HON5.out.below h2)
                  replace HIY5 := Lib.hid (Ints.of_own HYZ.out)
                  replace HIL5 := Lib.hid ((HIL5.out.keep h2 (Nat.le_refl _)).more h2.size)
                  replace HBX5 := Lib.hid (HBX5.out.trans (h2.mono HBX5.out.size))
                  replace HZ35 := Lib.hid (Nat.le_trans HZ35.out h2.size)
                  clear h1 h2
                  go_wp2_with fail
                  refine (rmaj_n HIL5.out HIY5.out HN.out HNY.out (by omega) (by omega) HMJ.out).mono ?_
                  rintro e k7 ⟨rfl, h2⟩
                  replace HVB5 := Lib.hid (HVB5.out.below h2)
                  replace HYZ := Lib.hid (HYZ.out.below h2)
                  replace HNZ := Lib.hid (HNZ.out.below h2)
                  replace HBX5 := Lib.hid (HBX5.out.trans (h2.mono HBX5.out.size))
                  replace HZ35 := Lib.hid (Nat.le_trans HZ35.out h2.size)
                  clear h2
                  go_wp2_with fail
                  refine (vlost_n HVB5.out HLN.out).mono ?_
                  rintro e k8 ⟨rfl, h1, h2⟩
                  replace HVB5 := Lib.hid h1
                  replace HYZ := Lib.hid (HYZ.out.below h2)
                  replace HNZ := Lib.hid (HNZ.out.below h2)
                  replace HBX5 := Lib.hid (HBX5.out.trans (h2.mono HBX5.out.size))
                  replace HZ35 := Lib.hid (Nat.le_trans HZ35.out h2.size)
                  clear h1 h2
                  go_wp2
                  go_roundw
                  case rel => exact ⟨j + 1, by omega, by go_num, s2, Y, N, HVB5.out, HVR2.out, HYZ.out, HNZ.out, HAP.out, by rw [HNY.out]; omega, by rw [HNN.out]; omega, by omega, HBX5.out, HZ35.out⟩
                  case measure => simp [intOf]; omega
                · rw [decide_eq_false hle] at hld
                  subst hld
                  go_wp2_with fail
                  refine (vwon_n HVB5.out (b := wn) HWN.out).mono ?_
                  rintro e k6 ⟨rfl, h1, h2⟩
                  replace HVB5 := Lib.hid h1
                  have HYZ := Lib.hid (HOY5.out.below h2)
                  have HNZ := Lib.hid (HON5.out.below h2)
                  replace HIY5 := Lib.hid (Ints.of_own HYZ.out)
                  replace HIL5 := Lib.hid ((HIL5.out.keep h2 (Nat.le_refl _)).more h2.size)
                  replace HBX5 := Lib.hid (HBX5.out.trans (h2.mono HBX5.out.size))
                  replace HZ35 := Lib.hid (Nat.le_trans HZ35.out h2.size)
                  clear h1 h2
                  go_wp2_with fail
                  refine (rmaj_n HIL5.out HIY5.out HN.out HNY.out (by omega) (by omega) HMJ.out).mono ?_
                  rintro e k7 ⟨rfl, h2⟩
                  replace HVB5 := Lib.hid (HVB5.out.below h2)
                  replace HYZ := Lib.hid (HYZ.out.below h2)
                  replace HNZ := Lib.hid (HNZ.out.below h2)
                  replace HBX5 := Lib.hid (HBX5.out.trans (h2.mono HBX5.out.size))
                  replace HZ35 := Lib.hid (Nat.le_trans HZ35.out h2.size)
                  clear h2
                  go_wp2_with fail
                  refine (vlost_n HVB5.out HLN.out).mono ?_
                  rintro e k8 ⟨rfl, h1, h2⟩
                  replace HVB5 := Lib.hid h1
                  replace HYZ := Lib.hid (HYZ.out.below h2)
                  replace HNZ := Lib.hid (HNZ.out.below h2)
                  replace HBX5 := Lib.hid (HBX5.out.trans (h2.mono HBX5.out.size))
                  replace HZ35 := Lib.hid (Nat.le_trans HZ35.out h2.size)
                  clear h1 h2
                  go_wp2
                  go_roundw
                  case rel => exact ⟨j + 1, by omega, by go_num, s2, Y, N, HVB5.out, HVR2.out, HYZ.out, HNZ.out, HAP.out, by rw [HNY.out]; omega, by rw [HNN.out]; omega, by omega, HBX5.out, HZ35.out⟩
                  case measure => simp [intOf]; omega
            | true =>
              have HCL := Lib.hid hl
              cases hyc : Y.contains x with
              | true =>
                have HT := Lib.hid (show takes14 M s x = false by rw [hwant, hl, hyc]; rfl)
                have HCY := Lib.hid hyc
                clear hwant hl hyc
                cases y with
                | true =>
                  go_wp2_with fail
                  rw [HW0.out]
                  refine (rhas_n x HI0.out HN.out (by omega) HCL.out).mono ?_
                  rintro e w' ⟨rfl, rfl⟩
                  go_wp2_with fail
                  refine (rhas_n x HIY.out HNY.out (by omega) HCY.out).mono ?_
                  rintro e w' ⟨rfl, rfl⟩
                  obtain ⟨s2, hs2⟩ : ∃ s2, take14 M s x 1 = s2 := ⟨_, rfl⟩
                  have HVR2 := Lib.hid (show VR M s2 Y N from hs2 ▸ HVR.out.none HT.out)
                  go_wp2_with fail
                  refine (vyes_n HVB0.out x HT.out hs2).mono ?_
                  rintro e k5 ⟨rfl, h1, h2, h3⟩
                  have HVB5 := Lib.hid h1
                  have HOY5 := Lib.hid (HOY0.out.off14 h2 HGK.out)
                  have HON5 := Lib.hid (HON0.out.off14 h2 HGK.out)
                  have HBX5 := Lib.hid (HBX0.out.trans h3)
                  have HZ35 := Lib.hid (Nat.le_trans HZ30.out h3.size)
                  have hbx5 := HBOX.out.grown h2 (fun e => by have := HBE.out; omega)
                  replace x0 := hbx5.cell (j := 0) rfl
                  replace x1 := hbx5.cell (j := 1) rfl
                  clear h1 h2 h3 hs2 hbx5 HVB0 HOY0 HON0 HBX0 HZ30 HI0 HIY HIN HVR
                  have HIY5 := Lib.hid (Ints.of_own HOY5.out)
                  have HIL5 := Lib.hid ((HIL.out.keep HBX5.out (Nat.le_refl _)).more HBX5.out.size)
                  obtain ⟨wn, hwn⟩ : ∃ b, won14 M s2 = b := ⟨_, rfl⟩
                  obtain ⟨ln, hln⟩ : ∃ b, lost14 M s2 = b := ⟨_, rfl⟩
                  have HWN := Lib.hid hwn
                  have HLN := Lib.hid hln
                  have HMJ := Lib.hid ((votes_won14 HMM.out HVR2.out).symm.trans hwn)
                  have hld := (votes_lost14 HMM.out HVR2.out).symm.trans hln
                  rw [HBM.out, HN.out, HNN.out] at hld
                  clear hwn hln
                  rw [Bool.true_and] at hld
                  have hw1 : IntKind.i64.wrap ((n : Int) - (nn : Int)) = (n : Int) - (nn : Int) := by rw [IntKind.wrap_i64]; omega
                  have hw2 : IntKind.i64.wrap (2 * ((n : Int) - (nn : Int))) = 2 * ((n : Int) - (nn : Int)) := by rw [IntKind.wrap_i64]; omega
                  by_cases hle : 2 * ((n : Int) - (nn : Int)) ≤ (n : Int)
                  · rw [decide_eq_true hle] at hld
                    subst hld
                    go_wp2_with fail
                    refine (vwon_n HVB5.out (b := wn) HWN.out).mono ?_
                    rintro e k6 ⟨rfl, h1, h2⟩
                    replace HVB5 := Lib.hid h1
                    have HYZ := Lib.hid (HOY5.out.below h2)
                    have HNZ := Lib.hid (HON5.out.below h2)
                    replace HIY5 := Lib.hid (Ints.of_own HYZ.out)
                    replace HIL5 := Lib.hid ((HIL5.out.keep h2 (Nat.le_refl _)).more h2.size)
                    replace HBX5 := Lib.hid (HBX5.out.trans (h2.mono HBX5.out.size))
                    replace HZ35 := Lib.hid (Nat.le_trans HZ35.out h2.size)
                    clear h1 h2
                    go_wp2_with fail
                    refine (rmaj_n HIL5.out HIY5.out HN.out HNY.out (by omega) (by omega) HMJ.out).mono ?_
                    rintro e k7 ⟨rfl, h2⟩
                    replace HVB5 := Lib.hid (HVB5.out.below h2)
                    replace HYZ := Lib.hid (HYZ.out.below h2)
                    replace HNZ := Lib.hid (HNZ.out.below h2)
                    replace HBX5 := Lib.hid (HBX5.out.trans (h2.mono HBX5.out.size))
                    replace HZ35 := Lib.hid (Nat.le_trans HZ35.out h2.size)
                    clear h2
                    go_wp2_with fail
                    refine (vlost_n HVB5.out HLN.out).mono ?_
                    rintro e k8 ⟨rfl, h1, h2⟩
                    replace HVB5 := Lib.hid h1
                    replace HYZ := Lib.hid (HYZ.out.below h2)
                    replace HNZ := Lib.hid (HNZ.out.below h2)
                    replace HBX5 := Lib.hid (HBX5.out.trans (h2.mono HBX5.out.size))
                    replace HZ35 := Lib.hid (Nat.le_trans HZ35.out h2.size)
                    clear h1 h2
                    go_wp2
                    go_roundw
                    case rel => exact ⟨j + 1, by omega, by go_num, s2, Y, N, HVB5.out, HVR2.out, HYZ.out, HNZ.out, HAP.out, by rw [HNY.out]; omega, by rw [HNN.out]; omega, by omega, HBX5.out, HZ35.out⟩
                    case measure => simp [intOf]; omega
                  · rw [decide_eq_false hle] at hld
                    subst hld
                    go_wp2_with fail
                    refine (vwon_n HVB5.out (b := wn) HWN.out).mono ?_
                    rintro e k6 ⟨rfl, h1, h2⟩
                    replace HVB5 := Lib.hid h1
                    have HYZ := Lib.hid (HOY5.out.below h2)
                    have HNZ := Lib.hid (HON5.out.below h2)
                    replace HIY5 := Lib.hid (Ints.of_own HYZ.out)
                    replace HIL5 := Lib.hid ((HIL5.out.keep h2 (Nat.le_refl _)).more h2.size)
                    replace HBX5 := Lib.hid (HBX5.out.trans (h2.mono HBX5.out.size))
                    replace HZ35 := Lib.hid (Nat.le_trans HZ35.out h2.size)
                    clear h1 h2
                    go_wp2_with fail
                    refine (rmaj_n HIL5.out HIY5.out HN.out HNY.out (by omega) (by omega) HMJ.out).mono ?_
                    rintro e k7 ⟨rfl, h2⟩
                    replace HVB5 := Lib.hid (HVB5.out.below h2)
                    replace HYZ := Lib.hid (HYZ.out.below h2)
                    replace HNZ := Lib.hid (HNZ.out.below h2)
                    replace HBX5 := Lib.hid (HBX5.out.trans (h2.mono HBX5.out.size))
                    replace HZ35 := Lib.hid (Nat.le_trans HZ35.out h2.size)
                    clear h2
                    go_wp2_with fail
                    refine (vlost_n HVB5.out HLN.out).mono ?_
                    rintro e k8 ⟨rfl, h1, h2⟩
                    replace HVB5 := Lib.hid h1
                    replace HYZ := Lib.hid (HYZ.out.below h2)
                    replace HNZ := Lib.hid (HNZ.out.below h2)
                    replace HBX5 := Lib.hid (HBX5.out.trans (h2.mono HBX5.out.size))
                    replace HZ35 := Lib.hid (Nat.le_trans HZ35.out h2.size)
                    clear h1 h2
                    go_wp2
                    go_roundw
                    case rel => exact ⟨j + 1, by omega, by go_num, s2, Y, N, HVB5.out, HVR2.out, HYZ.out, HNZ.out, HAP.out, by rw [HNY.out]; omega, by rw [HNN.out]; omega, by omega, HBX5.out, HZ35.out⟩
                    case measure => simp [intOf]; omega
                | false =>
                  go_wp2_with fail
                  rw [HW0.out]
                  refine (rhas_n x HI0.out HN.out (by omega) HCL.out).mono ?_
                  rintro e w' ⟨rfl, rfl⟩
                  go_wp2_with fail
                  refine (rhas_n x HIY.out HNY.out (by omega) HCY.out).mono ?_
                  rintro e w' ⟨rfl, rfl⟩
                  obtain ⟨s2, hs2⟩ : ∃ s2, take14 M s x 2 = s2 := ⟨_, rfl⟩
                  have HVR2 := Lib.hid (show VR M s2 Y N from hs2 ▸ HVR.out.none HT.out)
                  go_wp2_with fail
                  refine (vno_n HVB0.out x HT.out hs2).mono ?_
                  rintro e k5 ⟨rfl, h1, h2, h3⟩
                  have HVB5 := Lib.hid h1
                  have HOY5 := Lib.hid (HOY0.out.off14 h2 HGK.out)
                  have HON5 := Lib.hid (HON0.out.off14 h2 HGK.out)
                  have HBX5 := Lib.hid (HBX0.out.trans h3)
                  have HZ35 := Lib.hid (Nat.le_trans HZ30.out h3.size)
                  have hbx5 := HBOX.out.grown h2 (fun e => by have := HBE.out; omega)
                  replace x0 := hbx5.cell (j := 0) rfl
                  replace x1 := hbx5.cell (j := 1) rfl
                  clear h1 h2 h3 hs2 hbx5 HVB0 HOY0 HON0 HBX0 HZ30 HI0 HIY HIN HVR
                  have HIY5 := Lib.hid (Ints.of_own HOY5.out)
                  have HIL5 := Lib.hid ((HIL.out.keep HBX5.out (Nat.le_refl _)).more HBX5.out.size)
                  obtain ⟨wn, hwn⟩ : ∃ b, won14 M s2 = b := ⟨_, rfl⟩
                  obtain ⟨ln, hln⟩ : ∃ b, lost14 M s2 = b := ⟨_, rfl⟩
                  have HWN := Lib.hid hwn
                  have HLN := Lib.hid hln
                  have HMJ := Lib.hid ((votes_won14 HMM.out HVR2.out).symm.trans hwn)
                  have hld := (votes_lost14 HMM.out HVR2.out).symm.trans hln
                  rw [HBM.out, HN.out, HNN.out] at hld
                  clear hwn hln
                  rw [Bool.true_and] at hld
                  have hw1 : IntKind.i64.wrap ((n : Int) - (nn : Int)) = (n : Int) - (nn : Int) := by rw [IntKind.wrap_i64]; omega
                  have hw2 : IntKind.i64.wrap (2 * ((n : Int) - (nn : Int))) = 2 * ((n : Int) - (nn : Int)) := by rw [IntKind.wrap_i64]; omega
                  by_cases hle : 2 * ((n : Int) - (nn : Int)) ≤ (n : Int)
                  · rw [decide_eq_true hle] at hld
                    subst hld
                    go_wp2_with fail
                    refine (vwon_n HVB5.out (b := wn) HWN.out).mono ?_
                    rintro e k6 ⟨rfl, h1, h2⟩
                    replace HVB5 := Lib.hid h1
                    have HYZ := Lib.hid (HOY5.out.below h2)
                    have HNZ := Lib.hid (HON5.out.below h2)
                    replace HIY5 := Lib.hid (Ints.of_own HYZ.out)
                    replace HIL5 := Lib.hid ((HIL5.out.keep h2 (Nat.le_refl _)).more h2.size)
                    replace HBX5 := Lib.hid (HBX5.out.trans (h2.mono HBX5.out.size))
                    replace HZ35 := Lib.hid (Nat.le_trans HZ35.out h2.size)
                    clear h1 h2
                    go_wp2_with fail
                    refine (rmaj_n HIL5.out HIY5.out HN.out HNY.out (by omega) (by omega) HMJ.out).mono ?_
                    rintro e k7 ⟨rfl, h2⟩
                    replace HVB5 := Lib.hid (HVB5.out.below h2)
                    replace HYZ := Lib.hid (HYZ.out.below h2)
                    replace HNZ := Lib.hid (HNZ.out.below h2)
                    replace HBX5 := Lib.hid (HBX5.out.trans (h2.mono HBX5.out.size))
                    replace HZ35 := Lib.hid (Nat.le_trans HZ35.out h2.size)
                    clear h2
                    go_wp2_with fail
                    refine (vlost_n HVB5.out HLN.out).mono ?_
                    rintro e k8 ⟨rfl, h1, h2⟩
                    replace HVB5 := Lib.hid h1
                    replace HYZ := Lib.hid (HYZ.out.below h2)
                    replace HNZ := Lib.hid (HNZ.out.below h2)
                    replace HBX5 := Lib.hid (HBX5.out.trans (h2.mono HBX5.out.size))
                    replace HZ35 := Lib.hid (Nat.le_trans HZ35.out h2.size)
                    clear h1 h2
                    go_wp2
                    go_roundw
                    case rel => exact ⟨j + 1, by omega, by go_num, s2, Y, N, HVB5.out, HVR2.out, HYZ.out, HNZ.out, HAP.out, by rw [HNY.out]; omega, by rw [HNN.out]; omega, by omega, HBX5.out, HZ35.out⟩
                    case measure => simp [intOf]; omega
                  · rw [decide_eq_false hle] at hld
                    subst hld
                    go_wp2_with fail
                    refine (vwon_n HVB5.out (b := wn) HWN.out).mono ?_
                    rintro e k6 ⟨rfl, h1, h2⟩
                    replace HVB5 := Lib.hid h1
                    have HYZ := Lib.hid (HOY5.out.below h2)
                    have HNZ := Lib.hid (HON5.out.below h2)
                    replace HIY5 := Lib.hid (Ints.of_own HYZ.out)
                    replace HIL5 := Lib.hid ((HIL5.out.keep h2 (Nat.le_refl _)).more h2.size)
                    replace HBX5 := Lib.hid (HBX5.out.trans (h2.mono HBX5.out.size))
                    replace HZ35 := Lib.hid (Nat.le_trans HZ35.out h2.size)
                    clear h1 h2
                    go_wp2_with fail
                    refine (rmaj_n HIL5.out HIY5.out HN.out HNY.out (by omega) (by omega) HMJ.out).mono ?_
                    rintro e k7 ⟨rfl, h2⟩
                    replace HVB5 := Lib.hid (HVB5.out.below h2)
                    replace HYZ := Lib.hid (HYZ.out.below h2)
                    replace HNZ := Lib.hid (HNZ.out.below h2)
                    replace HBX5 := Lib.hid (HBX5.out.trans (h2.mono HBX5.out.size))
                    replace HZ35 := Lib.hid (Nat.le_trans HZ35.out h2.size)
                    clear h2
                    go_wp2_with fail
                    refine (vlost_n HVB5.out HLN.out).mono ?_
                    rintro e k8 ⟨rfl, h1, h2⟩
                    replace HVB5 := Lib.hid h1
                    replace HYZ := Lib.hid (HYZ.out.below h2)
                    replace HNZ := Lib.hid (HNZ.out.below h2)
                    replace HBX5 := Lib.hid (HBX5.out.trans (h2.mono HBX5.out.size))
                    replace HZ35 := Lib.hid (Nat.le_trans HZ35.out h2.size)
                    clear h1 h2
                    go_wp2
                    go_roundw
                    case rel => exact ⟨j + 1, by omega, by go_num, s2, Y, N, HVB5.out, HVR2.out, HYZ.out, HNZ.out, HAP.out, by rw [HNY.out]; omega, by rw [HNN.out]; omega, by omega, HBX5.out, HZ35.out⟩
                    case measure => simp [intOf]; omega
              | false =>
                have HCY := Lib.hid hyc
                cases hnc : N.contains x with
                | true =>
                  have HT := Lib.hid (show takes14 M s x = false by rw [hwant, hl, hyc, hnc]; rfl)
                  have HCN := Lib.hid hnc
                  clear hwant hl hyc hnc
                  cases y with
                  | true =>
                    go_wp2_with fail
                    rw [HW0.out]
                    refine (rhas_n x HI0.out HN.out (by omega) HCL.out).mono ?_
                    rintro e w' ⟨rfl, rfl⟩
                    go_wp2_with fail
                    refine (rhas_n x HIY.out HNY.out (by omega) HCY.out).mono ?_
                    rintro e w' ⟨rfl, rfl⟩
                    go_wp2_with fail
                    refine (rhas_n x HIN.out HNN.out (by omega) HCN.out).mono ?_
                    rintro e w' ⟨rfl, rfl⟩
                    obtain ⟨s2, hs2⟩ : ∃ s2, take14 M s x 1 = s2 := ⟨_, rfl⟩
                    have HVR2 := Lib.hid (show VR M s2 Y N from hs2 ▸ HVR.out.none HT.out)
                    go_wp2_with fail
                    refine (vyes_n HVB0.out x HT.out hs2).mono ?_
                    rintro e k5 ⟨rfl, h1, h2, h3⟩
                    have HVB5 := Lib.hid h1
                    have HOY5 := Lib.hid (HOY0.out.off14 h2 HGK.out)
                    have HON5 := Lib.hid (HON0.out.off14 h2 HGK.out)
                    have HBX5 := Lib.hid (HBX0.out.trans h3)
                    have HZ35 := Lib.hid (Nat.le_trans HZ30.out h3.size)
                    have hbx5 := HBOX.out.grown h2 (fun e => by have := HBE.out; omega)
                    replace x0 := hbx5.cell (j := 0) rfl
                    replace x1 := hbx5.cell (j := 1) rfl
                    clear h1 h2 h3 hs2 hbx5 HVB0 HOY0 HON0 HBX0 HZ30 HI0 HIY HIN HVR
                    have HIY5 := Lib.hid (Ints.of_own HOY5.out)
                    have HIL5 := Lib.hid ((HIL.out.keep HBX5.out (Nat.le_refl _)).more HBX5.out.size)
                    obtain ⟨wn, hwn⟩ : ∃ b, won14 M s2 = b := ⟨_, rfl⟩
                    obtain ⟨ln, hln⟩ : ∃ b, lost14 M s2 = b := ⟨_, rfl⟩
                    have HWN := Lib.hid hwn
                    have HLN := Lib.hid hln
                    have HMJ := Lib.hid ((votes_won14 HMM.out HVR2.out).symm.trans hwn)
                    have hld := (votes_lost14 HMM.out HVR2.out).symm.trans hln
                    rw [HBM.out, HN.out, HNN.out] at hld
                    clear hwn hln
                    rw [Bool.true_and] at hld
                    have hw1 : IntKind.i64.wrap ((n : Int) - (nn : Int)) = (n : Int) - (nn : Int) := by rw [IntKind.wrap_i64]; omega
                    have hw2 : IntKind.i64.wrap (2 * ((n : Int) - (nn : Int))) = 2 * ((n : Int) - (nn : Int)) := by rw [IntKind.wrap_i64]; omega
                    by_cases hle : 2 * ((n : Int) - (nn : Int)) ≤ (n : Int)
                    · rw [decide_eq_true hle] at hld
                      subst hld
                      go_wp2_with fail
                      refine (vwon_n HVB5.out (b := wn) HWN.out).mono ?_
                      rintro e k6 ⟨rfl, h1, h2⟩
                      replace HVB5 := Lib.hid h1
                      have HYZ := Lib.hid (HOY5.out.below h2)
                      have HNZ := Lib.hid (HON5.out.below h2)
                      replace HIY5 := Lib.hid (Ints.of_own HYZ.out)
                      replace HIL5 := Lib.hid ((HIL5.out.keep h2 (Nat.le_refl _)).more h2.size)
                      replace HBX5 := Lib.hid (HBX5.out.trans (h2.mono HBX5.out.size))
                      replace HZ35 := Lib.hid (Nat.le_trans HZ35.out h2.size)
                      clear h1 h2
                      go_wp2_with fail
                      refine (rmaj_n HIL5.out HIY5.out HN.out HNY.out (by omega) (by omega) HMJ.out).mono ?_
                      rintro e k7 ⟨rfl, h2⟩
                      replace HVB5 := Lib.hid (HVB5.out.below h2)
                      replace HYZ := Lib.hid (HYZ.out.below h2)
                      replace HNZ := Lib.hid (HNZ.out.below h2)
                      replace HBX5 := Lib.hid (HBX5.out.trans (h2.mono HBX5.out.size))
                      replace HZ35 := Lib.hid (Nat.le_trans HZ35.out h2.size)
                      clear h2
                      go_wp2_with fail
                      refine (vlost_n HVB5.out HLN.out).mono ?_
                      rintro e k8 ⟨rfl, h1, h2⟩
                      replace HVB5 := Lib.hid h1
                      replace HYZ := Lib.hid (HYZ.out.below h2)
                      replace HNZ := Lib.hid (HNZ.out.below h2)
                      replace HBX5 := Lib.hid (HBX5.out.trans (h2.mono HBX5.out.size))
                      replace HZ35 := Lib.hid (Nat.le_trans HZ35.out h2.size)
                      clear h1 h2
                      go_wp2
                      go_roundw
                      case rel => exact ⟨j + 1, by omega, by go_num, s2, Y, N, HVB5.out, HVR2.out, HYZ.out, HNZ.out, HAP.out, by rw [HNY.out]; omega, by rw [HNN.out]; omega, by omega, HBX5.out, HZ35.out⟩
                      case measure => simp [intOf]; omega
                    · rw [decide_eq_false hle] at hld
                      subst hld
                      go_wp2_with fail
                      refine (vwon_n HVB5.out (b := wn) HWN.out).mono ?_
                      rintro e k6 ⟨rfl, h1, h2⟩
                      replace HVB5 := Lib.hid h1
                      have HYZ := Lib.hid (HOY5.out.below h2)
                      have HNZ := Lib.hid (HON5.out.below h2)
                      replace HIY5 := Lib.hid (Ints.of_own HYZ.out)
                      replace HIL5 := Lib.hid ((HIL5.out.keep h2 (Nat.le_refl _)).more h2.size)
                      replace HBX5 := Lib.hid (HBX5.out.trans (h2.mono HBX5.out.size))
                      replace HZ35 := Lib.hid (Nat.le_trans HZ35.out h2.size)
                      clear h1 h2
                      go_wp2_with fail
                      refine (rmaj_n HIL5.out HIY5.out HN.out HNY.out (by omega) (by omega) HMJ.out).mono ?_
                      rintro e k7 ⟨rfl, h2⟩
                      replace HVB5 := Lib.hid (HVB5.out.below h2)
                      replace HYZ := Lib.hid (HYZ.out.below h2)
                      replace HNZ := Lib.hid (HNZ.out.below h2)
                      replace HBX5 := Lib.hid (HBX5.out.trans (h2.mono HBX5.out.size))
                      replace HZ35 := Lib.hid (Nat.le_trans HZ35.out h2.size)
                      clear h2
                      go_wp2_with fail
                      refine (vlost_n HVB5.out HLN.out).mono ?_
                      rintro e k8 ⟨rfl, h1, h2⟩
                      replace HVB5 := Lib.hid h1
                      replace HYZ := Lib.hid (HYZ.out.below h2)
                      replace HNZ := Lib.hid (HNZ.out.below h2)
                      replace HBX5 := Lib.hid (HBX5.out.trans (h2.mono HBX5.out.size))
                      replace HZ35 := Lib.hid (Nat.le_trans HZ35.out h2.size)
                      clear h1 h2
                      go_wp2
                      go_roundw
                      case rel => exact ⟨j + 1, by omega, by go_num, s2, Y, N, HVB5.out, HVR2.out, HYZ.out, HNZ.out, HAP.out, by rw [HNY.out]; omega, by rw [HNN.out]; omega, by omega, HBX5.out, HZ35.out⟩
                      case measure => simp [intOf]; omega
                  | false =>
                    go_wp2_with fail
                    rw [HW0.out]
                    refine (rhas_n x HI0.out HN.out (by omega) HCL.out).mono ?_
                    rintro e w' ⟨rfl, rfl⟩
                    go_wp2_with fail
                    refine (rhas_n x HIY.out HNY.out (by omega) HCY.out).mono ?_
                    rintro e w' ⟨rfl, rfl⟩
                    go_wp2_with fail
                    refine (rhas_n x HIN.out HNN.out (by omega) HCN.out).mono ?_
                    rintro e w' ⟨rfl, rfl⟩
                    obtain ⟨s2, hs2⟩ : ∃ s2, take14 M s x 2 = s2 := ⟨_, rfl⟩
                    have HVR2 := Lib.hid (show VR M s2 Y N from hs2 ▸ HVR.out.none HT.out)
                    go_wp2_with fail
                    refine (vno_n HVB0.out x HT.out hs2).mono ?_
                    rintro e k5 ⟨rfl, h1, h2, h3⟩
                    have HVB5 := Lib.hid h1
                    have HOY5 := Lib.hid (HOY0.out.off14 h2 HGK.out)
                    have HON5 := Lib.hid (HON0.out.off14 h2 HGK.out)
                    have HBX5 := Lib.hid (HBX0.out.trans h3)
                    have HZ35 := Lib.hid (Nat.le_trans HZ30.out h3.size)
                    have hbx5 := HBOX.out.grown h2 (fun e => by have := HBE.out; omega)
                    replace x0 := hbx5.cell (j := 0) rfl
                    replace x1 := hbx5.cell (j := 1) rfl
                    clear h1 h2 h3 hs2 hbx5 HVB0 HOY0 HON0 HBX0 HZ30 HI0 HIY HIN HVR
                    have HIY5 := Lib.hid (Ints.of_own HOY5.out)
                    have HIL5 := Lib.hid ((HIL.out.keep HBX5.out (Nat.le_refl _)).more HBX5.out.size)
                    obtain ⟨wn, hwn⟩ : ∃ b, won14 M s2 = b := ⟨_, rfl⟩
                    obtain ⟨ln, hln⟩ : ∃ b, lost14 M s2 = b := ⟨_, rfl⟩
                    have HWN := Lib.hid hwn
                    have HLN := Lib.hid hln
                    have HMJ := Lib.hid ((votes_won14 HMM.out HVR2.out).symm.trans hwn)
                    have hld := (votes_lost14 HMM.out HVR2.out).symm.trans hln
                    rw [HBM.out, HN.out, HNN.out] at hld
                    clear hwn hln
                    rw [Bool.true_and] at hld
                    have hw1 : IntKind.i64.wrap ((n : Int) - (nn : Int)) = (n : Int) - (nn : Int) := by rw [IntKind.wrap_i64]; omega
                    have hw2 : IntKind.i64.wrap (2 * ((n : Int) - (nn : Int))) = 2 * ((n : Int) - (nn : Int)) := by rw [IntKind.wrap_i64]; omega
                    by_cases hle : 2 * ((n : Int) - (nn : Int)) ≤ (n : Int)
                    · rw [decide_eq_true hle] at hld
                      subst hld
                      go_wp2_with fail
                      refine (vwon_n HVB5.out (b := wn) HWN.out).mono ?_
                      rintro e k6 ⟨rfl, h1, h2⟩
                      replace HVB5 := Lib.hid h1
                      have HYZ := Lib.hid (HOY5.out.below h2)
                      have HNZ := Lib.hid (HON5.out.below h2)
                      replace HIY5 := Lib.hid (Ints.of_own HYZ.out)
                      replace HIL5 := Lib.hid ((HIL5.out.keep h2 (Nat.le_refl _)).more h2.size)
                      replace HBX5 := Lib.hid (HBX5.out.trans (h2.mono HBX5.out.size))
                      replace HZ35 := Lib.hid (Nat.le_trans HZ35.out h2.size)
                      clear h1 h2
                      go_wp2_with fail
                      refine (rmaj_n HIL5.out HIY5.out HN.out HNY.out (by omega) (by omega) HMJ.out).mono ?_
                      rintro e k7 ⟨rfl, h2⟩
                      replace HVB5 := Lib.hid (HVB5.out.below h2)
                      replace HYZ := Lib.hid (HYZ.out.below h2)
                      replace HNZ := Lib.hid (HNZ.out.below h2)
                      replace HBX5 := Lib.hid (HBX5.out.trans (h2.mono HBX5.out.size))
                      replace HZ35 := Lib.hid (Nat.le_trans HZ35.out h2.size)
                      clear h2
                      go_wp2_with fail
                      refine (vlost_n HVB5.out HLN.out).mono ?_
                      rintro e k8 ⟨rfl, h1, h2⟩
                      replace HVB5 := Lib.hid h1
                      replace HYZ := Lib.hid (HYZ.out.below h2)
                      replace HNZ := Lib.hid (HNZ.out.below h2)
                      replace HBX5 := Lib.hid (HBX5.out.trans (h2.mono HBX5.out.size))
                      replace HZ35 := Lib.hid (Nat.le_trans HZ35.out h2.size)
                      clear h1 h2
                      go_wp2
                      go_roundw
                      case rel => exact ⟨j + 1, by omega, by go_num, s2, Y, N, HVB5.out, HVR2.out, HYZ.out, HNZ.out, HAP.out, by rw [HNY.out]; omega, by rw [HNN.out]; omega, by omega, HBX5.out, HZ35.out⟩
                      case measure => simp [intOf]; omega
                    · rw [decide_eq_false hle] at hld
                      subst hld
                      go_wp2_with fail
                      refine (vwon_n HVB5.out (b := wn) HWN.out).mono ?_
                      rintro e k6 ⟨rfl, h1, h2⟩
                      replace HVB5 := Lib.hid h1
                      have HYZ := Lib.hid (HOY5.out.below h2)
                      have HNZ := Lib.hid (HON5.out.below h2)
                      replace HIY5 := Lib.hid (Ints.of_own HYZ.out)
                      replace HIL5 := Lib.hid ((HIL5.out.keep h2 (Nat.le_refl _)).more h2.size)
                      replace HBX5 := Lib.hid (HBX5.out.trans (h2.mono HBX5.out.size))
                      replace HZ35 := Lib.hid (Nat.le_trans HZ35.out h2.size)
                      clear h1 h2
                      go_wp2_with fail
                      refine (rmaj_n HIL5.out HIY5.out HN.out HNY.out (by omega) (by omega) HMJ.out).mono ?_
                      rintro e k7 ⟨rfl, h2⟩
                      replace HVB5 := Lib.hid (HVB5.out.below h2)
                      replace HYZ := Lib.hid (HYZ.out.below h2)
                      replace HNZ := Lib.hid (HNZ.out.below h2)
                      replace HBX5 := Lib.hid (HBX5.out.trans (h2.mono HBX5.out.size))
                      replace HZ35 := Lib.hid (Nat.le_trans HZ35.out h2.size)
                      clear h2
                      go_wp2_with fail
                      refine (vlost_n HVB5.out HLN.out).mono ?_
                      rintro e k8 ⟨rfl, h1, h2⟩
                      replace HVB5 := Lib.hid h1
                      replace HYZ := Lib.hid (HYZ.out.below h2)
                      replace HNZ := Lib.hid (HNZ.out.below h2)
                      replace HBX5 := Lib.hid (HBX5.out.trans (h2.mono HBX5.out.size))
                      replace HZ35 := Lib.hid (Nat.le_trans HZ35.out h2.size)
                      clear h1 h2
                      go_wp2
                      go_roundw
                      case rel => exact ⟨j + 1, by omega, by go_num, s2, Y, N, HVB5.out, HVR2.out, HYZ.out, HNZ.out, HAP.out, by rw [HNY.out]; omega, by rw [HNN.out]; omega, by omega, HBX5.out, HZ35.out⟩
                      case measure => simp [intOf]; omega
                | false =>
                  have HT := Lib.hid (show takes14 M s x = true by rw [hwant, hl, hyc, hnc]; rfl)
                  have HCN := Lib.hid hnc
                  clear hwant hl hyc hnc
                  cases y with
                  | true =>
                    go_wp2_with fail
                    rw [HW0.out]
                    refine (rhas_n x HI0.out HN.out (by omega) HCL.out).mono ?_
                    rintro e w' ⟨rfl, rfl⟩
                    go_wp2_with fail
                    refine (rhas_n x HIY.out HNY.out (by omega) HCY.out).mono ?_
                    rintro e w' ⟨rfl, rfl⟩
                    go_wp2_with fail
                    refine (rhas_n x HIN.out HNN.out (by omega) HCN.out).mono ?_
                    rintro e w' ⟨rfl, rfl⟩
                    obtain ⟨s2, hs2⟩ : ∃ s2, take14 M s x 1 = s2 := ⟨_, rfl⟩
                    have HVR2 := Lib.hid (show VR M s2 (Y ++ [x]) N from hs2 ▸ HVR.out.add_yes HT.out)
                    go_wp2_with fail
                    refine (vyes_n HVB0.out x HT.out hs2).mono ?_
                    rintro e k5 ⟨rfl, h1, h2, h3⟩
                    have HVB5 := Lib.hid h1
                    have HOY5 := Lib.hid (HOY0.out.off14 h2 HGK.out)
                    have HON5 := Lib.hid (HON0.out.off14 h2 HGK.out)
                    have HBX5 := Lib.hid (HBX0.out.trans h3)
                    have HZ35 := Lib.hid (Nat.le_trans HZ30.out h3.size)
                    have hbx5 := HBOX.out.grown h2 (fun e => by have := HBE.out; omega)
                    replace x0 := hbx5.cell (j := 0) rfl
                    replace x1 := hbx5.cell (j := 1) rfl
                    clear h1 h2 h3 hs2 hbx5 HVB0 HOY0 HON0 HBX0 HZ30 HI0 HIY HIN HVR
                    obtain ⟨wa, hwa⟩ : ∃ q, k5.alloc (.cells #[.int .i64 x] 3) = q := ⟨_, rfl⟩
                    have hba := below_at hwa
                    have hia := ints_at [.int .i64 x] 3 [x] 1 rfl rfl hwa
                    have HUA := Lib.hid (HOY5.out.below hba)
                    have HOA := Lib.hid (HON5.out.below hba)
                    have HIA := Lib.hid hia
                    have HVBA := Lib.hid (HVB5.out.below hba)
                    have HBXA := Lib.hid (HBX5.out.trans (hba.mono HBX5.out.size))
                    have HZ3A := Lib.hid (Nat.le_trans HZ35.out hba.size)
                    clear hba hia HVB5 HOY5 HON5 HBX5 HZ35
                    go_wp2_with (at_builtin; refine wpList_append_ints_at rfl _ _ rfl k3.heap.size wa.heap.size _ _ _ [x] rfl HUA.out rfl HIA.out ?x1 ?x2 ?_)
                    case x1 => rw [HNY.out]; show ny + 1 ≤ _; omega
                    case x2 => exact HZ3A.out
                    intro u6 w6 ho6 hb6 hg6 hf6
                    obtain ⟨hot6, hap6⟩ := apart_step HOA.out HAP.out hg6 hf6
                    obtain ⟨Au6, cu6, hu6⟩ := ho6.slice
                    have hl6 : (Y ++ [x]).length = ny + 1 := by rw [List.length_append, HNY.out]; rfl
                    rw [hl6] at hu6
                    subst hu6
                    have HL6 := Lib.hid hl6
                    have HVB5 := Lib.hid (HVBA.out.under hb6 HGK.out HVK.out)
                    have HU6 := Lib.hid ho6
                    have HO6 := Lib.hid hot6
                    have HAP6 := Lib.hid hap6
                    have HBX5 := Lib.hid (HBXA.out.trans (hb6.mono (Nat.le_trans HKK.out (Nat.le_refl _))))
                    have HZ35 := Lib.hid (Nat.le_trans HZ3A.out hb6.size)
                    clear ho6 hot6 hap6 hb6 hg6 hf6 hl6 HVBA HUA HOA HBXA HZ3A x0 x1
                    have HIY5 := Lib.hid (Ints.of_own HU6.out)
                    have HIL5 := Lib.hid ((HIL.out.keep HBX5.out (Nat.le_refl _)).more HBX5.out.size)
                    obtain ⟨wn, hwn⟩ : ∃ b, won14 M s2 = b := ⟨_, rfl⟩
                    obtain ⟨ln, hln⟩ : ∃ b, lost14 M s2 = b := ⟨_, rfl⟩
                    have HWN := Lib.hid hwn
                    have HLN := Lib.hid hln
                    have HMJ := Lib.hid ((votes_won14 HMM.out HVR2.out).symm.trans hwn)
                    have hld := (votes_lost14 HMM.out HVR2.out).symm.trans hln
                    rw [HBM.out, HN.out, HNN.out] at hld
                    clear hwn hln
                    rw [Bool.true_and] at hld
                    have hw1 : IntKind.i64.wrap ((n : Int) - (nn : Int)) = (n : Int) - (nn : Int) := by rw [IntKind.wrap_i64]; omega
                    have hw2 : IntKind.i64.wrap (2 * ((n : Int) - (nn : Int))) = 2 * ((n : Int) - (nn : Int)) := by rw [IntKind.wrap_i64]; omega
                    by_cases hle : 2 * ((n : Int) - (nn : Int)) ≤ (n : Int)
                    · rw [decide_eq_true hle] at hld
                      subst hld
                      go_wp2_with fail
                      refine (vwon_n HVB5.out (b := wn) HWN.out).mono ?_
                      rintro e k6 ⟨rfl, h1, h2⟩
                      replace HVB5 := Lib.hid h1
                      have HYZ := Lib.hid (HU6.out.below h2)
                      have HNZ := Lib.hid (HO6.out.below h2)
                      replace HIY5 := Lib.hid (Ints.of_own HYZ.out)
                      replace HIL5 := Lib.hid ((HIL5.out.keep h2 (Nat.le_refl _)).more h2.size)
                      replace HBX5 := Lib.hid (HBX5.out.trans (h2.mono HBX5.out.size))
                      replace HZ35 := Lib.hid (Nat.le_trans HZ35.out h2.size)
                      clear h1 h2
                      go_wp2_with fail
                      refine (rmaj_n HIL5.out HIY5.out HN.out HL6.out (by omega) (by omega) HMJ.out).mono ?_
                      rintro e k7 ⟨rfl, h2⟩
                      replace HVB5 := Lib.hid (HVB5.out.below h2)
                      replace HYZ := Lib.hid (HYZ.out.below h2)
                      replace HNZ := Lib.hid (HNZ.out.below h2)
                      replace HBX5 := Lib.hid (HBX5.out.trans (h2.mono HBX5.out.size))
                      replace HZ35 := Lib.hid (Nat.le_trans HZ35.out h2.size)
                      clear h2
                      go_wp2_with fail
                      refine (vlost_n HVB5.out HLN.out).mono ?_
                      rintro e k8 ⟨rfl, h1, h2⟩
                      replace HVB5 := Lib.hid h1
                      replace HYZ := Lib.hid (HYZ.out.below h2)
                      replace HNZ := Lib.hid (HNZ.out.below h2)
                      replace HBX5 := Lib.hid (HBX5.out.trans (h2.mono HBX5.out.size))
                      replace HZ35 := Lib.hid (Nat.le_trans HZ35.out h2.size)
                      clear h1 h2
                      go_wp2
                      go_roundw
                      case rel => exact ⟨j + 1, by omega, by go_num, s2, (Y ++ [x]), N, HVB5.out, HVR2.out, HYZ.out, HNZ.out, HAP6.out, by rw [HL6.out]; omega, by rw [HNN.out]; omega, by omega, HBX5.out, HZ35.out⟩
                      case measure => simp [intOf]; omega
                    · rw [decide_eq_false hle] at hld
                      subst hld
                      go_wp2_with fail
                      refine (vwon_n HVB5.out (b := wn) HWN.out).mono ?_
                      rintro e k6 ⟨rfl, h1, h2⟩
                      replace HVB5 := Lib.hid h1
                      have HYZ := Lib.hid (HU6.out.below h2)
                      have HNZ := Lib.hid (HO6.out.below h2)
                      replace HIY5 := Lib.hid (Ints.of_own HYZ.out)
                      replace HIL5 := Lib.hid ((HIL5.out.keep h2 (Nat.le_refl _)).more h2.size)
                      replace HBX5 := Lib.hid (HBX5.out.trans (h2.mono HBX5.out.size))
                      replace HZ35 := Lib.hid (Nat.le_trans HZ35.out h2.size)
                      clear h1 h2
                      go_wp2_with fail
                      refine (rmaj_n HIL5.out HIY5.out HN.out HL6.out (by omega) (by omega) HMJ.out).mono ?_
                      rintro e k7 ⟨rfl, h2⟩
                      replace HVB5 := Lib.hid (HVB5.out.below h2)
                      replace HYZ := Lib.hid (HYZ.out.below h2)
                      replace HNZ := Lib.hid (HNZ.out.below h2)
                      replace HBX5 := Lib.hid (HBX5.out.trans (h2.mono HBX5.out.size))
                      replace HZ35 := Lib.hid (Nat.le_trans HZ35.out h2.size)
                      clear h2
                      go_wp2_with fail
                      refine (vlost_n HVB5.out HLN.out).mono ?_
                      rintro e k8 ⟨rfl, h1, h2⟩
                      replace HVB5 := Lib.hid h1
                      replace HYZ := Lib.hid (HYZ.out.below h2)
                      replace HNZ := Lib.hid (HNZ.out.below h2)
                      replace HBX5 := Lib.hid (HBX5.out.trans (h2.mono HBX5.out.size))
                      replace HZ35 := Lib.hid (Nat.le_trans HZ35.out h2.size)
                      clear h1 h2
                      go_wp2
                      go_roundw
                      case rel => exact ⟨j + 1, by omega, by go_num, s2, (Y ++ [x]), N, HVB5.out, HVR2.out, HYZ.out, HNZ.out, HAP6.out, by rw [HL6.out]; omega, by rw [HNN.out]; omega, by omega, HBX5.out, HZ35.out⟩
                      case measure => simp [intOf]; omega
                  | false =>
                    go_wp2_with fail
                    rw [HW0.out]
                    refine (rhas_n x HI0.out HN.out (by omega) HCL.out).mono ?_
                    rintro e w' ⟨rfl, rfl⟩
                    go_wp2_with fail
                    refine (rhas_n x HIY.out HNY.out (by omega) HCY.out).mono ?_
                    rintro e w' ⟨rfl, rfl⟩
                    go_wp2_with fail
                    refine (rhas_n x HIN.out HNN.out (by omega) HCN.out).mono ?_
                    rintro e w' ⟨rfl, rfl⟩
                    obtain ⟨s2, hs2⟩ : ∃ s2, take14 M s x 2 = s2 := ⟨_, rfl⟩
                    have HVR2 := Lib.hid (show VR M s2 Y (N ++ [x]) from hs2 ▸ HVR.out.add_no (votes_nodup14 HMM.out) HT.out)
                    go_wp2_with fail
                    refine (vno_n HVB0.out x HT.out hs2).mono ?_
                    rintro e k5 ⟨rfl, h1, h2, h3⟩
                    have HVB5 := Lib.hid h1
                    have HOY5 := Lib.hid (HOY0.out.off14 h2 HGK.out)
                    have HON5 := Lib.hid (HON0.out.off14 h2 HGK.out)
                    have HBX5 := Lib.hid (HBX0.out.trans h3)
                    have HZ35 := Lib.hid (Nat.le_trans HZ30.out h3.size)
                    have hbx5 := HBOX.out.grown h2 (fun e => by have := HBE.out; omega)
                    replace x0 := hbx5.cell (j := 0) rfl
                    replace x1 := hbx5.cell (j := 1) rfl
                    clear h1 h2 h3 hs2 hbx5 HVB0 HOY0 HON0 HBX0 HZ30 HI0 HIY HIN HVR
                    obtain ⟨wa, hwa⟩ : ∃ q, k5.alloc (.cells #[.int .i64 x] 3) = q := ⟨_, rfl⟩
                    have hba := below_at hwa
                    have hia := ints_at [.int .i64 x] 3 [x] 1 rfl rfl hwa
                    have HUA := Lib.hid (HON5.out.below hba)
                    have HOA := Lib.hid (HOY5.out.below hba)
                    have HIA := Lib.hid hia
                    have HVBA := Lib.hid (HVB5.out.below hba)
                    have HBXA := Lib.hid (HBX5.out.trans (hba.mono HBX5.out.size))
                    have HZ3A := Lib.hid (Nat.le_trans HZ35.out hba.size)
                    clear hba hia HVB5 HOY5 HON5 HBX5 HZ35
                    go_wp2_with (at_builtin; refine wpList_append_ints_at rfl _ _ rfl k3.heap.size wa.heap.size _ _ _ [x] rfl HUA.out rfl HIA.out ?x1 ?x2 ?_)
                    case x1 => rw [HNN.out]; show nn + 1 ≤ _; omega
                    case x2 => exact HZ3A.out
                    intro u6 w6 ho6 hb6 hg6 hf6
                    obtain ⟨hot6, hap6⟩ := apart_step HOA.out HAP.out.symm hg6 hf6
                    obtain ⟨Au6, cu6, hu6⟩ := ho6.slice
                    have hl6 : (N ++ [x]).length = nn + 1 := by rw [List.length_append, HNN.out]; rfl
                    rw [hl6] at hu6
                    subst hu6
                    have HL6 := Lib.hid hl6
                    have HVB5 := Lib.hid (HVBA.out.under hb6 HGK.out HVK.out)
                    have HU6 := Lib.hid ho6
                    have HO6 := Lib.hid hot6
                    have HAP6 := Lib.hid hap6
                    have HBX5 := Lib.hid (HBXA.out.trans (hb6.mono (Nat.le_trans HKK.out (Nat.le_refl _))))
                    have HZ35 := Lib.hid (Nat.le_trans HZ3A.out hb6.size)
                    clear ho6 hot6 hap6 hb6 hg6 hf6 hl6 HVBA HUA HOA HBXA HZ3A x0 x1
                    have HIY5 := Lib.hid (Ints.of_own HO6.out)
                    have HIL5 := Lib.hid ((HIL.out.keep HBX5.out (Nat.le_refl _)).more HBX5.out.size)
                    obtain ⟨wn, hwn⟩ : ∃ b, won14 M s2 = b := ⟨_, rfl⟩
                    obtain ⟨ln, hln⟩ : ∃ b, lost14 M s2 = b := ⟨_, rfl⟩
                    have HWN := Lib.hid hwn
                    have HLN := Lib.hid hln
                    have HMJ := Lib.hid ((votes_won14 HMM.out HVR2.out).symm.trans hwn)
                    have hld := (votes_lost14 HMM.out HVR2.out).symm.trans hln
                    rw [HBM.out, HN.out, HL6.out] at hld
                    clear hwn hln
                    rw [show ((nn + 1 : Nat) : Int) = (nn : Int) + 1 by omega] at hld
                    rw [Bool.true_and] at hld
                    have hw1 : IntKind.i64.wrap ((n : Int) - ((nn : Int) + 1)) = (n : Int) - ((nn : Int) + 1) := by rw [IntKind.wrap_i64]; omega
                    have hw2 : IntKind.i64.wrap (2 * ((n : Int) - ((nn : Int) + 1))) = 2 * ((n : Int) - ((nn : Int) + 1)) := by rw [IntKind.wrap_i64]; omega
                    by_cases hle : 2 * ((n : Int) - ((nn : Int) + 1)) ≤ (n : Int)
                    · rw [decide_eq_true hle] at hld
                      subst hld
                      go_wp2_with fail
                      refine (vwon_n HVB5.out (b := wn) HWN.out).mono ?_
                      rintro e k6 ⟨rfl, h1, h2⟩
                      replace HVB5 := Lib.hid h1
                      have HYZ := Lib.hid (HO6.out.below h2)
                      have HNZ := Lib.hid (HU6.out.below h2)
                      replace HIY5 := Lib.hid (Ints.of_own HYZ.out)
                      replace HIL5 := Lib.hid ((HIL5.out.keep h2 (Nat.le_refl _)).more h2.size)
                      replace HBX5 := Lib.hid (HBX5.out.trans (h2.mono HBX5.out.size))
                      replace HZ35 := Lib.hid (Nat.le_trans HZ35.out h2.size)
                      clear h1 h2
                      go_wp2_with fail
                      refine (rmaj_n HIL5.out HIY5.out HN.out HNY.out (by omega) (by omega) HMJ.out).mono ?_
                      rintro e k7 ⟨rfl, h2⟩
                      replace HVB5 := Lib.hid (HVB5.out.below h2)
                      replace HYZ := Lib.hid (HYZ.out.below h2)
                      replace HNZ := Lib.hid (HNZ.out.below h2)
                      replace HBX5 := Lib.hid (HBX5.out.trans (h2.mono HBX5.out.size))
                      replace HZ35 := Lib.hid (Nat.le_trans HZ35.out h2.size)
                      clear h2
                      go_wp2_with fail
                      refine (vlost_n HVB5.out HLN.out).mono ?_
                      rintro e k8 ⟨rfl, h1, h2⟩
                      replace HVB5 := Lib.hid h1
                      replace HYZ := Lib.hid (HYZ.out.below h2)
                      replace HNZ := Lib.hid (HNZ.out.below h2)
                      replace HBX5 := Lib.hid (HBX5.out.trans (h2.mono HBX5.out.size))
                      replace HZ35 := Lib.hid (Nat.le_trans HZ35.out h2.size)
                      clear h1 h2
                      go_wp2
                      go_roundw
                      case rel => exact ⟨j + 1, by omega, by go_num, s2, Y, (N ++ [x]), HVB5.out, HVR2.out, HYZ.out, HNZ.out, HAP6.out.symm, by rw [HNY.out]; omega, by rw [HL6.out]; omega, by omega, HBX5.out, HZ35.out⟩
                      case measure => simp [intOf]; omega
                    · rw [decide_eq_false hle] at hld
                      subst hld
                      go_wp2_with fail
                      refine (vwon_n HVB5.out (b := wn) HWN.out).mono ?_
                      rintro e k6 ⟨rfl, h1, h2⟩
                      replace HVB5 := Lib.hid h1
                      have HYZ := Lib.hid (HO6.out.below h2)
                      have HNZ := Lib.hid (HU6.out.below h2)
                      replace HIY5 := Lib.hid (Ints.of_own HYZ.out)
                      replace HIL5 := Lib.hid ((HIL5.out.keep h2 (Nat.le_refl _)).more h2.size)
                      replace HBX5 := Lib.hid (HBX5.out.trans (h2.mono HBX5.out.size))
                      replace HZ35 := Lib.hid (Nat.le_trans HZ35.out h2.size)
                      clear h1 h2
                      go_wp2_with fail
                      refine (rmaj_n HIL5.out HIY5.out HN.out HNY.out (by omega) (by omega) HMJ.out).mono ?_
                      rintro e k7 ⟨rfl, h2⟩
                      replace HVB5 := Lib.hid (HVB5.out.below h2)
                      replace HYZ := Lib.hid (HYZ.out.below h2)
                      replace HNZ := Lib.hid (HNZ.out.below h2)
                      replace HBX5 := Lib.hid (HBX5.out.trans (h2.mono HBX5.out.size))
                      replace HZ35 := Lib.hid (Nat.le_trans HZ35.out h2.size)
                      clear h2
                      go_wp2_with fail
                      refine (vlost_n HVB5.out HLN.out).mono ?_
                      rintro e k8 ⟨rfl, h1, h2⟩
                      replace HVB5 := Lib.hid h1
                      replace HYZ := Lib.hid (HYZ.out.below h2)
                      replace HNZ := Lib.hid (HNZ.out.below h2)
                      replace HBX5 := Lib.hid (HBX5.out.trans (h2.mono HBX5.out.size))
                      replace HZ35 := Lib.hid (Nat.le_trans HZ35.out h2.size)
                      clear h1 h2
                      go_wp2
                      go_roundw
                      case rel => exact ⟨j + 1, by omega, by go_num, s2, Y, (N ++ [x]), HVB5.out, HVR2.out, HYZ.out, HNZ.out, HAP6.out.symm, by rw [HNY.out]; omega, by rw [HL6.out]; omega, by omega, HBX5.out, HZ35.out⟩
                      case measure => simp [intOf]; omega
        · have h20i : ¬ (j : Int) < 20 := by omega
          go_wp2
          go_ret
          exact ⟨rfl, HB1.out.trans (HBX.out.mono HB1.out.size)⟩
      · have hji : ¬ (j : Int) < (r : Int) := by omega
        go_wp2
        go_ret
        exact ⟨rfl, HB1.out.trans (HBX.out.mono HB1.out.size)⟩
  · have h10i : ¬ (10 : Int) < (m : Int) := by omega
    have HI := Lib.hid ((IL.out.keep HB1.out (Nat.le_refl _)).more HB1.out.size)
    have hn10 : m ≤ 10 := by omega
    have HN := Lib.hid HM.out
    clear IL HM hcap h10
    go_wp2_with fail
    obtain ⟨M, hM⟩ : ∃ M, (if may12 a0 = true then a0 else []) = M := ⟨_, rfl⟩
    have HMM := Lib.hid hM
    refine (vnew_n HI.out HN.out (by omega) hM).mono ?_
    rintro e k2 ⟨g, v, rfl, hv, hb⟩
    have HV := Lib.hid hv
    have HIL := Lib.hid HI.out
    replace HI := Lib.hid ((HI.out.keep hb (Nat.le_refl _)).more hb.size)
    have HBK2 := Lib.hid hb
    have HZ := Lib.hid HB1.out.size
    have HB2 := Lib.hid (HB1.out.trans (hb.mono HB1.out.size))
    obtain ⟨bm, hbm⟩ : ∃ b, may12 a0 = b := ⟨_, rfl⟩
    have HBM := Lib.hid hbm
    clear hv hb hM
    go_wp2_with fail
    refine (rmay_n HI.out HN.out (by omega) HBM.out).mono ?_
    rintro e k3 ⟨rfl, hb⟩
    replace HV := Lib.hid (HV.out.below hb)
    replace HI := Lib.hid ((HI.out.keep hb (Nat.le_refl _)).more hb.size)
    have HB3 := Lib.hid (HB2.out.trans (hb.mono HB2.out.size))
    have HBK := Lib.hid (HBK2.out.trans (hb.mono HBK2.out.size))
    have HKK := Lib.hid (show k1.heap.size ≤ k3.heap.size from Nat.le_trans HBK2.out.size hb.size)
    clear hb hbm HBK2
    go_wp2_with fail
    go_loopw [8, 9, 10] (fun u t i wx => ∃ j : Nat, j ≤ r ∧ i = .int .i64 (j : Int) ∧ ∃ s Y N, VB k1.heap.size wx g v M s ∧ VR M s Y N ∧ OwnZ k3.heap.size u Y wx ∧ OwnZ k3.heap.size t N wx ∧ Apart12 u t ∧ Y.length ≤ j ∧ N.length ≤ j ∧ j ≤ 20 ∧ Below k1.heap.size k1 wx ∧ k3.heap.size ≤ wx.heap.size) (fun _ _ i _ => r - (intOf i).toNat)
    case atStart => exact ⟨0, Nat.zero_le _, rfl, _, [], [], HV.out, VR.zero M, OwnZ.nil _ _, OwnZ.nil _ _, fun g h => absurd h (by simp [Value.ownBlock]), Nat.le_refl _, Nat.le_refl _, by decide, HBK.out, Nat.le_refl _⟩
    case round =>
      have hgk : g < k3.heap.size := HV.out.box.lt
      have hvk : ∀ x, v.ownBlock = some x → x < k3.heap.size := fun x hx => (World.ownsRow.lt HV.out.row x hx).2
      obtain ⟨j, hj, rfl, s, Y, N, hvb, hvr, hoy, hon, hap, hyl, hnl, hj20, hbx, hz3⟩ := hrel
      obtain ⟨Ay, cy, hu⟩ := hoy.slice
      obtain ⟨An, cn, ht⟩ := hon.slice
      obtain ⟨ny, hny⟩ : ∃ n, Y.length = n := ⟨_, rfl⟩
      obtain ⟨nn, hnn⟩ : ∃ n, N.length = n := ⟨_, rfl⟩
      rw [hny] at hu hyl
      rw [hnn] at ht hnl
      subst hu
      subst ht
      have HVB := Lib.hid hvb
      have HVR := Lib.hid hvr
      have HOY := Lib.hid hoy
      have HON := Lib.hid hon
      have HAP := Lib.hid hap
      have HNY := Lib.hid hny
      have HNN := Lib.hid hnn
      have HVK := Lib.hid hvk
      have HGK := Lib.hid hgk
      have HBX := Lib.hid hbx
      have HZ3 := Lib.hid hz3
      clear hvb hvr hoy hon hap hny hnn hvk hbx HV HBK hgk hz3
      by_cases hjr : j < r
      · have hji : (j : Int) < (r : Int) := by omega
        by_cases h20 : j < 20
        · have h20i : (j : Int) < 20 := by omega
          obtain ⟨go, oo, hA, hgo, hcells⟩ := IO.out.at_ j (by rw [HR.out]; exact hjr)
          subst hA
          obtain ⟨⟨x, y⟩, hxy⟩ : ∃ q, a1[j]'(by rw [HR.out]; exact hjr) = q := ⟨_, rfl⟩
          rw [hxy] at hcells
          simp only at hcells
          have hbw : Below w.heap.size w wr := HB1.out.trans (HBX.out.mono HB1.out.size)
          have hc0' : wr.cell? ⟨go, oo + j * 2, none⟩ = some (.int .i64 x) := (hbw.cell (p := ⟨go, oo + j * 2, none⟩) hgo).trans (hcells 0 _ rfl)
          have hc1' : wr.cell? ⟨go, oo + j * 2 + 1, none⟩ = some (.bool y) := (hbw.cell (p := ⟨go, oo + j * 2 + 1, none⟩) hgo).trans (hcells 1 _ rfl)
          obtain ⟨be, hbe⟩ : ∃ be, wr.heap.size = be := ⟨_, rfl⟩
          obtain ⟨W0, hW0⟩ : ∃ W0, wr.alloc (.cells #[.int .i64 x, .bool y] 56) = W0 := ⟨_, rfl⟩
          have hb0 : Below wr.heap.size wr W0 := below_at hW0
          have hbox : Rt W0 be 56 [.int .i64 x, .bool y] := by rw [← hW0, ← hbe]; exact Rt.new _ _ _
          have x0 := hbox.cell (j := 0) rfl
          have x1 := hbox.cell (j := 1) rfl
          have HBE := Lib.hid (show g < be from by rw [← hbe]; exact Nat.lt_of_lt_of_le HGK.out HZ3.out)
          have HBOX := Lib.hid hbox
          have HW0 := Lib.hid hW0
          have HBX0 := Lib.hid (HBX.out.trans (hb0.mono HBX.out.size))
          have HZ30 := Lib.hid (Nat.le_trans HZ3.out hb0.size)
          have HVB0 := Lib.hid (HVB.out.below hb0)
          have HOY0 := Lib.hid (HOY.out.below hb0)
          have HON0 := Lib.hid (HON.out.below hb0)
          clear hb0 hbox hcells hxy HVB HOY HON HBX HZ3 hbw hW0 hgo
          have hIL := (HIL.out.keep HBX0.out (Nat.le_refl _)).more HBX0.out.size
          have hIY := Ints.of_own HOY0.out
          have hIN := Ints.of_own HON0.out
          have HI0 := Lib.hid hIL
          have HIY := Lib.hid hIY
          have HIN := Lib.hid hIN
          clear hIL hIY hIN
          have hwant := votes_want14 HMM.out HVR.out x
          rw [HBM.out] at hwant
          cases bm with
          | false =>
            have HT := Lib.hid (show takes14 M s x = false by rw [hwant]; rfl)
            clear hwant
            cases y with
            | true =>
              obtain ⟨s2, hs2⟩ : ∃ s2, take14 M s x 1 = s2 := ⟨_, rfl⟩
              have HVR2 := Lib.hid (show VR M s2 Y N from hs2 ▸ HVR.out.none HT.out)
              go_wp2_with fail
              rw [HW0.out]
              refine (vyes_n HVB0.out x HT.out hs2).mono ?_
              rintro e k5 ⟨rfl, h1, h2, h3⟩
              have HVB5 := Lib.hid h1
              have HOY5 := Lib.hid (HOY0.out.off14 h2 HGK.out)
              have HON5 := Lib.hid (HON0.out.off14 h2 HGK.out)
              have HBX5 := Lib.hid (HBX0.out.trans h3)
              have HZ35 := Lib.hid (Nat.le_trans HZ30.out h3.size)
              have hbx5 := HBOX.out.grown h2 (fun e => by have := HBE.out; omega)
              replace x0 := hbx5.cell (j := 0) rfl
              replace x1 := hbx5.cell (j := 1) rfl
              clear h1 h2 h3 hs2 hbx5 HVB0 HOY0 HON0 HBX0 HZ30 HI0 HIY HIN HVR
              have HIY5 := Lib.hid (Ints.of_own HOY5.out)
              have HIL5 := Lib.hid ((HIL.out.keep HBX5.out (Nat.le_refl _)).more HBX5.out.size)
              obtain ⟨wn, hwn⟩ : ∃ b, won14 M s2 = b := ⟨_, rfl⟩
              obtain ⟨ln, hln⟩ : ∃ b, lost14 M s2 = b := ⟨_, rfl⟩
              have HWN := Lib.hid hwn
              have HLN := Lib.hid hln
              have HMJ := Lib.hid ((votes_won14 HMM.out HVR2.out).symm.trans hwn)
              have hld := (votes_lost14 HMM.out HVR2.out).symm.trans hln
              rw [HBM.out, HN.out, HNN.out] at hld
              clear hwn hln
              rw [Bool.false_and] at hld
              subst hld
              go_wp2_with fail
              refine (vwon_n HVB5.out (b := wn) HWN.out).mono ?_
              rintro e k6 ⟨rfl, h1, h2⟩
              replace HVB5 := Lib.hid h1
              have HYZ := Lib.hid (HOY5.out.below h2)
              have HNZ := Lib.hid (HON5.out.below h2)
              replace HIY5 := Lib.hid (Ints.of_own HYZ.out)
              replace HIL5 := Lib.hid ((HIL5.out.keep h2 (Nat.le_refl _)).more h2.size)
              replace HBX5 := Lib.hid (HBX5.out.trans (h2.mono HBX5.out.size))
              replace HZ35 := Lib.hid (Nat.le_trans HZ35.out h2.size)
              clear h1 h2
              go_wp2_with fail
              refine (rmaj_n HIL5.out HIY5.out HN.out HNY.out (by omega) (by omega) HMJ.out).mono ?_
              rintro e k7 ⟨rfl, h2⟩
              replace HVB5 := Lib.hid (HVB5.out.below h2)
              replace HYZ := Lib.hid (HYZ.out.below h2)
              replace HNZ := Lib.hid (HNZ.out.below h2)
              replace HBX5 := Lib.hid (HBX5.out.trans (h2.mono HBX5.out.size))
              replace HZ35 := Lib.hid (Nat.le_trans HZ35.out h2.size)
              clear h2
              go_wp2_with fail
              refine (vlost_n HVB5.out HLN.out).mono ?_
              rintro e k8 ⟨rfl, h1, h2⟩
              replace HVB5 := Lib.hid h1
              replace HYZ := Lib.hid (HYZ.out.below h2)
              replace HNZ := Lib.hid (HNZ.out.below h2)
              replace HBX5 := Lib.hid (HBX5.out.trans (h2.mono HBX5.out.size))
              replace HZ35 := Lib.hid (Nat.le_trans HZ35.out h2.size)
              clear h1 h2
              go_wp2
              go_roundw
              case rel => exact ⟨j + 1, by omega, by go_num, s2, Y, N, HVB5.out, HVR2.out, HYZ.out, HNZ.out, HAP.out, by rw [HNY.out]; omega, by rw [HNN.out]; omega, by omega, HBX5.out, HZ35.out⟩
              case measure => simp [intOf]; omega
            | false =>
              obtain ⟨s2, hs2⟩ : ∃ s2, take14 M s x 2 = s2 := ⟨_, rfl⟩
              have HVR2 := Lib.hid (show VR M s2 Y N from hs2 ▸ HVR.out.none HT.out)
              go_wp2_with fail
              rw [HW0.out]
              refine (vno_n HVB0.out x HT.out hs2).mono ?_
              rintro e k5 ⟨rfl, h1, h2, h3⟩
              have HVB5 := Lib.hid h1
              have HOY5 := Lib.hid (HOY0.out.off14 h2 HGK.out)
              have HON5 := Lib.hid (HON0.out.off14 h2 HGK.out)
              have HBX5 := Lib.hid (HBX0.out.trans h3)
              have HZ35 := Lib.hid (Nat.le_trans HZ30.out h3.size)
              have hbx5 := HBOX.out.grown h2 (fun e => by have := HBE.out; omega)
              replace x0 := hbx5.cell (j := 0) rfl
              replace x1 := hbx5.cell (j := 1) rfl
              clear h1 h2 h3 hs2 hbx5 HVB0 HOY0 HON0 HBX0 HZ30 HI0 HIY HIN HVR
              have HIY5 := Lib.hid (Ints.of_own HOY5.out)
              have HIL5 := Lib.hid ((HIL.out.keep HBX5.out (Nat.le_refl _)).more HBX5.out.size)
              obtain ⟨wn, hwn⟩ : ∃ b, won14 M s2 = b := ⟨_, rfl⟩
              obtain ⟨ln, hln⟩ : ∃ b, lost14 M s2 = b := ⟨_, rfl⟩
              have HWN := Lib.hid hwn
              have HLN := Lib.hid hln
              have HMJ := Lib.hid ((votes_won14 HMM.out HVR2.out).symm.trans hwn)
              have hld := (votes_lost14 HMM.out HVR2.out).symm.trans hln
              rw [HBM.out, HN.out, HNN.out] at hld
              clear hwn hln
              rw [Bool.false_and] at hld
              subst hld
              go_wp2_with fail
              refine (vwon_n HVB5.out (b := wn) HWN.out).mono ?_
              rintro e k6 ⟨rfl, h1, h2⟩
              replace HVB5 := Lib.hid h1
              have HYZ := Lib.hid (HOY5.out.below h2)
              have HNZ := Lib.hid (HON5.out.below h2)
              replace HIY5 := Lib.hid (Ints.of_own HYZ.out)
              replace HIL5 := Lib.hid ((HIL5.out.keep h2 (Nat.le_refl _)).more h2.size)
              replace HBX5 := Lib.hid (HBX5.out.trans (h2.mono HBX5.out.size))
              replace HZ35 := Lib.hid (Nat.le_trans HZ35.out h2.size)
              clear h1 h2
              go_wp2_with fail
              refine (rmaj_n HIL5.out HIY5.out HN.out HNY.out (by omega) (by omega) HMJ.out).mono ?_
              rintro e k7 ⟨rfl, h2⟩
              replace HVB5 := Lib.hid (HVB5.out.below h2)
              replace HYZ := Lib.hid (HYZ.out.below h2)
              replace HNZ := Lib.hid (HNZ.out.below h2)
              replace HBX5 := Lib.hid (HBX5.out.trans (h2.mono HBX5.out.size))
              replace HZ35 := Lib.hid (Nat.le_trans HZ35.out h2.size)
              clear h2
              go_wp2_with fail
              refine (vlost_n HVB5.out HLN.out).mono ?_
              rintro e k8 ⟨rfl, h1, h2⟩
              replace HVB5 := Lib.hid h1
              replace HYZ := Lib.hid (HYZ.out.below h2)
              replace HNZ := Lib.hid (HNZ.out.below h2)
              replace HBX5 := Lib.hid (HBX5.out.trans (h2.mono HBX5.out.size))
              replace HZ35 := Lib.hid (Nat.le_trans HZ35.out h2.size)
              clear h1 h2
              go_wp2
              go_roundw
              case rel => exact ⟨j + 1, by omega, by go_num, s2, Y, N, HVB5.out, HVR2.out, HYZ.out, HNZ.out, HAP.out, by rw [HNY.out]; omega, by rw [HNN.out]; omega, by omega, HBX5.out, HZ35.out⟩
              case measure => simp [intOf]; omega
          | true =>
            cases hl : a0.contains x with
            | false =>
              have HT := Lib.hid (show takes14 M s x = false by rw [hwant, hl]; rfl)
              have HCL := Lib.hid hl
              clear hwant hl
              cases y with
              | true =>
                go_wp2_with fail
                rw [HW0.out]
                refine (rhas_n x HI0.out HN.out (by omega) HCL.out).mono ?_
                rintro e w' ⟨rfl, rfl⟩
                obtain ⟨s2, hs2⟩ : ∃ s2, take14 M s x 1 = s2 := ⟨_, rfl⟩
                have HVR2 := Lib.hid (show VR M s2 Y N from hs2 ▸ HVR.out.none HT.out)
                go_wp2_with fail
                refine (vyes_n HVB0.out x HT.out hs2).mono ?_
                rintro e k5 ⟨rfl, h1, h2, h3⟩
                have HVB5 := Lib.hid h1
                have HOY5 := Lib.hid (HOY0.out.off14 h2 HGK.out)
                have HON5 := Lib.hid (HON0.out.off14 h2 HGK.out)
                have HBX5 := Lib.hid (HBX0.out.trans h3)
                have HZ35 := Lib.hid (Nat.le_trans HZ30.out h3.size)
                have hbx5 := HBOX.out.grown h2 (fun e => by have := HBE.out; omega)
                replace x0 := hbx5.cell (j := 0) rfl
                replace x1 := hbx5.cell (j := 1) rfl
                clear h1 h2 h3 hs2 hbx5 HVB0 HOY0 HON0 HBX0 HZ30 HI0 HIY HIN HVR
                have HIY5 := Lib.hid (Ints.of_own HOY5.out)
                have HIL5 := Lib.hid ((HIL.out.keep HBX5.out (Nat.le_refl _)).more HBX5.out.size)
                obtain ⟨wn, hwn⟩ : ∃ b, won14 M s2 = b := ⟨_, rfl⟩
                obtain ⟨ln, hln⟩ : ∃ b, lost14 M s2 = b := ⟨_, rfl⟩
                have HWN := Lib.hid hwn
                have HLN := Lib.hid hln
                have HMJ := Lib.hid ((votes_won14 HMM.out HVR2.out).symm.trans hwn)
                have hld := (votes_lost14 HMM.out HVR2.out).symm.trans hln
                rw [HBM.out, HN.out, HNN.out] at hld
                clear hwn hln
                rw [Bool.true_and] at hld
                have hw1 : IntKind.i64.wrap ((m : Int) - (nn : Int)) = (m : Int) - (nn : Int) := by rw [IntKind.wrap_i64]; omega
                have hw2 : IntKind.i64.wrap (2 * ((m : Int) - (nn : Int))) = 2 * ((m : Int) - (nn : Int)) := by rw [IntKind.wrap_i64]; omega
                by_cases hle : 2 * ((m : Int) - (nn : Int)) ≤ (m : Int)
                · rw [decide_eq_true hle] at hld
                  subst hld
                  go_wp2_with fail
                  refine (vwon_n HVB5.out (b := wn) HWN.out).mono ?_
                  rintro e k6 ⟨rfl, h1, h2⟩
                  replace HVB5 := Lib.hid h1
                  have HYZ := Lib.hid (HOY5.out.below h2)
                  have HNZ := Lib.hid (HON5.out.below h2)
                  replace HIY5 := Lib.hid (Ints.of_own HYZ.out)
                  replace HIL5 := Lib.hid ((HIL5.out.keep h2 (Nat.le_refl _)).more h2.size)
                  replace HBX5 := Lib.hid (HBX5.out.trans (h2.mono HBX5.out.size))
                  replace HZ35 := Lib.hid (Nat.le_trans HZ35.out h2.size)
                  clear h1 h2
                  go_wp2_with fail
                  refine (rmaj_n HIL5.out HIY5.out HN.out HNY.out (by omega) (by omega) HMJ.out).mono ?_
                  rintro e k7 ⟨rfl, h2⟩
                  replace HVB5 := Lib.hid (HVB5.out.below h2)
                  replace HYZ := Lib.hid (HYZ.out.below h2)
                  replace HNZ := Lib.hid (HNZ.out.below h2)
                  replace HBX5 := Lib.hid (HBX5.out.trans (h2.mono HBX5.out.size))
                  replace HZ35 := Lib.hid (Nat.le_trans HZ35.out h2.size)
                  clear h2
                  go_wp2_with fail
                  refine (vlost_n HVB5.out HLN.out).mono ?_
                  rintro e k8 ⟨rfl, h1, h2⟩
                  replace HVB5 := Lib.hid h1
                  replace HYZ := Lib.hid (HYZ.out.below h2)
                  replace HNZ := Lib.hid (HNZ.out.below h2)
                  replace HBX5 := Lib.hid (HBX5.out.trans (h2.mono HBX5.out.size))
                  replace HZ35 := Lib.hid (Nat.le_trans HZ35.out h2.size)
                  clear h1 h2
                  go_wp2
                  go_roundw
                  case rel => exact ⟨j + 1, by omega, by go_num, s2, Y, N, HVB5.out, HVR2.out, HYZ.out, HNZ.out, HAP.out, by rw [HNY.out]; omega, by rw [HNN.out]; omega, by omega, HBX5.out, HZ35.out⟩
                  case measure => simp [intOf]; omega
                · rw [decide_eq_false hle] at hld
                  subst hld
                  go_wp2_with fail
                  refine (vwon_n HVB5.out (b := wn) HWN.out).mono ?_
                  rintro e k6 ⟨rfl, h1, h2⟩
                  replace HVB5 := Lib.hid h1
                  have HYZ := Lib.hid (HOY5.out.below h2)
                  have HNZ := Lib.hid (HON5.out.below h2)
                  replace HIY5 := Lib.hid (Ints.of_own HYZ.out)
                  replace HIL5 := Lib.hid ((HIL5.out.keep h2 (Nat.le_refl _)).more h2.size)
                  replace HBX5 := Lib.hid (HBX5.out.trans (h2.mono HBX5.out.size))
                  replace HZ35 := Lib.hid (Nat.le_trans HZ35.out h2.size)
                  clear h1 h2
                  go_wp2_with fail
                  refine (rmaj_n HIL5.out HIY5.out HN.out HNY.out (by omega) (by omega) HMJ.out).mono ?_
                  rintro e k7 ⟨rfl, h2⟩
                  replace HVB5 := Lib.hid (HVB5.out.below h2)
                  replace HYZ := Lib.hid (HYZ.out.below h2)
                  replace HNZ := Lib.hid (HNZ.out.below h2)
                  replace HBX5 := Lib.hid (HBX5.out.trans (h2.mono HBX5.out.size))
                  replace HZ35 := Lib.hid (Nat.le_trans HZ35.out h2.size)
                  clear h2
                  go_wp2_with fail
                  refine (vlost_n HVB5.out HLN.out).mono ?_
                  rintro e k8 ⟨rfl, h1, h2⟩
                  replace HVB5 := Lib.hid h1
                  replace HYZ := Lib.hid (HYZ.out.below h2)
                  replace HNZ := Lib.hid (HNZ.out.below h2)
                  replace HBX5 := Lib.hid (HBX5.out.trans (h2.mono HBX5.out.size))
                  replace HZ35 := Lib.hid (Nat.le_trans HZ35.out h2.size)
                  clear h1 h2
                  go_wp2
                  go_roundw
                  case rel => exact ⟨j + 1, by omega, by go_num, s2, Y, N, HVB5.out, HVR2.out, HYZ.out, HNZ.out, HAP.out, by rw [HNY.out]; omega, by rw [HNN.out]; omega, by omega, HBX5.out, HZ35.out⟩
                  case measure => simp [intOf]; omega
              | false =>
                go_wp2_with fail
                rw [HW0.out]
                refine (rhas_n x HI0.out HN.out (by omega) HCL.out).mono ?_
                rintro e w' ⟨rfl, rfl⟩
                obtain ⟨s2, hs2⟩ : ∃ s2, take14 M s x 2 = s2 := ⟨_, rfl⟩
                have HVR2 := Lib.hid (show VR M s2 Y N from hs2 ▸ HVR.out.none HT.out)
                go_wp2_with fail
                refine (vno_n HVB0.out x HT.out hs2).mono ?_
                rintro e k5 ⟨rfl, h1, h2, h3⟩
                have HVB5 := Lib.hid h1
                have HOY5 := Lib.hid (HOY0.out.off14 h2 HGK.out)
                have HON5 := Lib.hid (HON0.out.off14 h2 HGK.out)
                have HBX5 := Lib.hid (HBX0.out.trans h3)
                have HZ35 := Lib.hid (Nat.le_trans HZ30.out h3.size)
                have hbx5 := HBOX.out.grown h2 (fun e => by have := HBE.out; omega)
                replace x0 := hbx5.cell (j := 0) rfl
                replace x1 := hbx5.cell (j := 1) rfl
                clear h1 h2 h3 hs2 hbx5 HVB0 HOY0 HON0 HBX0 HZ30 HI0 HIY HIN HVR
                have HIY5 := Lib.hid (Ints.of_own HOY5.out)
                have HIL5 := Lib.hid ((HIL.out.keep HBX5.out (Nat.le_refl _)).more HBX5.out.size)
                obtain ⟨wn, hwn⟩ : ∃ b, won14 M s2 = b := ⟨_, rfl⟩
                obtain ⟨ln, hln⟩ : ∃ b, lost14 M s2 = b := ⟨_, rfl⟩
                have HWN := Lib.hid hwn
                have HLN := Lib.hid hln
                have HMJ := Lib.hid ((votes_won14 HMM.out HVR2.out).symm.trans hwn)
                have hld := (votes_lost14 HMM.out HVR2.out).symm.trans hln
                rw [HBM.out, HN.out, HNN.out] at hld
                clear hwn hln
                rw [Bool.true_and] at hld
                have hw1 : IntKind.i64.wrap ((m : Int) - (nn : Int)) = (m : Int) - (nn : Int) := by rw [IntKind.wrap_i64]; omega
                have hw2 : IntKind.i64.wrap (2 * ((m : Int) - (nn : Int))) = 2 * ((m : Int) - (nn : Int)) := by rw [IntKind.wrap_i64]; omega
                by_cases hle : 2 * ((m : Int) - (nn : Int)) ≤ (m : Int)
                · rw [decide_eq_true hle] at hld
                  subst hld
                  go_wp2_with fail
                  refine (vwon_n HVB5.out (b := wn) HWN.out).mono ?_
                  rintro e k6 ⟨rfl, h1, h2⟩
                  replace HVB5 := Lib.hid h1
                  have HYZ := Lib.hid (HOY5.out.below h2)
                  have HNZ := Lib.hid (HON5.out.below h2)
                  replace HIY5 := Lib.hid (Ints.of_own HYZ.out)
                  replace HIL5 := Lib.hid ((HIL5.out.keep h2 (Nat.le_refl _)).more h2.size)
                  replace HBX5 := Lib.hid (HBX5.out.trans (h2.mono HBX5.out.size))
                  replace HZ35 := Lib.hid (Nat.le_trans HZ35.out h2.size)
                  clear h1 h2
                  go_wp2_with fail
                  refine (rmaj_n HIL5.out HIY5.out HN.out HNY.out (by omega) (by omega) HMJ.out).mono ?_
                  rintro e k7 ⟨rfl, h2⟩
                  replace HVB5 := Lib.hid (HVB5.out.below h2)
                  replace HYZ := Lib.hid (HYZ.out.below h2)
                  replace HNZ := Lib.hid (HNZ.out.below h2)
                  replace HBX5 := Lib.hid (HBX5.out.trans (h2.mono HBX5.out.size))
                  replace HZ35 := Lib.hid (Nat.le_trans HZ35.out h2.size)
                  clear h2
                  go_wp2_with fail
                  refine (vlost_n HVB5.out HLN.out).mono ?_
                  rintro e k8 ⟨rfl, h1, h2⟩
                  replace HVB5 := Lib.hid h1
                  replace HYZ := Lib.hid (HYZ.out.below h2)
                  replace HNZ := Lib.hid (HNZ.out.below h2)
                  replace HBX5 := Lib.hid (HBX5.out.trans (h2.mono HBX5.out.size))
                  replace HZ35 := Lib.hid (Nat.le_trans HZ35.out h2.size)
                  clear h1 h2
                  go_wp2
                  go_roundw
                  case rel => exact ⟨j + 1, by omega, by go_num, s2, Y, N, HVB5.out, HVR2.out, HYZ.out, HNZ.out, HAP.out, by rw [HNY.out]; omega, by rw [HNN.out]; omega, by omega, HBX5.out, HZ35.out⟩
                  case measure => simp [intOf]; omega
                · rw [decide_eq_false hle] at hld
                  subst hld
                  go_wp2_with fail
                  refine (vwon_n HVB5.out (b := wn) HWN.out).mono ?_
                  rintro e k6 ⟨rfl, h1, h2⟩
                  replace HVB5 := Lib.hid h1
                  have HYZ := Lib.hid (HOY5.out.below h2)
                  have HNZ := Lib.hid (HON5.out.below h2)
                  replace HIY5 := Lib.hid (Ints.of_own HYZ.out)
                  replace HIL5 := Lib.hid ((HIL5.out.keep h2 (Nat.le_refl _)).more h2.size)
                  replace HBX5 := Lib.hid (HBX5.out.trans (h2.mono HBX5.out.size))
                  replace HZ35 := Lib.hid (Nat.le_trans HZ35.out h2.size)
                  clear h1 h2
                  go_wp2_with fail
                  refine (rmaj_n HIL5.out HIY5.out HN.out HNY.out (by omega) (by omega) HMJ.out).mono ?_
                  rintro e k7 ⟨rfl, h2⟩
                  replace HVB5 := Lib.hid (HVB5.out.below h2)
                  replace HYZ := Lib.hid (HYZ.out.below h2)
                  replace HNZ := Lib.hid (HNZ.out.below h2)
                  replace HBX5 := Lib.hid (HBX5.out.trans (h2.mono HBX5.out.size))
                  replace HZ35 := Lib.hid (Nat.le_trans HZ35.out h2.size)
                  clear h2
                  go_wp2_with fail
                  refine (vlost_n HVB5.out HLN.out).mono ?_
                  rintro e k8 ⟨rfl, h1, h2⟩
                  replace HVB5 := Lib.hid h1
                  replace HYZ := Lib.hid (HYZ.out.below h2)
                  replace HNZ := Lib.hid (HNZ.out.below h2)
                  replace HBX5 := Lib.hid (HBX5.out.trans (h2.mono HBX5.out.size))
                  replace HZ35 := Lib.hid (Nat.le_trans HZ35.out h2.size)
                  clear h1 h2
                  go_wp2
                  go_roundw
                  case rel => exact ⟨j + 1, by omega, by go_num, s2, Y, N, HVB5.out, HVR2.out, HYZ.out, HNZ.out, HAP.out, by rw [HNY.out]; omega, by rw [HNN.out]; omega, by omega, HBX5.out, HZ35.out⟩
                  case measure => simp [intOf]; omega
            | true =>
              have HCL := Lib.hid hl
              cases hyc : Y.contains x with
              | true =>
                have HT := Lib.hid (show takes14 M s x = false by rw [hwant, hl, hyc]; rfl)
                have HCY := Lib.hid hyc
                clear hwant hl hyc
                cases y with
                | true =>
                  go_wp2_with fail
                  rw [HW0.out]
                  refine (rhas_n x HI0.out HN.out (by omega) HCL.out).mono ?_
                  rintro e w' ⟨rfl, rfl⟩
                  go_wp2_with fail
                  refine (rhas_n x HIY.out HNY.out (by omega) HCY.out).mono ?_
                  rintro e w' ⟨rfl, rfl⟩
                  obtain ⟨s2, hs2⟩ : ∃ s2, take14 M s x 1 = s2 := ⟨_, rfl⟩
                  have HVR2 := Lib.hid (show VR M s2 Y N from hs2 ▸ HVR.out.none HT.out)
                  go_wp2_with fail
                  refine (vyes_n HVB0.out x HT.out hs2).mono ?_
                  rintro e k5 ⟨rfl, h1, h2, h3⟩
                  have HVB5 := Lib.hid h1
                  have HOY5 := Lib.hid (HOY0.out.off14 h2 HGK.out)
                  have HON5 := Lib.hid (HON0.out.off14 h2 HGK.out)
                  have HBX5 := Lib.hid (HBX0.out.trans h3)
                  have HZ35 := Lib.hid (Nat.le_trans HZ30.out h3.size)
                  have hbx5 := HBOX.out.grown h2 (fun e => by have := HBE.out; omega)
                  replace x0 := hbx5.cell (j := 0) rfl
                  replace x1 := hbx5.cell (j := 1) rfl
                  clear h1 h2 h3 hs2 hbx5 HVB0 HOY0 HON0 HBX0 HZ30 HI0 HIY HIN HVR
                  have HIY5 := Lib.hid (Ints.of_own HOY5.out)
                  have HIL5 := Lib.hid ((HIL.out.keep HBX5.out (Nat.le_refl _)).more HBX5.out.size)
                  obtain ⟨wn, hwn⟩ : ∃ b, won14 M s2 = b := ⟨_, rfl⟩
                  obtain ⟨ln, hln⟩ : ∃ b, lost14 M s2 = b := ⟨_, rfl⟩
                  have HWN := Lib.hid hwn
                  have HLN := Lib.hid hln
                  have HMJ := Lib.hid ((votes_won14 HMM.out HVR2.out).symm.trans hwn)
                  have hld := (votes_lost14 HMM.out HVR2.out).symm.trans hln
                  rw [HBM.out, HN.out, HNN.out] at hld
                  clear hwn hln
                  rw [Bool.true_and] at hld
                  have hw1 : IntKind.i64.wrap ((m : Int) - (nn : Int)) = (m : Int) - (nn : Int) := by rw [IntKind.wrap_i64]; omega
                  have hw2 : IntKind.i64.wrap (2 * ((m : Int) - (nn : Int))) = 2 * ((m : Int) - (nn : Int)) := by rw [IntKind.wrap_i64]; omega
                  by_cases hle : 2 * ((m : Int) - (nn : Int)) ≤ (m : Int)
                  · rw [decide_eq_true hle] at hld
                    subst hld
                    go_wp2_with fail
                    refine (vwon_n HVB5.out (b := wn) HWN.out).mono ?_
                    rintro e k6 ⟨rfl, h1, h2⟩
                    replace HVB5 := Lib.hid h1
                    have HYZ := Lib.hid (HOY5.out.below h2)
                    have HNZ := Lib.hid (HON5.out.below h2)
                    replace HIY5 := Lib.hid (Ints.of_own HYZ.out)
                    replace HIL5 := Lib.hid ((HIL5.out.keep h2 (Nat.le_refl _)).more h2.size)
                    replace HBX5 := Lib.hid (HBX5.out.trans (h2.mono HBX5.out.size))
                    replace HZ35 := Lib.hid (Nat.le_trans HZ35.out h2.size)
                    clear h1 h2
                    go_wp2_with fail
                    refine (rmaj_n HIL5.out HIY5.out HN.out HNY.out (by omega) (by omega) HMJ.out).mono ?_
                    rintro e k7 ⟨rfl, h2⟩
                    replace HVB5 := Lib.hid (HVB5.out.below h2)
                    replace HYZ := Lib.hid (HYZ.out.below h2)
                    replace HNZ := Lib.hid (HNZ.out.below h2)
                    replace HBX5 := Lib.hid (HBX5.out.trans (h2.mono HBX5.out.size))
                    replace HZ35 := Lib.hid (Nat.le_trans HZ35.out h2.size)
                    clear h2
                    go_wp2_with fail
                    refine (vlost_n HVB5.out HLN.out).mono ?_
                    rintro e k8 ⟨rfl, h1, h2⟩
                    replace HVB5 := Lib.hid h1
                    replace HYZ := Lib.hid (HYZ.out.below h2)
                    replace HNZ := Lib.hid (HNZ.out.below h2)
                    replace HBX5 := Lib.hid (HBX5.out.trans (h2.mono HBX5.out.size))
                    replace HZ35 := Lib.hid (Nat.le_trans HZ35.out h2.size)
                    clear h1 h2
                    go_wp2
                    go_roundw
                    case rel => exact ⟨j + 1, by omega, by go_num, s2, Y, N, HVB5.out, HVR2.out, HYZ.out, HNZ.out, HAP.out, by rw [HNY.out]; omega, by rw [HNN.out]; omega, by omega, HBX5.out, HZ35.out⟩
                    case measure => simp [intOf]; omega
                  · rw [decide_eq_false hle] at hld
                    subst hld
                    go_wp2_with fail
                    refine (vwon_n HVB5.out (b := wn) HWN.out).mono ?_
                    rintro e k6 ⟨rfl, h1, h2⟩
                    replace HVB5 := Lib.hid h1
                    have HYZ := Lib.hid (HOY5.out.below h2)
                    have HNZ := Lib.hid (HON5.out.below h2)
                    replace HIY5 := Lib.hid (Ints.of_own HYZ.out)
                    replace HIL5 := Lib.hid ((HIL5.out.keep h2 (Nat.le_refl _)).more h2.size)
                    replace HBX5 := Lib.hid (HBX5.out.trans (h2.mono HBX5.out.size))
                    replace HZ35 := Lib.hid (Nat.le_trans HZ35.out h2.size)
                    clear h1 h2
                    go_wp2_with fail
                    refine (rmaj_n HIL5.out HIY5.out HN.out HNY.out (by omega) (by omega) HMJ.out).mono ?_
                    rintro e k7 ⟨rfl, h2⟩
                    replace HVB5 := Lib.hid (HVB5.out.below h2)
                    replace HYZ := Lib.hid (HYZ.out.below h2)
                    replace HNZ := Lib.hid (HNZ.out.below h2)
                    replace HBX5 := Lib.hid (HBX5.out.trans (h2.mono HBX5.out.size))
                    replace HZ35 := Lib.hid (Nat.le_trans HZ35.out h2.size)
                    clear h2
                    go_wp2_with fail
                    refine (vlost_n HVB5.out HLN.out).mono ?_
                    rintro e k8 ⟨rfl, h1, h2⟩
                    replace HVB5 := Lib.hid h1
                    replace HYZ := Lib.hid (HYZ.out.below h2)
                    replace HNZ := Lib.hid (HNZ.out.below h2)
                    replace HBX5 := Lib.hid (HBX5.out.trans (h2.mono HBX5.out.size))
                    replace HZ35 := Lib.hid (Nat.le_trans HZ35.out h2.size)
                    clear h1 h2
                    go_wp2
                    go_roundw
                    case rel => exact ⟨j + 1, by omega, by go_num, s2, Y, N, HVB5.out, HVR2.out, HYZ.out, HNZ.out, HAP.out, by rw [HNY.out]; omega, by rw [HNN.out]; omega, by omega, HBX5.out, HZ35.out⟩
                    case measure => simp [intOf]; omega
                | false =>
                  go_wp2_with fail
                  rw [HW0.out]
                  refine (rhas_n x HI0.out HN.out (by omega) HCL.out).mono ?_
                  rintro e w' ⟨rfl, rfl⟩
                  go_wp2_with fail
                  refine (rhas_n x HIY.out HNY.out (by omega) HCY.out).mono ?_
                  rintro e w' ⟨rfl, rfl⟩
                  obtain ⟨s2, hs2⟩ : ∃ s2, take14 M s x 2 = s2 := ⟨_, rfl⟩
                  have HVR2 := Lib.hid (show VR M s2 Y N from hs2 ▸ HVR.out.none HT.out)
                  go_wp2_with fail
                  refine (vno_n HVB0.out x HT.out hs2).mono ?_
                  rintro e k5 ⟨rfl, h1, h2, h3⟩
                  have HVB5 := Lib.hid h1
                  have HOY5 := Lib.hid (HOY0.out.off14 h2 HGK.out)
                  have HON5 := Lib.hid (HON0.out.off14 h2 HGK.out)
                  have HBX5 := Lib.hid (HBX0.out.trans h3)
                  have HZ35 := Lib.hid (Nat.le_trans HZ30.out h3.size)
                  have hbx5 := HBOX.out.grown h2 (fun e => by have := HBE.out; omega)
                  replace x0 := hbx5.cell (j := 0) rfl
                  replace x1 := hbx5.cell (j := 1) rfl
                  clear h1 h2 h3 hs2 hbx5 HVB0 HOY0 HON0 HBX0 HZ30 HI0 HIY HIN HVR
                  have HIY5 := Lib.hid (Ints.of_own HOY5.out)
                  have HIL5 := Lib.hid ((HIL.out.keep HBX5.out (Nat.le_refl _)).more HBX5.out.size)
                  obtain ⟨wn, hwn⟩ : ∃ b, won14 M s2 = b := ⟨_, rfl⟩
                  obtain ⟨ln, hln⟩ : ∃ b, lost14 M s2 = b := ⟨_, rfl⟩
                  have HWN := Lib.hid hwn
                  have HLN := Lib.hid hln
                  have HMJ := Lib.hid ((votes_won14 HMM.out HVR2.out).symm.trans hwn)
                  have hld := (votes_lost14 HMM.out HVR2.out).symm.trans hln
                  rw [HBM.out, HN.out, HNN.out] at hld
                  clear hwn hln
                  rw [Bool.true_and] at hld
                  have hw1 : IntKind.i64.wrap ((m : Int) - (nn : Int)) = (m : Int) - (nn : Int) := by rw [IntKind.wrap_i64]; omega
                  have hw2 : IntKind.i64.wrap (2 * ((m : Int) - (nn : Int))) = 2 * ((m : Int) - (nn : Int)) := by rw [IntKind.wrap_i64]; omega
                  by_cases hle : 2 * ((m : Int) - (nn : Int)) ≤ (m : Int)
                  · rw [decide_eq_true hle] at hld
                    subst hld
                    go_wp2_with fail
                    refine (vwon_n HVB5.out (b := wn) HWN.out).mono ?_
                    rintro e k6 ⟨rfl, h1, h2⟩
                    replace HVB5 := Lib.hid h1
                    have HYZ := Lib.hid (HOY5.out.below h2)
                    have HNZ := Lib.hid (HON5.out.below h2)
                    replace HIY5 := Lib.hid (Ints.of_own HYZ.out)
                    replace HIL5 := Lib.hid ((HIL5.out.keep h2 (Nat.le_refl _)).more h2.size)
                    replace HBX5 := Lib.hid (HBX5.out.trans (h2.mono HBX5.out.size))
                    replace HZ35 := Lib.hid (Nat.le_trans HZ35.out h2.size)
                    clear h1 h2
                    go_wp2_with fail
                    refine (rmaj_n HIL5.out HIY5.out HN.out HNY.out (by omega) (by omega) HMJ.out).mono ?_
                    rintro e k7 ⟨rfl, h2⟩
                    replace HVB5 := Lib.hid (HVB5.out.below h2)
                    replace HYZ := Lib.hid (HYZ.out.below h2)
                    replace HNZ := Lib.hid (HNZ.out.below h2)
                    replace HBX5 := Lib.hid (HBX5.out.trans (h2.mono HBX5.out.size))
                    replace HZ35 := Lib.hid (Nat.le_trans HZ35.out h2.size)
                    clear h2
                    go_wp2_with fail
                    refine (vlost_n HVB5.out HLN.out).mono ?_
                    rintro e k8 ⟨rfl, h1, h2⟩
                    replace HVB5 := Lib.hid h1
                    replace HYZ := Lib.hid (HYZ.out.below h2)
                    replace HNZ := Lib.hid (HNZ.out.below h2)
                    replace HBX5 := Lib.hid (HBX5.out.trans (h2.mono HBX5.out.size))
                    replace HZ35 := Lib.hid (Nat.le_trans HZ35.out h2.size)
                    clear h1 h2
                    go_wp2
                    go_roundw
                    case rel => exact ⟨j + 1, by omega, by go_num, s2, Y, N, HVB5.out, HVR2.out, HYZ.out, HNZ.out, HAP.out, by rw [HNY.out]; omega, by rw [HNN.out]; omega, by omega, HBX5.out, HZ35.out⟩
                    case measure => simp [intOf]; omega
                  · rw [decide_eq_false hle] at hld
                    subst hld
                    go_wp2_with fail
                    refine (vwon_n HVB5.out (b := wn) HWN.out).mono ?_
                    rintro e k6 ⟨rfl, h1, h2⟩
                    replace HVB5 := Lib.hid h1
                    have HYZ := Lib.hid (HOY5.out.below h2)
                    have HNZ := Lib.hid (HON5.out.below h2)
                    replace HIY5 := Lib.hid (Ints.of_own HYZ.out)
                    replace HIL5 := Lib.hid ((HIL5.out.keep h2 (Nat.le_refl _)).more h2.size)
                    replace HBX5 := Lib.hid (HBX5.out.trans (h2.mono HBX5.out.size))
                    replace HZ35 := Lib.hid (Nat.le_trans HZ35.out h2.size)
                    clear h1 h2
                    go_wp2_with fail
                    refine (rmaj_n HIL5.out HIY5.out HN.out HNY.out (by omega) (by omega) HMJ.out).mono ?_
                    rintro e k7 ⟨rfl, h2⟩
                    replace HVB5 := Lib.hid (HVB5.out.below h2)
                    replace HYZ := Lib.hid (HYZ.out.below h2)
                    replace HNZ := Lib.hid (HNZ.out.below h2)
                    replace HBX5 := Lib.hid (HBX5.out.trans (h2.mono HBX5.out.size))
                    replace HZ35 := Lib.hid (Nat.le_trans HZ35.out h2.size)
                    clear h2
                    go_wp2_with fail
                    refine (vlost_n HVB5.out HLN.out).mono ?_
                    rintro e k8 ⟨rfl, h1, h2⟩
                    replace HVB5 := Lib.hid h1
                    replace HYZ := Lib.hid (HYZ.out.below h2)
                    replace HNZ := Lib.hid (HNZ.out.below h2)
                    replace HBX5 := Lib.hid (HBX5.out.trans (h2.mono HBX5.out.size))
                    replace HZ35 := Lib.hid (Nat.le_trans HZ35.out h2.size)
                    clear h1 h2
                    go_wp2
                    go_roundw
                    case rel => exact ⟨j + 1, by omega, by go_num, s2, Y, N, HVB5.out, HVR2.out, HYZ.out, HNZ.out, HAP.out, by rw [HNY.out]; omega, by rw [HNN.out]; omega, by omega, HBX5.out, HZ35.out⟩
                    case measure => simp [intOf]; omega
              | false =>
                have HCY := Lib.hid hyc
                cases hnc : N.contains x with
                | true =>
                  have HT := Lib.hid (show takes14 M s x = false by rw [hwant, hl, hyc, hnc]; rfl)
                  have HCN := Lib.hid hnc
                  clear hwant hl hyc hnc
                  cases y with
                  | true =>
                    go_wp2_with fail
                    rw [HW0.out]
                    refine (rhas_n x HI0.out HN.out (by omega) HCL.out).mono ?_
                    rintro e w' ⟨rfl, rfl⟩
                    go_wp2_with fail
                    refine (rhas_n x HIY.out HNY.out (by omega) HCY.out).mono ?_
                    rintro e w' ⟨rfl, rfl⟩
                    go_wp2_with fail
                    refine (rhas_n x HIN.out HNN.out (by omega) HCN.out).mono ?_
                    rintro e w' ⟨rfl, rfl⟩
                    obtain ⟨s2, hs2⟩ : ∃ s2, take14 M s x 1 = s2 := ⟨_, rfl⟩
                    have HVR2 := Lib.hid (show VR M s2 Y N from hs2 ▸ HVR.out.none HT.out)
                    go_wp2_with fail
                    refine (vyes_n HVB0.out x HT.out hs2).mono ?_
                    rintro e k5 ⟨rfl, h1, h2, h3⟩
                    have HVB5 := Lib.hid h1
                    have HOY5 := Lib.hid (HOY0.out.off14 h2 HGK.out)
                    have HON5 := Lib.hid (HON0.out.off14 h2 HGK.out)
                    have HBX5 := Lib.hid (HBX0.out.trans h3)
                    have HZ35 := Lib.hid (Nat.le_trans HZ30.out h3.size)
                    have hbx5 := HBOX.out.grown h2 (fun e => by have := HBE.out; omega)
                    replace x0 := hbx5.cell (j := 0) rfl
                    replace x1 := hbx5.cell (j := 1) rfl
                    clear h1 h2 h3 hs2 hbx5 HVB0 HOY0 HON0 HBX0 HZ30 HI0 HIY HIN HVR
                    have HIY5 := Lib.hid (Ints.of_own HOY5.out)
                    have HIL5 := Lib.hid ((HIL.out.keep HBX5.out (Nat.le_refl _)).more HBX5.out.size)
                    obtain ⟨wn, hwn⟩ : ∃ b, won14 M s2 = b := ⟨_, rfl⟩
                    obtain ⟨ln, hln⟩ : ∃ b, lost14 M s2 = b := ⟨_, rfl⟩
                    have HWN := Lib.hid hwn
                    have HLN := Lib.hid hln
                    have HMJ := Lib.hid ((votes_won14 HMM.out HVR2.out).symm.trans hwn)
                    have hld := (votes_lost14 HMM.out HVR2.out).symm.trans hln
                    rw [HBM.out, HN.out, HNN.out] at hld
                    clear hwn hln
                    rw [Bool.true_and] at hld
                    have hw1 : IntKind.i64.wrap ((m : Int) - (nn : Int)) = (m : Int) - (nn : Int) := by rw [IntKind.wrap_i64]; omega
                    have hw2 : IntKind.i64.wrap (2 * ((m : Int) - (nn : Int))) = 2 * ((m : Int) - (nn : Int)) := by rw [IntKind.wrap_i64]; omega
                    by_cases hle : 2 * ((m : Int) - (nn : Int)) ≤ (m : Int)
                    · rw [decide_eq_true hle] at hld
                      subst hld
                      go_wp2_with fail
                      refine (vwon_n HVB5.out (b := wn) HWN.out).mono ?_
                      rintro e k6 ⟨rfl, h1, h2⟩
                      replace HVB5 := Lib.hid h1
                      have HYZ := Lib.hid (HOY5.out.below h2)
                      have HNZ := Lib.hid (HON5.out.below h2)
                      replace HIY5 := Lib.hid (Ints.of_own HYZ.out)
                      replace HIL5 := Lib.hid ((HIL5.out.keep h2 (Nat.le_refl _)).more h2.size)
                      replace HBX5 := Lib.hid (HBX5.out.trans (h2.mono HBX5.out.size))
                      replace HZ35 := Lib.hid (Nat.le_trans HZ35.out h2.size)
                      clear h1 h2
                      go_wp2_with fail
                      refine (rmaj_n HIL5.out HIY5.out HN.out HNY.out (by omega) (by omega) HMJ.out).mono ?_
                      rintro e k7 ⟨rfl, h2⟩
                      replace HVB5 := Lib.hid (HVB5.out.below h2)
                      replace HYZ := Lib.hid (HYZ.out.below h2)
                      replace HNZ := Lib.hid (HNZ.out.below h2)
                      replace HBX5 := Lib.hid (HBX5.out.trans (h2.mono HBX5.out.size))
                      replace HZ35 := Lib.hid (Nat.le_trans HZ35.out h2.size)
                      clear h2
                      go_wp2_with fail
                      refine (vlost_n HVB5.out HLN.out).mono ?_
                      rintro e k8 ⟨rfl, h1, h2⟩
                      replace HVB5 := Lib.hid h1
                      replace HYZ := Lib.hid (HYZ.out.below h2)
                      replace HNZ := Lib.hid (HNZ.out.below h2)
                      replace HBX5 := Lib.hid (HBX5.out.trans (h2.mono HBX5.out.size))
                      replace HZ35 := Lib.hid (Nat.le_trans HZ35.out h2.size)
                      clear h1 h2
                      go_wp2
                      go_roundw
                      case rel => exact ⟨j + 1, by omega, by go_num, s2, Y, N, HVB5.out, HVR2.out, HYZ.out, HNZ.out, HAP.out, by rw [HNY.out]; omega, by rw [HNN.out]; omega, by omega, HBX5.out, HZ35.out⟩
                      case measure => simp [intOf]; omega
                    · rw [decide_eq_false hle] at hld
                      subst hld
                      go_wp2_with fail
                      refine (vwon_n HVB5.out (b := wn) HWN.out).mono ?_
                      rintro e k6 ⟨rfl, h1, h2⟩
                      replace HVB5 := Lib.hid h1
                      have HYZ := Lib.hid (HOY5.out.below h2)
                      have HNZ := Lib.hid (HON5.out.below h2)
                      replace HIY5 := Lib.hid (Ints.of_own HYZ.out)
                      replace HIL5 := Lib.hid ((HIL5.out.keep h2 (Nat.le_refl _)).more h2.size)
                      replace HBX5 := Lib.hid (HBX5.out.trans (h2.mono HBX5.out.size))
                      replace HZ35 := Lib.hid (Nat.le_trans HZ35.out h2.size)
                      clear h1 h2
                      go_wp2_with fail
                      refine (rmaj_n HIL5.out HIY5.out HN.out HNY.out (by omega) (by omega) HMJ.out).mono ?_
                      rintro e k7 ⟨rfl, h2⟩
                      replace HVB5 := Lib.hid (HVB5.out.below h2)
                      replace HYZ := Lib.hid (HYZ.out.below h2)
                      replace HNZ := Lib.hid (HNZ.out.below h2)
                      replace HBX5 := Lib.hid (HBX5.out.trans (h2.mono HBX5.out.size))
                      replace HZ35 := Lib.hid (Nat.le_trans HZ35.out h2.size)
                      clear h2
                      go_wp2_with fail
                      refine (vlost_n HVB5.out HLN.out).mono ?_
                      rintro e k8 ⟨rfl, h1, h2⟩
                      replace HVB5 := Lib.hid h1
                      replace HYZ := Lib.hid (HYZ.out.below h2)
                      replace HNZ := Lib.hid (HNZ.out.below h2)
                      replace HBX5 := Lib.hid (HBX5.out.trans (h2.mono HBX5.out.size))
                      replace HZ35 := Lib.hid (Nat.le_trans HZ35.out h2.size)
                      clear h1 h2
                      go_wp2
                      go_roundw
                      case rel => exact ⟨j + 1, by omega, by go_num, s2, Y, N, HVB5.out, HVR2.out, HYZ.out, HNZ.out, HAP.out, by rw [HNY.out]; omega, by rw [HNN.out]; omega, by omega, HBX5.out, HZ35.out⟩
                      case measure => simp [intOf]; omega
                  | false =>
                    go_wp2_with fail
                    rw [HW0.out]
                    refine (rhas_n x HI0.out HN.out (by omega) HCL.out).mono ?_
                    rintro e w' ⟨rfl, rfl⟩
                    go_wp2_with fail
                    refine (rhas_n x HIY.out HNY.out (by omega) HCY.out).mono ?_
                    rintro e w' ⟨rfl, rfl⟩
                    go_wp2_with fail
                    refine (rhas_n x HIN.out HNN.out (by omega) HCN.out).mono ?_
                    rintro e w' ⟨rfl, rfl⟩
                    obtain ⟨s2, hs2⟩ : ∃ s2, take14 M s x 2 = s2 := ⟨_, rfl⟩
                    have HVR2 := Lib.hid (show VR M s2 Y N from hs2 ▸ HVR.out.none HT.out)
                    go_wp2_with fail
                    refine (vno_n HVB0.out x HT.out hs2).mono ?_
                    rintro e k5 ⟨rfl, h1, h2, h3⟩
                    have HVB5 := Lib.hid h1
                    have HOY5 := Lib.hid (HOY0.out.off14 h2 HGK.out)
                    have HON5 := Lib.hid (HON0.out.off14 h2 HGK.out)
                    have HBX5 := Lib.hid (HBX0.out.trans h3)
                    have HZ35 := Lib.hid (Nat.le_trans HZ30.out h3.size)
                    have hbx5 := HBOX.out.grown h2 (fun e => by have := HBE.out; omega)
                    replace x0 := hbx5.cell (j := 0) rfl
                    replace x1 := hbx5.cell (j := 1) rfl
                    clear h1 h2 h3 hs2 hbx5 HVB0 HOY0 HON0 HBX0 HZ30 HI0 HIY HIN HVR
                    have HIY5 := Lib.hid (Ints.of_own HOY5.out)
                    have HIL5 := Lib.hid ((HIL.out.keep HBX5.out (Nat.le_refl _)).more HBX5.out.size)
                    obtain ⟨wn, hwn⟩ : ∃ b, won14 M s2 = b := ⟨_, rfl⟩
                    obtain ⟨ln, hln⟩ : ∃ b, lost14 M s2 = b := ⟨_, rfl⟩
                    have HWN := Lib.hid hwn
                    have HLN := Lib.hid hln
                    have HMJ := Lib.hid ((votes_won14 HMM.out HVR2.out).symm.trans hwn)
                    have hld := (votes_lost14 HMM.out HVR2.out).symm.trans hln
                    rw [HBM.out, HN.out, HNN.out] at hld
                    clear hwn hln
                    rw [Bool.true_and] at hld
                    have hw1 : IntKind.i64.wrap ((m : Int) - (nn : Int)) = (m : Int) - (nn : Int) := by rw [IntKind.wrap_i64]; omega
                    have hw2 : IntKind.i64.wrap (2 * ((m : Int) - (nn : Int))) = 2 * ((m : Int) - (nn : Int)) := by rw [IntKind.wrap_i64]; omega
                    by_cases hle : 2 * ((m : Int) - (nn : Int)) ≤ (m : Int)
                    · rw [decide_eq_true hle] at hld
                      subst hld
                      go_wp2_with fail
                      refine (vwon_n HVB5.out (b := wn) HWN.out).mono ?_
                      rintro e k6 ⟨rfl, h1, h2⟩
                      replace HVB5 := Lib.hid h1
                      have HYZ := Lib.hid (HOY5.out.below h2)
                      have HNZ := Lib.hid (HON5.out.below h2)
                      replace HIY5 := Lib.hid (Ints.of_own HYZ.out)
                      replace HIL5 := Lib.hid ((HIL5.out.keep h2 (Nat.le_refl _)).more h2.size)
                      replace HBX5 := Lib.hid (HBX5.out.trans (h2.mono HBX5.out.size))
                      replace HZ35 := Lib.hid (Nat.le_trans HZ35.out h2.size)
                      clear h1 h2
                      go_wp2_with fail
                      refine (rmaj_n HIL5.out HIY5.out HN.out HNY.out (by omega) (by omega) HMJ.out).mono ?_
                      rintro e k7 ⟨rfl, h2⟩
                      replace HVB5 := Lib.hid (HVB5.out.below h2)
                      replace HYZ := Lib.hid (HYZ.out.below h2)
                      replace HNZ := Lib.hid (HNZ.out.below h2)
                      replace HBX5 := Lib.hid (HBX5.out.trans (h2.mono HBX5.out.size))
                      replace HZ35 := Lib.hid (Nat.le_trans HZ35.out h2.size)
                      clear h2
                      go_wp2_with fail
                      refine (vlost_n HVB5.out HLN.out).mono ?_
                      rintro e k8 ⟨rfl, h1, h2⟩
                      replace HVB5 := Lib.hid h1
                      replace HYZ := Lib.hid (HYZ.out.below h2)
                      replace HNZ := Lib.hid (HNZ.out.below h2)
                      replace HBX5 := Lib.hid (HBX5.out.trans (h2.mono HBX5.out.size))
                      replace HZ35 := Lib.hid (Nat.le_trans HZ35.out h2.size)
                      clear h1 h2
                      go_wp2
                      go_roundw
                      case rel => exact ⟨j + 1, by omega, by go_num, s2, Y, N, HVB5.out, HVR2.out, HYZ.out, HNZ.out, HAP.out, by rw [HNY.out]; omega, by rw [HNN.out]; omega, by omega, HBX5.out, HZ35.out⟩
                      case measure => simp [intOf]; omega
                    · rw [decide_eq_false hle] at hld
                      subst hld
                      go_wp2_with fail
                      refine (vwon_n HVB5.out (b := wn) HWN.out).mono ?_
                      rintro e k6 ⟨rfl, h1, h2⟩
                      replace HVB5 := Lib.hid h1
                      have HYZ := Lib.hid (HOY5.out.below h2)
                      have HNZ := Lib.hid (HON5.out.below h2)
                      replace HIY5 := Lib.hid (Ints.of_own HYZ.out)
                      replace HIL5 := Lib.hid ((HIL5.out.keep h2 (Nat.le_refl _)).more h2.size)
                      replace HBX5 := Lib.hid (HBX5.out.trans (h2.mono HBX5.out.size))
                      replace HZ35 := Lib.hid (Nat.le_trans HZ35.out h2.size)
                      clear h1 h2
                      go_wp2_with fail
                      refine (rmaj_n HIL5.out HIY5.out HN.out HNY.out (by omega) (by omega) HMJ.out).mono ?_
                      rintro e k7 ⟨rfl, h2⟩
                      replace HVB5 := Lib.hid (HVB5.out.below h2)
                      replace HYZ := Lib.hid (HYZ.out.below h2)
                      replace HNZ := Lib.hid (HNZ.out.below h2)
                      replace HBX5 := Lib.hid (HBX5.out.trans (h2.mono HBX5.out.size))
                      replace HZ35 := Lib.hid (Nat.le_trans HZ35.out h2.size)
                      clear h2
                      go_wp2_with fail
                      refine (vlost_n HVB5.out HLN.out).mono ?_
                      rintro e k8 ⟨rfl, h1, h2⟩
                      replace HVB5 := Lib.hid h1
                      replace HYZ := Lib.hid (HYZ.out.below h2)
                      replace HNZ := Lib.hid (HNZ.out.below h2)
                      replace HBX5 := Lib.hid (HBX5.out.trans (h2.mono HBX5.out.size))
                      replace HZ35 := Lib.hid (Nat.le_trans HZ35.out h2.size)
                      clear h1 h2
                      go_wp2
                      go_roundw
                      case rel => exact ⟨j + 1, by omega, by go_num, s2, Y, N, HVB5.out, HVR2.out, HYZ.out, HNZ.out, HAP.out, by rw [HNY.out]; omega, by rw [HNN.out]; omega, by omega, HBX5.out, HZ35.out⟩
                      case measure => simp [intOf]; omega
                | false =>
                  have HT := Lib.hid (show takes14 M s x = true by rw [hwant, hl, hyc, hnc]; rfl)
                  have HCN := Lib.hid hnc
                  clear hwant hl hyc hnc
                  cases y with
                  | true =>
                    go_wp2_with fail
                    rw [HW0.out]
                    refine (rhas_n x HI0.out HN.out (by omega) HCL.out).mono ?_
                    rintro e w' ⟨rfl, rfl⟩
                    go_wp2_with fail
                    refine (rhas_n x HIY.out HNY.out (by omega) HCY.out).mono ?_
                    rintro e w' ⟨rfl, rfl⟩
                    go_wp2_with fail
                    refine (rhas_n x HIN.out HNN.out (by omega) HCN.out).mono ?_
                    rintro e w' ⟨rfl, rfl⟩
                    obtain ⟨s2, hs2⟩ : ∃ s2, take14 M s x 1 = s2 := ⟨_, rfl⟩
                    have HVR2 := Lib.hid (show VR M s2 (Y ++ [x]) N from hs2 ▸ HVR.out.add_yes HT.out)
                    go_wp2_with fail
                    refine (vyes_n HVB0.out x HT.out hs2).mono ?_
                    rintro e k5 ⟨rfl, h1, h2, h3⟩
                    have HVB5 := Lib.hid h1
                    have HOY5 := Lib.hid (HOY0.out.off14 h2 HGK.out)
                    have HON5 := Lib.hid (HON0.out.off14 h2 HGK.out)
                    have HBX5 := Lib.hid (HBX0.out.trans h3)
                    have HZ35 := Lib.hid (Nat.le_trans HZ30.out h3.size)
                    have hbx5 := HBOX.out.grown h2 (fun e => by have := HBE.out; omega)
                    replace x0 := hbx5.cell (j := 0) rfl
                    replace x1 := hbx5.cell (j := 1) rfl
                    clear h1 h2 h3 hs2 hbx5 HVB0 HOY0 HON0 HBX0 HZ30 HI0 HIY HIN HVR
                    obtain ⟨wa, hwa⟩ : ∃ q, k5.alloc (.cells #[.int .i64 x] 3) = q := ⟨_, rfl⟩
                    have hba := below_at hwa
                    have hia := ints_at [.int .i64 x] 3 [x] 1 rfl rfl hwa
                    have HUA := Lib.hid (HOY5.out.below hba)
                    have HOA := Lib.hid (HON5.out.below hba)
                    have HIA := Lib.hid hia
                    have HVBA := Lib.hid (HVB5.out.below hba)
                    have HBXA := Lib.hid (HBX5.out.trans (hba.mono HBX5.out.size))
                    have HZ3A := Lib.hid (Nat.le_trans HZ35.out hba.size)
                    clear hba hia HVB5 HOY5 HON5 HBX5 HZ35
                    go_wp2_with (at_builtin; refine wpList_append_ints_at rfl _ _ rfl k3.heap.size wa.heap.size _ _ _ [x] rfl HUA.out rfl HIA.out ?x1 ?x2 ?_)
                    case x1 => rw [HNY.out]; show ny + 1 ≤ _; omega
                    case x2 => exact HZ3A.out
                    intro u6 w6 ho6 hb6 hg6 hf6
                    obtain ⟨hot6, hap6⟩ := apart_step HOA.out HAP.out hg6 hf6
                    obtain ⟨Au6, cu6, hu6⟩ := ho6.slice
                    have hl6 : (Y ++ [x]).length = ny + 1 := by rw [List.length_append, HNY.out]; rfl
                    rw [hl6] at hu6
                    subst hu6
                    have HL6 := Lib.hid hl6
                    have HVB5 := Lib.hid (HVBA.out.under hb6 HGK.out HVK.out)
                    have HU6 := Lib.hid ho6
                    have HO6 := Lib.hid hot6
                    have HAP6 := Lib.hid hap6
                    have HBX5 := Lib.hid (HBXA.out.trans (hb6.mono (Nat.le_trans HKK.out (Nat.le_refl _))))
                    have HZ35 := Lib.hid (Nat.le_trans HZ3A.out hb6.size)
                    clear ho6 hot6 hap6 hb6 hg6 hf6 hl6 HVBA HUA HOA HBXA HZ3A x0 x1
                    have HIY5 := Lib.hid (Ints.of_own HU6.out)
                    have HIL5 := Lib.hid ((HIL.out.keep HBX5.out (Nat.le_refl _)).more HBX5.out.size)
                    obtain ⟨wn, hwn⟩ : ∃ b, won14 M s2 = b := ⟨_, rfl⟩
                    obtain ⟨ln, hln⟩ : ∃ b, lost14 M s2 = b := ⟨_, rfl⟩
                    have HWN := Lib.hid hwn
                    have HLN := Lib.hid hln
                    have HMJ := Lib.hid ((votes_won14 HMM.out HVR2.out).symm.trans hwn)
                    have hld := (votes_lost14 HMM.out HVR2.out).symm.trans hln
                    rw [HBM.out, HN.out, HNN.out] at hld
                    clear hwn hln
                    rw [Bool.true_and] at hld
                    have hw1 : IntKind.i64.wrap ((m : Int) - (nn : Int)) = (m : Int) - (nn : Int) := by rw [IntKind.wrap_i64]; omega
                    have hw2 : IntKind.i64.wrap (2 * ((m : Int) - (nn : Int))) = 2 * ((m : Int) - (nn : Int)) := by rw [IntKind.wrap_i64]; omega
                    by_cases hle : 2 * ((m : Int) - (nn : Int)) ≤ (m : Int)
                    · rw [decide_eq_true hle] at hld
                      subst hld
                      go_wp2_with fail
                      refine (vwon_n HVB5.out (b := wn) HWN.out).mono ?_
                      rintro e k6 ⟨rfl, h1, h2⟩
                      replace HVB5 := Lib.hid h1
                      have HYZ := Lib.hid (HU6.out.below h2)
                      have HNZ := Lib.hid (HO6.out.below h2)
                      replace HIY5 := Lib.hid (Ints.of_own HYZ.out)
                      replace HIL5 := Lib.hid ((HIL5.out.keep h2 (Nat.le_refl _)).more h2.size)
                      replace HBX5 := Lib.hid (HBX5.out.trans (h2.mono HBX5.out.size))
                      replace HZ35 := Lib.hid (Nat.le_trans HZ35.out h2.size)
                      clear h1 h2
                      go_wp2_with fail
                      refine (rmaj_n HIL5.out HIY5.out HN.out HL6.out (by omega) (by omega) HMJ.out).mono ?_
                      rintro e k7 ⟨rfl, h2⟩
                      replace HVB5 := Lib.hid (HVB5.out.below h2)
                      replace HYZ := Lib.hid (HYZ.out.below h2)
                      replace HNZ := Lib.hid (HNZ.out.below h2)
                      replace HBX5 := Lib.hid (HBX5.out.trans (h2.mono HBX5.out.size))
                      replace HZ35 := Lib.hid (Nat.le_trans HZ35.out h2.size)
                      clear h2
                      go_wp2_with fail
                      refine (vlost_n HVB5.out HLN.out).mono ?_
                      rintro e k8 ⟨rfl, h1, h2⟩
                      replace HVB5 := Lib.hid h1
                      replace HYZ := Lib.hid (HYZ.out.below h2)
                      replace HNZ := Lib.hid (HNZ.out.below h2)
                      replace HBX5 := Lib.hid (HBX5.out.trans (h2.mono HBX5.out.size))
                      replace HZ35 := Lib.hid (Nat.le_trans HZ35.out h2.size)
                      clear h1 h2
                      go_wp2
                      go_roundw
                      case rel => exact ⟨j + 1, by omega, by go_num, s2, (Y ++ [x]), N, HVB5.out, HVR2.out, HYZ.out, HNZ.out, HAP6.out, by rw [HL6.out]; omega, by rw [HNN.out]; omega, by omega, HBX5.out, HZ35.out⟩
                      case measure => simp [intOf]; omega
                    · rw [decide_eq_false hle] at hld
                      subst hld
                      go_wp2_with fail
                      refine (vwon_n HVB5.out (b := wn) HWN.out).mono ?_
                      rintro e k6 ⟨rfl, h1, h2⟩
                      replace HVB5 := Lib.hid h1
                      have HYZ := Lib.hid (HU6.out.below h2)
                      have HNZ := Lib.hid (HO6.out.below h2)
                      replace HIY5 := Lib.hid (Ints.of_own HYZ.out)
                      replace HIL5 := Lib.hid ((HIL5.out.keep h2 (Nat.le_refl _)).more h2.size)
                      replace HBX5 := Lib.hid (HBX5.out.trans (h2.mono HBX5.out.size))
                      replace HZ35 := Lib.hid (Nat.le_trans HZ35.out h2.size)
                      clear h1 h2
                      go_wp2_with fail
                      refine (rmaj_n HIL5.out HIY5.out HN.out HL6.out (by omega) (by omega) HMJ.out).mono ?_
                      rintro e k7 ⟨rfl, h2⟩
                      replace HVB5 := Lib.hid (HVB5.out.below h2)
                      replace HYZ := Lib.hid (HYZ.out.below h2)
                      replace HNZ := Lib.hid (HNZ.out.below h2)
                      replace HBX5 := Lib.hid (HBX5.out.trans (h2.mono HBX5.out.size))
                      replace HZ35 := Lib.hid (Nat.le_trans HZ35.out h2.size)
                      clear h2
                      go_wp2_with fail
                      refine (vlost_n HVB5.out HLN.out).mono ?_
                      rintro e k8 ⟨rfl, h1, h2⟩
                      replace HVB5 := Lib.hid h1
                      replace HYZ := Lib.hid (HYZ.out.below h2)
                      replace HNZ := Lib.hid (HNZ.out.below h2)
                      replace HBX5 := Lib.hid (HBX5.out.trans (h2.mono HBX5.out.size))
                      replace HZ35 := Lib.hid (Nat.le_trans HZ35.out h2.size)
                      clear h1 h2
                      go_wp2
                      go_roundw
                      case rel => exact ⟨j + 1, by omega, by go_num, s2, (Y ++ [x]), N, HVB5.out, HVR2.out, HYZ.out, HNZ.out, HAP6.out, by rw [HL6.out]; omega, by rw [HNN.out]; omega, by omega, HBX5.out, HZ35.out⟩
                      case measure => simp [intOf]; omega
                  | false =>
                    go_wp2_with fail
                    rw [HW0.out]
                    refine (rhas_n x HI0.out HN.out (by omega) HCL.out).mono ?_
                    rintro e w' ⟨rfl, rfl⟩
                    go_wp2_with fail
                    refine (rhas_n x HIY.out HNY.out (by omega) HCY.out).mono ?_
                    rintro e w' ⟨rfl, rfl⟩
                    go_wp2_with fail
                    refine (rhas_n x HIN.out HNN.out (by omega) HCN.out).mono ?_
                    rintro e w' ⟨rfl, rfl⟩
                    obtain ⟨s2, hs2⟩ : ∃ s2, take14 M s x 2 = s2 := ⟨_, rfl⟩
                    have HVR2 := Lib.hid (show VR M s2 Y (N ++ [x]) from hs2 ▸ HVR.out.add_no (votes_nodup14 HMM.out) HT.out)
                    go_wp2_with fail
                    refine (vno_n HVB0.out x HT.out hs2).mono ?_
                    rintro e k5 ⟨rfl, h1, h2, h3⟩
                    have HVB5 := Lib.hid h1
                    have HOY5 := Lib.hid (HOY0.out.off14 h2 HGK.out)
                    have HON5 := Lib.hid (HON0.out.off14 h2 HGK.out)
                    have HBX5 := Lib.hid (HBX0.out.trans h3)
                    have HZ35 := Lib.hid (Nat.le_trans HZ30.out h3.size)
                    have hbx5 := HBOX.out.grown h2 (fun e => by have := HBE.out; omega)
                    replace x0 := hbx5.cell (j := 0) rfl
                    replace x1 := hbx5.cell (j := 1) rfl
                    clear h1 h2 h3 hs2 hbx5 HVB0 HOY0 HON0 HBX0 HZ30 HI0 HIY HIN HVR
                    obtain ⟨wa, hwa⟩ : ∃ q, k5.alloc (.cells #[.int .i64 x] 3) = q := ⟨_, rfl⟩
                    have hba := below_at hwa
                    have hia := ints_at [.int .i64 x] 3 [x] 1 rfl rfl hwa
                    have HUA := Lib.hid (HON5.out.below hba)
                    have HOA := Lib.hid (HOY5.out.below hba)
                    have HIA := Lib.hid hia
                    have HVBA := Lib.hid (HVB5.out.below hba)
                    have HBXA := Lib.hid (HBX5.out.trans (hba.mono HBX5.out.size))
                    have HZ3A := Lib.hid (Nat.le_trans HZ35.out hba.size)
                    clear hba hia HVB5 HOY5 HON5 HBX5 HZ35
                    go_wp2_with (at_builtin; refine wpList_append_ints_at rfl _ _ rfl k3.heap.size wa.heap.size _ _ _ [x] rfl HUA.out rfl HIA.out ?x1 ?x2 ?_)
                    case x1 => rw [HNN.out]; show nn + 1 ≤ _; omega
                    case x2 => exact HZ3A.out
                    intro u6 w6 ho6 hb6 hg6 hf6
                    obtain ⟨hot6, hap6⟩ := apart_step HOA.out HAP.out.symm hg6 hf6
                    obtain ⟨Au6, cu6, hu6⟩ := ho6.slice
                    have hl6 : (N ++ [x]).length = nn + 1 := by rw [List.length_append, HNN.out]; rfl
                    rw [hl6] at hu6
                    subst hu6
                    have HL6 := Lib.hid hl6
                    have HVB5 := Lib.hid (HVBA.out.under hb6 HGK.out HVK.out)
                    have HU6 := Lib.hid ho6
                    have HO6 := Lib.hid hot6
                    have HAP6 := Lib.hid hap6
                    have HBX5 := Lib.hid (HBXA.out.trans (hb6.mono (Nat.le_trans HKK.out (Nat.le_refl _))))
                    have HZ35 := Lib.hid (Nat.le_trans HZ3A.out hb6.size)
                    clear ho6 hot6 hap6 hb6 hg6 hf6 hl6 HVBA HUA HOA HBXA HZ3A x0 x1
                    have HIY5 := Lib.hid (Ints.of_own HO6.out)
                    have HIL5 := Lib.hid ((HIL.out.keep HBX5.out (Nat.le_refl _)).more HBX5.out.size)
                    obtain ⟨wn, hwn⟩ : ∃ b, won14 M s2 = b := ⟨_, rfl⟩
                    obtain ⟨ln, hln⟩ : ∃ b, lost14 M s2 = b := ⟨_, rfl⟩
                    have HWN := Lib.hid hwn
                    have HLN := Lib.hid hln
                    have HMJ := Lib.hid ((votes_won14 HMM.out HVR2.out).symm.trans hwn)
                    have hld := (votes_lost14 HMM.out HVR2.out).symm.trans hln
                    rw [HBM.out, HN.out, HL6.out] at hld
                    clear hwn hln
                    rw [show ((nn + 1 : Nat) : Int) = (nn : Int) + 1 by omega] at hld
                    rw [Bool.true_and] at hld
                    have hw1 : IntKind.i64.wrap ((m : Int) - ((nn : Int) + 1)) = (m : Int) - ((nn : Int) + 1) := by rw [IntKind.wrap_i64]; omega
                    have hw2 : IntKind.i64.wrap (2 * ((m : Int) - ((nn : Int) + 1))) = 2 * ((m : Int) - ((nn : Int) + 1)) := by rw [IntKind.wrap_i64]; omega
                    by_cases hle : 2 * ((m : Int) - ((nn : Int) + 1)) ≤ (m : Int)
                    · rw [decide_eq_true hle] at hld
                      subst hld
                      go_wp2_with fail
                      refine (vwon_n HVB5.out (b := wn) HWN.out).mono ?_
                      rintro e k6 ⟨rfl, h1, h2⟩
                      replace HVB5 := Lib.hid h1
                      have HYZ := Lib.hid (HO6.out.below h2)
                      have HNZ := Lib.hid (HU6.out.below h2)
                      replace HIY5 := Lib.hid (Ints.of_own HYZ.out)
                      replace HIL5 := Lib.hid ((HIL5.out.keep h2 (Nat.le_refl _)).more h2.size)
                      replace HBX5 := Lib.hid (HBX5.out.trans (h2.mono HBX5.out.size))
                      replace HZ35 := Lib.hid (Nat.le_trans HZ35.out h2.size)
                      clear h1 h2
                      go_wp2_with fail
                      refine (rmaj_n HIL5.out HIY5.out HN.out HNY.out (by omega) (by omega) HMJ.out).mono ?_
                      rintro e k7 ⟨rfl, h2⟩
                      replace HVB5 := Lib.hid (HVB5.out.below h2)
                      replace HYZ := Lib.hid (HYZ.out.below h2)
                      replace HNZ := Lib.hid (HNZ.out.below h2)
                      replace HBX5 := Lib.hid (HBX5.out.trans (h2.mono HBX5.out.size))
                      replace HZ35 := Lib.hid (Nat.le_trans HZ35.out h2.size)
                      clear h2
                      go_wp2_with fail
                      refine (vlost_n HVB5.out HLN.out).mono ?_
                      rintro e k8 ⟨rfl, h1, h2⟩
                      replace HVB5 := Lib.hid h1
                      replace HYZ := Lib.hid (HYZ.out.below h2)
                      replace HNZ := Lib.hid (HNZ.out.below h2)
                      replace HBX5 := Lib.hid (HBX5.out.trans (h2.mono HBX5.out.size))
                      replace HZ35 := Lib.hid (Nat.le_trans HZ35.out h2.size)
                      clear h1 h2
                      go_wp2
                      go_roundw
                      case rel => exact ⟨j + 1, by omega, by go_num, s2, Y, (N ++ [x]), HVB5.out, HVR2.out, HYZ.out, HNZ.out, HAP6.out.symm, by rw [HNY.out]; omega, by rw [HL6.out]; omega, by omega, HBX5.out, HZ35.out⟩
                      case measure => simp [intOf]; omega
                    · rw [decide_eq_false hle] at hld
                      subst hld
                      go_wp2_with fail
                      refine (vwon_n HVB5.out (b := wn) HWN.out).mono ?_
                      rintro e k6 ⟨rfl, h1, h2⟩
                      replace HVB5 := Lib.hid h1
                      have HYZ := Lib.hid (HO6.out.below h2)
                      have HNZ := Lib.hid (HU6.out.below h2)
                      replace HIY5 := Lib.hid (Ints.of_own HYZ.out)
                      replace HIL5 := Lib.hid ((HIL5.out.keep h2 (Nat.le_refl _)).more h2.size)
                      replace HBX5 := Lib.hid (HBX5.out.trans (h2.mono HBX5.out.size))
                      replace HZ35 := Lib.hid (Nat.le_trans HZ35.out h2.size)
                      clear h1 h2
                      go_wp2_with fail
                      refine (rmaj_n HIL5.out HIY5.out HN.out HNY.out (by omega) (by omega) HMJ.out).mono ?_
                      rintro e k7 ⟨rfl, h2⟩
                      replace HVB5 := Lib.hid (HVB5.out.below h2)
                      replace HYZ := Lib.hid (HYZ.out.below h2)
                      replace HNZ := Lib.hid (HNZ.out.below h2)
                      replace HBX5 := Lib.hid (HBX5.out.trans (h2.mono HBX5.out.size))
                      replace HZ35 := Lib.hid (Nat.le_trans HZ35.out h2.size)
                      clear h2
                      go_wp2_with fail
                      refine (vlost_n HVB5.out HLN.out).mono ?_
                      rintro e k8 ⟨rfl, h1, h2⟩
                      replace HVB5 := Lib.hid h1
                      replace HYZ := Lib.hid (HYZ.out.below h2)
                      replace HNZ := Lib.hid (HNZ.out.below h2)
                      replace HBX5 := Lib.hid (HBX5.out.trans (h2.mono HBX5.out.size))
                      replace HZ35 := Lib.hid (Nat.le_trans HZ35.out h2.size)
                      clear h1 h2
                      go_wp2
                      go_roundw
                      case rel => exact ⟨j + 1, by omega, by go_num, s2, Y, (N ++ [x]), HVB5.out, HVR2.out, HYZ.out, HNZ.out, HAP6.out.symm, by rw [HNY.out]; omega, by rw [HL6.out]; omega, by omega, HBX5.out, HZ35.out⟩
                      case measure => simp [intOf]; omega
        · have h20i : ¬ (j : Int) < 20 := by omega
          go_wp2
          go_ret
          exact ⟨rfl, HB1.out.trans (HBX.out.mono HB1.out.size)⟩
      · have hji : ¬ (j : Int) < (r : Int) := by omega
        go_wp2
        go_ret
        exact ⟨rfl, HB1.out.trans (HBX.out.mono HB1.out.size)⟩

set_option maxRecDepth 100000 in
theorem lifted (os : Os) (started : os.Started) (H : Type) (enc : TypeId × Value → H) :
    ReturnsInHanded {} Try.checked os 4 .any (Rows.voteAllSpec.pre6 enc Try.prog Try.f4 Rows.voteAllRow.domain false) (Rows.voteAllSpec.post enc Try.prog Try.f4 false true false false) := by
  refine returnsInHanded_of_change (C := Try.checked) own started (by kernel_rfl) Try.func4
    (ChangeSpec.witness6 (enc := enc) (C := Try.checked) false ⟨#[], #[.slice none 0 0, .slice none 0 0], []⟩ 8 (by kernel_rfl) (by kernel_rfl) (by kernel_rfl) (by kernel_rfl)) ?_
  intro W base args ds gs before hval0 hW hcnd _
  have hval : ∀ (j : Nat) t v, Try.f4.params[j]? = some t → args[j]? = some v → Value.okWide Try.prog W .any base t v := hval0
  have hW' := hW
  obtain ⟨p, q, hA0, hV, rfl, hfz, hnd⟩ := hW
  have hA : DataW.TrodAll enc Try.prog W 0 (fun _ => true) true Try.f4.params.toList args.toList ds p := hA0
  have hA1 := hA
  rw [Try.params4] at hA hval
  obtain ⟨v0, vs0, d0, ds0, p0, q0, hargs, rfl, rfl, h0, r0⟩ := trodAll_cons hA
  obtain ⟨v1, vs1, d1, ds1, p1, q1, rfl, rfl, rfl, h1, r1⟩ := trodAll_cons r0
  obtain ⟨rfl, rfl, rfl⟩ := trodAll_nil r1
  obtain rfl : args = #[v0, v1] := by cases args; simp_all
  obtain ⟨rfl, rfl⟩ := trodVars_none hV
  obtain ⟨A0, c0, a0, rfl, w0, x0⟩ := open_ints7 (hval 0 50 v0 rfl rfl) h0
  obtain ⟨A1, c1, a1, rfl, w1, x1⟩ := open_vops (hval 1 51 v1 rfl rfl) h1
  clear hA0 hval0
  simp only [List.append_nil] at hW'
  try simp only [List.append_nil] at hA1
  refine (walk W A0 c0 a0 w0 x0 A1 c1 a1 w1 x1).mono fun e W' ⟨he, hg⟩ => ?_
  subst he
  exact ⟨_, rfl, law_end Try.laidOut (by kernel_rfl) hW' hA1 hg rfl rfl rfl (trodAll_mk1 (shut_bool Try.underlying4 _))⟩

theorem over : Rows.voteAllRow.holds Try.pinned (OpenSpec.ofChange Rows.voteAllSpec) :=
  OpenClaim.holds_of_wide 4 Try.f4 rfl rfl rfl rfl rfl rfl rfl ⟨rfl, rfl, rfl, rfl, rfl⟩ rfl rfl rfl rfl rfl (by kernel_rfl) Try.func4 (by kernel_rfl)
    (of_decide_eq_true (by kernel_rfl)) (by unfold Func.isWrapper; first | (rw [if_pos (by decide +kernel)]; kernel_rfl) | (rw [if_neg (by decide +kernel)]; exact ⟨rfl, rfl⟩))
    (fun os started H enc _ => lifted os started H enc)

/-- the statement -/
theorem proved : Rows.VoteAllSaid := over
#print axioms proved
end Go.Proofs.Ytoekiencnbgmhaa.voteAll
