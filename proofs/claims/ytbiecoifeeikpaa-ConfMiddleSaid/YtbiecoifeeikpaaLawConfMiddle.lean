/-
  More than half have the middle one at least, and no greater number.
-/
import Derived.Test.YtbiecoifeeikpaaRows
import Derived.Test.YtbiecoifeeikpaaL12Kit
import Derived.Test.YtbiecoifeeikpaaLawKit
import Derived.WalkKit
import Derived.ProofKit
import Derived.OpenShut
import Derived.ShutString
namespace Go.Proofs.Ytbiecoifeeikpaa.confMiddle
open Go.ChangeShapes Go.WideShapes Go.ChangeAt Go.RowKit
open Go.ChangeMaps (open_string shut_string)
set_option linter.unusedVariables false

theorem own : ownKnob Try.prog.godebug = none := by kernel_rfl

set_option maxRecDepth 100000 in
set_option maxHeartbeats 8000000 in
theorem walk (w : World) (a0 : Int) (w0 : (Lit.int .i64 a0).wf = true) (A1 : Option Addr) (c1 : Nat) (a1 : List Int) (w1 : Ints w w.heap.size (.slice A1 a1.length c1) a1) (x1 : ∀ x ∈ a1, I64 x) :
    Calls Try.prog 6 #[.int .i64 a0, .slice A1 a1.length c1] w fun e w' => e = .returned (.bool true) ∧ Below w.heap.size w w' := by
  obtain ⟨L, hL⟩ : ∃ L, setF (bitF a0) = L := ⟨_, rfl⟩
  have hmF : mayF 0 L = true := by rw [← hL]; exact setF_may _
  have hlen : L.length ≤ 7 := by rw [← hL]; exact setF_len _
  have hset := fun W => set_n (w := W) a0 hL
  obtain ⟨n, hn⟩ : ∃ n, L.length = n := ⟨_, rfl⟩
  rw [hn] at hlen hset
  have HN := Lib.hid hn
  have HMF := Lib.hid hmF
  obtain ⟨m, hm⟩ : ∃ m, a1.length = m := ⟨_, rfl⟩
  rw [hm] at w1 ⊢
  have I1 := Lib.hid w1
  have HM := Lib.hid hm
  clear hn hL hmF w0 w1 x1 hm
  go_enter Try.func6, Try.ntmps6
  go_wp2_with fail
  refine (begun12_any _).mono ?_
  rintro e k1 ⟨rfl, hbk1⟩
  replace I1 := Lib.hid (I1.out.nxt hbk1)
  have HB1 := Lib.hid (hbk1)
  clear hbk1
  go_wp2_with fail
  refine (hset _).mono ?_
  rintro e k2 ⟨A2, c2, rfl, hi2, hbk2⟩
  replace I1 := Lib.hid (I1.out.nxt hbk2)
  have HB2 := Lib.hid (HB1.out.trans (hbk2.mono HB1.out.size))
  clear hbk2
  have IL := Lib.hid hi2
  clear hi2
  clear hset
  by_cases h0 : n = 0
  · have hmy : may12 L = false := by unfold may12; rw [HMF.out, HN.out, h0]; rfl
    have HMY := Lib.hid hmy
    clear hmy
    subst h0
    go_wp2_with fail
    refine (may_n IL.out HN.out (by omega) HMY.out).mono ?_
    rintro e w' ⟨rfl, rfl⟩
    go_wp2
    go_ret
    exact ⟨rfl, HB2.out⟩
  · have hmy : may12 L = true := by unfold may12; rw [HMF.out, HN.out]; simp; omega
    have HMY := Lib.hid hmy
    clear hmy
    by_cases h10 : (10 : Int) < m
    · go_wp2_with fail
      refine (may_n IL.out HN.out (by omega) HMY.out).mono ?_
      rintro e w' ⟨rfl, rfl⟩
      go_wp2
      go_ret
      exact ⟨rfl, HB2.out⟩
    · go_wp2_with fail
      refine (may_n IL.out HN.out (by omega) HMY.out).mono ?_
      rintro e w' ⟨rfl, rfl⟩
      have h1 := mid_have L a1 (by rw [HN.out]; omega)
      obtain ⟨v, hv⟩ : ∃ v, mid12 L a1 = v := ⟨_, rfl⟩
      rw [hv] at h1
      have HV := Lib.hid (show midR L a1 = v by unfold midR; rw [HMY.out, if_pos rfl, hv])
      have hmem : ∀ x ∈ L, 1 ≤ x ∧ x ≤ 7 := fun x hx => by have := mayF_mem HMF.out x hx; omega
      have HMEM := Lib.hid hmem
      obtain ⟨p, hp⟩ : ∃ p : Int → Bool, (fun i => decide (v ≤ a1.getD i.toNat 0)) = p := ⟨_, rfl⟩
      obtain ⟨p2, hp2⟩ : ∃ p : Int → Bool, (fun i => decide (v < a1.getD i.toNat 0)) = p := ⟨_, rfl⟩
      rw [hp, hp2] at h1
      have H1 := Lib.hid h1.1
      have H2 := Lib.hid h1.2
      have HP := Lib.hid hp
      have HP2 := Lib.hid hp2
      clear h1 hv hmem hp hp2
      go_wp2_with fail
      refine (mid_n IL.out I1.out HN.out HM.out (by omega) (by omega) HV.out).mono ?_
      rintro e k3 ⟨rfl, hbk3⟩
      replace I1 := Lib.hid (I1.out.nxt hbk3)
      replace IL := Lib.hid (IL.out.nxt hbk3)
      have HB3 := Lib.hid (HB2.out.trans (hbk3.mono HB2.out.size))
      clear hbk3
      go_wp2
      go_loopw [8, 9, 10] (fun u t i wr => ∃ k : Nat, k ≤ n ∧ i = .int .i64 k ∧ OwnZ k3.heap.size u ((L.take k).filter p) wr ∧ OwnZ k3.heap.size t ((L.take k).filter p2) wr ∧ Apart12 u t ∧ Below k3.heap.size k3 wr) (fun _ _ i _ => n - (intOf i).toNat)
      case atStart => exact ⟨0, Nat.zero_le _, rfl, OwnZ.nil _ _, OwnZ.nil _ _, fun g h => absurd h (by simp [Value.ownBlock]), Below.refl _ _⟩
      case round =>
        obtain ⟨k, hk, rfl, ho, ho2, hap, hbw⟩ := hrel
        have hl1 : ((L.take k).filter p).length ≤ k := Nat.le_trans (List.length_filter_le _ _) (List.length_take_le _ _)
        have hl2 : ((L.take k).filter p2).length ≤ k := Nat.le_trans (List.length_filter_le _ _) (List.length_take_le _ _)
        obtain ⟨Au, cu, hu⟩ := ho.slice
        obtain ⟨At, ct, ht⟩ := ho2.slice
        obtain ⟨mu, hmu⟩ : ∃ m, ((L.take k).filter p).length = m := ⟨_, rfl⟩
        obtain ⟨mt, hmt⟩ : ∃ m, ((L.take k).filter p2).length = m := ⟨_, rfl⟩
        rw [hmu] at hu hl1
        rw [hmt] at ht hl2
        subst hu
        subst ht
        have HMU := Lib.hid hmu
        have HMT := Lib.hid hmt
        have HO := Lib.hid ho
        have HO2 := Lib.hid ho2
        have HAP := Lib.hid hap
        have HBW := Lib.hid hbw
        clear ho ho2 hap hbw hmu hmt
        by_cases hlt : k < n
        · have hkl : k < L.length := by rw [HN.out]; exact hlt
          obtain ⟨g, o, hA, hg, hcell⟩ := IL.out.at_ k hkl
          subst hA
          have hc1 : wr.cell? ⟨g, o + k, none⟩ = some (.int .i64 L[k]) := (HBW.out.cell (p := ⟨g, o + k, none⟩) hg).trans hcell
          have hx9 := HMEM.out L[k] (List.getElem_mem hkl)
          have hts : L.take (k + 1) = L.take k ++ [L[k]] := List.take_succ_eq_append_getElem hkl
          obtain ⟨x, hx⟩ : ∃ x, L[k] = x := ⟨_, rfl⟩
          rw [hx] at hc1 hx9 hts hcell
          have HCELL := Lib.hid hcell
          have hf1 : (L.take (k + 1)).filter p = (L.take k).filter p ++ (if p x = true then [x] else []) := by
            rw [hts, List.filter_append]; congr 1; cases h : p x <;> simp [h]
          have hf2 : (L.take (k + 1)).filter p2 = (L.take k).filter p2 ++ (if p2 x = true then [x] else []) := by
            rw [hts, List.filter_append]; congr 1; cases h : p2 x <;> simp [h]
          obtain ⟨y, hy⟩ : ∃ y, a1.getD x.toNat 0 = y := ⟨_, rfl⟩
          have hpx : p x = decide (v ≤ y) := by rw [← HP.out, ← hy]
          have hpx2 : p2 x = decide (v < y) := by rw [← HP2.out, ← hy]
          rw [hpx] at hf1
          rw [hpx2] at hf2
          have HF1 := Lib.hid hf1
          have HF2 := Lib.hid hf2
          clear hcell hx hts hf1 hf2 hpx hpx2 hkl
          by_cases hin : x < (m : Int)
          · obtain ⟨j, hj⟩ : ∃ j : Nat, x = (j : Int) := ⟨x.toNat, by omega⟩
            have hjl : j < a1.length := by rw [HM.out]; omega
            obtain ⟨g2, o2, hA2, hg2, hcell2⟩ := I1.out.at_ j hjl
            subst hA2
            have hc2 : wr.cell? ⟨g2, o2 + j, none⟩ = some (.int .i64 y) := by
              rw [(HBW.out.cell (p := ⟨g2, o2 + j, none⟩) hg2).trans hcell2, ← hy, hj]
              simp [hjl]
            have hjm : j < m := by omega
            have hjt : ((j : Int)).toNat = j := by omega
            clear hcell2 hy hjl
            subst hj
            by_cases hge : v ≤ y
            · by_cases hgt : v < y
              · have S1 := Lib.hid (show (L.take (k + 1)).filter p = (L.take k).filter p ++ [(j : Int)] by rw [HF1.out, decide_eq_true (by omega), if_pos rfl])
                have S2 := Lib.hid (show (L.take (k + 1)).filter p2 = (L.take k).filter p2 ++ [(j : Int)] by rw [HF2.out, decide_eq_true (by omega), if_pos rfl])
                obtain ⟨wra, hwra⟩ : ∃ k, wr.alloc (.cells #[.int .i64 (j : Int)] 3) = k := ⟨_, rfl⟩
                have hbwra := below_at hwra
                have howwr := HO.out.below hbwra
                have hotwr := HO2.out.below hbwra
                have hinwr := ints_at [.int .i64 (j : Int)] 3 [(j : Int)] 1 rfl rfl hwra
                have hcxwr : wra.cell? ⟨g, o + k, none⟩ = some (.int .i64 (j : Int)) := (((HBW.out.trans (hbwra.mono HBW.out.size))).cell (p := ⟨g, o + k, none⟩) hg).trans HCELL.out
                have HBAwr := Lib.hid (HBW.out.trans (hbwra.mono HBW.out.size))
                have HOWwr := Lib.hid howwr
                have HOTwr := Lib.hid hotwr
                have HINwr := Lib.hid hinwr
                clear howwr hotwr hinwr hbwra
                go_wp2_with (at_builtin; refine wpList_append_ints_at rfl _ _ rfl k3.heap.size wra.heap.size _ _ _ [(j : Int)] rfl HOWwr.out rfl HINwr.out ?x1 ?x2 ?_)
                case x1 => have := HMU.out; first | omega | (show _ + 1 ≤ _; omega)
                case x2 => exact HBAwr.out.size
                intro uw5 w5 how5 hbw5 hgw5 hfw5
                obtain ⟨hotw5, hapw5⟩ := apart_step HOTwr.out HAP.out hgw5 hfw5
                have HBX := Lib.hid (HBAwr.out.trans hbw5)
                have hcyw5 : w5.cell? ⟨g, o + k, none⟩ = some (.int .i64 (j : Int)) := (HBX.out.cell (p := ⟨g, o + k, none⟩) hg).trans HCELL.out
                have HOUw5 := Lib.hid how5
                have HOVw5 := Lib.hid hotw5
                have HAPw5 := Lib.hid hapw5
                clear how5 hotw5 hapw5 hbw5 hgw5 hfw5 hwra
                obtain ⟨Au5, cu5, hu5⟩ := HOUw5.out.slice
                subst hu5
                obtain ⟨mu5, hmu5⟩ : ∃ m, ((L.take k).filter p ++ [(j : Int)]).length = m := ⟨_, rfl⟩
                rw [hmu5] at HOUw5 HAPw5 ⊢
                clear hmu5
                obtain ⟨w5a, hw5a⟩ : ∃ k, w5.alloc (.cells #[.int .i64 (j : Int)] 3) = k := ⟨_, rfl⟩
                have hbw5a := below_at hw5a
                have howw5 := HOVw5.out.below hbw5a
                have hotw5 := HOUw5.out.below hbw5a
                have hinw5 := ints_at [.int .i64 (j : Int)] 3 [(j : Int)] 1 rfl rfl hw5a
                have hcxw5 : w5a.cell? ⟨g, o + k, none⟩ = some (.int .i64 (j : Int)) := (((HBX.out.trans (hbw5a.mono HBX.out.size))).cell (p := ⟨g, o + k, none⟩) hg).trans HCELL.out
                have HBAw5 := Lib.hid (HBX.out.trans (hbw5a.mono HBX.out.size))
                have HOWw5 := Lib.hid howw5
                have HOTw5 := Lib.hid hotw5
                have HINw5 := Lib.hid hinw5
                clear howw5 hotw5 hinw5 hbw5a
                go_wp2_with (at_builtin; refine wpList_append_ints_at rfl _ _ rfl k3.heap.size w5a.heap.size _ _ _ [(j : Int)] rfl HOWw5.out rfl HINw5.out ?x1 ?x2 ?_)
                case x1 => have := HMT.out; first | omega | (show _ + 1 ≤ _; omega)
                case x2 => exact HBAw5.out.size
                intro uw6 w6 how6 hbw6 hgw6 hfw6
                obtain ⟨hotw6, hapw6⟩ := apart_step HOTw5.out HAPw5.out.symm hgw6 hfw6
                have HBY := Lib.hid (HBAw5.out.trans hbw6)
                have hcyw6 : w6.cell? ⟨g, o + k, none⟩ = some (.int .i64 (j : Int)) := (HBY.out.cell (p := ⟨g, o + k, none⟩) hg).trans HCELL.out
                have HOUw6 := Lib.hid how6
                have HOVw6 := Lib.hid hotw6
                have HAPw6 := Lib.hid hapw6
                clear how6 hotw6 hapw6 hbw6 hgw6 hfw6 hw5a
                go_wp2
                go_roundw
                case rel => exact ⟨k + 1, by omega, by go_num, by rw [S1.out]; exact HOVw6.out, by rw [S2.out]; exact HOUw6.out, HAPw6.out.symm, HBY.out⟩
                case measure => simp [intOf]; omega
              · have S1 := Lib.hid (show (L.take (k + 1)).filter p = (L.take k).filter p ++ [(j : Int)] by rw [HF1.out, decide_eq_true (by omega), if_pos rfl])
                have S2 := Lib.hid (show (L.take (k + 1)).filter p2 = (L.take k).filter p2 by rw [HF2.out, decide_eq_false (by omega), if_neg (by decide), List.append_nil])
                obtain ⟨wra, hwra⟩ : ∃ k, wr.alloc (.cells #[.int .i64 (j : Int)] 3) = k := ⟨_, rfl⟩
                have hbwra := below_at hwra
                have howwr := HO.out.below hbwra
                have hotwr := HO2.out.below hbwra
                have hinwr := ints_at [.int .i64 (j : Int)] 3 [(j : Int)] 1 rfl rfl hwra
                have hcxwr : wra.cell? ⟨g, o + k, none⟩ = some (.int .i64 (j : Int)) := (((HBW.out.trans (hbwra.mono HBW.out.size))).cell (p := ⟨g, o + k, none⟩) hg).trans HCELL.out
                have HBAwr := Lib.hid (HBW.out.trans (hbwra.mono HBW.out.size))
                have HOWwr := Lib.hid howwr
                have HOTwr := Lib.hid hotwr
                have HINwr := Lib.hid hinwr
                clear howwr hotwr hinwr hbwra
                go_wp2_with (at_builtin; refine wpList_append_ints_at rfl _ _ rfl k3.heap.size wra.heap.size _ _ _ [(j : Int)] rfl HOWwr.out rfl HINwr.out ?x1 ?x2 ?_)
                case x1 => have := HMU.out; first | omega | (show _ + 1 ≤ _; omega)
                case x2 => exact HBAwr.out.size
                intro uw5 w5 how5 hbw5 hgw5 hfw5
                obtain ⟨hotw5, hapw5⟩ := apart_step HOTwr.out HAP.out hgw5 hfw5
                have HBX := Lib.hid (HBAwr.out.trans hbw5)
                have hcyw5 : w5.cell? ⟨g, o + k, none⟩ = some (.int .i64 (j : Int)) := (HBX.out.cell (p := ⟨g, o + k, none⟩) hg).trans HCELL.out
                have HOUw5 := Lib.hid how5
                have HOVw5 := Lib.hid hotw5
                have HAPw5 := Lib.hid hapw5
                clear how5 hotw5 hapw5 hbw5 hgw5 hfw5 hwra
                go_wp2
                go_roundw
                case rel => exact ⟨k + 1, by omega, by go_num, by rw [S1.out]; exact HOUw5.out, by rw [S2.out]; exact HOVw5.out, HAPw5.out, HBX.out⟩
                case measure => simp [intOf]; omega
            · have hgt : ¬ v < y := by omega
              have S1 := Lib.hid (show (L.take (k + 1)).filter p = (L.take k).filter p by rw [HF1.out, decide_eq_false (by omega), if_neg (by decide), List.append_nil])
              have S2 := Lib.hid (show (L.take (k + 1)).filter p2 = (L.take k).filter p2 by rw [HF2.out, decide_eq_false (by omega), if_neg (by decide), List.append_nil])
              go_wp2
              go_roundw
              case rel => exact ⟨k + 1, by omega, by go_num, by rw [S1.out]; exact HO.out, by rw [S2.out]; exact HO2.out, HAP.out, HBW.out⟩
              case measure => simp [intOf]; omega
          · have hy0 : y = 0 := by
              rw [← hy, List.getD_eq_getElem?_getD, List.getElem?_eq_none (by rw [HM.out]; omega)]
              rfl
            clear hy
            subst hy0
            by_cases hge : v ≤ 0
            · by_cases hgt : v < 0
              · have S1 := Lib.hid (show (L.take (k + 1)).filter p = (L.take k).filter p ++ [x] by rw [HF1.out, decide_eq_true (by omega), if_pos rfl])
                have S2 := Lib.hid (show (L.take (k + 1)).filter p2 = (L.take k).filter p2 ++ [x] by rw [HF2.out, decide_eq_true (by omega), if_pos rfl])
                obtain ⟨wra, hwra⟩ : ∃ k, wr.alloc (.cells #[.int .i64 x] 3) = k := ⟨_, rfl⟩
                have hbwra := below_at hwra
                have howwr := HO.out.below hbwra
                have hotwr := HO2.out.below hbwra
                have hinwr := ints_at [.int .i64 x] 3 [x] 1 rfl rfl hwra
                have hcxwr : wra.cell? ⟨g, o + k, none⟩ = some (.int .i64 x) := (((HBW.out.trans (hbwra.mono HBW.out.size))).cell (p := ⟨g, o + k, none⟩) hg).trans HCELL.out
                have HBAwr := Lib.hid (HBW.out.trans (hbwra.mono HBW.out.size))
                have HOWwr := Lib.hid howwr
                have HOTwr := Lib.hid hotwr
                have HINwr := Lib.hid hinwr
                clear howwr hotwr hinwr hbwra
                go_wp2_with (at_builtin; refine wpList_append_ints_at rfl _ _ rfl k3.heap.size wra.heap.size _ _ _ [x] rfl HOWwr.out rfl HINwr.out ?x1 ?x2 ?_)
                case x1 => have := HMU.out; first | omega | (show _ + 1 ≤ _; omega)
                case x2 => exact HBAwr.out.size
                intro uw5 w5 how5 hbw5 hgw5 hfw5
                obtain ⟨hotw5, hapw5⟩ := apart_step HOTwr.out HAP.out hgw5 hfw5
                have HBX := Lib.hid (HBAwr.out.trans hbw5)
                have hcyw5 : w5.cell? ⟨g, o + k, none⟩ = some (.int .i64 x) := (HBX.out.cell (p := ⟨g, o + k, none⟩) hg).trans HCELL.out
                have HOUw5 := Lib.hid how5
                have HOVw5 := Lib.hid hotw5
                have HAPw5 := Lib.hid hapw5
                clear how5 hotw5 hapw5 hbw5 hgw5 hfw5 hwra
                obtain ⟨Au5, cu5, hu5⟩ := HOUw5.out.slice
                subst hu5
                obtain ⟨mu5, hmu5⟩ : ∃ m, ((L.take k).filter p ++ [x]).length = m := ⟨_, rfl⟩
                rw [hmu5] at HOUw5 HAPw5 ⊢
                clear hmu5
                obtain ⟨w5a, hw5a⟩ : ∃ k, w5.alloc (.cells #[.int .i64 x] 3) = k := ⟨_, rfl⟩
                have hbw5a := below_at hw5a
                have howw5 := HOVw5.out.below hbw5a
                have hotw5 := HOUw5.out.below hbw5a
                have hinw5 := ints_at [.int .i64 x] 3 [x] 1 rfl rfl hw5a
                have hcxw5 : w5a.cell? ⟨g, o + k, none⟩ = some (.int .i64 x) := (((HBX.out.trans (hbw5a.mono HBX.out.size))).cell (p := ⟨g, o + k, none⟩) hg).trans HCELL.out
                have HBAw5 := Lib.hid (HBX.out.trans (hbw5a.mono HBX.out.size))
                have HOWw5 := Lib.hid howw5
                have HOTw5 := Lib.hid hotw5
                have HINw5 := Lib.hid hinw5
                clear howw5 hotw5 hinw5 hbw5a
                go_wp2_with (at_builtin; refine wpList_append_ints_at rfl _ _ rfl k3.heap.size w5a.heap.size _ _ _ [x] rfl HOWw5.out rfl HINw5.out ?x1 ?x2 ?_)
                case x1 => have := HMT.out; first | omega | (show _ + 1 ≤ _; omega)
                case x2 => exact HBAw5.out.size
                intro uw6 w6 how6 hbw6 hgw6 hfw6
                obtain ⟨hotw6, hapw6⟩ := apart_step HOTw5.out HAPw5.out.symm hgw6 hfw6
                have HBY := Lib.hid (HBAw5.out.trans hbw6)
                have hcyw6 : w6.cell? ⟨g, o + k, none⟩ = some (.int .i64 x) := (HBY.out.cell (p := ⟨g, o + k, none⟩) hg).trans HCELL.out
                have HOUw6 := Lib.hid how6
                have HOVw6 := Lib.hid hotw6
                have HAPw6 := Lib.hid hapw6
                clear how6 hotw6 hapw6 hbw6 hgw6 hfw6 hw5a
                go_wp2
                go_roundw
                case rel => exact ⟨k + 1, by omega, by go_num, by rw [S1.out]; exact HOVw6.out, by rw [S2.out]; exact HOUw6.out, HAPw6.out.symm, HBY.out⟩
                case measure => simp [intOf]; omega
              · have S1 := Lib.hid (show (L.take (k + 1)).filter p = (L.take k).filter p ++ [x] by rw [HF1.out, decide_eq_true (by omega), if_pos rfl])
                have S2 := Lib.hid (show (L.take (k + 1)).filter p2 = (L.take k).filter p2 by rw [HF2.out, decide_eq_false (by omega), if_neg (by decide), List.append_nil])
                obtain ⟨wra, hwra⟩ : ∃ k, wr.alloc (.cells #[.int .i64 x] 3) = k := ⟨_, rfl⟩
                have hbwra := below_at hwra
                have howwr := HO.out.below hbwra
                have hotwr := HO2.out.below hbwra
                have hinwr := ints_at [.int .i64 x] 3 [x] 1 rfl rfl hwra
                have hcxwr : wra.cell? ⟨g, o + k, none⟩ = some (.int .i64 x) := (((HBW.out.trans (hbwra.mono HBW.out.size))).cell (p := ⟨g, o + k, none⟩) hg).trans HCELL.out
                have HBAwr := Lib.hid (HBW.out.trans (hbwra.mono HBW.out.size))
                have HOWwr := Lib.hid howwr
                have HOTwr := Lib.hid hotwr
                have HINwr := Lib.hid hinwr
                clear howwr hotwr hinwr hbwra
                go_wp2_with (at_builtin; refine wpList_append_ints_at rfl _ _ rfl k3.heap.size wra.heap.size _ _ _ [x] rfl HOWwr.out rfl HINwr.out ?x1 ?x2 ?_)
                case x1 => have := HMU.out; first | omega | (show _ + 1 ≤ _; omega)
                case x2 => exact HBAwr.out.size
                intro uw5 w5 how5 hbw5 hgw5 hfw5
                obtain ⟨hotw5, hapw5⟩ := apart_step HOTwr.out HAP.out hgw5 hfw5
                have HBX := Lib.hid (HBAwr.out.trans hbw5)
                have hcyw5 : w5.cell? ⟨g, o + k, none⟩ = some (.int .i64 x) := (HBX.out.cell (p := ⟨g, o + k, none⟩) hg).trans HCELL.out
                have HOUw5 := Lib.hid how5
                have HOVw5 := Lib.hid hotw5
                have HAPw5 := Lib.hid hapw5
                clear how5 hotw5 hapw5 hbw5 hgw5 hfw5 hwra
                go_wp2
                go_roundw
                case rel => exact ⟨k + 1, by omega, by go_num, by rw [S1.out]; exact HOUw5.out, by rw [S2.out]; exact HOVw5.out, HAPw5.out, HBX.out⟩
                case measure => simp [intOf]; omega
            · have hgt : ¬ v < 0 := by omega
              have S1 := Lib.hid (show (L.take (k + 1)).filter p = (L.take k).filter p by rw [HF1.out, decide_eq_false (by omega), if_neg (by decide), List.append_nil])
              have S2 := Lib.hid (show (L.take (k + 1)).filter p2 = (L.take k).filter p2 by rw [HF2.out, decide_eq_false (by omega), if_neg (by decide), List.append_nil])
              go_wp2
              go_roundw
              case rel => exact ⟨k + 1, by omega, by go_num, by rw [S1.out]; exact HO.out, by rw [S2.out]; exact HO2.out, HAP.out, HBW.out⟩
              case measure => simp [intOf]; omega
        · have hkn : k = n := by omega
          have hfin : L.take k = L := List.take_of_length_le (by rw [HN.out]; omega)
          have q1 := HO.out
          have q2 := HO2.out
          have e1 := HMU.out
          have e2 := HMT.out
          rw [hfin] at q1 q2 e1 e2
          have J1 := Lib.hid (Ints.of_own q1)
          have J2 := Lib.hid (Ints.of_own q2)
          have E1 := Lib.hid e1
          have E2 := Lib.hid e2
          have JL := Lib.hid ((IL.out.keep HBW.out (Nat.le_refl _)).more HBW.out.size)
          clear hfin q1 q2 e1 e2 hkn
          go_wp2_with fail
          refine (maj_n JL.out J1.out HN.out E1.out (by omega) (by omega) H1.out).mono ?_
          rintro e k7 ⟨rfl, h7⟩
          have JL7 := Lib.hid (JL.out.nxt h7)
          have J7 := Lib.hid (J2.out.nxt h7)
          have HB7 := Lib.hid (HBW.out.trans (h7.mono HBW.out.size))
          clear h7
          go_wp2_with fail
          refine (maj_n JL7.out J7.out HN.out E2.out (by omega) (by omega) H2.out).mono ?_
          rintro e k8 ⟨rfl, h8⟩
          have HB8 := Lib.hid (HB7.out.trans (h8.mono HB7.out.size))
          clear h8
          go_wp2
          go_ret
          exact ⟨rfl, HB3.out.trans (HB8.out.mono HB3.out.size)⟩

set_option maxRecDepth 100000 in
theorem lifted (os : Os) (started : os.Started) (H : Type) (enc : TypeId × Value → H) :
    ReturnsInHanded {} Try.checked os 6 .any (Rows.confMiddleSpec.pre6 enc Try.prog Try.f6 Rows.confMiddleRow.domain false) (Rows.confMiddleSpec.post enc Try.prog Try.f6 false true false false) := by
  refine returnsInHanded_of_change (C := Try.checked) own started (by kernel_rfl) Try.func6
    (ChangeSpec.witness6 (enc := enc) (C := Try.checked) false ⟨#[], #[.int .i64 0, .slice none 0 0], []⟩ 8 (by kernel_rfl) (by kernel_rfl) (by kernel_rfl) (by kernel_rfl)) ?_
  intro W base args ds gs before hval0 hW hcnd _
  have hval : ∀ (j : Nat) t v, Try.f6.params[j]? = some t → args[j]? = some v → Value.okWide Try.prog W .any base t v := hval0
  have hW' := hW
  obtain ⟨p, q, hA0, hV, rfl, hfz, hnd⟩ := hW
  have hA : DataW.TrodAll enc Try.prog W 0 (fun _ => true) true Try.f6.params.toList args.toList ds p := hA0
  have hA1 := hA
  rw [Try.params6] at hA hval
  obtain ⟨v0, vs0, d0, ds0, p0, q0, hargs, rfl, rfl, h0, r0⟩ := trodAll_cons hA
  obtain ⟨v1, vs1, d1, ds1, p1, q1, rfl, rfl, rfl, h1, r1⟩ := trodAll_cons r0
  obtain ⟨rfl, rfl, rfl⟩ := trodAll_nil r1
  obtain rfl : args = #[v0, v1] := by cases args; simp_all
  obtain ⟨rfl, rfl⟩ := trodVars_none hV
  obtain ⟨a0, rfl, rfl, rfl, w0⟩ := open_int Try.underlying3 (hval 0 3 v0 rfl rfl) h0
  obtain ⟨A1, c1, a1, rfl, w1, x1⟩ := open_i64s12 (hval 1 38 v1 rfl rfl) h1
  clear hA0 hval0
  simp only [List.append_nil] at hW'
  try simp only [List.append_nil] at hA1
  refine (walk W a0 w0 A1 c1 a1 w1 x1).mono fun e W' ⟨he, hg⟩ => ?_
  subst he
  exact ⟨_, rfl, law_end Try.laidOut (by kernel_rfl) hW' hA1 hg rfl rfl rfl (trodAll_mk1 (shut_bool Try.underlying4 _))⟩

theorem over : Rows.confMiddleRow.holds Try.pinned (OpenSpec.ofChange Rows.confMiddleSpec) :=
  OpenClaim.holds_of_wide 6 Try.f6 rfl rfl rfl rfl rfl rfl rfl ⟨rfl, rfl, rfl, rfl, rfl⟩ rfl rfl rfl rfl rfl (by kernel_rfl) Try.func6 (by kernel_rfl)
    (of_decide_eq_true (by kernel_rfl)) (by unfold Func.isWrapper; first | (rw [if_pos (by decide +kernel)]; kernel_rfl) | (rw [if_neg (by decide +kernel)]; exact ⟨rfl, rfl⟩))
    (fun os started H enc _ => lifted os started H enc)

/-- the statement -/
theorem proved : Rows.ConfMiddleSaid := over
#print axioms proved
end Go.Proofs.Ytbiecoifeeikpaa.confMiddle
