/-
  Of two that are near each two majorities have one in common.
-/
import Derived.Test.YtbiecoifeeikpaaRows
import Derived.Test.YtbiecoifeeikpaaL12Kit
import Derived.Test.YtbiecoifeeikpaaLawKit
import Derived.WalkKit
import Derived.ProofKit
import Derived.OpenShut
import Derived.ShutString
namespace Go.Proofs.Ytbiecoifeeikpaa.confMeet
open Go.ChangeShapes Go.WideShapes Go.ChangeAt Go.RowKit
open Go.ChangeMaps (open_string shut_string)
set_option linter.unusedVariables false

theorem own : ownKnob Try.prog.godebug = none := by kernel_rfl

set_option maxRecDepth 100000 in
set_option maxHeartbeats 8000000 in
theorem walk (w : World) (a0 : Int) (w0 : (Lit.int .i64 a0).wf = true) (a1 : Int) (w1 : (Lit.int .i64 a1).wf = true) (a2 : Int) (w2 : (Lit.int .i64 a2).wf = true) (a3 : Int) (w3 : (Lit.int .i64 a3).wf = true) :
    Calls Try.prog 4 #[.int .i64 a0, .int .i64 a1, .int .i64 a2, .int .i64 a3] w fun e w' => e = .returned (.bool true) ∧ Below w.heap.size w w' := by
  obtain ⟨r, q, hr, hr1, hr2, hq, hq6⟩ := server12 a3
  obtain ⟨L, hL⟩ : ∃ L, setF (bitF a0) = L := ⟨_, rfl⟩
  have hmF : mayF 0 L = true := by rw [← hL]; exact setF_may _
  have hlen : L.length ≤ 7 := by rw [← hL]; exact setF_len _
  have hset := fun W => set_n (w := W) a0 hL
  obtain ⟨n, hn⟩ : ∃ n, L.length = n := ⟨_, rfl⟩
  rw [hn] at hlen hset
  have HN := Lib.hid hn
  have HMF := Lib.hid hmF
  clear hn hL hmF
  obtain ⟨X, hX⟩ : ∃ L, setF (bitF a1) = L := ⟨_, rfl⟩
  obtain ⟨Y, hY⟩ : ∃ L, setF (bitF a2) = L := ⟨_, rfl⟩
  have hXl : X.length ≤ 7 := by rw [← hX]; exact setF_len _
  have hYl : Y.length ≤ 7 := by rw [← hY]; exact setF_len _
  have hsx := fun W => set_n (w := W) a1 hX
  have hsy := fun W => set_n (w := W) a2 hY
  obtain ⟨nx, hnx⟩ : ∃ n, X.length = n := ⟨_, rfl⟩
  obtain ⟨ny, hny⟩ : ∃ n, Y.length = n := ⟨_, rfl⟩
  rw [hnx] at hXl hsx
  rw [hny] at hYl hsy
  obtain ⟨M1, b1, hr1⟩ : ∃ R b, optL (add12 L (1 + (q : Int))) = (R, b) := ⟨_, _, rfl⟩
  obtain ⟨M2, b2, hr2⟩ : ∃ R b, optL (rem12 L (1 + (q : Int))) = (R, b) := ⟨_, _, rfl⟩
  have HX := Lib.hid hnx
  have HY := Lib.hid hny
  have HSX := Lib.hid hsx
  have HSY := Lib.hid hsy
  obtain ⟨m1, hm1⟩ : ∃ n, M1.length = n := ⟨_, rfl⟩
  obtain ⟨m2, hm2⟩ : ∃ n, M2.length = n := ⟨_, rfl⟩
  have HR1 := Lib.hid hr1
  have HR2 := Lib.hid hr2
  have HM1 := Lib.hid hm1
  have HM2 := Lib.hid hm2
  clear w0 w1 w2 w3 hX hY hnx hny hsx hsy hr1 hr2 hm1 hm2
  go_enter Try.func4, Try.ntmps4
  go_wp2_with fail
  refine (begun12_any _).mono ?_
  rintro e k1 ⟨rfl, hbk1⟩
  have HB1 := Lib.hid (hbk1)
  clear hbk1
  go_wp2_with fail
  refine (hset _).mono ?_
  rintro e k2 ⟨A1, c1, rfl, hi1, hbk2⟩
  have HB2 := Lib.hid (HB1.out.trans (hbk2.mono HB1.out.size))
  clear hbk2
  have IL := Lib.hid hi1
  clear hi1
  clear hset
  go_wp2_with fail
  refine (addp_n (1 + (q : Int)) IL.out HN.out (by omega) HR1.out HM1.out).mono ?_
  rintro e k3 ⟨hbk3, A2, c2, rfl, hi2⟩
  replace IL := Lib.hid (IL.out.nxt hbk3)
  have HB3 := Lib.hid (HB2.out.trans (hbk3.mono HB2.out.size))
  clear hbk3
  have IM1 := Lib.hid hi2
  clear hi2
  cases b1 with
  | true =>
    have hnr : NR L M1 := add_NR HR1.out
    have hm9 : m1 ≤ 8 := by have := hnr.len; have e1 := HN.out; have e2 := HM1.out; omega
    have HNR := Lib.hid hnr
    clear hnr
    go_wp2_with fail
    refine (HSX.out _).mono ?_
    rintro e k4 ⟨A3, c3, rfl, hi3, hbk4⟩
    replace IL := Lib.hid (IL.out.nxt hbk4)
    replace IM1 := Lib.hid (IM1.out.nxt hbk4)
    have HB4 := Lib.hid (HB3.out.trans (hbk4.mono HB3.out.size))
    clear hbk4
    have IX := Lib.hid hi3
    clear hi3
    go_wp2_with fail
    refine (HSY.out _).mono ?_
    rintro e k5 ⟨A4, c4, rfl, hi4, hbk5⟩
    replace IL := Lib.hid (IL.out.nxt hbk5)
    replace IM1 := Lib.hid (IM1.out.nxt hbk5)
    replace IX := Lib.hid (IX.out.nxt hbk5)
    have HB5 := Lib.hid (HB4.out.trans (hbk5.mono HB4.out.size))
    clear hbk5
    have IY := Lib.hid hi4
    clear hi4
    cases hj1 : maj12 L X with
    | false =>
      have HJ := Lib.hid hj1
      clear hj1
      go_wp2_with fail
      refine (maj_n IL.out IX.out HN.out HX.out (by omega) (by omega) HJ.out).mono ?_
      rintro e k6 ⟨rfl, hbk6⟩
      replace IL := Lib.hid (IL.out.nxt hbk6)
      replace IM1 := Lib.hid (IM1.out.nxt hbk6)
      replace IX := Lib.hid (IX.out.nxt hbk6)
      replace IY := Lib.hid (IY.out.nxt hbk6)
      have HB6 := Lib.hid (HB5.out.trans (hbk6.mono HB5.out.size))
      clear hbk6
      go_wp2
      go_ret
      exact ⟨rfl, HB6.out⟩
    | true =>
      have HJ := Lib.hid hj1
      clear hj1
      go_wp2_with fail
      refine (maj_n IL.out IX.out HN.out HX.out (by omega) (by omega) HJ.out).mono ?_
      rintro e k6 ⟨rfl, hbk6⟩
      replace IL := Lib.hid (IL.out.nxt hbk6)
      replace IM1 := Lib.hid (IM1.out.nxt hbk6)
      replace IX := Lib.hid (IX.out.nxt hbk6)
      replace IY := Lib.hid (IY.out.nxt hbk6)
      have HB6 := Lib.hid (HB5.out.trans (hbk6.mono HB5.out.size))
      clear hbk6
      cases hj2 : maj12 M1 Y with
      | false =>
        have HJ2 := Lib.hid hj2
        clear hj2
        go_wp2_with fail
        refine (maj_n IM1.out IY.out HM1.out HY.out (by omega) (by omega) HJ2.out).mono ?_
        rintro e k7 ⟨rfl, hbk7⟩
        replace IL := Lib.hid (IL.out.nxt hbk7)
        replace IM1 := Lib.hid (IM1.out.nxt hbk7)
        replace IX := Lib.hid (IX.out.nxt hbk7)
        replace IY := Lib.hid (IY.out.nxt hbk7)
        have HB7 := Lib.hid (HB6.out.trans (hbk7.mono HB6.out.size))
        clear hbk7
        go_wp2
        go_ret
        exact ⟨rfl, HB7.out⟩
      | true =>
        have HJ2 := Lib.hid hj2
        clear hj2
        go_wp2_with fail
        refine (maj_n IM1.out IY.out HM1.out HY.out (by omega) (by omega) HJ2.out).mono ?_
        rintro e k7 ⟨rfl, hbk7⟩
        replace IL := Lib.hid (IL.out.nxt hbk7)
        replace IM1 := Lib.hid (IM1.out.nxt hbk7)
        replace IX := Lib.hid (IX.out.nxt hbk7)
        replace IY := Lib.hid (IY.out.nxt hbk7)
        have HB7 := Lib.hid (HB6.out.trans (hbk7.mono HB6.out.size))
        clear hbk7
        go_wp2
        go_loop [15] (fun i => ∃ k : Nat, k ≤ nx ∧ i = .int .i64 k ∧ ∀ z ∈ X.take k, ¬ (Y.contains z = true ∧ (L.contains z = true ∨ M1.contains z = true))) (fun i => nx - (intOf i).toNat)
        case atStart => exact ⟨0, Nat.zero_le _, rfl, by simp⟩
        case round =>
          obtain ⟨k, hk, rfl, hrec⟩ := hrel
          have HRC := Lib.hid hrec
          clear hrec
          by_cases hlt : k < nx
          · have hkl : k < X.length := by rw [HX.out]; exact hlt
            obtain ⟨g, o, hA, _, hcell⟩ := IX.out.at_ k hkl
            subst hA
            have hts : X.take (k + 1) = X.take k ++ [X[k]] := List.take_succ_eq_append_getElem hkl
            obtain ⟨z, hz⟩ : ∃ z, X[k] = z := ⟨_, rfl⟩
            rw [hz] at hcell hts
            have HTS := Lib.hid hts
            clear hts hz hkl
            have hnext : ¬ (Y.contains z = true ∧ (L.contains z = true ∨ M1.contains z = true)) → ∀ z ∈ X.take (k + 1), ¬ (Y.contains z = true ∧ (L.contains z = true ∨ M1.contains z = true)) := fun h y hy => by
              rw [HTS.out] at hy
              rcases List.mem_append.1 hy with h9 | h9
              · exact HRC.out y h9
              · rw [List.mem_singleton.1 h9]; exact h
            have HNX := Lib.hid hnext
            clear hnext
            cases hy : Y.contains z with
            | false =>
              have HC1 := Lib.hid hy
              have HNN := Lib.hid (HNX.out (fun h => by rw [hy] at h; exact absurd h.1 (by decide)))
              clear hy
              go_wp2_with fail
              refine (has_n z IY.out HY.out (by omega) HC1.out).mono ?_
              rintro e w' ⟨rfl, rfl⟩
              go_wp2
              go_round
              case rel => exact ⟨k + 1, by omega, by go_num, HNN.out⟩
              case measure => simp [intOf]; omega
            | true =>
              have HC1 := Lib.hid hy
              clear hy
              cases hl : L.contains z with
              | true =>
                have HC2 := Lib.hid hl
                clear hl
                go_wp2_with fail
                refine (has_n z IY.out HY.out (by omega) HC1.out).mono ?_
                rintro e w' ⟨rfl, rfl⟩
                go_wp2_with fail
                refine (has_n z IL.out HN.out (by omega) HC2.out).mono ?_
                rintro e w' ⟨rfl, rfl⟩
                go_wp2
                go_ret
                exact ⟨rfl, HB7.out⟩
              | false =>
                have HC2 := Lib.hid hl
                clear hl
                cases hm : M1.contains z with
                | true =>
                  have HC3 := Lib.hid hm
                  clear hm
                  go_wp2_with fail
                  refine (has_n z IY.out HY.out (by omega) HC1.out).mono ?_
                  rintro e w' ⟨rfl, rfl⟩
                  go_wp2_with fail
                  refine (has_n z IL.out HN.out (by omega) HC2.out).mono ?_
                  rintro e w' ⟨rfl, rfl⟩
                  go_wp2_with fail
                  refine (has_n z IM1.out HM1.out (by omega) HC3.out).mono ?_
                  rintro e w' ⟨rfl, rfl⟩
                  go_wp2
                  go_ret
                  exact ⟨rfl, HB7.out⟩
                | false =>
                  have HC3 := Lib.hid hm
                  have HNN := Lib.hid (HNX.out (fun h => by rcases h.2 with h | h; · rw [HC2.out] at h; exact absurd h (by decide)
                                                            · rw [HC3.out] at h; exact absurd h (by decide)))
                  clear hm
                  go_wp2_with fail
                  refine (has_n z IY.out HY.out (by omega) HC1.out).mono ?_
                  rintro e w' ⟨rfl, rfl⟩
                  go_wp2_with fail
                  refine (has_n z IL.out HN.out (by omega) HC2.out).mono ?_
                  rintro e w' ⟨rfl, rfl⟩
                  go_wp2_with fail
                  refine (has_n z IM1.out HM1.out (by omega) HC3.out).mono ?_
                  rintro e w' ⟨rfl, rfl⟩
                  go_wp2
                  go_round
                  case rel => exact ⟨k + 1, by omega, by go_num, HNN.out⟩
                  case measure => simp [intOf]; omega
          · exfalso
            obtain ⟨z, hz, h1, h2⟩ := HNR.out.meet HJ.out HJ2.out
            have h9 := HRC.out
            rw [List.take_of_length_le (by rw [HX.out]; omega)] at h9
            exact h9 z hz ⟨h1, h2⟩
  | false =>
    go_wp2_with fail
    refine (remp_n (1 + (q : Int)) IL.out HN.out (by omega) HR2.out HM2.out).mono ?_
    rintro e k4 ⟨hbk4, A5, c5, rfl, hi5⟩
    replace IL := Lib.hid (IL.out.nxt hbk4)
    replace IM1 := Lib.hid (IM1.out.nxt hbk4)
    have HB4 := Lib.hid (HB3.out.trans (hbk4.mono HB3.out.size))
    clear hbk4
    have IM2 := Lib.hid hi5
    clear hi5
    cases b2 with
    | true =>
      have hnr : NR L M2 := rem_NR HR2.out
      have hm9 : m2 ≤ 8 := by have := hnr.len; have e1 := HN.out; have e2 := HM2.out; omega
      have HNR := Lib.hid hnr
      clear hnr
      go_wp2_with fail
      refine (HSX.out _).mono ?_
      rintro e k5 ⟨A3, c3, rfl, hi3, hbk5⟩
      replace IL := Lib.hid (IL.out.nxt hbk5)
      replace IM1 := Lib.hid (IM1.out.nxt hbk5)
      replace IM2 := Lib.hid (IM2.out.nxt hbk5)
      have HB5 := Lib.hid (HB4.out.trans (hbk5.mono HB4.out.size))
      clear hbk5
      have IX := Lib.hid hi3
      clear hi3
      go_wp2_with fail
      refine (HSY.out _).mono ?_
      rintro e k6 ⟨A4, c4, rfl, hi4, hbk6⟩
      replace IL := Lib.hid (IL.out.nxt hbk6)
      replace IM1 := Lib.hid (IM1.out.nxt hbk6)
      replace IM2 := Lib.hid (IM2.out.nxt hbk6)
      replace IX := Lib.hid (IX.out.nxt hbk6)
      have HB6 := Lib.hid (HB5.out.trans (hbk6.mono HB5.out.size))
      clear hbk6
      have IY := Lib.hid hi4
      clear hi4
      cases hj1 : maj12 L X with
      | false =>
        have HJ := Lib.hid hj1
        clear hj1
        go_wp2_with fail
        refine (maj_n IL.out IX.out HN.out HX.out (by omega) (by omega) HJ.out).mono ?_
        rintro e k7 ⟨rfl, hbk7⟩
        replace IL := Lib.hid (IL.out.nxt hbk7)
        replace IM1 := Lib.hid (IM1.out.nxt hbk7)
        replace IM2 := Lib.hid (IM2.out.nxt hbk7)
        replace IX := Lib.hid (IX.out.nxt hbk7)
        replace IY := Lib.hid (IY.out.nxt hbk7)
        have HB7 := Lib.hid (HB6.out.trans (hbk7.mono HB6.out.size))
        clear hbk7
        go_wp2
        go_ret
        exact ⟨rfl, HB7.out⟩
      | true =>
        have HJ := Lib.hid hj1
        clear hj1
        go_wp2_with fail
        refine (maj_n IL.out IX.out HN.out HX.out (by omega) (by omega) HJ.out).mono ?_
        rintro e k7 ⟨rfl, hbk7⟩
        replace IL := Lib.hid (IL.out.nxt hbk7)
        replace IM1 := Lib.hid (IM1.out.nxt hbk7)
        replace IM2 := Lib.hid (IM2.out.nxt hbk7)
        replace IX := Lib.hid (IX.out.nxt hbk7)
        replace IY := Lib.hid (IY.out.nxt hbk7)
        have HB7 := Lib.hid (HB6.out.trans (hbk7.mono HB6.out.size))
        clear hbk7
        cases hj2 : maj12 M2 Y with
        | false =>
          have HJ2 := Lib.hid hj2
          clear hj2
          go_wp2_with fail
          refine (maj_n IM2.out IY.out HM2.out HY.out (by omega) (by omega) HJ2.out).mono ?_
          rintro e k8 ⟨rfl, hbk8⟩
          replace IL := Lib.hid (IL.out.nxt hbk8)
          replace IM1 := Lib.hid (IM1.out.nxt hbk8)
          replace IM2 := Lib.hid (IM2.out.nxt hbk8)
          replace IX := Lib.hid (IX.out.nxt hbk8)
          replace IY := Lib.hid (IY.out.nxt hbk8)
          have HB8 := Lib.hid (HB7.out.trans (hbk8.mono HB7.out.size))
          clear hbk8
          go_wp2
          go_ret
          exact ⟨rfl, HB8.out⟩
        | true =>
          have HJ2 := Lib.hid hj2
          clear hj2
          go_wp2_with fail
          refine (maj_n IM2.out IY.out HM2.out HY.out (by omega) (by omega) HJ2.out).mono ?_
          rintro e k8 ⟨rfl, hbk8⟩
          replace IL := Lib.hid (IL.out.nxt hbk8)
          replace IM1 := Lib.hid (IM1.out.nxt hbk8)
          replace IM2 := Lib.hid (IM2.out.nxt hbk8)
          replace IX := Lib.hid (IX.out.nxt hbk8)
          replace IY := Lib.hid (IY.out.nxt hbk8)
          have HB8 := Lib.hid (HB7.out.trans (hbk8.mono HB7.out.size))
          clear hbk8
          go_wp2
          go_loop [15] (fun i => ∃ k : Nat, k ≤ nx ∧ i = .int .i64 k ∧ ∀ z ∈ X.take k, ¬ (Y.contains z = true ∧ (L.contains z = true ∨ M2.contains z = true))) (fun i => nx - (intOf i).toNat)
          case atStart => exact ⟨0, Nat.zero_le _, rfl, by simp⟩
          case round =>
            obtain ⟨k, hk, rfl, hrec⟩ := hrel
            have HRC := Lib.hid hrec
            clear hrec
            by_cases hlt : k < nx
            · have hkl : k < X.length := by rw [HX.out]; exact hlt
              obtain ⟨g, o, hA, _, hcell⟩ := IX.out.at_ k hkl
              subst hA
              have hts : X.take (k + 1) = X.take k ++ [X[k]] := List.take_succ_eq_append_getElem hkl
              obtain ⟨z, hz⟩ : ∃ z, X[k] = z := ⟨_, rfl⟩
              rw [hz] at hcell hts
              have HTS := Lib.hid hts
              clear hts hz hkl
              have hnext : ¬ (Y.contains z = true ∧ (L.contains z = true ∨ M2.contains z = true)) → ∀ z ∈ X.take (k + 1), ¬ (Y.contains z = true ∧ (L.contains z = true ∨ M2.contains z = true)) := fun h y hy => by
                rw [HTS.out] at hy
                rcases List.mem_append.1 hy with h9 | h9
                · exact HRC.out y h9
                · rw [List.mem_singleton.1 h9]; exact h
              have HNX := Lib.hid hnext
              clear hnext
              cases hy : Y.contains z with
              | false =>
                have HC1 := Lib.hid hy
                have HNN := Lib.hid (HNX.out (fun h => by rw [hy] at h; exact absurd h.1 (by decide)))
                clear hy
                go_wp2_with fail
                refine (has_n z IY.out HY.out (by omega) HC1.out).mono ?_
                rintro e w' ⟨rfl, rfl⟩
                go_wp2
                go_round
                case rel => exact ⟨k + 1, by omega, by go_num, HNN.out⟩
                case measure => simp [intOf]; omega
              | true =>
                have HC1 := Lib.hid hy
                clear hy
                cases hl : L.contains z with
                | true =>
                  have HC2 := Lib.hid hl
                  clear hl
                  go_wp2_with fail
                  refine (has_n z IY.out HY.out (by omega) HC1.out).mono ?_
                  rintro e w' ⟨rfl, rfl⟩
                  go_wp2_with fail
                  refine (has_n z IL.out HN.out (by omega) HC2.out).mono ?_
                  rintro e w' ⟨rfl, rfl⟩
                  go_wp2
                  go_ret
                  exact ⟨rfl, HB8.out⟩
                | false =>
                  have HC2 := Lib.hid hl
                  clear hl
                  cases hm : M2.contains z with
                  | true =>
                    have HC3 := Lib.hid hm
                    clear hm
                    go_wp2_with fail
                    refine (has_n z IY.out HY.out (by omega) HC1.out).mono ?_
                    rintro e w' ⟨rfl, rfl⟩
                    go_wp2_with fail
                    refine (has_n z IL.out HN.out (by omega) HC2.out).mono ?_
                    rintro e w' ⟨rfl, rfl⟩
                    go_wp2_with fail
                    refine (has_n z IM2.out HM2.out (by omega) HC3.out).mono ?_
                    rintro e w' ⟨rfl, rfl⟩
                    go_wp2
                    go_ret
                    exact ⟨rfl, HB8.out⟩
                  | false =>
                    have HC3 := Lib.hid hm
                    have HNN := Lib.hid (HNX.out (fun h => by rcases h.2 with h | h; · rw [HC2.out] at h; exact absurd h (by decide)
                                                              · rw [HC3.out] at h; exact absurd h (by decide)))
                    clear hm
                    go_wp2_with fail
                    refine (has_n z IY.out HY.out (by omega) HC1.out).mono ?_
                    rintro e w' ⟨rfl, rfl⟩
                    go_wp2_with fail
                    refine (has_n z IL.out HN.out (by omega) HC2.out).mono ?_
                    rintro e w' ⟨rfl, rfl⟩
                    go_wp2_with fail
                    refine (has_n z IM2.out HM2.out (by omega) HC3.out).mono ?_
                    rintro e w' ⟨rfl, rfl⟩
                    go_wp2
                    go_round
                    case rel => exact ⟨k + 1, by omega, by go_num, HNN.out⟩
                    case measure => simp [intOf]; omega
            · exfalso
              obtain ⟨z, hz, h1, h2⟩ := HNR.out.meet HJ.out HJ2.out
              have h9 := HRC.out
              rw [List.take_of_length_le (by rw [HX.out]; omega)] at h9
              exact h9 z hz ⟨h1, h2⟩
    | false =>
      have hnr : NR L L := NR.refl L
      have hm9 : n ≤ 8 := by have := hnr.len; have e1 := HN.out; have e2 := HN.out; omega
      have HNR := Lib.hid hnr
      clear hnr
      go_wp2_with fail
      refine (HSX.out _).mono ?_
      rintro e k5 ⟨A3, c3, rfl, hi3, hbk5⟩
      replace IL := Lib.hid (IL.out.nxt hbk5)
      replace IM1 := Lib.hid (IM1.out.nxt hbk5)
      replace IM2 := Lib.hid (IM2.out.nxt hbk5)
      have HB5 := Lib.hid (HB4.out.trans (hbk5.mono HB4.out.size))
      clear hbk5
      have IX := Lib.hid hi3
      clear hi3
      go_wp2_with fail
      refine (HSY.out _).mono ?_
      rintro e k6 ⟨A4, c4, rfl, hi4, hbk6⟩
      replace IL := Lib.hid (IL.out.nxt hbk6)
      replace IM1 := Lib.hid (IM1.out.nxt hbk6)
      replace IM2 := Lib.hid (IM2.out.nxt hbk6)
      replace IX := Lib.hid (IX.out.nxt hbk6)
      have HB6 := Lib.hid (HB5.out.trans (hbk6.mono HB5.out.size))
      clear hbk6
      have IY := Lib.hid hi4
      clear hi4
      cases hj1 : maj12 L X with
      | false =>
        have HJ := Lib.hid hj1
        clear hj1
        go_wp2_with fail
        refine (maj_n IL.out IX.out HN.out HX.out (by omega) (by omega) HJ.out).mono ?_
        rintro e k7 ⟨rfl, hbk7⟩
        replace IL := Lib.hid (IL.out.nxt hbk7)
        replace IM1 := Lib.hid (IM1.out.nxt hbk7)
        replace IM2 := Lib.hid (IM2.out.nxt hbk7)
        replace IX := Lib.hid (IX.out.nxt hbk7)
        replace IY := Lib.hid (IY.out.nxt hbk7)
        have HB7 := Lib.hid (HB6.out.trans (hbk7.mono HB6.out.size))
        clear hbk7
        go_wp2
        go_ret
        exact ⟨rfl, HB7.out⟩
      | true =>
        have HJ := Lib.hid hj1
        clear hj1
        go_wp2_with fail
        refine (maj_n IL.out IX.out HN.out HX.out (by omega) (by omega) HJ.out).mono ?_
        rintro e k7 ⟨rfl, hbk7⟩
        replace IL := Lib.hid (IL.out.nxt hbk7)
        replace IM1 := Lib.hid (IM1.out.nxt hbk7)
        replace IM2 := Lib.hid (IM2.out.nxt hbk7)
        replace IX := Lib.hid (IX.out.nxt hbk7)
        replace IY := Lib.hid (IY.out.nxt hbk7)
        have HB7 := Lib.hid (HB6.out.trans (hbk7.mono HB6.out.size))
        clear hbk7
        cases hj2 : maj12 L Y with
        | false =>
          have HJ2 := Lib.hid hj2
          clear hj2
          go_wp2_with fail
          refine (maj_n IL.out IY.out HN.out HY.out (by omega) (by omega) HJ2.out).mono ?_
          rintro e k8 ⟨rfl, hbk8⟩
          replace IL := Lib.hid (IL.out.nxt hbk8)
          replace IM1 := Lib.hid (IM1.out.nxt hbk8)
          replace IM2 := Lib.hid (IM2.out.nxt hbk8)
          replace IX := Lib.hid (IX.out.nxt hbk8)
          replace IY := Lib.hid (IY.out.nxt hbk8)
          have HB8 := Lib.hid (HB7.out.trans (hbk8.mono HB7.out.size))
          clear hbk8
          go_wp2
          go_ret
          exact ⟨rfl, HB8.out⟩
        | true =>
          have HJ2 := Lib.hid hj2
          clear hj2
          go_wp2_with fail
          refine (maj_n IL.out IY.out HN.out HY.out (by omega) (by omega) HJ2.out).mono ?_
          rintro e k8 ⟨rfl, hbk8⟩
          replace IL := Lib.hid (IL.out.nxt hbk8)
          replace IM1 := Lib.hid (IM1.out.nxt hbk8)
          replace IM2 := Lib.hid (IM2.out.nxt hbk8)
          replace IX := Lib.hid (IX.out.nxt hbk8)
          replace IY := Lib.hid (IY.out.nxt hbk8)
          have HB8 := Lib.hid (HB7.out.trans (hbk8.mono HB7.out.size))
          clear hbk8
          go_wp2
          go_loop [15] (fun i => ∃ k : Nat, k ≤ nx ∧ i = .int .i64 k ∧ ∀ z ∈ X.take k, ¬ (Y.contains z = true ∧ (L.contains z = true ∨ L.contains z = true))) (fun i => nx - (intOf i).toNat)
          case atStart => exact ⟨0, Nat.zero_le _, rfl, by simp⟩
          case round =>
            obtain ⟨k, hk, rfl, hrec⟩ := hrel
            have HRC := Lib.hid hrec
            clear hrec
            by_cases hlt : k < nx
            · have hkl : k < X.length := by rw [HX.out]; exact hlt
              obtain ⟨g, o, hA, _, hcell⟩ := IX.out.at_ k hkl
              subst hA
              have hts : X.take (k + 1) = X.take k ++ [X[k]] := List.take_succ_eq_append_getElem hkl
              obtain ⟨z, hz⟩ : ∃ z, X[k] = z := ⟨_, rfl⟩
              rw [hz] at hcell hts
              have HTS := Lib.hid hts
              clear hts hz hkl
              have hnext : ¬ (Y.contains z = true ∧ (L.contains z = true ∨ L.contains z = true)) → ∀ z ∈ X.take (k + 1), ¬ (Y.contains z = true ∧ (L.contains z = true ∨ L.contains z = true)) := fun h y hy => by
                rw [HTS.out] at hy
                rcases List.mem_append.1 hy with h9 | h9
                · exact HRC.out y h9
                · rw [List.mem_singleton.1 h9]; exact h
              have HNX := Lib.hid hnext
              clear hnext
              cases hy : Y.contains z with
              | false =>
                have HC1 := Lib.hid hy
                have HNN := Lib.hid (HNX.out (fun h => by rw [hy] at h; exact absurd h.1 (by decide)))
                clear hy
                go_wp2_with fail
                refine (has_n z IY.out HY.out (by omega) HC1.out).mono ?_
                rintro e w' ⟨rfl, rfl⟩
                go_wp2
                go_round
                case rel => exact ⟨k + 1, by omega, by go_num, HNN.out⟩
                case measure => simp [intOf]; omega
              | true =>
                have HC1 := Lib.hid hy
                clear hy
                cases hl : L.contains z with
                | true =>
                  have HC2 := Lib.hid hl
                  clear hl
                  go_wp2_with fail
                  refine (has_n z IY.out HY.out (by omega) HC1.out).mono ?_
                  rintro e w' ⟨rfl, rfl⟩
                  go_wp2_with fail
                  refine (has_n z IL.out HN.out (by omega) HC2.out).mono ?_
                  rintro e w' ⟨rfl, rfl⟩
                  go_wp2
                  go_ret
                  exact ⟨rfl, HB8.out⟩
                | false =>
                  have HC2 := Lib.hid hl
                  clear hl
                  cases hm : L.contains z with
                  | true =>
                    have HC3 := Lib.hid hm
                    clear hm
                    go_wp2_with fail
                    refine (has_n z IY.out HY.out (by omega) HC1.out).mono ?_
                    rintro e w' ⟨rfl, rfl⟩
                    go_wp2_with fail
                    refine (has_n z IL.out HN.out (by omega) HC2.out).mono ?_
                    rintro e w' ⟨rfl, rfl⟩
                    go_wp2_with fail
                    refine (has_n z IL.out HN.out (by omega) HC3.out).mono ?_
                    rintro e w' ⟨rfl, rfl⟩
                    go_wp2
                    go_ret
                    exact ⟨rfl, HB8.out⟩
                  | false =>
                    have HC3 := Lib.hid hm
                    have HNN := Lib.hid (HNX.out (fun h => by rcases h.2 with h | h; · rw [HC2.out] at h; exact absurd h (by decide)
                                                              · rw [HC3.out] at h; exact absurd h (by decide)))
                    clear hm
                    go_wp2_with fail
                    refine (has_n z IY.out HY.out (by omega) HC1.out).mono ?_
                    rintro e w' ⟨rfl, rfl⟩
                    go_wp2_with fail
                    refine (has_n z IL.out HN.out (by omega) HC2.out).mono ?_
                    rintro e w' ⟨rfl, rfl⟩
                    go_wp2_with fail
                    refine (has_n z IL.out HN.out (by omega) HC3.out).mono ?_
                    rintro e w' ⟨rfl, rfl⟩
                    go_wp2
                    go_round
                    case rel => exact ⟨k + 1, by omega, by go_num, HNN.out⟩
                    case measure => simp [intOf]; omega
            · exfalso
              obtain ⟨z, hz, h1, h2⟩ := HNR.out.meet HJ.out HJ2.out
              have h9 := HRC.out
              rw [List.take_of_length_le (by rw [HX.out]; omega)] at h9
              exact h9 z hz ⟨h1, h2⟩

set_option maxRecDepth 100000 in
theorem lifted (os : Os) (started : os.Started) (H : Type) (enc : TypeId × Value → H) :
    ReturnsInHanded {} Try.checked os 4 .any (Rows.confMeetSpec.pre6 enc Try.prog Try.f4 Rows.confMeetRow.domain false) (Rows.confMeetSpec.post enc Try.prog Try.f4 false true false false) := by
  refine returnsInHanded_of_change (C := Try.checked) own started (by kernel_rfl) Try.func4
    (ChangeSpec.witness6 (enc := enc) (C := Try.checked) false ⟨#[], #[.int .i64 0, .int .i64 0, .int .i64 0, .int .i64 0], []⟩ 8 (by kernel_rfl) (by kernel_rfl) (by kernel_rfl) (by kernel_rfl)) ?_
  intro W base args ds gs before hval0 hW hcnd _
  have hval : ∀ (j : Nat) t v, Try.f4.params[j]? = some t → args[j]? = some v → Value.okWide Try.prog W .any base t v := hval0
  have hW' := hW
  obtain ⟨p, q, hA0, hV, rfl, hfz, hnd⟩ := hW
  have hA : DataW.TrodAll enc Try.prog W 0 (fun _ => true) true Try.f4.params.toList args.toList ds p := hA0
  have hA1 := hA
  rw [Try.params4] at hA hval
  obtain ⟨v0, vs0, d0, ds0, p0, q0, hargs, rfl, rfl, h0, r0⟩ := trodAll_cons hA
  obtain ⟨v1, vs1, d1, ds1, p1, q1, rfl, rfl, rfl, h1, r1⟩ := trodAll_cons r0
  obtain ⟨v2, vs2, d2, ds2, p2, q2, rfl, rfl, rfl, h2, r2⟩ := trodAll_cons r1
  obtain ⟨v3, vs3, d3, ds3, p3, q3, rfl, rfl, rfl, h3, r3⟩ := trodAll_cons r2
  obtain ⟨rfl, rfl, rfl⟩ := trodAll_nil r3
  obtain rfl : args = #[v0, v1, v2, v3] := by cases args; simp_all
  obtain ⟨rfl, rfl⟩ := trodVars_none hV
  obtain ⟨a0, rfl, rfl, rfl, w0⟩ := open_int Try.underlying3 (hval 0 3 v0 rfl rfl) h0
  obtain ⟨a1, rfl, rfl, rfl, w1⟩ := open_int Try.underlying3 (hval 1 3 v1 rfl rfl) h1
  obtain ⟨a2, rfl, rfl, rfl, w2⟩ := open_int Try.underlying3 (hval 2 3 v2 rfl rfl) h2
  obtain ⟨a3, rfl, rfl, rfl, w3⟩ := open_int Try.underlying3 (hval 3 3 v3 rfl rfl) h3
  clear hA0 hval0
  simp only [List.append_nil] at hW'
  try simp only [List.append_nil] at hA1
  refine (walk W a0 w0 a1 w1 a2 w2 a3 w3).mono fun e W' ⟨he, hg⟩ => ?_
  subst he
  exact ⟨_, rfl, law_end Try.laidOut (by kernel_rfl) hW' hA1 hg rfl rfl rfl (trodAll_mk1 (shut_bool Try.underlying4 _))⟩

theorem over : Rows.confMeetRow.holds Try.pinned (OpenSpec.ofChange Rows.confMeetSpec) :=
  OpenClaim.holds_of_wide 4 Try.f4 rfl rfl rfl rfl rfl rfl rfl ⟨rfl, rfl, rfl, rfl, rfl⟩ rfl rfl rfl rfl rfl (by kernel_rfl) Try.func4 (by kernel_rfl)
    (of_decide_eq_true (by kernel_rfl)) (by unfold Func.isWrapper; first | (rw [if_pos (by decide +kernel)]; kernel_rfl) | (rw [if_neg (by decide +kernel)]; exact ⟨rfl, rfl⟩))
    (fun os started H enc _ => lifted os started H enc)

/-- the statement -/
theorem proved : Rows.ConfMeetSaid := over
#print axioms proved
end Go.Proofs.Ytbiecoifeeikpaa.confMeet
