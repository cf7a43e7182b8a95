/-
  Frames one behind the other are told, up to the first that is none. There are no conditions; package crc's table is as the program's text lays it.
-/
import Derived.Test.YtmpdjioclalifaaDoorRows
import Derived.Test.YtmpdjioclalifaaDoorCards
import Derived.Test.YtmpdjioclalifaaDoorTie
import Derived.Test.YtmpdjioclalifaaDoorDoorKit
import Derived.SevenTiedAt
import Derived.Test.YtmpdjioclalifaaDoorL8Begun
import Derived.Test.YtmpdjioclalifaaDoorL4Cut
import Derived.Test.YtmpdjioclalifaaDoorReSeal
import Derived.Test.YtmpdjioclalifaaDoorL8Set
import Derived.Test.YtmpdjioclalifaaDoorL8Tells
import Derived.Test.YtmpdjioclalifaaDoorL8Open
import Derived.Test.YtmpdjioclalifaaDoorLawKit
import Derived.WalkKit
import Derived.ProofKit
import Derived.OpenShut
import Derived.ShutString
set_option linter.unusedSimpArgs false
set_option linter.unusedVariables false
namespace Go.Proofs.YtmpdjioclalifaaDoor.frameAll
open Go.ChangeShapes Go.WideShapes Go.ChangeAt Go.RowKit
open Go.ChangeMaps (open_string shut_string)
set_option linter.unusedVariables false

theorem own : ownKnob Tryd.prog.godebug = none := by kernel_rfl
/-- a kind made of any number -/
def kd (x : Int) : Nat := (1 + (x.tmod 255 + 255) % 255).toNat
theorem kd_is (x : Int) : ((kd x : Nat) : Int) = 1 + (x.tmod 255 + 255) % 255 ∧ 1 ≤ kd x ∧ kd x ≤ 255 := by
  unfold kd
  omega
/-- the frames that are made -/
def prs (L : List (List UInt8)) (K : List Int) : List (Nat × List UInt8) := ((L.zip K).take 10).map fun p => (kd p.2, p.1.take 100)
theorem prs_len (L : List (List UInt8)) (K : List Int) : (prs L K).length = min 10 (min L.length K.length) := by simp [prs]
theorem prs_at (L : List (List UInt8)) (K : List Int) (k : Nat) (h : k < (prs L K).length) (h1 : k < L.length) (h2 : k < K.length) : (prs L K)[k] = (kd K[k], L[k].take 100) := by simp [prs]
theorem prs_ok (L : List (List UInt8)) (K : List Int) : ∀ p ∈ prs L K, 1 ≤ p.1 ∧ p.1 ≤ 255 ∧ p.2.length ≤ 4000 := by
  intro p hp
  obtain ⟨q, _, rfl⟩ := List.mem_map.1 hp
  have := kd_is q.2
  refine ⟨this.2.1, this.2.2, ?_⟩
  simp only [List.length_take]; omega
theorem cat_len : ∀ (P : List (Nat × List UInt8)), (catB P).length ≤ 4007 * P.length
  | [] => Nat.le_refl _
  | p :: t => by
    have := cat_len t
    have := sealB_short (p.1 : Int) p.2
    unfold catB at *
    rw [List.flatMap_cons, List.length_append, List.length_cons]
    omega
theorem AllR.ex : ∀ (n : Nat) (l : List UInt8), l.length ≤ n → ∃ fs u, AllR l fs u
  | 0, l, h => ⟨[], 0, AllR.nil l (by have : l = [] := List.length_eq_zero_iff.1 (by omega); subst this; decide)⟩
  | n + 1, l, h => by
    obtain ⟨r, hr⟩ : ∃ r, openB l = r := ⟨_, rfl⟩
    obtain ⟨k, b, m, e⟩ := r
    by_cases he : e = 0
    · subst he
      have hg := openB_good hr
      obtain ⟨fs, u, h2⟩ := AllR.ex n (l.drop m) (by rw [List.length_drop]; omega)
      exact ⟨_, _, AllR.cons l k b m fs u hr h2⟩
    · exact ⟨[], 0, AllR.nil l (by rw [hr]; exact he)⟩
/-- what of the rest is a frame -/
theorem AllR.first {l : List UInt8} {fs : List (Nat × List UInt8)} {u k m e : Nat} {b : List UInt8} (h : AllR l fs u) (ho : openB l = (k, b, m, e)) : (e = 0 ∧ 0 < fs.length ∧ m ≤ u) ∨ (e ≠ 0 ∧ fs = [] ∧ u = 0) := by
  cases h with
  | nil _ h => rw [ho] at h; exact .inr ⟨h, rfl, rfl⟩
  | cons _ k' b' n' fs' u' h1 h2 =>
    rw [ho] at h1
    simp only [Prod.mk.injEq] at h1
    obtain ⟨_, _, rfl, rfl⟩ := h1
    exact .inl ⟨rfl, by simp, by omega⟩

set_option maxRecDepth 100000 in
set_option maxHeartbeats 8000000 in
theorem walk (w : World) (A0 : Option Addr) (c0 : Nat) (a0 : List (List UInt8)) (w0 : Btss w w.heap.size (.slice A0 a0.length c0) a0) (x0 : ∀ l ∈ a0, l.length ≤ maxLen) (A1 : Option Addr) (c1 : Nat) (a1 : List Int) (w1 : Ints w w.heap.size (.slice A1 a1.length c1) a1) (x1 : ∀ x ∈ a1, I64 x) (A2 : Option Addr) (c2 : Nat) (a2 : List UInt8) (w2 : Byt w w.heap.size (.slice A2 a2.length c2) a2) (x2 : a2.length ≤ maxLen) (hT : Tbl w) :
    Calls Tryd.prog 5 #[.slice A0 a0.length c0, .slice A1 a1.length c1, .slice A2 a2.length c2] w fun e w' => e = .returned (.bool true) ∧ Below w.heap.size w w' := by
  have HA0 := Lib.hid w0; have HF0 := Lib.hid x0; have HA1 := Lib.hid w1; have HF1 := Lib.hid x1; clear w0 x0 w1 x1
  have HA2 := Lib.hid w2; have HF2 := Lib.hid x2; clear w2 x2
  have HT := Lib.hid hT; clear hT
  go_enter Tryd.func5, Tryd.ntmps5
  go_wp2_with fail
  refine (begun8_any w HT.out).mono ?_
  rintro e w1 ⟨rfl, hb1⟩
  have HT1 := Lib.hid (tbl_keep HT.out hb1)
  clear HT
  have HL := Lib.hid (HA0.out.keep hb1 (Nat.le_refl _)); have HK := Lib.hid (HA1.out.keep hb1 (Nat.le_refl _)); have HR := Lib.hid (HA2.out.below hb1 (Nat.le_refl _))
  have hww := hb1.size
  have hT0 := tbl_lt HT1.out
  have HB1 := Lib.hid hb1
  have hpl := prs_len a0 a1
  obtain ⟨P, hP⟩ : ∃ P, prs a0 a1 = P := ⟨_, rfl⟩
  obtain ⟨N, hN⟩ : ∃ N, P.length = N := ⟨_, rfl⟩
  rw [hP, hN] at hpl
  have HP := Lib.hid hP; have HN := Lib.hid hN; have HPL := Lib.hid hpl
  have hN10 : N ≤ 10 := by omega
  clear hb1 hP hN hpl
  go_wp2_with fail
  go_loopw [8, 9, 10] (fun v n i wr => ∃ k : Nat, i = .int .i64 k ∧ n = .int .i64 k ∧ k ≤ N ∧ OwnB w1.heap.size v (catB (P.take k)) wr ∧ Below w1.heap.size w1 wr) (fun _ _ i _ => N - (intOf i).toNat)
  case atStart => exact ⟨0, rfl, rfl, Nat.zero_le _, ownB_nil _ _, Below.refl _ _⟩
  case round =>
    obtain ⟨k, rfl, rfl, hk, hown, hb⟩ := hrel
    obtain ⟨A, c, hv⟩ := own_slice hown
    obtain ⟨m, hm⟩ : ∃ m, (catB (P.take k)).length = m := ⟨_, rfl⟩
    rw [hm] at hv
    subst hv
    by_cases hkN : k < N
    · have hkl : k < a0.length := by have := HPL.out; omega
      have hkk : k < a1.length := by have := HPL.out; omega
      have hk10 : (k : Int) < 10 := by omega
      have hi1 : (k : Int) < a0.length := by omega
      have hi2 : (k : Int) < a1.length := by omega
      obtain ⟨g, o, Ak, ck, hA0, hg, hc0, hy0⟩ := (HL.out.keep hb hww).at_ k hkl
      subst hA0
      obtain ⟨g1, o1, hA1, hg1, hc1⟩ := (HK.out.keep hb hww).at_ k hkk
      subst hA1
      obtain ⟨x, hx⟩ : ∃ x, a1[k] = x := ⟨_, rfl⟩
      rw [hx] at hc1
      have hI := HF1.out a1[k] (List.getElem_mem ..)
      rw [hx] at hI
      obtain ⟨y, hy⟩ : ∃ y, a0[k] = y := ⟨_, rfl⟩
      rw [hy] at hc0 hy0
      obtain ⟨κ, hκ⟩ : ∃ κ, kd x = κ := ⟨_, rfl⟩
      have hkd := kd_is x
      rw [hκ] at hkd
      have hpk : P[k]? = some (κ, y.take 100) := by
        have h := prs_at a0 a1 k (by rw [HP.out, HN.out]; exact hkN) hkl hkk
        rw [hx, hy, hκ] at h
        rw [← HP.out, List.getElem?_eq_getElem (by rw [HP.out, HN.out]; exact hkN), h]
      have HPK := Lib.hid hpk; have HKD := Lib.hid hkd; have HY := Lib.hid hy0; have HO := Lib.hid hown; have HM := Lib.hid hm
      obtain ⟨q, hq⟩ : ∃ q, x.tmod 255 = q := ⟨_, rfl⟩
      have hq1 : -255 < q := by rw [← hq]; exact Int.lt_tmod_of_pos x (by decide)
      have hq2 : q < 255 := by rw [← hq]; exact Int.tmod_lt_of_pos x (by decide)
      rw [hq] at hkd
      have hI1 := hI.1; have hI2 := hI.2
      clear hpk hy0 hown hm hx hy hκ hI hkl hkk
      have hkq : 1 + q % 255 = (κ : Int) := by omega
      have HKQ := Lib.hid hkq
      clear hkq hkd
      go_wp2_with fail
      refine (short_any Ak y.length ck w.heap.size 100 y wr HY.out (by omega)).mono ?_
      rintro e wr' ⟨A3, c3, rfl, hby3, rfl⟩
      have hl3 : (y.take 100).length ≤ 100 := by rw [List.length_take]; omega
      obtain ⟨z, hz⟩ : ∃ z, y.take 100 = z := ⟨_, rfl⟩
      rw [hz] at hby3 hl3 HPK ⊢
      clear hz
      go_wp2_with fail
      rw [HKQ.out]
      refine (rseal_is (κ : Int) _ _ z _ wr hby3 (Nat.le_trans hww hb.size) (by omega) rfl).mono ?_
      rintro e w2 ⟨v2, rfl, ho2, hb2⟩
      have hown2 := HO.out.below hb2
      have hby2 := Byt.of_own ho2
      have hb2 : Below w1.heap.size w1 w2 := hb.trans (hb2.mono hb.size)
      have hss := sealB_short (κ : Int) z
      have hmm := cat_len (P.take k)
      clear ho2 hby3 hb HY HO
      go_wp2_with (at_builtin; refine wpList_append_byt_at rfl _ _ rfl w1.heap.size _ _ _ _ _ rfl hown2 rfl hby2 ?x1 hb2.size ?_)
      case x1 => rw [List.length_take] at hmm; omega
      intro v3 w3 hown3 hb3 _
      have hb3 : Below w1.heap.size w1 w3 := hb2.trans hb3
      have HO3 := Lib.hid hown3
      clear hown2 hby2 hb2 hown3 hss hmm
      go_wp2
      go_roundw
      case rel => exact ⟨k + 1, by go_num, by go_num, by omega, by
        have h := HO3.out
        rw [List.take_add_one, HPK.out]
        show OwnB w1.heap.size v3 (catB (P.take k ++ [(κ, z)])) w3
        rw [catB_snoc]; exact h, hb3⟩
      case measure => first | (simp [intOf]; omega) | (simp [intOf]; done)
    · have hkN2 : k = N := by omega
      have hcs : (a0.length : Int) ≤ k ∨ ((k : Int) < a0.length ∧ (a1.length : Int) ≤ k) ∨ ((k : Int) < a0.length ∧ (k : Int) < a1.length ∧ 10 ≤ (k : Int)) := by have := HPL.out; omega
      rw [List.take_of_length_le (by rw [HN.out]; omega)] at hown hm
      have hmm := cat_len P
      rw [hm, HN.out] at hmm
      obtain ⟨cb, hcb⟩ : ∃ cb, catB P = cb := ⟨_, rfl⟩
      rw [hcb] at hown hm
      have HCB := Lib.hid hcb
      have HR2 := Lib.hid (HR.out.below hb hww)
      have HT2 := Lib.hid (tbl_keep2 HT1.out hb hT0)
      have HO := Lib.hid hown
      have hm4 : m ≤ 100000 := by omega
      have HM := Lib.hid hm
      have hkn10 : (k : Int) ≤ 10 := by omega
      clear hown hm hmm hcb hk hkN
      rcases hcs with h1 | ⟨h1, h2⟩ | ⟨h1, h2, h3⟩
      all_goals
        go_wp2_with fail
        refine (short_any A2 a2.length c2 w.heap.size 20 a2 wr HR2.out (by omega)).mono ?_
        rintro e wr' ⟨A4, c4, rfl, hby4, rfl⟩
        have hl4 : (a2.take 20).length ≤ 20 := by rw [List.length_take]; omega
        obtain ⟨r, hr⟩ : ∃ r, a2.take 20 = r := ⟨_, rfl⟩
        rw [hr] at hby4 hl4 ⊢
        clear hr
        have hown := HO.out
        have hbs := hb.size
        go_wp2_with (at_builtin; refine wpList_append_byt_at rfl _ _ rfl w1.heap.size _ _ _ _ _ rfl hown rfl hby4 ?x1 hbs ?_)
        case x1 => have := HM.out; omega
        intro v5 w5 hown5 hb5 _
        have hb5 : Below w1.heap.size w1 w5 := hb.trans hb5
        have HO5 := Lib.hid hown5
        have HT5 := Lib.hid (tbl_keep2 HT1.out hb5 hT0)
        obtain ⟨A5, c5, hv5⟩ := own_slice hown5
        obtain ⟨M, hM⟩ : ∃ M, (cb ++ r).length = M := ⟨_, rfl⟩
        rw [hM] at hv5
        have hM2 : M = m + r.length := by rw [← hM, List.length_append, HM.out]
        subst hM2
        subst hv5
        clear hown hby4 hown5 HO HT2 HR2 hb hbs
        obtain ⟨fs, u, hfu⟩ := AllR.ex r.length r (Nat.le_refl _)
        have hcat := AllR.cat hfu P (by rw [← HP.out]; exact prs_ok a0 a1)
        rw [HCB.out, HM.out] at hcat
        have HCAT := Lib.hid hcat; have HFU := Lib.hid hfu
        clear hcat hfu
        go_wp2_with fail
        refine (fall_own _ _ (cb ++ r) _ HO5.out (by rw [hM]; omega) HT5.out).mono ?_
        rintro e w6 ⟨fs', u', v6, har, rfl, hf6, hb6⟩
        obtain ⟨rfl, rfl⟩ := har.two HCAT.out
        obtain ⟨A6, c6, hv6⟩ := hf6.slice
        have hlf : (P ++ fs).length = k + fs.length := by rw [List.length_append, HN.out, hkN2]
        rw [hlf] at hv6
        subst hv6
        have HF6 := Lib.hid hf6
        have HO6 := Lib.hid (HO5.out.below hb6)
        have hb6 : Below w1.heap.size w1 w6 := hb5.trans (hb6.mono hb5.size)
        have hlf2 : (k : Int) ≤ (k : Int) + fs.length := by omega
        clear har hf6 hb5 HT5 HO5 hlf hM
        have HT6 := Lib.hid (tbl_keep2 HT1.out hb6 hT0)
        subst hkN2
        go_wp2_with fail
        go_loopw [15] (fun i wr => ∃ j : Nat, i = .int .i64 j ∧ j ≤ k ∧ Below w6.heap.size w6 wr) (fun i _ => k - (intOf i).toNat)
        case atStart => exact ⟨0, rfl, Nat.zero_le _, Below.refl _ _⟩
        case round =>
          obtain ⟨j, rfl, hj, hb⟩ := hrel
          have hbq : Below w1.heap.size w1 wr := hb6.trans (hb.mono hb6.size)
          by_cases hjk : j < k
          · have hjl : j < a0.length := by have := HPL.out; omega
            have hjn : j < a1.length := by have := HPL.out; omega
            have hji : (j : Int) < k := by omega
            have hj1 : (j : Int) < a0.length := by omega
            have hj2 : (j : Int) < a1.length := by omega
            have hj3 : (j : Int) < (k : Int) + fs.length := by omega
            have hjP : j < P.length := by rw [HN.out]; exact hjk
            obtain ⟨g, o, Ak, ck, hA0, hg, hc0, hy0⟩ := (HL.out.keep hbq hww).at_ j hjl
            subst hA0
            obtain ⟨g1, o1, hA1, hg1, hc1⟩ := (HK.out.keep hbq hww).at_ j hjn
            subst hA1
            obtain ⟨gf, uf, hA6, hgf, hrf, hof⟩ := (HF6.out.below hb).at_ j (by rw [List.length_append]; omega)
            subst hA6
            have hpe : (P ++ fs)[j]'(by rw [List.length_append]; omega) = (kd a1[j], a0[j].take 100) := by
              rw [List.getElem_append_left hjP]
              have h := prs_at a0 a1 j (by rw [HP.out]; exact hjP) hjl hjn
              rw [← h]
              simp only [HP.out]
            rw [hpe] at hrf hof
            simp only at hrf hof
            obtain ⟨x, hx⟩ : ∃ x, a1[j] = x := ⟨_, rfl⟩
            obtain ⟨y, hy⟩ : ∃ y, a0[j] = y := ⟨_, rfl⟩
            have hI := HF1.out a1[j] (List.getElem_mem ..)
            rw [hx] at hc1 hrf hI
            rw [hy] at hc0 hy0 hof
            have hkd := kd_is x
            obtain ⟨κ, hκ⟩ : ∃ κ, kd x = κ := ⟨_, rfl⟩
            rw [hκ] at hkd hrf
            obtain ⟨z, hz⟩ : ∃ z, y.take 100 = z := ⟨_, rfl⟩
            rw [hz] at hof
            obtain ⟨q, hq⟩ : ∃ q, x.tmod 255 = q := ⟨_, rfl⟩
            have hq1 : -255 < q := by rw [← hq]; exact Int.lt_tmod_of_pos x (by decide)
            have hq2 : q < 255 := by rw [← hq]; exact Int.tmod_lt_of_pos x (by decide)
            rw [hq] at hkd
            have hkq : 1 + q % 255 = (κ : Int) := by omega
            have hw1 : IntKind.i64.wrap (q + 255) = q + 255 := IntWalk.i64_in _ (by omega)
            have hw2 : (q + 255).tmod 255 = q % 255 := by rw [Int.tmod_eq_emod_of_nonneg (by omega)]; omega
            have hw3 : IntKind.i64.wrap (κ : Int) = (κ : Int) := IntWalk.i64_in _ (by omega)
            have hI1 := hI.1; have hI2 := hI.2
            obtain ⟨Au, cu, hu⟩ := own_slice hof
            subst hu
            have hcf0 : wr.cell? ⟨gf, j * 2, none⟩ = some (.int .i64 (κ : Nat)) := hrf 0 _ rfl
            have hcf1 : wr.cell? ⟨gf, j * 2 + 1, none⟩ = some (.slice Au z.length cu) := hrf 1 _ rfl
            obtain ⟨S, hS⟩ : ∃ S, (⟨z.toArray⟩ : ByteArray) = S := ⟨_, rfl⟩
            have HSE := Lib.hid hS; have HY := Lib.hid hy0; have HU := Lib.hid (Byt.of_own hof); have HZ := Lib.hid hz
            have hgw : g < wr.heap.size := by have := hbq.size; omega
            have hgw1 : g1 < wr.heap.size := by have := hbq.size; omega
            clear hpe hrf hof hx hy hI hκ hz hS hy0 hkd hjP hjl hjn
            have hbz := hb
            have hb : Below w.heap.size w wr := HB1.out.trans (hbq.mono HB1.out.size)
            have HBZ := Lib.hid hbz
            clear hbz hb6 hbq
            go_upto_region 20 with fail
            replace hcf0 : wr.drew.cell? ⟨gf, j * 2, none⟩ = some (.int .i64 ((κ : Nat) : Int)) := hcf0
            replace hcf1 : wr.drew.cell? ⟨gf, j * 2 + 1, none⟩ = some (.slice Au z.length cu) := hcf1
            replace hc0 : wr.drew.cell? ⟨g, o + j, none⟩ = some (.slice Ak y.length ck) := hc0
            replace hc1 : wr.drew.cell? ⟨g1, o1 + j, none⟩ = some (.int .i64 x) := hc1
            replace HY := Lib.hid ((HY.out).below ((Below.refl wr.heap.size wr).drew) (by have := hb.size; first | exact Nat.le_refl _ | exact hb.size | omega))
            replace HU := Lib.hid ((HU.out).below ((Below.refl wr.heap.size wr).drew) (by have := hb.size; first | exact Nat.le_refl _ | exact hb.size | omega))
            replace HBZ := Lib.hid ((HBZ.out).trans ((((Below.refl wr.heap.size wr).drew)).mono (HBZ.out).size))
            have m1 : (convert 22 9 (.slice Au z.length cu)).run Tryd.prog wr.drew = .ok (.string S) wr.drew := conv_byt HU.out HSE.out
            refine wp_region_noPanic ?_
            refine wp_region_held_drew (S := fun W => W.cell? ⟨gf, j * 2, none⟩ = some (.int .i64 ((κ : Nat) : Int)) ∧ W.cell? ⟨gf, j * 2 + 1, none⟩ = some (.slice Au z.length cu) ∧ W.cell? ⟨g, o + j, none⟩ = some (.slice Ak y.length ck) ∧ W.cell? ⟨g1, o1 + j, none⟩ = some (.int .i64 x) ∧ (convert 22 9 (.slice Au z.length cu)).run Tryd.prog W = .ok (.string S) W) (by kernel_rfl) ?_ (fun hHeld => ?_)
            · exact ⟨hcf0, hcf1, hc0, hc1, m1⟩
            replace hb : Below w.heap.size w wr.drew := hb.drew
            replace hgf : gf < wr.drew.heap.size := hgf
            replace hgw : g < wr.drew.heap.size := hgw
            replace hgw1 : g1 < wr.drew.heap.size := hgw1
            have hzd : wr.heap.size ≤ wr.drew.heap.size := Nat.le_refl _
            generalize wr.drew = k91 at *
            refine wpAnyH_take (i := 0) (oi := { dst := some 78, op := Op.move (Operand.tmp 13), type := 34, pos := "law.go:88", after := #[], guard := none }) (v := .slice (some ⟨gf, 0, none⟩) (k + fs.length) c6) rfl (by kernel_rfl) (by kernel_rfl) (by kernel_rfl) (fun _ _ _ h => h) (Or.inl ⟨by rfl, fun w hSw => ?_⟩) (by assumption) ?_
            · (try dsimp only at hSw)
              go_simp
            try simp only [Act.put, List.setIfInBounds_toArray, List.set_cons_zero, List.set_cons_succ]
            refine wpAnyH_take (i := 1) (oi := { dst := some 79, op := Op.move (Operand.tmp 15), type := 3, pos := "law.go:88", after := #[], guard := none }) (v := .int .i64 j) rfl (by kernel_rfl) (by kernel_rfl) (by kernel_rfl) (fun _ _ _ h => h) (Or.inl ⟨by rfl, fun w hSw => ?_⟩) (by assumption) ?_
            · (try dsimp only at hSw)
              go_simp
            try simp only [Act.put, List.setIfInBounds_toArray, List.set_cons_zero, List.set_cons_succ]
            refine wpAnyH_take (i := 2) (oi := { dst := some 80, op := Op.indexAddr 34 (Operand.tmp 78) (Operand.tmp 79), type := 0, pos := "law.go:88", after := #[{ on := 0, ground := Ground.data }, { on := 1, ground := Ground.data }], guard := none }) (v := .pointer (some ⟨gf, j * 2, none⟩)) rfl (by kernel_rfl) (by kernel_rfl) (by kernel_rfl) (fun _ _ _ h => h) (Or.inl ⟨by rfl, fun w hSw => ?_⟩) (by assumption) ?_
            · (try dsimp only at hSw)
              go_simp
            try simp only [Act.put, List.setIfInBounds_toArray, List.set_cons_zero, List.set_cons_succ]
            refine wpAnyH_take (i := 3) (oi := { dst := some 81, op := Op.fieldAddr 38 (Operand.tmp 80) 0, type := 0, pos := "law.go:88", after := #[{ on := 2, ground := Ground.data }], guard := none }) (v := .pointer (some ⟨gf, j * 2, none⟩)) rfl (by kernel_rfl) (by kernel_rfl) (by kernel_rfl) (fun _ _ _ h => h) (Or.inl ⟨by rfl, fun w hSw => ?_⟩) (by assumption) ?_
            · (try dsimp only at hSw)
              go_simp
            try simp only [Act.put, List.setIfInBounds_toArray, List.set_cons_zero, List.set_cons_succ]
            refine wpAnyH_take (i := 4) (oi := { dst := some 82, op := Op.load 3 (Operand.tmp 81), type := 3, pos := "law.go:88", after := #[{ on := 3, ground := Ground.data }], guard := none }) (v := .int .i64 ((κ : Nat) : Int)) rfl (by kernel_rfl) (by kernel_rfl) (by kernel_rfl) (fun _ _ _ h => h) (Or.inl ⟨by rfl, fun w hSw => ?_⟩) (by assumption) ?_
            · (try dsimp only at hSw)
              go_simp
            try simp only [Act.put, List.setIfInBounds_toArray, List.set_cons_zero, List.set_cons_succ]
            refine wpAnyH_take (i := 5) (oi := { dst := some 83, op := Op.move (Operand.tmp 1), type := 33, pos := "law.go:88", after := #[], guard := none }) (v := .slice (some ⟨g1, o1, none⟩) a1.length c1) rfl (by kernel_rfl) (by kernel_rfl) (by kernel_rfl) (fun _ _ _ h => h) (Or.inl ⟨by rfl, fun w hSw => ?_⟩) (by assumption) ?_
            · (try dsimp only at hSw)
              go_simp
            try simp only [Act.put, List.setIfInBounds_toArray, List.set_cons_zero, List.set_cons_succ]
            refine wpAnyH_take (i := 6) (oi := { dst := some 84, op := Op.move (Operand.tmp 15), type := 3, pos := "law.go:88", after := #[], guard := none }) (v := .int .i64 j) rfl (by kernel_rfl) (by kernel_rfl) (by kernel_rfl) (fun _ _ _ h => h) (Or.inl ⟨by rfl, fun w hSw => ?_⟩) (by assumption) ?_
            · (try dsimp only at hSw)
              go_simp
            try simp only [Act.put, List.setIfInBounds_toArray, List.set_cons_zero, List.set_cons_succ]
            refine wpAnyH_take (i := 7) (oi := { dst := some 85, op := Op.indexAddr 33 (Operand.tmp 83) (Operand.tmp 84), type := 0, pos := "law.go:88", after := #[{ on := 5, ground := Ground.data }, { on := 6, ground := Ground.data }], guard := none }) (v := .pointer (some ⟨g1, o1 + j, none⟩)) rfl (by kernel_rfl) (by kernel_rfl) (by kernel_rfl) (fun _ _ _ h => h) (Or.inl ⟨by rfl, fun w hSw => ?_⟩) (by assumption) ?_
            · (try dsimp only at hSw)
              go_simp
            try simp only [Act.put, List.setIfInBounds_toArray, List.set_cons_zero, List.set_cons_succ]
            refine wpAnyH_take (i := 8) (oi := { dst := some 86, op := Op.load 3 (Operand.tmp 85), type := 3, pos := "law.go:88", after := #[{ on := 7, ground := Ground.data }], guard := none }) (v := .int .i64 x) rfl (by kernel_rfl) (by kernel_rfl) (by kernel_rfl) (fun _ _ _ h => h) (Or.inl ⟨by rfl, fun w hSw => ?_⟩) (by assumption) ?_
            · (try dsimp only at hSw)
              go_simp
            try simp only [Act.put, List.setIfInBounds_toArray, List.set_cons_zero, List.set_cons_succ]
            refine wpAnyH_take (i := 9) (oi := { dst := some 87, op := Op.binOp BinOp.rem 3 (Operand.tmp 86) (Operand.const (Value.int IntKind.i64 255)) 3, type := 3, pos := "law.go:88", after := #[{ on := 8, ground := Ground.data }], guard := none }) (v := .int .i64 q) rfl (by kernel_rfl) (by kernel_rfl) (by kernel_rfl) (fun _ _ _ h => h) (Or.inl ⟨by rfl, fun w hSw => ?_⟩) (by assumption) ?_
            · (try dsimp only at hSw)
              go_simp
            try simp only [Act.put, List.setIfInBounds_toArray, List.set_cons_zero, List.set_cons_succ]
            refine wpAnyH_take (i := 10) (oi := { dst := some 88, op := Op.binOp BinOp.add 3 (Operand.tmp 87) (Operand.const (Value.int IntKind.i64 255)) 3, type := 3, pos := "law.go:88", after := #[{ on := 9, ground := Ground.data }], guard := none }) (v := .int .i64 (q + 255)) rfl (by kernel_rfl) (by kernel_rfl) (by kernel_rfl) (fun _ _ _ h => h) (Or.inl ⟨by rfl, fun w hSw => ?_⟩) (by assumption) ?_
            · (try dsimp only at hSw)
              go_simp
            try simp only [Act.put, List.setIfInBounds_toArray, List.set_cons_zero, List.set_cons_succ]
            refine wpAnyH_take (i := 11) (oi := { dst := some 89, op := Op.binOp BinOp.rem 3 (Operand.tmp 88) (Operand.const (Value.int IntKind.i64 255)) 3, type := 3, pos := "law.go:88", after := #[{ on := 10, ground := Ground.data }], guard := none }) (v := .int .i64 (q % 255)) rfl (by kernel_rfl) (by kernel_rfl) (by kernel_rfl) (fun _ _ _ h => h) (Or.inl ⟨by rfl, fun w hSw => ?_⟩) (by assumption) ?_
            · (try dsimp only at hSw)
              go_simp
            try simp only [Act.put, List.setIfInBounds_toArray, List.set_cons_zero, List.set_cons_succ]
            refine wpAnyH_take (i := 12) (oi := { dst := some 90, op := Op.binOp BinOp.add 3 (Operand.const (Value.int IntKind.i64 1)) (Operand.tmp 89) 3, type := 3, pos := "law.go:88", after := #[{ on := 11, ground := Ground.data }], guard := none }) (v := .int .i64 ((κ : Nat) : Int)) rfl (by kernel_rfl) (by kernel_rfl) (by kernel_rfl) (fun _ _ _ h => h) (Or.inl ⟨by rfl, fun w hSw => ?_⟩) (by assumption) ?_
            · (try dsimp only at hSw)
              go_simp
            try simp only [Act.put, List.setIfInBounds_toArray, List.set_cons_zero, List.set_cons_succ]
            refine wpAnyH_take (i := 13) (oi := { dst := some 91, op := Op.binOp BinOp.neq 3 (Operand.tmp 82) (Operand.tmp 90) 3, type := 4, pos := "law.go:88", after := #[{ on := 4, ground := Ground.data }, { on := 12, ground := Ground.data }], guard := none }) (v := .bool false) rfl (by kernel_rfl) (by kernel_rfl) (by kernel_rfl) (fun _ _ _ h => h) (Or.inl ⟨by rfl, fun w hSw => ?_⟩) (by assumption) ?_
            · (try dsimp only at hSw)
              go_simp
            try simp only [Act.put, List.setIfInBounds_toArray, List.set_cons_zero, List.set_cons_succ]
            refine wpAnyH_take (i := 14) (oi := { dst := some 92, op := Op.move (Operand.tmp 91), type := 4, pos := "law.go:88", after := #[{ on := 13, ground := Ground.data }], guard := none }) (v := .bool false) rfl (by kernel_rfl) (by kernel_rfl) (by kernel_rfl) (fun _ _ _ h => h) (Or.inl ⟨by rfl, fun w hSw => ?_⟩) (by assumption) ?_
            · (try dsimp only at hSw)
              go_simp
            try simp only [Act.put, List.setIfInBounds_toArray, List.set_cons_zero, List.set_cons_succ]
            refine wpAnyH_take (i := 15) (oi := { dst := some 93, op := Op.move (Operand.tmp 13), type := 34, pos := "law.go:88", after := #[{ on := 14, ground := Ground.guard }], guard := some (14, false) }) (v := .slice (some ⟨gf, 0, none⟩) (k + fs.length) c6) rfl (by kernel_rfl) (by kernel_rfl) (by kernel_rfl) (fun _ _ _ h => h) (Or.inl ⟨by rfl, fun w hSw => ?_⟩) (by assumption) ?_
            · (try dsimp only at hSw)
              go_simp
            try simp only [Act.put, List.setIfInBounds_toArray, List.set_cons_zero, List.set_cons_succ]
            refine wpAnyH_take (i := 16) (oi := { dst := some 94, op := Op.move (Operand.tmp 15), type := 3, pos := "law.go:88", after := #[{ on := 14, ground := Ground.guard }], guard := some (14, false) }) (v := .int .i64 j) rfl (by kernel_rfl) (by kernel_rfl) (by kernel_rfl) (fun _ _ _ h => h) (Or.inl ⟨by rfl, fun w hSw => ?_⟩) (by assumption) ?_
            · (try dsimp only at hSw)
              go_simp
            try simp only [Act.put, List.setIfInBounds_toArray, List.set_cons_zero, List.set_cons_succ]
            refine wpAnyH_take (i := 17) (oi := { dst := some 95, op := Op.indexAddr 34 (Operand.tmp 93) (Operand.tmp 94), type := 0, pos := "law.go:88", after := #[{ on := 15, ground := Ground.data }, { on := 16, ground := Ground.data }, { on := 14, ground := Ground.guard }], guard := some (14, false) }) (v := .pointer (some ⟨gf, j * 2, none⟩)) rfl (by kernel_rfl) (by kernel_rfl) (by kernel_rfl) (fun _ _ _ h => h) (Or.inl ⟨by rfl, fun w hSw => ?_⟩) (by assumption) ?_
            · (try dsimp only at hSw)
              go_simp
            try simp only [Act.put, List.setIfInBounds_toArray, List.set_cons_zero, List.set_cons_succ]
            refine wpAnyH_take (i := 18) (oi := { dst := some 96, op := Op.fieldAddr 38 (Operand.tmp 95) 1, type := 0, pos := "law.go:88", after := #[{ on := 17, ground := Ground.data }, { on := 14, ground := Ground.guard }], guard := some (14, false) }) (v := .pointer (some ⟨gf, j * 2 + 1, none⟩)) rfl (by kernel_rfl) (by kernel_rfl) (by kernel_rfl) (fun _ _ _ h => h) (Or.inl ⟨by rfl, fun w hSw => ?_⟩) (by assumption) ?_
            · (try dsimp only at hSw)
              go_simp
            try simp only [Act.put, List.setIfInBounds_toArray, List.set_cons_zero, List.set_cons_succ]
            refine wpAnyH_take (i := 19) (oi := { dst := some 97, op := Op.load 22 (Operand.tmp 96), type := 22, pos := "law.go:88", after := #[{ on := 18, ground := Ground.data }, { on := 14, ground := Ground.guard }], guard := some (14, false) }) (v := .slice Au z.length cu) rfl (by kernel_rfl) (by kernel_rfl) (by kernel_rfl) (fun _ _ _ h => h) (Or.inl ⟨by rfl, fun w hSw => ?_⟩) (by assumption) ?_
            · (try dsimp only at hSw)
              go_simp
            try simp only [Act.put, List.setIfInBounds_toArray, List.set_cons_zero, List.set_cons_succ]
            refine wpAnyH_take (i := 20) (oi := { dst := some 98, op := Op.convert 22 9 (Operand.tmp 97), type := 9, pos := "law.go:88", after := #[{ on := 19, ground := Ground.data }, { on := 14, ground := Ground.guard }], guard := some (14, false) }) (v := .string S) rfl (by kernel_rfl) (by kernel_rfl) (by kernel_rfl) (fun _ _ _ h => h) (Or.inl ⟨by rfl, fun w hSw => ?_⟩) (by assumption) ?_
            · (try dsimp only at hSw)
              go_simp
            try simp only [Act.put, List.setIfInBounds_toArray, List.set_cons_zero, List.set_cons_succ]
            refine wpAnyH_take (i := 21) (oi := { dst := some 99, op := Op.move (Operand.tmp 0), type := 32, pos := "law.go:88", after := #[{ on := 14, ground := Ground.guard }], guard := some (14, false) }) (v := .slice (some ⟨g, o, none⟩) a0.length c0) rfl (by kernel_rfl) (by kernel_rfl) (by kernel_rfl) (fun _ _ _ h => h) (Or.inl ⟨by rfl, fun w hSw => ?_⟩) (by assumption) ?_
            · (try dsimp only at hSw)
              go_simp
            try simp only [Act.put, List.setIfInBounds_toArray, List.set_cons_zero, List.set_cons_succ]
            refine wpAnyH_take (i := 22) (oi := { dst := some 100, op := Op.move (Operand.tmp 15), type := 3, pos := "law.go:88", after := #[{ on := 14, ground := Ground.guard }], guard := some (14, false) }) (v := .int .i64 j) rfl (by kernel_rfl) (by kernel_rfl) (by kernel_rfl) (fun _ _ _ h => h) (Or.inl ⟨by rfl, fun w hSw => ?_⟩) (by assumption) ?_
            · (try dsimp only at hSw)
              go_simp
            try simp only [Act.put, List.setIfInBounds_toArray, List.set_cons_zero, List.set_cons_succ]
            refine wpAnyH_take (i := 23) (oi := { dst := some 101, op := Op.indexAddr 32 (Operand.tmp 99) (Operand.tmp 100), type := 0, pos := "law.go:88", after := #[{ on := 21, ground := Ground.data }, { on := 22, ground := Ground.data }, { on := 14, ground := Ground.guard }], guard := some (14, false) }) (v := .pointer (some ⟨g, o + j, none⟩)) rfl (by kernel_rfl) (by kernel_rfl) (by kernel_rfl) (fun _ _ _ h => h) (Or.inl ⟨by rfl, fun w hSw => ?_⟩) (by assumption) ?_
            · (try dsimp only at hSw)
              go_simp
            try simp only [Act.put, List.setIfInBounds_toArray, List.set_cons_zero, List.set_cons_succ]
            refine wpAnyH_take (i := 24) (oi := { dst := some 102, op := Op.load 22 (Operand.tmp 101), type := 22, pos := "law.go:88", after := #[{ on := 23, ground := Ground.data }, { on := 14, ground := Ground.guard }], guard := some (14, false) }) (v := .slice Ak y.length ck) rfl (by kernel_rfl) (by kernel_rfl) (by kernel_rfl) (fun _ _ _ h => h) (Or.inl ⟨by rfl, fun w hSw => ?_⟩) (by assumption) ?_
            · (try dsimp only at hSw)
              go_simp
            try simp only [Act.put, List.setIfInBounds_toArray, List.set_cons_zero, List.set_cons_succ]
            refine wpAnyH_ready (rs := [25]) (by kernel_rfl) (by simp) ?_
            refine AllReadyH.cons (o := { dst := some 103, op := Op.call { callee := Callee.value (Operand.func 10), args := #[Operand.tmp 102, Operand.const (Value.int IntKind.i64 100)], argTypes := #[22, 3] }, type := 22, pos := "law.go:88", after := #[{ on := 24, ground := Ground.data }, { on := 14, ground := Ground.chain }, { on := 14, ground := Ground.guard }], guard := some (14, false) }) rfl (fun K hK => ?_) (AllReadyH.nil)
            go_simp
            go_at_call 10
            refine (short_to Ak y.length ck w.heap.size 100 y z _ HY.out (by omega) HZ.out).mono ?_
            rintro e k92 ⟨A9, c9, rfl, hy9, h⟩
            have hk : Below k91.heap.size k91 k92 := by
              refine Below.trans ?_ (h.mono (by first | (simp; done) | (simp; omega) | omega))
              repeat' (first | with_reducible exact Below.refl _ _ | (with_reducible refine Below.alloc ?_ ?_ _) | (with_reducible refine Below.setCell ?_ ?_ _) | exact (by first | (simp; done) | (simp; omega) | omega))
            have hz := h.size
            try simp at hz
            replace hcf0 : k92.cell? ⟨gf, j * 2, none⟩ = some (.int .i64 ((κ : Nat) : Int)) := (hk.cell (p := ⟨gf, j * 2, none⟩) (by first | (simp; done) | (simp; omega) | omega)).trans hcf0
            replace hcf1 : k92.cell? ⟨gf, j * 2 + 1, none⟩ = some (.slice Au z.length cu) := (hk.cell (p := ⟨gf, j * 2 + 1, none⟩) (by first | (simp; done) | (simp; omega) | omega)).trans hcf1
            replace hc0 : k92.cell? ⟨g, o + j, none⟩ = some (.slice Ak y.length ck) := (hk.cell (p := ⟨g, o + j, none⟩) (by first | (simp; done) | (simp; omega) | omega)).trans hc0
            replace hc1 : k92.cell? ⟨g1, o1 + j, none⟩ = some (.int .i64 x) := (hk.cell (p := ⟨g1, o1 + j, none⟩) (by first | (simp; done) | (simp; omega) | omega)).trans hc1
            replace HY := Lib.hid ((HY.out).below hk (by have := hb.size; first | exact Nat.le_refl _ | exact hb.size | omega))
            replace HU := Lib.hid ((HU.out).below hk (by have := hb.size; first | exact Nat.le_refl _ | exact hb.size | omega))
            replace HBZ := Lib.hid ((HBZ.out).trans ((hk).mono (HBZ.out).size))
            replace hb : Below w.heap.size w k92 := hb.trans (hk.mono hb.size)
            have hgf : gf < k92.heap.size := (by first | (simp; done) | (simp; omega) | omega)
            have hgw : g < k92.heap.size := (by first | (simp; done) | (simp; omega) | omega)
            have hgw1 : g1 < k92.heap.size := (by first | (simp; done) | (simp; omega) | omega)
            have m3 := conv_byt hy9 HSE.out
            clear hy9
            clear h hk
            have m1 : (convert 22 9 (.slice Au z.length cu)).run Tryd.prog k92 = .ok (.string S) k92 := conv_byt HU.out HSE.out
            try dsimp only
            refine hK.out _ _ ?_ (fun hHeld => ?_)
            · exact ⟨hcf0, hcf1, hc0, hc1, m1⟩
            clear hK K
            try simp only [Act.put, List.setIfInBounds_toArray, List.set_cons_zero, List.set_cons_succ]
            refine wpAnyH_ready (rs := [26]) (by kernel_rfl) (by simp) ?_
            refine AllReadyH.cons (o := { dst := some 104, op := Op.convert 22 9 (Operand.tmp 103), type := 9, pos := "law.go:88", after := #[{ on := 25, ground := Ground.data }, { on := 14, ground := Ground.guard }], guard := some (14, false) }) rfl (fun K hK => ?_) (AllReadyH.nil)
            go_simp
            refine hK.out _ _ ?_ (fun hHeld => ?_)
            · exact ⟨hcf0, hcf1, hc0, hc1, m1⟩
            clear hK K
            try simp only [Act.put, List.setIfInBounds_toArray, List.set_cons_zero, List.set_cons_succ]
            refine wpAnyH_take (i := 27) (oi := { dst := some 105, op := Op.binOp BinOp.neq 9 (Operand.tmp 98) (Operand.tmp 104) 9, type := 4, pos := "law.go:88", after := #[{ on := 20, ground := Ground.data }, { on := 26, ground := Ground.data }, { on := 14, ground := Ground.guard }], guard := some (14, false) }) (v := .bool false) rfl (by kernel_rfl) (by kernel_rfl) (by kernel_rfl) (fun _ _ _ h => h) (Or.inl ⟨by rfl, fun w hSw => ?_⟩) (by assumption) ?_
            · (try dsimp only at hSw)
              go_simp
            try simp only [Act.put, List.setIfInBounds_toArray, List.set_cons_zero, List.set_cons_succ]
            refine wpAnyH_take (i := 28) (oi := { dst := some 106, op := Op.pick (Operand.tmp 92) (Operand.const (Value.bool true)) (Operand.tmp 105), type := 4, pos := "law.go:88", after := #[{ on := 14, ground := Ground.data }, { on := 27, ground := Ground.data }], guard := none }) (v := .bool false) rfl (by kernel_rfl) (by kernel_rfl) (by kernel_rfl) (fun _ _ _ h => h) (Or.inl ⟨by rfl, fun w hSw => ?_⟩) (by assumption) ?_
            · (try dsimp only at hSw)
              go_simp
            try simp only [Act.put, List.setIfInBounds_toArray, List.set_cons_zero, List.set_cons_succ]
            refine wpAnyH_done (by kernel_rfl) ?_ _
            refine NoPanic.normal ?_
            go_wp2
            go_roundw
            case rel => exact ⟨j + 1, by go_num, by omega, HBZ.out⟩
            case measure => first | (simp [intOf]; omega) | (simp [intOf]; done)
          · have hjk2 : j = k := by omega
            have hb9 : Below w.heap.size w wr := HB1.out.trans (hbq.mono HB1.out.size)
            have HOB := Lib.hid (HO6.out.below hb)
            obtain ⟨rr, hrr⟩ : ∃ rr, openB r = rr := ⟨_, rfl⟩
            obtain ⟨kk, bd, mm, ee⟩ := rr
            have hfst := AllR.first HFU.out hrr
            have HRR := Lib.hid hrr
            have hcap := (byt_len (Byt.of_own HOB.out)).2
            rw [List.length_append, HM.out] at hcap
            have hlenb : (cb ++ r).length = m + r.length := by rw [List.length_append, HM.out]
            clear hrr hj hjk hbq
            subst hjk2
            by_cases hcm : c5 = m
            · have hr0 : r = [] := List.length_eq_zero_iff.1 (by omega)
              have hbr : Byt wr wr.heap.size (.slice A5 0 0) r := by rw [hr0]; exact ⟨A5, 0, rfl, Nat.le_refl _, fun h => absurd h (by simp)⟩
              have HBR := Lib.hid hbr
              have hr00 : r.length = 0 := by rw [hr0]; rfl
              clear hbr hr0 hlenb
              go_wp2_with fail
              refine (ropen_is _ _ r (kk, bd, mm, ee) wr HBR.out (Nat.le_refl _) (by omega) HRR.out).mono ?_
              rintro e w7 ⟨v7, rfl, _, hb7⟩
              have hb : Below w.heap.size w w7 := hb9.trans (hb7.mono hb9.size)
              have hm5 : (m : Int) ≤ 100000 := by omega
              clear hb7 hb9 HBR hcap hcm hm4 hlf2
              try clear hr00
              by_cases he : ee = 0
              · subst he
                obtain ⟨hf1, hf2⟩ : 0 < fs.length ∧ mm ≤ u := by
                  rcases hfst with ⟨_, h1, h2⟩ | ⟨h, _⟩
                  · exact ⟨h1, h2⟩
                  · exact absurd rfl h
                have hi1 : (j : Int) < (j : Int) + fs.length := by omega
                have hi2 : (m : Int) + mm ≤ (m : Int) + u := by omega
                have hi3 : (mm : Int) ≤ 100 := by have := HFU.out.len.1; omega
                clear hfst hf1 hf2
                go_wp2
                go_ret
                exact ⟨rfl, hb⟩
              · obtain ⟨hf1, hf2⟩ : fs = [] ∧ u = 0 := by
                  rcases hfst with ⟨h, _⟩ | ⟨_, h1, h2⟩
                  · exact absurd h he
                  · exact ⟨h1, h2⟩
                have hee : ((ee : Int) == 0) = false := by rw [beq_eq_false_iff_ne]; omega
                have hee2 : ((ee : Int) != 0) = true := by rw [bne_iff_ne]; omega
                have hfl : fs.length = 0 := by rw [hf1]; rfl
                clear hfst hf1
                subst hf2
                go_wp2
                go_ret
                exact ⟨rfl, hb⟩
            · have hbr := byt_sub (i := m) (n := r.length) (l := cb ++ r) (A := A5) (c := c5) (by rw [hlenb]; exact Byt.of_own HOB.out) (by rw [hlenb]; exact Nat.le_refl _)
              rw [if_neg hcm] at hbr
              have hdt : ((cb ++ r).drop m).take r.length = r := by rw [← HM.out, List.drop_left, List.take_length]
              rw [hdt] at hbr
              have HBR := Lib.hid hbr
              clear hbr hdt hlenb
              go_wp2_with fail
              refine (ropen_is _ _ r (kk, bd, mm, ee) wr HBR.out (Nat.le_refl _) (by omega) HRR.out).mono ?_
              rintro e w7 ⟨v7, rfl, _, hb7⟩
              have hb : Below w.heap.size w w7 := hb9.trans (hb7.mono hb9.size)
              have hm5 : (m : Int) ≤ 100000 := by omega
              clear hb7 hb9 HBR hcap hcm hm4 hlf2
              try clear hr00
              by_cases he : ee = 0
              · subst he
                obtain ⟨hf1, hf2⟩ : 0 < fs.length ∧ mm ≤ u := by
                  rcases hfst with ⟨_, h1, h2⟩ | ⟨h, _⟩
                  · exact ⟨h1, h2⟩
                  · exact absurd rfl h
                have hi1 : (j : Int) < (j : Int) + fs.length := by omega
                have hi2 : (m : Int) + mm ≤ (m : Int) + u := by omega
                have hi3 : (mm : Int) ≤ 100 := by have := HFU.out.len.1; omega
                clear hfst hf1 hf2
                go_wp2
                go_ret
                exact ⟨rfl, hb⟩
              · obtain ⟨hf1, hf2⟩ : fs = [] ∧ u = 0 := by
                  rcases hfst with ⟨h, _⟩ | ⟨_, h1, h2⟩
                  · exact absurd h he
                  · exact ⟨h1, h2⟩
                have hee : ((ee : Int) == 0) = false := by rw [beq_eq_false_iff_ne]; omega
                have hee2 : ((ee : Int) != 0) = true := by rw [bne_iff_ne]; omega
                have hfl : fs.length = 0 := by rw [hf1]; rfl
                clear hfst hf1
                subst hf2
                go_wp2
                go_ret
                exact ⟨rfl, hb⟩

set_option maxRecDepth 100000 in
theorem lifted (os : Os) (started : os.Started) (H : Type) (enc : TypeId × Value → H) :
    ReturnsInHanded {} Tryd.checked os 5 .any (fun w args => (Rows.frameAllSpec.pre enc Tryd.prog Tryd.f5 [] false w args ∧ laidMetH Tryd.prog laidS w) ∧ sizedMet enc Tryd.prog Tryd.f5 (OpenSpec.ofChange Rows.frameAllSpec) false w args) (Rows.frameAllSpec.post enc Tryd.prog Tryd.f5 false true false false) := by
  refine returnsInHanded_of_change_and (C := Tryd.checked) (X := fun w _ => laidMetH Tryd.prog laidS w) (fun _ _ _ hh h => h.of_heap hh) own started (by kernel_rfl) Tryd.func5
    (ChangeSpec.witness_at (enc := enc) (C := Tryd.checked) (os := os) (X := fun w _ => laidMetH Tryd.prog laidS w) false (laidWorld os) #[.slice none 0 0, .slice none 0 0, .slice none 0 0] 8 rfl (by kernel_rfl) (by kernel_rfl) (by kernel_rfl) (by kernel_rfl) (by kernel_rfl) (laid_met os _)) ?_
  intro W base args ds gs before hval0 hW hcnd _ hL _
  have hT := tbl_of_laid hL
  have hval : ∀ (j : Nat) t v, Tryd.f5.params[j]? = some t → args[j]? = some v → Value.okWide Tryd.prog W .any base t v := hval0
  have hW' := hW
  obtain ⟨p, q, hA0, hV, rfl, hfz, hnd⟩ := hW
  have hA : DataW.TrodAll enc Tryd.prog W 0 (fun _ => true) true Tryd.f5.params.toList args.toList ds p := hA0
  have hA1 := hA
  rw [Tryd.params5] at hA hval
  obtain ⟨v0, vs0, d0, ds0, p0, q0, hargs, rfl, rfl, h0, r0⟩ := trodAll_cons hA
  obtain ⟨v1, vs1, d1, ds1, p1, q1, rfl, rfl, rfl, h1, r1⟩ := trodAll_cons r0
  obtain ⟨v2, vs2, d2, ds2, p2, q2, rfl, rfl, rfl, h2, r2⟩ := trodAll_cons r1
  obtain ⟨rfl, rfl, rfl⟩ := trodAll_nil r2
  obtain rfl : args = #[v0, v1, v2] := by cases args; simp_all
  obtain ⟨rfl, rfl⟩ := trodVars_none hV
  obtain ⟨A0, c0, a0, rfl, w0, x0⟩ := open_btss (hval 0 32 v0 rfl rfl) h0
  obtain ⟨A1, c1, a1, rfl, w1, x1⟩ := open_ints7 (hval 1 33 v1 rfl rfl) h1
  obtain ⟨A2, c2, a2, rfl, w2, x2⟩ := open_bytes (hval 2 22 v2 rfl rfl) h2
  clear hA0 hval0
  simp only [List.append_nil] at hW'
  try simp only [List.append_nil] at hA1
  refine (walk W A0 c0 a0 w0 x0 A1 c1 a1 w1 x1 A2 c2 a2 w2 x2 hT).mono fun e W' ⟨he, hg⟩ => ?_
  subst he
  exact ⟨_, rfl, law_end Tryd.laidOut (by kernel_rfl) hW' hA1 hg rfl rfl rfl (trodAll_mk1 (shut_bool Tryd.underlying4 _))⟩

theorem over : Rows.frameAllRow.holds Tryd.pinned (OpenSpec.ofChange Rows.frameAllSpec) :=
  OpenClaim.holds_of_wide 5 Tryd.f5 rfl rfl rfl rfl rfl rfl rfl ⟨rfl, rfl, rfl, rfl, rfl⟩ rfl rfl rfl rfl rfl (by kernel_rfl) Tryd.func5 (by kernel_rfl)
    (of_decide_eq_true (by kernel_rfl)) (by unfold Func.isWrapper; first | (rw [if_pos (by decide +kernel)]; kernel_rfl) | (rw [if_neg (by decide +kernel)]; exact ⟨rfl, rfl⟩))
    (fun os started H enc _ => lifted os started H enc)


/-- the statement: the card, closed by the builder's one call -/
theorem proved : Rows.FrameAllCardSaid :=
  Claim7.holds_tied_plain_at .later [] [.data] true Rows.frameAllCard.stood.harness Rows.frameAllCard.stood.looks
    over (fun _ h => by cases h) (by kernel_rfl) (fun _ h => by cases h) frameAll_row_tie rfl ⟨rfl, rfl⟩ (by kernel_rfl) rfl
    (fun f fn hf hfn => by
      obtain rfl : f = 5 := Option.some.inj ((show Tryd.prog.funcNamed "packhorse/packhorselaw8.FrameAll" = some 5 by kernel_rfl).symm.trans hf) |>.symm
      obtain rfl : fn = Tryd.f5 := (Option.some.inj (Tryd.func5.symm.trans hfn)).symm
      refine ⟨by kernel_rfl, fun j t ht => ?_⟩
      have h := List.all_eq_true.1 (show (Tryd.f5.params.toList.all fun t => !Tryd.prog.wantsStandIn t) = true by kernel_rfl) t (List.mem_of_getElem? (by simpa using ht))
      exact (show Tryd.prog.wantsStandIn t = false by simpa using h))
    (by kernel_rfl)
#print axioms proved
end Go.Proofs.YtmpdjioclalifaaDoor.frameAll
