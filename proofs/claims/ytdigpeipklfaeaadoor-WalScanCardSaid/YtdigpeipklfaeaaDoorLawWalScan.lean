/-
  Records one behind the other are told, up to a torn tail, or what is spoilt (WalScan).
  There are no conditions.
-/
import Derived.Test.YtdigpeipklfaeaaDoorRows
import Derived.Test.YtdigpeipklfaeaaDoorCards
import Derived.Test.YtdigpeipklfaeaaDoorTie
import Derived.Test.YtdigpeipklfaeaaDoorBun1
import Derived.Test.YtdigpeipklfaeaaDoorBun4
import Derived.Test.YtdigpeipklfaeaaDoorBun7
import Derived.SevenTiedAt
import Derived.WalkKit
import Derived.ProofKit
import Derived.OpenShut
import Derived.ShutString
namespace Go.Proofs.YtdigpeipklfaeaaDoor.walScan
open Go.ChangeShapes Go.WideShapes Go.ChangeAt Go.RowKit
open Go.ChangeMaps (open_string shut_string)
set_option linter.unusedVariables false

theorem own : ownKnob Tryd.prog.godebug = none := by kernel_rfl
theorem rng_below10 {w w' : World} {g o : Nat} {cs : List Value} (h : w.rangeAt g o cs) (hb : Below w.heap.size w w') (hg : g < w.heap.size) : w'.rangeAt g o cs := fun j v hj => (hb.cell (p := ⟨g, _, none⟩) hg).trans (h j v hj)

set_option maxRecDepth 100000 in
set_option maxHeartbeats 20000000 in
theorem walk (w : World) (A0 : Option Addr) (c0 : Nat) (a0 : List Rcd) (w0 : Rcds w w.heap.size (.slice A0 a0.length c0) a0) (x0 : ∀ x ∈ a0, x.fit) (a1 : Int) (w1 : (Lit.int .i64 a1).wf = true) (a2 : Int) (w2 : (Lit.int .i64 a2).wf = true) (a3 : Int) (w3 : (Lit.int .u8 a3).wf = true) (A4 : Option Addr) (c4 : Nat) (a4 : List UInt8) (w4 : Byt w w.heap.size (.slice A4 a4.length c4) a4) (x4 : a4.length ≤ maxLen) (hT : Tbl w) :
    Calls Tryd.prog 4 #[.slice A0 a0.length c0, .int .i64 a1, .int .i64 a2, .int .u8 a3, .slice A4 a4.length c4] w fun e w' => e = .returned (.bool true) ∧ Below w.heap.size w w' := by
  have HA0 := Lib.hid w0; have HF0 := Lib.hid x0; have HW1 := Lib.hid w1; have HW2 := Lib.hid w2; have hw3 := bounds_u8 w3
  have HA4 := Lib.hid w4; have HF4 := Lib.hid x4
  clear w0 x0 w1 w2 w3 w4 x4
  obtain ⟨X, rfl⟩ : ∃ X : UInt8, a3 = (X.toNat : Int) := ⟨a3.toNat.toUInt8, by rw [Nu.u8n _ (by omega)]; omega⟩
  have hTT := fun (k : World) (h : Below w.heap.size w k) => tbl_keep hT h
  have HT := Lib.hid hT; clear hT
  go_enter Tryd.func4, Tryd.ntmps4
  go_wp2_with fail
  refine (begun10_any w HT.out).mono ?_
  rintro e w1 ⟨rfl, hb1⟩
  have HT1 := Lib.hid (tbl_keep HT.out hb1)
  have HB1 := Lib.hid hb1
  clear HT hb1
  have HL := Lib.hid (HA0.out.below HB1.out (Nat.le_refl _))
  have HR4 := Lib.hid (HA4.out.below HB1.out (Nat.le_refl _))
  have hww := HB1.out.size
  go_wp2_with fail
  go_loopw [12, 13] (fun v i wr => ∃ (k : Nat) (M : List UInt8), i = .int .i64 k ∧ k ≤ a0.length ∧ k ≤ 8 ∧ M.length ≤ 2607 * k ∧ OwnB w1.heap.size v M wr ∧ Below w1.heap.size w1 wr) (fun _ i _ => 8 - (intOf i).toNat)
  case atStart => exact ⟨0, [], rfl, Nat.zero_le _, Nat.zero_le _, by simp, ownB_nil _ _, Below.refl _ _⟩
  case round =>
    obtain ⟨k, M, rfl, hk, hk8, hml, hown, hb⟩ := hrel
    obtain ⟨A, c, hv⟩ := own_slice hown
    obtain ⟨m, hm⟩ : ∃ m, M.length = m := ⟨_, rfl⟩
    rw [hm] at hv hml
    subst hv
    have HM := Lib.hid hm; have HO := Lib.hid hown; have HBR := Lib.hid hb
    have hm9 : m ≤ 20856 := by omega
    clear hm hown hb
    by_cases hkn : k < a0.length ∧ k < 8
    · obtain ⟨hk1, hk2⟩ := hkn
      have hi1 : (k : Int) < a0.length := by omega
      have hi2 : (k : Int) < 8 := by omega
      obtain ⟨g, o, hA0, hg, hr⟩ := (HL.out.below HBR.out hww).at_ k hk1
      subst hA0
      obtain ⟨⟨hd, ht, hv, ⟨ix, et, kd, dt0⟩⟩, hrr⟩ : ∃ r, a0[k] = r := ⟨_, rfl⟩
      rw [hrr] at hr
      have y0 := hr 0 _ rfl
      have y1 := hr 1 _ rfl
      have y2 := hr 2 _ rfl
      have y3 := hr 3 _ rfl
      have y4 := hr 4 _ rfl
      have y5 := hr 5 _ rfl
      have y6 := hr 6 _ rfl
      rw [Nat.add_zero] at y0
      clear hr hrr
      go_wp2_with fail
      refine (cut10_any hd ht hv ix et kd dt0 _).mono ?_
      rintro e k2 ⟨rfl, h2⟩
      obtain ⟨dt, hdt⟩ : ∃ dt, cutS dt0 300 = dt := ⟨_, rfl⟩
      have hds : dt.size ≤ 300 := by rw [← hdt]; exact cutS_size _ _
      rw [hdt]
      have HB2 := Lib.hid (HBR.out.trans (h2.mono HBR.out.size))
      have HO2 := Lib.hid (HO.out.below h2)
      clear h2 hdt y0 y1 y2 y3 y4 y5 y6
      obtain ⟨mm, hmm⟩ : ∃ mm, encR10 ⟨hd, ht, hv, ⟨ix, et, kd, dt⟩⟩ = mm := ⟨_, rfl⟩
      have HMM := Lib.hid hmm
      have hms : mm.length ≤ 2607 := by rw [← hmm]; exact enc10_short _
      clear hmm
      go_wp2_with fail
      refine (renc_v hd ht hv ix et kd dt mm _ (by omega) HMM.out).mono ?_
      rintro e k3 ⟨v3, rfl, ho3, h3⟩
      have hown3 := HO2.out.below h3
      have HB3 := Lib.hid (HB2.out.trans (h3.mono HB2.out.size))
      have hby3 := Byt.of_own ho3
      have hbs := HB3.out.size
      clear h3 ho3
      go_wp2_with (at_builtin; refine wpList_append_byt_at rfl _ _ rfl w1.heap.size _ _ _ _ _ rfl hown3 rfl hby3 ?x1 hbs ?_)
      case x1 => have := HM.out; omega
      intro v4 w4 hown4 hb4 _
      have HO4 := Lib.hid hown4
      have HB4 := Lib.hid (HB3.out.trans hb4)
      clear hown4 hb4 hown3 hby3 hbs
      go_wp2
      go_roundw
      case rel => exact ⟨k + 1, _, by go_num, by omega, by omega, (by rw [List.length_append, HM.out]; omega), HO4.out, HB4.out⟩
      case measure => simp [intOf]; omega
    · have hcs : (a0.length : Int) ≤ k ∨ ((k : Int) < a0.length ∧ 8 ≤ (k : Int)) := by omega
      rcases hcs with h1 | ⟨h1, h2⟩
      all_goals
        have HBT := Lib.hid (HB1.out.trans (HBR.out.mono HB1.out.size))
        go_wp2_with fail
        refine (short_any A4 a4.length c4 w.heap.size 10 a4 wr (HR4.out.below HBR.out hww) (by omega)).mono ?_
        rintro e wr' ⟨A5, c5, rfl, hby5, rfl⟩
        have hl5 : (a4.take 10).length ≤ 10 := by rw [List.length_take]; omega
        obtain ⟨z, hz⟩ : ∃ z, a4.take 10 = z := ⟨_, rfl⟩
        rw [hz] at hby5 hl5 ⊢
        clear hz
        have hown := HO.out
        have hbs := HBR.out.size
        go_wp2_with (at_builtin; refine wpList_append_byt_at rfl _ _ rfl w1.heap.size _ _ _ _ _ rfl hown rfl hby5 ?x1 hbs ?_)
        case x1 => have := HM.out; omega
        intro v2 w3 hown2 hb2 _
        obtain ⟨A2, c2, hv2⟩ := own_slice hown2
        obtain ⟨n, hn⟩ : ∃ n, (M ++ z).length = n := ⟨_, rfl⟩
        obtain ⟨NN, hNN⟩ : ∃ NN, M ++ z = NN := ⟨_, rfl⟩
        have hn9 : n ≤ 21000 := by rw [← hn, List.length_append, HM.out]; omega
        rw [hn] at hv2
        subst hv2
        have hcap := (byt_len (Byt.of_own hown2)).2
        rw [hn] at hcap
        rw [hNN] at hown2 hn
        have HB3 := Lib.hid (HB1.out.trans ((HBR.out.trans hb2).mono HB1.out.size))
        have HO3 := Lib.hid hown2
        have HN := Lib.hid hn
        clear hown2 hn hNN hb2 hby5 hown hbs HO HM HBR HBT HL HR4 HB1
        by_cases hcu : 0 < a1 ∧ a1 ≤ n
        · obtain ⟨x, rfl⟩ : ∃ x : Nat, a1 = (x : Int) := ⟨a1.toNat, by omega⟩
          obtain ⟨hc1, hc2⟩ := hcu
          obtain ⟨p, hp⟩ : ∃ p, n - x = p := ⟨_, rfl⟩
          have hp2 : (n : Int) - x = (p : Int) := by omega
          have hp3 : p ≤ 21000 := by omega
          have hp4 : p ≤ c2 := by omega
          have hown := own_take10 HO3.out HN.out (j := p) (by omega)
          have hnp : (NN.take p).length = p := by rw [List.length_take, HN.out]; omega
          obtain ⟨NP, hNP⟩ : ∃ NP, NN.take p = NP := ⟨_, rfl⟩
          rw [hNP] at hown hnp
          have HOWN := Lib.hid hown; have HNP := Lib.hid hnp
          clear hown hnp hNP HO3 HN hp
          by_cases h0 : p = 0
          · subst h0
            have HOW := HOWN
            have HFL := HNP
            have HBW := HB3
            obtain ⟨F, hF⟩ : ∃ F, NP = F := ⟨_, rfl⟩
            rw [hF] at HOW HFL
            clear HOWN HNP HB3 hF
            go_wp2_with fail
            obtain ⟨L0, hL0⟩ : ∃ q, q = F.length := ⟨_, rfl⟩
            refine (Swscan_any _ _ F _ (Byt.of_own HOW.out) (Nat.le_refl _) (by rw [HFL.out]; omega) (hTT _ HBW.out) (own_nz HOW.out)).mono ?_
            rintro e w6 ⟨L, u, er, v6, hs, rfl, ho, h6⟩
            obtain ⟨A6, c6, rfl⟩ := ho.slice
            have HOW6 := Lib.hid (HOW.out.below h6)
            have HBW6 := Lib.hid (HBW.out.trans (h6.mono HBW.out.size))
            have HO6 := Lib.hid ho
            have HS := Lib.hid hs
            clear h6 ho hs HOW HBW
            go_wp2_with fail
            refine (Sqscan_any _ _ F _ (Byt.of_own HOW6.out) (Nat.le_refl _) (by rw [HFL.out]; omega) (own_nz HOW6.out)).mono ?_
            rintro e w7 ⟨L2, u2, er2, v7, hs2, rfl, ho2, h7⟩
            obtain ⟨rfl, rfl, rfl⟩ := ScR.two hs2 HS.out
            obtain ⟨A7, c7, rfl⟩ := ho2.slice
            have HO7 := Lib.hid (HO6.out.below h7)
            have HQ7 := Lib.hid ho2
            have HBW7 := Lib.hid (HBW6.out.trans (h7.mono HBW6.out.size))
            obtain ⟨bb, hbb⟩ : ∃ bb, (er2 == 2) = bb := ⟨_, rfl⟩
            rw [hbb]
            have hlen := HS.out.len
            obtain ⟨hl1, hl2, _⟩ := hlen
            rw [HFL.out] at hl1
            have hll : L2.length ≤ 30000 := by omega
            clear hbb hs2 ho2 h7 HO6 HOW6 HBW6 HS hl1 hl2 hL0
            go_wp2_with fail
            go_loopw [20] (fun i wr => ∃ k : Nat, i = .int .i64 k ∧ k ≤ L2.length ∧ Below w7.heap.size w7 wr) (fun i _ => L2.length - (intOf i).toNat)
            case atStart => exact ⟨0, rfl, Nat.zero_le _, Below.refl _ _⟩
            case round =>
              obtain ⟨k, rfl, hk, hbr⟩ := hrel
              by_cases hlt : k < L2.length
              · have hki : (k : Int) < L2.length := by omega
                obtain ⟨gm, hA6, _, hgm, _, _, hr⟩ := (HO7.out.below hbr).at_ k hlt
                obtain ⟨gp, hA7, _, hgp, _, _, hs⟩ := (HQ7.out.below hbr).at_ k hlt
                subst hA6; subst hA7
                obtain ⟨⟨hd, ht, hv, ⟨ix, et, kd, dt⟩⟩, hrr⟩ : ∃ r, L2[k] = r := ⟨_, rfl⟩
                rw [hrr] at hr hs
                clear hrr
                have HRR := Lib.hid hr; have HSS := Lib.hid hs; have HBR := Lib.hid hbr
                clear hr hs hbr
                go_upto_region 21 with fail
                have hr := HRR.out; have hs := HSS.out; have hbr := HBR.out
                clear HRR HSS HBR
                refine wp_region_noPanic ?_
                refine wp_region_held_drew (S := fun W => W.rangeAt gm (k * 7) (Rcd.cs ⟨hd, ht, hv, ⟨ix, et, kd, dt⟩⟩) ∧ W.rangeAt gp (k * 7) (Rcd.cs ⟨hd, ht, hv, ⟨ix, et, kd, dt⟩⟩)) (by kernel_rfl) ?_ (fun hHeld => ?_)
                · exact ⟨hr, hs⟩
                replace hr : wr.drew.rangeAt gm (k * 7) (Rcd.cs ⟨hd, ht, hv, ⟨ix, et, kd, dt⟩⟩) := hr
                replace hs : wr.drew.rangeAt gp (k * 7) (Rcd.cs ⟨hd, ht, hv, ⟨ix, et, kd, dt⟩⟩) := hs
                replace hgm : gm < wr.drew.heap.size := hgm
                replace hgp : gp < wr.drew.heap.size := hgp
                replace hbr : Below w7.heap.size w7 wr.drew := hbr.drew
                generalize wr.drew = wd at *
                refine wpAnyH_take (i := 0) (oi := { dst := some 110, op := Op.move (Operand.tmp 14), type := 45, pos := "law.go:80", after := #[], guard := none }) (v := .slice (some ⟨gm, 0, none⟩) L2.length c6) rfl (by kernel_rfl) (by kernel_rfl) (by kernel_rfl) (fun _ _ _ h => h) (Or.inl ⟨by rfl, fun w hSw => ?_⟩) (by assumption) ?_
                · (try dsimp only at hSw)
                  go_simp
                try simp only [Act.put, List.setIfInBounds_toArray, List.set_cons_zero, List.set_cons_succ]
                refine wpAnyH_take (i := 1) (oi := { dst := some 111, op := Op.move (Operand.tmp 20), type := 3, pos := "law.go:80", after := #[], guard := none }) (v := .int .i64 k) rfl (by kernel_rfl) (by kernel_rfl) (by kernel_rfl) (fun _ _ _ h => h) (Or.inl ⟨by rfl, fun w hSw => ?_⟩) (by assumption) ?_
                · (try dsimp only at hSw)
                  go_simp
                try simp only [Act.put, List.setIfInBounds_toArray, List.set_cons_zero, List.set_cons_succ]
                refine wpAnyH_take (i := 2) (oi := { dst := some 112, op := Op.indexAddr 45 (Operand.tmp 110) (Operand.tmp 111), type := 0, pos := "law.go:80", after := #[{ on := 0, ground := Ground.data }, { on := 1, ground := Ground.data }], guard := none }) (v := .pointer (some ⟨gm, k * 7, none⟩)) rfl (by kernel_rfl) (by kernel_rfl) (by kernel_rfl) (fun _ _ _ h => h) (Or.inl ⟨by rfl, fun w hSw => ?_⟩) (by assumption) ?_
                · (try dsimp only at hSw)
                  go_simp
                try simp only [Act.put, List.setIfInBounds_toArray, List.set_cons_zero, List.set_cons_succ]
                refine wpAnyH_take (i := 3) (oi := { dst := some 113, op := Op.load 32 (Operand.tmp 112), type := 32, pos := "law.go:80", after := #[{ on := 2, ground := Ground.data }], guard := none }) (v := .agg #[.bool hd, .int .i64 ht, .int .i64 hv, .int .i64 ix, .int .i64 et, .int .i64 kd, .string dt]) rfl (by kernel_rfl) (by kernel_rfl) (by kernel_rfl) (fun _ _ _ h => h) (Or.inl ⟨by rfl, fun w hSw => ?_⟩) (by assumption) ?_
                · (try dsimp only at hSw)
                  have q0 := hSw.1 0 _ rfl
                  have q1 := hSw.1 1 _ rfl
                  have q2 := hSw.1 2 _ rfl
                  have q3 := hSw.1 3 _ rfl
                  have q4 := hSw.1 4 _ rfl
                  have q5 := hSw.1 5 _ rfl
                  have q6 := hSw.1 6 _ rfl
                  rw [Nat.add_zero] at q0
                  clear hSw
                  go_simp
                try simp only [Act.put, List.setIfInBounds_toArray, List.set_cons_zero, List.set_cons_succ]
                refine wpAnyH_take (i := 5) (oi := { dst := some 115, op := Op.move (Operand.tmp 17), type := 43, pos := "law.go:80", after := #[], guard := none }) (v := .slice (some ⟨gp, 0, none⟩) L2.length c7) rfl (by kernel_rfl) (by kernel_rfl) (by kernel_rfl) (fun _ _ _ h => h) (Or.inl ⟨by rfl, fun w hSw => ?_⟩) (by assumption) ?_
                · (try dsimp only at hSw)
                  go_simp
                try simp only [Act.put, List.setIfInBounds_toArray, List.set_cons_zero, List.set_cons_succ]
                refine wpAnyH_take (i := 6) (oi := { dst := some 116, op := Op.move (Operand.tmp 20), type := 3, pos := "law.go:80", after := #[], guard := none }) (v := .int .i64 k) rfl (by kernel_rfl) (by kernel_rfl) (by kernel_rfl) (fun _ _ _ h => h) (Or.inl ⟨by rfl, fun w hSw => ?_⟩) (by assumption) ?_
                · (try dsimp only at hSw)
                  go_simp
                try simp only [Act.put, List.setIfInBounds_toArray, List.set_cons_zero, List.set_cons_succ]
                refine wpAnyH_take (i := 7) (oi := { dst := some 117, op := Op.indexAddr 43 (Operand.tmp 115) (Operand.tmp 116), type := 0, pos := "law.go:80", after := #[{ on := 5, ground := Ground.data }, { on := 6, ground := Ground.data }], guard := none }) (v := .pointer (some ⟨gp, k * 7, none⟩)) rfl (by kernel_rfl) (by kernel_rfl) (by kernel_rfl) (fun _ _ _ h => h) (Or.inl ⟨by rfl, fun w hSw => ?_⟩) (by assumption) ?_
                · (try dsimp only at hSw)
                  go_simp
                try simp only [Act.put, List.setIfInBounds_toArray, List.set_cons_zero, List.set_cons_succ]
                refine wpAnyH_take (i := 8) (oi := { dst := some 118, op := Op.load 27 (Operand.tmp 117), type := 27, pos := "law.go:80", after := #[{ on := 7, ground := Ground.data }], guard := none }) (v := .agg #[.bool hd, .int .i64 ht, .int .i64 hv, .int .i64 ix, .int .i64 et, .int .i64 kd, .string dt]) rfl (by kernel_rfl) (by kernel_rfl) (by kernel_rfl) (fun _ _ _ h => h) (Or.inl ⟨by rfl, fun w hSw => ?_⟩) (by assumption) ?_
                · (try dsimp only at hSw)
                  have q0 := hSw.2 0 _ rfl
                  have q1 := hSw.2 1 _ rfl
                  have q2 := hSw.2 2 _ rfl
                  have q3 := hSw.2 3 _ rfl
                  have q4 := hSw.2 4 _ rfl
                  have q5 := hSw.2 5 _ rfl
                  have q6 := hSw.2 6 _ rfl
                  rw [Nat.add_zero] at q0
                  clear hSw
                  go_simp
                try simp only [Act.put, List.setIfInBounds_toArray, List.set_cons_zero, List.set_cons_succ]
                refine wpAnyH_ready (rs := [4]) (by kernel_rfl) (by simp) ?_
                refine AllReadyH.cons (o := { dst := some 114, op := Op.call { callee := Callee.value (Operand.func 19), args := #[Operand.tmp 113], argTypes := #[32] }, type := 27, pos := "law.go:80", after := #[{ on := 3, ground := Ground.data }], guard := none }) rfl (fun K hK => ?_) AllReadyH.nil
                go_simp
                go_at_call 19
                refine (back10_any hd ht hv ix et kd dt _).mono ?_
                rintro e kq ⟨rfl, hq⟩
                replace hr := rng_below10 hr hq hgm
                replace hs := rng_below10 hs hq hgp
                replace hgm := Nat.lt_of_lt_of_le hgm hq.size
                replace hgp := Nat.lt_of_lt_of_le hgp hq.size
                replace hbr := hbr.trans (hq.mono hbr.size)
                clear hq
                refine hK.out _ _ ?_ (fun hHeld => ?_)
                · exact ⟨hr, hs⟩
                clear hK K
                try simp only [Act.put, List.setIfInBounds_toArray, List.set_cons_zero, List.set_cons_succ]
                refine wpAnyH_ready (rs := [9]) (by kernel_rfl) (by simp) ?_
                refine AllReadyH.cons (o := { dst := some 119, op := Op.call { callee := Callee.value (Operand.func 18), args := #[Operand.tmp 114, Operand.tmp 118], argTypes := #[27, 27] }, type := 4, pos := "law.go:80", after := #[{ on := 4, ground := Ground.data }, { on := 8, ground := Ground.data }, { on := 4, ground := Ground.chain }], guard := none }) rfl (fun K hK => ?_) AllReadyH.nil
                go_simp
                go_at_call 18
                refine (req10_any ⟨hd, ht, hv, ⟨ix, et, kd, dt⟩⟩ ⟨hd, ht, hv, ⟨ix, et, kd, dt⟩⟩ _).mono ?_
                rintro e kr ⟨rfl, hq⟩
                rw [eq10_self]
                replace hr := rng_below10 hr hq hgm
                replace hs := rng_below10 hs hq hgp
                replace hgm := Nat.lt_of_lt_of_le hgm hq.size
                replace hgp := Nat.lt_of_lt_of_le hgp hq.size
                replace hbr := hbr.trans (hq.mono hbr.size)
                clear hq
                refine hK.out _ _ ?_ (fun hHeld => ?_)
                · exact ⟨hr, hs⟩
                clear hK K
                try simp only [Act.put, List.setIfInBounds_toArray, List.set_cons_zero, List.set_cons_succ]
                refine wpAnyH_take (i := 10) (oi := { dst := some 120, op := Op.unOp UnOp.not 4 (Operand.tmp 119), type := 4, pos := "law.go:80", after := #[{ on := 9, ground := Ground.data }], guard := none }) (v := .bool false) rfl (by kernel_rfl) (by kernel_rfl) (by kernel_rfl) (fun _ _ _ h => h) (Or.inl ⟨by rfl, fun w hSw => ?_⟩) (by assumption) ?_
                · (try dsimp only at hSw)
                  go_simp
                try simp only [Act.put, List.setIfInBounds_toArray, List.set_cons_zero, List.set_cons_succ]
                refine wpAnyH_done (by kernel_rfl) ?_ _
                refine NoPanic.normal ?_
                clear hr hs hgm hgp hHeld
                have HBR := Lib.hid hbr
                clear hbr
                go_wp2
                go_roundw
                case rel => exact ⟨k + 1, by go_num, by omega, HBR.out⟩
                case measure => simp [intOf]; omega
              · have hge : (L2.length : Int) ≤ k := by omega
                clear hlt
                go_wp2_with fail
                go_ret
                exact ⟨rfl, HBW7.out.trans (hbr.mono HBW7.out.size)⟩
          · have hp0 : (0 : Int) < p := by omega
            by_cases h2 : a2 < 0
            · have HOW := HOWN
              have HFL := HNP
              have HBW := HB3
              obtain ⟨F, hF⟩ : ∃ F, NP = F := ⟨_, rfl⟩
              rw [hF] at HOW HFL
              clear HOWN HNP HB3 hF
              go_wp2_with fail
              obtain ⟨L0, hL0⟩ : ∃ q, q = F.length := ⟨_, rfl⟩
              refine (Swscan_any _ _ F _ (Byt.of_own HOW.out) (Nat.le_refl _) (by rw [HFL.out]; omega) (hTT _ HBW.out) (own_nz HOW.out)).mono ?_
              rintro e w6 ⟨L, u, er, v6, hs, rfl, ho, h6⟩
              obtain ⟨A6, c6, rfl⟩ := ho.slice
              have HOW6 := Lib.hid (HOW.out.below h6)
              have HBW6 := Lib.hid (HBW.out.trans (h6.mono HBW.out.size))
              have HO6 := Lib.hid ho
              have HS := Lib.hid hs
              clear h6 ho hs HOW HBW
              go_wp2_with fail
              refine (Sqscan_any _ _ F _ (Byt.of_own HOW6.out) (Nat.le_refl _) (by rw [HFL.out]; omega) (own_nz HOW6.out)).mono ?_
              rintro e w7 ⟨L2, u2, er2, v7, hs2, rfl, ho2, h7⟩
              obtain ⟨rfl, rfl, rfl⟩ := ScR.two hs2 HS.out
              obtain ⟨A7, c7, rfl⟩ := ho2.slice
              have HO7 := Lib.hid (HO6.out.below h7)
              have HQ7 := Lib.hid ho2
              have HBW7 := Lib.hid (HBW6.out.trans (h7.mono HBW6.out.size))
              obtain ⟨bb, hbb⟩ : ∃ bb, (er2 == 2) = bb := ⟨_, rfl⟩
              rw [hbb]
              have hlen := HS.out.len
              obtain ⟨hl1, hl2, _⟩ := hlen
              rw [HFL.out] at hl1
              have hll : L2.length ≤ 30000 := by omega
              clear hbb hs2 ho2 h7 HO6 HOW6 HBW6 HS hl1 hl2 hL0
              go_wp2_with fail
              go_loopw [20] (fun i wr => ∃ k : Nat, i = .int .i64 k ∧ k ≤ L2.length ∧ Below w7.heap.size w7 wr) (fun i _ => L2.length - (intOf i).toNat)
              case atStart => exact ⟨0, rfl, Nat.zero_le _, Below.refl _ _⟩
              case round =>
                obtain ⟨k, rfl, hk, hbr⟩ := hrel
                by_cases hlt : k < L2.length
                · have hki : (k : Int) < L2.length := by omega
                  obtain ⟨gm, hA6, _, hgm, _, _, hr⟩ := (HO7.out.below hbr).at_ k hlt
                  obtain ⟨gp, hA7, _, hgp, _, _, hs⟩ := (HQ7.out.below hbr).at_ k hlt
                  subst hA6; subst hA7
                  obtain ⟨⟨hd, ht, hv, ⟨ix, et, kd, dt⟩⟩, hrr⟩ : ∃ r, L2[k] = r := ⟨_, rfl⟩
                  rw [hrr] at hr hs
                  clear hrr
                  have HRR := Lib.hid hr; have HSS := Lib.hid hs; have HBR := Lib.hid hbr
                  clear hr hs hbr
                  go_upto_region 21 with fail
                  have hr := HRR.out; have hs := HSS.out; have hbr := HBR.out
                  clear HRR HSS HBR
                  refine wp_region_noPanic ?_
                  refine wp_region_held_drew (S := fun W => W.rangeAt gm (k * 7) (Rcd.cs ⟨hd, ht, hv, ⟨ix, et, kd, dt⟩⟩) ∧ W.rangeAt gp (k * 7) (Rcd.cs ⟨hd, ht, hv, ⟨ix, et, kd, dt⟩⟩)) (by kernel_rfl) ?_ (fun hHeld => ?_)
                  · exact ⟨hr, hs⟩
                  replace hr : wr.drew.rangeAt gm (k * 7) (Rcd.cs ⟨hd, ht, hv, ⟨ix, et, kd, dt⟩⟩) := hr
                  replace hs : wr.drew.rangeAt gp (k * 7) (Rcd.cs ⟨hd, ht, hv, ⟨ix, et, kd, dt⟩⟩) := hs
                  replace hgm : gm < wr.drew.heap.size := hgm
                  replace hgp : gp < wr.drew.heap.size := hgp
                  replace hbr : Below w7.heap.size w7 wr.drew := hbr.drew
                  generalize wr.drew = wd at *
                  refine wpAnyH_take (i := 0) (oi := { dst := some 110, op := Op.move (Operand.tmp 14), type := 45, pos := "law.go:80", after := #[], guard := none }) (v := .slice (some ⟨gm, 0, none⟩) L2.length c6) rfl (by kernel_rfl) (by kernel_rfl) (by kernel_rfl) (fun _ _ _ h => h) (Or.inl ⟨by rfl, fun w hSw => ?_⟩) (by assumption) ?_
                  · (try dsimp only at hSw)
                    go_simp
                  try simp only [Act.put, List.setIfInBounds_toArray, List.set_cons_zero, List.set_cons_succ]
                  refine wpAnyH_take (i := 1) (oi := { dst := some 111, op := Op.move (Operand.tmp 20), type := 3, pos := "law.go:80", after := #[], guard := none }) (v := .int .i64 k) rfl (by kernel_rfl) (by kernel_rfl) (by kernel_rfl) (fun _ _ _ h => h) (Or.inl ⟨by rfl, fun w hSw => ?_⟩) (by assumption) ?_
                  · (try dsimp only at hSw)
                    go_simp
                  try simp only [Act.put, List.setIfInBounds_toArray, List.set_cons_zero, List.set_cons_succ]
                  refine wpAnyH_take (i := 2) (oi := { dst := some 112, op := Op.indexAddr 45 (Operand.tmp 110) (Operand.tmp 111), type := 0, pos := "law.go:80", after := #[{ on := 0, ground := Ground.data }, { on := 1, ground := Ground.data }], guard := none }) (v := .pointer (some ⟨gm, k * 7, none⟩)) rfl (by kernel_rfl) (by kernel_rfl) (by kernel_rfl) (fun _ _ _ h => h) (Or.inl ⟨by rfl, fun w hSw => ?_⟩) (by assumption) ?_
                  · (try dsimp only at hSw)
                    go_simp
                  try simp only [Act.put, List.setIfInBounds_toArray, List.set_cons_zero, List.set_cons_succ]
                  refine wpAnyH_take (i := 3) (oi := { dst := some 113, op := Op.load 32 (Operand.tmp 112), type := 32, pos := "law.go:80", after := #[{ on := 2, ground := Ground.data }], guard := none }) (v := .agg #[.bool hd, .int .i64 ht, .int .i64 hv, .int .i64 ix, .int .i64 et, .int .i64 kd, .string dt]) rfl (by kernel_rfl) (by kernel_rfl) (by kernel_rfl) (fun _ _ _ h => h) (Or.inl ⟨by rfl, fun w hSw => ?_⟩) (by assumption) ?_
                  · (try dsimp only at hSw)
                    have q0 := hSw.1 0 _ rfl
                    have q1 := hSw.1 1 _ rfl
                    have q2 := hSw.1 2 _ rfl
                    have q3 := hSw.1 3 _ rfl
                    have q4 := hSw.1 4 _ rfl
                    have q5 := hSw.1 5 _ rfl
                    have q6 := hSw.1 6 _ rfl
                    rw [Nat.add_zero] at q0
                    clear hSw
                    go_simp
                  try simp only [Act.put, List.setIfInBounds_toArray, List.set_cons_zero, List.set_cons_succ]
                  refine wpAnyH_take (i := 5) (oi := { dst := some 115, op := Op.move (Operand.tmp 17), type := 43, pos := "law.go:80", after := #[], guard := none }) (v := .slice (some ⟨gp, 0, none⟩) L2.length c7) rfl (by kernel_rfl) (by kernel_rfl) (by kernel_rfl) (fun _ _ _ h => h) (Or.inl ⟨by rfl, fun w hSw => ?_⟩) (by assumption) ?_
                  · (try dsimp only at hSw)
                    go_simp
                  try simp only [Act.put, List.setIfInBounds_toArray, List.set_cons_zero, List.set_cons_succ]
                  refine wpAnyH_take (i := 6) (oi := { dst := some 116, op := Op.move (Operand.tmp 20), type := 3, pos := "law.go:80", after := #[], guard := none }) (v := .int .i64 k) rfl (by kernel_rfl) (by kernel_rfl) (by kernel_rfl) (fun _ _ _ h => h) (Or.inl ⟨by rfl, fun w hSw => ?_⟩) (by assumption) ?_
                  · (try dsimp only at hSw)
                    go_simp
                  try simp only [Act.put, List.setIfInBounds_toArray, List.set_cons_zero, List.set_cons_succ]
                  refine wpAnyH_take (i := 7) (oi := { dst := some 117, op := Op.indexAddr 43 (Operand.tmp 115) (Operand.tmp 116), type := 0, pos := "law.go:80", after := #[{ on := 5, ground := Ground.data }, { on := 6, ground := Ground.data }], guard := none }) (v := .pointer (some ⟨gp, k * 7, none⟩)) rfl (by kernel_rfl) (by kernel_rfl) (by kernel_rfl) (fun _ _ _ h => h) (Or.inl ⟨by rfl, fun w hSw => ?_⟩) (by assumption) ?_
                  · (try dsimp only at hSw)
                    go_simp
                  try simp only [Act.put, List.setIfInBounds_toArray, List.set_cons_zero, List.set_cons_succ]
                  refine wpAnyH_take (i := 8) (oi := { dst := some 118, op := Op.load 27 (Operand.tmp 117), type := 27, pos := "law.go:80", after := #[{ on := 7, ground := Ground.data }], guard := none }) (v := .agg #[.bool hd, .int .i64 ht, .int .i64 hv, .int .i64 ix, .int .i64 et, .int .i64 kd, .string dt]) rfl (by kernel_rfl) (by kernel_rfl) (by kernel_rfl) (fun _ _ _ h => h) (Or.inl ⟨by rfl, fun w hSw => ?_⟩) (by assumption) ?_
                  · (try dsimp only at hSw)
                    have q0 := hSw.2 0 _ rfl
                    have q1 := hSw.2 1 _ rfl
                    have q2 := hSw.2 2 _ rfl
                    have q3 := hSw.2 3 _ rfl
                    have q4 := hSw.2 4 _ rfl
                    have q5 := hSw.2 5 _ rfl
                    have q6 := hSw.2 6 _ rfl
                    rw [Nat.add_zero] at q0
                    clear hSw
                    go_simp
                  try simp only [Act.put, List.setIfInBounds_toArray, List.set_cons_zero, List.set_cons_succ]
                  refine wpAnyH_ready (rs := [4]) (by kernel_rfl) (by simp) ?_
                  refine AllReadyH.cons (o := { dst := some 114, op := Op.call { callee := Callee.value (Operand.func 19), args := #[Operand.tmp 113], argTypes := #[32] }, type := 27, pos := "law.go:80", after := #[{ on := 3, ground := Ground.data }], guard := none }) rfl (fun K hK => ?_) AllReadyH.nil
                  go_simp
                  go_at_call 19
                  refine (back10_any hd ht hv ix et kd dt _).mono ?_
                  rintro e kq ⟨rfl, hq⟩
                  replace hr := rng_below10 hr hq hgm
                  replace hs := rng_below10 hs hq hgp
                  replace hgm := Nat.lt_of_lt_of_le hgm hq.size
                  replace hgp := Nat.lt_of_lt_of_le hgp hq.size
                  replace hbr := hbr.trans (hq.mono hbr.size)
                  clear hq
                  refine hK.out _ _ ?_ (fun hHeld => ?_)
                  · exact ⟨hr, hs⟩
                  clear hK K
                  try simp only [Act.put, List.setIfInBounds_toArray, List.set_cons_zero, List.set_cons_succ]
                  refine wpAnyH_ready (rs := [9]) (by kernel_rfl) (by simp) ?_
                  refine AllReadyH.cons (o := { dst := some 119, op := Op.call { callee := Callee.value (Operand.func 18), args := #[Operand.tmp 114, Operand.tmp 118], argTypes := #[27, 27] }, type := 4, pos := "law.go:80", after := #[{ on := 4, ground := Ground.data }, { on := 8, ground := Ground.data }, { on := 4, ground := Ground.chain }], guard := none }) rfl (fun K hK => ?_) AllReadyH.nil
                  go_simp
                  go_at_call 18
                  refine (req10_any ⟨hd, ht, hv, ⟨ix, et, kd, dt⟩⟩ ⟨hd, ht, hv, ⟨ix, et, kd, dt⟩⟩ _).mono ?_
                  rintro e kr ⟨rfl, hq⟩
                  rw [eq10_self]
                  replace hr := rng_below10 hr hq hgm
                  replace hs := rng_below10 hs hq hgp
                  replace hgm := Nat.lt_of_lt_of_le hgm hq.size
                  replace hgp := Nat.lt_of_lt_of_le hgp hq.size
                  replace hbr := hbr.trans (hq.mono hbr.size)
                  clear hq
                  refine hK.out _ _ ?_ (fun hHeld => ?_)
                  · exact ⟨hr, hs⟩
                  clear hK K
                  try simp only [Act.put, List.setIfInBounds_toArray, List.set_cons_zero, List.set_cons_succ]
                  refine wpAnyH_take (i := 10) (oi := { dst := some 120, op := Op.unOp UnOp.not 4 (Operand.tmp 119), type := 4, pos := "law.go:80", after := #[{ on := 9, ground := Ground.data }], guard := none }) (v := .bool false) rfl (by kernel_rfl) (by kernel_rfl) (by kernel_rfl) (fun _ _ _ h => h) (Or.inl ⟨by rfl, fun w hSw => ?_⟩) (by assumption) ?_
                  · (try dsimp only at hSw)
                    go_simp
                  try simp only [Act.put, List.setIfInBounds_toArray, List.set_cons_zero, List.set_cons_succ]
                  refine wpAnyH_done (by kernel_rfl) ?_ _
                  refine NoPanic.normal ?_
                  clear hr hs hgm hgp hHeld
                  have HBR := Lib.hid hbr
                  clear hbr
                  go_wp2
                  go_roundw
                  case rel => exact ⟨k + 1, by go_num, by omega, HBR.out⟩
                  case measure => simp [intOf]; omega
                · have hge : (L2.length : Int) ≤ k := by omega
                  clear hlt
                  go_wp2_with fail
                  go_ret
                  exact ⟨rfl, HBW7.out.trans (hbr.mono HBW7.out.size)⟩
            · obtain ⟨j, hj⟩ : ∃ j : Nat, a2 % (p : Int) = (j : Int) := ⟨(a2 % (p : Int)).toNat, by have := Int.emod_nonneg a2 (show (p : Int) ≠ 0 by omega); omega⟩
              have hjl : j < p := by have := Int.emod_lt_of_pos a2 hp0; omega
              obtain ⟨g, hA, hlo, hhi, hfz, hcn⟩ := own_at10 HOWN.out HNP.out j hjl
              subst hA
              have hfj := hfz j
              obtain ⟨y0, hy0⟩ : ∃ y, NP[j]'(by rw [HNP.out]; exact hjl) = y := ⟨_, rfl⟩
              rw [hy0] at hcn
              obtain ⟨y, hy⟩ : ∃ y, y0 ^^^ X = y := ⟨_, rfl⟩
              have hxor : bits BinOp.xor IntKind.u8 (y0.toNat : Int) (X.toNat : Int) = (y.toNat : Int) := by rw [u8_xor, hy]
              have hset := own_set10 (y := y) HOWN.out HNP.out (by rw [HNP.out]; exact hjl)
              have hbs := HB3.out.setCell (p := ⟨g, j, none⟩) (Nat.le_trans hww hlo) (.int .u8 (y.toNat : Int))
              have HFL : Hid ((NP.set j y).length = p) := Lib.hid (by rw [List.length_set]; exact HNP.out)
              obtain ⟨F, hF⟩ : ∃ F, NP.set j y = F := ⟨_, rfl⟩
              rw [hF] at hset HFL
              have HOW := Lib.hid hset; have HBW := Lib.hid hbs
              obtain ⟨yn, hyn⟩ : ∃ yn : Nat, y.toNat = yn := ⟨_, rfl⟩
              obtain ⟨cn, hcn2⟩ : ∃ cn : Nat, y0.toNat = cn := ⟨_, rfl⟩
              obtain ⟨Xn, hXn⟩ : ∃ Xn : Nat, X.toNat = Xn := ⟨_, rfl⟩
              rw [hyn] at hxor HOW HBW
              rw [hcn2] at hxor hcn
              rw [hXn] at hxor ⊢
              clear hset hbs hF hyn hcn2 hXn hy hy0 hfz HOWN HNP HB3 hw3
              go_wp2_with fail
              obtain ⟨L0, hL0⟩ : ∃ q, q = F.length := ⟨_, rfl⟩
              refine (Swscan_any _ _ F _ (Byt.of_own HOW.out) (Nat.le_refl _) (by rw [HFL.out]; omega) (hTT _ HBW.out) (own_nz HOW.out)).mono ?_
              rintro e w6 ⟨L, u, er, v6, hs, rfl, ho, h6⟩
              obtain ⟨A6, c6, rfl⟩ := ho.slice
              have HOW6 := Lib.hid (HOW.out.below h6)
              have HBW6 := Lib.hid (HBW.out.trans (h6.mono HBW.out.size))
              have HO6 := Lib.hid ho
              have HS := Lib.hid hs
              clear h6 ho hs HOW HBW
              go_wp2_with fail
              refine (Sqscan_any _ _ F _ (Byt.of_own HOW6.out) (Nat.le_refl _) (by rw [HFL.out]; omega) (own_nz HOW6.out)).mono ?_
              rintro e w7 ⟨L2, u2, er2, v7, hs2, rfl, ho2, h7⟩
              obtain ⟨rfl, rfl, rfl⟩ := ScR.two hs2 HS.out
              obtain ⟨A7, c7, rfl⟩ := ho2.slice
              have HO7 := Lib.hid (HO6.out.below h7)
              have HQ7 := Lib.hid ho2
              have HBW7 := Lib.hid (HBW6.out.trans (h7.mono HBW6.out.size))
              obtain ⟨bb, hbb⟩ : ∃ bb, (er2 == 2) = bb := ⟨_, rfl⟩
              rw [hbb]
              have hlen := HS.out.len
              obtain ⟨hl1, hl2, _⟩ := hlen
              rw [HFL.out] at hl1
              have hll : L2.length ≤ 30000 := by omega
              clear hbb hs2 ho2 h7 HO6 HOW6 HBW6 HS hl1 hl2 hL0
              go_wp2_with fail
              go_loopw [20] (fun i wr => ∃ k : Nat, i = .int .i64 k ∧ k ≤ L2.length ∧ Below w7.heap.size w7 wr) (fun i _ => L2.length - (intOf i).toNat)
              case atStart => exact ⟨0, rfl, Nat.zero_le _, Below.refl _ _⟩
              case round =>
                obtain ⟨k, rfl, hk, hbr⟩ := hrel
                by_cases hlt : k < L2.length
                · have hki : (k : Int) < L2.length := by omega
                  obtain ⟨gm, hA6, _, hgm, _, _, hr⟩ := (HO7.out.below hbr).at_ k hlt
                  obtain ⟨gp, hA7, _, hgp, _, _, hs⟩ := (HQ7.out.below hbr).at_ k hlt
                  subst hA6; subst hA7
                  obtain ⟨⟨hd, ht, hv, ⟨ix, et, kd, dt⟩⟩, hrr⟩ : ∃ r, L2[k] = r := ⟨_, rfl⟩
                  rw [hrr] at hr hs
                  clear hrr
                  have HRR := Lib.hid hr; have HSS := Lib.hid hs; have HBR := Lib.hid hbr
                  clear hr hs hbr
                  go_upto_region 21 with fail
                  have hr := HRR.out; have hs := HSS.out; have hbr := HBR.out
                  clear HRR HSS HBR
                  refine wp_region_noPanic ?_
                  refine wp_region_held_drew (S := fun W => W.rangeAt gm (k * 7) (Rcd.cs ⟨hd, ht, hv, ⟨ix, et, kd, dt⟩⟩) ∧ W.rangeAt gp (k * 7) (Rcd.cs ⟨hd, ht, hv, ⟨ix, et, kd, dt⟩⟩)) (by kernel_rfl) ?_ (fun hHeld => ?_)
                  · exact ⟨hr, hs⟩
                  replace hr : wr.drew.rangeAt gm (k * 7) (Rcd.cs ⟨hd, ht, hv, ⟨ix, et, kd, dt⟩⟩) := hr
                  replace hs : wr.drew.rangeAt gp (k * 7) (Rcd.cs ⟨hd, ht, hv, ⟨ix, et, kd, dt⟩⟩) := hs
                  replace hgm : gm < wr.drew.heap.size := hgm
                  replace hgp : gp < wr.drew.heap.size := hgp
                  replace hbr : Below w7.heap.size w7 wr.drew := hbr.drew
                  generalize wr.drew = wd at *
                  refine wpAnyH_take (i := 0) (oi := { dst := some 110, op := Op.move (Operand.tmp 14), type := 45, pos := "law.go:80", after := #[], guard := none }) (v := .slice (some ⟨gm, 0, none⟩) L2.length c6) rfl (by kernel_rfl) (by kernel_rfl) (by kernel_rfl) (fun _ _ _ h => h) (Or.inl ⟨by rfl, fun w hSw => ?_⟩) (by assumption) ?_
                  · (try dsimp only at hSw)
                    go_simp
                  try simp only [Act.put, List.setIfInBounds_toArray, List.set_cons_zero, List.set_cons_succ]
                  refine wpAnyH_take (i := 1) (oi := { dst := some 111, op := Op.move (Operand.tmp 20), type := 3, pos := "law.go:80", after := #[], guard := none }) (v := .int .i64 k) rfl (by kernel_rfl) (by kernel_rfl) (by kernel_rfl) (fun _ _ _ h => h) (Or.inl ⟨by rfl, fun w hSw => ?_⟩) (by assumption) ?_
                  · (try dsimp only at hSw)
                    go_simp
                  try simp only [Act.put, List.setIfInBounds_toArray, List.set_cons_zero, List.set_cons_succ]
                  refine wpAnyH_take (i := 2) (oi := { dst := some 112, op := Op.indexAddr 45 (Operand.tmp 110) (Operand.tmp 111), type := 0, pos := "law.go:80", after := #[{ on := 0, ground := Ground.data }, { on := 1, ground := Ground.data }], guard := none }) (v := .pointer (some ⟨gm, k * 7, none⟩)) rfl (by kernel_rfl) (by kernel_rfl) (by kernel_rfl) (fun _ _ _ h => h) (Or.inl ⟨by rfl, fun w hSw => ?_⟩) (by assumption) ?_
                  · (try dsimp only at hSw)
                    go_simp
                  try simp only [Act.put, List.setIfInBounds_toArray, List.set_cons_zero, List.set_cons_succ]
                  refine wpAnyH_take (i := 3) (oi := { dst := some 113, op := Op.load 32 (Operand.tmp 112), type := 32, pos := "law.go:80", after := #[{ on := 2, ground := Ground.data }], guard := none }) (v := .agg #[.bool hd, .int .i64 ht, .int .i64 hv, .int .i64 ix, .int .i64 et, .int .i64 kd, .string dt]) rfl (by kernel_rfl) (by kernel_rfl) (by kernel_rfl) (fun _ _ _ h => h) (Or.inl ⟨by rfl, fun w hSw => ?_⟩) (by assumption) ?_
                  · (try dsimp only at hSw)
                    have q0 := hSw.1 0 _ rfl
                    have q1 := hSw.1 1 _ rfl
                    have q2 := hSw.1 2 _ rfl
                    have q3 := hSw.1 3 _ rfl
                    have q4 := hSw.1 4 _ rfl
                    have q5 := hSw.1 5 _ rfl
                    have q6 := hSw.1 6 _ rfl
                    rw [Nat.add_zero] at q0
                    clear hSw
                    go_simp
                  try simp only [Act.put, List.setIfInBounds_toArray, List.set_cons_zero, List.set_cons_succ]
                  refine wpAnyH_take (i := 5) (oi := { dst := some 115, op := Op.move (Operand.tmp 17), type := 43, pos := "law.go:80", after := #[], guard := none }) (v := .slice (some ⟨gp, 0, none⟩) L2.length c7) rfl (by kernel_rfl) (by kernel_rfl) (by kernel_rfl) (fun _ _ _ h => h) (Or.inl ⟨by rfl, fun w hSw => ?_⟩) (by assumption) ?_
                  · (try dsimp only at hSw)
                    go_simp
                  try simp only [Act.put, List.setIfInBounds_toArray, List.set_cons_zero, List.set_cons_succ]
                  refine wpAnyH_take (i := 6) (oi := { dst := some 116, op := Op.move (Operand.tmp 20), type := 3, pos := "law.go:80", after := #[], guard := none }) (v := .int .i64 k) rfl (by kernel_rfl) (by kernel_rfl) (by kernel_rfl) (fun _ _ _ h => h) (Or.inl ⟨by rfl, fun w hSw => ?_⟩) (by assumption) ?_
                  · (try dsimp only at hSw)
                    go_simp
                  try simp only [Act.put, List.setIfInBounds_toArray, List.set_cons_zero, List.set_cons_succ]
                  refine wpAnyH_take (i := 7) (oi := { dst := some 117, op := Op.indexAddr 43 (Operand.tmp 115) (Operand.tmp 116), type := 0, pos := "law.go:80", after := #[{ on := 5, ground := Ground.data }, { on := 6, ground := Ground.data }], guard := none }) (v := .pointer (some ⟨gp, k * 7, none⟩)) rfl (by kernel_rfl) (by kernel_rfl) (by kernel_rfl) (fun _ _ _ h => h) (Or.inl ⟨by rfl, fun w hSw => ?_⟩) (by assumption) ?_
                  · (try dsimp only at hSw)
                    go_simp
                  try simp only [Act.put, List.setIfInBounds_toArray, List.set_cons_zero, List.set_cons_succ]
                  refine wpAnyH_take (i := 8) (oi := { dst := some 118, op := Op.load 27 (Operand.tmp 117), type := 27, pos := "law.go:80", after := #[{ on := 7, ground := Ground.data }], guard := none }) (v := .agg #[.bool hd, .int .i64 ht, .int .i64 hv, .int .i64 ix, .int .i64 et, .int .i64 kd, .string dt]) rfl (by kernel_rfl) (by kernel_rfl) (by kernel_rfl) (fun _ _ _ h => h) (Or.inl ⟨by rfl, fun w hSw => ?_⟩) (by assumption) ?_
                  · (try dsimp only at hSw)
                    have q0 := hSw.2 0 _ rfl
                    have q1 := hSw.2 1 _ rfl
                    have q2 := hSw.2 2 _ rfl
                    have q3 := hSw.2 3 _ rfl
                    have q4 := hSw.2 4 _ rfl
                    have q5 := hSw.2 5 _ rfl
                    have q6 := hSw.2 6 _ rfl
                    rw [Nat.add_zero] at q0
                    clear hSw
                    go_simp
                  try simp only [Act.put, List.setIfInBounds_toArray, List.set_cons_zero, List.set_cons_succ]
                  refine wpAnyH_ready (rs := [4]) (by kernel_rfl) (by simp) ?_
                  refine AllReadyH.cons (o := { dst := some 114, op := Op.call { callee := Callee.value (Operand.func 19), args := #[Operand.tmp 113], argTypes := #[32] }, type := 27, pos := "law.go:80", after := #[{ on := 3, ground := Ground.data }], guard := none }) rfl (fun K hK => ?_) AllReadyH.nil
                  go_simp
                  go_at_call 19
                  refine (back10_any hd ht hv ix et kd dt _).mono ?_
                  rintro e kq ⟨rfl, hq⟩
                  replace hr := rng_below10 hr hq hgm
                  replace hs := rng_below10 hs hq hgp
                  replace hgm := Nat.lt_of_lt_of_le hgm hq.size
                  replace hgp := Nat.lt_of_lt_of_le hgp hq.size
                  replace hbr := hbr.trans (hq.mono hbr.size)
                  clear hq
                  refine hK.out _ _ ?_ (fun hHeld => ?_)
                  · exact ⟨hr, hs⟩
                  clear hK K
                  try simp only [Act.put, List.setIfInBounds_toArray, List.set_cons_zero, List.set_cons_succ]
                  refine wpAnyH_ready (rs := [9]) (by kernel_rfl) (by simp) ?_
                  refine AllReadyH.cons (o := { dst := some 119, op := Op.call { callee := Callee.value (Operand.func 18), args := #[Operand.tmp 114, Operand.tmp 118], argTypes := #[27, 27] }, type := 4, pos := "law.go:80", after := #[{ on := 4, ground := Ground.data }, { on := 8, ground := Ground.data }, { on := 4, ground := Ground.chain }], guard := none }) rfl (fun K hK => ?_) AllReadyH.nil
                  go_simp
                  go_at_call 18
                  refine (req10_any ⟨hd, ht, hv, ⟨ix, et, kd, dt⟩⟩ ⟨hd, ht, hv, ⟨ix, et, kd, dt⟩⟩ _).mono ?_
                  rintro e kr ⟨rfl, hq⟩
                  rw [eq10_self]
                  replace hr := rng_below10 hr hq hgm
                  replace hs := rng_below10 hs hq hgp
                  replace hgm := Nat.lt_of_lt_of_le hgm hq.size
                  replace hgp := Nat.lt_of_lt_of_le hgp hq.size
                  replace hbr := hbr.trans (hq.mono hbr.size)
                  clear hq
                  refine hK.out _ _ ?_ (fun hHeld => ?_)
                  · exact ⟨hr, hs⟩
                  clear hK K
                  try simp only [Act.put, List.setIfInBounds_toArray, List.set_cons_zero, List.set_cons_succ]
                  refine wpAnyH_take (i := 10) (oi := { dst := some 120, op := Op.unOp UnOp.not 4 (Operand.tmp 119), type := 4, pos := "law.go:80", after := #[{ on := 9, ground := Ground.data }], guard := none }) (v := .bool false) rfl (by kernel_rfl) (by kernel_rfl) (by kernel_rfl) (fun _ _ _ h => h) (Or.inl ⟨by rfl, fun w hSw => ?_⟩) (by assumption) ?_
                  · (try dsimp only at hSw)
                    go_simp
                  try simp only [Act.put, List.setIfInBounds_toArray, List.set_cons_zero, List.set_cons_succ]
                  refine wpAnyH_done (by kernel_rfl) ?_ _
                  refine NoPanic.normal ?_
                  clear hr hs hgm hgp hHeld
                  have HBR := Lib.hid hbr
                  clear hbr
                  go_wp2
                  go_roundw
                  case rel => exact ⟨k + 1, by go_num, by omega, HBR.out⟩
                  case measure => simp [intOf]; omega
                · have hge : (L2.length : Int) ≤ k := by omega
                  clear hlt
                  go_wp2_with fail
                  go_ret
                  exact ⟨rfl, HBW7.out.trans (hbr.mono HBW7.out.size)⟩
        · have hcv : a1 ≤ 0 ∨ (0 < a1 ∧ (n : Int) < a1) := by omega
          obtain ⟨p, hp⟩ : ∃ p, n = p := ⟨_, rfl⟩
          obtain ⟨NP, hNP⟩ : ∃ NP, NN = NP := ⟨_, rfl⟩
          subst hp; subst hNP
          have HOWN := HO3; have HNP := HN
          clear HO3 HN
          rcases hcv with hc1 | ⟨hc1, hc2⟩
          · by_cases h0 : n = 0
            · subst h0
              have HOW := HOWN
              have HFL := HNP
              have HBW := HB3
              obtain ⟨F, hF⟩ : ∃ F, NN = F := ⟨_, rfl⟩
              rw [hF] at HOW HFL
              clear HOWN HNP HB3 hF
              go_wp2_with fail
              obtain ⟨L0, hL0⟩ : ∃ q, q = F.length := ⟨_, rfl⟩
              refine (Swscan_any _ _ F _ (Byt.of_own HOW.out) (Nat.le_refl _) (by rw [HFL.out]; omega) (hTT _ HBW.out) (own_nz HOW.out)).mono ?_
              rintro e w6 ⟨L, u, er, v6, hs, rfl, ho, h6⟩
              obtain ⟨A6, c6, rfl⟩ := ho.slice
              have HOW6 := Lib.hid (HOW.out.below h6)
              have HBW6 := Lib.hid (HBW.out.trans (h6.mono HBW.out.size))
              have HO6 := Lib.hid ho
              have HS := Lib.hid hs
              clear h6 ho hs HOW HBW
              go_wp2_with fail
              refine (Sqscan_any _ _ F _ (Byt.of_own HOW6.out) (Nat.le_refl _) (by rw [HFL.out]; omega) (own_nz HOW6.out)).mono ?_
              rintro e w7 ⟨L2, u2, er2, v7, hs2, rfl, ho2, h7⟩
              obtain ⟨rfl, rfl, rfl⟩ := ScR.two hs2 HS.out
              obtain ⟨A7, c7, rfl⟩ := ho2.slice
              have HO7 := Lib.hid (HO6.out.below h7)
              have HQ7 := Lib.hid ho2
              have HBW7 := Lib.hid (HBW6.out.trans (h7.mono HBW6.out.size))
              obtain ⟨bb, hbb⟩ : ∃ bb, (er2 == 2) = bb := ⟨_, rfl⟩
              rw [hbb]
              have hlen := HS.out.len
              obtain ⟨hl1, hl2, _⟩ := hlen
              rw [HFL.out] at hl1
              have hll : L2.length ≤ 30000 := by omega
              clear hbb hs2 ho2 h7 HO6 HOW6 HBW6 HS hl1 hl2 hL0
              go_wp2_with fail
              go_loopw [20] (fun i wr => ∃ k : Nat, i = .int .i64 k ∧ k ≤ L2.length ∧ Below w7.heap.size w7 wr) (fun i _ => L2.length - (intOf i).toNat)
              case atStart => exact ⟨0, rfl, Nat.zero_le _, Below.refl _ _⟩
              case round =>
                obtain ⟨k, rfl, hk, hbr⟩ := hrel
                by_cases hlt : k < L2.length
                · have hki : (k : Int) < L2.length := by omega
                  obtain ⟨gm, hA6, _, hgm, _, _, hr⟩ := (HO7.out.below hbr).at_ k hlt
                  obtain ⟨gp, hA7, _, hgp, _, _, hs⟩ := (HQ7.out.below hbr).at_ k hlt
                  subst hA6; subst hA7
                  obtain ⟨⟨hd, ht, hv, ⟨ix, et, kd, dt⟩⟩, hrr⟩ : ∃ r, L2[k] = r := ⟨_, rfl⟩
                  rw [hrr] at hr hs
                  clear hrr
                  have HRR := Lib.hid hr; have HSS := Lib.hid hs; have HBR := Lib.hid hbr
                  clear hr hs hbr
                  go_upto_region 21 with fail
                  have hr := HRR.out; have hs := HSS.out; have hbr := HBR.out
                  clear HRR HSS HBR
                  refine wp_region_noPanic ?_
                  refine wp_region_held_drew (S := fun W => W.rangeAt gm (k * 7) (Rcd.cs ⟨hd, ht, hv, ⟨ix, et, kd, dt⟩⟩) ∧ W.rangeAt gp (k * 7) (Rcd.cs ⟨hd, ht, hv, ⟨ix, et, kd, dt⟩⟩)) (by kernel_rfl) ?_ (fun hHeld => ?_)
                  · exact ⟨hr, hs⟩
                  replace hr : wr.drew.rangeAt gm (k * 7) (Rcd.cs ⟨hd, ht, hv, ⟨ix, et, kd, dt⟩⟩) := hr
                  replace hs : wr.drew.rangeAt gp (k * 7) (Rcd.cs ⟨hd, ht, hv, ⟨ix, et, kd, dt⟩⟩) := hs
                  replace hgm : gm < wr.drew.heap.size := hgm
                  replace hgp : gp < wr.drew.heap.size := hgp
                  replace hbr : Below w7.heap.size w7 wr.drew := hbr.drew
                  generalize wr.drew = wd at *
                  refine wpAnyH_take (i := 0) (oi := { dst := some 110, op := Op.move (Operand.tmp 14), type := 45, pos := "law.go:80", after := #[], guard := none }) (v := .slice (some ⟨gm, 0, none⟩) L2.length c6) rfl (by kernel_rfl) (by kernel_rfl) (by kernel_rfl) (fun _ _ _ h => h) (Or.inl ⟨by rfl, fun w hSw => ?_⟩) (by assumption) ?_
                  · (try dsimp only at hSw)
                    go_simp
                  try simp only [Act.put, List.setIfInBounds_toArray, List.set_cons_zero, List.set_cons_succ]
                  refine wpAnyH_take (i := 1) (oi := { dst := some 111, op := Op.move (Operand.tmp 20), type := 3, pos := "law.go:80", after := #[], guard := none }) (v := .int .i64 k) rfl (by kernel_rfl) (by kernel_rfl) (by kernel_rfl) (fun _ _ _ h => h) (Or.inl ⟨by rfl, fun w hSw => ?_⟩) (by assumption) ?_
                  · (try dsimp only at hSw)
                    go_simp
                  try simp only [Act.put, List.setIfInBounds_toArray, List.set_cons_zero, List.set_cons_succ]
                  refine wpAnyH_take (i := 2) (oi := { dst := some 112, op := Op.indexAddr 45 (Operand.tmp 110) (Operand.tmp 111), type := 0, pos := "law.go:80", after := #[{ on := 0, ground := Ground.data }, { on := 1, ground := Ground.data }], guard := none }) (v := .pointer (some ⟨gm, k * 7, none⟩)) rfl (by kernel_rfl) (by kernel_rfl) (by kernel_rfl) (fun _ _ _ h => h) (Or.inl ⟨by rfl, fun w hSw => ?_⟩) (by assumption) ?_
                  · (try dsimp only at hSw)
                    go_simp
                  try simp only [Act.put, List.setIfInBounds_toArray, List.set_cons_zero, List.set_cons_succ]
                  refine wpAnyH_take (i := 3) (oi := { dst := some 113, op := Op.load 32 (Operand.tmp 112), type := 32, pos := "law.go:80", after := #[{ on := 2, ground := Ground.data }], guard := none }) (v := .agg #[.bool hd, .int .i64 ht, .int .i64 hv, .int .i64 ix, .int .i64 et, .int .i64 kd, .string dt]) rfl (by kernel_rfl) (by kernel_rfl) (by kernel_rfl) (fun _ _ _ h => h) (Or.inl ⟨by rfl, fun w hSw => ?_⟩) (by assumption) ?_
                  · (try dsimp only at hSw)
                    have q0 := hSw.1 0 _ rfl
                    have q1 := hSw.1 1 _ rfl
                    have q2 := hSw.1 2 _ rfl
                    have q3 := hSw.1 3 _ rfl
                    have q4 := hSw.1 4 _ rfl
                    have q5 := hSw.1 5 _ rfl
                    have q6 := hSw.1 6 _ rfl
                    rw [Nat.add_zero] at q0
                    clear hSw
                    go_simp
                  try simp only [Act.put, List.setIfInBounds_toArray, List.set_cons_zero, List.set_cons_succ]
                  refine wpAnyH_take (i := 5) (oi := { dst := some 115, op := Op.move (Operand.tmp 17), type := 43, pos := "law.go:80", after := #[], guard := none }) (v := .slice (some ⟨gp, 0, none⟩) L2.length c7) rfl (by kernel_rfl) (by kernel_rfl) (by kernel_rfl) (fun _ _ _ h => h) (Or.inl ⟨by rfl, fun w hSw => ?_⟩) (by assumption) ?_
                  · (try dsimp only at hSw)
                    go_simp
                  try simp only [Act.put, List.setIfInBounds_toArray, List.set_cons_zero, List.set_cons_succ]
                  refine wpAnyH_take (i := 6) (oi := { dst := some 116, op := Op.move (Operand.tmp 20), type := 3, pos := "law.go:80", after := #[], guard := none }) (v := .int .i64 k) rfl (by kernel_rfl) (by kernel_rfl) (by kernel_rfl) (fun _ _ _ h => h) (Or.inl ⟨by rfl, fun w hSw => ?_⟩) (by assumption) ?_
                  · (try dsimp only at hSw)
                    go_simp
                  try simp only [Act.put, List.setIfInBounds_toArray, List.set_cons_zero, List.set_cons_succ]
                  refine wpAnyH_take (i := 7) (oi := { dst := some 117, op := Op.indexAddr 43 (Operand.tmp 115) (Operand.tmp 116), type := 0, pos := "law.go:80", after := #[{ on := 5, ground := Ground.data }, { on := 6, ground := Ground.data }], guard := none }) (v := .pointer (some ⟨gp, k * 7, none⟩)) rfl (by kernel_rfl) (by kernel_rfl) (by kernel_rfl) (fun _ _ _ h => h) (Or.inl ⟨by rfl, fun w hSw => ?_⟩) (by assumption) ?_
                  · (try dsimp only at hSw)
                    go_simp
                  try simp only [Act.put, List.setIfInBounds_toArray, List.set_cons_zero, List.set_cons_succ]
                  refine wpAnyH_take (i := 8) (oi := { dst := some 118, op := Op.load 27 (Operand.tmp 117), type := 27, pos := "law.go:80", after := #[{ on := 7, ground := Ground.data }], guard := none }) (v := .agg #[.bool hd, .int .i64 ht, .int .i64 hv, .int .i64 ix, .int .i64 et, .int .i64 kd, .string dt]) rfl (by kernel_rfl) (by kernel_rfl) (by kernel_rfl) (fun _ _ _ h => h) (Or.inl ⟨by rfl, fun w hSw => ?_⟩) (by assumption) ?_
                  · (try dsimp only at hSw)
                    have q0 := hSw.2 0 _ rfl
                    have q1 := hSw.2 1 _ rfl
                    have q2 := hSw.2 2 _ rfl
                    have q3 := hSw.2 3 _ rfl
                    have q4 := hSw.2 4 _ rfl
                    have q5 := hSw.2 5 _ rfl
                    have q6 := hSw.2 6 _ rfl
                    rw [Nat.add_zero] at q0
                    clear hSw
                    go_simp
                  try simp only [Act.put, List.setIfInBounds_toArray, List.set_cons_zero, List.set_cons_succ]
                  refine wpAnyH_ready (rs := [4]) (by kernel_rfl) (by simp) ?_
                  refine AllReadyH.cons (o := { dst := some 114, op := Op.call { callee := Callee.value (Operand.func 19), args := #[Operand.tmp 113], argTypes := #[32] }, type := 27, pos := "law.go:80", after := #[{ on := 3, ground := Ground.data }], guard := none }) rfl (fun K hK => ?_) AllReadyH.nil
                  go_simp
                  go_at_call 19
                  refine (back10_any hd ht hv ix et kd dt _).mono ?_
                  rintro e kq ⟨rfl, hq⟩
                  replace hr := rng_below10 hr hq hgm
                  replace hs := rng_below10 hs hq hgp
                  replace hgm := Nat.lt_of_lt_of_le hgm hq.size
                  replace hgp := Nat.lt_of_lt_of_le hgp hq.size
                  replace hbr := hbr.trans (hq.mono hbr.size)
                  clear hq
                  refine hK.out _ _ ?_ (fun hHeld => ?_)
                  · exact ⟨hr, hs⟩
                  clear hK K
                  try simp only [Act.put, List.setIfInBounds_toArray, List.set_cons_zero, List.set_cons_succ]
                  refine wpAnyH_ready (rs := [9]) (by kernel_rfl) (by simp) ?_
                  refine AllReadyH.cons (o := { dst := some 119, op := Op.call { callee := Callee.value (Operand.func 18), args := #[Operand.tmp 114, Operand.tmp 118], argTypes := #[27, 27] }, type := 4, pos := "law.go:80", after := #[{ on := 4, ground := Ground.data }, { on := 8, ground := Ground.data }, { on := 4, ground := Ground.chain }], guard := none }) rfl (fun K hK => ?_) AllReadyH.nil
                  go_simp
                  go_at_call 18
                  refine (req10_any ⟨hd, ht, hv, ⟨ix, et, kd, dt⟩⟩ ⟨hd, ht, hv, ⟨ix, et, kd, dt⟩⟩ _).mono ?_
                  rintro e kr ⟨rfl, hq⟩
                  rw [eq10_self]
                  replace hr := rng_below10 hr hq hgm
                  replace hs := rng_below10 hs hq hgp
                  replace hgm := Nat.lt_of_lt_of_le hgm hq.size
                  replace hgp := Nat.lt_of_lt_of_le hgp hq.size
                  replace hbr := hbr.trans (hq.mono hbr.size)
                  clear hq
                  refine hK.out _ _ ?_ (fun hHeld => ?_)
                  · exact ⟨hr, hs⟩
                  clear hK K
                  try simp only [Act.put, List.setIfInBounds_toArray, List.set_cons_zero, List.set_cons_succ]
                  refine wpAnyH_take (i := 10) (oi := { dst := some 120, op := Op.unOp UnOp.not 4 (Operand.tmp 119), type := 4, pos := "law.go:80", after := #[{ on := 9, ground := Ground.data }], guard := none }) (v := .bool false) rfl (by kernel_rfl) (by kernel_rfl) (by kernel_rfl) (fun _ _ _ h => h) (Or.inl ⟨by rfl, fun w hSw => ?_⟩) (by assumption) ?_
                  · (try dsimp only at hSw)
                    go_simp
                  try simp only [Act.put, List.setIfInBounds_toArray, List.set_cons_zero, List.set_cons_succ]
                  refine wpAnyH_done (by kernel_rfl) ?_ _
                  refine NoPanic.normal ?_
                  clear hr hs hgm hgp hHeld
                  have HBR := Lib.hid hbr
                  clear hbr
                  go_wp2
                  go_roundw
                  case rel => exact ⟨k + 1, by go_num, by omega, HBR.out⟩
                  case measure => simp [intOf]; omega
                · have hge : (L2.length : Int) ≤ k := by omega
                  clear hlt
                  go_wp2_with fail
                  go_ret
                  exact ⟨rfl, HBW7.out.trans (hbr.mono HBW7.out.size)⟩
            · have hp0 : (0 : Int) < n := by omega
              by_cases h2 : a2 < 0
              · have HOW := HOWN
                have HFL := HNP
                have HBW := HB3
                obtain ⟨F, hF⟩ : ∃ F, NN = F := ⟨_, rfl⟩
                rw [hF] at HOW HFL
                clear HOWN HNP HB3 hF
                go_wp2_with fail
                obtain ⟨L0, hL0⟩ : ∃ q, q = F.length := ⟨_, rfl⟩
                refine (Swscan_any _ _ F _ (Byt.of_own HOW.out) (Nat.le_refl _) (by rw [HFL.out]; omega) (hTT _ HBW.out) (own_nz HOW.out)).mono ?_
                rintro e w6 ⟨L, u, er, v6, hs, rfl, ho, h6⟩
                obtain ⟨A6, c6, rfl⟩ := ho.slice
                have HOW6 := Lib.hid (HOW.out.below h6)
                have HBW6 := Lib.hid (HBW.out.trans (h6.mono HBW.out.size))
                have HO6 := Lib.hid ho
                have HS := Lib.hid hs
                clear h6 ho hs HOW HBW
                go_wp2_with fail
                refine (Sqscan_any _ _ F _ (Byt.of_own HOW6.out) (Nat.le_refl _) (by rw [HFL.out]; omega) (own_nz HOW6.out)).mono ?_
                rintro e w7 ⟨L2, u2, er2, v7, hs2, rfl, ho2, h7⟩
                obtain ⟨rfl, rfl, rfl⟩ := ScR.two hs2 HS.out
                obtain ⟨A7, c7, rfl⟩ := ho2.slice
                have HO7 := Lib.hid (HO6.out.below h7)
                have HQ7 := Lib.hid ho2
                have HBW7 := Lib.hid (HBW6.out.trans (h7.mono HBW6.out.size))
                obtain ⟨bb, hbb⟩ : ∃ bb, (er2 == 2) = bb := ⟨_, rfl⟩
                rw [hbb]
                have hlen := HS.out.len
                obtain ⟨hl1, hl2, _⟩ := hlen
                rw [HFL.out] at hl1
                have hll : L2.length ≤ 30000 := by omega
                clear hbb hs2 ho2 h7 HO6 HOW6 HBW6 HS hl1 hl2 hL0
                go_wp2_with fail
                go_loopw [20] (fun i wr => ∃ k : Nat, i = .int .i64 k ∧ k ≤ L2.length ∧ Below w7.heap.size w7 wr) (fun i _ => L2.length - (intOf i).toNat)
                case atStart => exact ⟨0, rfl, Nat.zero_le _, Below.refl _ _⟩
                case round =>
                  obtain ⟨k, rfl, hk, hbr⟩ := hrel
                  by_cases hlt : k < L2.length
                  · have hki : (k : Int) < L2.length := by omega
                    obtain ⟨gm, hA6, _, hgm, _, _, hr⟩ := (HO7.out.below hbr).at_ k hlt
                    obtain ⟨gp, hA7, _, hgp, _, _, hs⟩ := (HQ7.out.below hbr).at_ k hlt
                    subst hA6; subst hA7
                    obtain ⟨⟨hd, ht, hv, ⟨ix, et, kd, dt⟩⟩, hrr⟩ : ∃ r, L2[k] = r := ⟨_, rfl⟩
                    rw [hrr] at hr hs
                    clear hrr
                    have HRR := Lib.hid hr; have HSS := Lib.hid hs; have HBR := Lib.hid hbr
                    clear hr hs hbr
                    go_upto_region 21 with fail
                    have hr := HRR.out; have hs := HSS.out; have hbr := HBR.out
                    clear HRR HSS HBR
                    refine wp_region_noPanic ?_
                    refine wp_region_held_drew (S := fun W => W.rangeAt gm (k * 7) (Rcd.cs ⟨hd, ht, hv, ⟨ix, et, kd, dt⟩⟩) ∧ W.rangeAt gp (k * 7) (Rcd.cs ⟨hd, ht, hv, ⟨ix, et, kd, dt⟩⟩)) (by kernel_rfl) ?_ (fun hHeld => ?_)
                    · exact ⟨hr, hs⟩
                    replace hr : wr.drew.rangeAt gm (k * 7) (Rcd.cs ⟨hd, ht, hv, ⟨ix, et, kd, dt⟩⟩) := hr
                    replace hs : wr.drew.rangeAt gp (k * 7) (Rcd.cs ⟨hd, ht, hv, ⟨ix, et, kd, dt⟩⟩) := hs
                    replace hgm : gm < wr.drew.heap.size := hgm
                    replace hgp : gp < wr.drew.heap.size := hgp
                    replace hbr : Below w7.heap.size w7 wr.drew := hbr.drew
                    generalize wr.drew = wd at *
                    refine wpAnyH_take (i := 0) (oi := { dst := some 110, op := Op.move (Operand.tmp 14), type := 45, pos := "law.go:80", after := #[], guard := none }) (v := .slice (some ⟨gm, 0, none⟩) L2.length c6) rfl (by kernel_rfl) (by kernel_rfl) (by kernel_rfl) (fun _ _ _ h => h) (Or.inl ⟨by rfl, fun w hSw => ?_⟩) (by assumption) ?_
                    · (try dsimp only at hSw)
                      go_simp
                    try simp only [Act.put, List.setIfInBounds_toArray, List.set_cons_zero, List.set_cons_succ]
                    refine wpAnyH_take (i := 1) (oi := { dst := some 111, op := Op.move (Operand.tmp 20), type := 3, pos := "law.go:80", after := #[], guard := none }) (v := .int .i64 k) rfl (by kernel_rfl) (by kernel_rfl) (by kernel_rfl) (fun _ _ _ h => h) (Or.inl ⟨by rfl, fun w hSw => ?_⟩) (by assumption) ?_
                    · (try dsimp only at hSw)
                      go_simp
                    try simp only [Act.put, List.setIfInBounds_toArray, List.set_cons_zero, List.set_cons_succ]
                    refine wpAnyH_take (i := 2) (oi := { dst := some 112, op := Op.indexAddr 45 (Operand.tmp 110) (Operand.tmp 111), type := 0, pos := "law.go:80", after := #[{ on := 0, ground := Ground.data }, { on := 1, ground := Ground.data }], guard := none }) (v := .pointer (some ⟨gm, k * 7, none⟩)) rfl (by kernel_rfl) (by kernel_rfl) (by kernel_rfl) (fun _ _ _ h => h) (Or.inl ⟨by rfl, fun w hSw => ?_⟩) (by assumption) ?_
                    · (try dsimp only at hSw)
                      go_simp
                    try simp only [Act.put, List.setIfInBounds_toArray, List.set_cons_zero, List.set_cons_succ]
                    refine wpAnyH_take (i := 3) (oi := { dst := some 113, op := Op.load 32 (Operand.tmp 112), type := 32, pos := "law.go:80", after := #[{ on := 2, ground := Ground.data }], guard := none }) (v := .agg #[.bool hd, .int .i64 ht, .int .i64 hv, .int .i64 ix, .int .i64 et, .int .i64 kd, .string dt]) rfl (by kernel_rfl) (by kernel_rfl) (by kernel_rfl) (fun _ _ _ h => h) (Or.inl ⟨by rfl, fun w hSw => ?_⟩) (by assumption) ?_
                    · (try dsimp only at hSw)
                      have q0 := hSw.1 0 _ rfl
                      have q1 := hSw.1 1 _ rfl
                      have q2 := hSw.1 2 _ rfl
                      have q3 := hSw.1 3 _ rfl
                      have q4 := hSw.1 4 _ rfl
                      have q5 := hSw.1 5 _ rfl
                      have q6 := hSw.1 6 _ rfl
                      rw [Nat.add_zero] at q0
                      clear hSw
                      go_simp
                    try simp only [Act.put, List.setIfInBounds_toArray, List.set_cons_zero, List.set_cons_succ]
                    refine wpAnyH_take (i := 5) (oi := { dst := some 115, op := Op.move (Operand.tmp 17), type := 43, pos := "law.go:80", after := #[], guard := none }) (v := .slice (some ⟨gp, 0, none⟩) L2.length c7) rfl (by kernel_rfl) (by kernel_rfl) (by kernel_rfl) (fun _ _ _ h => h) (Or.inl ⟨by rfl, fun w hSw => ?_⟩) (by assumption) ?_
                    · (try dsimp only at hSw)
                      go_simp
                    try simp only [Act.put, List.setIfInBounds_toArray, List.set_cons_zero, List.set_cons_succ]
                    refine wpAnyH_take (i := 6) (oi := { dst := some 116, op := Op.move (Operand.tmp 20), type := 3, pos := "law.go:80", after := #[], guard := none }) (v := .int .i64 k) rfl (by kernel_rfl) (by kernel_rfl) (by kernel_rfl) (fun _ _ _ h => h) (Or.inl ⟨by rfl, fun w hSw => ?_⟩) (by assumption) ?_
                    · (try dsimp only at hSw)
                      go_simp
                    try simp only [Act.put, List.setIfInBounds_toArray, List.set_cons_zero, List.set_cons_succ]
                    refine wpAnyH_take (i := 7) (oi := { dst := some 117, op := Op.indexAddr 43 (Operand.tmp 115) (Operand.tmp 116), type := 0, pos := "law.go:80", after := #[{ on := 5, ground := Ground.data }, { on := 6, ground := Ground.data }], guard := none }) (v := .pointer (some ⟨gp, k * 7, none⟩)) rfl (by kernel_rfl) (by kernel_rfl) (by kernel_rfl) (fun _ _ _ h => h) (Or.inl ⟨by rfl, fun w hSw => ?_⟩) (by assumption) ?_
                    · (try dsimp only at hSw)
                      go_simp
                    try simp only [Act.put, List.setIfInBounds_toArray, List.set_cons_zero, List.set_cons_succ]
                    refine wpAnyH_take (i := 8) (oi := { dst := some 118, op := Op.load 27 (Operand.tmp 117), type := 27, pos := "law.go:80", after := #[{ on := 7, ground := Ground.data }], guard := none }) (v := .agg #[.bool hd, .int .i64 ht, .int .i64 hv, .int .i64 ix, .int .i64 et, .int .i64 kd, .string dt]) rfl (by kernel_rfl) (by kernel_rfl) (by kernel_rfl) (fun _ _ _ h => h) (Or.inl ⟨by rfl, fun w hSw => ?_⟩) (by assumption) ?_
                    · (try dsimp only at hSw)
                      have q0 := hSw.2 0 _ rfl
                      have q1 := hSw.2 1 _ rfl
                      have q2 := hSw.2 2 _ rfl
                      have q3 := hSw.2 3 _ rfl
                      have q4 := hSw.2 4 _ rfl
                      have q5 := hSw.2 5 _ rfl
                      have q6 := hSw.2 6 _ rfl
                      rw [Nat.add_zero] at q0
                      clear hSw
                      go_simp
                    try simp only [Act.put, List.setIfInBounds_toArray, List.set_cons_zero, List.set_cons_succ]
                    refine wpAnyH_ready (rs := [4]) (by kernel_rfl) (by simp) ?_
                    refine AllReadyH.cons (o := { dst := some 114, op := Op.call { callee := Callee.value (Operand.func 19), args := #[Operand.tmp 113], argTypes := #[32] }, type := 27, pos := "law.go:80", after := #[{ on := 3, ground := Ground.data }], guard := none }) rfl (fun K hK => ?_) AllReadyH.nil
                    go_simp
                    go_at_call 19
                    refine (back10_any hd ht hv ix et kd dt _).mono ?_
                    rintro e kq ⟨rfl, hq⟩
                    replace hr := rng_below10 hr hq hgm
                    replace hs := rng_below10 hs hq hgp
                    replace hgm := Nat.lt_of_lt_of_le hgm hq.size
                    replace hgp := Nat.lt_of_lt_of_le hgp hq.size
                    replace hbr := hbr.trans (hq.mono hbr.size)
                    clear hq
                    refine hK.out _ _ ?_ (fun hHeld => ?_)
                    · exact ⟨hr, hs⟩
                    clear hK K
                    try simp only [Act.put, List.setIfInBounds_toArray, List.set_cons_zero, List.set_cons_succ]
                    refine wpAnyH_ready (rs := [9]) (by kernel_rfl) (by simp) ?_
                    refine AllReadyH.cons (o := { dst := some 119, op := Op.call { callee := Callee.value (Operand.func 18), args := #[Operand.tmp 114, Operand.tmp 118], argTypes := #[27, 27] }, type := 4, pos := "law.go:80", after := #[{ on := 4, ground := Ground.data }, { on := 8, ground := Ground.data }, { on := 4, ground := Ground.chain }], guard := none }) rfl (fun K hK => ?_) AllReadyH.nil
                    go_simp
                    go_at_call 18
                    refine (req10_any ⟨hd, ht, hv, ⟨ix, et, kd, dt⟩⟩ ⟨hd, ht, hv, ⟨ix, et, kd, dt⟩⟩ _).mono ?_
                    rintro e kr ⟨rfl, hq⟩
                    rw [eq10_self]
                    replace hr := rng_below10 hr hq hgm
                    replace hs := rng_below10 hs hq hgp
                    replace hgm := Nat.lt_of_lt_of_le hgm hq.size
                    replace hgp := Nat.lt_of_lt_of_le hgp hq.size
                    replace hbr := hbr.trans (hq.mono hbr.size)
                    clear hq
                    refine hK.out _ _ ?_ (fun hHeld => ?_)
                    · exact ⟨hr, hs⟩
                    clear hK K
                    try simp only [Act.put, List.setIfInBounds_toArray, List.set_cons_zero, List.set_cons_succ]
                    refine wpAnyH_take (i := 10) (oi := { dst := some 120, op := Op.unOp UnOp.not 4 (Operand.tmp 119), type := 4, pos := "law.go:80", after := #[{ on := 9, ground := Ground.data }], guard := none }) (v := .bool false) rfl (by kernel_rfl) (by kernel_rfl) (by kernel_rfl) (fun _ _ _ h => h) (Or.inl ⟨by rfl, fun w hSw => ?_⟩) (by assumption) ?_
                    · (try dsimp only at hSw)
                      go_simp
                    try simp only [Act.put, List.setIfInBounds_toArray, List.set_cons_zero, List.set_cons_succ]
                    refine wpAnyH_done (by kernel_rfl) ?_ _
                    refine NoPanic.normal ?_
                    clear hr hs hgm hgp hHeld
                    have HBR := Lib.hid hbr
                    clear hbr
                    go_wp2
                    go_roundw
                    case rel => exact ⟨k + 1, by go_num, by omega, HBR.out⟩
                    case measure => simp [intOf]; omega
                  · have hge : (L2.length : Int) ≤ k := by omega
                    clear hlt
                    go_wp2_with fail
                    go_ret
                    exact ⟨rfl, HBW7.out.trans (hbr.mono HBW7.out.size)⟩
              · obtain ⟨j, hj⟩ : ∃ j : Nat, a2 % (n : Int) = (j : Int) := ⟨(a2 % (n : Int)).toNat, by have := Int.emod_nonneg a2 (show (n : Int) ≠ 0 by omega); omega⟩
                have hjl : j < n := by have := Int.emod_lt_of_pos a2 hp0; omega
                obtain ⟨g, hA, hlo, hhi, hfz, hcn⟩ := own_at10 HOWN.out HNP.out j hjl
                subst hA
                have hfj := hfz j
                obtain ⟨y0, hy0⟩ : ∃ y, NN[j]'(by rw [HNP.out]; exact hjl) = y := ⟨_, rfl⟩
                rw [hy0] at hcn
                obtain ⟨y, hy⟩ : ∃ y, y0 ^^^ X = y := ⟨_, rfl⟩
                have hxor : bits BinOp.xor IntKind.u8 (y0.toNat : Int) (X.toNat : Int) = (y.toNat : Int) := by rw [u8_xor, hy]
                have hset := own_set10 (y := y) HOWN.out HNP.out (by rw [HNP.out]; exact hjl)
                have hbs := HB3.out.setCell (p := ⟨g, j, none⟩) (Nat.le_trans hww hlo) (.int .u8 (y.toNat : Int))
                have HFL : Hid ((NN.set j y).length = n) := Lib.hid (by rw [List.length_set]; exact HNP.out)
                obtain ⟨F, hF⟩ : ∃ F, NN.set j y = F := ⟨_, rfl⟩
                rw [hF] at hset HFL
                have HOW := Lib.hid hset; have HBW := Lib.hid hbs
                obtain ⟨yn, hyn⟩ : ∃ yn : Nat, y.toNat = yn := ⟨_, rfl⟩
                obtain ⟨cn, hcn2⟩ : ∃ cn : Nat, y0.toNat = cn := ⟨_, rfl⟩
                obtain ⟨Xn, hXn⟩ : ∃ Xn : Nat, X.toNat = Xn := ⟨_, rfl⟩
                rw [hyn] at hxor HOW HBW
                rw [hcn2] at hxor hcn
                rw [hXn] at hxor ⊢
                clear hset hbs hF hyn hcn2 hXn hy hy0 hfz HOWN HNP HB3 hw3
                go_wp2_with fail
                obtain ⟨L0, hL0⟩ : ∃ q, q = F.length := ⟨_, rfl⟩
                refine (Swscan_any _ _ F _ (Byt.of_own HOW.out) (Nat.le_refl _) (by rw [HFL.out]; omega) (hTT _ HBW.out) (own_nz HOW.out)).mono ?_
                rintro e w6 ⟨L, u, er, v6, hs, rfl, ho, h6⟩
                obtain ⟨A6, c6, rfl⟩ := ho.slice
                have HOW6 := Lib.hid (HOW.out.below h6)
                have HBW6 := Lib.hid (HBW.out.trans (h6.mono HBW.out.size))
                have HO6 := Lib.hid ho
                have HS := Lib.hid hs
                clear h6 ho hs HOW HBW
                go_wp2_with fail
                refine (Sqscan_any _ _ F _ (Byt.of_own HOW6.out) (Nat.le_refl _) (by rw [HFL.out]; omega) (own_nz HOW6.out)).mono ?_
                rintro e w7 ⟨L2, u2, er2, v7, hs2, rfl, ho2, h7⟩
                obtain ⟨rfl, rfl, rfl⟩ := ScR.two hs2 HS.out
                obtain ⟨A7, c7, rfl⟩ := ho2.slice
                have HO7 := Lib.hid (HO6.out.below h7)
                have HQ7 := Lib.hid ho2
                have HBW7 := Lib.hid (HBW6.out.trans (h7.mono HBW6.out.size))
                obtain ⟨bb, hbb⟩ : ∃ bb, (er2 == 2) = bb := ⟨_, rfl⟩
                rw [hbb]
                have hlen := HS.out.len
                obtain ⟨hl1, hl2, _⟩ := hlen
                rw [HFL.out] at hl1
                have hll : L2.length ≤ 30000 := by omega
                clear hbb hs2 ho2 h7 HO6 HOW6 HBW6 HS hl1 hl2 hL0
                go_wp2_with fail
                go_loopw [20] (fun i wr => ∃ k : Nat, i = .int .i64 k ∧ k ≤ L2.length ∧ Below w7.heap.size w7 wr) (fun i _ => L2.length - (intOf i).toNat)
                case atStart => exact ⟨0, rfl, Nat.zero_le _, Below.refl _ _⟩
                case round =>
                  obtain ⟨k, rfl, hk, hbr⟩ := hrel
                  by_cases hlt : k < L2.length
                  · have hki : (k : Int) < L2.length := by omega
                    obtain ⟨gm, hA6, _, hgm, _, _, hr⟩ := (HO7.out.below hbr).at_ k hlt
                    obtain ⟨gp, hA7, _, hgp, _, _, hs⟩ := (HQ7.out.below hbr).at_ k hlt
                    subst hA6; subst hA7
                    obtain ⟨⟨hd, ht, hv, ⟨ix, et, kd, dt⟩⟩, hrr⟩ : ∃ r, L2[k] = r := ⟨_, rfl⟩
                    rw [hrr] at hr hs
                    clear hrr
                    have HRR := Lib.hid hr; have HSS := Lib.hid hs; have HBR := Lib.hid hbr
                    clear hr hs hbr
                    go_upto_region 21 with fail
                    have hr := HRR.out; have hs := HSS.out; have hbr := HBR.out
                    clear HRR HSS HBR
                    refine wp_region_noPanic ?_
                    refine wp_region_held_drew (S := fun W => W.rangeAt gm (k * 7) (Rcd.cs ⟨hd, ht, hv, ⟨ix, et, kd, dt⟩⟩) ∧ W.rangeAt gp (k * 7) (Rcd.cs ⟨hd, ht, hv, ⟨ix, et, kd, dt⟩⟩)) (by kernel_rfl) ?_ (fun hHeld => ?_)
                    · exact ⟨hr, hs⟩
                    replace hr : wr.drew.rangeAt gm (k * 7) (Rcd.cs ⟨hd, ht, hv, ⟨ix, et, kd, dt⟩⟩) := hr
                    replace hs : wr.drew.rangeAt gp (k * 7) (Rcd.cs ⟨hd, ht, hv, ⟨ix, et, kd, dt⟩⟩) := hs
                    replace hgm : gm < wr.drew.heap.size := hgm
                    replace hgp : gp < wr.drew.heap.size := hgp
                    replace hbr : Below w7.heap.size w7 wr.drew := hbr.drew
                    generalize wr.drew = wd at *
                    refine wpAnyH_take (i := 0) (oi := { dst := some 110, op := Op.move (Operand.tmp 14), type := 45, pos := "law.go:80", after := #[], guard := none }) (v := .slice (some ⟨gm, 0, none⟩) L2.length c6) rfl (by kernel_rfl) (by kernel_rfl) (by kernel_rfl) (fun _ _ _ h => h) (Or.inl ⟨by rfl, fun w hSw => ?_⟩) (by assumption) ?_
                    · (try dsimp only at hSw)
                      go_simp
                    try simp only [Act.put, List.setIfInBounds_toArray, List.set_cons_zero, List.set_cons_succ]
                    refine wpAnyH_take (i := 1) (oi := { dst := some 111, op := Op.move (Operand.tmp 20), type := 3, pos := "law.go:80", after := #[], guard := none }) (v := .int .i64 k) rfl (by kernel_rfl) (by kernel_rfl) (by kernel_rfl) (fun _ _ _ h => h) (Or.inl ⟨by rfl, fun w hSw => ?_⟩) (by assumption) ?_
                    · (try dsimp only at hSw)
                      go_simp
                    try simp only [Act.put, List.setIfInBounds_toArray, List.set_cons_zero, List.set_cons_succ]
                    refine wpAnyH_take (i := 2) (oi := { dst := some 112, op := Op.indexAddr 45 (Operand.tmp 110) (Operand.tmp 111), type := 0, pos := "law.go:80", after := #[{ on := 0, ground := Ground.data }, { on := 1, ground := Ground.data }], guard := none }) (v := .pointer (some ⟨gm, k * 7, none⟩)) rfl (by kernel_rfl) (by kernel_rfl) (by kernel_rfl) (fun _ _ _ h => h) (Or.inl ⟨by rfl, fun w hSw => ?_⟩) (by assumption) ?_
                    · (try dsimp only at hSw)
                      go_simp
                    try simp only [Act.put, List.setIfInBounds_toArray, List.set_cons_zero, List.set_cons_succ]
                    refine wpAnyH_take (i := 3) (oi := { dst := some 113, op := Op.load 32 (Operand.tmp 112), type := 32, pos := "law.go:80", after := #[{ on := 2, ground := Ground.data }], guard := none }) (v := .agg #[.bool hd, .int .i64 ht, .int .i64 hv, .int .i64 ix, .int .i64 et, .int .i64 kd, .string dt]) rfl (by kernel_rfl) (by kernel_rfl) (by kernel_rfl) (fun _ _ _ h => h) (Or.inl ⟨by rfl, fun w hSw => ?_⟩) (by assumption) ?_
                    · (try dsimp only at hSw)
                      have q0 := hSw.1 0 _ rfl
                      have q1 := hSw.1 1 _ rfl
                      have q2 := hSw.1 2 _ rfl
                      have q3 := hSw.1 3 _ rfl
                      have q4 := hSw.1 4 _ rfl
                      have q5 := hSw.1 5 _ rfl
                      have q6 := hSw.1 6 _ rfl
                      rw [Nat.add_zero] at q0
                      clear hSw
                      go_simp
                    try simp only [Act.put, List.setIfInBounds_toArray, List.set_cons_zero, List.set_cons_succ]
                    refine wpAnyH_take (i := 5) (oi := { dst := some 115, op := Op.move (Operand.tmp 17), type := 43, pos := "law.go:80", after := #[], guard := none }) (v := .slice (some ⟨gp, 0, none⟩) L2.length c7) rfl (by kernel_rfl) (by kernel_rfl) (by kernel_rfl) (fun _ _ _ h => h) (Or.inl ⟨by rfl, fun w hSw => ?_⟩) (by assumption) ?_
                    · (try dsimp only at hSw)
                      go_simp
                    try simp only [Act.put, List.setIfInBounds_toArray, List.set_cons_zero, List.set_cons_succ]
                    refine wpAnyH_take (i := 6) (oi := { dst := some 116, op := Op.move (Operand.tmp 20), type := 3, pos := "law.go:80", after := #[], guard := none }) (v := .int .i64 k) rfl (by kernel_rfl) (by kernel_rfl) (by kernel_rfl) (fun _ _ _ h => h) (Or.inl ⟨by rfl, fun w hSw => ?_⟩) (by assumption) ?_
                    · (try dsimp only at hSw)
                      go_simp
                    try simp only [Act.put, List.setIfInBounds_toArray, List.set_cons_zero, List.set_cons_succ]
                    refine wpAnyH_take (i := 7) (oi := { dst := some 117, op := Op.indexAddr 43 (Operand.tmp 115) (Operand.tmp 116), type := 0, pos := "law.go:80", after := #[{ on := 5, ground := Ground.data }, { on := 6, ground := Ground.data }], guard := none }) (v := .pointer (some ⟨gp, k * 7, none⟩)) rfl (by kernel_rfl) (by kernel_rfl) (by kernel_rfl) (fun _ _ _ h => h) (Or.inl ⟨by rfl, fun w hSw => ?_⟩) (by assumption) ?_
                    · (try dsimp only at hSw)
                      go_simp
                    try simp only [Act.put, List.setIfInBounds_toArray, List.set_cons_zero, List.set_cons_succ]
                    refine wpAnyH_take (i := 8) (oi := { dst := some 118, op := Op.load 27 (Operand.tmp 117), type := 27, pos := "law.go:80", after := #[{ on := 7, ground := Ground.data }], guard := none }) (v := .agg #[.bool hd, .int .i64 ht, .int .i64 hv, .int .i64 ix, .int .i64 et, .int .i64 kd, .string dt]) rfl (by kernel_rfl) (by kernel_rfl) (by kernel_rfl) (fun _ _ _ h => h) (Or.inl ⟨by rfl, fun w hSw => ?_⟩) (by assumption) ?_
                    · (try dsimp only at hSw)
                      have q0 := hSw.2 0 _ rfl
                      have q1 := hSw.2 1 _ rfl
                      have q2 := hSw.2 2 _ rfl
                      have q3 := hSw.2 3 _ rfl
                      have q4 := hSw.2 4 _ rfl
                      have q5 := hSw.2 5 _ rfl
                      have q6 := hSw.2 6 _ rfl
                      rw [Nat.add_zero] at q0
                      clear hSw
                      go_simp
                    try simp only [Act.put, List.setIfInBounds_toArray, List.set_cons_zero, List.set_cons_succ]
                    refine wpAnyH_ready (rs := [4]) (by kernel_rfl) (by simp) ?_
                    refine AllReadyH.cons (o := { dst := some 114, op := Op.call { callee := Callee.value (Operand.func 19), args := #[Operand.tmp 113], argTypes := #[32] }, type := 27, pos := "law.go:80", after := #[{ on := 3, ground := Ground.data }], guard := none }) rfl (fun K hK => ?_) AllReadyH.nil
                    go_simp
                    go_at_call 19
                    refine (back10_any hd ht hv ix et kd dt _).mono ?_
                    rintro e kq ⟨rfl, hq⟩
                    replace hr := rng_below10 hr hq hgm
                    replace hs := rng_below10 hs hq hgp
                    replace hgm := Nat.lt_of_lt_of_le hgm hq.size
                    replace hgp := Nat.lt_of_lt_of_le hgp hq.size
                    replace hbr := hbr.trans (hq.mono hbr.size)
                    clear hq
                    refine hK.out _ _ ?_ (fun hHeld => ?_)
                    · exact ⟨hr, hs⟩
                    clear hK K
                    try simp only [Act.put, List.setIfInBounds_toArray, List.set_cons_zero, List.set_cons_succ]
                    refine wpAnyH_ready (rs := [9]) (by kernel_rfl) (by simp) ?_
                    refine AllReadyH.cons (o := { dst := some 119, op := Op.call { callee := Callee.value (Operand.func 18), args := #[Operand.tmp 114, Operand.tmp 118], argTypes := #[27, 27] }, type := 4, pos := "law.go:80", after := #[{ on := 4, ground := Ground.data }, { on := 8, ground := Ground.data }, { on := 4, ground := Ground.chain }], guard := none }) rfl (fun K hK => ?_) AllReadyH.nil
                    go_simp
                    go_at_call 18
                    refine (req10_any ⟨hd, ht, hv, ⟨ix, et, kd, dt⟩⟩ ⟨hd, ht, hv, ⟨ix, et, kd, dt⟩⟩ _).mono ?_
                    rintro e kr ⟨rfl, hq⟩
                    rw [eq10_self]
                    replace hr := rng_below10 hr hq hgm
                    replace hs := rng_below10 hs hq hgp
                    replace hgm := Nat.lt_of_lt_of_le hgm hq.size
                    replace hgp := Nat.lt_of_lt_of_le hgp hq.size
                    replace hbr := hbr.trans (hq.mono hbr.size)
                    clear hq
                    refine hK.out _ _ ?_ (fun hHeld => ?_)
                    · exact ⟨hr, hs⟩
                    clear hK K
                    try simp only [Act.put, List.setIfInBounds_toArray, List.set_cons_zero, List.set_cons_succ]
                    refine wpAnyH_take (i := 10) (oi := { dst := some 120, op := Op.unOp UnOp.not 4 (Operand.tmp 119), type := 4, pos := "law.go:80", after := #[{ on := 9, ground := Ground.data }], guard := none }) (v := .bool false) rfl (by kernel_rfl) (by kernel_rfl) (by kernel_rfl) (fun _ _ _ h => h) (Or.inl ⟨by rfl, fun w hSw => ?_⟩) (by assumption) ?_
                    · (try dsimp only at hSw)
                      go_simp
                    try simp only [Act.put, List.setIfInBounds_toArray, List.set_cons_zero, List.set_cons_succ]
                    refine wpAnyH_done (by kernel_rfl) ?_ _
                    refine NoPanic.normal ?_
                    clear hr hs hgm hgp hHeld
                    have HBR := Lib.hid hbr
                    clear hbr
                    go_wp2
                    go_roundw
                    case rel => exact ⟨k + 1, by go_num, by omega, HBR.out⟩
                    case measure => simp [intOf]; omega
                  · have hge : (L2.length : Int) ≤ k := by omega
                    clear hlt
                    go_wp2_with fail
                    go_ret
                    exact ⟨rfl, HBW7.out.trans (hbr.mono HBW7.out.size)⟩
          · by_cases h0 : n = 0
            · subst h0
              have HOW := HOWN
              have HFL := HNP
              have HBW := HB3
              obtain ⟨F, hF⟩ : ∃ F, NN = F := ⟨_, rfl⟩
              rw [hF] at HOW HFL
              clear HOWN HNP HB3 hF
              go_wp2_with fail
              obtain ⟨L0, hL0⟩ : ∃ q, q = F.length := ⟨_, rfl⟩
              refine (Swscan_any _ _ F _ (Byt.of_own HOW.out) (Nat.le_refl _) (by rw [HFL.out]; omega) (hTT _ HBW.out) (own_nz HOW.out)).mono ?_
              rintro e w6 ⟨L, u, er, v6, hs, rfl, ho, h6⟩
              obtain ⟨A6, c6, rfl⟩ := ho.slice
              have HOW6 := Lib.hid (HOW.out.below h6)
              have HBW6 := Lib.hid (HBW.out.trans (h6.mono HBW.out.size))
              have HO6 := Lib.hid ho
              have HS := Lib.hid hs
              clear h6 ho hs HOW HBW
              go_wp2_with fail
              refine (Sqscan_any _ _ F _ (Byt.of_own HOW6.out) (Nat.le_refl _) (by rw [HFL.out]; omega) (own_nz HOW6.out)).mono ?_
              rintro e w7 ⟨L2, u2, er2, v7, hs2, rfl, ho2, h7⟩
              obtain ⟨rfl, rfl, rfl⟩ := ScR.two hs2 HS.out
              obtain ⟨A7, c7, rfl⟩ := ho2.slice
              have HO7 := Lib.hid (HO6.out.below h7)
              have HQ7 := Lib.hid ho2
              have HBW7 := Lib.hid (HBW6.out.trans (h7.mono HBW6.out.size))
              obtain ⟨bb, hbb⟩ : ∃ bb, (er2 == 2) = bb := ⟨_, rfl⟩
              rw [hbb]
              have hlen := HS.out.len
              obtain ⟨hl1, hl2, _⟩ := hlen
              rw [HFL.out] at hl1
              have hll : L2.length ≤ 30000 := by omega
              clear hbb hs2 ho2 h7 HO6 HOW6 HBW6 HS hl1 hl2 hL0
              go_wp2_with fail
              go_loopw [20] (fun i wr => ∃ k : Nat, i = .int .i64 k ∧ k ≤ L2.length ∧ Below w7.heap.size w7 wr) (fun i _ => L2.length - (intOf i).toNat)
              case atStart => exact ⟨0, rfl, Nat.zero_le _, Below.refl _ _⟩
              case round =>
                obtain ⟨k, rfl, hk, hbr⟩ := hrel
                by_cases hlt : k < L2.length
                · have hki : (k : Int) < L2.length := by omega
                  obtain ⟨gm, hA6, _, hgm, _, _, hr⟩ := (HO7.out.below hbr).at_ k hlt
                  obtain ⟨gp, hA7, _, hgp, _, _, hs⟩ := (HQ7.out.below hbr).at_ k hlt
                  subst hA6; subst hA7
                  obtain ⟨⟨hd, ht, hv, ⟨ix, et, kd, dt⟩⟩, hrr⟩ : ∃ r, L2[k] = r := ⟨_, rfl⟩
                  rw [hrr] at hr hs
                  clear hrr
                  have HRR := Lib.hid hr; have HSS := Lib.hid hs; have HBR := Lib.hid hbr
                  clear hr hs hbr
                  go_upto_region 21 with fail
                  have hr := HRR.out; have hs := HSS.out; have hbr := HBR.out
                  clear HRR HSS HBR
                  refine wp_region_noPanic ?_
                  refine wp_region_held_drew (S := fun W => W.rangeAt gm (k * 7) (Rcd.cs ⟨hd, ht, hv, ⟨ix, et, kd, dt⟩⟩) ∧ W.rangeAt gp (k * 7) (Rcd.cs ⟨hd, ht, hv, ⟨ix, et, kd, dt⟩⟩)) (by kernel_rfl) ?_ (fun hHeld => ?_)
                  · exact ⟨hr, hs⟩
                  replace hr : wr.drew.rangeAt gm (k * 7) (Rcd.cs ⟨hd, ht, hv, ⟨ix, et, kd, dt⟩⟩) := hr
                  replace hs : wr.drew.rangeAt gp (k * 7) (Rcd.cs ⟨hd, ht, hv, ⟨ix, et, kd, dt⟩⟩) := hs
                  replace hgm : gm < wr.drew.heap.size := hgm
                  replace hgp : gp < wr.drew.heap.size := hgp
                  replace hbr : Below w7.heap.size w7 wr.drew := hbr.drew
                  generalize wr.drew = wd at *
                  refine wpAnyH_take (i := 0) (oi := { dst := some 110, op := Op.move (Operand.tmp 14), type := 45, pos := "law.go:80", after := #[], guard := none }) (v := .slice (some ⟨gm, 0, none⟩) L2.length c6) rfl (by kernel_rfl) (by kernel_rfl) (by kernel_rfl) (fun _ _ _ h => h) (Or.inl ⟨by rfl, fun w hSw => ?_⟩) (by assumption) ?_
                  · (try dsimp only at hSw)
                    go_simp
                  try simp only [Act.put, List.setIfInBounds_toArray, List.set_cons_zero, List.set_cons_succ]
                  refine wpAnyH_take (i := 1) (oi := { dst := some 111, op := Op.move (Operand.tmp 20), type := 3, pos := "law.go:80", after := #[], guard := none }) (v := .int .i64 k) rfl (by kernel_rfl) (by kernel_rfl) (by kernel_rfl) (fun _ _ _ h => h) (Or.inl ⟨by rfl, fun w hSw => ?_⟩) (by assumption) ?_
                  · (try dsimp only at hSw)
                    go_simp
                  try simp only [Act.put, List.setIfInBounds_toArray, List.set_cons_zero, List.set_cons_succ]
                  refine wpAnyH_take (i := 2) (oi := { dst := some 112, op := Op.indexAddr 45 (Operand.tmp 110) (Operand.tmp 111), type := 0, pos := "law.go:80", after := #[{ on := 0, ground := Ground.data }, { on := 1, ground := Ground.data }], guard := none }) (v := .pointer (some ⟨gm, k * 7, none⟩)) rfl (by kernel_rfl) (by kernel_rfl) (by kernel_rfl) (fun _ _ _ h => h) (Or.inl ⟨by rfl, fun w hSw => ?_⟩) (by assumption) ?_
                  · (try dsimp only at hSw)
                    go_simp
                  try simp only [Act.put, List.setIfInBounds_toArray, List.set_cons_zero, List.set_cons_succ]
                  refine wpAnyH_take (i := 3) (oi := { dst := some 113, op := Op.load 32 (Operand.tmp 112), type := 32, pos := "law.go:80", after := #[{ on := 2, ground := Ground.data }], guard := none }) (v := .agg #[.bool hd, .int .i64 ht, .int .i64 hv, .int .i64 ix, .int .i64 et, .int .i64 kd, .string dt]) rfl (by kernel_rfl) (by kernel_rfl) (by kernel_rfl) (fun _ _ _ h => h) (Or.inl ⟨by rfl, fun w hSw => ?_⟩) (by assumption) ?_
                  · (try dsimp only at hSw)
                    have q0 := hSw.1 0 _ rfl
                    have q1 := hSw.1 1 _ rfl
                    have q2 := hSw.1 2 _ rfl
                    have q3 := hSw.1 3 _ rfl
                    have q4 := hSw.1 4 _ rfl
                    have q5 := hSw.1 5 _ rfl
                    have q6 := hSw.1 6 _ rfl
                    rw [Nat.add_zero] at q0
                    clear hSw
                    go_simp
                  try simp only [Act.put, List.setIfInBounds_toArray, List.set_cons_zero, List.set_cons_succ]
                  refine wpAnyH_take (i := 5) (oi := { dst := some 115, op := Op.move (Operand.tmp 17), type := 43, pos := "law.go:80", after := #[], guard := none }) (v := .slice (some ⟨gp, 0, none⟩) L2.length c7) rfl (by kernel_rfl) (by kernel_rfl) (by kernel_rfl) (fun _ _ _ h => h) (Or.inl ⟨by rfl, fun w hSw => ?_⟩) (by assumption) ?_
                  · (try dsimp only at hSw)
                    go_simp
                  try simp only [Act.put, List.setIfInBounds_toArray, List.set_cons_zero, List.set_cons_succ]
                  refine wpAnyH_take (i := 6) (oi := { dst := some 116, op := Op.move (Operand.tmp 20), type := 3, pos := "law.go:80", after := #[], guard := none }) (v := .int .i64 k) rfl (by kernel_rfl) (by kernel_rfl) (by kernel_rfl) (fun _ _ _ h => h) (Or.inl ⟨by rfl, fun w hSw => ?_⟩) (by assumption) ?_
                  · (try dsimp only at hSw)
                    go_simp
                  try simp only [Act.put, List.setIfInBounds_toArray, List.set_cons_zero, List.set_cons_succ]
                  refine wpAnyH_take (i := 7) (oi := { dst := some 117, op := Op.indexAddr 43 (Operand.tmp 115) (Operand.tmp 116), type := 0, pos := "law.go:80", after := #[{ on := 5, ground := Ground.data }, { on := 6, ground := Ground.data }], guard := none }) (v := .pointer (some ⟨gp, k * 7, none⟩)) rfl (by kernel_rfl) (by kernel_rfl) (by kernel_rfl) (fun _ _ _ h => h) (Or.inl ⟨by rfl, fun w hSw => ?_⟩) (by assumption) ?_
                  · (try dsimp only at hSw)
                    go_simp
                  try simp only [Act.put, List.setIfInBounds_toArray, List.set_cons_zero, List.set_cons_succ]
                  refine wpAnyH_take (i := 8) (oi := { dst := some 118, op := Op.load 27 (Operand.tmp 117), type := 27, pos := "law.go:80", after := #[{ on := 7, ground := Ground.data }], guard := none }) (v := .agg #[.bool hd, .int .i64 ht, .int .i64 hv, .int .i64 ix, .int .i64 et, .int .i64 kd, .string dt]) rfl (by kernel_rfl) (by kernel_rfl) (by kernel_rfl) (fun _ _ _ h => h) (Or.inl ⟨by rfl, fun w hSw => ?_⟩) (by assumption) ?_
                  · (try dsimp only at hSw)
                    have q0 := hSw.2 0 _ rfl
                    have q1 := hSw.2 1 _ rfl
                    have q2 := hSw.2 2 _ rfl
                    have q3 := hSw.2 3 _ rfl
                    have q4 := hSw.2 4 _ rfl
                    have q5 := hSw.2 5 _ rfl
                    have q6 := hSw.2 6 _ rfl
                    rw [Nat.add_zero] at q0
                    clear hSw
                    go_simp
                  try simp only [Act.put, List.setIfInBounds_toArray, List.set_cons_zero, List.set_cons_succ]
                  refine wpAnyH_ready (rs := [4]) (by kernel_rfl) (by simp) ?_
                  refine AllReadyH.cons (o := { dst := some 114, op := Op.call { callee := Callee.value (Operand.func 19), args := #[Operand.tmp 113], argTypes := #[32] }, type := 27, pos := "law.go:80", after := #[{ on := 3, ground := Ground.data }], guard := none }) rfl (fun K hK => ?_) AllReadyH.nil
                  go_simp
                  go_at_call 19
                  refine (back10_any hd ht hv ix et kd dt _).mono ?_
                  rintro e kq ⟨rfl, hq⟩
                  replace hr := rng_below10 hr hq hgm
                  replace hs := rng_below10 hs hq hgp
                  replace hgm := Nat.lt_of_lt_of_le hgm hq.size
                  replace hgp := Nat.lt_of_lt_of_le hgp hq.size
                  replace hbr := hbr.trans (hq.mono hbr.size)
                  clear hq
                  refine hK.out _ _ ?_ (fun hHeld => ?_)
                  · exact ⟨hr, hs⟩
                  clear hK K
                  try simp only [Act.put, List.setIfInBounds_toArray, List.set_cons_zero, List.set_cons_succ]
                  refine wpAnyH_ready (rs := [9]) (by kernel_rfl) (by simp) ?_
                  refine AllReadyH.cons (o := { dst := some 119, op := Op.call { callee := Callee.value (Operand.func 18), args := #[Operand.tmp 114, Operand.tmp 118], argTypes := #[27, 27] }, type := 4, pos := "law.go:80", after := #[{ on := 4, ground := Ground.data }, { on := 8, ground := Ground.data }, { on := 4, ground := Ground.chain }], guard := none }) rfl (fun K hK => ?_) AllReadyH.nil
                  go_simp
                  go_at_call 18
                  refine (req10_any ⟨hd, ht, hv, ⟨ix, et, kd, dt⟩⟩ ⟨hd, ht, hv, ⟨ix, et, kd, dt⟩⟩ _).mono ?_
                  rintro e kr ⟨rfl, hq⟩
                  rw [eq10_self]
                  replace hr := rng_below10 hr hq hgm
                  replace hs := rng_below10 hs hq hgp
                  replace hgm := Nat.lt_of_lt_of_le hgm hq.size
                  replace hgp := Nat.lt_of_lt_of_le hgp hq.size
                  replace hbr := hbr.trans (hq.mono hbr.size)
                  clear hq
                  refine hK.out _ _ ?_ (fun hHeld => ?_)
                  · exact ⟨hr, hs⟩
                  clear hK K
                  try simp only [Act.put, List.setIfInBounds_toArray, List.set_cons_zero, List.set_cons_succ]
                  refine wpAnyH_take (i := 10) (oi := { dst := some 120, op := Op.unOp UnOp.not 4 (Operand.tmp 119), type := 4, pos := "law.go:80", after := #[{ on := 9, ground := Ground.data }], guard := none }) (v := .bool false) rfl (by kernel_rfl) (by kernel_rfl) (by kernel_rfl) (fun _ _ _ h => h) (Or.inl ⟨by rfl, fun w hSw => ?_⟩) (by assumption) ?_
                  · (try dsimp only at hSw)
                    go_simp
                  try simp only [Act.put, List.setIfInBounds_toArray, List.set_cons_zero, List.set_cons_succ]
                  refine wpAnyH_done (by kernel_rfl) ?_ _
                  refine NoPanic.normal ?_
                  clear hr hs hgm hgp hHeld
                  have HBR := Lib.hid hbr
                  clear hbr
                  go_wp2
                  go_roundw
                  case rel => exact ⟨k + 1, by go_num, by omega, HBR.out⟩
                  case measure => simp [intOf]; omega
                · have hge : (L2.length : Int) ≤ k := by omega
                  clear hlt
                  go_wp2_with fail
                  go_ret
                  exact ⟨rfl, HBW7.out.trans (hbr.mono HBW7.out.size)⟩
            · have hp0 : (0 : Int) < n := by omega
              by_cases h2 : a2 < 0
              · have HOW := HOWN
                have HFL := HNP
                have HBW := HB3
                obtain ⟨F, hF⟩ : ∃ F, NN = F := ⟨_, rfl⟩
                rw [hF] at HOW HFL
                clear HOWN HNP HB3 hF
                go_wp2_with fail
                obtain ⟨L0, hL0⟩ : ∃ q, q = F.length := ⟨_, rfl⟩
                refine (Swscan_any _ _ F _ (Byt.of_own HOW.out) (Nat.le_refl _) (by rw [HFL.out]; omega) (hTT _ HBW.out) (own_nz HOW.out)).mono ?_
                rintro e w6 ⟨L, u, er, v6, hs, rfl, ho, h6⟩
                obtain ⟨A6, c6, rfl⟩ := ho.slice
                have HOW6 := Lib.hid (HOW.out.below h6)
                have HBW6 := Lib.hid (HBW.out.trans (h6.mono HBW.out.size))
                have HO6 := Lib.hid ho
                have HS := Lib.hid hs
                clear h6 ho hs HOW HBW
                go_wp2_with fail
                refine (Sqscan_any _ _ F _ (Byt.of_own HOW6.out) (Nat.le_refl _) (by rw [HFL.out]; omega) (own_nz HOW6.out)).mono ?_
                rintro e w7 ⟨L2, u2, er2, v7, hs2, rfl, ho2, h7⟩
                obtain ⟨rfl, rfl, rfl⟩ := ScR.two hs2 HS.out
                obtain ⟨A7, c7, rfl⟩ := ho2.slice
                have HO7 := Lib.hid (HO6.out.below h7)
                have HQ7 := Lib.hid ho2
                have HBW7 := Lib.hid (HBW6.out.trans (h7.mono HBW6.out.size))
                obtain ⟨bb, hbb⟩ : ∃ bb, (er2 == 2) = bb := ⟨_, rfl⟩
                rw [hbb]
                have hlen := HS.out.len
                obtain ⟨hl1, hl2, _⟩ := hlen
                rw [HFL.out] at hl1
                have hll : L2.length ≤ 30000 := by omega
                clear hbb hs2 ho2 h7 HO6 HOW6 HBW6 HS hl1 hl2 hL0
                go_wp2_with fail
                go_loopw [20] (fun i wr => ∃ k : Nat, i = .int .i64 k ∧ k ≤ L2.length ∧ Below w7.heap.size w7 wr) (fun i _ => L2.length - (intOf i).toNat)
                case atStart => exact ⟨0, rfl, Nat.zero_le _, Below.refl _ _⟩
                case round =>
                  obtain ⟨k, rfl, hk, hbr⟩ := hrel
                  by_cases hlt : k < L2.length
                  · have hki : (k : Int) < L2.length := by omega
                    obtain ⟨gm, hA6, _, hgm, _, _, hr⟩ := (HO7.out.below hbr).at_ k hlt
                    obtain ⟨gp, hA7, _, hgp, _, _, hs⟩ := (HQ7.out.below hbr).at_ k hlt
                    subst hA6; subst hA7
                    obtain ⟨⟨hd, ht, hv, ⟨ix, et, kd, dt⟩⟩, hrr⟩ : ∃ r, L2[k] = r := ⟨_, rfl⟩
                    rw [hrr] at hr hs
                    clear hrr
                    have HRR := Lib.hid hr; have HSS := Lib.hid hs; have HBR := Lib.hid hbr
                    clear hr hs hbr
                    go_upto_region 21 with fail
                    have hr := HRR.out; have hs := HSS.out; have hbr := HBR.out
                    clear HRR HSS HBR
                    refine wp_region_noPanic ?_
                    refine wp_region_held_drew (S := fun W => W.rangeAt gm (k * 7) (Rcd.cs ⟨hd, ht, hv, ⟨ix, et, kd, dt⟩⟩) ∧ W.rangeAt gp (k * 7) (Rcd.cs ⟨hd, ht, hv, ⟨ix, et, kd, dt⟩⟩)) (by kernel_rfl) ?_ (fun hHeld => ?_)
                    · exact ⟨hr, hs⟩
                    replace hr : wr.drew.rangeAt gm (k * 7) (Rcd.cs ⟨hd, ht, hv, ⟨ix, et, kd, dt⟩⟩) := hr
                    replace hs : wr.drew.rangeAt gp (k * 7) (Rcd.cs ⟨hd, ht, hv, ⟨ix, et, kd, dt⟩⟩) := hs
                    replace hgm : gm < wr.drew.heap.size := hgm
                    replace hgp : gp < wr.drew.heap.size := hgp
                    replace hbr : Below w7.heap.size w7 wr.drew := hbr.drew
                    generalize wr.drew = wd at *
                    refine wpAnyH_take (i := 0) (oi := { dst := some 110, op := Op.move (Operand.tmp 14), type := 45, pos := "law.go:80", after := #[], guard := none }) (v := .slice (some ⟨gm, 0, none⟩) L2.length c6) rfl (by kernel_rfl) (by kernel_rfl) (by kernel_rfl) (fun _ _ _ h => h) (Or.inl ⟨by rfl, fun w hSw => ?_⟩) (by assumption) ?_
                    · (try dsimp only at hSw)
                      go_simp
                    try simp only [Act.put, List.setIfInBounds_toArray, List.set_cons_zero, List.set_cons_succ]
                    refine wpAnyH_take (i := 1) (oi := { dst := some 111, op := Op.move (Operand.tmp 20), type := 3, pos := "law.go:80", after := #[], guard := none }) (v := .int .i64 k) rfl (by kernel_rfl) (by kernel_rfl) (by kernel_rfl) (fun _ _ _ h => h) (Or.inl ⟨by rfl, fun w hSw => ?_⟩) (by assumption) ?_
                    · (try dsimp only at hSw)
                      go_simp
                    try simp only [Act.put, List.setIfInBounds_toArray, List.set_cons_zero, List.set_cons_succ]
                    refine wpAnyH_take (i := 2) (oi := { dst := some 112, op := Op.indexAddr 45 (Operand.tmp 110) (Operand.tmp 111), type := 0, pos := "law.go:80", after := #[{ on := 0, ground := Ground.data }, { on := 1, ground := Ground.data }], guard := none }) (v := .pointer (some ⟨gm, k * 7, none⟩)) rfl (by kernel_rfl) (by kernel_rfl) (by kernel_rfl) (fun _ _ _ h => h) (Or.inl ⟨by rfl, fun w hSw => ?_⟩) (by assumption) ?_
                    · (try dsimp only at hSw)
                      go_simp
                    try simp only [Act.put, List.setIfInBounds_toArray, List.set_cons_zero, List.set_cons_succ]
                    refine wpAnyH_take (i := 3) (oi := { dst := some 113, op := Op.load 32 (Operand.tmp 112), type := 32, pos := "law.go:80", after := #[{ on := 2, ground := Ground.data }], guard := none }) (v := .agg #[.bool hd, .int .i64 ht, .int .i64 hv, .int .i64 ix, .int .i64 et, .int .i64 kd, .string dt]) rfl (by kernel_rfl) (by kernel_rfl) (by kernel_rfl) (fun _ _ _ h => h) (Or.inl ⟨by rfl, fun w hSw => ?_⟩) (by assumption) ?_
                    · (try dsimp only at hSw)
                      have q0 := hSw.1 0 _ rfl
                      have q1 := hSw.1 1 _ rfl
                      have q2 := hSw.1 2 _ rfl
                      have q3 := hSw.1 3 _ rfl
                      have q4 := hSw.1 4 _ rfl
                      have q5 := hSw.1 5 _ rfl
                      have q6 := hSw.1 6 _ rfl
                      rw [Nat.add_zero] at q0
                      clear hSw
                      go_simp
                    try simp only [Act.put, List.setIfInBounds_toArray, List.set_cons_zero, List.set_cons_succ]
                    refine wpAnyH_take (i := 5) (oi := { dst := some 115, op := Op.move (Operand.tmp 17), type := 43, pos := "law.go:80", after := #[], guard := none }) (v := .slice (some ⟨gp, 0, none⟩) L2.length c7) rfl (by kernel_rfl) (by kernel_rfl) (by kernel_rfl) (fun _ _ _ h => h) (Or.inl ⟨by rfl, fun w hSw => ?_⟩) (by assumption) ?_
                    · (try dsimp only at hSw)
                      go_simp
                    try simp only [Act.put, List.setIfInBounds_toArray, List.set_cons_zero, List.set_cons_succ]
                    refine wpAnyH_take (i := 6) (oi := { dst := some 116, op := Op.move (Operand.tmp 20), type := 3, pos := "law.go:80", after := #[], guard := none }) (v := .int .i64 k) rfl (by kernel_rfl) (by kernel_rfl) (by kernel_rfl) (fun _ _ _ h => h) (Or.inl ⟨by rfl, fun w hSw => ?_⟩) (by assumption) ?_
                    · (try dsimp only at hSw)
                      go_simp
                    try simp only [Act.put, List.setIfInBounds_toArray, List.set_cons_zero, List.set_cons_succ]
                    refine wpAnyH_take (i := 7) (oi := { dst := some 117, op := Op.indexAddr 43 (Operand.tmp 115) (Operand.tmp 116), type := 0, pos := "law.go:80", after := #[{ on := 5, ground := Ground.data }, { on := 6, ground := Ground.data }], guard := none }) (v := .pointer (some ⟨gp, k * 7, none⟩)) rfl (by kernel_rfl) (by kernel_rfl) (by kernel_rfl) (fun _ _ _ h => h) (Or.inl ⟨by rfl, fun w hSw => ?_⟩) (by assumption) ?_
                    · (try dsimp only at hSw)
                      go_simp
                    try simp only [Act.put, List.setIfInBounds_toArray, List.set_cons_zero, List.set_cons_succ]
                    refine wpAnyH_take (i := 8) (oi := { dst := some 118, op := Op.load 27 (Operand.tmp 117), type := 27, pos := "law.go:80", after := #[{ on := 7, ground := Ground.data }], guard := none }) (v := .agg #[.bool hd, .int .i64 ht, .int .i64 hv, .int .i64 ix, .int .i64 et, .int .i64 kd, .string dt]) rfl (by kernel_rfl) (by kernel_rfl) (by kernel_rfl) (fun _ _ _ h => h) (Or.inl ⟨by rfl, fun w hSw => ?_⟩) (by assumption) ?_
                    · (try dsimp only at hSw)
                      have q0 := hSw.2 0 _ rfl
                      have q1 := hSw.2 1 _ rfl
                      have q2 := hSw.2 2 _ rfl
                      have q3 := hSw.2 3 _ rfl
                      have q4 := hSw.2 4 _ rfl
                      have q5 := hSw.2 5 _ rfl
                      have q6 := hSw.2 6 _ rfl
                      rw [Nat.add_zero] at q0
                      clear hSw
                      go_simp
                    try simp only [Act.put, List.setIfInBounds_toArray, List.set_cons_zero, List.set_cons_succ]
                    refine wpAnyH_ready (rs := [4]) (by kernel_rfl) (by simp) ?_
                    refine AllReadyH.cons (o := { dst := some 114, op := Op.call { callee := Callee.value (Operand.func 19), args := #[Operand.tmp 113], argTypes := #[32] }, type := 27, pos := "law.go:80", after := #[{ on := 3, ground := Ground.data }], guard := none }) rfl (fun K hK => ?_) AllReadyH.nil
                    go_simp
                    go_at_call 19
                    refine (back10_any hd ht hv ix et kd dt _).mono ?_
                    rintro e kq ⟨rfl, hq⟩
                    replace hr := rng_below10 hr hq hgm
                    replace hs := rng_below10 hs hq hgp
                    replace hgm := Nat.lt_of_lt_of_le hgm hq.size
                    replace hgp := Nat.lt_of_lt_of_le hgp hq.size
                    replace hbr := hbr.trans (hq.mono hbr.size)
                    clear hq
                    refine hK.out _ _ ?_ (fun hHeld => ?_)
                    · exact ⟨hr, hs⟩
                    clear hK K
                    try simp only [Act.put, List.setIfInBounds_toArray, List.set_cons_zero, List.set_cons_succ]
                    refine wpAnyH_ready (rs := [9]) (by kernel_rfl) (by simp) ?_
                    refine AllReadyH.cons (o := { dst := some 119, op := Op.call { callee := Callee.value (Operand.func 18), args := #[Operand.tmp 114, Operand.tmp 118], argTypes := #[27, 27] }, type := 4, pos := "law.go:80", after := #[{ on := 4, ground := Ground.data }, { on := 8, ground := Ground.data }, { on := 4, ground := Ground.chain }], guard := none }) rfl (fun K hK => ?_) AllReadyH.nil
                    go_simp
                    go_at_call 18
                    refine (req10_any ⟨hd, ht, hv, ⟨ix, et, kd, dt⟩⟩ ⟨hd, ht, hv, ⟨ix, et, kd, dt⟩⟩ _).mono ?_
                    rintro e kr ⟨rfl, hq⟩
                    rw [eq10_self]
                    replace hr := rng_below10 hr hq hgm
                    replace hs := rng_below10 hs hq hgp
                    replace hgm := Nat.lt_of_lt_of_le hgm hq.size
                    replace hgp := Nat.lt_of_lt_of_le hgp hq.size
                    replace hbr := hbr.trans (hq.mono hbr.size)
                    clear hq
                    refine hK.out _ _ ?_ (fun hHeld => ?_)
                    · exact ⟨hr, hs⟩
                    clear hK K
                    try simp only [Act.put, List.setIfInBounds_toArray, List.set_cons_zero, List.set_cons_succ]
                    refine wpAnyH_take (i := 10) (oi := { dst := some 120, op := Op.unOp UnOp.not 4 (Operand.tmp 119), type := 4, pos := "law.go:80", after := #[{ on := 9, ground := Ground.data }], guard := none }) (v := .bool false) rfl (by kernel_rfl) (by kernel_rfl) (by kernel_rfl) (fun _ _ _ h => h) (Or.inl ⟨by rfl, fun w hSw => ?_⟩) (by assumption) ?_
                    · (try dsimp only at hSw)
                      go_simp
                    try simp only [Act.put, List.setIfInBounds_toArray, List.set_cons_zero, List.set_cons_succ]
                    refine wpAnyH_done (by kernel_rfl) ?_ _
                    refine NoPanic.normal ?_
                    clear hr hs hgm hgp hHeld
                    have HBR := Lib.hid hbr
                    clear hbr
                    go_wp2
                    go_roundw
                    case rel => exact ⟨k + 1, by go_num, by omega, HBR.out⟩
                    case measure => simp [intOf]; omega
                  · have hge : (L2.length : Int) ≤ k := by omega
                    clear hlt
                    go_wp2_with fail
                    go_ret
                    exact ⟨rfl, HBW7.out.trans (hbr.mono HBW7.out.size)⟩
              · obtain ⟨j, hj⟩ : ∃ j : Nat, a2 % (n : Int) = (j : Int) := ⟨(a2 % (n : Int)).toNat, by have := Int.emod_nonneg a2 (show (n : Int) ≠ 0 by omega); omega⟩
                have hjl : j < n := by have := Int.emod_lt_of_pos a2 hp0; omega
                obtain ⟨g, hA, hlo, hhi, hfz, hcn⟩ := own_at10 HOWN.out HNP.out j hjl
                subst hA
                have hfj := hfz j
                obtain ⟨y0, hy0⟩ : ∃ y, NN[j]'(by rw [HNP.out]; exact hjl) = y := ⟨_, rfl⟩
                rw [hy0] at hcn
                obtain ⟨y, hy⟩ : ∃ y, y0 ^^^ X = y := ⟨_, rfl⟩
                have hxor : bits BinOp.xor IntKind.u8 (y0.toNat : Int) (X.toNat : Int) = (y.toNat : Int) := by rw [u8_xor, hy]
                have hset := own_set10 (y := y) HOWN.out HNP.out (by rw [HNP.out]; exact hjl)
                have hbs := HB3.out.setCell (p := ⟨g, j, none⟩) (Nat.le_trans hww hlo) (.int .u8 (y.toNat : Int))
                have HFL : Hid ((NN.set j y).length = n) := Lib.hid (by rw [List.length_set]; exact HNP.out)
                obtain ⟨F, hF⟩ : ∃ F, NN.set j y = F := ⟨_, rfl⟩
                rw [hF] at hset HFL
                have HOW := Lib.hid hset; have HBW := Lib.hid hbs
                obtain ⟨yn, hyn⟩ : ∃ yn : Nat, y.toNat = yn := ⟨_, rfl⟩
                obtain ⟨cn, hcn2⟩ : ∃ cn : Nat, y0.toNat = cn := ⟨_, rfl⟩
                obtain ⟨Xn, hXn⟩ : ∃ Xn : Nat, X.toNat = Xn := ⟨_, rfl⟩
                rw [hyn] at hxor HOW HBW
                rw [hcn2] at hxor hcn
                rw [hXn] at hxor ⊢
                clear hset hbs hF hyn hcn2 hXn hy hy0 hfz HOWN HNP HB3 hw3
                go_wp2_with fail
                obtain ⟨L0, hL0⟩ : ∃ q, q = F.length := ⟨_, rfl⟩
                refine (Swscan_any _ _ F _ (Byt.of_own HOW.out) (Nat.le_refl _) (by rw [HFL.out]; omega) (hTT _ HBW.out) (own_nz HOW.out)).mono ?_
                rintro e w6 ⟨L, u, er, v6, hs, rfl, ho, h6⟩
                obtain ⟨A6, c6, rfl⟩ := ho.slice
                have HOW6 := Lib.hid (HOW.out.below h6)
                have HBW6 := Lib.hid (HBW.out.trans (h6.mono HBW.out.size))
                have HO6 := Lib.hid ho
                have HS := Lib.hid hs
                clear h6 ho hs HOW HBW
                go_wp2_with fail
                refine (Sqscan_any _ _ F _ (Byt.of_own HOW6.out) (Nat.le_refl _) (by rw [HFL.out]; omega) (own_nz HOW6.out)).mono ?_
                rintro e w7 ⟨L2, u2, er2, v7, hs2, rfl, ho2, h7⟩
                obtain ⟨rfl, rfl, rfl⟩ := ScR.two hs2 HS.out
                obtain ⟨A7, c7, rfl⟩ := ho2.slice
                have HO7 := Lib.hid (HO6.out.below h7)
                have HQ7 := Lib.hid ho2
                have HBW7 := Lib.hid (HBW6.out.trans (h7.mono HBW6.out.size))
                obtain ⟨bb, hbb⟩ : ∃ bb, (er2 == 2) = bb := ⟨_, rfl⟩
                rw [hbb]
                have hlen := HS.out.len
                obtain ⟨hl1, hl2, _⟩ := hlen
                rw [HFL.out] at hl1
                have hll : L2.length ≤ 30000 := by omega
                clear hbb hs2 ho2 h7 HO6 HOW6 HBW6 HS hl1 hl2 hL0
                go_wp2_with fail
                go_loopw [20] (fun i wr => ∃ k : Nat, i = .int .i64 k ∧ k ≤ L2.length ∧ Below w7.heap.size w7 wr) (fun i _ => L2.length - (intOf i).toNat)
                case atStart => exact ⟨0, rfl, Nat.zero_le _, Below.refl _ _⟩
                case round =>
                  obtain ⟨k, rfl, hk, hbr⟩ := hrel
                  by_cases hlt : k < L2.length
                  · have hki : (k : Int) < L2.length := by omega
                    obtain ⟨gm, hA6, _, hgm, _, _, hr⟩ := (HO7.out.below hbr).at_ k hlt
                    obtain ⟨gp, hA7, _, hgp, _, _, hs⟩ := (HQ7.out.below hbr).at_ k hlt
                    subst hA6; subst hA7
                    obtain ⟨⟨hd, ht, hv, ⟨ix, et, kd, dt⟩⟩, hrr⟩ : ∃ r, L2[k] = r := ⟨_, rfl⟩
                    rw [hrr] at hr hs
                    clear hrr
                    have HRR := Lib.hid hr; have HSS := Lib.hid hs; have HBR := Lib.hid hbr
                    clear hr hs hbr
                    go_upto_region 21 with fail
                    have hr := HRR.out; have hs := HSS.out; have hbr := HBR.out
                    clear HRR HSS HBR
                    refine wp_region_noPanic ?_
                    refine wp_region_held_drew (S := fun W => W.rangeAt gm (k * 7) (Rcd.cs ⟨hd, ht, hv, ⟨ix, et, kd, dt⟩⟩) ∧ W.rangeAt gp (k * 7) (Rcd.cs ⟨hd, ht, hv, ⟨ix, et, kd, dt⟩⟩)) (by kernel_rfl) ?_ (fun hHeld => ?_)
                    · exact ⟨hr, hs⟩
                    replace hr : wr.drew.rangeAt gm (k * 7) (Rcd.cs ⟨hd, ht, hv, ⟨ix, et, kd, dt⟩⟩) := hr
                    replace hs : wr.drew.rangeAt gp (k * 7) (Rcd.cs ⟨hd, ht, hv, ⟨ix, et, kd, dt⟩⟩) := hs
                    replace hgm : gm < wr.drew.heap.size := hgm
                    replace hgp : gp < wr.drew.heap.size := hgp
                    replace hbr : Below w7.heap.size w7 wr.drew := hbr.drew
                    generalize wr.drew = wd at *
                    refine wpAnyH_take (i := 0) (oi := { dst := some 110, op := Op.move (Operand.tmp 14), type := 45, pos := "law.go:80", after := #[], guard := none }) (v := .slice (some ⟨gm, 0, none⟩) L2.length c6) rfl (by kernel_rfl) (by kernel_rfl) (by kernel_rfl) (fun _ _ _ h => h) (Or.inl ⟨by rfl, fun w hSw => ?_⟩) (by assumption) ?_
                    · (try dsimp only at hSw)
                      go_simp
                    try simp only [Act.put, List.setIfInBounds_toArray, List.set_cons_zero, List.set_cons_succ]
                    refine wpAnyH_take (i := 1) (oi := { dst := some 111, op := Op.move (Operand.tmp 20), type := 3, pos := "law.go:80", after := #[], guard := none }) (v := .int .i64 k) rfl (by kernel_rfl) (by kernel_rfl) (by kernel_rfl) (fun _ _ _ h => h) (Or.inl ⟨by rfl, fun w hSw => ?_⟩) (by assumption) ?_
                    · (try dsimp only at hSw)
                      go_simp
                    try simp only [Act.put, List.setIfInBounds_toArray, List.set_cons_zero, List.set_cons_succ]
                    refine wpAnyH_take (i := 2) (oi := { dst := some 112, op := Op.indexAddr 45 (Operand.tmp 110) (Operand.tmp 111), type := 0, pos := "law.go:80", after := #[{ on := 0, ground := Ground.data }, { on := 1, ground := Ground.data }], guard := none }) (v := .pointer (some ⟨gm, k * 7, none⟩)) rfl (by kernel_rfl) (by kernel_rfl) (by kernel_rfl) (fun _ _ _ h => h) (Or.inl ⟨by rfl, fun w hSw => ?_⟩) (by assumption) ?_
                    · (try dsimp only at hSw)
                      go_simp
                    try simp only [Act.put, List.setIfInBounds_toArray, List.set_cons_zero, List.set_cons_succ]
                    refine wpAnyH_take (i := 3) (oi := { dst := some 113, op := Op.load 32 (Operand.tmp 112), type := 32, pos := "law.go:80", after := #[{ on := 2, ground := Ground.data }], guard := none }) (v := .agg #[.bool hd, .int .i64 ht, .int .i64 hv, .int .i64 ix, .int .i64 et, .int .i64 kd, .string dt]) rfl (by kernel_rfl) (by kernel_rfl) (by kernel_rfl) (fun _ _ _ h => h) (Or.inl ⟨by rfl, fun w hSw => ?_⟩) (by assumption) ?_
                    · (try dsimp only at hSw)
                      have q0 := hSw.1 0 _ rfl
                      have q1 := hSw.1 1 _ rfl
                      have q2 := hSw.1 2 _ rfl
                      have q3 := hSw.1 3 _ rfl
                      have q4 := hSw.1 4 _ rfl
                      have q5 := hSw.1 5 _ rfl
                      have q6 := hSw.1 6 _ rfl
                      rw [Nat.add_zero] at q0
                      clear hSw
                      go_simp
                    try simp only [Act.put, List.setIfInBounds_toArray, List.set_cons_zero, List.set_cons_succ]
                    refine wpAnyH_take (i := 5) (oi := { dst := some 115, op := Op.move (Operand.tmp 17), type := 43, pos := "law.go:80", after := #[], guard := none }) (v := .slice (some ⟨gp, 0, none⟩) L2.length c7) rfl (by kernel_rfl) (by kernel_rfl) (by kernel_rfl) (fun _ _ _ h => h) (Or.inl ⟨by rfl, fun w hSw => ?_⟩) (by assumption) ?_
                    · (try dsimp only at hSw)
                      go_simp
                    try simp only [Act.put, List.setIfInBounds_toArray, List.set_cons_zero, List.set_cons_succ]
                    refine wpAnyH_take (i := 6) (oi := { dst := some 116, op := Op.move (Operand.tmp 20), type := 3, pos := "law.go:80", after := #[], guard := none }) (v := .int .i64 k) rfl (by kernel_rfl) (by kernel_rfl) (by kernel_rfl) (fun _ _ _ h => h) (Or.inl ⟨by rfl, fun w hSw => ?_⟩) (by assumption) ?_
                    · (try dsimp only at hSw)
                      go_simp
                    try simp only [Act.put, List.setIfInBounds_toArray, List.set_cons_zero, List.set_cons_succ]
                    refine wpAnyH_take (i := 7) (oi := { dst := some 117, op := Op.indexAddr 43 (Operand.tmp 115) (Operand.tmp 116), type := 0, pos := "law.go:80", after := #[{ on := 5, ground := Ground.data }, { on := 6, ground := Ground.data }], guard := none }) (v := .pointer (some ⟨gp, k * 7, none⟩)) rfl (by kernel_rfl) (by kernel_rfl) (by kernel_rfl) (fun _ _ _ h => h) (Or.inl ⟨by rfl, fun w hSw => ?_⟩) (by assumption) ?_
                    · (try dsimp only at hSw)
                      go_simp
                    try simp only [Act.put, List.setIfInBounds_toArray, List.set_cons_zero, List.set_cons_succ]
                    refine wpAnyH_take (i := 8) (oi := { dst := some 118, op := Op.load 27 (Operand.tmp 117), type := 27, pos := "law.go:80", after := #[{ on := 7, ground := Ground.data }], guard := none }) (v := .agg #[.bool hd, .int .i64 ht, .int .i64 hv, .int .i64 ix, .int .i64 et, .int .i64 kd, .string dt]) rfl (by kernel_rfl) (by kernel_rfl) (by kernel_rfl) (fun _ _ _ h => h) (Or.inl ⟨by rfl, fun w hSw => ?_⟩) (by assumption) ?_
                    · (try dsimp only at hSw)
                      have q0 := hSw.2 0 _ rfl
                      have q1 := hSw.2 1 _ rfl
                      have q2 := hSw.2 2 _ rfl
                      have q3 := hSw.2 3 _ rfl
                      have q4 := hSw.2 4 _ rfl
                      have q5 := hSw.2 5 _ rfl
                      have q6 := hSw.2 6 _ rfl
                      rw [Nat.add_zero] at q0
                      clear hSw
                      go_simp
                    try simp only [Act.put, List.setIfInBounds_toArray, List.set_cons_zero, List.set_cons_succ]
                    refine wpAnyH_ready (rs := [4]) (by kernel_rfl) (by simp) ?_
                    refine AllReadyH.cons (o := { dst := some 114, op := Op.call { callee := Callee.value (Operand.func 19), args := #[Operand.tmp 113], argTypes := #[32] }, type := 27, pos := "law.go:80", after := #[{ on := 3, ground := Ground.data }], guard := none }) rfl (fun K hK => ?_) AllReadyH.nil
                    go_simp
                    go_at_call 19
                    refine (back10_any hd ht hv ix et kd dt _).mono ?_
                    rintro e kq ⟨rfl, hq⟩
                    replace hr := rng_below10 hr hq hgm
                    replace hs := rng_below10 hs hq hgp
                    replace hgm := Nat.lt_of_lt_of_le hgm hq.size
                    replace hgp := Nat.lt_of_lt_of_le hgp hq.size
                    replace hbr := hbr.trans (hq.mono hbr.size)
                    clear hq
                    refine hK.out _ _ ?_ (fun hHeld => ?_)
                    · exact ⟨hr, hs⟩
                    clear hK K
                    try simp only [Act.put, List.setIfInBounds_toArray, List.set_cons_zero, List.set_cons_succ]
                    refine wpAnyH_ready (rs := [9]) (by kernel_rfl) (by simp) ?_
                    refine AllReadyH.cons (o := { dst := some 119, op := Op.call { callee := Callee.value (Operand.func 18), args := #[Operand.tmp 114, Operand.tmp 118], argTypes := #[27, 27] }, type := 4, pos := "law.go:80", after := #[{ on := 4, ground := Ground.data }, { on := 8, ground := Ground.data }, { on := 4, ground := Ground.chain }], guard := none }) rfl (fun K hK => ?_) AllReadyH.nil
                    go_simp
                    go_at_call 18
                    refine (req10_any ⟨hd, ht, hv, ⟨ix, et, kd, dt⟩⟩ ⟨hd, ht, hv, ⟨ix, et, kd, dt⟩⟩ _).mono ?_
                    rintro e kr ⟨rfl, hq⟩
                    rw [eq10_self]
                    replace hr := rng_below10 hr hq hgm
                    replace hs := rng_below10 hs hq hgp
                    replace hgm := Nat.lt_of_lt_of_le hgm hq.size
                    replace hgp := Nat.lt_of_lt_of_le hgp hq.size
                    replace hbr := hbr.trans (hq.mono hbr.size)
                    clear hq
                    refine hK.out _ _ ?_ (fun hHeld => ?_)
                    · exact ⟨hr, hs⟩
                    clear hK K
                    try simp only [Act.put, List.setIfInBounds_toArray, List.set_cons_zero, List.set_cons_succ]
                    refine wpAnyH_take (i := 10) (oi := { dst := some 120, op := Op.unOp UnOp.not 4 (Operand.tmp 119), type := 4, pos := "law.go:80", after := #[{ on := 9, ground := Ground.data }], guard := none }) (v := .bool false) rfl (by kernel_rfl) (by kernel_rfl) (by kernel_rfl) (fun _ _ _ h => h) (Or.inl ⟨by rfl, fun w hSw => ?_⟩) (by assumption) ?_
                    · (try dsimp only at hSw)
                      go_simp
                    try simp only [Act.put, List.setIfInBounds_toArray, List.set_cons_zero, List.set_cons_succ]
                    refine wpAnyH_done (by kernel_rfl) ?_ _
                    refine NoPanic.normal ?_
                    clear hr hs hgm hgp hHeld
                    have HBR := Lib.hid hbr
                    clear hbr
                    go_wp2
                    go_roundw
                    case rel => exact ⟨k + 1, by go_num, by omega, HBR.out⟩
                    case measure => simp [intOf]; omega
                  · have hge : (L2.length : Int) ≤ k := by omega
                    clear hlt
                    go_wp2_with fail
                    go_ret
                    exact ⟨rfl, HBW7.out.trans (hbr.mono HBW7.out.size)⟩

set_option maxRecDepth 100000 in
theorem lifted (os : Os) (started : os.Started) (H : Type) (enc : TypeId × Value → H) :
    ReturnsInHanded {} Tryd.checked os 4 .any (fun w args => (Rows.walScanSpec.pre enc Tryd.prog Tryd.f4 [] false w args ∧ laidMetH Tryd.prog laidS w) ∧ sizedMet enc Tryd.prog Tryd.f4 (OpenSpec.ofChange Rows.walScanSpec) false w args) (Rows.walScanSpec.post enc Tryd.prog Tryd.f4 false true false false) := by
  refine returnsInHanded_of_change_and (C := Tryd.checked) (X := fun w _ => laidMetH Tryd.prog laidS w) (fun _ _ _ hh h => h.of_heap hh) own started (by kernel_rfl) Tryd.func4
    (ChangeSpec.witness_at (enc := enc) (C := Tryd.checked) (os := os) (X := fun w _ => laidMetH Tryd.prog laidS w) false (laidWorld os) #[.slice none 0 0, .int .i64 0, .int .i64 0, .int .u8 0, .slice none 0 0] 8 rfl (by kernel_rfl) (by kernel_rfl) (by kernel_rfl) (by kernel_rfl) (by kernel_rfl) (laid_met os _)) ?_
  intro W base args ds gs before hval0 hW hcnd _ hL _
  have hT := tbl_of_laid hL
  have hval : ∀ (j : Nat) t v, Tryd.f4.params[j]? = some t → args[j]? = some v → Value.okWide Tryd.prog W .any base t v := hval0
  have hW' := hW
  obtain ⟨p, q, hA0, hV, rfl, hfz, hnd⟩ := hW
  have hA : DataW.TrodAll enc Tryd.prog W 0 (fun _ => true) true Tryd.f4.params.toList args.toList ds p := hA0
  have hA1 := hA
  rw [Tryd.params4] at hA hval
  obtain ⟨v0, vs0, d0, ds0, p0, q0, hargs, rfl, rfl, h0, r0⟩ := trodAll_cons hA
  obtain ⟨v1, vs1, d1, ds1, p1, q1, rfl, rfl, rfl, h1, r1⟩ := trodAll_cons r0
  obtain ⟨v2, vs2, d2, ds2, p2, q2, rfl, rfl, rfl, h2, r2⟩ := trodAll_cons r1
  obtain ⟨v3, vs3, d3, ds3, p3, q3, rfl, rfl, rfl, h3, r3⟩ := trodAll_cons r2
  obtain ⟨v4, vs4, d4, ds4, p4, q4, rfl, rfl, rfl, h4, r4⟩ := trodAll_cons r3
  obtain ⟨rfl, rfl, rfl⟩ := trodAll_nil r4
  obtain rfl : args = #[v0, v1, v2, v3, v4] := by cases args; simp_all
  obtain ⟨rfl, rfl⟩ := trodVars_none hV
  obtain ⟨A0, c0, a0, rfl, w0, x0⟩ := open_rcds (hval 0 43 v0 rfl rfl) h0
  obtain ⟨a1, rfl, rfl, rfl, w1⟩ := open_int Tryd.underlying3 (hval 1 3 v1 rfl rfl) h1
  obtain ⟨a2, rfl, rfl, rfl, w2⟩ := open_int Tryd.underlying3 (hval 2 3 v2 rfl rfl) h2
  obtain ⟨a3, rfl, rfl, rfl, w3⟩ := open_int Tryd.underlying5 (hval 3 5 v3 rfl rfl) h3
  obtain ⟨A4, c4, a4, rfl, w4, x4⟩ := open_bytes (hval 4 30 v4 rfl rfl) h4
  clear hA0 hval0
  simp only [List.append_nil] at hW'
  try simp only [List.append_nil] at hA1
  refine (walk W A0 c0 a0 w0 x0 a1 w1 a2 w2 a3 w3 A4 c4 a4 w4 x4 hT).mono fun e W' ⟨he, hg⟩ => ?_
  subst he
  exact ⟨_, rfl, law_end Tryd.laidOut (by kernel_rfl) hW' hA1 hg rfl rfl rfl (trodAll_mk1 (shut_bool Tryd.underlying4 _))⟩

theorem over : Rows.walScanRow.holds Tryd.pinned (OpenSpec.ofChange Rows.walScanSpec) :=
  OpenClaim.holds_of_wide 4 Tryd.f4 rfl rfl rfl rfl rfl rfl rfl ⟨rfl, rfl, rfl, rfl, rfl⟩ rfl rfl rfl rfl rfl (by kernel_rfl) Tryd.func4 (by kernel_rfl)
    (of_decide_eq_true (by kernel_rfl)) (by unfold Func.isWrapper; first | (rw [if_pos (by decide +kernel)]; kernel_rfl) | (rw [if_neg (by decide +kernel)]; exact ⟨rfl, rfl⟩))
    (fun os started H enc _ => lifted os started H enc)


/-- the statement: the card, closed by the builder's one call -/
theorem proved : Rows.WalScanCardSaid :=
  Claim7.holds_tied_plain_at .later [] [.data] true Rows.walScanCard.stood.harness Rows.walScanCard.stood.looks
    over (fun _ h => by cases h) (by kernel_rfl) (fun _ h => by cases h) walScan_row_tie rfl ⟨rfl, rfl⟩ (by kernel_rfl) rfl
    (fun f fn hf hfn => by
      obtain rfl : f = 4 := Option.some.inj ((show Tryd.prog.funcNamed "packhorse/packhorselaw10.WalScan" = some 4 by kernel_rfl).symm.trans hf) |>.symm
      obtain rfl : fn = Tryd.f4 := (Option.some.inj (Tryd.func4.symm.trans hfn)).symm
      refine ⟨by kernel_rfl, fun j t ht => ?_⟩
      have h := List.all_eq_true.1 (show (Tryd.f4.params.toList.all fun t => !Tryd.prog.wantsStandIn t) = true by kernel_rfl) t (List.mem_of_getElem? (by simpa using ht))
      exact (show Tryd.prog.wantsStandIn t = false by simpa using h))
    (by kernel_rfl)
#print axioms proved
end Go.Proofs.YtdigpeipklfaeaaDoor.walScan
