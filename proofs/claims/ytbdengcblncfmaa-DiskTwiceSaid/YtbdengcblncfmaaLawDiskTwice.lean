/-
  A crash of a crash keeps all.
-/
import Derived.Test.YtbdengcblncfmaaRows
import Derived.Test.YtbdengcblncfmaaD9Begun
import Derived.Test.YtbdengcblncfmaaL9Twice
import Derived.Test.YtbdengcblncfmaaLawKit
import Derived.WalkKit
import Derived.ProofKit
import Derived.OpenShut
import Derived.ShutString
set_option linter.unusedSimpArgs false
set_option linter.unusedVariables false
namespace Go.Proofs.Ytbdengcblncfmaa.diskTwice
open Go.ChangeShapes Go.WideShapes Go.ChangeAt Go.RowKit
open Go.ChangeMaps (open_string shut_string)
set_option linter.unusedVariables false

theorem own : ownKnob Try.prog.godebug = none := by kernel_rfl

set_option maxRecDepth 100000 in
set_option maxHeartbeats 8000000 in
theorem walk (w : World) (A0 : Option Addr) (c0 : Nat) (a0 : List Dop) (w0 : Dops w w.heap.size (.slice A0 a0.length c0) a0) (x0 : ∀ x ∈ a0, x.fit) (a1 : Int) (w1 : (Lit.int .i64 a1).wf = true) (a2 : Int) (w2 : (Lit.int .i64 a2).wf = true) :
    Calls Try.prog 9 #[.slice A0 a0.length c0, .int .i64 a1, .int .i64 a2] w fun e w' => e = .returned (.bool true) ∧ Below w.heap.size w w' := by
  have hn1 := wf_i64 w1
  have hn2 := wf_i64 w2
  have HN1 := Lib.hid hn1
  have HN2 := Lib.hid hn2
  have HF := Lib.hid x0
  have HO := Lib.hid w0
  obtain ⟨q, hq⟩ : ∃ q, a0.length = q := ⟨_, rfl⟩
  have HQ := Lib.hid hq
  rw [hq] at HO
  rw [hq]
  clear hn1 hn2 w1 w2 x0 w0 hq
  go_enter Try.func9, Try.ntmps9
  go_wp2_with fail
  refine (begun9_any w).mono ?_
  rintro e k1 ⟨rfl, hb⟩
  have HB1 := Lib.hid hb
  clear hb
  go_wp2_with fail
  refine (new_dk _).mono ?_
  rintro e k2 ⟨rfl, hd, hb⟩
  obtain ⟨X, hX⟩ : ∃ X, k1.heap.size = X := ⟨_, rfl⟩
  have hxw := HB1.out.size
  have hb2 := HB1.out.trans (hb.mono HB1.out.size)
  have hz := hb.size
  rw [hX] at hd hxw hz
  try rw [hX]
  have HD := Lib.hid hd
  have HXW := Lib.hid hxw
  have HZ := Lib.hid hz
  have HB2 := Lib.hid hb2
  clear hd hb hb2 hxw hz HB1 hX
  go_wp2_with fail
  go_loopw [9] (fun i wr => ∃ (k c : Nat) (l : List Fil), i = .int .i64 k ∧ k ≤ q ∧ k ≤ 30 ∧ c ≤ k ∧ l.length ≤ k ∧ DK X wr X l c ∧ Below w.heap.size w wr ∧ X ≤ wr.heap.size) (fun i _ => q - (intOf i).toNat)
  case atStart => exact ⟨0, 0, [], rfl, Nat.zero_le _, Nat.zero_le _, Nat.le_refl _, Nat.le_refl _, HD.out, HB2.out, HZ.out⟩
  case round =>
    obtain ⟨k, c, l, rfl, hk, hk30, hck, hll, hd, hb, hz⟩ := hrel
    have HDR := Lib.hid hd
    have HBR := Lib.hid hb
    have HZR := Lib.hid hz
    clear hd hb hz HD HB2 HZ
    by_cases hlt : k < q ∧ k < 30
    · obtain ⟨hlt, hlt3⟩ := hlt
      have hki : (k : Int) < q := by omega
      have hk3 : (k : Int) < 30 := by omega
      have hor := HO.out.keep HBR.out (Nat.le_refl _)
      obtain ⟨gr, og, Ak, ck, hA, hg, hrg, hby, hbc⟩ := hor.at_ k (by rw [HQ.out]; exact hlt)
      obtain ⟨o, ho⟩ : ∃ o, a0[k]'(by rw [HQ.out]; exact hlt) = o := ⟨_, rfl⟩
      have hfit := HF.out o (by rw [← ho]; exact List.getElem_mem _)
      rw [ho] at hrg hby hbc
      subst hA
      obtain ⟨kd, hkd⟩ : ∃ kd, o.kind = kd := ⟨_, rfl⟩
      obtain ⟨nn, hnn⟩ : ∃ nn, o.n = nn := ⟨_, rfl⟩
      obtain ⟨nm, hnm⟩ : ∃ nm, o.name = nm := ⟨_, rfl⟩
      obtain ⟨bs, hbs⟩ : ∃ bs, o.b = bs := ⟨_, rfl⟩
      obtain ⟨f1, f2, f3, f4⟩ := hfit
      rw [hkd, hnn, hnm, hbs] at hrg
      rw [hbs] at hby hbc f4
      rw [hkd] at f1
      rw [hnm] at f3
      obtain ⟨z, hz⟩ : ∃ z, bs.length = z := ⟨_, rfl⟩
      rw [hz] at hrg hby hbc
      have q0 : wr.cell? ⟨gr, og + k * 4, none⟩ = some (.int .i64 kd) := hrg 0 _ rfl
      have q1 : wr.cell? ⟨gr, og + k * 4 + 1, none⟩ = some (.int .i64 nn) := hrg 1 _ rfl
      have q2 : wr.cell? ⟨gr, og + k * 4 + 2, none⟩ = some (.string nm) := hrg 2 _ rfl
      have q3 : wr.cell? ⟨gr, og + k * 4 + 3, none⟩ = some (.slice Ak z ck) := hrg 3 _ rfl
      have HBY := Lib.hid hby
      have HZB := Lib.hid hz
      have HNM := Lib.hid f3
      clear hor hg hrg hby hz hbs hnm hnn hkd ho f1 f2 f3 f4
      have hbx := Blk.new wr #[.int .i64 kd, .int .i64 nn, .string nm, .slice Ak z ck] 32
      have hal := below_new wr (.cells #[.int .i64 kd, .int .i64 nn, .string nm, .slice Ak z ck] 32)
      obtain ⟨W0, hW0⟩ : ∃ W0, wr.alloc (.cells #[.int .i64 kd, .int .i64 nn, .string nm, .slice Ak z ck] 32) = W0 := ⟨_, rfl⟩
      rw [hW0] at hbx hal
      have y0 := hbx.cell (j := 0) rfl
      have y2 := hbx.cell (j := 2) rfl
      have y3 := hbx.cell (j := 3) rfl
      have fz := hbx.frz 3
      have hbs2 := hbx.set (j := 3) (.slice Ak 60 ck)
      have v0 := hbs2.cell (j := 0) rfl
      have v2 := hbs2.cell (j := 2) rfl
      have v3 := hbs2.cell (j := 3) rfl
      have hal2 : Below wr.heap.size wr (W0.setCell ⟨wr.heap.size, 3, none⟩ (.slice Ak 60 ck)) := hal.setCell (Nat.le_refl _) _
      have HAL := Lib.hid hal
      have HAL2 := Lib.hid hal2
      clear hbx hal hbs2 hal2
      by_cases hbig : 60 < z
      · have hbi : (60 : Int) < z := by omega
        have hcc : (60 : Int) ≤ ck := by omega
        have hbb : Byt (W0.setCell ⟨wr.heap.size, 3, none⟩ (.slice Ak 60 ck)) X (.slice Ak 60 ck) (bs.take 60) := (((byt_take9 (j := 60) (by rw [HZB.out]; exact HBY.out) (by rw [HZB.out]; omega))).below HAL2.out (Nat.le_trans HBR.out.size (Nat.le_refl _))).more HXW.out
        have hbl : (bs.take 60).length ≤ 60 := by rw [List.length_take]; omega
        have HBB := Lib.hid hbb
        have HBL := Lib.hid hbl
        clear hbb hbl
        have hkc : kd = 0 ∨ kd = 1 ∨ kd = 2 ∨ (¬ kd = 0 ∧ ¬ kd = 1 ∧ ¬ kd = 2) := by omega
        rcases hkc with rfl | rfl | rfl | ⟨h0, h1, h2⟩
        · go_wp2_with fail
          refine (app_dk (n := nm) (bs := (bs.take 60)) (HDR.out.below HAL2.out) (Nat.le_trans HZR.out HAL2.out.size) HNM.out (by omega) (by omega) HBB.out (by have := HBL.out; omega) _ rfl).mono ?_
          rintro e k3 ⟨rfl, hd, hb⟩
          have HDE := Lib.hid hd
          have HBE := Lib.hid (HBR.out.trans ((HAL2.out.mono HBR.out.size).trans (hb.mono HXW.out)))
          have HZE := Lib.hid (Nat.le_trans (Nat.le_trans HZR.out HAL2.out.size) hb.size)
          have hln := app9_len nm (bs.take 60) l
          have HLN := Lib.hid hln
          clear hd hb hln
          go_wp2
          go_roundw
          case rel => exact ⟨k + 1, c + 1, _, by go_num, by omega, by omega, by omega, by have := HLN.out; omega, HDE.out, HBE.out, HZE.out⟩
          case measure => simp [intOf]; omega
        · go_wp2_with fail
          refine (sync_dk (n := nm) (HDR.out.below HAL2.out) (Nat.le_trans HZR.out HAL2.out.size) HNM.out (by omega) (by omega) _ rfl).mono ?_
          rintro e k3 ⟨rfl, hd, hb⟩
          have HDE := Lib.hid hd
          have HBE := Lib.hid (HBR.out.trans ((HAL2.out.mono HBR.out.size).trans (hb.mono HXW.out)))
          have HZE := Lib.hid (Nat.le_trans (Nat.le_trans HZR.out HAL2.out.size) hb.size)
          have hln := sync9_len nm l
          have HLN := Lib.hid hln
          clear hd hb hln
          go_wp2
          go_roundw
          case rel => exact ⟨k + 1, c + 1, _, by go_num, by omega, by omega, by omega, by have := HLN.out; omega, HDE.out, HBE.out, HZE.out⟩
          case measure => simp [intOf]; omega
        · go_wp2_with fail
          refine (swap_dk (n := nm) (bs := (bs.take 60)) (HDR.out.below HAL2.out) (Nat.le_trans HZR.out HAL2.out.size) HNM.out (by omega) (by omega) HBB.out (by have := HBL.out; omega) _ rfl).mono ?_
          rintro e k3 ⟨rfl, hd, hb⟩
          have HDE := Lib.hid hd
          have HBE := Lib.hid (HBR.out.trans ((HAL2.out.mono HBR.out.size).trans (hb.mono HXW.out)))
          have HZE := Lib.hid (Nat.le_trans (Nat.le_trans HZR.out HAL2.out.size) hb.size)
          have hln := swap9_len nm (bs.take 60) l
          have HLN := Lib.hid hln
          clear hd hb hln
          go_wp2
          go_roundw
          case rel => exact ⟨k + 1, c + 1, _, by go_num, by omega, by omega, by omega, by have := HLN.out; omega, HDE.out, HBE.out, HZE.out⟩
          case measure => simp [intOf]; omega
        · have h0b : (kd == 0) = false := by simpa using h0
          have h1b : (kd == 1) = false := by simpa using h1
          have h2b : (kd == 2) = false := by simpa using h2
          have HDE := Lib.hid (HDR.out.below HAL2.out)
          have HBE := Lib.hid (HBR.out.trans (HAL2.out.mono HBR.out.size))
          have HZE := Lib.hid (Nat.le_trans HZR.out HAL2.out.size)
          go_wp2
          go_roundw
          case rel => exact ⟨k + 1, c, _, by go_num, by omega, by omega, by omega, by omega, HDE.out, HBE.out, HZE.out⟩
          case measure => simp [intOf]; omega
      · have hbi : ¬ (60 : Int) < z := by omega
        have hbb : Byt W0 X (.slice Ak z ck) bs := ((HBY.out).below HAL.out (Nat.le_trans HBR.out.size (Nat.le_refl _))).more HXW.out
        have hbl : bs.length ≤ 60 := by rw [HZB.out]; omega
        have HBB := Lib.hid hbb
        have HBL := Lib.hid hbl
        clear hbb hbl
        have hkc : kd = 0 ∨ kd = 1 ∨ kd = 2 ∨ (¬ kd = 0 ∧ ¬ kd = 1 ∧ ¬ kd = 2) := by omega
        rcases hkc with rfl | rfl | rfl | ⟨h0, h1, h2⟩
        · go_wp2_with fail
          refine (app_dk (n := nm) (bs := bs) (HDR.out.below HAL.out) (Nat.le_trans HZR.out HAL.out.size) HNM.out (by omega) (by omega) HBB.out (by have := HBL.out; omega) _ rfl).mono ?_
          rintro e k3 ⟨rfl, hd, hb⟩
          have HDE := Lib.hid hd
          have HBE := Lib.hid (HBR.out.trans ((HAL.out.mono HBR.out.size).trans (hb.mono HXW.out)))
          have HZE := Lib.hid (Nat.le_trans (Nat.le_trans HZR.out HAL.out.size) hb.size)
          have hln := app9_len nm bs l
          have HLN := Lib.hid hln
          clear hd hb hln
          go_wp2
          go_roundw
          case rel => exact ⟨k + 1, c + 1, _, by go_num, by omega, by omega, by omega, by have := HLN.out; omega, HDE.out, HBE.out, HZE.out⟩
          case measure => simp [intOf]; omega
        · go_wp2_with fail
          refine (sync_dk (n := nm) (HDR.out.below HAL.out) (Nat.le_trans HZR.out HAL.out.size) HNM.out (by omega) (by omega) _ rfl).mono ?_
          rintro e k3 ⟨rfl, hd, hb⟩
          have HDE := Lib.hid hd
          have HBE := Lib.hid (HBR.out.trans ((HAL.out.mono HBR.out.size).trans (hb.mono HXW.out)))
          have HZE := Lib.hid (Nat.le_trans (Nat.le_trans HZR.out HAL.out.size) hb.size)
          have hln := sync9_len nm l
          have HLN := Lib.hid hln
          clear hd hb hln
          go_wp2
          go_roundw
          case rel => exact ⟨k + 1, c + 1, _, by go_num, by omega, by omega, by omega, by have := HLN.out; omega, HDE.out, HBE.out, HZE.out⟩
          case measure => simp [intOf]; omega
        · go_wp2_with fail
          refine (swap_dk (n := nm) (bs := bs) (HDR.out.below HAL.out) (Nat.le_trans HZR.out HAL.out.size) HNM.out (by omega) (by omega) HBB.out (by have := HBL.out; omega) _ rfl).mono ?_
          rintro e k3 ⟨rfl, hd, hb⟩
          have HDE := Lib.hid hd
          have HBE := Lib.hid (HBR.out.trans ((HAL.out.mono HBR.out.size).trans (hb.mono HXW.out)))
          have HZE := Lib.hid (Nat.le_trans (Nat.le_trans HZR.out HAL.out.size) hb.size)
          have hln := swap9_len nm bs l
          have HLN := Lib.hid hln
          clear hd hb hln
          go_wp2
          go_roundw
          case rel => exact ⟨k + 1, c + 1, _, by go_num, by omega, by omega, by omega, by have := HLN.out; omega, HDE.out, HBE.out, HZE.out⟩
          case measure => simp [intOf]; omega
        · have h0b : (kd == 0) = false := by simpa using h0
          have h1b : (kd == 1) = false := by simpa using h1
          have h2b : (kd == 2) = false := by simpa using h2
          have HDE := Lib.hid (HDR.out.below HAL.out)
          have HBE := Lib.hid (HBR.out.trans (HAL.out.mono HBR.out.size))
          have HZE := Lib.hid (Nat.le_trans HZR.out HAL.out.size)
          go_wp2
          go_roundw
          case rel => exact ⟨k + 1, c, _, by go_num, by omega, by omega, by omega, by omega, HDE.out, HBE.out, HZE.out⟩
          case measure => simp [intOf]; omega
    · have hge : (q : Int) ≤ k ∨ ((k : Int) < q ∧ (30 : Int) ≤ k) := by omega
      clear hlt
      rcases hge with hge | ⟨hge, hge3⟩
      · go_wp2_with fail
        obtain ⟨hgs, hgg⟩ := HDR.out.good
        obtain ⟨l1, hl1⟩ : ∃ l1, crash9 a1 l = l1 := ⟨_, rfl⟩
        have hlf := crash9_lasts (n := a1) hgg
        have hl1l := crash9_len a1 l
        rw [hl1] at hlf hl1l
        have hcc := crash9_full (m := a2) hlf
        have HLF := Lib.hid hlf
        have HCC := Lib.hid hcc
        clear hgs hgg hlf hcc
        refine (crash_dk (n := a1) HDR.out (by omega) (by have := HN1.out; omega) _ hl1).mono ?_
        rintro e k3 ⟨rfl, hd, hb⟩
        obtain ⟨ga, hga⟩ : ∃ ga, wr.heap.size = ga := ⟨_, rfl⟩
        have HB3 := Lib.hid (HBR.out.trans (hb.mono HBR.out.size))
        rw [hga] at hd
        try rw [hga]
        have HDA := Lib.hid hd
        clear hd hb HBR HDR hga hl1
        go_wp2_with fail
        refine (crash_dk (n := a2) HDA.out (by omega) (by have := HN2.out; omega) _ HCC.out).mono ?_
        rintro e k4 ⟨rfl, hd, hb⟩
        obtain ⟨gb, hgb⟩ : ∃ gb, k3.heap.size = gb := ⟨_, rfl⟩
        have HB4 := Lib.hid (HB3.out.trans (hb.mono HB3.out.size))
        replace HDA := Lib.hid (HDA.out.below hb)
        rw [hgb] at hd
        try rw [hgb]
        have HDB := Lib.hid hd
        clear hd hb HB3 hgb
        obtain ⟨z, hz⟩ : ∃ z, l1.length = z := ⟨_, rfl⟩
        have HZL := Lib.hid hz
        rw [hz] at hl1l
        go_wp2_with fail
        refine (names_dk HDA.out (by omega)).mono ?_
        rintro e k5 ⟨v5, rfl, hr, hb⟩
        have HB5 := Lib.hid (HB4.out.trans (hb.mono HB4.out.size))
        replace HDA := Lib.hid (HDA.out.below hb)
        replace HDB := Lib.hid (HDB.out.below hb)
        rw [hz] at hr
        obtain ⟨A5, c5, hv5⟩ := own_slice hr
        subst hv5
        have HR5 := Lib.hid hr
        clear hr hb HB4
        go_wp2_with fail
        refine (names_dk HDB.out (by omega)).mono ?_
        rintro e k6 ⟨v6, rfl, hr, hb⟩
        have HB6 := Lib.hid (HB5.out.trans (hb.mono HB5.out.size))
        replace HDA := Lib.hid (HDA.out.below hb)
        replace HDB := Lib.hid (HDB.out.below hb)
        replace HR5 := Lib.hid (ownsRow_below HR5.out hb)
        rw [hz] at hr
        obtain ⟨A6, c6, hv6⟩ := own_slice hr
        subst hv6
        have HR6 := Lib.hid hr
        clear hr hb HB5 hz
        go_wp2_with fail
        go_loopw [15] (fun i wr2 => ∃ k : Nat, i = .int .i64 k ∧ k ≤ z ∧ Below k6.heap.size k6 wr2) (fun i _ => z - (intOf i).toNat)
        case atStart => exact ⟨0, rfl, Nat.zero_le _, Below.refl _ _⟩
        case round =>
          obtain ⟨j, rfl, hj, hb⟩ := hrel
          have HBJ := Lib.hid hb
          clear hb
          by_cases hlt : j < z
          · have hji : (j : Int) < z := by omega
            have hjl : j < l1.length := by rw [HZL.out]; exact hlt
            obtain ⟨f, hf⟩ : ∃ f, l1[j] = f := ⟨_, rfl⟩
            have hgf := getF_at HDA.out.good.1 j hjl
            have hfm : f ∈ l1 := by rw [← hf]; exact List.getElem_mem _
            have hfg := (HDA.out.good.2 f hfm).1
            have hff := HLF.out f hfm
            have HA2 := Lib.hid (HDA.out.below HBJ.out)
            have HB2 := Lib.hid (HDB.out.below HBJ.out)
            obtain ⟨gl, hA5, hgl, hcl⟩ := names_at (ownsRow_below HR5.out HBJ.out) j hjl HZL.out
            obtain ⟨gm, hA6, hgm, hcm⟩ := names_at (ownsRow_below HR6.out HBJ.out) j hjl HZL.out
            rw [hf] at hgf hcl hcm
            subst hA5; subst hA6
            obtain ⟨nm, hnm⟩ : ∃ nm, f.name = nm := ⟨_, rfl⟩
            rw [hnm] at hgf hcl hcm hfg
            have hnz := (goodN_size hfg).2
            have HNM : Hid (nm.size ≤ maxLen) := Lib.hid (by unfold maxLen; omega)
            obtain ⟨bs, hbs⟩ : ∃ bs, f.b = bs := ⟨_, rfl⟩
            have hls : loose9 nm l1 = 0 := by
              unfold loose9; rw [hgf]
              show (f.b.length : Int) - f.fast = 0
              rw [hff.1, Int.sub_self]
            have HGF := Lib.hid hgf
            have HLS := Lib.hid hls
            have HFB := Lib.hid hbs
            clear hgf hfg hff hfm hf hnm hls hbs
            go_wp2_with fail
            refine (read_dk (n := nm) HA2.out HNM.out _ HGF.out).mono ?_
            rintro e k7 ⟨v7, rfl, hv, hb⟩
            rw [HFB.out] at hv
            replace HA2 := Lib.hid (HA2.out.below hb)
            replace HB2 := Lib.hid (HB2.out.below hb)
            have hcl7 := (hb.cell (p := ⟨gl, j, none⟩) hgl).trans hcl
            have hcm7 := (hb.cell (p := ⟨gm, j, none⟩) hgm).trans hcm
            have hgl7 := Nat.lt_of_lt_of_le hgl hb.size
            have hgm7 := Nat.lt_of_lt_of_le hgm hb.size
            have HBK := Lib.hid (HBJ.out.trans (hb.mono HBJ.out.size))
            have HV7 := Lib.hid (Byt.of_own hv)
            clear hv hb hcl hcm hgl hgm
            go_wp2_with fail
            refine (read_dk (n := nm) HB2.out HNM.out _ HGF.out).mono ?_
            rintro e k8 ⟨v8, rfl, hv, hb⟩
            rw [HFB.out] at hv
            replace HA2 := Lib.hid (HA2.out.below hb)
            have hcl := (hb.cell (p := ⟨gl, j, none⟩) hgl7).trans hcl7
            have hcm := (hb.cell (p := ⟨gm, j, none⟩) hgm7).trans hcm7
            have hgl := Nat.lt_of_lt_of_le hgl7 hb.size
            have hgm := Nat.lt_of_lt_of_le hgm7 hb.size
            have HBL := Lib.hid (HBK.out.trans (hb.mono HBK.out.size))
            obtain ⟨S, hS⟩ : ∃ S : ByteArray, (⟨bs.toArray⟩ : ByteArray) = S := ⟨_, rfl⟩
            have HS := Lib.hid hS
            have HX7 := Lib.hid ((HV7.out.below hb (Nat.le_refl _)).more hb.size)
            have HX8 := Lib.hid (Byt.of_own hv)
            have hss : (S.toList == S.toList) = true := beq_self_eq_true _
            have hnn2 : (nm.toList == nm.toList) = true := beq_self_eq_true _
            clear hv hb hcl7 hcm7 hgl7 hgm7 HV7 HBK HB2 hS
            go_wp2_with fail
            have hb : Below w.heap.size w k8 := HB6.out.trans (HBL.out.mono HB6.out.size)
            replace hcl : k8.drew.cell? ⟨gl, j, none⟩ = some (.string nm) := hcl
            replace hcm : k8.drew.cell? ⟨gm, j, none⟩ = some (.string nm) := hcm
            replace HA2 := Lib.hid (DK.below HA2.out ((Below.refl k8.heap.size k8).drew))
            replace HX7 := Lib.hid ((Byt.more (Byt.below HX7.out ((Below.refl k8.heap.size k8).drew) (Nat.le_refl _)) (Below.size ((Below.refl k8.heap.size k8).drew))))
            replace HX8 := Lib.hid ((Byt.more (Byt.below HX8.out ((Below.refl k8.heap.size k8).drew) (Nat.le_refl _)) (Below.size ((Below.refl k8.heap.size k8).drew))))
            replace HBL := Lib.hid (Below.trans HBL.out (Below.mono ((Below.refl k8.heap.size k8).drew) (Below.size HBL.out)))
            have hr7 : (convert 30 9 v7).run Try.prog k8.drew = .ok (.string S) k8.drew := conv9 HX7.out HS.out
            have hr8 : (convert 30 9 v8).run Try.prog k8.drew = .ok (.string S) k8.drew := conv9 HX8.out HS.out
            refine wp_region_noPanic ?_
            refine wp_region_held_drew (S := fun W => W.cell? ⟨gl, j, none⟩ = some (.string nm) ∧ W.cell? ⟨gm, j, none⟩ = some (.string nm) ∧ (convert 30 9 v7).run Try.prog W = .ok (.string S) W ∧ (convert 30 9 v8).run Try.prog W = .ok (.string S) W) (by kernel_rfl) ?_ (fun hHeld => ?_)
            · exact ⟨hcl, hcm, hr7, hr8⟩
            replace hb : Below w.heap.size w k8.drew := hb.drew
            replace hgl : gl < k8.drew.heap.size := hgl
            replace hgm : gm < k8.drew.heap.size := hgm
            have hzd : k8.heap.size ≤ k8.drew.heap.size := Nat.le_refl _
            generalize k8.drew = k1 at *
            refine wpAnyH_take (i := 0) (oi := { dst := some 109, op := Op.move (Operand.tmp 13), type := 50, pos := "wide.go:74", after := #[], guard := none }) (v := .slice (some ⟨gl, 0, none⟩) z c5) rfl (by kernel_rfl) (by kernel_rfl) (by kernel_rfl) (fun _ _ _ h => h) (Or.inl ⟨by rfl, fun w hSw => ?_⟩) (by assumption) ?_
            · (try dsimp only at hSw)
              go_simp
            try simp only [Act.put, List.setIfInBounds_toArray, List.set_cons_zero, List.set_cons_succ]
            refine wpAnyH_take (i := 1) (oi := { dst := some 110, op := Op.move (Operand.tmp 15), type := 3, pos := "wide.go:74", after := #[], guard := none }) (v := .int .i64 (j : Nat)) rfl (by kernel_rfl) (by kernel_rfl) (by kernel_rfl) (fun _ _ _ h => h) (Or.inl ⟨by rfl, fun w hSw => ?_⟩) (by assumption) ?_
            · (try dsimp only at hSw)
              go_simp
            try simp only [Act.put, List.setIfInBounds_toArray, List.set_cons_zero, List.set_cons_succ]
            refine wpAnyH_take (i := 2) (oi := { dst := some 111, op := Op.indexAddr 50 (Operand.tmp 109) (Operand.tmp 110), type := 0, pos := "wide.go:74", after := #[{ on := 0, ground := Ground.data }, { on := 1, ground := Ground.data }], guard := none }) (v := .pointer (some ⟨gl, j, none⟩)) rfl (by kernel_rfl) (by kernel_rfl) (by kernel_rfl) (fun _ _ _ h => h) (Or.inl ⟨by rfl, fun w hSw => ?_⟩) (by assumption) ?_
            · (try dsimp only at hSw)
              go_simp
            try simp only [Act.put, List.setIfInBounds_toArray, List.set_cons_zero, List.set_cons_succ]
            refine wpAnyH_take (i := 3) (oi := { dst := some 112, op := Op.load 9 (Operand.tmp 111), type := 9, pos := "wide.go:74", after := #[{ on := 2, ground := Ground.data }], guard := none }) (v := .string nm) rfl (by kernel_rfl) (by kernel_rfl) (by kernel_rfl) (fun _ _ _ h => h) (Or.inl ⟨by rfl, fun w hSw => ?_⟩) (by assumption) ?_
            · (try dsimp only at hSw)
              go_simp
            try simp only [Act.put, List.setIfInBounds_toArray, List.set_cons_zero, List.set_cons_succ]
            refine wpAnyH_take (i := 4) (oi := { dst := some 113, op := Op.move (Operand.tmp 14), type := 50, pos := "wide.go:74", after := #[], guard := none }) (v := .slice (some ⟨gm, 0, none⟩) z c6) rfl (by kernel_rfl) (by kernel_rfl) (by kernel_rfl) (fun _ _ _ h => h) (Or.inl ⟨by rfl, fun w hSw => ?_⟩) (by assumption) ?_
            · (try dsimp only at hSw)
              go_simp
            try simp only [Act.put, List.setIfInBounds_toArray, List.set_cons_zero, List.set_cons_succ]
            refine wpAnyH_take (i := 5) (oi := { dst := some 114, op := Op.move (Operand.tmp 15), type := 3, pos := "wide.go:74", after := #[], guard := none }) (v := .int .i64 (j : Nat)) rfl (by kernel_rfl) (by kernel_rfl) (by kernel_rfl) (fun _ _ _ h => h) (Or.inl ⟨by rfl, fun w hSw => ?_⟩) (by assumption) ?_
            · (try dsimp only at hSw)
              go_simp
            try simp only [Act.put, List.setIfInBounds_toArray, List.set_cons_zero, List.set_cons_succ]
            refine wpAnyH_take (i := 6) (oi := { dst := some 115, op := Op.indexAddr 50 (Operand.tmp 113) (Operand.tmp 114), type := 0, pos := "wide.go:74", after := #[{ on := 4, ground := Ground.data }, { on := 5, ground := Ground.data }], guard := none }) (v := .pointer (some ⟨gm, j, none⟩)) rfl (by kernel_rfl) (by kernel_rfl) (by kernel_rfl) (fun _ _ _ h => h) (Or.inl ⟨by rfl, fun w hSw => ?_⟩) (by assumption) ?_
            · (try dsimp only at hSw)
              go_simp
            try simp only [Act.put, List.setIfInBounds_toArray, List.set_cons_zero, List.set_cons_succ]
            refine wpAnyH_take (i := 7) (oi := { dst := some 116, op := Op.load 9 (Operand.tmp 115), type := 9, pos := "wide.go:74", after := #[{ on := 6, ground := Ground.data }], guard := none }) (v := .string nm) rfl (by kernel_rfl) (by kernel_rfl) (by kernel_rfl) (fun _ _ _ h => h) (Or.inl ⟨by rfl, fun w hSw => ?_⟩) (by assumption) ?_
            · (try dsimp only at hSw)
              go_simp
            try simp only [Act.put, List.setIfInBounds_toArray, List.set_cons_zero, List.set_cons_succ]
            refine wpAnyH_take (i := 8) (oi := { dst := some 117, op := Op.binOp BinOp.neq 9 (Operand.tmp 112) (Operand.tmp 116) 9, type := 4, pos := "wide.go:74", after := #[{ on := 3, ground := Ground.data }, { on := 7, ground := Ground.data }], guard := none }) (v := .bool false) rfl (by kernel_rfl) (by kernel_rfl) (by kernel_rfl) (fun _ _ _ h => h) (Or.inl ⟨by rfl, fun w hSw => ?_⟩) (by assumption) ?_
            · (try dsimp only at hSw)
              go_simp
            try simp only [Act.put, List.setIfInBounds_toArray, List.set_cons_zero, List.set_cons_succ]
            refine wpAnyH_take (i := 9) (oi := { dst := some 118, op := Op.move (Operand.tmp 117), type := 4, pos := "wide.go:74", after := #[{ on := 8, ground := Ground.data }], guard := none }) (v := .bool false) rfl (by kernel_rfl) (by kernel_rfl) (by kernel_rfl) (fun _ _ _ h => h) (Or.inl ⟨by rfl, fun w hSw => ?_⟩) (by assumption) ?_
            · (try dsimp only at hSw)
              go_simp
            try simp only [Act.put, List.setIfInBounds_toArray, List.set_cons_zero, List.set_cons_succ]
            refine wpAnyH_take (i := 10) (oi := { dst := some 119, op := Op.move (Operand.tmp 16), type := 30, pos := "wide.go:74", after := #[{ on := 9, ground := Ground.guard }], guard := some (9, false) }) (v := v7) rfl (by kernel_rfl) (by kernel_rfl) (by kernel_rfl) (fun _ _ _ h => h) (Or.inl ⟨by rfl, fun w hSw => ?_⟩) (by assumption) ?_
            · (try dsimp only at hSw)
              go_simp
            try simp only [Act.put, List.setIfInBounds_toArray, List.set_cons_zero, List.set_cons_succ]
            refine wpAnyH_take (i := 11) (oi := { dst := some 120, op := Op.convert 30 9 (Operand.tmp 119), type := 9, pos := "wide.go:74", after := #[{ on := 10, ground := Ground.data }, { on := 9, ground := Ground.guard }], guard := some (9, false) }) (v := .string S) rfl (by kernel_rfl) (by kernel_rfl) (by kernel_rfl) (fun _ _ _ h => h) (Or.inl ⟨by rfl, fun w hSw => ?_⟩) (by assumption) ?_
            · (try dsimp only at hSw)
              go_simp
            try simp only [Act.put, List.setIfInBounds_toArray, List.set_cons_zero, List.set_cons_succ]
            refine wpAnyH_take (i := 12) (oi := { dst := some 121, op := Op.move (Operand.tmp 18), type := 30, pos := "wide.go:74", after := #[{ on := 9, ground := Ground.guard }], guard := some (9, false) }) (v := v8) rfl (by kernel_rfl) (by kernel_rfl) (by kernel_rfl) (fun _ _ _ h => h) (Or.inl ⟨by rfl, fun w hSw => ?_⟩) (by assumption) ?_
            · (try dsimp only at hSw)
              go_simp
            try simp only [Act.put, List.setIfInBounds_toArray, List.set_cons_zero, List.set_cons_succ]
            refine wpAnyH_take (i := 13) (oi := { dst := some 122, op := Op.convert 30 9 (Operand.tmp 121), type := 9, pos := "wide.go:74", after := #[{ on := 12, ground := Ground.data }, { on := 9, ground := Ground.guard }], guard := some (9, false) }) (v := .string S) rfl (by kernel_rfl) (by kernel_rfl) (by kernel_rfl) (fun _ _ _ h => h) (Or.inl ⟨by rfl, fun w hSw => ?_⟩) (by assumption) ?_
            · (try dsimp only at hSw)
              go_simp
            try simp only [Act.put, List.setIfInBounds_toArray, List.set_cons_zero, List.set_cons_succ]
            refine wpAnyH_take (i := 14) (oi := { dst := some 123, op := Op.binOp BinOp.neq 9 (Operand.tmp 120) (Operand.tmp 122) 9, type := 4, pos := "wide.go:74", after := #[{ on := 11, ground := Ground.data }, { on := 13, ground := Ground.data }, { on := 9, ground := Ground.guard }], guard := some (9, false) }) (v := .bool false) rfl (by kernel_rfl) (by kernel_rfl) (by kernel_rfl) (fun _ _ _ h => h) (Or.inl ⟨by rfl, fun w hSw => ?_⟩) (by assumption) ?_
            · (try dsimp only at hSw)
              go_simp
            try simp only [Act.put, List.setIfInBounds_toArray, List.set_cons_zero, List.set_cons_succ]
            refine wpAnyH_take (i := 15) (oi := { dst := some 124, op := Op.pick (Operand.tmp 118) (Operand.const (Value.bool true)) (Operand.tmp 123), type := 4, pos := "wide.go:74", after := #[{ on := 9, ground := Ground.data }, { on := 14, ground := Ground.data }], guard := none }) (v := .bool false) rfl (by kernel_rfl) (by kernel_rfl) (by kernel_rfl) (fun _ _ _ h => h) (Or.inl ⟨by rfl, fun w hSw => ?_⟩) (by assumption) ?_
            · (try dsimp only at hSw)
              go_simp
            try simp only [Act.put, List.setIfInBounds_toArray, List.set_cons_zero, List.set_cons_succ]
            refine wpAnyH_take (i := 16) (oi := { dst := some 125, op := Op.move (Operand.tmp 124), type := 4, pos := "wide.go:74", after := #[{ on := 15, ground := Ground.data }, { on := 9, ground := Ground.chain }], guard := none }) (v := .bool false) rfl (by kernel_rfl) (by kernel_rfl) (by kernel_rfl) (fun _ _ _ h => h) (Or.inl ⟨by rfl, fun w hSw => ?_⟩) (by assumption) ?_
            · (try dsimp only at hSw)
              go_simp
            try simp only [Act.put, List.setIfInBounds_toArray, List.set_cons_zero, List.set_cons_succ]
            refine wpAnyH_take (i := 17) (oi := { dst := some 126, op := Op.move (Operand.tmp 11), type := 24, pos := "wide.go:74", after := #[{ on := 16, ground := Ground.guard }], guard := some (16, false) }) (v := .pointer (some ⟨ga, 0, none⟩)) rfl (by kernel_rfl) (by kernel_rfl) (by kernel_rfl) (fun _ _ _ h => h) (Or.inl ⟨by rfl, fun w hSw => ?_⟩) (by assumption) ?_
            · (try dsimp only at hSw)
              go_simp
            try simp only [Act.put, List.setIfInBounds_toArray, List.set_cons_zero, List.set_cons_succ]
            refine wpAnyH_take (i := 18) (oi := { dst := some 127, op := Op.move (Operand.tmp 13), type := 50, pos := "wide.go:74", after := #[{ on := 16, ground := Ground.guard }], guard := some (16, false) }) (v := .slice (some ⟨gl, 0, none⟩) z c5) rfl (by kernel_rfl) (by kernel_rfl) (by kernel_rfl) (fun _ _ _ h => h) (Or.inl ⟨by rfl, fun w hSw => ?_⟩) (by assumption) ?_
            · (try dsimp only at hSw)
              go_simp
            try simp only [Act.put, List.setIfInBounds_toArray, List.set_cons_zero, List.set_cons_succ]
            refine wpAnyH_take (i := 19) (oi := { dst := some 128, op := Op.move (Operand.tmp 15), type := 3, pos := "wide.go:74", after := #[{ on := 16, ground := Ground.guard }], guard := some (16, false) }) (v := .int .i64 (j : Nat)) rfl (by kernel_rfl) (by kernel_rfl) (by kernel_rfl) (fun _ _ _ h => h) (Or.inl ⟨by rfl, fun w hSw => ?_⟩) (by assumption) ?_
            · (try dsimp only at hSw)
              go_simp
            try simp only [Act.put, List.setIfInBounds_toArray, List.set_cons_zero, List.set_cons_succ]
            refine wpAnyH_take (i := 20) (oi := { dst := some 129, op := Op.indexAddr 50 (Operand.tmp 127) (Operand.tmp 128), type := 0, pos := "wide.go:74", after := #[{ on := 18, ground := Ground.data }, { on := 19, ground := Ground.data }, { on := 16, ground := Ground.guard }], guard := some (16, false) }) (v := .pointer (some ⟨gl, j, none⟩)) rfl (by kernel_rfl) (by kernel_rfl) (by kernel_rfl) (fun _ _ _ h => h) (Or.inl ⟨by rfl, fun w hSw => ?_⟩) (by assumption) ?_
            · (try dsimp only at hSw)
              go_simp
            try simp only [Act.put, List.setIfInBounds_toArray, List.set_cons_zero, List.set_cons_succ]
            refine wpAnyH_take (i := 21) (oi := { dst := some 130, op := Op.load 9 (Operand.tmp 129), type := 9, pos := "wide.go:74", after := #[{ on := 20, ground := Ground.data }, { on := 16, ground := Ground.guard }], guard := some (16, false) }) (v := .string nm) rfl (by kernel_rfl) (by kernel_rfl) (by kernel_rfl) (fun _ _ _ h => h) (Or.inl ⟨by rfl, fun w hSw => ?_⟩) (by assumption) ?_
            · (try dsimp only at hSw)
              go_simp
            try simp only [Act.put, List.setIfInBounds_toArray, List.set_cons_zero, List.set_cons_succ]
            refine wpAnyH_ready (rs := [22]) (by kernel_rfl) (by simp) ?_
            refine AllReadyH.cons (o := { dst := some 131, op := Op.call { callee := Callee.value (Operand.func 25), args := #[Operand.tmp 126, Operand.tmp 130], argTypes := #[24, 9] }, type := 3, pos := "wide.go:74", after := #[{ on := 17, ground := Ground.data }, { on := 21, ground := Ground.data }, { on := 16, ground := Ground.chain }, { on := 16, ground := Ground.guard }], guard := some (16, false) }) rfl (fun K hK => ?_) (AllReadyH.nil)
            go_simp
            go_at_call 25
            refine (loose_dk (n := nm) HA2.out HNM.out 0 HLS.out).mono ?_
            rintro e k2 ⟨rfl, h⟩
            have hk : Below k1.heap.size k1 k2 := by
              refine Below.trans ?_ (h.mono (by first | (simp; done) | (simp; omega) | omega))
              repeat' (first | with_reducible exact Below.refl _ _ | (with_reducible refine Below.alloc ?_ ?_ _) | (with_reducible refine Below.setCell ?_ ?_ _) | exact (by first | (simp; done) | (simp; omega) | omega))
            have hz := h.size
            try simp at hz
            replace hcl : k2.cell? ⟨gl, j, none⟩ = some (.string nm) := (hk.cell (p := ⟨gl, j, none⟩) (by first | (simp; done) | (simp; omega) | omega)).trans hcl
            replace hcm : k2.cell? ⟨gm, j, none⟩ = some (.string nm) := (hk.cell (p := ⟨gm, j, none⟩) (by first | (simp; done) | (simp; omega) | omega)).trans hcm
            replace HA2 := Lib.hid (DK.below HA2.out hk)
            replace HX7 := Lib.hid ((Byt.more (Byt.below HX7.out hk (Nat.le_refl _)) (Below.size hk)))
            replace HX8 := Lib.hid ((Byt.more (Byt.below HX8.out hk (Nat.le_refl _)) (Below.size hk)))
            replace HBL := Lib.hid (Below.trans HBL.out (Below.mono hk (Below.size HBL.out)))
            replace hb : Below w.heap.size w k2 := hb.trans (hk.mono hb.size)
            have hgl : gl < k2.heap.size := (by first | (simp; done) | (simp; omega) | omega)
            have hgm : gm < k2.heap.size := (by first | (simp; done) | (simp; omega) | omega)
            clear h hk
            have hr7 : (convert 30 9 v7).run Try.prog k2 = .ok (.string S) k2 := conv9 HX7.out HS.out
            have hr8 : (convert 30 9 v8).run Try.prog k2 = .ok (.string S) k2 := conv9 HX8.out HS.out
            try dsimp only
            refine hK.out _ _ ?_ (fun hHeld => ?_)
            · exact ⟨hcl, hcm, hr7, hr8⟩
            clear hK K
            try simp only [Act.put, List.setIfInBounds_toArray, List.set_cons_zero, List.set_cons_succ]
            refine wpAnyH_take (i := 23) (oi := { dst := some 132, op := Op.binOp BinOp.neq 3 (Operand.tmp 131) (Operand.const (Value.int IntKind.i64 0)) 3, type := 4, pos := "wide.go:74", after := #[{ on := 22, ground := Ground.data }, { on := 16, ground := Ground.guard }], guard := some (16, false) }) (v := .bool false) rfl (by kernel_rfl) (by kernel_rfl) (by kernel_rfl) (fun _ _ _ h => h) (Or.inl ⟨by rfl, fun w hSw => ?_⟩) (by assumption) ?_
            · (try dsimp only at hSw)
              go_simp
            try simp only [Act.put, List.setIfInBounds_toArray, List.set_cons_zero, List.set_cons_succ]
            refine wpAnyH_take (i := 24) (oi := { dst := some 133, op := Op.pick (Operand.tmp 125) (Operand.const (Value.bool true)) (Operand.tmp 132), type := 4, pos := "wide.go:74", after := #[{ on := 16, ground := Ground.data }, { on := 23, ground := Ground.data }], guard := none }) (v := .bool false) rfl (by kernel_rfl) (by kernel_rfl) (by kernel_rfl) (fun _ _ _ h => h) (Or.inl ⟨by rfl, fun w hSw => ?_⟩) (by assumption) ?_
            · (try dsimp only at hSw)
              go_simp
            try simp only [Act.put, List.setIfInBounds_toArray, List.set_cons_zero, List.set_cons_succ]
            refine wpAnyH_done (by kernel_rfl) ?_ _
            refine NoPanic.normal ?_
            go_wp2
            go_roundw
            case rel => exact ⟨j + 1, by go_num, by omega, HBL.out⟩
            case measure => simp [intOf]; omega
          · have hge2 : (z : Int) ≤ j := by omega
            clear hlt
            go_wp2
            go_ret
            exact ⟨rfl, HB6.out.trans (HBJ.out.mono HB6.out.size)⟩
      · go_wp2_with fail
        obtain ⟨hgs, hgg⟩ := HDR.out.good
        obtain ⟨l1, hl1⟩ : ∃ l1, crash9 a1 l = l1 := ⟨_, rfl⟩
        have hlf := crash9_lasts (n := a1) hgg
        have hl1l := crash9_len a1 l
        rw [hl1] at hlf hl1l
        have hcc := crash9_full (m := a2) hlf
        have HLF := Lib.hid hlf
        have HCC := Lib.hid hcc
        clear hgs hgg hlf hcc
        refine (crash_dk (n := a1) HDR.out (by omega) (by have := HN1.out; omega) _ hl1).mono ?_
        rintro e k3 ⟨rfl, hd, hb⟩
        obtain ⟨ga, hga⟩ : ∃ ga, wr.heap.size = ga := ⟨_, rfl⟩
        have HB3 := Lib.hid (HBR.out.trans (hb.mono HBR.out.size))
        rw [hga] at hd
        try rw [hga]
        have HDA := Lib.hid hd
        clear hd hb HBR HDR hga hl1
        go_wp2_with fail
        refine (crash_dk (n := a2) HDA.out (by omega) (by have := HN2.out; omega) _ HCC.out).mono ?_
        rintro e k4 ⟨rfl, hd, hb⟩
        obtain ⟨gb, hgb⟩ : ∃ gb, k3.heap.size = gb := ⟨_, rfl⟩
        have HB4 := Lib.hid (HB3.out.trans (hb.mono HB3.out.size))
        replace HDA := Lib.hid (HDA.out.below hb)
        rw [hgb] at hd
        try rw [hgb]
        have HDB := Lib.hid hd
        clear hd hb HB3 hgb
        obtain ⟨z, hz⟩ : ∃ z, l1.length = z := ⟨_, rfl⟩
        have HZL := Lib.hid hz
        rw [hz] at hl1l
        go_wp2_with fail
        refine (names_dk HDA.out (by omega)).mono ?_
        rintro e k5 ⟨v5, rfl, hr, hb⟩
        have HB5 := Lib.hid (HB4.out.trans (hb.mono HB4.out.size))
        replace HDA := Lib.hid (HDA.out.below hb)
        replace HDB := Lib.hid (HDB.out.below hb)
        rw [hz] at hr
        obtain ⟨A5, c5, hv5⟩ := own_slice hr
        subst hv5
        have HR5 := Lib.hid hr
        clear hr hb HB4
        go_wp2_with fail
        refine (names_dk HDB.out (by omega)).mono ?_
        rintro e k6 ⟨v6, rfl, hr, hb⟩
        have HB6 := Lib.hid (HB5.out.trans (hb.mono HB5.out.size))
        replace HDA := Lib.hid (HDA.out.below hb)
        replace HDB := Lib.hid (HDB.out.below hb)
        replace HR5 := Lib.hid (ownsRow_below HR5.out hb)
        rw [hz] at hr
        obtain ⟨A6, c6, hv6⟩ := own_slice hr
        subst hv6
        have HR6 := Lib.hid hr
        clear hr hb HB5 hz
        go_wp2_with fail
        go_loopw [15] (fun i wr2 => ∃ k : Nat, i = .int .i64 k ∧ k ≤ z ∧ Below k6.heap.size k6 wr2) (fun i _ => z - (intOf i).toNat)
        case atStart => exact ⟨0, rfl, Nat.zero_le _, Below.refl _ _⟩
        case round =>
          obtain ⟨j, rfl, hj, hb⟩ := hrel
          have HBJ := Lib.hid hb
          clear hb
          by_cases hlt : j < z
          · have hji : (j : Int) < z := by omega
            have hjl : j < l1.length := by rw [HZL.out]; exact hlt
            obtain ⟨f, hf⟩ : ∃ f, l1[j] = f := ⟨_, rfl⟩
            have hgf := getF_at HDA.out.good.1 j hjl
            have hfm : f ∈ l1 := by rw [← hf]; exact List.getElem_mem _
            have hfg := (HDA.out.good.2 f hfm).1
            have hff := HLF.out f hfm
            have HA2 := Lib.hid (HDA.out.below HBJ.out)
            have HB2 := Lib.hid (HDB.out.below HBJ.out)
            obtain ⟨gl, hA5, hgl, hcl⟩ := names_at (ownsRow_below HR5.out HBJ.out) j hjl HZL.out
            obtain ⟨gm, hA6, hgm, hcm⟩ := names_at (ownsRow_below HR6.out HBJ.out) j hjl HZL.out
            rw [hf] at hgf hcl hcm
            subst hA5; subst hA6
            obtain ⟨nm, hnm⟩ : ∃ nm, f.name = nm := ⟨_, rfl⟩
            rw [hnm] at hgf hcl hcm hfg
            have hnz := (goodN_size hfg).2
            have HNM : Hid (nm.size ≤ maxLen) := Lib.hid (by unfold maxLen; omega)
            obtain ⟨bs, hbs⟩ : ∃ bs, f.b = bs := ⟨_, rfl⟩
            have hls : loose9 nm l1 = 0 := by
              unfold loose9; rw [hgf]
              show (f.b.length : Int) - f.fast = 0
              rw [hff.1, Int.sub_self]
            have HGF := Lib.hid hgf
            have HLS := Lib.hid hls
            have HFB := Lib.hid hbs
            clear hgf hfg hff hfm hf hnm hls hbs
            go_wp2_with fail
            refine (read_dk (n := nm) HA2.out HNM.out _ HGF.out).mono ?_
            rintro e k7 ⟨v7, rfl, hv, hb⟩
            rw [HFB.out] at hv
            replace HA2 := Lib.hid (HA2.out.below hb)
            replace HB2 := Lib.hid (HB2.out.below hb)
            have hcl7 := (hb.cell (p := ⟨gl, j, none⟩) hgl).trans hcl
            have hcm7 := (hb.cell (p := ⟨gm, j, none⟩) hgm).trans hcm
            have hgl7 := Nat.lt_of_lt_of_le hgl hb.size
            have hgm7 := Nat.lt_of_lt_of_le hgm hb.size
            have HBK := Lib.hid (HBJ.out.trans (hb.mono HBJ.out.size))
            have HV7 := Lib.hid (Byt.of_own hv)
            clear hv hb hcl hcm hgl hgm
            go_wp2_with fail
            refine (read_dk (n := nm) HB2.out HNM.out _ HGF.out).mono ?_
            rintro e k8 ⟨v8, rfl, hv, hb⟩
            rw [HFB.out] at hv
            replace HA2 := Lib.hid (HA2.out.below hb)
            have hcl := (hb.cell (p := ⟨gl, j, none⟩) hgl7).trans hcl7
            have hcm := (hb.cell (p := ⟨gm, j, none⟩) hgm7).trans hcm7
            have hgl := Nat.lt_of_lt_of_le hgl7 hb.size
            have hgm := Nat.lt_of_lt_of_le hgm7 hb.size
            have HBL := Lib.hid (HBK.out.trans (hb.mono HBK.out.size))
            obtain ⟨S, hS⟩ : ∃ S : ByteArray, (⟨bs.toArray⟩ : ByteArray) = S := ⟨_, rfl⟩
            have HS := Lib.hid hS
            have HX7 := Lib.hid ((HV7.out.below hb (Nat.le_refl _)).more hb.size)
            have HX8 := Lib.hid (Byt.of_own hv)
            have hss : (S.toList == S.toList) = true := beq_self_eq_true _
            have hnn2 : (nm.toList == nm.toList) = true := beq_self_eq_true _
            clear hv hb hcl7 hcm7 hgl7 hgm7 HV7 HBK HB2 hS
            go_wp2_with fail
            have hb : Below w.heap.size w k8 := HB6.out.trans (HBL.out.mono HB6.out.size)
            replace hcl : k8.drew.cell? ⟨gl, j, none⟩ = some (.string nm) := hcl
            replace hcm : k8.drew.cell? ⟨gm, j, none⟩ = some (.string nm) := hcm
            replace HA2 := Lib.hid (DK.below HA2.out ((Below.refl k8.heap.size k8).drew))
            replace HX7 := Lib.hid ((Byt.more (Byt.below HX7.out ((Below.refl k8.heap.size k8).drew) (Nat.le_refl _)) (Below.size ((Below.refl k8.heap.size k8).drew))))
            replace HX8 := Lib.hid ((Byt.more (Byt.below HX8.out ((Below.refl k8.heap.size k8).drew) (Nat.le_refl _)) (Below.size ((Below.refl k8.heap.size k8).drew))))
            replace HBL := Lib.hid (Below.trans HBL.out (Below.mono ((Below.refl k8.heap.size k8).drew) (Below.size HBL.out)))
            have hr7 : (convert 30 9 v7).run Try.prog k8.drew = .ok (.string S) k8.drew := conv9 HX7.out HS.out
            have hr8 : (convert 30 9 v8).run Try.prog k8.drew = .ok (.string S) k8.drew := conv9 HX8.out HS.out
            refine wp_region_noPanic ?_
            refine wp_region_held_drew (S := fun W => W.cell? ⟨gl, j, none⟩ = some (.string nm) ∧ W.cell? ⟨gm, j, none⟩ = some (.string nm) ∧ (convert 30 9 v7).run Try.prog W = .ok (.string S) W ∧ (convert 30 9 v8).run Try.prog W = .ok (.string S) W) (by kernel_rfl) ?_ (fun hHeld => ?_)
            · exact ⟨hcl, hcm, hr7, hr8⟩
            replace hb : Below w.heap.size w k8.drew := hb.drew
            replace hgl : gl < k8.drew.heap.size := hgl
            replace hgm : gm < k8.drew.heap.size := hgm
            have hzd : k8.heap.size ≤ k8.drew.heap.size := Nat.le_refl _
            generalize k8.drew = k1 at *
            refine wpAnyH_take (i := 0) (oi := { dst := some 109, op := Op.move (Operand.tmp 13), type := 50, pos := "wide.go:74", after := #[], guard := none }) (v := .slice (some ⟨gl, 0, none⟩) z c5) rfl (by kernel_rfl) (by kernel_rfl) (by kernel_rfl) (fun _ _ _ h => h) (Or.inl ⟨by rfl, fun w hSw => ?_⟩) (by assumption) ?_
            · (try dsimp only at hSw)
              go_simp
            try simp only [Act.put, List.setIfInBounds_toArray, List.set_cons_zero, List.set_cons_succ]
            refine wpAnyH_take (i := 1) (oi := { dst := some 110, op := Op.move (Operand.tmp 15), type := 3, pos := "wide.go:74", after := #[], guard := none }) (v := .int .i64 (j : Nat)) rfl (by kernel_rfl) (by kernel_rfl) (by kernel_rfl) (fun _ _ _ h => h) (Or.inl ⟨by rfl, fun w hSw => ?_⟩) (by assumption) ?_
            · (try dsimp only at hSw)
              go_simp
            try simp only [Act.put, List.setIfInBounds_toArray, List.set_cons_zero, List.set_cons_succ]
            refine wpAnyH_take (i := 2) (oi := { dst := some 111, op := Op.indexAddr 50 (Operand.tmp 109) (Operand.tmp 110), type := 0, pos := "wide.go:74", after := #[{ on := 0, ground := Ground.data }, { on := 1, ground := Ground.data }], guard := none }) (v := .pointer (some ⟨gl, j, none⟩)) rfl (by kernel_rfl) (by kernel_rfl) (by kernel_rfl) (fun _ _ _ h => h) (Or.inl ⟨by rfl, fun w hSw => ?_⟩) (by assumption) ?_
            · (try dsimp only at hSw)
              go_simp
            try simp only [Act.put, List.setIfInBounds_toArray, List.set_cons_zero, List.set_cons_succ]
            refine wpAnyH_take (i := 3) (oi := { dst := some 112, op := Op.load 9 (Operand.tmp 111), type := 9, pos := "wide.go:74", after := #[{ on := 2, ground := Ground.data }], guard := none }) (v := .string nm) rfl (by kernel_rfl) (by kernel_rfl) (by kernel_rfl) (fun _ _ _ h => h) (Or.inl ⟨by rfl, fun w hSw => ?_⟩) (by assumption) ?_
            · (try dsimp only at hSw)
              go_simp
            try simp only [Act.put, List.setIfInBounds_toArray, List.set_cons_zero, List.set_cons_succ]
            refine wpAnyH_take (i := 4) (oi := { dst := some 113, op := Op.move (Operand.tmp 14), type := 50, pos := "wide.go:74", after := #[], guard := none }) (v := .slice (some ⟨gm, 0, none⟩) z c6) rfl (by kernel_rfl) (by kernel_rfl) (by kernel_rfl) (fun _ _ _ h => h) (Or.inl ⟨by rfl, fun w hSw => ?_⟩) (by assumption) ?_
            · (try dsimp only at hSw)
              go_simp
            try simp only [Act.put, List.setIfInBounds_toArray, List.set_cons_zero, List.set_cons_succ]
            refine wpAnyH_take (i := 5) (oi := { dst := some 114, op := Op.move (Operand.tmp 15), type := 3, pos := "wide.go:74", after := #[], guard := none }) (v := .int .i64 (j : Nat)) rfl (by kernel_rfl) (by kernel_rfl) (by kernel_rfl) (fun _ _ _ h => h) (Or.inl ⟨by rfl, fun w hSw => ?_⟩) (by assumption) ?_
            · (try dsimp only at hSw)
              go_simp
            try simp only [Act.put, List.setIfInBounds_toArray, List.set_cons_zero, List.set_cons_succ]
            refine wpAnyH_take (i := 6) (oi := { dst := some 115, op := Op.indexAddr 50 (Operand.tmp 113) (Operand.tmp 114), type := 0, pos := "wide.go:74", after := #[{ on := 4, ground := Ground.data }, { on := 5, ground := Ground.data }], guard := none }) (v := .pointer (some ⟨gm, j, none⟩)) rfl (by kernel_rfl) (by kernel_rfl) (by kernel_rfl) (fun _ _ _ h => h) (Or.inl ⟨by rfl, fun w hSw => ?_⟩) (by assumption) ?_
            · (try dsimp only at hSw)
              go_simp
            try simp only [Act.put, List.setIfInBounds_toArray, List.set_cons_zero, List.set_cons_succ]
            refine wpAnyH_take (i := 7) (oi := { dst := some 116, op := Op.load 9 (Operand.tmp 115), type := 9, pos := "wide.go:74", after := #[{ on := 6, ground := Ground.data }], guard := none }) (v := .string nm) rfl (by kernel_rfl) (by kernel_rfl) (by kernel_rfl) (fun _ _ _ h => h) (Or.inl ⟨by rfl, fun w hSw => ?_⟩) (by assumption) ?_
            · (try dsimp only at hSw)
              go_simp
            try simp only [Act.put, List.setIfInBounds_toArray, List.set_cons_zero, List.set_cons_succ]
            refine wpAnyH_take (i := 8) (oi := { dst := some 117, op := Op.binOp BinOp.neq 9 (Operand.tmp 112) (Operand.tmp 116) 9, type := 4, pos := "wide.go:74", after := #[{ on := 3, ground := Ground.data }, { on := 7, ground := Ground.data }], guard := none }) (v := .bool false) rfl (by kernel_rfl) (by kernel_rfl) (by kernel_rfl) (fun _ _ _ h => h) (Or.inl ⟨by rfl, fun w hSw => ?_⟩) (by assumption) ?_
            · (try dsimp only at hSw)
              go_simp
            try simp only [Act.put, List.setIfInBounds_toArray, List.set_cons_zero, List.set_cons_succ]
            refine wpAnyH_take (i := 9) (oi := { dst := some 118, op := Op.move (Operand.tmp 117), type := 4, pos := "wide.go:74", after := #[{ on := 8, ground := Ground.data }], guard := none }) (v := .bool false) rfl (by kernel_rfl) (by kernel_rfl) (by kernel_rfl) (fun _ _ _ h => h) (Or.inl ⟨by rfl, fun w hSw => ?_⟩) (by assumption) ?_
            · (try dsimp only at hSw)
              go_simp
            try simp only [Act.put, List.setIfInBounds_toArray, List.set_cons_zero, List.set_cons_succ]
            refine wpAnyH_take (i := 10) (oi := { dst := some 119, op := Op.move (Operand.tmp 16), type := 30, pos := "wide.go:74", after := #[{ on := 9, ground := Ground.guard }], guard := some (9, false) }) (v := v7) rfl (by kernel_rfl) (by kernel_rfl) (by kernel_rfl) (fun _ _ _ h => h) (Or.inl ⟨by rfl, fun w hSw => ?_⟩) (by assumption) ?_
            · (try dsimp only at hSw)
              go_simp
            try simp only [Act.put, List.setIfInBounds_toArray, List.set_cons_zero, List.set_cons_succ]
            refine wpAnyH_take (i := 11) (oi := { dst := some 120, op := Op.convert 30 9 (Operand.tmp 119), type := 9, pos := "wide.go:74", after := #[{ on := 10, ground := Ground.data }, { on := 9, ground := Ground.guard }], guard := some (9, false) }) (v := .string S) rfl (by kernel_rfl) (by kernel_rfl) (by kernel_rfl) (fun _ _ _ h => h) (Or.inl ⟨by rfl, fun w hSw => ?_⟩) (by assumption) ?_
            · (try dsimp only at hSw)
              go_simp
            try simp only [Act.put, List.setIfInBounds_toArray, List.set_cons_zero, List.set_cons_succ]
            refine wpAnyH_take (i := 12) (oi := { dst := some 121, op := Op.move (Operand.tmp 18), type := 30, pos := "wide.go:74", after := #[{ on := 9, ground := Ground.guard }], guard := some (9, false) }) (v := v8) rfl (by kernel_rfl) (by kernel_rfl) (by kernel_rfl) (fun _ _ _ h => h) (Or.inl ⟨by rfl, fun w hSw => ?_⟩) (by assumption) ?_
            · (try dsimp only at hSw)
              go_simp
            try simp only [Act.put, List.setIfInBounds_toArray, List.set_cons_zero, List.set_cons_succ]
            refine wpAnyH_take (i := 13) (oi := { dst := some 122, op := Op.convert 30 9 (Operand.tmp 121), type := 9, pos := "wide.go:74", after := #[{ on := 12, ground := Ground.data }, { on := 9, ground := Ground.guard }], guard := some (9, false) }) (v := .string S) rfl (by kernel_rfl) (by kernel_rfl) (by kernel_rfl) (fun _ _ _ h => h) (Or.inl ⟨by rfl, fun w hSw => ?_⟩) (by assumption) ?_
            · (try dsimp only at hSw)
              go_simp
            try simp only [Act.put, List.setIfInBounds_toArray, List.set_cons_zero, List.set_cons_succ]
            refine wpAnyH_take (i := 14) (oi := { dst := some 123, op := Op.binOp BinOp.neq 9 (Operand.tmp 120) (Operand.tmp 122) 9, type := 4, pos := "wide.go:74", after := #[{ on := 11, ground := Ground.data }, { on := 13, ground := Ground.data }, { on := 9, ground := Ground.guard }], guard := some (9, false) }) (v := .bool false) rfl (by kernel_rfl) (by kernel_rfl) (by kernel_rfl) (fun _ _ _ h => h) (Or.inl ⟨by rfl, fun w hSw => ?_⟩) (by assumption) ?_
            · (try dsimp only at hSw)
              go_simp
            try simp only [Act.put, List.setIfInBounds_toArray, List.set_cons_zero, List.set_cons_succ]
            refine wpAnyH_take (i := 15) (oi := { dst := some 124, op := Op.pick (Operand.tmp 118) (Operand.const (Value.bool true)) (Operand.tmp 123), type := 4, pos := "wide.go:74", after := #[{ on := 9, ground := Ground.data }, { on := 14, ground := Ground.data }], guard := none }) (v := .bool false) rfl (by kernel_rfl) (by kernel_rfl) (by kernel_rfl) (fun _ _ _ h => h) (Or.inl ⟨by rfl, fun w hSw => ?_⟩) (by assumption) ?_
            · (try dsimp only at hSw)
              go_simp
            try simp only [Act.put, List.setIfInBounds_toArray, List.set_cons_zero, List.set_cons_succ]
            refine wpAnyH_take (i := 16) (oi := { dst := some 125, op := Op.move (Operand.tmp 124), type := 4, pos := "wide.go:74", after := #[{ on := 15, ground := Ground.data }, { on := 9, ground := Ground.chain }], guard := none }) (v := .bool false) rfl (by kernel_rfl) (by kernel_rfl) (by kernel_rfl) (fun _ _ _ h => h) (Or.inl ⟨by rfl, fun w hSw => ?_⟩) (by assumption) ?_
            · (try dsimp only at hSw)
              go_simp
            try simp only [Act.put, List.setIfInBounds_toArray, List.set_cons_zero, List.set_cons_succ]
            refine wpAnyH_take (i := 17) (oi := { dst := some 126, op := Op.move (Operand.tmp 11), type := 24, pos := "wide.go:74", after := #[{ on := 16, ground := Ground.guard }], guard := some (16, false) }) (v := .pointer (some ⟨ga, 0, none⟩)) rfl (by kernel_rfl) (by kernel_rfl) (by kernel_rfl) (fun _ _ _ h => h) (Or.inl ⟨by rfl, fun w hSw => ?_⟩) (by assumption) ?_
            · (try dsimp only at hSw)
              go_simp
            try simp only [Act.put, List.setIfInBounds_toArray, List.set_cons_zero, List.set_cons_succ]
            refine wpAnyH_take (i := 18) (oi := { dst := some 127, op := Op.move (Operand.tmp 13), type := 50, pos := "wide.go:74", after := #[{ on := 16, ground := Ground.guard }], guard := some (16, false) }) (v := .slice (some ⟨gl, 0, none⟩) z c5) rfl (by kernel_rfl) (by kernel_rfl) (by kernel_rfl) (fun _ _ _ h => h) (Or.inl ⟨by rfl, fun w hSw => ?_⟩) (by assumption) ?_
            · (try dsimp only at hSw)
              go_simp
            try simp only [Act.put, List.setIfInBounds_toArray, List.set_cons_zero, List.set_cons_succ]
            refine wpAnyH_take (i := 19) (oi := { dst := some 128, op := Op.move (Operand.tmp 15), type := 3, pos := "wide.go:74", after := #[{ on := 16, ground := Ground.guard }], guard := some (16, false) }) (v := .int .i64 (j : Nat)) rfl (by kernel_rfl) (by kernel_rfl) (by kernel_rfl) (fun _ _ _ h => h) (Or.inl ⟨by rfl, fun w hSw => ?_⟩) (by assumption) ?_
            · (try dsimp only at hSw)
              go_simp
            try simp only [Act.put, List.setIfInBounds_toArray, List.set_cons_zero, List.set_cons_succ]
            refine wpAnyH_take (i := 20) (oi := { dst := some 129, op := Op.indexAddr 50 (Operand.tmp 127) (Operand.tmp 128), type := 0, pos := "wide.go:74", after := #[{ on := 18, ground := Ground.data }, { on := 19, ground := Ground.data }, { on := 16, ground := Ground.guard }], guard := some (16, false) }) (v := .pointer (some ⟨gl, j, none⟩)) rfl (by kernel_rfl) (by kernel_rfl) (by kernel_rfl) (fun _ _ _ h => h) (Or.inl ⟨by rfl, fun w hSw => ?_⟩) (by assumption) ?_
            · (try dsimp only at hSw)
              go_simp
            try simp only [Act.put, List.setIfInBounds_toArray, List.set_cons_zero, List.set_cons_succ]
            refine wpAnyH_take (i := 21) (oi := { dst := some 130, op := Op.load 9 (Operand.tmp 129), type := 9, pos := "wide.go:74", after := #[{ on := 20, ground := Ground.data }, { on := 16, ground := Ground.guard }], guard := some (16, false) }) (v := .string nm) rfl (by kernel_rfl) (by kernel_rfl) (by kernel_rfl) (fun _ _ _ h => h) (Or.inl ⟨by rfl, fun w hSw => ?_⟩) (by assumption) ?_
            · (try dsimp only at hSw)
              go_simp
            try simp only [Act.put, List.setIfInBounds_toArray, List.set_cons_zero, List.set_cons_succ]
            refine wpAnyH_ready (rs := [22]) (by kernel_rfl) (by simp) ?_
            refine AllReadyH.cons (o := { dst := some 131, op := Op.call { callee := Callee.value (Operand.func 25), args := #[Operand.tmp 126, Operand.tmp 130], argTypes := #[24, 9] }, type := 3, pos := "wide.go:74", after := #[{ on := 17, ground := Ground.data }, { on := 21, ground := Ground.data }, { on := 16, ground := Ground.chain }, { on := 16, ground := Ground.guard }], guard := some (16, false) }) rfl (fun K hK => ?_) (AllReadyH.nil)
            go_simp
            go_at_call 25
            refine (loose_dk (n := nm) HA2.out HNM.out 0 HLS.out).mono ?_
            rintro e k2 ⟨rfl, h⟩
            have hk : Below k1.heap.size k1 k2 := by
              refine Below.trans ?_ (h.mono (by first | (simp; done) | (simp; omega) | omega))
              repeat' (first | with_reducible exact Below.refl _ _ | (with_reducible refine Below.alloc ?_ ?_ _) | (with_reducible refine Below.setCell ?_ ?_ _) | exact (by first | (simp; done) | (simp; omega) | omega))
            have hz := h.size
            try simp at hz
            replace hcl : k2.cell? ⟨gl, j, none⟩ = some (.string nm) := (hk.cell (p := ⟨gl, j, none⟩) (by first | (simp; done) | (simp; omega) | omega)).trans hcl
            replace hcm : k2.cell? ⟨gm, j, none⟩ = some (.string nm) := (hk.cell (p := ⟨gm, j, none⟩) (by first | (simp; done) | (simp; omega) | omega)).trans hcm
            replace HA2 := Lib.hid (DK.below HA2.out hk)
            replace HX7 := Lib.hid ((Byt.more (Byt.below HX7.out hk (Nat.le_refl _)) (Below.size hk)))
            replace HX8 := Lib.hid ((Byt.more (Byt.below HX8.out hk (Nat.le_refl _)) (Below.size hk)))
            replace HBL := Lib.hid (Below.trans HBL.out (Below.mono hk (Below.size HBL.out)))
            replace hb : Below w.heap.size w k2 := hb.trans (hk.mono hb.size)
            have hgl : gl < k2.heap.size := (by first | (simp; done) | (simp; omega) | omega)
            have hgm : gm < k2.heap.size := (by first | (simp; done) | (simp; omega) | omega)
            clear h hk
            have hr7 : (convert 30 9 v7).run Try.prog k2 = .ok (.string S) k2 := conv9 HX7.out HS.out
            have hr8 : (convert 30 9 v8).run Try.prog k2 = .ok (.string S) k2 := conv9 HX8.out HS.out
            try dsimp only
            refine hK.out _ _ ?_ (fun hHeld => ?_)
            · exact ⟨hcl, hcm, hr7, hr8⟩
            clear hK K
            try simp only [Act.put, List.setIfInBounds_toArray, List.set_cons_zero, List.set_cons_succ]
            refine wpAnyH_take (i := 23) (oi := { dst := some 132, op := Op.binOp BinOp.neq 3 (Operand.tmp 131) (Operand.const (Value.int IntKind.i64 0)) 3, type := 4, pos := "wide.go:74", after := #[{ on := 22, ground := Ground.data }, { on := 16, ground := Ground.guard }], guard := some (16, false) }) (v := .bool false) rfl (by kernel_rfl) (by kernel_rfl) (by kernel_rfl) (fun _ _ _ h => h) (Or.inl ⟨by rfl, fun w hSw => ?_⟩) (by assumption) ?_
            · (try dsimp only at hSw)
              go_simp
            try simp only [Act.put, List.setIfInBounds_toArray, List.set_cons_zero, List.set_cons_succ]
            refine wpAnyH_take (i := 24) (oi := { dst := some 133, op := Op.pick (Operand.tmp 125) (Operand.const (Value.bool true)) (Operand.tmp 132), type := 4, pos := "wide.go:74", after := #[{ on := 16, ground := Ground.data }, { on := 23, ground := Ground.data }], guard := none }) (v := .bool false) rfl (by kernel_rfl) (by kernel_rfl) (by kernel_rfl) (fun _ _ _ h => h) (Or.inl ⟨by rfl, fun w hSw => ?_⟩) (by assumption) ?_
            · (try dsimp only at hSw)
              go_simp
            try simp only [Act.put, List.setIfInBounds_toArray, List.set_cons_zero, List.set_cons_succ]
            refine wpAnyH_done (by kernel_rfl) ?_ _
            refine NoPanic.normal ?_
            go_wp2
            go_roundw
            case rel => exact ⟨j + 1, by go_num, by omega, HBL.out⟩
            case measure => simp [intOf]; omega
          · have hge2 : (z : Int) ≤ j := by omega
            clear hlt
            go_wp2
            go_ret
            exact ⟨rfl, HB6.out.trans (HBJ.out.mono HB6.out.size)⟩

set_option maxRecDepth 100000 in
theorem lifted (os : Os) (started : os.Started) (H : Type) (enc : TypeId × Value → H) :
    ReturnsInHanded {} Try.checked os 9 .any (Rows.diskTwiceSpec.pre6 enc Try.prog Try.f9 Rows.diskTwiceRow.domain false) (Rows.diskTwiceSpec.post enc Try.prog Try.f9 false true false false) := by
  refine returnsInHanded_of_change (C := Try.checked) own started (by kernel_rfl) Try.func9
    (ChangeSpec.witness6 (enc := enc) (C := Try.checked) false ⟨#[], #[.slice none 0 0, .int .i64 0, .int .i64 0], []⟩ 8 (by kernel_rfl) (by kernel_rfl) (by kernel_rfl) (by kernel_rfl)) ?_
  intro W base args ds gs before hval0 hW hcnd _
  have hval : ∀ (j : Nat) t v, Try.f9.params[j]? = some t → args[j]? = some v → Value.okWide Try.prog W .any base t v := hval0
  have hW' := hW
  obtain ⟨p, q, hA0, hV, rfl, hfz, hnd⟩ := hW
  have hA : DataW.TrodAll enc Try.prog W 0 (fun _ => true) true Try.f9.params.toList args.toList ds p := hA0
  have hA1 := hA
  rw [Try.params9] at hA hval
  obtain ⟨v0, vs0, d0, ds0, p0, q0, hargs, rfl, rfl, h0, r0⟩ := trodAll_cons hA
  obtain ⟨v1, vs1, d1, ds1, p1, q1, rfl, rfl, rfl, h1, r1⟩ := trodAll_cons r0
  obtain ⟨v2, vs2, d2, ds2, p2, q2, rfl, rfl, rfl, h2, r2⟩ := trodAll_cons r1
  obtain ⟨rfl, rfl, rfl⟩ := trodAll_nil r2
  obtain rfl : args = #[v0, v1, v2] := by cases args; simp_all
  obtain ⟨rfl, rfl⟩ := trodVars_none hV
  obtain ⟨A0, c0, a0, rfl, w0, x0⟩ := open_dops (hval 0 22 v0 rfl rfl) h0
  obtain ⟨a1, rfl, rfl, rfl, w1⟩ := open_int Try.underlying3 (hval 1 3 v1 rfl rfl) h1
  obtain ⟨a2, rfl, rfl, rfl, w2⟩ := open_int Try.underlying3 (hval 2 3 v2 rfl rfl) h2
  clear hA0 hval0
  simp only [List.append_nil] at hW'
  try simp only [List.append_nil] at hA1
  refine (walk W A0 c0 a0 w0 x0 a1 w1 a2 w2).mono fun e W' ⟨he, hg⟩ => ?_
  subst he
  exact ⟨_, rfl, law_end Try.laidOut (by kernel_rfl) hW' hA1 hg rfl rfl rfl (trodAll_mk1 (shut_bool Try.underlying4 _))⟩

theorem over : Rows.diskTwiceRow.holds Try.pinned (OpenSpec.ofChange Rows.diskTwiceSpec) :=
  OpenClaim.holds_of_wide 9 Try.f9 rfl rfl rfl rfl rfl rfl rfl ⟨rfl, rfl, rfl, rfl, rfl⟩ rfl rfl rfl rfl rfl (by kernel_rfl) Try.func9 (by kernel_rfl)
    (of_decide_eq_true (by kernel_rfl)) (by unfold Func.isWrapper; first | (rw [if_pos (by decide +kernel)]; kernel_rfl) | (rw [if_neg (by decide +kernel)]; exact ⟨rfl, rfl⟩))
    (fun os started H enc _ => lifted os started H enc)

/-- the statement -/
theorem proved : Rows.DiskTwiceSaid := over
#print axioms proved
end Go.Proofs.Ytbdengcblncfmaa.diskTwice
