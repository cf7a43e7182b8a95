import Derived.Test.YtegkhkcnoahhdaaGreatL7Walk
set_option linter.unusedSimpArgs false
set_option linter.unusedVariables false
namespace Go.Proofs.YtegkhkcnoahhdaaGreat
open Lib (hid)
open Go.RowKit
set_option maxRecDepth 100000
theorem reqRow_is (B : Nat) (u v : Value) (a : Rw) (w : World) (ha : RowV w B u a) (hb0 : RowV w B v a) (hB : B ≤ w.heap.size) (hl : a.b.ops.length ≤ 1000000) :
  Calls Tryz.prog 11 #[u, v] w fun e w' => e = .returned (.bool true) ∧ Below w.heap.size w w' := by
 have h := reqRow_any B u v a a w ha hb0 hB hl
 rw [eqRw_iff.2 rfl] at h
 exact h
set_option maxHeartbeats 2000000 in
theorem lsame7_is (B C g : Nat) (cs : List Value) (f : Fo) (w : World) (h : Fd w B g f) (hr : FoC w C cs f) (hB : B ≤ w.heap.size) (hC : C ≤ w.heap.size) :
  Calls Tryz.prog 12 #[.pointer (some ⟨g, 0, none⟩), .agg cs.toArray] w fun e w' => e = .returned (.bool true) ∧ Below w.heap.size w w' := by
 have hlen9 := hr.len
 obtain ⟨ds, hds, hprs⟩ := hr.doc
 obtain ⟨Ad, cd, rfl, hpr9⟩ := id hprs
 clear hpr9
 have HLC := hid hlen9; clear hlen9
 have HDS := hid hds; clear hds
 have hp2 := hprs.more hC
 have HP := hid hp2; clear hprs hp2
 have hfc := hr.more hC
 have HC := hid hfc; clear hfc hr
 have HD := hid h; clear h
 have hgl := HD.out.lt
 obtain ⟨p, hp⟩ : ∃ p, f.place = p := ⟨_, rfl⟩
 have HPL := hid hp; clear hp
 go_enter Tryz.func12, Tryz.ntmps12
 go_upto_region 1 with fail
 refine wp_world (fun W => Rb W w.heap.size 39 cs ∧ Below w.heap.size w W) ⟨Rb.new w _ cs, below_one w _⟩ ?_
 rintro k1 ⟨hr0, hb⟩
 have HR0 := hid hr0; clear hr0
 replace HP := hid ((HP.out.keep hb (Nat.le_refl _)).more hb.size)
 replace HC := hid (HC.out.below hb)
 replace HD := hid (HD.out.below hb)
 have q0 : k1.cell? ⟨w.heap.size, 0, none⟩ = some (.int .i64 p) := HR0.out.cell (by rw [← HPL.out]; exact HC.out.place)
 have q1 : k1.cell? ⟨w.heap.size, 1, none⟩ = some (.slice Ad f.d.length cd) := HR0.out.cell HDS.out
 have lt0 : w.heap.size < k1.heap.size := HR0.out.lt
 have hnp : (p != p) = false := by simp
 replace q0 : k1.drew.cell? ⟨w.heap.size, 0, none⟩ = some (.int .i64 p) := q0
 replace q1 : k1.drew.cell? ⟨w.heap.size, 1, none⟩ = some (.slice Ad f.d.length cd) := q1
 replace HR0 := hid (Rb.below HR0.out ((Below.refl k1.heap.size k1).drew))
 replace HP := hid (Prs.more (Prs.keep HP.out ((Below.refl k1.heap.size k1).drew) (Nat.le_refl _)) (Below.size ((Below.refl k1.heap.size k1).drew)))
 replace HC := hid (FoC.below HC.out ((Below.refl k1.heap.size k1).drew))
 replace HD := hid (Fd.below HD.out ((Below.refl k1.heap.size k1).drew))
 refine wp_region_noPanic ?_
 refine wp_region_held_drew (S := fun W => W.cell? ⟨w.heap.size, 0, none⟩ = some (.int .i64 p) ∧ W.cell? ⟨w.heap.size, 1, none⟩ = some (.slice Ad f.d.length cd)) (by kernel_rfl) ?_ (fun hHeld => ?_)
 ·exact ⟨q0, q1⟩
 replace hb : Below w.heap.size w k1.drew := hb.drew
 replace lt0 : w.heap.size < k1.drew.heap.size := lt0
 have hzd : k1.heap.size ≤ k1.drew.heap.size := Nat.le_refl _
 generalize k1.drew = k2 at *
 refine tk9 0 (.pointer (some ⟨g, 0, none⟩)) rfl (fun w hSw => ?_) ?_
 ·(try dsimp only at hSw)
  go_simp
 try simp only [P9]
 refine tk9 1 (.bool false) rfl (fun w hSw => ?_) ?_
 ·(try dsimp only at hSw)
  go_simp
 try simp only [P9]
 refine tk9 2 (.bool false) rfl (fun w hSw => ?_) ?_
 ·(try dsimp only at hSw)
  go_simp
 try simp only [P9]
 refine tk9 3 (.pointer (some ⟨g, 0, none⟩)) rfl (fun w hSw => ?_) ?_
 ·(try dsimp only at hSw)
  go_simp
 try simp only [P9]
 refine tk9 5 (.pointer (some ⟨w.heap.size, 0, none⟩)) rfl (fun w hSw => ?_) ?_
 ·(try dsimp only at hSw)
  go_simp
 try simp only [P9]
 refine tk9 6 (.int .i64 p) rfl (fun w hSw => ?_) ?_
 ·(try dsimp only at hSw)
  go_simp
 try simp only [P9]
 refine wpAnyH_ready (rs := [4]) (by kernel_rfl) (by simp) ?_
 refine AllReadyH.cons (o := _) rfl (fun K hK => ?_) (AllReadyH.nil)
 go_simp
 go_at_call 23
 refine (fplace_to B _ f p _ HD.out HPL.out).mono ?_
 rintro e k3 ⟨rfl, h⟩
 have hk : Below k2.heap.size k2 k3 := HK9 h
 have hz := h.size
 try simp at hz
 replace q0 := (hk.cell LT9).trans q0
 replace q1 := (hk.cell LT9).trans q1
 replace HR0 := hid (Rb.below HR0.out hk)
 replace HP := hid (Prs.more (Prs.keep HP.out hk (Nat.le_refl _)) (Below.size hk))
 replace HC := hid (FoC.below HC.out hk)
 replace HD := hid (Fd.below HD.out hk)
 replace hb : Below w.heap.size w k3 := hb.trans (hk.mono hb.size)
 have lt0 : w.heap.size < k3.heap.size := LT9
 clear h hk
 try dsimp only
 refine hK.out _ _ ?_ (fun hHeld => ?_)
 ·exact ⟨q0, q1⟩
 clear hK K
 try simp only [P9]
 refine tk9 7 (.bool false) rfl (fun w hSw => ?_) ?_
 ·(try dsimp only at hSw)
  go_simp
 try simp only [P9]
 refine tk9 8 (.bool false) rfl (fun w hSw => ?_) ?_
 ·(try dsimp only at hSw)
  go_simp
 try simp only [P9]
 refine tk9 9 (.bool false) rfl (fun w hSw => ?_) ?_
 ·(try dsimp only at hSw)
  go_simp
 try simp only [P9]
 refine tk9 10 (.pointer (some ⟨g, 0, none⟩)) rfl (fun w hSw => ?_) ?_
 ·(try dsimp only at hSw)
  go_simp
 try simp only [P9]
 refine tk9 12 (.pointer (some ⟨w.heap.size, 1, none⟩)) rfl (fun w hSw => ?_) ?_
 ·(try dsimp only at hSw)
  go_simp
 try simp only [P9]
 refine tk9 13 (.agg #[.slice Ad f.d.length cd]) rfl (fun w hSw => ?_) ?_
 ·(try dsimp only at hSw)
  go_simp
 try simp only [P9]
 refine wpAnyH_ready (rs := [11]) (by kernel_rfl) (by simp) ?_
 refine AllReadyH.cons (o := _) rfl (fun K hK => ?_) (AllReadyH.nil)
 go_simp
 go_at_call 20
 refine (fdoc_is B _ f _ HD.out (Nat.le_trans hB hb.size)).mono ?_
 rintro e k4 ⟨gq, rfl, ⟨hq, hql⟩, h⟩
 have hk : Below k3.heap.size k3 k4 := HK9 h
 have hz := h.size
 try simp at hz
 replace q0 := (hk.cell LT9).trans q0
 replace q1 := (hk.cell LT9).trans q1
 replace HR0 := hid (Rb.below HR0.out hk)
 replace HP := hid (Prs.more (Prs.keep HP.out hk (Nat.le_refl _)) (Below.size hk))
 replace HC := hid (FoC.below HC.out hk)
 replace HD := hid (Fd.below HD.out hk)
 replace hb : Below w.heap.size w k4 := hb.trans (hk.mono hb.size)
 have lt0 : w.heap.size < k4.heap.size := LT9
 clear h hk
 have HQ := hid hq
 have hltHQ : gq < k4.heap.size := HQ.out.lt
 clear hq
 try dsimp only
 refine hK.out _ _ ?_ (fun hHeld => ?_)
 ·exact ⟨q0, q1⟩
 clear hK K
 try simp only [P9]
 refine wpAnyH_ready (rs := [14]) (by kernel_rfl) (by simp) ?_
 refine AllReadyH.cons (o := _) rfl (fun K hK => ?_) (AllReadyH.nil)
 go_simp
 go_at_call 31
 refine (lsame_is B gq _ _ f.d _ HQ.out HP.out (Nat.le_refl _)).mono ?_
 rintro e k5 ⟨rfl, h⟩
 have hk : Below k4.heap.size k4 k5 := HK9 h
 have hz := h.size
 try simp at hz
 replace q0 := (hk.cell LT9).trans q0
 replace q1 := (hk.cell LT9).trans q1
 replace HR0 := hid (Rb.below HR0.out hk)
 replace HP := hid (Prs.more (Prs.keep HP.out hk (Nat.le_refl _)) (Below.size hk))
 replace HC := hid (FoC.below HC.out hk)
 replace HD := hid (Fd.below HD.out hk)
 replace HQ := hid (Dc.below HQ.out hk)
 replace hb : Below w.heap.size w k5 := hb.trans (hk.mono hb.size)
 have lt0 : w.heap.size < k5.heap.size := LT9
 clear h hk
 try dsimp only
 refine hK.out _ _ ?_ (fun hHeld => ?_)
 ·exact ⟨q0, q1⟩
 clear hK K
 try simp only [P9]
 refine tk9 15 (.bool false) rfl (fun w hSw => ?_) ?_
 ·(try dsimp only at hSw)
  go_simp
 try simp only [P9]
 refine tk9 16 (.bool false) rfl (fun w hSw => ?_) ?_
 ·(try dsimp only at hSw)
  go_simp
 try simp only [P9]
 refine wpAnyH_done (by kernel_rfl) ?_ _
 refine NoPanic.normal ?_
 have HQ9 := HQ.out; clear HQ HQ9
 go_wp2_with fail
 go_loopw [5] (fun i wr => ∃ c : Nat, i = .int .i64 c ∧ c ≤ 7 ∧ Rb wr w.heap.size 39 cs ∧ FoC wr wr.heap.size cs f ∧ Fd wr B g f ∧ Below w.heap.size w wr) (fun i _ => 7 - (intOf i).toNat)
 case atStart => exact ⟨0, rfl, by omega, HR0.out, HC.out, HD.out, hb⟩
 case round =>
  clear HR0 HC HD hb HP q0 q1
  obtain ⟨c, rfl, hc7, hr0, hfc, hfd, hb⟩ := hrel
  have HR0 := hid hr0; clear hr0
  have HC := hid hfc; clear hfc
  have HD := hid hfd; clear hfd
  have hlr := HR0.out.lt
  have hld := HD.out.lt
  obtain ⟨⟨rp, ⟨rc, rq, ro⟩, re⟩, hrt⟩ : ∃ r, f.told c = r := ⟨_, rfl⟩
  obtain ⟨L, hL⟩ : ∃ L, f.last c = L := ⟨_, rfl⟩
  have hl0 := HD.out.good.last_le c
  rw [hL] at hl0
  have hlen : ro.length ≤ 1000000 := by
   by_cases h0 : f.last c = 0
   ·have := HD.out.good.no c h0
    rw [hrt] at this
    injection this with _ h2 _
    injection h2 with _ _ h3
    rw [h3]; exact Nat.zero_le _
   ·have := mayB_len (HD.out.good.yes c h0).1
    rw [hrt] at this
    simp only at this
    omega
  have HLL := hid hL; clear hL
  have HRT := hid hrt; clear hrt
  by_cases hc6 : c ≤ 6
  ·have hcs : c = 0 ∨ c = 6 ∨ (1 ≤ c ∧ c ≤ 5) := by omega
   rcases hcs with rfl | rfl | ⟨hc1, hc5⟩
   ·have hz0 := HD.out.good.out 0 (by omega)
    have hz1 := HD.out.good.no 0 hz0
    rw [HLL.out] at hz0
    rw [HRT.out] at hz1
    injection hz1 with e1 e2 e3
    injection e2 with e4 e5 e6
    subst e1; subst e3; subst e4; subst e5; subst e6; subst hz0
    have HTOLD := hid (show f.told ((0 : Int)).toNat = _ from HRT.out)
    have HLAST := hid (show f.last ((0 : Int)).toNat = _ from HLL.out)
    go_upto_region 9 with fail
    refine wp_world (fun W => Rb W wr.heap.size 36 z5 ∧ Below wr.heap.size wr W) ⟨by exact Rb.new _ _ _, by exact below_one _ _⟩ ?_
    rintro k21 ⟨hw9, hk⟩
    have HRB := hid hw9; clear hw9
    replace HR0 := hid (Rb.below HR0.out hk)
    replace HC := hid (FoC.below HC.out hk)
    replace HD := hid (Fd.below HD.out hk)
    replace hb : Below w.heap.size w k21 := hb.trans (hk.mono hb.size)
    clear hk
    have hltb := HRB.out.lt
    have HOS := hid (ops_none k21 k21.heap.size 0 none)
    go_wp2_with fail
    refine (ftold_to B _ f 0 0 0 0 0 [] false _ (Fd.below HD.out BL9) HTOLD.out (by rw [HLAST.out]; rfl)).mono ?_
    rintro e k22 ⟨A9, c9, rfl, ho9, h⟩
    have hk : Below k21.heap.size k21 k22 := HK9 h
    have hz := h.size
    try simp at hz
    replace HR0 := hid (Rb.below HR0.out hk)
    replace HC := hid (FoC.below HC.out hk)
    replace HD := hid (Fd.below HD.out hk)
    replace HRB := hid (Rb.below HRB.out hk)
    replace HOS := hid (Ops.more (Ops.keep HOS.out hk (Nat.le_refl _)) (Below.size hk))
    replace hb : Below w.heap.size w k22 := hb.trans (hk.mono hb.size)
    clear h hk
    have HO9 := hid ho9; clear ho9
    go_upto_region 10 with fail
    refine wp_world (fun W => Rb W k22.heap.size 36 [.int .i64 0, .int .i64 0, .int .i64 0, .slice A9 0 c9, .int .i64 0] ∧ Below k22.heap.size k22 W) ⟨by exact Rb.new _ _ _, by exact below_one _ _⟩ ?_
    rintro k23 ⟨hw9, hk⟩
    have HW := hid hw9; clear hw9
    replace HR0 := hid (Rb.below HR0.out hk)
    replace HC := hid (FoC.below HC.out hk)
    replace HD := hid (Fd.below HD.out hk)
    replace HRB := hid (Rb.below HRB.out hk)
    replace HOS := hid (Ops.more (Ops.keep HOS.out hk (Nat.le_refl _)) (Below.size hk))
    replace HO9 := hid (Ops.more (Ops.keep HO9.out hk (Nat.le_refl _)) (Below.size hk))
    replace hb : Below w.heap.size w k23 := hb.trans (hk.mono hb.size)
    have hkz9 := hk.size
    clear hk
    have hltw := HW.out.lt
    go_wp2_with fail
    refine (fLast_is B _ f 0 0 _ (Fd.below HD.out BL9) HLAST.out).mono ?_
    rintro e k24 ⟨rfl, h⟩
    have hk : Below k23.heap.size k23 k24 := HK9 h
    have hz := h.size
    try simp at hz
    replace HR0 := hid (Rb.below HR0.out hk)
    replace HC := hid (FoC.below HC.out hk)
    replace HD := hid (Fd.below HD.out hk)
    replace HRB := hid (Rb.below HRB.out hk)
    replace HOS := hid (Ops.more (Ops.keep HOS.out hk (Nat.le_refl _)) (Below.size hk))
    replace HO9 := hid (Ops.more (Ops.keep HO9.out hk (Nat.le_refl _)) (Below.size hk))
    replace HW := hid (Rb.below HW.out hk)
    replace hb : Below w.heap.size w k24 := hb.trans (hk.mono hb.size)
    clear h hk
    have w0 : k24.cell? ⟨k22.heap.size, 0, none⟩ = some (.int .i64 0) := HW.out.cell (j := 0) rfl
    have w1 : k24.cell? ⟨k22.heap.size, 1, none⟩ = some (.int .i64 0) := HW.out.cell (j := 1) rfl
    have w2 : k24.cell? ⟨k22.heap.size, 2, none⟩ = some (.int .i64 0) := HW.out.cell (j := 2) rfl
    have w3 : k24.cell? ⟨k22.heap.size, 3, none⟩ = some (.slice A9 0 c9) := HW.out.cell (j := 3) rfl
    have w4 : k24.cell? ⟨k22.heap.size, 4, none⟩ = some (.int .i64 0) := HW.out.cell (j := 4) rfl
    have b0 : k24.cell? ⟨wr.heap.size, 0, none⟩ = some (.int .i64 0) := HRB.out.cell (j := 0) rfl
    have b1 : k24.cell? ⟨wr.heap.size, 1, none⟩ = some (.int .i64 0) := HRB.out.cell (j := 1) rfl
    have b2 : k24.cell? ⟨wr.heap.size, 2, none⟩ = some (.int .i64 0) := HRB.out.cell (j := 2) rfl
    have b3 : k24.cell? ⟨wr.heap.size, 3, none⟩ = some (.slice none 0 0) := HRB.out.cell (j := 3) rfl
    have b4 : k24.cell? ⟨wr.heap.size, 4, none⟩ = some (.int .i64 0) := HRB.out.cell (j := 4) rfl
    have hll : ((0 : Int) != 0) = false := by simp
    go_wp2_with fail
    refine (reqRow_is _ _ _ ⟨0, ⟨0, 0, []⟩, 0⟩ _ ⟨_, rfl, (Ops.keep HO9.out BL9 (Nat.le_refl _))⟩ ⟨_, rfl, (Ops.keep HOS.out BL9 (Nat.le_refl _))⟩ (Nat.le_refl _) hlen).mono ?_
    rintro e k25 ⟨rfl, h⟩
    have hk : Below k24.heap.size k24 k25 := HK9 h
    have hz := h.size
    try simp at hz
    replace HR0 := hid (Rb.below HR0.out hk)
    replace HC := hid (FoC.below HC.out hk)
    replace HD := hid (Fd.below HD.out hk)
    replace HRB := hid (Rb.below HRB.out hk)
    replace HOS := hid (Ops.more (Ops.keep HOS.out hk (Nat.le_refl _)) (Below.size hk))
    replace HO9 := hid (Ops.more (Ops.keep HO9.out hk (Nat.le_refl _)) (Below.size hk))
    replace HW := hid (Rb.below HW.out hk)
    replace hb : Below w.heap.size w k25 := hb.trans (hk.mono hb.size)
    clear h hk
    go_wp2
    go_roundw
    case rel => exact ⟨0 + 1, by go_num, by omega, (Rb.below HR0.out BL9), (FoC.below HC.out BL9), (Fd.below HD.out BL9), hb⟩
    case measure => first | (simp [intOf]; done) | (simp [intOf]; omega)
   ·have hz0 := HD.out.good.out 6 (by omega)
    have hz1 := HD.out.good.no 6 hz0
    rw [HLL.out] at hz0
    rw [HRT.out] at hz1
    injection hz1 with e1 e2 e3
    injection e2 with e4 e5 e6
    subst e1; subst e3; subst e4; subst e5; subst e6; subst hz0
    have HTOLD := hid (show f.told ((6 : Int)).toNat = _ from HRT.out)
    have HLAST := hid (show f.last ((6 : Int)).toNat = _ from HLL.out)
    go_upto_region 9 with fail
    refine wp_world (fun W => Rb W wr.heap.size 36 z5 ∧ Below wr.heap.size wr W) ⟨by exact Rb.new _ _ _, by exact below_one _ _⟩ ?_
    rintro k21 ⟨hw9, hk⟩
    have HRB := hid hw9; clear hw9
    replace HR0 := hid (Rb.below HR0.out hk)
    replace HC := hid (FoC.below HC.out hk)
    replace HD := hid (Fd.below HD.out hk)
    replace hb : Below w.heap.size w k21 := hb.trans (hk.mono hb.size)
    clear hk
    have hltb := HRB.out.lt
    have HOS := hid (ops_none k21 k21.heap.size 0 none)
    go_wp2_with fail
    refine (ftold_to B _ f 6 0 0 0 0 [] false _ (Fd.below HD.out BL9) HTOLD.out (by rw [HLAST.out]; rfl)).mono ?_
    rintro e k22 ⟨A9, c9, rfl, ho9, h⟩
    have hk : Below k21.heap.size k21 k22 := HK9 h
    have hz := h.size
    try simp at hz
    replace HR0 := hid (Rb.below HR0.out hk)
    replace HC := hid (FoC.below HC.out hk)
    replace HD := hid (Fd.below HD.out hk)
    replace HRB := hid (Rb.below HRB.out hk)
    replace HOS := hid (Ops.more (Ops.keep HOS.out hk (Nat.le_refl _)) (Below.size hk))
    replace hb : Below w.heap.size w k22 := hb.trans (hk.mono hb.size)
    clear h hk
    have HO9 := hid ho9; clear ho9
    go_upto_region 10 with fail
    refine wp_world (fun W => Rb W k22.heap.size 36 [.int .i64 0, .int .i64 0, .int .i64 0, .slice A9 0 c9, .int .i64 0] ∧ Below k22.heap.size k22 W) ⟨by exact Rb.new _ _ _, by exact below_one _ _⟩ ?_
    rintro k23 ⟨hw9, hk⟩
    have HW := hid hw9; clear hw9
    replace HR0 := hid (Rb.below HR0.out hk)
    replace HC := hid (FoC.below HC.out hk)
    replace HD := hid (Fd.below HD.out hk)
    replace HRB := hid (Rb.below HRB.out hk)
    replace HOS := hid (Ops.more (Ops.keep HOS.out hk (Nat.le_refl _)) (Below.size hk))
    replace HO9 := hid (Ops.more (Ops.keep HO9.out hk (Nat.le_refl _)) (Below.size hk))
    replace hb : Below w.heap.size w k23 := hb.trans (hk.mono hb.size)
    have hkz9 := hk.size
    clear hk
    have hltw := HW.out.lt
    go_wp2_with fail
    refine (fLast_is B _ f 6 0 _ (Fd.below HD.out BL9) HLAST.out).mono ?_
    rintro e k24 ⟨rfl, h⟩
    have hk : Below k23.heap.size k23 k24 := HK9 h
    have hz := h.size
    try simp at hz
    replace HR0 := hid (Rb.below HR0.out hk)
    replace HC := hid (FoC.below HC.out hk)
    replace HD := hid (Fd.below HD.out hk)
    replace HRB := hid (Rb.below HRB.out hk)
    replace HOS := hid (Ops.more (Ops.keep HOS.out hk (Nat.le_refl _)) (Below.size hk))
    replace HO9 := hid (Ops.more (Ops.keep HO9.out hk (Nat.le_refl _)) (Below.size hk))
    replace HW := hid (Rb.below HW.out hk)
    replace hb : Below w.heap.size w k24 := hb.trans (hk.mono hb.size)
    clear h hk
    have w0 : k24.cell? ⟨k22.heap.size, 0, none⟩ = some (.int .i64 0) := HW.out.cell (j := 0) rfl
    have w1 : k24.cell? ⟨k22.heap.size, 1, none⟩ = some (.int .i64 0) := HW.out.cell (j := 1) rfl
    have w2 : k24.cell? ⟨k22.heap.size, 2, none⟩ = some (.int .i64 0) := HW.out.cell (j := 2) rfl
    have w3 : k24.cell? ⟨k22.heap.size, 3, none⟩ = some (.slice A9 0 c9) := HW.out.cell (j := 3) rfl
    have w4 : k24.cell? ⟨k22.heap.size, 4, none⟩ = some (.int .i64 0) := HW.out.cell (j := 4) rfl
    have b0 : k24.cell? ⟨wr.heap.size, 0, none⟩ = some (.int .i64 0) := HRB.out.cell (j := 0) rfl
    have b1 : k24.cell? ⟨wr.heap.size, 1, none⟩ = some (.int .i64 0) := HRB.out.cell (j := 1) rfl
    have b2 : k24.cell? ⟨wr.heap.size, 2, none⟩ = some (.int .i64 0) := HRB.out.cell (j := 2) rfl
    have b3 : k24.cell? ⟨wr.heap.size, 3, none⟩ = some (.slice none 0 0) := HRB.out.cell (j := 3) rfl
    have b4 : k24.cell? ⟨wr.heap.size, 4, none⟩ = some (.int .i64 0) := HRB.out.cell (j := 4) rfl
    have hll : ((0 : Int) != 0) = false := by simp
    go_wp2_with fail
    refine (reqRow_is _ _ _ ⟨0, ⟨0, 0, []⟩, 0⟩ _ ⟨_, rfl, (Ops.keep HO9.out BL9 (Nat.le_refl _))⟩ ⟨_, rfl, (Ops.keep HOS.out BL9 (Nat.le_refl _))⟩ (Nat.le_refl _) hlen).mono ?_
    rintro e k25 ⟨rfl, h⟩
    have hk : Below k24.heap.size k24 k25 := HK9 h
    have hz := h.size
    try simp at hz
    replace HR0 := hid (Rb.below HR0.out hk)
    replace HC := hid (FoC.below HC.out hk)
    replace HD := hid (Fd.below HD.out hk)
    replace HRB := hid (Rb.below HRB.out hk)
    replace HOS := hid (Ops.more (Ops.keep HOS.out hk (Nat.le_refl _)) (Below.size hk))
    replace HO9 := hid (Ops.more (Ops.keep HO9.out hk (Nat.le_refl _)) (Below.size hk))
    replace HW := hid (Rb.below HW.out hk)
    replace hb : Below w.heap.size w k25 := hb.trans (hk.mono hb.size)
    clear h hk
    go_wp2
    go_roundw
    case rel => exact ⟨6 + 1, by go_num, by omega, (Rb.below HR0.out BL9), (FoC.below HC.out BL9), (Fd.below HD.out BL9), hb⟩
    case measure => first | (simp [intOf]; done) | (simp [intOf]; omega)
   ·have hcn : c < 6 := by omega
    have hci1 : (1 : Int) ≤ (c : Int) := by omega
    have hci5 : (c : Int) ≤ 5 := by omega
    have hci6 : (c : Int) < 6 := by omega
    have HTOLD := hid (show f.told (c : Int).toNat = _ from HRT.out)
    have HLAST := hid (show f.last (c : Int).toNat = _ from HLL.out)
    have hcl : cs[2 + c]? = some (.int .i64 L) := by rw [← HLL.out]; exact HC.out.last c hcn
    obtain ⟨s, e0, e1, e2, e3, e4, hops⟩ := HC.out.told c hcn
    rw [HRT.out] at e0 e1 e2 e4 hops
    simp only at e0 e1 e2 e4 hops
    obtain ⟨As, cz, rfl⟩ := ops_slice hops
    have hrw9 : wr.rangeAt w.heap.size (8 + c * 5) [.int .i64 rp, .int .i64 rc, .int .i64 rq, .slice As ro.length cz, .int .i64 re] := fun j z hj => by
     have hj5 : j < 5 := by have := (List.getElem?_eq_some_iff.1 hj).1; simpa using this
     obtain rfl | rfl | rfl | rfl | rfl : j = 0 ∨ j = 1 ∨ j = 2 ∨ j = 3 ∨ j = 4 := by omega
     ·simp at hj; subst hj; exact HR0.out.cell e0
     ·simp at hj; subst hj; exact HR0.out.cell e1
     ·simp at hj; subst hj; exact HR0.out.cell e2
     ·simp at hj; subst hj; exact HR0.out.cell e3
     ·simp at hj; subst hj; exact HR0.out.cell e4
    have HRG := hid hrw9; clear hrw9
    have HOS := hid hops; clear hops
    have qn : wr.cell? ⟨w.heap.size, 2 + c, none⟩ = some (.int .i64 L) := HR0.out.cell hcl
    clear hcl e0 e1 e2 e3 e4
    go_upto_region 8 with fail
    refine wp_world (fun W => Rb W wr.heap.size 36 z5 ∧ Below wr.heap.size wr W) ⟨by exact Rb.new _ _ _, by exact below_one _ _⟩ ?_
    rintro k21 ⟨hw9, hk⟩
    have HRB := hid hw9; clear hw9
    replace qn : k21.cell? ⟨w.heap.size, 2 + c, none⟩ = some (.int .i64 L) := (hk.cell (p := ⟨w.heap.size, 2 + c, none⟩) hlr).trans qn
    replace HR0 := hid (Rb.below HR0.out hk)
    replace HC := hid (FoC.below HC.out hk)
    replace HD := hid (Fd.below HD.out hk)
    replace HOS := hid (Ops.more (Ops.keep HOS.out hk (Nat.le_refl _)) (Below.size hk))
    replace HRG := hid (range_below HRG.out hk LT9)
    replace hb : Below w.heap.size w k21 := hb.trans (hk.mono hb.size)
    have hkz := hk.size
    clear hk
    obtain ⟨gb, hgb⟩ : ∃ x, wr.heap.size = x := ⟨_, rfl⟩
    have hgb2 : w.heap.size < gb := by omega
    have hgb3 : g < gb := by omega
    rw [hgb] at HRB ⊢
    have hltb := HRB.out.lt
    have hwr9 : wr.heap.size ≤ gb := by omega
    clear hgb
    have hlr : w.heap.size < k21.heap.size := LT9
    have hi5 : (Tryz.prog.info? 36).map (·.size) = some 5 := Tryz.infoRow7
    replace qn : k21.drew.cell? ⟨w.heap.size, 2 + c, none⟩ = some (.int .i64 L) := qn
    replace HR0 := hid (Rb.below HR0.out ((Below.refl k21.heap.size k21).drew))
    replace HC := hid (FoC.below HC.out ((Below.refl k21.heap.size k21).drew))
    replace HD := hid (Fd.below HD.out ((Below.refl k21.heap.size k21).drew))
    replace HOS := hid (Ops.more (Ops.keep HOS.out ((Below.refl k21.heap.size k21).drew) (Nat.le_refl _)) (Below.size ((Below.refl k21.heap.size k21).drew)))
    replace HRG := hid (range_below HRG.out ((Below.refl k21.heap.size k21).drew) LT9)
    replace HRB := hid (Rb.below HRB.out ((Below.refl k21.heap.size k21).drew))
    have m1 : k21.drew.rangeAt w.heap.size (8 + c * 5) [.int .i64 rp, .int .i64 rc, .int .i64 rq, .slice As ro.length cz, .int .i64 re] := HRG.out
    refine wp_region_noPanic ?_
    refine wp_region_held_drew (S := fun W => W.cell? ⟨w.heap.size, 2 + c, none⟩ = some (.int .i64 L) ∧ W.rangeAt w.heap.size (8 + c * 5) [.int .i64 rp, .int .i64 rc, .int .i64 rq, .slice As ro.length cz, .int .i64 re]) (by kernel_rfl) ?_ (fun hHeld => ?_)
    ·exact ⟨qn, m1⟩
    replace hb : Below w.heap.size w k21.drew := hb.drew
    replace hlr : w.heap.size < k21.drew.heap.size := hlr
    have hzd : k21.heap.size ≤ k21.drew.heap.size := Nat.le_refl _
    generalize k21.drew = k22 at *
    refine tk9 0 (.int .i64 c) rfl (fun w hSw => ?_) ?_
    ·(try dsimp only at hSw)
     go_simp
    try simp only [P9]
    refine tk9 1 (.pointer (some ⟨w.heap.size, 2, none⟩)) rfl (fun w hSw => ?_) ?_
    ·(try dsimp only at hSw)
     go_simp
    try simp only [P9]
    refine tk9 2 (.pointer (some ⟨w.heap.size, 2 + c, none⟩)) rfl (fun w hSw => ?_) ?_
    ·(try dsimp only at hSw)
     go_simp
    try simp only [P9]
    refine tk9 3 (.int .i64 L) rfl (fun w hSw => ?_) ?_
    ·(try dsimp only at hSw)
     go_simp
    try simp only [P9]
    refine tk9 4 (.int .i64 c) rfl (fun w hSw => ?_) ?_
    ·(try dsimp only at hSw)
     go_simp
    try simp only [P9]
    refine tk9 5 (.pointer (some ⟨w.heap.size, 8, none⟩)) rfl (fun w hSw => ?_) ?_
    ·(try dsimp only at hSw)
     go_simp
    try simp only [P9]
    refine tk9 6 (.pointer (some ⟨w.heap.size, 8 + c * 5, none⟩)) rfl (fun w hSw => ?_) ?_
    ·(try dsimp only at hSw)
     go_simp
    try simp only [P9]
    refine tk8 (i := 7) (oi := { dst := some 45, op := Op.load 36 (Operand.tmp 44), type := 36, pos := "law.go:46", after := #[{ on := 6, ground := Ground.data }, { on := 8, ground := Ground.gcOnly Departure.lateStores }], guard := none }) (v := .agg #[.int .i64 rp, .int .i64 rc, .int .i64 rq, .slice As ro.length cz, .int .i64 re]) (yieldsIf_load_mid (by rfl) 36 _ rfl w.heap.size (8 + c * 5) rfl [.int .i64 rp, .int .i64 rc, .int .i64 rq, .slice As ro.length cz, .int .i64 re] _ (fun w h => h.2) Tryz.underlying36 rfl hi5) ?_
    try simp only [P9]
    refine wpAnyH_ready (rs := [8]) (by kernel_rfl) (by simp) ?_
    refine AllReadyH.cons (o := _) rfl (fun K hK => ?_) (AllReadyH.nil)
    go_simp
    refine hK.out _ _ ?_ (fun hHeld => ?_)
    ·exact ⟨qn, m1⟩
    clear hK K
    try simp only [P9]
    refine wpAnyH_ready (rs := [9]) (by kernel_rfl) (by simp) ?_
    refine AllReadyH.cons (o := _) rfl (fun K hK => ?_) (AllReadyH.nil)
    rw [if_pos (by rfl)]
    refine wp_store_mid 36 _ _ rfl (gb) 0 #[.int .i64 rp, .int .i64 rc, .int .i64 rq, .slice As ro.length cz, .int .i64 re] rfl rfl (HRB.out.there (by first | (simp [z38_len, z5_len]; done) | (simp [z38_len, z5_len]; omega))) Tryz.infoRow7 (all_oneCell_toArray (r5_one rp rc rq re As ro.length cz)) ?_
    obtain ⟨k23, hk9⟩ : ∃ x, k22.setCells (gb) 0 ([.int .i64 rp, .int .i64 rc, .int .i64 rq, .slice As ro.length cz, .int .i64 re]) = x := ⟨_, rfl⟩
    show K _ (k22.setCells (gb) 0 ([.int .i64 rp, .int .i64 rc, .int .i64 rq, .slice As ro.length cz, .int .i64 re]))
    replace HR0 := hid (Rb.others (g' := gb) (by omega) ([.int .i64 rp, .int .i64 rc, .int .i64 rq, .slice As ro.length cz, .int .i64 re]) 0 _ HR0.out)
    replace HC := hid (FoC.set (o := 0) (vs := [.int .i64 rp, .int .i64 rc, .int .i64 rq, .slice As ro.length cz, .int .i64 re]) HC.out HRB.out z5_nos)
    replace HD := hid (fd_row HD.out HRB.out (by decide) (by omega) ([.int .i64 rp, .int .i64 rc, .int .i64 rq, .slice As ro.length cz, .int .i64 re]) 0)
    replace HOS := hid (ops_set (o := 0) (vs := [.int .i64 rp, .int .i64 rc, .int .i64 rq, .slice As ro.length cz, .int .i64 re]) HOS.out HRB.out z5_nos)
    replace HRG := hid (rng_set (G := gb) (o := 0) (vs := [.int .i64 rp, .int .i64 rc, .int .i64 rq, .slice As ro.length cz, .int .i64 re]) HRG.out (by omega))
    replace qn : (k22.setCells (gb) 0 ([.int .i64 rp, .int .i64 rc, .int .i64 rq, .slice As ro.length cz, .int .i64 re])).cell? ⟨w.heap.size, 2 + c, none⟩ = some (.int .i64 L) := (World.cell?_setCells_out gb ([.int .i64 rp, .int .i64 rc, .int .i64 rq, .slice As ro.length cz, .int .i64 re]) 0 k22 ⟨w.heap.size, 2 + c, none⟩ (by intro e; first | (simp at e; omega) | omega)).trans qn
    replace HRB := hid (Rb.whole (vs := [.int .i64 rp, .int .i64 rc, .int .i64 rq, .slice As ro.length cz, .int .i64 re]) HRB.out (by simp [z38_len, z5_len]))
    have hz9 : k22.heap.size ≤ (k22.setCells (gb) 0 ([.int .i64 rp, .int .i64 rc, .int .i64 rq, .slice As ro.length cz, .int .i64 re])).heap.size := Nat.le_of_eq (sets_size _ _ _ _).symm
    have hy9 : (k22.setCells (gb) 0 ([.int .i64 rp, .int .i64 rc, .int .i64 rq, .slice As ro.length cz, .int .i64 re])).heap.size ≤ k22.heap.size := Nat.le_of_eq (sets_size _ _ _ _)
    replace hb : Below w.heap.size w (k22.setCells (gb) 0 ([.int .i64 rp, .int .i64 rc, .int .i64 rq, .slice As ro.length cz, .int .i64 re])) := below_sets (by omega) _ _ _ hb
    rw [hk9] at hz9 hy9 hb HR0 HC HD HOS HRG HRB qn
    have hlr : w.heap.size < k23.heap.size := LT9
    have hltqk23 : gb < k23.heap.size := Rb.lt HRB.out
    rw [hk9]
    clear hk9
    have m1 : k23.rangeAt w.heap.size (8 + c * 5) [.int .i64 rp, .int .i64 rc, .int .i64 rq, .slice As ro.length cz, .int .i64 re] := HRG.out
    try dsimp only
    refine hK.out _ _ ?_ (fun hHeld => ?_)
    ·exact ⟨qn, m1⟩
    clear hK K
    try simp only [P9]
    refine wpAnyH_done (by kernel_rfl) ?_ _
    refine NoPanic.normal ?_
    go_wp2_with fail
    refine (ftold_to B _ f (c : Int) rp rc rq re ro (decide (L ≠ 0)) _ (Fd.below HD.out BL9) HTOLD.out (by rw [HLAST.out])).mono ?_
    rintro e k24 ⟨A9, c9, rfl, ho9, h⟩
    have hk : Below k23.heap.size k23 k24 := HK9 h
    have hz := h.size
    try simp at hz
    replace qn := (hk.cell LT9).trans qn
    replace HR0 := hid (Rb.below HR0.out hk)
    replace HC := hid (FoC.below HC.out hk)
    replace HD := hid (Fd.below HD.out hk)
    replace HOS := hid (Ops.more (Ops.keep HOS.out hk (Nat.le_refl _)) (Below.size hk))
    replace HRG := hid (range_below HRG.out hk LT9)
    replace HRB := hid (Rb.below HRB.out hk)
    replace hb : Below w.heap.size w k24 := hb.trans (hk.mono hb.size)
    have hlr : w.heap.size < k24.heap.size := LT9
    clear h hk
    have HO9 := hid ho9; clear ho9
    go_upto_region 10 with fail
    refine wp_world (fun W => Rb W k24.heap.size 36 [.int .i64 rp, .int .i64 rc, .int .i64 rq, .slice A9 ro.length c9, .int .i64 re] ∧ Below k24.heap.size k24 W) ⟨by exact Rb.new _ _ _, by exact below_one _ _⟩ ?_
    rintro k25 ⟨hw9, hk⟩
    have HW := hid hw9; clear hw9
    replace qn := (hk.cell LT9).trans qn
    replace HR0 := hid (Rb.below HR0.out hk)
    replace HC := hid (FoC.below HC.out hk)
    replace HD := hid (Fd.below HD.out hk)
    replace HOS := hid (Ops.more (Ops.keep HOS.out hk (Nat.le_refl _)) (Below.size hk))
    replace HRG := hid (range_below HRG.out hk LT9)
    replace HRB := hid (Rb.below HRB.out hk)
    replace HO9 := hid (Ops.more (Ops.keep HO9.out hk (Nat.le_refl _)) (Below.size hk))
    replace hb : Below w.heap.size w k25 := hb.trans (hk.mono hb.size)
    have hkz9 := hk.size
    clear hk
    have hlr : w.heap.size < k25.heap.size := LT9
    have hltw := HW.out.lt
    go_wp2_with fail
    refine (fLast_is B _ f (c : Int) L _ (Fd.below HD.out BL9) HLAST.out).mono ?_
    rintro e k26 ⟨rfl, h⟩
    have hk : Below k25.heap.size k25 k26 := HK9 h
    have hz := h.size
    try simp at hz
    replace qn := (hk.cell LT9).trans qn
    replace HR0 := hid (Rb.below HR0.out hk)
    replace HC := hid (FoC.below HC.out hk)
    replace HD := hid (Fd.below HD.out hk)
    replace HOS := hid (Ops.more (Ops.keep HOS.out hk (Nat.le_refl _)) (Below.size hk))
    replace HRG := hid (range_below HRG.out hk LT9)
    replace HRB := hid (Rb.below HRB.out hk)
    replace HO9 := hid (Ops.more (Ops.keep HO9.out hk (Nat.le_refl _)) (Below.size hk))
    replace HW := hid (Rb.below HW.out hk)
    replace hb : Below w.heap.size w k26 := hb.trans (hk.mono hb.size)
    have hlr : w.heap.size < k26.heap.size := LT9
    clear h hk
    have w0 : k26.cell? ⟨k24.heap.size, 0, none⟩ = some (.int .i64 rp) := HW.out.cell (j := 0) rfl
    have w1 : k26.cell? ⟨k24.heap.size, 1, none⟩ = some (.int .i64 rc) := HW.out.cell (j := 1) rfl
    have w2 : k26.cell? ⟨k24.heap.size, 2, none⟩ = some (.int .i64 rq) := HW.out.cell (j := 2) rfl
    have w3 : k26.cell? ⟨k24.heap.size, 3, none⟩ = some (.slice A9 ro.length c9) := HW.out.cell (j := 3) rfl
    have w4 : k26.cell? ⟨k24.heap.size, 4, none⟩ = some (.int .i64 re) := HW.out.cell (j := 4) rfl
    have b0 : k26.cell? ⟨gb, 0, none⟩ = some (.int .i64 rp) := HRB.out.cell (j := 0) rfl
    have b1 : k26.cell? ⟨gb, 1, none⟩ = some (.int .i64 rc) := HRB.out.cell (j := 1) rfl
    have b2 : k26.cell? ⟨gb, 2, none⟩ = some (.int .i64 rq) := HRB.out.cell (j := 2) rfl
    have b3 : k26.cell? ⟨gb, 3, none⟩ = some (.slice As ro.length cz) := HRB.out.cell (j := 3) rfl
    have b4 : k26.cell? ⟨gb, 4, none⟩ = some (.int .i64 re) := HRB.out.cell (j := 4) rfl
    have hll : (L != L) = false := by simp
    have hdd : (decide (L ≠ 0) != decide (L > 0)) = false := by
     by_cases h : L = 0
     ·subst h; rfl
     ·have : L > 0 := by omega
      simp [h, this]
    have hdd2 : (!decide (L = 0)) = decide (0 < L) := by
     by_cases h : L = 0
     ·subst h; rfl
     ·have : 0 < L := by omega
      simp [h, this]
    go_wp2_with fail
    refine (reqRow_is _ _ _ ⟨rp, ⟨rc, rq, ro⟩, re⟩ _ ⟨_, rfl, (Ops.keep HO9.out BL9 (Nat.le_refl _))⟩ ⟨_, rfl, (Ops.keep HOS.out BL9 (Nat.le_refl _))⟩ (Nat.le_refl _) hlen).mono ?_
    rintro e k27 ⟨rfl, h⟩
    have hk : Below k26.heap.size k26 k27 := HK9 h
    have hz := h.size
    try simp at hz
    replace qn := (hk.cell LT9).trans qn
    replace HR0 := hid (Rb.below HR0.out hk)
    replace HC := hid (FoC.below HC.out hk)
    replace HD := hid (Fd.below HD.out hk)
    replace HOS := hid (Ops.more (Ops.keep HOS.out hk (Nat.le_refl _)) (Below.size hk))
    replace HRG := hid (range_below HRG.out hk LT9)
    replace HRB := hid (Rb.below HRB.out hk)
    replace HO9 := hid (Ops.more (Ops.keep HO9.out hk (Nat.le_refl _)) (Below.size hk))
    replace HW := hid (Rb.below HW.out hk)
    replace hb : Below w.heap.size w k27 := hb.trans (hk.mono hb.size)
    have hlr : w.heap.size < k27.heap.size := LT9
    clear h hk
    go_wp2
    go_roundw
    case rel => exact ⟨c + 1, by go_num, by omega, (Rb.below HR0.out BL9), (FoC.below HC.out BL9), (Fd.below HD.out BL9), hb⟩
    case measure => first | (simp [intOf]; done) | (simp [intOf]; omega)
  ·obtain rfl : c = 7 := by omega
   go_wp2
   go_ret
   exact ⟨rfl, hb⟩
end Go.Proofs.YtegkhkcnoahhdaaGreat
