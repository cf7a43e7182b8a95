import Derived.Test.YtegkhkcnoahhdaaGreatL7Begun
set_option linter.unusedSimpArgs false
set_option linter.unusedVariables false
namespace Go.Proofs.YtegkhkcnoahhdaaGreat
open Lib (hid)
open Go.RowKit
set_option maxRecDepth 100000
set_option maxHeartbeats 1000000 in
theorem renc7_any (B : Nat) (v : Value) (f : Fo) (w : World) (h : FoldV w B v f) (hB : B ≤ w.heap.size) (hg : FoG f) : Calls Tryz.prog 16 #[v] w (Made (bytesF f) w) := by
 obtain ⟨cs, rfl, hc⟩ := h
 obtain ⟨ds, hds, hprs⟩ := hc.doc
 have HC := hid hc; clear hc
 have HP := hid hprs; clear hprs
 have HDS := hid hds; clear hds
 have hbd := bytesD_short hg.d
 obtain ⟨d, hd⟩ : ∃ d, bytesD f.d = d := ⟨_, rfl⟩
 obtain ⟨T, hT⟩ : ∃ T : ByteArray, (⟨d.toArray⟩ : ByteArray) = T := ⟨_, rfl⟩
 have hTl : T.data.toList = d := by rw [← hT]
 have hTs : T.size ≤ 50020 := by rw [← size_list, hTl, ← hd]; exact hbd
 have HD := hid hd; clear hd
 have HTT := hid hT; clear hT
 obtain ⟨p, hp⟩ : ∃ p, f.place = p := ⟨_, rfl⟩
 have hp0 := hg.place
 rw [hp] at hp0
 have n1 := Nu.put_len p
 go_enter Tryz.func16, Tryz.ntmps16
 go_upto_region 1 with fail
 refine wp_world (fun W => Rb W w.heap.size 39 cs ∧ Below w.heap.size w W) ⟨Rb.new w _ cs, below_one w _⟩ ?_
 rintro W0 ⟨hr0, hb0⟩
 have hlt := hr0.lt
 have q0 : W0.cell? ⟨w.heap.size, 0, none⟩ = some (.int .i64 p) := hr0.cell (by rw [← hp]; exact HC.out.place)
 have HR := hid hr0; clear hr0
 have HPL := hid hp; clear hp
 go_wp2_with fail
 refine (rput_any p _ (by omega) (by omega)).mono ?_
 rintro e k1 ⟨v1, rfl, ho1, h1⟩
 obtain ⟨A1, c1, rfl⟩ := own_slice ho1
 have q1 : k1.cell? ⟨w.heap.size, 1, none⟩ = some ds := (HR.out.below h1).cell HDS.out
 have HO := hid ho1
 have hlt1 := (HR.out.below h1).lt
 have hb1 := hb0.trans (h1.mono hb0.size)
 clear ho1 q0
 go_wp2_with fail
 refine (lrenc_is B ds f.d d _ (Prs.keep HP.out hb1 hB) (Nat.le_trans hB hb1.size) hg.d HD.out).mono ?_
 rintro e k2 ⟨A2, c2, rfl, ho2, h2⟩
 have hcv := conv6 (Byt.of_own ho2) HTT.out
 replace HO := hid (HO.out.below h2)
 replace h1 := h1.trans (h2.mono h1.size)
 clear ho2 h2 q1 hb1
 go_wp2_with fail
 refine (rputText_any T _ (by omega)).mono ?_
 rintro e k3 ⟨v3, rfl, ho3, h3⟩
 rw [hTl] at ho3
 have hby3 := Byt.of_own ho3
 replace HO := hid (HO.out.below h3)
 replace h1 := h1.trans (h3.mono h1.size)
 have n2 : (Nu.putT d).length ≤ 50030 := by have := putT_len T; rw [hTl] at this; omega
 clear ho3 h3 hcv
 go_wp2_with (refine wpList_append_byt rfl _ _ rfl W0.heap.size _ _ v3 _ _ rfl HO.out rfl hby3 (by omega) (by exact h1.size) ?_)
 intro v4 k4 ho4 hb4
 replace HO := hid ho4
 replace h1 := h1.trans hb4
 clear ho4 hb4 hby3
 go_wp2_with fail
 go_loopw [3, 4] (fun v i wr => ∃ (c k : Nat), i = .int .i64 c ∧ c = k + 1 ∧ k ≤ 5 ∧ OwnB W0.heap.size v (Nu.put p ++ (Nu.putT d ++ bytesL (fun c => laOf f (c + 1)) k)) wr ∧ Below W0.heap.size W0 wr) (fun _ i _ => 6 - (intOf i).toNat)
 case atStart => exact ⟨1, 0, rfl, rfl, by omega, by simpa [bytesL] using HO.out, h1⟩
 case round =>
  obtain ⟨c, k, rfl, hck, hk, hown, hbw⟩ := hrel
  have hsh := bytesL_short hg k
  obtain ⟨m, hm⟩ : ∃ m, Nu.put p ++ (Nu.putT d ++ bytesL (fun c => laOf f (c + 1)) k) = m := ⟨_, rfl⟩
  rw [hm] at hown
  have hml : m.length ≤ 60000 := by rw [← hm, List.length_append, List.length_append]; omega
  have HM := hid hm; clear hm
  obtain ⟨A9, c9, rfl⟩ := own_slice hown
  clear HO h1
  have HO := hid hown; clear hown
  by_cases hk5 : k < 5
  ·have hsp : Nu.put p ++ (Nu.putT d ++ bytesL (fun c => laOf f (c + 1)) (k + 1)) = m ++ laB (laOf f c) := by rw [← HM.out, bytesL_succ, hck]; simp only [List.append_assoc]
   have HSP := hid hsp; clear hsp
   obtain ⟨L, hL⟩ : ∃ L, f.last c = L := ⟨_, rfl⟩
   have hl0 := hg.last_le c
   rw [hL] at hl0
   have hcl : cs[2 + c]? = some (.int .i64 L) := by rw [← hL]; exact HC.out.last c (by omega)
   have HLL := hid hL; clear hL
   have hr := HR.out.below hbw
   have qn : wr.cell? ⟨w.heap.size, 2 + c, none⟩ = some (.int .i64 L) := hr.cell hcl
   have hwl := hr.lt
   have HCL := hid hcl; clear hcl
   have hc5 : (c : Int) ≤ 5 := by omega
   have hc6 : (c : Int) < 6 := by omega
   have hcn : c < 6 := by omega
   have HCK := hid hck; clear hck
   clear hr
   go_wp2_with fail
   have n3 := Nu.put_len L
   have qn2 := qn
   refine (rput_any L _ (by omega) (by omega)).mono ?_
   rintro e k5 ⟨v5, rfl, ho5, h5⟩
   have hby5 := Byt.of_own ho5
   replace HO := hid (HO.out.below h5)
   have hbw5 := hbw.trans (h5.mono hbw.size)
   clear ho5 h5 qn qn2 hbw
   go_wp2_with (refine wpList_append_byt rfl _ _ rfl W0.heap.size _ _ v5 _ _ rfl HO.out rfl hby5 (by omega) (by exact hbw5.size) ?_)
   intro v6 k6 ho6 hb6
   have hbw6 := hbw5.trans hb6
   have hr := HR.out.below hbw6
   have qn : k6.cell? ⟨w.heap.size, 2 + c, none⟩ = some (.int .i64 L) := hr.cell HCL.out
   have hwl6 := hr.lt
   have HO6 := hid ho6
   have HRR := hid hr
   clear ho6 hby5 HO hr hbw5 hb6 hwl
   by_cases hz : L = 0
   ·have hsp2 : Nu.put p ++ (Nu.putT d ++ bytesL (fun c => laOf f (c + 1)) (k + 1)) = m ++ Nu.put L := by
     rw [HSP.out, laOf_no (by rw [HLL.out, hz])]
     show m ++ (Nu.put 0 ++ []) = _
     rw [List.append_nil, hz]
    have HS2 := hid hsp2; clear hsp2
    have HZ := hid hz
    subst hz
    go_wp2
    have hck := HCK.out
    go_roundw
    case rel => exact ⟨c + 1, k + 1, by go_num, by omega, by omega, by rw [HS2.out]; exact HO6.out, hbw6⟩
    case measure => simp [intOf]; omega
   ·have hlg : 0 < L := by omega
    obtain ⟨⟨rp, ⟨rc, rq, ro⟩, re⟩, hrt⟩ : ∃ r, f.told c = r := ⟨_, rfl⟩
    obtain ⟨s, e0, e1, e2, e3, e4, hops⟩ := HC.out.told c hcn
    obtain ⟨y1, y2, y3, y4, y5, y6, y7⟩ := hg.yes c (by rw [HLL.out]; exact hz)
    rw [hrt] at e0 e1 e2 e4 hops y1 y2 y3 y4 y5 y6 y7
    have hla := laOf_yes (f := f) (c := c) (by rw [HLL.out]; exact hz)
    rw [hrt, HLL.out] at hla
    simp only at e0 e1 e2 e4 hops y1 y2 y3 y4 y5 y6 y7 hla
    obtain ⟨As, cz, rfl⟩ := ops_slice hops
    have s0 : k6.cell? ⟨w.heap.size, 8 + c * 5, none⟩ = some _ := HRR.out.cell e0
    have s1 : k6.cell? ⟨w.heap.size, 8 + c * 5 + 1, none⟩ = some _ := HRR.out.cell e1
    have s2 : k6.cell? ⟨w.heap.size, 8 + c * 5 + 2, none⟩ = some _ := HRR.out.cell e2
    have s3 : k6.cell? ⟨w.heap.size, 8 + c * 5 + 3, none⟩ = some _ := HRR.out.cell e3
    have s4 : k6.cell? ⟨w.heap.size, 8 + c * 5 + 4, none⟩ = some _ := HRR.out.cell e4
    clear y3 y4
    have hre := mayE_i64 y7
    have hpp := hg.place
    have hnb := mayB_nums y1
    obtain ⟨eb, heb⟩ : ∃ eb, bytesB ⟨rc, rq, ro⟩ = eb := ⟨_, rfl⟩
    obtain ⟨S, hS⟩ : ∃ S : ByteArray, (⟨eb.toArray⟩ : ByteArray) = S := ⟨_, rfl⟩
    have hSl : S.data.toList = eb := by rw [← hS]
    rw [heb] at hla hnb
    rw [hS] at hla
    have hSs : S.size ≤ 1200 := by rw [← size_list, hSl]; exact hnb.2.2.2.2
    have hee : encB ⟨rc, rq, ro⟩ = eb := by unfold encB; rw [if_pos y1, heb]
    have hsp3 : m ++ (Nu.put L ++ (Nu.put rp ++ (Nu.putT eb ++ Nu.put re))) = Nu.put p ++ (Nu.putT d ++ bytesL (fun c => laOf f (c + 1)) (k + 1)) := by
     rw [HSP.out, hla]
     unfold laB
     rw [if_neg hz]
     simp only [List.append_assoc, hSl]
    have n4 := Nu.put_len rp
    have n5 := putT_len S
    rw [hSl] at n5
    have n6 := Nu.put_len re
    have HY1 := hid y1; have HY2 := hid y2; have HS := hid hS; have HEB := hid hee; have HS3 := hid hsp3; have HSL := hid hSl
    have HOP := hid hops
    have hrl : ro.length ≤ 1000 := by have := (mayB_len HY1.out).2; simp only at this; omega
    have hpx : rp ≤ 9223372036854775807 := by omega
    have hsne : v6.ownBlock ≠ some k6.heap.size := fun e => by have := (HO6.out.lt _ e).2; omega
    clear y1 y2 y7 heb hS hla hee hsp3 hSl e0 e1 e2 e3 e4 hops hnb hrt
    go_wp2_with fail
    refine (rput_any rp _ (by omega) (by omega)).mono ?_
    rintro e k7 ⟨v7, rfl, ho7, h7⟩
    have hrb := (Rb.new k6 36 [.int .i64 rp, .int .i64 rc, .int .i64 rq, .slice As ro.length cz, .int .i64 re]).below h7
    have h67 : Below k6.heap.size k6 k7 := (below_one k6 _).trans (h7.mono (by simp))
    have hlr := hrb.lt
    have HRB := hid hrb
    have hby7 := Byt.of_own ho7
    replace HO6 := hid (HO6.out.below h67)
    replace hbw6 := hbw6.trans (h67.mono hbw6.size)
    clear ho7 h7 hrb h67 s0 s1 s2 s3 s4 qn
    go_wp2_with (refine wpList_append_byt_at rfl _ _ rfl W0.heap.size _ _ v7 _ _ rfl HO6.out rfl hby7 (by rw [List.length_append]; omega) (by exact hbw6.size) ?_)
    intro v8 k8 ho8 hb8 hg8
    replace hbw6 := hbw6.trans hb8
    have hrq8 : Rb k8 k6.heap.size 36 [.int .i64 rp, .int .i64 rc, .int .i64 rq, .slice As ro.length cz, .int .i64 re] := (hg8.1.block _ (Rb.lt HRB.out) (fun e => hsne e.symm)).trans HRB.out
    replace HRB := hid hrq8; clear hrq8
    replace hsne := hg8.apart hlr hsne
    have HO8 := hid ho8
    have r1 := HRB.out.cell (j := 1) rfl
    have r2 := HRB.out.cell (j := 2) rfl
    have r3 := HRB.out.cell (j := 3) rfl
    have hlr8 := HRB.out.lt
    have hbW : Below w.heap.size w k8 := hb0.trans (hbw6.mono (by omega))
    clear ho8 hb8 hg8 HO6 hby7 hlr
    go_wp2_with fail
    refine (rencodeBatch_any B _ ⟨rc, rq, ro⟩ _ ⟨_, rfl, HOP.out.keep hbW hB⟩ (Nat.le_trans hB hbW.size) HY2.out hrl).mono ?_
    rintro e k9 ⟨v9, rfl, ho9, h9⟩
    rw [HEB.out] at ho9
    obtain ⟨A9, c9, rfl⟩ := own_slice ho9
    have hcv := conv6 (Byt.of_own ho9) HS.out
    replace HO8 := hid (HO8.out.below h9)
    replace HRB := hid (HRB.out.below h9)
    replace hbw6 := hbw6.trans (h9.mono hbw6.size)
    clear ho9 h9 r1 r2 r3 hbW
    go_wp2_with fail
    refine (rputText_any S _ (by omega)).mono ?_
    rintro e k10 ⟨v10, rfl, ho10, h10⟩
    rw [HSL.out] at ho10
    have hby10 := Byt.of_own ho10
    replace HO8 := hid (HO8.out.below h10)
    replace HRB := hid (HRB.out.below h10)
    replace hbw6 := hbw6.trans (h10.mono hbw6.size)
    have hlr := HRB.out.lt
    clear ho10 h10 hcv
    go_wp2_with (refine wpList_append_byt_at rfl _ _ rfl W0.heap.size _ _ v10 _ _ rfl HO8.out rfl hby10 (by rw [List.length_append, List.length_append]; omega) (by exact hbw6.size) ?_)
    intro v11 k11 ho11 hb11 hg11
    replace hbw6 := hbw6.trans hb11
    have hrq8 : Rb k11 k6.heap.size 36 [.int .i64 rp, .int .i64 rc, .int .i64 rq, .slice As ro.length cz, .int .i64 re] := (hg11.1.block _ (Rb.lt HRB.out) (fun e => hsne e.symm)).trans HRB.out
    replace HRB := hid hrq8; clear hrq8
    have HO11 := hid ho11
    have r4 := HRB.out.cell (j := 4) rfl
    have hlr8 := HRB.out.lt
    clear ho11 hb11 hg11 HO8 hby10 hlr
    go_wp2_with fail
    refine (rput_any re _ (by omega) (by omega)).mono ?_
    rintro e k12 ⟨v12, rfl, ho12, h12⟩
    have hby12 := Byt.of_own ho12
    replace HO11 := hid (HO11.out.below h12)
    replace hbw6 := hbw6.trans (h12.mono hbw6.size)
    clear ho12 h12 r4
    go_wp2_with (refine wpList_append_byt rfl _ _ rfl W0.heap.size _ _ v12 _ _ rfl HO11.out rfl hby12 (by rw [List.length_append, List.length_append, List.length_append]; omega) (by exact hbw6.size) ?_)
    intro v13 k13 ho13 hb13
    replace hbw6 := hbw6.trans hb13
    rw [HS3.out] at ho13
    go_wp2
    have hck := HCK.out
    go_roundw
    case rel => exact ⟨c + 1, k + 1, by go_num, by omega, by omega, ho13, hbw6⟩
    case measure => simp [intOf]; omega
  ·have hc6 : c = 6 := by omega
   subst hc6
   have hk6 : k = 5 := by omega
   subst hk6
   have hbb : bytesF f = m := by unfold bytesF; rw [HPL.out, HD.out, HM.out]
   have HBB := hid hbb; clear hbb
   go_wp2
   go_ret
   refine ⟨_, rfl, ?_, hb0.trans (hbw.mono (by omega))⟩
   rw [HBB.out]
   exact HO.out.down (by omega)
end Go.Proofs.YtegkhkcnoahhdaaGreat
