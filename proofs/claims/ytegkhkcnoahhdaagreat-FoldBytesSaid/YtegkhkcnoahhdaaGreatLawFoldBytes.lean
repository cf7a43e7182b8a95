/- A fold goes to its bytes and back, and goes on alike; other bytes are no fold's. There are no conditions. -/
import Derived.Test.YtegkhkcnoahhdaaGreatRows
import Derived.Test.YtegkhkcnoahhdaaGreatL7Same
import Derived.Test.YtegkhkcnoahhdaaGreatL7All
import Derived.Test.YtegkhkcnoahhdaaGreatL7Tells
import Derived.Test.YtegkhkcnoahhdaaGreatR7Enc
import Derived.Test.YtegkhkcnoahhdaaGreatL4Tells
set_option linter.unusedSimpArgs false
set_option linter.unusedVariables false
namespace Go.Proofs.YtegkhkcnoahhdaaGreat.foldBytes
open Lib (hid)
open Go.ChangeShapes Go.WideShapes Go.ChangeAt Go.RowKit
open Go.ChangeMaps (open_string shut_string)
set_option linter.unusedVariables false
theorem own : ownKnob Tryz.prog.godebug = none := by kernel_rfl
theorem renc7_to (B : Nat) (cs : List Value) (f : Fo) (m : List UInt8) (w : World) (h : FoldV w B (.agg cs.toArray) f) (hB : B ≤ w.heap.size) (hg : FoG f) (hm : bytesF f = m) : Calls Tryz.prog 16 #[.agg cs.toArray] w fun e w' => ∃ A c, e = .returned (.slice A m.length c) ∧ OwnB w.heap.size (.slice A m.length c) m w' ∧ Below w.heap.size w w' := by
 rw [← hm]
 refine (renc7_any B _ f w h hB hg).mono ?_
 rintro e w' ⟨v, rfl, ho, hb⟩
 obtain ⟨A, c, rfl⟩ := own_slice ho
 exact ⟨A, c, rfl, ho, hb⟩
theorem bytesF_pos (f : Fo) : 1 ≤ (bytesF f).length := by
 unfold bytesF
 rw [List.length_append]
 have := Nu.put_ne f.place
 omega
set_option maxRecDepth 100000 in
set_option maxHeartbeats 8000000 in
theorem walk (w : World) (A0 : Option Addr) (c0 : Nat) (a0 : List Bat) (w0 : Bats w w.heap.size (.slice A0 a0.length c0) a0) (x0 : ∀ b ∈ a0, b.fit) (A1 : Option Addr) (c1 : Nat) (a1 : List Bat) (w1 : Bats w w.heap.size (.slice A1 a1.length c1) a1) (x1 : ∀ b ∈ a1, b.fit) (a2 : Int) (w2 : (Lit.int .i64 a2).wf = true) (a3 : Int) (w3 : (Lit.int .u8 a3).wf = true) :
  Calls Tryz.prog 4 #[.slice A0 a0.length c0, .slice A1 a1.length c1, .int .i64 a2, .int .u8 a3] w fun e w' => e = .returned (.bool true) ∧ Below w.heap.size w w' := by
 have HA0 := hid w0; clear w0
 have HF0 := hid x0; clear x0
 have HA1 := hid w1; clear w1
 have HF1 := hid x1; clear x1
 have hn1 := wf_i64 w2
 have hn2 := bounds_u8 w3
 have hb := Below.refl w.heap.size w
 go_enter Tryz.func4, Tryz.ntmps4
 go_wp2_with fail
 refine (begun7_any _).mono ?_
 rintro e k1 ⟨rfl, h⟩
 have hk : Below w.heap.size w k1 := HK9 h
 have hz := h.size
 try simp at hz
 replace hb : Below w.heap.size w k1 := hb.trans (hk.mono hb.size)
 clear h hk
 go_wp2_with fail
 refine (lbatches_is w.heap.size w.heap.size 30 _ _ a0 _ (HA0.out.keep (BB9 hb) (Nat.le_refl _)) (by have := hb.size; first | exact hb.size | omega | (simp; omega)) (by have := hb.size; first | exact hb.size | omega | (simp; omega)) HF0.out (by omega)).mono ?_
 rintro e k2 ⟨Al, cl, l, rfl, ⟨ho9, hll, hok9⟩, h⟩
 have hk : Below k1.heap.size k1 k2 := HK9 h
 have hz := h.size
 try simp at hz
 replace hb : Below w.heap.size w k2 := hb.trans (hk.mono hb.size)
 have HBl := hid ho9; clear ho9
 have HKl := hid hok9; clear hok9
 clear h hk
 go_wp2_with fail
 refine (lbatches_is w.heap.size w.heap.size 10 _ _ a1 _ (HA1.out.keep (BB9 hb) (Nat.le_refl _)) (by have := hb.size; first | exact hb.size | omega | (simp; omega)) (by have := hb.size; first | exact hb.size | omega | (simp; omega)) HF1.out (by omega)).mono ?_
 rintro e k3 ⟨Am, cm, m, rfl, ⟨ho9, hlm, hok9⟩, h⟩
 have hk : Below k2.heap.size k2 k3 := HK9 h
 have hz := h.size
 try simp at hz
 replace HBl := hid (OwnBt.below HBl.out hk)
 replace hb : Below w.heap.size w k3 := hb.trans (hk.mono hb.size)
 have HBm := hid ho9; clear ho9
 have HKm := hid hok9; clear hok9
 clear h hk
 go_wp2_with fail
 refine (fnew_is w.heap.size _ (by have := hb.size; first | omega | exact Nat.le_refl _ | (simp; omega))).mono ?_
 rintro e k4 ⟨rfl, hd9, h⟩
 have hk : Below k3.heap.size k3 k4 := HK9 h
 have hz := h.size
 try simp at hz
 replace HBl := hid (OwnBt.below HBl.out hk)
 replace HBm := hid (OwnBt.below HBm.out hk)
 replace hb : Below w.heap.size w k4 := hb.trans (hk.mono hb.size)
 clear h hk
 have HD := hid hd9; clear hd9
 have hltHD : k3.heap.size < k4.heap.size := HD.out.lt
 obtain ⟨gd, hgd9⟩ : ∃ g, k3.heap.size = g := ⟨_, rfl⟩
 rw [hgd9] at HD ⊢
 have hwd : w.heap.size ≤ gd := HD.out.lo
 clear hgd9
 go_wp2_with fail
 go_loopw [11] (fun i wr => ∃ (k : Nat), i = .int .i64 k ∧ k ≤ l.length ∧ Fd wr w.heap.size gd (allF (l.take k)) ∧ OwnBt w.heap.size (.slice Al l.length cl) l wr ∧ OwnBt w.heap.size (.slice Am m.length cm) m wr ∧ Below w.heap.size w wr) (fun i _ => l.length - (intOf i).toNat)
 case atStart => exact ⟨0, rfl, Nat.zero_le _, HD.out, HBl.out, HBm.out, hb⟩
 case round =>
  clear HD HBl hb HBm
  obtain ⟨k, rfl, hk, hd, hbl, hHBm, hb⟩ := hrel
  have HBm := hid hHBm; clear hHBm
  have HD := hid hd; clear hd
  have HBl := hid hbl; clear hbl
  have hltD := HD.out.lt
  by_cases hkl : k < l.length
  ·obtain ⟨g, Ak, ck, rfl, hga, hr9, hops⟩ := HBl.out.at_ k hkl
   have hok9 := HKl.out l[k] (List.getElem_mem ..)
   obtain ⟨b, hbe⟩ : ∃ b, l[k] = b := ⟨_, rfl⟩
   have hbe9 := hbe
   rw [hbe] at hr9 hops hok9
   clear hbe
   obtain ⟨bc, bq, bo⟩ := b
   simp only at hr9 hops hok9
   have HRG := hid hr9; clear hr9
   have HOP := hid hops; clear hops
   have HOK := hid hok9; clear hok9
   have hki : (k : Int) < (l.length : Int) := by omega
   have hne1 : g ≠ gd := HBl.out.ne_fold HD.out
   have htk : allF (l.take (k + 1)) = stepF (allF (l.take k)) ⟨bc, bq, bo⟩ := by
    have := allF_take (l := l) (k := k) hkl
    rw [hbe9] at this
    exact this
   obtain ⟨f, hf⟩ : ∃ f, allF (l.take k) = f := ⟨_, rfl⟩
   obtain ⟨f2, hf2⟩ : ∃ f2, allF (l.take (k + 1)) = f2 := ⟨_, rfl⟩
   have hpl := (allF_small (l.take k)).1
   rw [hf] at htk hpl
   rw [hf2] at htk
   rw [hf] at HD
   have hpl2 : f.place ≤ (k : Int) := by rw [List.length_take] at hpl; omega
   have HF2 := hid hf2; clear hf2 hf hpl hbe9
   have HG := hid HD.out.good
   obtain ⟨y, hy⟩ : ∃ y, nextB f ⟨bc, bq, bo⟩ = y := ⟨_, rfl⟩
   have hst := htk.symm; clear htk
   obtain ⟨⟨rp, ⟨rc, rq, ro⟩, re⟩, hrw⟩ : ∃ r, rowF f ⟨bc, bq, bo⟩ = r := ⟨_, rfl⟩
   have hp9 : f.place ≤ 1000000000000000 := by omega
   have hg2 : FoG f2 := by rw [← hst]; exact stepF_good HG.out HOK.out.1 hp9
   have hp2 : f2.place ≤ f.place + 1 := by have := stepF_place f ⟨bc, bq, bo⟩; rw [hst] at this; omega
   have hro : ro.length ≤ 1000000 := by
    have h1 := rowF_few f ⟨bc, bq, bo⟩
    rw [hrw] at h1
    have h2 := HOK.out.2
    simp only at h1
    omega
   have HST := hid hst; clear hst
   have HY := hid hy; clear hy
   have HRW := hid hrw; clear hrw
   have HG2 := hid hg2; clear hg2
   have hi3 : (Tryz.prog.info? 33).map (·.size) = some 3 := by kernel_rfl
   have hrg9 := HRG.out
   go_wp2_with (refine wpList_load_mid rfl 33 _ rfl g (k * 3) rfl [.int .i64 bc, .int .i64 bq, .slice Ak bo.length ck] _ hrg9 Tryz.underlying33 rfl hi3 ?_)
   clear hrg9
   refine (fnext_to w.heap.size gd _ _ f f2 bc bq bo y rp rc rq re ro _ (Fd.below HD.out BL9) (Ops.of_own (ownsRow_below HOP.out BL9)) (Nat.le_refl _) HOK.out.1 hp9 HY.out HST.out HRW.out).mono ?_
   rintro e k21 ⟨A1, c1, rfl, ⟨ho9, hd9⟩, hgr⟩
   have hz9 := hgr.size
   try simp at hz9
   replace hb : Below w.heap.size w k21 := Fd.frame (w0 := w) (hb := hgr) (h := Fd.below HD.out BL9) (h0 := (BB9 hb)) (hB := by have := hb.size; first | omega | (simp; omega))
   replace HOP := hid (own_turn (hb := hgr) (h := ownsRow_below HOP.out BL9) (hd := Fd.below HD.out BL9) (hne := by decide))
   replace HBl := hid (OwnBt.turn (hb := hgr) (h := OwnBt.below HBl.out BL9) (hd := Fd.below HD.out BL9))
   replace HBm := hid (OwnBt.turn (hb := hgr) (h := OwnBt.below HBm.out BL9) (hd := Fd.below HD.out BL9))
   replace HRG := hid (rng_turn (hb := hgr) (h := range_below (C := wr.heap.size) HRG.out BL9 LT9) (hne := (by omega)) (hl := LT9))
   replace HD := hid hd9
   clear hd9
   have HO1 := hid ho9; clear ho9
   clear hgr
   go_wp2
   go_roundw
   case rel => exact ⟨k + 1, by go_num, by omega, by rw [HF2.out]; exact (Fd.below HD.out BL9), (OwnBt.below HBl.out BL9), (OwnBt.below HBm.out BL9), (BB9 hb)⟩
   case measure => first | (simp [intOf]; done) | (simp [intOf]; omega)
  ·have hkk : k = l.length := by omega
   subst hkk
   rw [List.take_length] at HD
   go_wp2_with fail
   refine (lall_is _ _ _ l _ (OwnBt.bats (OwnBt.below HBl.out BL9)) (Nat.le_refl _) HKl.out (by omega)).mono ?_
   rintro e k61 ⟨v9, w9, rfl, hv9, h⟩
   have hk : Below wr.heap.size wr k61 := HK9 h
   have hz := h.size
   try simp at hz
   replace HD := hid (Fd.below HD.out hk)
   replace HBl := hid (OwnBt.below HBl.out hk)
   replace HBm := hid (OwnBt.below HBm.out hk)
   replace hb : Below w.heap.size w k61 := hb.trans (hk.mono hb.size)
   obtain ⟨cs, rfl, hc9⟩ := hv9
   have hlc9 := hc9.len
   have HC := hid hc9; clear hc9
   have HLC := hid hlc9; clear hlc9
   have hi0 : (Tryz.prog.info? 39).map (·.size) = some cs.length := by rw [HLC.out]; exact Tryz.infoFold7
   have hi1 : (Tryz.prog.info? 39).map (·.size) = some cs.toArray.size := by rw [List.size_toArray, HLC.out]; exact Tryz.infoFold7
   have hone1 := all_oneCell_toArray HC.out.one
   clear h hk
   have hth : (k61.alloc (.cells z38.toArray 39)).there k61.heap.size 0 cs.toArray.size := (Rb.new k61 _ z38).there (by rw [List.size_toArray, HLC.out, z38_len]; omega)
   go_upto_region 11 with (first | (refine wpList_alloc7 rfl 39 rfl z38 (by kernel_rfl) ?_) | (refine wpList_store_mid rfl 39 _ _ rfl k61.heap.size 0 cs.toArray rfl rfl hth hi1 hone1 ?_))
   clear hth
   try simp only [List.toList_toArray]
   refine wp_world (fun W => Rb W k61.heap.size 39 cs ∧ Below k61.heap.size k61 W) ⟨Rb.whole (Rb.new k61 _ z38) (by rw [HLC.out, z38_len]), below_sets (Nat.le_refl _) _ _ _ (below_one _ _)⟩ ?_
   rintro k62 ⟨hr9, hk⟩
   replace HD := hid (Fd.below HD.out hk)
   replace HBl := hid (OwnBt.below HBl.out hk)
   replace HBm := hid (OwnBt.below HBm.out hk)
   replace HC := hid (FoC.below HC.out hk)
   replace hb : Below w.heap.size w k62 := hb.trans (hk.mono (by first | exact hb.size | omega))
   have hkz9 := hk.size
   clear hk
   obtain ⟨gHR, hg9⟩ : ∃ g, k61.heap.size = g := ⟨_, rfl⟩
   rw [hg9] at hr9 ⊢
   have hlowHR : k61.heap.size ≤ gHR := by omega
   have HR := hid hr9; clear hr9 hg9
   have hltHR := Rb.lt HR.out
   obtain ⟨f, hfl⟩ : ∃ f, allF l = f := ⟨_, rfl⟩
   have hsm := allF_small l
   rw [hfl] at HD HC hsm
   clear hfl
   have hpf : f.place ≤ 30 := by have := hsm.1; omega
   have HG := hid HD.out.good
   obtain ⟨Lb, hLb⟩ : ∃ x, bytesF f = x := ⟨_, rfl⟩
   have hLs := bytesF_short HG.out
   have hL1 := bytesF_pos f
   have hdL := decF_bytes HG.out
   rw [hLb] at hLs hL1 hdL
   have HLB := hid hLb; clear hLb
   have HDL := hid hdL; clear hdL
   obtain ⟨S, hS⟩ : ∃ S : ByteArray, ⟨Lb.toArray⟩ = S := ⟨_, rfl⟩
   have HS := hid hS; clear hS
   go_wp2_with fail
   refine (fenc_to w.heap.size _ f Lb _ (Fd.below HD.out BL9) HLB.out).mono ?_
   rintro e k63 ⟨gb, cb, rfl, hE, h⟩
   have hk : Below k62.heap.size k62 k63 := HK9 h
   have hz := h.size
   try simp at hz
   replace HD := hid (Fd.below HD.out hk)
   replace HBl := hid (OwnBt.below HBl.out hk)
   replace HBm := hid (OwnBt.below HBm.out hk)
   replace HC := hid (FoC.below HC.out hk)
   replace HR := hid (Rb.below HR.out hk)
   replace hb : Below w.heap.size w k63 := hb.trans (hk.mono hb.size)
   have HEL := hid hE; clear hE
   clear h hk
   go_wp2_with fail
   refine (fdec_yes _ _ _ w.heap.size _ Lb f _ (Byt.of_own (ownsRow_below HEL.out BL9)) (Nat.le_refl _) (by have := hb.size; first | exact hb.size | omega | (simp; omega)) (by omega) HDL.out).mono ?_
   rintro e k64 ⟨gc, rfl, ⟨hc, hcl⟩, h⟩
   have hk : Below k63.heap.size k63 k64 := HK9 h
   have hz := h.size
   try simp at hz
   replace HD := hid (Fd.below HD.out hk)
   replace HBl := hid (OwnBt.below HBl.out hk)
   replace HBm := hid (OwnBt.below HBm.out hk)
   replace HC := hid (FoC.below HC.out hk)
   replace HR := hid (Rb.below HR.out hk)
   replace HEL := hid (ownsRow_below HEL.out hk)
   replace hb : Below w.heap.size w k64 := hb.trans (hk.mono hb.size)
   clear h hk
   have HCP := hid hc
   have hltHCP : gc < k64.heap.size := HCP.out.lt
   clear hc
   go_wp2_with fail
   obtain ⟨ELB, hel⟩ : ∃ B, OwnB B (.slice gb Lb.length cb) Lb k64 := ⟨_, HEL.out⟩
   replace HEL := hid hel; clear hel
   have hgdc : gd ≠ gc := by omega
   have hgRc : gHR < gc := by omega
   refine wp_meetx (fun a b W => ∃ A8 c8, b = ((((((((((((((((((((((a.put (some 55) (.slice gb Lb.length cb)).put (some 56) (.string S)).put (some 57) (.agg cs.toArray)).put (some 58) (.slice A8 Lb.length c8)).put (some 59) (.string S)).put (some 60) (.bool false)).put (some 61) (.bool false)).put (some 62) (.int .i64 0)).put (some 63) (.bool false)).put (some 64) (.bool false)).put (some 65) (.bool false)).put (some 66) (.pointer (some ⟨gc, 0, none⟩))).put (some 67) (.pointer (some ⟨gd, 0, none⟩))).put (some 68) (.bool true)).put (some 69) (.bool false)).put (some 70) (.bool false)).put (some 71) (.bool false)).put (some 72) (.pointer (some ⟨gc, 0, none⟩))).put (some 73) (.agg cs.toArray)).put (some 74) (.bool true)).put (some 75) (.bool false)).put (some 76) (.bool false)) ∧ Fd W w.heap.size gd f ∧ Rb W gHR 39 cs ∧ FoC W W.heap.size cs f ∧ OwnBt w.heap.size (.slice Am m.length cm) m W ∧ OwnB ELB (.slice gb Lb.length cb) Lb W ∧ Fd W w.heap.size gc f ∧ Below w.heap.size w W ∧ k64.heap.size ≤ W.heap.size) ?_ ?_
   ·replace HD := hid (Fd.below HD.out ((Below.refl k64.heap.size k64).drew))
    replace HBm := hid (OwnBt.below HBm.out ((Below.refl k64.heap.size k64).drew))
    replace HC := hid (FoC.below HC.out ((Below.refl k64.heap.size k64).drew))
    replace HR := hid (Rb.below HR.out ((Below.refl k64.heap.size k64).drew))
    replace HEL := hid (ownsRow_below HEL.out ((Below.refl k64.heap.size k64).drew))
    replace HCP := hid (Fd.below HCP.out ((Below.refl k64.heap.size k64).drew))
    have m1 : Rb k64.drew gHR 39 cs := HR.out
    have m2 : OwnB ELB (.slice gb Lb.length cb) Lb k64.drew := HEL.out
    refine wp_region_noPanic ?_
    refine wp_region_held_drew (S := fun W => Rb W gHR 39 cs ∧ OwnB ELB (.slice gb Lb.length cb) Lb W) (by kernel_rfl) ?_ (fun hHeld => ?_)
    ·exact ⟨m1, m2⟩
    replace hb : Below w.heap.size w k64.drew := hb.drew
    have hzd : k64.heap.size ≤ k64.drew.heap.size := Nat.le_refl _
    generalize k64.drew = k65 at *
    refine tk9 0 (.slice gb Lb.length cb) rfl (fun w hSw => ?_) ?_
    ·(try dsimp only at hSw)
     go_simp
    try simp only [P9]
    refine tk8 (i := 1) (oi := { dst := some 56, op := Op.convert 50 9 (Operand.tmp 55), type := 9, pos := "law.go:90", after := #[{ on := 0, ground := Ground.data }], guard := none }) (v := .string S) (.inl ⟨by rfl, fun W h => (by have hcv := conv6 (Byt.of_own h.2) HS.out; go_simp)⟩) ?_
    try simp only [P9]
    refine tk8 (i := 2) (oi := { dst := some 57, op := Op.load 39 (Operand.tmp 12), type := 39, pos := "law.go:90", after := #[], guard := none }) (v := .agg cs.toArray) (yieldsIf_load_mid (by rfl) 39 _ rfl gHR 0 rfl cs _ (fun w h => h.1.range) Tryz.underlying39 rfl hi0) ?_
    try simp only [P9]
    refine wpAnyH_ready (rs := [3]) (by kernel_rfl) (by simp) ?_
    refine AllReadyH.cons (o := _) rfl (fun K hK => ?_) (AllReadyH.nil)
    go_simp
    go_at_call 16
    refine (renc7_to _ _ f Lb _ ⟨cs, rfl, HC.out⟩ (Nat.le_refl _) HG.out HLB.out).mono ?_
    rintro e k66 ⟨A8, c8, rfl, hE, h⟩
    have hk : Below k65.heap.size k65 k66 := HK9 h
    have hz := h.size
    try simp at hz
    replace HD := hid (Fd.below HD.out hk)
    replace HBm := hid (OwnBt.below HBm.out hk)
    replace HC := hid (FoC.below HC.out hk)
    replace HR := hid (Rb.below HR.out hk)
    replace HEL := hid (ownsRow_below HEL.out hk)
    replace HCP := hid (Fd.below HCP.out hk)
    replace hb : Below w.heap.size w k66 := hb.trans (hk.mono hb.size)
    have HER := hid hE; clear hE
    clear h hk
    have m1 : Rb k66 gHR 39 cs := HR.out
    have m2 : OwnB ELB (.slice gb Lb.length cb) Lb k66 := HEL.out
    try dsimp only
    refine hK.out _ _ ?_ (fun hHeld => ?_)
    ·exact ⟨m1, m2⟩
    clear hK K
    try simp only [P9]
    refine wpAnyH_ready (rs := [4]) (by kernel_rfl) (by simp) ?_
    refine AllReadyH.cons (o := _) rfl (fun K hK => ?_) (AllReadyH.nil)
    have hcv := conv6 (Byt.of_own HER.out) HS.out
    go_simp
    refine hK.out _ _ ?_ (fun hHeld => ?_)
    ·exact ⟨m1, m2⟩
    clear hK K
    try simp only [P9]
    refine tk9 5 (.bool false) rfl (fun w hSw => ?_) ?_
    ·(try dsimp only at hSw)
     go_simp
    try simp only [P9]
    refine tk9 6 (.bool false) rfl (fun w hSw => ?_) ?_
    ·(try dsimp only at hSw)
     go_simp
    try simp only [P9]
    refine tk9 7 (.int .i64 0) rfl (fun w hSw => ?_) ?_
    ·(try dsimp only at hSw)
     go_simp
    try simp only [P9]
    refine tk9 8 (.bool false) rfl (fun w hSw => ?_) ?_
    ·(try dsimp only at hSw)
     go_simp
    try simp only [P9]
    refine tk9 9 (.bool false) rfl (fun w hSw => ?_) ?_
    ·(try dsimp only at hSw)
     go_simp
    try simp only [P9]
    refine tk9 10 (.bool false) rfl (fun w hSw => ?_) ?_
    ·(try dsimp only at hSw)
     go_simp
    try simp only [P9]
    refine tk9 11 (.pointer (some ⟨gc, 0, none⟩)) rfl (fun w hSw => ?_) ?_
    ·(try dsimp only at hSw)
     go_simp
    try simp only [P9]
    refine tk9 12 (.pointer (some ⟨gd, 0, none⟩)) rfl (fun w hSw => ?_) ?_
    ·(try dsimp only at hSw)
     go_simp
    try simp only [P9]
    refine wpAnyH_ready (rs := [13]) (by kernel_rfl) (by simp) ?_
    refine AllReadyH.cons (o := _) rfl (fun K hK => ?_) (AllReadyH.nil)
    go_simp
    go_at_call 17
    refine (feq_same w.heap.size w.heap.size gc gd f _ HCP.out HD.out).mono ?_
    rintro e k67 ⟨rfl, h⟩
    have hk : Below k66.heap.size k66 k67 := HK9 h
    have hz := h.size
    try simp at hz
    replace HD := hid (Fd.below HD.out hk)
    replace HBm := hid (OwnBt.below HBm.out hk)
    replace HC := hid (FoC.below HC.out hk)
    replace HR := hid (Rb.below HR.out hk)
    replace HEL := hid (ownsRow_below HEL.out hk)
    replace HCP := hid (Fd.below HCP.out hk)
    replace HER := hid (ownsRow_below HER.out hk)
    replace hb : Below w.heap.size w k67 := hb.trans (hk.mono hb.size)
    clear h hk
    have m1 : Rb k67 gHR 39 cs := HR.out
    have m2 : OwnB ELB (.slice gb Lb.length cb) Lb k67 := HEL.out
    try dsimp only
    refine hK.out _ _ ?_ (fun hHeld => ?_)
    ·exact ⟨m1, m2⟩
    clear hK K
    try simp only [P9]
    refine tk9 14 (.bool false) rfl (fun w hSw => ?_) ?_
    ·(try dsimp only at hSw)
     go_simp
    try simp only [P9]
    refine tk9 15 (.bool false) rfl (fun w hSw => ?_) ?_
    ·(try dsimp only at hSw)
     go_simp
    try simp only [P9]
    refine tk9 16 (.bool false) rfl (fun w hSw => ?_) ?_
    ·(try dsimp only at hSw)
     go_simp
    try simp only [P9]
    refine tk9 17 (.pointer (some ⟨gc, 0, none⟩)) rfl (fun w hSw => ?_) ?_
    ·(try dsimp only at hSw)
     go_simp
    try simp only [P9]
    refine tk8 (i := 18) (oi := { dst := some 73, op := Op.load 39 (Operand.tmp 12), type := 39, pos := "law.go:90", after := #[{ on := 16, ground := Ground.guard }], guard := some (16, false) }) (v := .agg cs.toArray) (yieldsIf_load_mid (by rfl) 39 _ rfl gHR 0 rfl cs _ (fun w h => h.1.range) Tryz.underlying39 rfl hi0) ?_
    try simp only [P9]
    refine wpAnyH_ready (rs := [19]) (by kernel_rfl) (by simp) ?_
    refine AllReadyH.cons (o := _) rfl (fun K hK => ?_) (AllReadyH.nil)
    go_simp
    go_at_call 12
    refine (lsame7_is w.heap.size _ gc cs f _ HCP.out HC.out hb.size (Nat.le_refl _)).mono ?_
    rintro e k68 ⟨rfl, h⟩
    have hk : Below k67.heap.size k67 k68 := HK9 h
    have hz := h.size
    try simp at hz
    replace HD := hid (Fd.below HD.out hk)
    replace HBm := hid (OwnBt.below HBm.out hk)
    replace HC := hid (FoC.below HC.out hk)
    replace HR := hid (Rb.below HR.out hk)
    replace HEL := hid (ownsRow_below HEL.out hk)
    replace HCP := hid (Fd.below HCP.out hk)
    replace HER := hid (ownsRow_below HER.out hk)
    replace hb : Below w.heap.size w k68 := hb.trans (hk.mono hb.size)
    clear h hk
    have m1 : Rb k68 gHR 39 cs := HR.out
    have m2 : OwnB ELB (.slice gb Lb.length cb) Lb k68 := HEL.out
    try dsimp only
    refine hK.out _ _ ?_ (fun hHeld => ?_)
    ·exact ⟨m1, m2⟩
    clear hK K
    try simp only [P9]
    refine tk9 20 (.bool false) rfl (fun w hSw => ?_) ?_
    ·(try dsimp only at hSw)
     go_simp
    try simp only [P9]
    refine tk9 21 (.bool false) rfl (fun w hSw => ?_) ?_
    ·(try dsimp only at hSw)
     go_simp
    try simp only [P9]
    refine wpAnyH_done (by kernel_rfl) ?_ _
    refine NoPanic.normal ?_
    refine ⟨A8, c8, rfl, HD.out, HR.out, HC.out, HBm.out, HEL.out, HCP.out, hb, by omega⟩
   ·rintro a k104 ⟨A8, c8, rfl, hHD9, hHR9, hHC9, hHBm9, hHEL9, hHCP9, hb, hkz⟩
    simp only [Act.put, List.setIfInBounds_toArray, List.set_cons_zero, List.set_cons_succ]
    replace HD := hid hHD9; clear hHD9
    replace HR := hid hHR9; clear hHR9
    replace HC := hid hHC9; clear hHC9
    replace HBm := hid hHBm9; clear hHBm9
    replace HEL := hid hHEL9; clear hHEL9
    replace HCP := hid hHCP9; clear hHCP9
    have hltd := HD.out.lt
    have hltc := HCP.out.lt
    have hltR := HR.out.lt
    go_wp2_with fail
    refine (fcopy_is w.heap.size gd f _ (Fd.below HD.out BL9) (by have := hb.size; first | exact hb.size | omega | (simp; omega))).mono ?_
    rintro e k105 ⟨ge, rfl, ⟨hce, hcel⟩, h⟩
    have hk : Below k104.heap.size k104 k105 := HK9 h
    have hz := h.size
    try simp at hz
    replace HD := hid (Fd.below HD.out hk)
    replace HBm := hid (OwnBt.below HBm.out hk)
    replace HC := hid (FoC.below HC.out hk)
    replace HR := hid (Rb.below HR.out hk)
    replace HEL := hid (ownsRow_below HEL.out hk)
    replace HCP := hid (Fd.below HCP.out hk)
    replace hb : Below w.heap.size w k105 := hb.trans (hk.mono hb.size)
    clear h hk
    have HCE := hid hce
    have hltHCE : ge < k105.heap.size := HCE.out.lt
    clear hce
    have hgce : gc ≠ ge := by omega
    have hgde : gd ≠ ge := by omega
    have hgRe : gHR ≠ ge := by omega
    have hgRd : gHR ≠ gc := by omega
    clear hltd hltc hltR hcel
    go_wp2_with fail
    go_loopw [18] (fun i wr => ∃ (k : Nat) (fs : Fo), i = .int .i64 k ∧ k ≤ m.length ∧ Fd wr w.heap.size gc fs ∧ Fd wr w.heap.size ge fs ∧ fs.place ≤ 30 + k ∧ Fd wr w.heap.size gd f ∧ Rb wr gHR 39 cs ∧ FoC wr wr.heap.size cs f ∧ OwnBt w.heap.size (.slice Am m.length cm) m wr ∧ OwnB ELB (.slice gb Lb.length cb) Lb wr ∧ Below w.heap.size w wr) (fun i _ => m.length - (intOf i).toNat)
    case atStart => exact ⟨0, f, rfl, Nat.zero_le _, HCP.out, HCE.out, by omega, HD.out, HR.out, HC.out, HBm.out, HEL.out, hb⟩
    case round =>
     clear HCP HCE hb HD HR HC HBm HEL
     obtain ⟨k, fs, rfl, hk, hd1, hd2, hpl, hHD9, hHR9, hHC9, hHBm9, hHEL9, hb⟩ := hrel
     have HCP := hid hd1; clear hd1
     have HCE := hid hd2; clear hd2
     have HD := hid hHD9; clear hHD9
     have HR := hid hHR9; clear hHR9
     have HC := hid hHC9; clear hHC9
     have HBm := hid hHBm9; clear hHBm9
     have HEL := hid hHEL9; clear hHEL9
     have hltc := HCP.out.lt
     have hlte := HCE.out.lt
     have hltd := HD.out.lt
     have hltR := HR.out.lt
     have HGF := HG; clear HG
     have HG := hid HCP.out.good
     by_cases hkl : k < m.length
     ·obtain ⟨g, Ak, ck, rfl, hga, hr9, hops⟩ := HBm.out.at_ k hkl
      have hok9 := HKm.out m[k] (List.getElem_mem ..)
      obtain ⟨b, hbe⟩ : ∃ b, m[k] = b := ⟨_, rfl⟩
      rw [hbe] at hr9 hops hok9
      clear hbe
      obtain ⟨bc, bq, bo⟩ := b
      simp only at hr9 hops hok9
      have HRG := hid hr9; clear hr9
      have HOP := hid hops; clear hops
      have HOK := hid hok9; clear hok9
      have hki : (k : Int) < (m.length : Int) := by omega
      have hne1 : g ≠ gc := HBm.out.ne_fold HCP.out
      have hne2 : g ≠ ge := HBm.out.ne_fold HCE.out
      have hgl : g < wr.heap.size := hga
      obtain ⟨y, hy⟩ : ∃ y, nextB fs ⟨bc, bq, bo⟩ = y := ⟨_, rfl⟩
      obtain ⟨f2, hst⟩ : ∃ f2, stepF fs ⟨bc, bq, bo⟩ = f2 := ⟨_, rfl⟩
      obtain ⟨⟨rp, ⟨rc, rq, ro⟩, re⟩, hrw⟩ : ∃ r, rowF fs ⟨bc, bq, bo⟩ = r := ⟨_, rfl⟩
      have hp9 : fs.place ≤ 1000000000000000 := by omega
      have hg2 : FoG f2 := by rw [← hst]; exact stepF_good HG.out HOK.out.1 hp9
      have hp2 : f2.place ≤ fs.place + 1 := by have := stepF_place fs ⟨bc, bq, bo⟩; rw [hst] at this; omega
      have hro : ro.length ≤ 1000000 := by
       have h1 := rowF_few fs ⟨bc, bq, bo⟩
       rw [hrw] at h1
       have h2 := HOK.out.2
       simp only at h1
       omega
      have HST := hid hst; clear hst
      have HY := hid hy; clear hy
      have HRW := hid hrw; clear hrw
      have HG2 := hid hg2; clear hg2
      have hi3 : (Tryz.prog.info? 33).map (·.size) = some 3 := by kernel_rfl
      have hrg9 := HRG.out
      go_wp2_with (refine wpList_load_mid rfl 33 _ rfl g (k * 3) rfl [.int .i64 bc, .int .i64 bq, .slice Ak bo.length ck] _ hrg9 Tryz.underlying33 rfl hi3 ?_)
      clear hrg9
      refine (fnext_to w.heap.size gc _ _ fs f2 bc bq bo y rp rc rq re ro _ (Fd.below HCP.out BL9) (Ops.of_own (ownsRow_below HOP.out BL9)) (Nat.le_refl _) HOK.out.1 hp9 HY.out HST.out HRW.out).mono ?_
      rintro e k121 ⟨A1, c1, rfl, ⟨ho9, hd9⟩, hgr⟩
      have hz9 := hgr.size
      try simp at hz9
      replace hb : Below w.heap.size w k121 := Fd.frame (w0 := w) (hb := hgr) (h := Fd.below HCP.out BL9) (h0 := (BB9 hb)) (hB := by have := hb.size; first | omega | (simp; omega))
      replace HCE := hid (Fd.grown (hb := hgr) (h := Fd.below HCE.out BL9) (h2 := Fd.below HCP.out BL9) (hne := (by omega)))
      replace HD := hid (Fd.grown (hb := hgr) (h := Fd.below HD.out BL9) (h2 := Fd.below HCP.out BL9) (hne := (by omega)))
      replace HR := hid (rb_turn (hb := hgr) (h := Rb.below HR.out BL9) (hd := Fd.below HCP.out BL9) (hne := (by omega)))
      replace HEL := hid (own_turn (hb := hgr) (h := ownsRow_below HEL.out BL9) (hd := Fd.below HCP.out BL9) (hne := by decide))
      replace HOP := hid (own_turn (hb := hgr) (h := ownsRow_below HOP.out BL9) (hd := Fd.below HCP.out BL9) (hne := by decide))
      replace HC := hid (FoC.turn (hb := hgr) (h := FoC.below HC.out BL9) (hd := Fd.below HCP.out BL9))
      replace HBm := hid (OwnBt.turn (hb := hgr) (h := OwnBt.below HBm.out BL9) (hd := Fd.below HCP.out BL9))
      replace HRG := hid (rng_turn (hb := hgr) (h := range_below (C := wr.heap.size) HRG.out BL9 LT9) (hne := (by omega)) (hl := LT9))
      replace HCP := hid hd9
      clear hd9
      have HO1 := hid ho9; clear ho9
      clear hgr
      go_upto_region 20 with fail
      refine wp_world (fun W => Rb W k121.heap.size 36 [.int .i64 rp, .int .i64 rc, .int .i64 rq, .slice A1 ro.length c1, .int .i64 re] ∧ Below k121.heap.size k121 W) ⟨by exact Rb.new _ _ _, by exact below_one _ _⟩ ?_
      rintro k122 ⟨hr9, hk⟩
      replace HCP := hid (Fd.below HCP.out hk)
      replace HCE := hid (Fd.below HCE.out hk)
      replace HD := hid (Fd.below HD.out hk)
      replace HR := hid (Rb.below HR.out hk)
      replace HEL := hid (ownsRow_below HEL.out hk)
      replace HOP := hid (ownsRow_below HOP.out hk)
      replace HC := hid (FoC.below HC.out hk)
      replace HBm := hid (OwnBt.below HBm.out hk)
      replace HRG := hid (range_below HRG.out hk LT9)
      replace HO1 := hid (Ops.more (Ops.keep HO1.out hk (Nat.le_refl _)) (Below.size hk))
      replace hb : Below w.heap.size w k122 := hb.trans (hk.mono (by first | exact hb.size | omega))
      have hkz9 := hk.size
      clear hk
      obtain ⟨gHW1, hg9⟩ : ∃ g, k121.heap.size = g := ⟨_, rfl⟩
      rw [hg9] at hr9 ⊢
      have hlowHW1 : k121.heap.size ≤ gHW1 := by omega
      have HW1 := hid hr9; clear hr9 hg9
      have hltHW1 := Rb.lt HW1.out
      have hlw1 : w.heap.size ≤ gHW1 := by omega
      have hw1e : gHW1 ≠ ge := by omega
      have hi3 : (Tryz.prog.info? 33).map (·.size) = some 3 := by kernel_rfl
      have hrg9 := HRG.out
      go_wp2_with (refine wpList_load_mid rfl 33 _ rfl g (k * 3) rfl [.int .i64 bc, .int .i64 bq, .slice Ak bo.length ck] _ hrg9 Tryz.underlying33 rfl hi3 ?_)
      clear hrg9
      refine (fnext_to w.heap.size ge _ _ fs f2 bc bq bo y rp rc rq re ro _ (Fd.below HCE.out BL9) (Ops.of_own (ownsRow_below HOP.out BL9)) (Nat.le_refl _) HOK.out.1 hp9 HY.out HST.out HRW.out).mono ?_
      rintro e k123 ⟨A2, c2, rfl, ⟨ho9, hd9⟩, hgr⟩
      have hz9 := hgr.size
      try simp at hz9
      replace hb : Below w.heap.size w k123 := Fd.frame (w0 := w) (hb := hgr) (h := Fd.below HCE.out BL9) (h0 := (BB9 hb)) (hB := by have := hb.size; first | omega | (simp; omega))
      replace HCP := hid (Fd.grown (hb := hgr) (h := Fd.below HCP.out BL9) (h2 := Fd.below HCE.out BL9) (hne := (by omega)))
      replace HD := hid (Fd.grown (hb := hgr) (h := Fd.below HD.out BL9) (h2 := Fd.below HCE.out BL9) (hne := (by omega)))
      replace HR := hid (rb_turn (hb := hgr) (h := Rb.below HR.out BL9) (hd := Fd.below HCE.out BL9) (hne := (by omega)))
      replace HEL := hid (own_turn (hb := hgr) (h := ownsRow_below HEL.out BL9) (hd := Fd.below HCE.out BL9) (hne := by decide))
      replace HOP := hid (own_turn (hb := hgr) (h := ownsRow_below HOP.out BL9) (hd := Fd.below HCE.out BL9) (hne := by decide))
      replace HO1 := hid (Ops.more (ops_turn (hb := hgr) (h := Ops.keep HO1.out BL9 (Nat.le_refl _)) (hd := Fd.below HCE.out BL9)) (Nat.le_trans LT9 hgr.size))
      replace HW1 := hid (rb_turn (hb := hgr) (h := Rb.below HW1.out BL9) (hd := Fd.below HCE.out BL9) (hne := (by omega)))
      replace HC := hid (FoC.turn (hb := hgr) (h := FoC.below HC.out BL9) (hd := Fd.below HCE.out BL9))
      replace HBm := hid (OwnBt.turn (hb := hgr) (h := OwnBt.below HBm.out BL9) (hd := Fd.below HCE.out BL9))
      replace HRG := hid (rng_turn (hb := hgr) (h := range_below (C := k122.heap.size) HRG.out BL9 LT9) (hne := (by omega)) (hl := LT9))
      replace HCE := hid hd9
      clear hd9
      have HO2 := hid ho9; clear ho9
      clear hgr
      go_upto_region 21 with fail
      refine wp_world (fun W => Rb W k123.heap.size 36 [.int .i64 rp, .int .i64 rc, .int .i64 rq, .slice A2 ro.length c2, .int .i64 re] ∧ Below k123.heap.size k123 W) ⟨by exact Rb.new _ _ _, by exact below_one _ _⟩ ?_
      rintro k124 ⟨hr9, hk⟩
      replace HCP := hid (Fd.below HCP.out hk)
      replace HCE := hid (Fd.below HCE.out hk)
      replace HD := hid (Fd.below HD.out hk)
      replace HR := hid (Rb.below HR.out hk)
      replace HEL := hid (ownsRow_below HEL.out hk)
      replace HOP := hid (ownsRow_below HOP.out hk)
      replace HO1 := hid (Ops.more (Ops.keep HO1.out hk (Nat.le_refl _)) (Below.size hk))
      replace HW1 := hid (Rb.below HW1.out hk)
      replace HC := hid (FoC.below HC.out hk)
      replace HBm := hid (OwnBt.below HBm.out hk)
      replace HRG := hid (range_below HRG.out hk LT9)
      replace HO2 := hid (Ops.more (Ops.keep HO2.out hk (Nat.le_refl _)) (Below.size hk))
      replace hb : Below w.heap.size w k124 := hb.trans (hk.mono (by first | exact hb.size | omega))
      have hkz9 := hk.size
      clear hk
      obtain ⟨gHW2, hg9⟩ : ∃ g, k123.heap.size = g := ⟨_, rfl⟩
      rw [hg9] at hr9 ⊢
      have hlowHW2 : k123.heap.size ≤ gHW2 := by omega
      have HW2 := hid hr9; clear hr9 hg9
      have hltHW2 := Rb.lt HW2.out
      have p0 : k124.cell? ⟨gHW1, 0, none⟩ = some (.int .i64 rp) := HW1.out.cell (j := 0) rfl
      have p1 : k124.cell? ⟨gHW1, 1, none⟩ = some (.int .i64 rc) := HW1.out.cell (j := 1) rfl
      have p2 : k124.cell? ⟨gHW1, 2, none⟩ = some (.int .i64 rq) := HW1.out.cell (j := 2) rfl
      have p3 : k124.cell? ⟨gHW1, 3, none⟩ = some (.slice A1 ro.length c1) := HW1.out.cell (j := 3) rfl
      have p4 : k124.cell? ⟨gHW1, 4, none⟩ = some (.int .i64 re) := HW1.out.cell (j := 4) rfl
      have q0 : k124.cell? ⟨gHW2, 0, none⟩ = some (.int .i64 rp) := HW2.out.cell (j := 0) rfl
      have q1 : k124.cell? ⟨gHW2, 1, none⟩ = some (.int .i64 rc) := HW2.out.cell (j := 1) rfl
      have q2 : k124.cell? ⟨gHW2, 2, none⟩ = some (.int .i64 rq) := HW2.out.cell (j := 2) rfl
      have q3 : k124.cell? ⟨gHW2, 3, none⟩ = some (.slice A2 ro.length c2) := HW2.out.cell (j := 3) rfl
      have q4 : k124.cell? ⟨gHW2, 4, none⟩ = some (.int .i64 re) := HW2.out.cell (j := 4) rfl
      have hyy : (y != y) = false := by cases y <;> rfl
      have hltw1 := HW1.out.lt
      go_wp2_with fail
      refine (reqRow_is _ _ _ ⟨rp, ⟨rc, rq, ro⟩, re⟩ _ ⟨_, rfl, (Ops.keep HO1.out BL9 (Nat.le_refl _))⟩ ⟨_, rfl, (Ops.keep HO2.out BL9 (Nat.le_refl _))⟩ (Nat.le_refl _) hro).mono ?_
      rintro e k125 ⟨rfl, h⟩
      have hk : Below k124.heap.size k124 k125 := HK9 h
      have hz := h.size
      try simp at hz
      replace HCP := hid (Fd.below HCP.out hk)
      replace HCE := hid (Fd.below HCE.out hk)
      replace HD := hid (Fd.below HD.out hk)
      replace HR := hid (Rb.below HR.out hk)
      replace HEL := hid (ownsRow_below HEL.out hk)
      replace HOP := hid (ownsRow_below HOP.out hk)
      replace HO1 := hid (Ops.more (Ops.keep HO1.out hk (Nat.le_refl _)) (Below.size hk))
      replace HW1 := hid (Rb.below HW1.out hk)
      replace HC := hid (FoC.below HC.out hk)
      replace HBm := hid (OwnBt.below HBm.out hk)
      replace HRG := hid (range_below HRG.out hk LT9)
      replace HO2 := hid (Ops.more (Ops.keep HO2.out hk (Nat.le_refl _)) (Below.size hk))
      replace HW2 := hid (Rb.below HW2.out hk)
      replace hb : Below w.heap.size w k125 := hb.trans (hk.mono hb.size)
      clear h hk
      go_wp2
      go_roundw
      case rel => exact ⟨k + 1, f2, by go_num, by omega, (Fd.below HCP.out BL9), (Fd.below HCE.out BL9), by omega, (Fd.below HD.out BL9), (Rb.below HR.out BL9), (FoC.below HC.out BL9), (OwnBt.below HBm.out BL9), (ownsRow_below HEL.out BL9), hb⟩
      case measure => first | (simp [intOf]; done) | (simp [intOf]; omega)
     ·have hkk : k = m.length := by omega
      subst hkk
      clear HBm
      go_wp2_with fail
      refine (feq_same w.heap.size w.heap.size gc ge fs _ (Fd.below HCP.out BL9) (Fd.below HCE.out BL9)).mono ?_
      rintro e k181 ⟨rfl, h⟩
      have hk : Below wr.heap.size wr k181 := HK9 h
      have hz := h.size
      try simp at hz
      replace HCP := hid (Fd.below HCP.out hk)
      replace HCE := hid (Fd.below HCE.out hk)
      replace HD := hid (Fd.below HD.out hk)
      replace HR := hid (Rb.below HR.out hk)
      replace HC := hid (FoC.below HC.out hk)
      replace HEL := hid (ownsRow_below HEL.out hk)
      replace hb : Below w.heap.size w k181 := hb.trans (hk.mono hb.size)
      clear h hk
      have hrg5 := HR.out.range
      go_wp2_with (refine wpList_load_midG (by rfl) 39 _ rfl gHR 0 rfl cs _ hrg5 Tryz.underlying39 rfl hi0 ?_)
      clear hrg5
      refine (lsame7_is w.heap.size _ gd cs f _ (Fd.below HD.out BL9) (FoC.below HC.out BL9) hb.size (Nat.le_refl _)).mono ?_
      rintro e k182 ⟨rfl, h⟩
      have hk : Below k181.heap.size k181 k182 := HK9 h
      have hz := h.size
      try simp at hz
      replace HCP := hid (Fd.below HCP.out hk)
      replace HCE := hid (Fd.below HCE.out hk)
      replace HD := hid (Fd.below HD.out hk)
      replace HR := hid (Rb.below HR.out hk)
      replace HC := hid (FoC.below HC.out hk)
      replace HEL := hid (ownsRow_below HEL.out hk)
      replace hb : Below w.heap.size w k182 := hb.trans (hk.mono hb.size)
      clear h hk
      by_cases hat : 0 ≤ a2
      ·have HBY := hid (Byt.of_own HEL.out)
       have HNI := hid (fun (V : World) => ownB_nil w.heap.size V)
       go_wp2_with (at_builtin; refine wpList_append_byt rfl _ _ rfl w.heap.size _ _ _ [] Lb rfl (HNI.out _) rfl HBY.out ?x1 ?x2 ?_)
       case x1 => simp; omega
       case x2 => exact hb.size
       intro v5 k50 hO5 h5
       have hb5 : Below w.heap.size w k50 := hb.trans h5
       obtain ⟨g, cg, rfl, -⟩ := hO5.head hL1
       obtain ⟨i, hi, hil⟩ := rem_nat a2 Lb.length hat hL1
       have hc := hO5.cellAt i hil
       have hf := hO5.frozenAt i
       obtain ⟨z, hz⟩ : ∃ z, Lb[i] = z := ⟨_, rfl⟩
       rw [hz] at hc
       have hzb := z.toNat_lt
       have hne0 : ((Lb.length : Int) == 0) = false := by rw [beq_eq_false_iff_ne]; omega
       obtain ⟨y, hy⟩ : ∃ y, bits BinOp.xor .u8 (z.toNat : Int) a3 = y := ⟨_, rfl⟩
       have hy2 := xor_u8 (z.toNat : Int) a3
       rw [hy] at hy2
       have hgB : w.heap.size ≤ g := (hO5.lt g rfl).1
       have hset := hO5.setAt i hil y hy2.1 hy2.2
       obtain ⟨L2, hL2e⟩ : ∃ L2, Lb.set i (UInt8.ofNat y.toNat) = L2 := ⟨_, rfl⟩
       rw [hL2e] at hset
       have HLEN2 := hid (show L2.length = Lb.length by rw [← hL2e, List.length_set])
       have HSET := hid hset; clear hset hO5
       have hb := hb5.setCell (p := ⟨g, i, none⟩) hgB (.int .u8 y)
       clear hb5 h5
       go_wp2_with fail
       refine (tells7_any _ _ _ _ L2 _ (Byt.of_own HSET.out) (Nat.le_refl _) (by have := HLEN2.out; omega)).mono ?_
       rintro e k261 ⟨rfl, h⟩
       replace hb := hb.trans (h.mono hb.size)
       clear h
       go_wp2
       go_ret
       exact ⟨rfl, hb⟩
      ·have hat3 : (decide (a2 ≥ 0)) = false := by simp; omega
       have hat4 : a2 < 0 := by omega
       clear hat
       go_upto_region 28 with fail
       go_wp2_with fail
       refine (tells7_any _ _ _ _ Lb _ (Byt.of_own HEL.out) (Nat.le_refl _) (by omega)).mono ?_
       rintro e k261 ⟨rfl, h⟩
       replace hb := hb.trans (h.mono hb.size)
       clear h
       go_wp2
       go_ret
       exact ⟨rfl, hb⟩
set_option maxRecDepth 100000 in
theorem lifted (os : Os) (started : os.Started) (H : Type) (enc : TypeId × Value → H) :
  ReturnsInHanded {} Tryz.checked os 4 .any (Rows.foldBytesSpec.pre6 enc Tryz.prog Tryz.f4 Rows.foldBytesRow.domain false) (Rows.foldBytesSpec.post enc Tryz.prog Tryz.f4 false true false false) := by
 refine returnsInHanded_of_change (C := Tryz.checked) own started (by kernel_rfl) Tryz.func4
  (ChangeSpec.witness6 (enc := enc) (C := Tryz.checked) false ⟨#[], #[.slice none 0 0, .slice none 0 0, .int .i64 0, .int .u8 0], []⟩ 8 (by kernel_rfl) (by kernel_rfl) (by kernel_rfl) (by kernel_rfl)) ?_
 intro W base args ds gs before hval0 hW hcnd _
 have hval : ∀ (j : Nat) t v, Tryz.f4.params[j]? = some t → args[j]? = some v → Value.okWide Tryz.prog W .any base t v := hval0
 have hW' := hW
 obtain ⟨p, q, hA0, hV, rfl, hfz, hnd⟩ := hW
 have hA : DataW.TrodAll enc Tryz.prog W 0 (fun _ => true) true Tryz.f4.params.toList args.toList ds p := hA0
 have hA1 := hA
 rw [Tryz.params4] at hA hval
 obtain ⟨v0, vs0, d0, ds0, p0, q0, hargs, rfl, rfl, h0, r0⟩ := trodAll_cons hA
 obtain ⟨v1, vs1, d1, ds1, p1, q1, rfl, rfl, rfl, h1, r1⟩ := trodAll_cons r0
 obtain ⟨v2, vs2, d2, ds2, p2, q2, rfl, rfl, rfl, h2, r2⟩ := trodAll_cons r1
 obtain ⟨v3, vs3, d3, ds3, p3, q3, rfl, rfl, rfl, h3, r3⟩ := trodAll_cons r2
 obtain ⟨rfl, rfl, rfl⟩ := trodAll_nil r3
 obtain rfl : args = #[v0, v1, v2, v3] := by cases args; simp_all
 obtain ⟨rfl, rfl⟩ := trodVars_none hV
 obtain ⟨A0, c0, a0, rfl, w0, x0⟩ := open_bats (hval 0 22 v0 rfl rfl) h0
 obtain ⟨A1, c1, a1, rfl, w1, x1⟩ := open_bats (hval 1 22 v1 rfl rfl) h1
 obtain ⟨a2, rfl, rfl, rfl, w2⟩ := open_int Tryz.underlying3 (hval 2 3 v2 rfl rfl) h2
 obtain ⟨a3, rfl, rfl, rfl, w3⟩ := open_int Tryz.underlying5 (hval 3 5 v3 rfl rfl) h3
 clear hA0 hval0
 simp only [List.append_nil] at hW'
 try simp only [List.append_nil] at hA1
 refine (walk W A0 c0 a0 w0 x0 A1 c1 a1 w1 x1 a2 w2 a3 w3).mono fun e W' ⟨he, hg⟩ => ?_
 subst he
 exact ⟨_, rfl, law_end Tryz.laidOut (by kernel_rfl) hW' hA1 hg rfl rfl rfl (trodAll_mk1 (shut_bool Tryz.underlying4 _))⟩
theorem over : Rows.foldBytesRow.holds Tryz.pinned (OpenSpec.ofChange Rows.foldBytesSpec) :=
 OpenClaim.holds_of_wide 4 Tryz.f4 rfl rfl rfl rfl rfl rfl rfl ⟨rfl, rfl, rfl, rfl, rfl⟩ rfl rfl rfl rfl rfl (by kernel_rfl) Tryz.func4 (by kernel_rfl)
  (of_decide_eq_true (by kernel_rfl)) (by unfold Func.isWrapper; first | (rw [if_pos (by decide +kernel)]; kernel_rfl) | (rw [if_neg (by decide +kernel)]; exact ⟨rfl, rfl⟩))
  (fun os started H enc _ => lifted os started H enc)
theorem proved : Rows.FoldBytesSaid := over
#print axioms proved
end Go.Proofs.YtegkhkcnoahhdaaGreat.foldBytes
