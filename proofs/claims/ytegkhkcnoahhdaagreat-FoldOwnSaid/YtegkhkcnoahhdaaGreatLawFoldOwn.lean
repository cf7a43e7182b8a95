/- A fold's document and copies are others' to change. There are no conditions. -/
import Derived.Test.YtegkhkcnoahhdaaGreatRows
import Derived.Test.YtegkhkcnoahhdaaGreatL7Same
import Derived.Test.YtegkhkcnoahhdaaGreatL7All
import Derived.Test.YtegkhkcnoahhdaaGreatBigMay
set_option linter.unusedSimpArgs false
set_option linter.unusedVariables false
namespace Go.Proofs.YtegkhkcnoahhdaaGreat.foldOwn
open Lib (hid)
open Go.ChangeShapes Go.WideShapes Go.ChangeAt Go.RowKit
open Go.ChangeMaps (open_string shut_string)
set_option linter.unusedVariables false
theorem own : ownKnob Tryz.prog.godebug = none := by kernel_rfl
def oX : Opn := ⟨2, ⟨#[120]⟩, zR, zR, 0⟩
theorem oX_ok : ∀ o ∈ [oX], o.ok := fun o ho => by
 have : o = oX := by simpa using ho
 subst this
 exact ⟨⟨by decide, by decide⟩, by decide, zR_ok, zR_ok, ⟨by decide, by decide⟩⟩
theorem mayX : ∀ n : Fin 32, mayB ⟨5, (n.val : Int) + 1, [oX]⟩ = true := by decide +kernel
theorem nextX {f : Fo} {L : Int} (h : f.last 5 = L) (h0 : 0 ≤ L) (h1 : L ≤ 30) : nextB f ⟨5, L + 1, [oX]⟩ = true := by
 obtain ⟨n, rfl⟩ : ∃ n : Nat, L = (n : Int) := ⟨L.toNat, by omega⟩
 unfold nextB
 rw [mayX ⟨n, by omega⟩]
 show (true && (n : Int) + 1 == f.last 5 + 1) = true
 rw [h]
 simp
theorem stepX {f : Fo} {b : Bat} (h : nextB f b = true) : (stepF f b).place = f.place + 1 := by
 unfold stepF
 rw [if_pos h]; rfl
set_option maxRecDepth 100000 in
set_option maxHeartbeats 8000000 in
theorem walk (w : World) (A0 : Option Addr) (c0 : Nat) (a0 : List Bat) (w0 : Bats w w.heap.size (.slice A0 a0.length c0) a0) (x0 : ∀ b ∈ a0, b.fit) (A1 : Option Addr) (c1 : Nat) (a1 : List Opn) (w1 : Ops w w.heap.size (.slice A1 a1.length c1) a1) (x1 : ∀ x ∈ a1, x.fit) :
  Calls Tryz.prog 5 #[.slice A0 a0.length c0, .slice A1 a1.length c1] w fun e w' => e = .returned (.bool true) ∧ Below w.heap.size w w' := by
 have HA0 := hid w0; clear w0
 have HF0 := hid x0; clear x0
 have HA1 := hid w1; clear w1
 have HF1 := hid x1; clear x1
 have hb := Below.refl w.heap.size w
 go_enter Tryz.func5, Tryz.ntmps5
 go_wp2_with fail
 refine (begun7_any _).mono ?_
 rintro e k1 ⟨rfl, h⟩
 have hk : Below w.heap.size w k1 := HK9 h
 have hz := h.size
 try simp at hz
 replace hb : Below w.heap.size w k1 := hb.trans (hk.mono hb.size)
 clear h hk
 go_wp2_with fail
 refine (lbatches_is w.heap.size w.heap.size 15 _ _ a0 _ (HA0.out.keep (BB9 hb) (Nat.le_refl _)) (by have := hb.size; first | exact hb.size | omega | (simp; omega)) (by have := hb.size; first | exact hb.size | omega | (simp; omega)) HF0.out (by omega)).mono ?_
 rintro e k2 ⟨Al, cl, l, rfl, ⟨ho9, hll, hok9⟩, h⟩
 have hk : Below k1.heap.size k1 k2 := HK9 h
 have hz := h.size
 try simp at hz
 replace hb : Below w.heap.size w k2 := hb.trans (hk.mono hb.size)
 have HBl := hid ho9; clear ho9
 have HKl := hid hok9; clear hok9
 clear h hk
 go_wp2_with fail
 refine (fnew_is w.heap.size _ (by have := hb.size; first | omega | exact Nat.le_refl _ | (simp; omega))).mono ?_
 rintro e k3 ⟨rfl, hd9, h⟩
 have hk : Below k2.heap.size k2 k3 := HK9 h
 have hz := h.size
 try simp at hz
 replace HBl := hid (OwnBt.below HBl.out hk)
 replace hb : Below w.heap.size w k3 := hb.trans (hk.mono hb.size)
 clear h hk
 have HD := hid hd9; clear hd9
 have hltHD : k2.heap.size < k3.heap.size := HD.out.lt
 obtain ⟨gd, hgd9⟩ : ∃ g, k2.heap.size = g := ⟨_, rfl⟩
 rw [hgd9] at HD ⊢
 have hwd : w.heap.size ≤ gd := HD.out.lo
 clear hgd9
 go_wp2_with fail
 go_loopw [7] (fun i wr => ∃ (k : Nat), i = .int .i64 k ∧ k ≤ l.length ∧ Fd wr w.heap.size gd (allF (l.take k)) ∧ OwnBt w.heap.size (.slice Al l.length cl) l wr ∧ Below w.heap.size w wr) (fun i _ => l.length - (intOf i).toNat)
 case atStart => exact ⟨0, rfl, Nat.zero_le _, HD.out, HBl.out, hb⟩
 case round =>
  clear HD HBl hb
  obtain ⟨k, rfl, hk, hd, hbl, hb⟩ := hrel
  have HD := hid hd; clear hd
  have HBl := hid hbl; clear hbl
  have hltD := HD.out.lt
  by_cases hkl : k < l.length
  ·obtain ⟨g, Ak, ck, rfl, hga, hr9, hops⟩ := HBl.out.at_ k hkl
   have hok9 := HKl.out l[k] (List.getElem_mem ..)
   obtain ⟨b, hbe⟩ : ∃ b, l[k] = b := ⟨_, rfl⟩
   have hbe9 := hbe
   rw [hbe] at hr9 hops hok9
   clear hbe
   obtain ⟨bc, bq, bo⟩ := b
   simp only at hr9 hops hok9
   have HRG := hid hr9; clear hr9
   have HOP := hid hops; clear hops
   have HOK := hid hok9; clear hok9
   have hki : (k : Int) < (l.length : Int) := by omega
   have hne1 : g ≠ gd := HBl.out.ne_fold HD.out
   have htk : allF (l.take (k + 1)) = stepF (allF (l.take k)) ⟨bc, bq, bo⟩ := by
    have := allF_take (l := l) (k := k) hkl
    rw [hbe9] at this
    exact this
   obtain ⟨f, hf⟩ : ∃ f, allF (l.take k) = f := ⟨_, rfl⟩
   obtain ⟨f2, hf2⟩ : ∃ f2, allF (l.take (k + 1)) = f2 := ⟨_, rfl⟩
   have hpl := (allF_small (l.take k)).1
   rw [hf] at htk hpl
   rw [hf2] at htk
   rw [hf] at HD
   have hpl2 : f.place ≤ (k : Int) := by rw [List.length_take] at hpl; omega
   have HF2 := hid hf2; clear hf2 hf hpl hbe9
   have HG := hid HD.out.good
   obtain ⟨y, hy⟩ : ∃ y, nextB f ⟨bc, bq, bo⟩ = y := ⟨_, rfl⟩
   have hst := htk.symm; clear htk
   obtain ⟨⟨rp, ⟨rc, rq, ro⟩, re⟩, hrw⟩ : ∃ r, rowF f ⟨bc, bq, bo⟩ = r := ⟨_, rfl⟩
   have hp9 : f.place ≤ 1000000000000000 := by omega
   have hg2 : FoG f2 := by rw [← hst]; exact stepF_good HG.out HOK.out.1 hp9
   have hp2 : f2.place ≤ f.place + 1 := by have := stepF_place f ⟨bc, bq, bo⟩; rw [hst] at this; omega
   have hro : ro.length ≤ 1000000 := by
    have h1 := rowF_few f ⟨bc, bq, bo⟩
    rw [hrw] at h1
    have h2 := HOK.out.2
    simp only at h1
    omega
   have HST := hid hst; clear hst
   have HY := hid hy; clear hy
   have HRW := hid hrw; clear hrw
   have HG2 := hid hg2; clear hg2
   have hi3 : (Tryz.prog.info? 33).map (·.size) = some 3 := by kernel_rfl
   have hrg9 := HRG.out
   go_wp2_with (refine wpList_load_mid rfl 33 _ rfl g (k * 3) rfl [.int .i64 bc, .int .i64 bq, .slice Ak bo.length ck] _ hrg9 Tryz.underlying33 rfl hi3 ?_)
   clear hrg9
   refine (fnext_to w.heap.size gd _ _ f f2 bc bq bo y rp rc rq re ro _ (Fd.below HD.out BL9) (Ops.of_own (ownsRow_below HOP.out BL9)) (Nat.le_refl _) HOK.out.1 hp9 HY.out HST.out HRW.out).mono ?_
   rintro e k21 ⟨A1, c1, rfl, ⟨ho9, hd9⟩, hgr⟩
   have hz9 := hgr.size
   try simp at hz9
   replace hb : Below w.heap.size w k21 := Fd.frame (w0 := w) (hb := hgr) (h := Fd.below HD.out BL9) (h0 := (BB9 hb)) (hB := by have := hb.size; first | omega | (simp; omega))
   replace HOP := hid (own_turn (hb := hgr) (h := ownsRow_below HOP.out BL9) (hd := Fd.below HD.out BL9) (hne := by decide))
   replace HBl := hid (OwnBt.turn (hb := hgr) (h := OwnBt.below HBl.out BL9) (hd := Fd.below HD.out BL9))
   replace HRG := hid (rng_turn (hb := hgr) (h := range_below (C := wr.heap.size) HRG.out BL9 LT9) (hne := (by omega)) (hl := LT9))
   replace HD := hid hd9
   clear hd9
   have HO1 := hid ho9; clear ho9
   clear hgr
   go_wp2
   go_roundw
   case rel => exact ⟨k + 1, by go_num, by omega, by rw [HF2.out]; exact (Fd.below HD.out BL9), (OwnBt.below HBl.out BL9), (BB9 hb)⟩
   case measure => first | (simp [intOf]; done) | (simp [intOf]; omega)
  ·have hkk : k = l.length := by omega
   subst hkk
   rw [List.take_length] at HD
   go_wp2_with fail
   refine (lall_is _ _ _ l _ (OwnBt.bats (OwnBt.below HBl.out BL9)) (Nat.le_refl _) HKl.out (by omega)).mono ?_
   rintro e k61 ⟨v9, w9, rfl, hv9, h⟩
   have hk : Below wr.heap.size wr k61 := HK9 h
   have hz := h.size
   try simp at hz
   replace HD := hid (Fd.below HD.out hk)
   replace HBl := hid (OwnBt.below HBl.out hk)
   replace hb : Below w.heap.size w k61 := hb.trans (hk.mono hb.size)
   obtain ⟨cs, rfl, hc9⟩ := hv9
   have hlc9 := hc9.len
   have HC := hid hc9; clear hc9
   have HLC := hid hlc9; clear hlc9
   have hi0 : (Tryz.prog.info? 39).map (·.size) = some cs.length := by rw [HLC.out]; exact Tryz.infoFold7
   have hi1 : (Tryz.prog.info? 39).map (·.size) = some cs.toArray.size := by rw [List.size_toArray, HLC.out]; exact Tryz.infoFold7
   have hone1 := all_oneCell_toArray HC.out.one
   clear h hk
   have hth : (k61.alloc (.cells z38.toArray 39)).there k61.heap.size 0 cs.toArray.size := (Rb.new k61 _ z38).there (by rw [List.size_toArray, HLC.out, z38_len]; omega)
   go_upto_region 11 with (first | (refine wpList_alloc7 rfl 39 rfl z38 (by kernel_rfl) ?_) | (refine wpList_store_mid rfl 39 _ _ rfl k61.heap.size 0 cs.toArray rfl rfl hth hi1 hone1 ?_))
   clear hth
   try simp only [List.toList_toArray]
   refine wp_world (fun W => Rb W k61.heap.size 39 cs ∧ Below k61.heap.size k61 W) ⟨Rb.whole (Rb.new k61 _ z38) (by rw [HLC.out, z38_len]), below_sets (Nat.le_refl _) _ _ _ (below_one _ _)⟩ ?_
   rintro k62 ⟨hr9, hk⟩
   replace HD := hid (Fd.below HD.out hk)
   replace HBl := hid (OwnBt.below HBl.out hk)
   replace HC := hid (FoC.below HC.out hk)
   replace hb : Below w.heap.size w k62 := hb.trans (hk.mono (by first | exact hb.size | omega))
   have hkz9 := hk.size
   clear hk
   obtain ⟨gHR, hg9⟩ : ∃ g, k61.heap.size = g := ⟨_, rfl⟩
   rw [hg9] at hr9 ⊢
   have hlowHR : k61.heap.size ≤ gHR := by omega
   have HR := hid hr9; clear hr9 hg9
   have hltHR := Rb.lt HR.out
   obtain ⟨f, hfl⟩ : ∃ f, allF l = f := ⟨_, rfl⟩
   have hsm := allF_small l
   rw [hfl] at HD HC hsm
   clear hfl
   have hl15 : (l.length : Int) ≤ 15 := by omega
   go_wp2_with fail
   refine (fdoc_is w.heap.size _ f _ HD.out (by have := hb.size; omega)).mono ?_
   rintro e k63 ⟨gq, rfl, ⟨hq, hql⟩, h5⟩
   have hbk : Below w.heap.size w k63 := hb.trans (h5.mono hb.size)
   go_wp2_with fail
   refine (lapplyG w.heap.size gq _ _ f.d a1 _ hq (HA1.out.keep hbk (Nat.le_refl _)) hbk.size HF1.out).mono ?_
   rintro e k64 ⟨ke, rfl, hgr⟩
   have hk : Below k62.heap.size k62 k64 := Below.grown h5 hgr h5.size (fun k e => by injection e with e; omega)
   clear hbk hgr hq hql h5
   replace HD := hid (Fd.below HD.out hk)
   replace HBl := hid (OwnBt.below HBl.out hk)
   replace HC := hid (FoC.below HC.out hk)
   replace HR := hid (Rb.below HR.out hk)
   replace hb : Below w.heap.size w k64 := hb.trans (hk.mono (by first | exact hb.size | omega))
   have hkz8 := hk.size
   clear hk
   go_wp2_with fail
   refine (fcopy_is w.heap.size _ f _ (Fd.below HD.out BL9) (by have := hb.size; first | exact hb.size | omega | (simp; omega))).mono ?_
   rintro e k65 ⟨gc, rfl, ⟨hcp, hcl⟩, h⟩
   have hk : Below k64.heap.size k64 k65 := HK9 h
   have hz := h.size
   try simp at hz
   replace HD := hid (Fd.below HD.out hk)
   replace HBl := hid (OwnBt.below HBl.out hk)
   replace HC := hid (FoC.below HC.out hk)
   replace HR := hid (Rb.below HR.out hk)
   replace hb : Below w.heap.size w k65 := hb.trans (hk.mono hb.size)
   clear h hk
   have HCP := hid hcp
   have hltHCP : gc < k65.heap.size := HCP.out.lt
   clear hcp
   obtain ⟨L, hL⟩ : ∃ L, f.last 5 = L := ⟨_, rfl⟩
   have hL0 := HD.out.good.last_le 5
   have hL1 := hsm.2 5
   rw [hL] at hL0 hL1
   have hLn := nextX (f := f) hL hL0.1 (by omega)
   have hst := (stepX hLn)
   obtain ⟨f3, hf3⟩ : ∃ f3, stepF f ⟨5, L + 1, [oX]⟩ = f3 := ⟨_, rfl⟩
   rw [hf3] at hst
   have hok9 : Bat.ok ⟨5, L + 1, [oX]⟩ := ⟨⟨by show (-9223372036854775808 : Int) ≤ 5; decide, by show (5 : Int) ≤ 9223372036854775807; decide⟩, ⟨by show _ ≤ L + 1; omega, by show L + 1 ≤ _; omega⟩, oX_ok⟩
   obtain ⟨⟨rp, ⟨rc, rq, ro⟩, re⟩, hrw⟩ : ∃ r, rowF f ⟨5, L + 1, [oX]⟩ = r := ⟨_, rfl⟩
   have hwL : IntKind.i64.wrap (L + 1) = L + 1 := by rw [IntKind.wrap_i64]; omega
   have hpf : f.place ≤ 1000000000000000 := by have := hsm.1; omega
   have HL := hid hL; clear hL
   have HN := hid hLn; clear hLn
   have HF3 := hid hf3; clear hf3
   have HST := hid hst; clear hst
   have HRW := hid hrw; clear hrw
   have HOKX := hid hok9; clear hok9
   go_wp2_with fail
   refine (fLast_is w.heap.size _ f 5 L _ (Fd.below HCP.out BL9) HL.out).mono ?_
   rintro e k66 ⟨rfl, h⟩
   have hk : Below k65.heap.size k65 k66 := HK9 h
   have hz := h.size
   try simp at hz
   replace HD := hid (Fd.below HD.out hk)
   replace HBl := hid (OwnBt.below HBl.out hk)
   replace HC := hid (FoC.below HC.out hk)
   replace HR := hid (Rb.below HR.out hk)
   replace HCP := hid (Fd.below HCP.out hk)
   replace hb : Below w.heap.size w k66 := hb.trans (hk.mono hb.size)
   clear h hk
   go_wp2_with fail
   refine (fnext_to w.heap.size gc _ _ f f3 5 (L + 1) [oX] true rp rc rq re ro _ (Fd.below HCP.out BL9) (d_ops_one _ _ _ oX (d_range9 (a := .int .i64 2) (b := .string ⟨#[120]⟩) (c := .int .i64 0) (d := .int .i64 0) (e := .string ⟨#[]⟩) (f := .int .i64 0) (h := .int .i64 0) (i := .string ⟨#[]⟩) (j := .int .i64 0) (by go_simp) (by go_simp) (by go_simp) (by go_simp) (by go_simp) (by go_simp) (by go_simp) (by go_simp) (by go_simp)) (Nat.lt_succ_self _)) LT9 HOKX.out hpf HN.out HF3.out HRW.out).mono ?_
   rintro e k67 ⟨A7, c7, rfl, ⟨ho9, hd9⟩, hgr⟩
   have hz9 := hgr.size
   try simp at hz9
   replace hb : Below w.heap.size w k67 := Fd.frame (w0 := w) (hb := hgr) (h := Fd.below HCP.out BL9) (h0 := (BB9 hb)) (hB := by have := hb.size; first | omega | (simp; omega))
   replace HD := hid (Fd.grown (hb := hgr) (h := Fd.below HD.out BL9) (h2 := Fd.below HCP.out BL9) (hne := (by omega)))
   replace HR := hid (rb_turn (hb := hgr) (h := Rb.below HR.out BL9) (hd := Fd.below HCP.out BL9) (hne := (by omega)))
   replace HBl := hid (OwnBt.turn (hb := hgr) (h := OwnBt.below HBl.out BL9) (hd := Fd.below HCP.out BL9))
   replace HC := hid (FoC.turn (hb := hgr) (h := FoC.below HC.out BL9) (hd := Fd.below HCP.out BL9))
   replace HCP := hid hd9
   clear hd9
   clear ho9
   clear hgr
   obtain ⟨p, hp⟩ : ∃ p, f.place = p := ⟨_, rfl⟩
   have hp3 : f3.place = p + 1 := by rw [HST.out, hp]
   have hne3 : ¬ f3.place = f.place := by omega
   have hwp : IntKind.i64.wrap (p + 1) = p + 1 := by rw [IntKind.wrap_i64]; have := hsm.1; have := HD.out.good.place; omega
   have HP := hid hp; clear hp
   have HP3 := hid hp3; clear hp3
   have HNE := hid hne3; clear hne3
   have hrg5 := HR.out.range
   go_wp2_with (refine wpList_load_mid rfl 39 _ rfl gHR 0 rfl cs _ hrg5 Tryz.underlying39 rfl hi0 ?_)
   clear hrg5
   refine (lsame7_is w.heap.size _ gd cs f _ (Fd.below HD.out BL9) (FoC.below HC.out BL9) hb.size (Nat.le_refl _)).mono ?_
   rintro e k68 ⟨rfl, h⟩
   have hk : Below k67.heap.size k67 k68 := HK9 h
   have hz := h.size
   try simp at hz
   replace HD := hid (Fd.below HD.out hk)
   replace HR := hid (Rb.below HR.out hk)
   replace HCP := hid (Fd.below HCP.out hk)
   replace HBl := hid (OwnBt.below HBl.out hk)
   replace HC := hid (FoC.below HC.out hk)
   replace hb : Below w.heap.size w k68 := hb.trans (hk.mono hb.size)
   clear h hk
   go_wp2_with fail
   refine (fplace_to w.heap.size gc f3 (p + 1) _ (Fd.below HCP.out BL9) HP3.out).mono ?_
   rintro e k69 ⟨rfl, h⟩
   have hk : Below k68.heap.size k68 k69 := HK9 h
   have hz := h.size
   try simp at hz
   replace HD := hid (Fd.below HD.out hk)
   replace HR := hid (Rb.below HR.out hk)
   replace HCP := hid (Fd.below HCP.out hk)
   replace HBl := hid (OwnBt.below HBl.out hk)
   replace HC := hid (FoC.below HC.out hk)
   replace hb : Below w.heap.size w k69 := hb.trans (hk.mono hb.size)
   clear h hk
   go_wp2_with fail
   refine (fplace_to w.heap.size gd f p _ (Fd.below HD.out BL9) HP.out).mono ?_
   rintro e k70 ⟨rfl, h⟩
   have hk : Below k69.heap.size k69 k70 := HK9 h
   have hz := h.size
   try simp at hz
   replace HD := hid (Fd.below HD.out hk)
   replace HR := hid (Rb.below HR.out hk)
   replace HCP := hid (Fd.below HCP.out hk)
   replace HBl := hid (OwnBt.below HBl.out hk)
   replace HC := hid (FoC.below HC.out hk)
   replace hb : Below w.heap.size w k70 := hb.trans (hk.mono hb.size)
   clear h hk
   go_wp2_with fail
   refine (feq_place w.heap.size w.heap.size gc gd f3 f _ (Fd.below HCP.out BL9) (Fd.below HD.out BL9) HNE.out).mono ?_
   rintro e k71 ⟨rfl, h⟩
   have hk : Below k70.heap.size k70 k71 := HK9 h
   have hz := h.size
   try simp at hz
   replace HD := hid (Fd.below HD.out hk)
   replace HR := hid (Rb.below HR.out hk)
   replace HCP := hid (Fd.below HCP.out hk)
   replace HBl := hid (OwnBt.below HBl.out hk)
   replace HC := hid (FoC.below HC.out hk)
   replace hb : Below w.heap.size w k71 := hb.trans (hk.mono hb.size)
   clear h hk
   go_wp2_with fail
   refine (fcopy_is w.heap.size gd f _ (Fd.below HD.out BL9) (by have := hb.size; first | exact hb.size | omega | (simp; omega))).mono ?_
   rintro e k72 ⟨ge, rfl, ⟨hcp2, hcl2⟩, h⟩
   have hk : Below k71.heap.size k71 k72 := HK9 h
   have hz := h.size
   try simp at hz
   replace HD := hid (Fd.below HD.out hk)
   replace HR := hid (Rb.below HR.out hk)
   replace HCP := hid (Fd.below HCP.out hk)
   replace HBl := hid (OwnBt.below HBl.out hk)
   replace HC := hid (FoC.below HC.out hk)
   replace hb : Below w.heap.size w k72 := hb.trans (hk.mono hb.size)
   clear h hk
   have HCQ := hid hcp2
   have hltHCQ : ge < k72.heap.size := HCQ.out.lt
   clear hcp2
   go_wp2_with fail
   refine (feq_same w.heap.size w.heap.size ge gd f _ (Fd.below HCQ.out BL9) (Fd.below HD.out BL9)).mono ?_
   rintro e k73 ⟨rfl, h⟩
   have hk : Below k72.heap.size k72 k73 := HK9 h
   have hz := h.size
   try simp at hz
   replace HD := hid (Fd.below HD.out hk)
   replace HR := hid (Rb.below HR.out hk)
   replace HCP := hid (Fd.below HCP.out hk)
   replace HBl := hid (OwnBt.below HBl.out hk)
   replace HC := hid (FoC.below HC.out hk)
   replace HCQ := hid (Fd.below HCQ.out hk)
   replace hb : Below w.heap.size w k73 := hb.trans (hk.mono hb.size)
   clear h hk
   go_wp2
   go_ret
   exact ⟨rfl, hb⟩
set_option maxRecDepth 100000 in
theorem lifted (os : Os) (started : os.Started) (H : Type) (enc : TypeId × Value → H) :
  ReturnsInHanded {} Tryz.checked os 5 .any (Rows.foldOwnSpec.pre6 enc Tryz.prog Tryz.f5 Rows.foldOwnRow.domain false) (Rows.foldOwnSpec.post enc Tryz.prog Tryz.f5 false true false false) := by
 refine returnsInHanded_of_change (C := Tryz.checked) own started (by kernel_rfl) Tryz.func5
  (ChangeSpec.witness6 (enc := enc) (C := Tryz.checked) false ⟨#[], #[.slice none 0 0, .slice none 0 0], []⟩ 8 (by kernel_rfl) (by kernel_rfl) (by kernel_rfl) (by kernel_rfl)) ?_
 intro W base args ds gs before hval0 hW hcnd _
 have hval : ∀ (j : Nat) t v, Tryz.f5.params[j]? = some t → args[j]? = some v → Value.okWide Tryz.prog W .any base t v := hval0
 have hW' := hW
 obtain ⟨p, q, hA0, hV, rfl, hfz, hnd⟩ := hW
 have hA : DataW.TrodAll enc Tryz.prog W 0 (fun _ => true) true Tryz.f5.params.toList args.toList ds p := hA0
 have hA1 := hA
 rw [Tryz.params5] at hA hval
 obtain ⟨v0, vs0, d0, ds0, p0, q0, hargs, rfl, rfl, h0, r0⟩ := trodAll_cons hA
 obtain ⟨v1, vs1, d1, ds1, p1, q1, rfl, rfl, rfl, h1, r1⟩ := trodAll_cons r0
 obtain ⟨rfl, rfl, rfl⟩ := trodAll_nil r1
 obtain rfl : args = #[v0, v1] := by cases args; simp_all
 obtain ⟨rfl, rfl⟩ := trodVars_none hV
 obtain ⟨A0, c0, a0, rfl, w0, x0⟩ := open_bats (hval 0 22 v0 rfl rfl) h0
 obtain ⟨A1, c1, a1, rfl, w1, x1⟩ := open_opns (hval 1 31 v1 rfl rfl) h1
 clear hA0 hval0
 simp only [List.append_nil] at hW'
 try simp only [List.append_nil] at hA1
 refine (walk W A0 c0 a0 w0 x0 A1 c1 a1 w1 x1).mono fun e W' ⟨he, hg⟩ => ?_
 subst he
 exact ⟨_, rfl, law_end Tryz.laidOut (by kernel_rfl) hW' hA1 hg rfl rfl rfl (trodAll_mk1 (shut_bool Tryz.underlying4 _))⟩
theorem over : Rows.foldOwnRow.holds Tryz.pinned (OpenSpec.ofChange Rows.foldOwnSpec) :=
 OpenClaim.holds_of_wide 5 Tryz.f5 rfl rfl rfl rfl rfl rfl rfl ⟨rfl, rfl, rfl, rfl, rfl⟩ rfl rfl rfl rfl rfl (by kernel_rfl) Tryz.func5 (by kernel_rfl)
  (of_decide_eq_true (by kernel_rfl)) (by unfold Func.isWrapper; first | (rw [if_pos (by decide +kernel)]; kernel_rfl) | (rw [if_neg (by decide +kernel)]; exact ⟨rfl, rfl⟩))
  (fun os started H enc _ => lifted os started H enc)
theorem proved : Rows.FoldOwnSaid := over
#print axioms proved
end Go.Proofs.YtegkhkcnoahhdaaGreat.foldOwn
