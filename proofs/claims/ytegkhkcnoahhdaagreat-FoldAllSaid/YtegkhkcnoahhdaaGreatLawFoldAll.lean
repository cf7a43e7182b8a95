/- Batches come one behind the other: whose number is next counts, with what came of it; others are nothing. There are no conditions. -/
import Derived.Test.YtegkhkcnoahhdaaGreatRows
import Derived.Test.YtegkhkcnoahhdaaGreatL7Same
set_option linter.unusedSimpArgs false
set_option linter.unusedVariables false
namespace Go.Proofs.YtegkhkcnoahhdaaGreat.foldAll
open Lib (hid)
open Go.ChangeShapes Go.WideShapes Go.ChangeAt Go.RowKit
open Go.ChangeMaps (open_string shut_string)
set_option linter.unusedVariables false
theorem own : ownKnob Tryz.prog.godebug = none := by kernel_rfl
set_option maxRecDepth 100000 in
set_option maxHeartbeats 8000000 in
theorem walk (w : World) (A0 : Option Addr) (c0 : Nat) (a0 : List Bat) (w0 : Bats w w.heap.size (.slice A0 a0.length c0) a0) (x0 : ∀ b ∈ a0, b.fit) :
  Calls Tryz.prog 3 #[.slice A0 a0.length c0] w fun e w' => e = .returned (.bool true) ∧ Below w.heap.size w w' := by
 have HA0 := hid w0; clear w0
 have HF0 := hid x0; clear x0
 have hb := Below.refl w.heap.size w
 go_enter Tryz.func3, Tryz.ntmps3
 go_wp2_with fail
 refine (begun7_any _).mono ?_
 rintro e k1 ⟨rfl, h⟩
 have hk : Below w.heap.size w k1 := HK9 h
 have hz := h.size
 try simp at hz
 replace hb : Below w.heap.size w k1 := hb.trans (hk.mono hb.size)
 clear h hk
 go_wp2_with fail
 refine (lbatches_is w.heap.size w.heap.size 40 _ _ a0 _ (HA0.out.keep (BB9 hb) (Nat.le_refl _)) (by have := hb.size; first | exact hb.size | omega | (simp; omega)) (by have := hb.size; first | exact hb.size | omega | (simp; omega)) HF0.out (by omega)).mono ?_
 rintro e k2 ⟨Al, cl, l, rfl, ⟨ho9, hll, hok9⟩, h⟩
 have hk : Below k1.heap.size k1 k2 := HK9 h
 have hz := h.size
 try simp at hz
 replace hb : Below w.heap.size w k2 := hb.trans (hk.mono hb.size)
 have HBl := hid ho9; clear ho9
 have HKl := hid hok9; clear hok9
 clear h hk
 go_wp2_with fail
 refine (fnew_is w.heap.size _ (by have := hb.size; first | omega | exact Nat.le_refl _ | (simp; omega))).mono ?_
 rintro e k3 ⟨rfl, hd9, h⟩
 have hk : Below k2.heap.size k2 k3 := HK9 h
 have hz := h.size
 try simp at hz
 replace HBl := hid (OwnBt.below HBl.out hk)
 replace hb : Below w.heap.size w k3 := hb.trans (hk.mono hb.size)
 clear h hk
 have HD := hid hd9; clear hd9
 have hltHD : k2.heap.size < k3.heap.size := HD.out.lt
 go_upto_region 6 with fail
 have hth : (k3.alloc (.cells z38.toArray 39)).there k3.heap.size 0 z38.toArray.size := (Rb.new k3 _ z38).there (by simp)
 have hi38 : (Tryz.prog.info? 39).map (·.size) = some z38.toArray.size := Tryz.infoFold7
 have hone38 : z38.toArray.all (·.oneCell') = true := all_oneCell_toArray z38_one
 refine wp_region_lit ?_
 refine wpList_buildTo rfl 39 #[] rfl _ rfl z38.toArray (by kernel_rfl) ?_
 refine Great.wpList_allocTo rfl _ rfl (.pointer (some ⟨k3.heap.size, 0, none⟩)) (.cells z38.toArray 39) (by kernel_rfl) ?_
 refine wpList_store_mid rfl 39 _ _ rfl k3.heap.size 0 z38.toArray rfl rfl hth hi38 hone38 ?_
 refine wpList_nil ?_
 simp only [Act.put, List.setIfInBounds_toArray, List.set_cons_zero, List.set_cons_succ]
 refine body_worldx (fun W => Rb W k3.heap.size 39 z38 ∧ Below k3.heap.size k3 W) ⟨Rb.whole (Rb.new k3 _ z38) rfl, below_sets (Nat.le_refl _) _ _ _ (below_one _ _)⟩ ?_
 clear hth hi38 hone38
 rintro k4 ⟨hr9, hk⟩
 replace HBl := hid (OwnBt.below HBl.out hk)
 replace HD := hid (Fd.below HD.out hk)
 replace hb : Below w.heap.size w k4 := hb.trans (hk.mono (by first | exact hb.size | omega))
 have hkz := hk.size
 clear hk
 obtain ⟨gHR, hg9⟩ : ∃ g, k3.heap.size = g := ⟨_, rfl⟩
 rw [hg9] at hr9 ⊢
 have hgHR : w.heap.size ≤ gHR := by have := hb.size; have := Rb.lt hr9; omega
 have hlowHR : k3.heap.size ≤ gHR := by omega
 have HR := hid hr9; clear hr9 hg9
 have hltHR := Rb.lt HR.out
 obtain ⟨gd, hgd9⟩ : ∃ g, k2.heap.size = g := ⟨_, rfl⟩
 rw [hgd9] at HD ⊢
 have hdR : gd < gHR := by omega
 have hwd : w.heap.size ≤ gd := HD.out.lo
 clear hgd9
 go_wp2_with fail
 go_loopw [6] (fun i wr => ∃ (k : Nat) (f : Fo) (cs : List Value), i = .int .i64 k ∧ k ≤ l.length ∧ Fd wr w.heap.size gd f ∧ Rb wr gHR 39 cs ∧ FoC wr wr.heap.size cs f ∧ f.place ≤ k ∧ OwnBt w.heap.size (.slice Al l.length cl) l wr ∧ Below w.heap.size w wr) (fun i _ => l.length - (intOf i).toNat)
 case atStart => exact ⟨0, fo0, z38, rfl, Nat.zero_le _, HD.out, HR.out, foC_zero _ _, by decide, HBl.out, hb⟩
 case round =>
  clear HD HR HBl hb hltHR
  obtain ⟨k, f, cs, rfl, hk, hd, hr, hc, hpl, hbl, hb⟩ := hrel
  have hlen9 := hc.len
  have HLC := hid hlen9; clear hlen9
  have HG := hid hd.good
  have HD := hid hd; clear hd
  have HR := hid hr; clear hr
  have HC := hid hc; clear hc
  have HBl := hid hbl; clear hbl
  have hltD := HD.out.lt
  have hltHR := HR.out.lt
  by_cases hkl : k < l.length
  ·obtain ⟨g, Ak, ck, rfl, hga, hr9, hops⟩ := HBl.out.at_ k hkl
   have hok9 := HKl.out l[k] (List.getElem_mem ..)
   obtain ⟨b, hbe⟩ : ∃ b, l[k] = b := ⟨_, rfl⟩
   rw [hbe] at hr9 hops hok9
   clear hbe
   obtain ⟨bc, bq, bo⟩ := b
   simp only at hr9 hops hok9
   have HRG := hid hr9; clear hr9
   have HOP := hid hops; clear hops
   have HOK := hid hok9; clear hok9
   have hki : (k : Int) < (l.length : Int) := by omega
   have hne1 : g ≠ gd := HBl.out.ne_fold HD.out
   have hne2 : g ≠ gHR := HBl.out.ne_rb HR.out (by decide)
   have hgl : g < wr.heap.size := hga
   obtain ⟨y, hy⟩ : ∃ y, nextB f ⟨bc, bq, bo⟩ = y := ⟨_, rfl⟩
   obtain ⟨f2, hst⟩ : ∃ f2, stepF f ⟨bc, bq, bo⟩ = f2 := ⟨_, rfl⟩
   obtain ⟨⟨rp, ⟨rc, rq, ro⟩, re⟩, hrw⟩ : ∃ r, rowF f ⟨bc, bq, bo⟩ = r := ⟨_, rfl⟩
   have hp9 : f.place ≤ 1000000000000000 := by omega
   have hg2 : FoG f2 := by rw [← hst]; exact stepF_good HG.out HOK.out.1 hp9
   have hp2 : f2.place ≤ f.place + 1 := by have := stepF_place f ⟨bc, bq, bo⟩; rw [hst] at this; omega
   have hro : ro.length ≤ 1000000 := by
    have h1 := rowF_few f ⟨bc, bq, bo⟩
    rw [hrw] at h1
    have h2 := HOK.out.2
    simp only at h1
    omega
   have HST := hid hst; clear hst
   have HY := hid hy; clear hy
   have HRW := hid hrw; clear hrw
   have HG2 := hid hg2; clear hg2
   have hi3 : (Tryz.prog.info? 33).map (·.size) = some 3 := by kernel_rfl
   have hrg9 := HRG.out
   go_wp2_with (refine wpList_load_mid rfl 33 _ rfl g (k * 3) rfl [.int .i64 bc, .int .i64 bq, .slice Ak bo.length ck] _ hrg9 Tryz.underlying33 rfl hi3 ?_)
   clear hrg9
   refine (fnext_to w.heap.size gd _ _ f f2 bc bq bo y rp rc rq re ro _ (Fd.below HD.out BL9) (Ops.of_own (ownsRow_below HOP.out BL9)) (Nat.le_refl _) HOK.out.1 hp9 HY.out HST.out HRW.out).mono ?_
   rintro e k21 ⟨A1, c1, rfl, ⟨ho9, hd9⟩, hgr⟩
   have hz9 := hgr.size
   try simp at hz9
   replace hb : Below w.heap.size w k21 := Fd.frame (w0 := w) (hb := hgr) (h := Fd.below HD.out BL9) (h0 := (BB9 hb)) (hB := by have := hb.size; first | omega | (simp; omega))
   replace HR := hid (rb_turn (hb := hgr) (h := Rb.below HR.out BL9) (hd := Fd.below HD.out BL9) (hne := (by omega)))
   replace HOP := hid (own_turn (hb := hgr) (h := ownsRow_below HOP.out BL9) (hd := Fd.below HD.out BL9) (hne := by decide))
   replace HC := hid (FoC.turn (hb := hgr) (h := FoC.below HC.out BL9) (hd := Fd.below HD.out BL9))
   replace HBl := hid (OwnBt.turn (hb := hgr) (h := OwnBt.below HBl.out BL9) (hd := Fd.below HD.out BL9))
   replace HRG := hid (rng_turn (hb := hgr) (h := range_below (C := wr.heap.size) HRG.out BL9 LT9) (hne := (by omega)) (hl := LT9))
   replace HD := hid hd9
   clear hd9
   have HO1 := hid ho9; clear ho9
   clear hgr
   go_upto_region 11 with fail
   refine wp_world (fun W => Rb W k21.heap.size 36 [.int .i64 rp, .int .i64 rc, .int .i64 rq, .slice A1 ro.length c1, .int .i64 re] ∧ Below k21.heap.size k21 W) ⟨by exact Rb.new _ _ _, by exact below_one _ _⟩ ?_
   rintro k22 ⟨hr9, hk⟩
   replace HD := hid (Fd.below HD.out hk)
   replace HR := hid (Rb.below HR.out hk)
   replace HOP := hid (ownsRow_below HOP.out hk)
   replace HC := hid (FoC.below HC.out hk)
   replace HBl := hid (OwnBt.below HBl.out hk)
   replace HRG := hid (range_below HRG.out hk LT9)
   replace HO1 := hid (Ops.more (Ops.keep HO1.out hk (Nat.le_refl _)) (Below.size hk))
   replace hb : Below w.heap.size w k22 := hb.trans (hk.mono (by first | exact hb.size | omega))
   have hkz9 := hk.size
   clear hk
   obtain ⟨gHW1, hg9⟩ : ∃ g, k21.heap.size = g := ⟨_, rfl⟩
   rw [hg9] at hr9 ⊢
   have hlowHW1 : k21.heap.size ≤ gHW1 := by omega
   have HW1 := hid hr9; clear hr9 hg9
   have hltHW1 := Rb.lt HW1.out
   go_upto_region 11 with fail
   have hi0 : (Tryz.prog.info? 39).map (·.size) = some cs.length := by rw [HLC.out]; exact Tryz.infoFold7
   refine wp_meetx (fun a b W => ∃ cs2 A9 c9 GB WB, b = (((((((((((((a.put (some 35) (.agg cs.toArray)).put (some 36) (.slice (some ⟨g, 0, none⟩) l.length cl)).put (some 37) (.int .i64 k)).put (some 38) (.pointer (some ⟨g, k * 3, none⟩))).put (some 39) (.agg #[.int .i64 bc, .int .i64 bq, .slice Ak bo.length ck])).put (some 40) (.tuple #[.agg cs2.toArray, .agg #[.int .i64 rp, .int .i64 rc, .int .i64 rq, .slice A9 ro.length c9, .int .i64 re], .bool y])).put (some 34) (.tuple #[.agg cs2.toArray, .agg #[.int .i64 rp, .int .i64 rc, .int .i64 rq, .slice A9 ro.length c9, .int .i64 re], .bool y])).put (some 41) (.agg cs2.toArray)).put (some 42) (.agg #[.int .i64 rp, .int .i64 rc, .int .i64 rq, .slice A9 ro.length c9, .int .i64 re])).put (some 43) (.bool y)).put (some 9) (.pointer (some ⟨GB, 0, none⟩))).put (some 10) (.pointer (some ⟨WB, 0, none⟩))).put (some 11) (.bool y)) ∧ Fd W w.heap.size gd f2 ∧ Rb W gHR 39 cs ∧ OwnBt w.heap.size (.slice (some ⟨g, 0, none⟩) l.length cl) l W ∧ Ops W W.heap.size (.slice A1 ro.length c1) ro ∧ Rb W gHW1 36 [.int .i64 rp, .int .i64 rc, .int .i64 rq, .slice A1 ro.length c1, .int .i64 re] ∧ FoC W W.heap.size cs2 f2 ∧ Ops W W.heap.size (.slice A9 ro.length c9) ro ∧ Rb W GB 39 cs2 ∧ Rb W WB 36 [.int .i64 rp, .int .i64 rc, .int .i64 rq, .slice A9 ro.length c9, .int .i64 re] ∧ k22.heap.size ≤ GB ∧ k22.heap.size ≤ WB ∧ Below w.heap.size w W ∧ GB ≠ WB ∧ k22.heap.size ≤ W.heap.size) ?_ ?_
   ·replace HD := hid (Fd.below HD.out ((Below.refl k22.heap.size k22).drew))
    replace HR := hid (Rb.below HR.out ((Below.refl k22.heap.size k22).drew))
    replace HOP := hid (ownsRow_below HOP.out ((Below.refl k22.heap.size k22).drew))
    replace HC := hid (FoC.below HC.out ((Below.refl k22.heap.size k22).drew))
    replace HBl := hid (OwnBt.below HBl.out ((Below.refl k22.heap.size k22).drew))
    replace HRG := hid (range_below HRG.out ((Below.refl k22.heap.size k22).drew) LT9)
    replace HO1 := hid (Ops.more (Ops.keep HO1.out ((Below.refl k22.heap.size k22).drew) (Nat.le_refl _)) (Below.size ((Below.refl k22.heap.size k22).drew)))
    replace HW1 := hid (Rb.below HW1.out ((Below.refl k22.heap.size k22).drew))
    have m1 : Rb k22.drew gHR 39 cs := HR.out
    have m2 : k22.drew.rangeAt g (k * 3) [.int .i64 bc, .int .i64 bq, .slice Ak bo.length ck] := HRG.out
    refine wp_region_noPanic ?_
    refine wp_region_held_drew (S := fun W => Rb W gHR 39 cs ∧ W.rangeAt g (k * 3) [.int .i64 bc, .int .i64 bq, .slice Ak bo.length ck]) (by kernel_rfl) ?_ (fun hHeld => ?_)
    ·exact ⟨m1, m2⟩
    replace hb : Below w.heap.size w k22.drew := hb.drew
    have hzd : k22.heap.size ≤ k22.drew.heap.size := Nat.le_refl _
    generalize k22.drew = k23 at *
    refine tk8 (i := 0) (oi := { dst := some 35, op := Op.load 39 (Operand.tmp 5), type := 39, pos := "law.go:67", after := #[], guard := none }) (v := .agg cs.toArray) (yieldsIf_load_mid (by rfl) 39 _ rfl gHR 0 rfl cs _ (fun w h => h.1.range) Tryz.underlying39 rfl hi0) ?_
    try simp only [P9]
    refine tk9 1 (.slice (some ⟨g, 0, none⟩) l.length cl) rfl (fun w hSw => ?_) ?_
    ·(try dsimp only at hSw)
     go_simp
    try simp only [P9]
    refine tk9 2 (.int .i64 k) rfl (fun w hSw => ?_) ?_
    ·(try dsimp only at hSw)
     go_simp
    try simp only [P9]
    refine tk9 3 (.pointer (some ⟨g, k * 3, none⟩)) rfl (fun w hSw => ?_) ?_
    ·(try dsimp only at hSw)
     go_simp
    try simp only [P9]
    refine tk8 (i := 4) (oi := { dst := some 39, op := Op.load 33 (Operand.tmp 38), type := 33, pos := "law.go:67", after := #[{ on := 3, ground := Ground.data }], guard := none }) (v := .agg #[.int .i64 bc, .int .i64 bq, .slice Ak bo.length ck]) (yieldsIf_load_mid (by rfl) 33 _ rfl g (k * 3) rfl [.int .i64 bc, .int .i64 bq, .slice Ak bo.length ck] _ (fun w h => h.2) Tryz.underlying33 rfl hi3) ?_
    try simp only [P9]
    refine wpAnyH_ready (rs := [5, 10, 11]) (by kernel_rfl) (by simp) ?_
    refine AllReadyH.cons (o := _) rfl (fun K hK => ?_) (AllReadyH.cons (o := _) rfl (fun K hK => ?_) (AllReadyH.cons (o := _) rfl (fun K hK => ?_) (AllReadyH.nil)))
    ·go_simp
     go_at_call 10
     refine (rnext_to _ _ cs f f2 bc bq bo _ y rp rc rq re ro _ HC.out (Nat.le_refl _) (Ops.of_own HOP.out) (Nat.le_refl _) HOK.out.1 (by have := HOK.out.2; omega) HG.out hp9 HY.out HST.out HRW.out).mono ?_
     rintro e k24 ⟨cs2, A9, c9, rfl, ⟨hc2, ho9⟩, h⟩
     have hk : Below k23.heap.size k23 k24 := HK9 h
     have hz := h.size
     try simp at hz
     replace HD := hid (Fd.below HD.out hk)
     replace HR := hid (Rb.below HR.out hk)
     replace HOP := hid (ownsRow_below HOP.out hk)
     replace HC := hid (FoC.below HC.out hk)
     replace HBl := hid (OwnBt.below HBl.out hk)
     replace HRG := hid (range_below HRG.out hk LT9)
     replace HO1 := hid (Ops.more (Ops.keep HO1.out hk (Nat.le_refl _)) (Below.size hk))
     replace HW1 := hid (Rb.below HW1.out hk)
     replace hb : Below w.heap.size w k24 := hb.trans (hk.mono hb.size)
     have HC2 := hid hc2; clear hc2
     have HO2 := hid ho9; clear ho9
     have hlc2 := HC2.out.len
     have HLC2 := hid hlc2; clear hlc2
     have hi2 : (Tryz.prog.info? 39).map (·.size) = some cs2.toArray.size := by rw [List.size_toArray, HLC2.out]; exact Tryz.infoFold7
     have hone2 := all_oneCell_toArray HC2.out.one
     clear h hk
     have m1 : Rb k24 gHR 39 cs := HR.out
     have m2 : k24.rangeAt g (k * 3) [.int .i64 bc, .int .i64 bq, .slice Ak bo.length ck] := HRG.out
     try dsimp only
     refine hK.out _ _ ?_ (fun hHeld => ?_)
     ·exact ⟨m1, m2⟩
     clear hK K
     try simp only [P9]
     refine tk9 6 (.tuple #[.agg cs2.toArray, .agg #[.int .i64 rp, .int .i64 rc, .int .i64 rq, .slice A9 ro.length c9, .int .i64 re], .bool y]) rfl (fun w hSw => ?_) ?_
     ·(try dsimp only at hSw)
      go_simp
     try simp only [P9]
     refine tk9 7 (.agg cs2.toArray) rfl (fun w hSw => ?_) ?_
     ·(try dsimp only at hSw)
      go_simp
     try simp only [P9]
     refine tk9 8 (.agg #[.int .i64 rp, .int .i64 rc, .int .i64 rq, .slice A9 ro.length c9, .int .i64 re]) rfl (fun w hSw => ?_) ?_
     ·(try dsimp only at hSw)
      go_simp
     try simp only [P9]
     refine tk9 9 (.bool y) rfl (fun w hSw => ?_) ?_
     ·(try dsimp only at hSw)
      go_simp
     try simp only [P9]
     refine wpAnyH_ready (rs := [10, 11]) (by kernel_rfl) (by simp) ?_
     refine AllReadyH.cons (o := _) rfl (fun K hK => ?_) (AllReadyH.cons (o := _) rfl (fun K hK => ?_) (AllReadyH.nil))
     ·rw [if_pos (by rfl)]
      refine wp_alloc7 39 z38 (by kernel_rfl) ?_
      obtain ⟨k25, hk9⟩ : ∃ x, k24.alloc (.cells (z38).toArray 39) = x := ⟨_, rfl⟩
      have hnew9 : Rb k25 k24.heap.size 39 z38 := by rw [← hk9]; exact Rb.new _ _ _
      have hk : Below k24.heap.size k24 k25 := by rw [← hk9]; exact below_one _ _
      have hzk25 : k24.heap.size < k25.heap.size := by rw [← hk9]; simp
      rw [hk9]
      clear hk9
      replace HD := hid (Fd.below HD.out hk)
      replace HR := hid (Rb.below HR.out hk)
      replace HOP := hid (ownsRow_below HOP.out hk)
      replace HC := hid (FoC.below HC.out hk)
      replace HBl := hid (OwnBt.below HBl.out hk)
      replace HRG := hid (range_below HRG.out hk LT9)
      replace HO1 := hid (Ops.more (Ops.keep HO1.out hk (Nat.le_refl _)) (Below.size hk))
      replace HW1 := hid (Rb.below HW1.out hk)
      replace HC2 := hid (FoC.below HC2.out hk)
      replace HO2 := hid (Ops.more (Ops.keep HO2.out hk (Nat.le_refl _)) (Below.size hk))
      replace hb : Below w.heap.size w k25 := hb.trans (hk.mono (by first | exact hb.size | omega | (simp; omega)))
      have HGB := hid hnew9; clear hnew9 hk
      have hltHGB : k24.heap.size < k25.heap.size := Rb.lt HGB.out
      have m1 : Rb k25 gHR 39 cs := HR.out
      have m2 : k25.rangeAt g (k * 3) [.int .i64 bc, .int .i64 bq, .slice Ak bo.length ck] := HRG.out
      try dsimp only
      refine hK.out _ _ ?_ (fun hHeld => ?_)
      ·exact ⟨m1, m2⟩
      clear hK K
      try simp only [P9]
      refine wpAnyH_ready (rs := [11]) (by kernel_rfl) (by simp) ?_
      refine AllReadyH.cons (o := _) rfl (fun K hK => ?_) (AllReadyH.nil)
      rw [if_pos (by rfl)]
      refine wp_alloc7 36 z5 (by kernel_rfl) ?_
      obtain ⟨k26, hk9⟩ : ∃ x, k25.alloc (.cells (z5).toArray 36) = x := ⟨_, rfl⟩
      have hnew9 : Rb k26 k25.heap.size 36 z5 := by rw [← hk9]; exact Rb.new _ _ _
      have hk : Below k25.heap.size k25 k26 := by rw [← hk9]; exact below_one _ _
      have hzk26 : k25.heap.size < k26.heap.size := by rw [← hk9]; simp
      rw [hk9]
      clear hk9
      replace HD := hid (Fd.below HD.out hk)
      replace HR := hid (Rb.below HR.out hk)
      replace HOP := hid (ownsRow_below HOP.out hk)
      replace HC := hid (FoC.below HC.out hk)
      replace HBl := hid (OwnBt.below HBl.out hk)
      replace HRG := hid (range_below HRG.out hk LT9)
      replace HO1 := hid (Ops.more (Ops.keep HO1.out hk (Nat.le_refl _)) (Below.size hk))
      replace HW1 := hid (Rb.below HW1.out hk)
      replace HC2 := hid (FoC.below HC2.out hk)
      replace HO2 := hid (Ops.more (Ops.keep HO2.out hk (Nat.le_refl _)) (Below.size hk))
      replace HGB := hid (Rb.below HGB.out hk)
      replace hb : Below w.heap.size w k26 := hb.trans (hk.mono (by first | exact hb.size | omega | (simp; omega)))
      have HWB := hid hnew9; clear hnew9 hk
      have hltHWB : k25.heap.size < k26.heap.size := Rb.lt HWB.out
      have m1 : Rb k26 gHR 39 cs := HR.out
      have m2 : k26.rangeAt g (k * 3) [.int .i64 bc, .int .i64 bq, .slice Ak bo.length ck] := HRG.out
      try dsimp only
      refine hK.out _ _ ?_ (fun hHeld => ?_)
      ·exact ⟨m1, m2⟩
      clear hK K
      try simp only [P9]
      refine wpAnyH_ready (rs := [12]) (by kernel_rfl) (by simp) ?_
      refine AllReadyH.cons (o := _) rfl (fun K hK => ?_) (AllReadyH.nil)
      rw [if_pos (by rfl)]
      refine wp_store_mid 39 _ _ rfl (k24.heap.size) 0 cs2.toArray rfl rfl (HGB.out.there (by first | (simp [z38_len, z5_len, HLC.out, HLC2.out]; done) | (simp [z38_len, z5_len, HLC.out, HLC2.out]; omega))) hi2 hone2 ?_
      obtain ⟨k27, hk9⟩ : ∃ x, k26.setCells (k24.heap.size) 0 (cs2) = x := ⟨_, rfl⟩
      show K _ (k26.setCells (k24.heap.size) 0 (cs2))
      replace HD := hid (fd_row HD.out HGB.out (by decide) (by omega) (cs2) 0)
      replace HR := hid (Rb.others (g' := k24.heap.size) (by omega) (cs2) 0 _ HR.out)
      replace HOP := hid (rb_owns (by decide) (cs2) 0 _ _ HOP.out HGB.out)
      replace HC := hid (FoC.set (o := 0) (vs := cs2) HC.out HGB.out z38_nos)
      replace HBl := hid (OwnBt.set (o := 0) (vs := cs2) HBl.out HGB.out (by decide) (by decide))
      replace HRG := hid (rng_set (G := k24.heap.size) (o := 0) (vs := cs2) HRG.out (by omega))
      replace HO1 := hid (ops_set (o := 0) (vs := cs2) HO1.out HGB.out z38_nos)
      replace HW1 := hid (Rb.others (g' := k24.heap.size) (by omega) (cs2) 0 _ HW1.out)
      replace HC2 := hid (FoC.set (o := 0) (vs := cs2) HC2.out HGB.out z38_nos)
      replace HO2 := hid (ops_set (o := 0) (vs := cs2) HO2.out HGB.out z38_nos)
      replace HWB := hid (Rb.others (g' := k24.heap.size) (by omega) (cs2) 0 _ HWB.out)
      replace HGB := hid (Rb.whole (vs := cs2) HGB.out (by simp [z38_len, z5_len, HLC.out, HLC2.out]))
      have hz9 : k26.heap.size ≤ (k26.setCells (k24.heap.size) 0 (cs2)).heap.size := Nat.le_of_eq (sets_size _ _ _ _).symm
      have hy9 : (k26.setCells (k24.heap.size) 0 (cs2)).heap.size ≤ k26.heap.size := Nat.le_of_eq (sets_size _ _ _ _)
      replace hb : Below w.heap.size w (k26.setCells (k24.heap.size) 0 (cs2)) := below_sets (by omega) _ _ _ hb
      rw [hk9] at hz9 hy9 hb HD HR HOP HC HBl HRG HO1 HW1 HC2 HO2 HGB HWB
      have hltqk27 : k24.heap.size < k27.heap.size := Rb.lt HGB.out
      rw [hk9]
      clear hk9
      have m1 : Rb k27 gHR 39 cs := HR.out
      have m2 : k27.rangeAt g (k * 3) [.int .i64 bc, .int .i64 bq, .slice Ak bo.length ck] := HRG.out
      try dsimp only
      refine hK.out _ _ ?_ (fun hHeld => ?_)
      ·exact ⟨m1, m2⟩
      clear hK K
      try simp only [P9]
      refine wpAnyH_ready (rs := [13]) (by kernel_rfl) (by simp) ?_
      refine AllReadyH.cons (o := _) rfl (fun K hK => ?_) (AllReadyH.nil)
      rw [if_pos (by rfl)]
      refine wp_store_mid 36 _ _ rfl (k25.heap.size) 0 #[.int .i64 rp, .int .i64 rc, .int .i64 rq, .slice A9 ro.length c9, .int .i64 re] rfl rfl (HWB.out.there (by first | (simp [z38_len, z5_len, HLC.out, HLC2.out]; done) | (simp [z38_len, z5_len, HLC.out, HLC2.out]; omega))) Tryz.infoRow7 (all_oneCell_toArray (r5_one rp rc rq re A9 ro.length c9)) ?_
      obtain ⟨k28, hk9⟩ : ∃ x, k27.setCells (k25.heap.size) 0 ([.int .i64 rp, .int .i64 rc, .int .i64 rq, .slice A9 ro.length c9, .int .i64 re]) = x := ⟨_, rfl⟩
      show K _ (k27.setCells (k25.heap.size) 0 ([.int .i64 rp, .int .i64 rc, .int .i64 rq, .slice A9 ro.length c9, .int .i64 re]))
      replace HD := hid (fd_row HD.out HWB.out (by decide) (by omega) ([.int .i64 rp, .int .i64 rc, .int .i64 rq, .slice A9 ro.length c9, .int .i64 re]) 0)
      replace HR := hid (Rb.others (g' := k25.heap.size) (by omega) ([.int .i64 rp, .int .i64 rc, .int .i64 rq, .slice A9 ro.length c9, .int .i64 re]) 0 _ HR.out)
      replace HOP := hid (rb_owns (by decide) ([.int .i64 rp, .int .i64 rc, .int .i64 rq, .slice A9 ro.length c9, .int .i64 re]) 0 _ _ HOP.out HWB.out)
      replace HC := hid (FoC.set (o := 0) (vs := [.int .i64 rp, .int .i64 rc, .int .i64 rq, .slice A9 ro.length c9, .int .i64 re]) HC.out HWB.out z5_nos)
      replace HBl := hid (OwnBt.set (o := 0) (vs := [.int .i64 rp, .int .i64 rc, .int .i64 rq, .slice A9 ro.length c9, .int .i64 re]) HBl.out HWB.out (by decide) (by decide))
      replace HRG := hid (rng_set (G := k25.heap.size) (o := 0) (vs := [.int .i64 rp, .int .i64 rc, .int .i64 rq, .slice A9 ro.length c9, .int .i64 re]) HRG.out (by omega))
      replace HO1 := hid (ops_set (o := 0) (vs := [.int .i64 rp, .int .i64 rc, .int .i64 rq, .slice A9 ro.length c9, .int .i64 re]) HO1.out HWB.out z5_nos)
      replace HW1 := hid (Rb.others (g' := k25.heap.size) (by omega) ([.int .i64 rp, .int .i64 rc, .int .i64 rq, .slice A9 ro.length c9, .int .i64 re]) 0 _ HW1.out)
      replace HC2 := hid (FoC.set (o := 0) (vs := [.int .i64 rp, .int .i64 rc, .int .i64 rq, .slice A9 ro.length c9, .int .i64 re]) HC2.out HWB.out z5_nos)
      replace HO2 := hid (ops_set (o := 0) (vs := [.int .i64 rp, .int .i64 rc, .int .i64 rq, .slice A9 ro.length c9, .int .i64 re]) HO2.out HWB.out z5_nos)
      replace HGB := hid (Rb.others (g' := k25.heap.size) (by omega) ([.int .i64 rp, .int .i64 rc, .int .i64 rq, .slice A9 ro.length c9, .int .i64 re]) 0 _ HGB.out)
      replace HWB := hid (Rb.whole (vs := [.int .i64 rp, .int .i64 rc, .int .i64 rq, .slice A9 ro.length c9, .int .i64 re]) HWB.out (by simp [z38_len, z5_len, HLC.out, HLC2.out]))
      have hz9 : k27.heap.size ≤ (k27.setCells (k25.heap.size) 0 ([.int .i64 rp, .int .i64 rc, .int .i64 rq, .slice A9 ro.length c9, .int .i64 re])).heap.size := Nat.le_of_eq (sets_size _ _ _ _).symm
      have hy9 : (k27.setCells (k25.heap.size) 0 ([.int .i64 rp, .int .i64 rc, .int .i64 rq, .slice A9 ro.length c9, .int .i64 re])).heap.size ≤ k27.heap.size := Nat.le_of_eq (sets_size _ _ _ _)
      replace hb : Below w.heap.size w (k27.setCells (k25.heap.size) 0 ([.int .i64 rp, .int .i64 rc, .int .i64 rq, .slice A9 ro.length c9, .int .i64 re])) := below_sets (by omega) _ _ _ hb
      rw [hk9] at hz9 hy9 hb HD HR HOP HC HBl HRG HO1 HW1 HC2 HO2 HWB HGB
      have hltqk28 : k25.heap.size < k28.heap.size := Rb.lt HWB.out
      rw [hk9]
      clear hk9
      have m1 : Rb k28 gHR 39 cs := HR.out
      have m2 : k28.rangeAt g (k * 3) [.int .i64 bc, .int .i64 bq, .slice Ak bo.length ck] := HRG.out
      try dsimp only
      refine hK.out _ _ ?_ (fun hHeld => ?_)
      ·exact ⟨m1, m2⟩
      clear hK K
      try simp only [P9]
      refine wpAnyH_ready (rs := [14]) (by kernel_rfl) (by simp) ?_
      refine AllReadyH.cons (o := _) rfl (fun K hK => ?_) (AllReadyH.nil)
      go_simp
      refine hK.out _ _ ?_ (fun hHeld => ?_)
      ·exact ⟨m1, m2⟩
      clear hK K
      try simp only [P9]
      refine wpAnyH_done (by kernel_rfl) ?_ _
      refine NoPanic.normal ?_
      refine ⟨cs2, A9, c9, k24.heap.size, k25.heap.size, rfl, HD.out, HR.out, HBl.out, HO1.out, HW1.out, HC2.out, HO2.out, HGB.out, HWB.out, by omega, by omega, hb, by omega, by omega⟩
     ·rw [if_pos (by rfl)]
      refine wp_alloc7 36 z5 (by kernel_rfl) ?_
      obtain ⟨k25, hk9⟩ : ∃ x, k24.alloc (.cells (z5).toArray 36) = x := ⟨_, rfl⟩
      have hnew9 : Rb k25 k24.heap.size 36 z5 := by rw [← hk9]; exact Rb.new _ _ _
      have hk : Below k24.heap.size k24 k25 := by rw [← hk9]; exact below_one _ _
      have hzk25 : k24.heap.size < k25.heap.size := by rw [← hk9]; simp
      rw [hk9]
      clear hk9
      replace HD := hid (Fd.below HD.out hk)
      replace HR := hid (Rb.below HR.out hk)
      replace HOP := hid (ownsRow_below HOP.out hk)
      replace HC := hid (FoC.below HC.out hk)
      replace HBl := hid (OwnBt.below HBl.out hk)
      replace HRG := hid (range_below HRG.out hk LT9)
      replace HO1 := hid (Ops.more (Ops.keep HO1.out hk (Nat.le_refl _)) (Below.size hk))
      replace HW1 := hid (Rb.below HW1.out hk)
      replace HC2 := hid (FoC.below HC2.out hk)
      replace HO2 := hid (Ops.more (Ops.keep HO2.out hk (Nat.le_refl _)) (Below.size hk))
      replace hb : Below w.heap.size w k25 := hb.trans (hk.mono (by first | exact hb.size | omega | (simp; omega)))
      have HWB := hid hnew9; clear hnew9 hk
      have hltHWB : k24.heap.size < k25.heap.size := Rb.lt HWB.out
      have m1 : Rb k25 gHR 39 cs := HR.out
      have m2 : k25.rangeAt g (k * 3) [.int .i64 bc, .int .i64 bq, .slice Ak bo.length ck] := HRG.out
      try dsimp only
      refine hK.out _ _ ?_ (fun hHeld => ?_)
      ·exact ⟨m1, m2⟩
      clear hK K
      try simp only [P9]
      refine wpAnyH_ready (rs := [10]) (by kernel_rfl) (by simp) ?_
      refine AllReadyH.cons (o := _) rfl (fun K hK => ?_) (AllReadyH.nil)
      rw [if_pos (by rfl)]
      refine wp_alloc7 39 z38 (by kernel_rfl) ?_
      obtain ⟨k26, hk9⟩ : ∃ x, k25.alloc (.cells (z38).toArray 39) = x := ⟨_, rfl⟩
      have hnew9 : Rb k26 k25.heap.size 39 z38 := by rw [← hk9]; exact Rb.new _ _ _
      have hk : Below k25.heap.size k25 k26 := by rw [← hk9]; exact below_one _ _
      have hzk26 : k25.heap.size < k26.heap.size := by rw [← hk9]; simp
      rw [hk9]
      clear hk9
      replace HD := hid (Fd.below HD.out hk)
      replace HR := hid (Rb.below HR.out hk)
      replace HOP := hid (ownsRow_below HOP.out hk)
      replace HC := hid (FoC.below HC.out hk)
      replace HBl := hid (OwnBt.below HBl.out hk)
      replace HRG := hid (range_below HRG.out hk LT9)
      replace HO1 := hid (Ops.more (Ops.keep HO1.out hk (Nat.le_refl _)) (Below.size hk))
      replace HW1 := hid (Rb.below HW1.out hk)
      replace HC2 := hid (FoC.below HC2.out hk)
      replace HO2 := hid (Ops.more (Ops.keep HO2.out hk (Nat.le_refl _)) (Below.size hk))
      replace HWB := hid (Rb.below HWB.out hk)
      replace hb : Below w.heap.size w k26 := hb.trans (hk.mono (by first | exact hb.size | omega | (simp; omega)))
      have HGB := hid hnew9; clear hnew9 hk
      have hltHGB : k25.heap.size < k26.heap.size := Rb.lt HGB.out
      have m1 : Rb k26 gHR 39 cs := HR.out
      have m2 : k26.rangeAt g (k * 3) [.int .i64 bc, .int .i64 bq, .slice Ak bo.length ck] := HRG.out
      try dsimp only
      refine hK.out _ _ ?_ (fun hHeld => ?_)
      ·exact ⟨m1, m2⟩
      clear hK K
      try simp only [P9]
      refine wpAnyH_ready (rs := [12]) (by kernel_rfl) (by simp) ?_
      refine AllReadyH.cons (o := _) rfl (fun K hK => ?_) (AllReadyH.nil)
      rw [if_pos (by rfl)]
      refine wp_store_mid 39 _ _ rfl (k25.heap.size) 0 cs2.toArray rfl rfl (HGB.out.there (by first | (simp [z38_len, z5_len, HLC.out, HLC2.out]; done) | (simp [z38_len, z5_len, HLC.out, HLC2.out]; omega))) hi2 hone2 ?_
      obtain ⟨k27, hk9⟩ : ∃ x, k26.setCells (k25.heap.size) 0 (cs2) = x := ⟨_, rfl⟩
      show K _ (k26.setCells (k25.heap.size) 0 (cs2))
      replace HD := hid (fd_row HD.out HGB.out (by decide) (by omega) (cs2) 0)
      replace HR := hid (Rb.others (g' := k25.heap.size) (by omega) (cs2) 0 _ HR.out)
      replace HOP := hid (rb_owns (by decide) (cs2) 0 _ _ HOP.out HGB.out)
      replace HC := hid (FoC.set (o := 0) (vs := cs2) HC.out HGB.out z38_nos)
      replace HBl := hid (OwnBt.set (o := 0) (vs := cs2) HBl.out HGB.out (by decide) (by decide))
      replace HRG := hid (rng_set (G := k25.heap.size) (o := 0) (vs := cs2) HRG.out (by omega))
      replace HO1 := hid (ops_set (o := 0) (vs := cs2) HO1.out HGB.out z38_nos)
      replace HW1 := hid (Rb.others (g' := k25.heap.size) (by omega) (cs2) 0 _ HW1.out)
      replace HC2 := hid (FoC.set (o := 0) (vs := cs2) HC2.out HGB.out z38_nos)
      replace HO2 := hid (ops_set (o := 0) (vs := cs2) HO2.out HGB.out z38_nos)
      replace HWB := hid (Rb.others (g' := k25.heap.size) (by omega) (cs2) 0 _ HWB.out)
      replace HGB := hid (Rb.whole (vs := cs2) HGB.out (by simp [z38_len, z5_len, HLC.out, HLC2.out]))
      have hz9 : k26.heap.size ≤ (k26.setCells (k25.heap.size) 0 (cs2)).heap.size := Nat.le_of_eq (sets_size _ _ _ _).symm
      have hy9 : (k26.setCells (k25.heap.size) 0 (cs2)).heap.size ≤ k26.heap.size := Nat.le_of_eq (sets_size _ _ _ _)
      replace hb : Below w.heap.size w (k26.setCells (k25.heap.size) 0 (cs2)) := below_sets (by omega) _ _ _ hb
      rw [hk9] at hz9 hy9 hb HD HR HOP HC HBl HRG HO1 HW1 HC2 HO2 HWB HGB
      have hltqk27 : k25.heap.size < k27.heap.size := Rb.lt HGB.out
      rw [hk9]
      clear hk9
      have m1 : Rb k27 gHR 39 cs := HR.out
      have m2 : k27.rangeAt g (k * 3) [.int .i64 bc, .int .i64 bq, .slice Ak bo.length ck] := HRG.out
      try dsimp only
      refine hK.out _ _ ?_ (fun hHeld => ?_)
      ·exact ⟨m1, m2⟩
      clear hK K
      try simp only [P9]
      refine wpAnyH_ready (rs := [13]) (by kernel_rfl) (by simp) ?_
      refine AllReadyH.cons (o := _) rfl (fun K hK => ?_) (AllReadyH.nil)
      rw [if_pos (by rfl)]
      refine wp_store_mid 36 _ _ rfl (k24.heap.size) 0 #[.int .i64 rp, .int .i64 rc, .int .i64 rq, .slice A9 ro.length c9, .int .i64 re] rfl rfl (HWB.out.there (by first | (simp [z38_len, z5_len, HLC.out, HLC2.out]; done) | (simp [z38_len, z5_len, HLC.out, HLC2.out]; omega))) Tryz.infoRow7 (all_oneCell_toArray (r5_one rp rc rq re A9 ro.length c9)) ?_
      obtain ⟨k28, hk9⟩ : ∃ x, k27.setCells (k24.heap.size) 0 ([.int .i64 rp, .int .i64 rc, .int .i64 rq, .slice A9 ro.length c9, .int .i64 re]) = x := ⟨_, rfl⟩
      show K _ (k27.setCells (k24.heap.size) 0 ([.int .i64 rp, .int .i64 rc, .int .i64 rq, .slice A9 ro.length c9, .int .i64 re]))
      replace HD := hid (fd_row HD.out HWB.out (by decide) (by omega) ([.int .i64 rp, .int .i64 rc, .int .i64 rq, .slice A9 ro.length c9, .int .i64 re]) 0)
      replace HR := hid (Rb.others (g' := k24.heap.size) (by omega) ([.int .i64 rp, .int .i64 rc, .int .i64 rq, .slice A9 ro.length c9, .int .i64 re]) 0 _ HR.out)
      replace HOP := hid (rb_owns (by decide) ([.int .i64 rp, .int .i64 rc, .int .i64 rq, .slice A9 ro.length c9, .int .i64 re]) 0 _ _ HOP.out HWB.out)
      replace HC := hid (FoC.set (o := 0) (vs := [.int .i64 rp, .int .i64 rc, .int .i64 rq, .slice A9 ro.length c9, .int .i64 re]) HC.out HWB.out z5_nos)
      replace HBl := hid (OwnBt.set (o := 0) (vs := [.int .i64 rp, .int .i64 rc, .int .i64 rq, .slice A9 ro.length c9, .int .i64 re]) HBl.out HWB.out (by decide) (by decide))
      replace HRG := hid (rng_set (G := k24.heap.size) (o := 0) (vs := [.int .i64 rp, .int .i64 rc, .int .i64 rq, .slice A9 ro.length c9, .int .i64 re]) HRG.out (by omega))
      replace HO1 := hid (ops_set (o := 0) (vs := [.int .i64 rp, .int .i64 rc, .int .i64 rq, .slice A9 ro.length c9, .int .i64 re]) HO1.out HWB.out z5_nos)
      replace HW1 := hid (Rb.others (g' := k24.heap.size) (by omega) ([.int .i64 rp, .int .i64 rc, .int .i64 rq, .slice A9 ro.length c9, .int .i64 re]) 0 _ HW1.out)
      replace HC2 := hid (FoC.set (o := 0) (vs := [.int .i64 rp, .int .i64 rc, .int .i64 rq, .slice A9 ro.length c9, .int .i64 re]) HC2.out HWB.out z5_nos)
      replace HO2 := hid (ops_set (o := 0) (vs := [.int .i64 rp, .int .i64 rc, .int .i64 rq, .slice A9 ro.length c9, .int .i64 re]) HO2.out HWB.out z5_nos)
      replace HGB := hid (Rb.others (g' := k24.heap.size) (by omega) ([.int .i64 rp, .int .i64 rc, .int .i64 rq, .slice A9 ro.length c9, .int .i64 re]) 0 _ HGB.out)
      replace HWB := hid (Rb.whole (vs := [.int .i64 rp, .int .i64 rc, .int .i64 rq, .slice A9 ro.length c9, .int .i64 re]) HWB.out (by simp [z38_len, z5_len, HLC.out, HLC2.out]))
      have hz9 : k27.heap.size ≤ (k27.setCells (k24.heap.size) 0 ([.int .i64 rp, .int .i64 rc, .int .i64 rq, .slice A9 ro.length c9, .int .i64 re])).heap.size := Nat.le_of_eq (sets_size _ _ _ _).symm
      have hy9 : (k27.setCells (k24.heap.size) 0 ([.int .i64 rp, .int .i64 rc, .int .i64 rq, .slice A9 ro.length c9, .int .i64 re])).heap.size ≤ k27.heap.size := Nat.le_of_eq (sets_size _ _ _ _)
      replace hb : Below w.heap.size w (k27.setCells (k24.heap.size) 0 ([.int .i64 rp, .int .i64 rc, .int .i64 rq, .slice A9 ro.length c9, .int .i64 re])) := below_sets (by omega) _ _ _ hb
      rw [hk9] at hz9 hy9 hb HD HR HOP HC HBl HRG HO1 HW1 HC2 HO2 HWB HGB
      have hltqk28 : k24.heap.size < k28.heap.size := Rb.lt HWB.out
      rw [hk9]
      clear hk9
      have m1 : Rb k28 gHR 39 cs := HR.out
      have m2 : k28.rangeAt g (k * 3) [.int .i64 bc, .int .i64 bq, .slice Ak bo.length ck] := HRG.out
      try dsimp only
      refine hK.out _ _ ?_ (fun hHeld => ?_)
      ·exact ⟨m1, m2⟩
      clear hK K
      try simp only [P9]
      refine wpAnyH_ready (rs := [14]) (by kernel_rfl) (by simp) ?_
      refine AllReadyH.cons (o := _) rfl (fun K hK => ?_) (AllReadyH.nil)
      go_simp
      refine hK.out _ _ ?_ (fun hHeld => ?_)
      ·exact ⟨m1, m2⟩
      clear hK K
      try simp only [P9]
      refine wpAnyH_done (by kernel_rfl) ?_ _
      refine NoPanic.normal ?_
      refine ⟨cs2, A9, c9, k25.heap.size, k24.heap.size, rfl, HD.out, HR.out, HBl.out, HO1.out, HW1.out, HC2.out, HO2.out, HGB.out, HWB.out, by omega, by omega, hb, by omega, by omega⟩
    ·rw [if_pos (by rfl)]
     refine wp_alloc7 39 z38 (by kernel_rfl) ?_
     obtain ⟨k24, hk9⟩ : ∃ x, k23.alloc (.cells (z38).toArray 39) = x := ⟨_, rfl⟩
     have hnew9 : Rb k24 k23.heap.size 39 z38 := by rw [← hk9]; exact Rb.new _ _ _
     have hk : Below k23.heap.size k23 k24 := by rw [← hk9]; exact below_one _ _
     have hzk24 : k23.heap.size < k24.heap.size := by rw [← hk9]; simp
     rw [hk9]
     clear hk9
     replace HD := hid (Fd.below HD.out hk)
     replace HR := hid (Rb.below HR.out hk)
     replace HOP := hid (ownsRow_below HOP.out hk)
     replace HC := hid (FoC.below HC.out hk)
     replace HBl := hid (OwnBt.below HBl.out hk)
     replace HRG := hid (range_below HRG.out hk LT9)
     replace HO1 := hid (Ops.more (Ops.keep HO1.out hk (Nat.le_refl _)) (Below.size hk))
     replace HW1 := hid (Rb.below HW1.out hk)
     replace hb : Below w.heap.size w k24 := hb.trans (hk.mono (by first | exact hb.size | omega | (simp; omega)))
     have HGB := hid hnew9; clear hnew9 hk
     have hltHGB : k23.heap.size < k24.heap.size := Rb.lt HGB.out
     have m1 : Rb k24 gHR 39 cs := HR.out
     have m2 : k24.rangeAt g (k * 3) [.int .i64 bc, .int .i64 bq, .slice Ak bo.length ck] := HRG.out
     try dsimp only
     refine hK.out _ _ ?_ (fun hHeld => ?_)
     ·exact ⟨m1, m2⟩
     clear hK K
     try simp only [P9]
     refine wpAnyH_ready (rs := [5, 11]) (by kernel_rfl) (by simp) ?_
     refine AllReadyH.cons (o := _) rfl (fun K hK => ?_) (AllReadyH.cons (o := _) rfl (fun K hK => ?_) (AllReadyH.nil))
     ·go_simp
      go_at_call 10
      refine (rnext_to _ _ cs f f2 bc bq bo _ y rp rc rq re ro _ HC.out (Nat.le_refl _) (Ops.of_own HOP.out) (Nat.le_refl _) HOK.out.1 (by have := HOK.out.2; omega) HG.out hp9 HY.out HST.out HRW.out).mono ?_
      rintro e k25 ⟨cs2, A9, c9, rfl, ⟨hc2, ho9⟩, h⟩
      have hk : Below k24.heap.size k24 k25 := HK9 h
      have hz := h.size
      try simp at hz
      replace HD := hid (Fd.below HD.out hk)
      replace HR := hid (Rb.below HR.out hk)
      replace HOP := hid (ownsRow_below HOP.out hk)
      replace HC := hid (FoC.below HC.out hk)
      replace HBl := hid (OwnBt.below HBl.out hk)
      replace HRG := hid (range_below HRG.out hk LT9)
      replace HO1 := hid (Ops.more (Ops.keep HO1.out hk (Nat.le_refl _)) (Below.size hk))
      replace HW1 := hid (Rb.below HW1.out hk)
      replace HGB := hid (Rb.below HGB.out hk)
      replace hb : Below w.heap.size w k25 := hb.trans (hk.mono hb.size)
      have HC2 := hid hc2; clear hc2
      have HO2 := hid ho9; clear ho9
      have hlc2 := HC2.out.len
      have HLC2 := hid hlc2; clear hlc2
      have hi2 : (Tryz.prog.info? 39).map (·.size) = some cs2.toArray.size := by rw [List.size_toArray, HLC2.out]; exact Tryz.infoFold7
      have hone2 := all_oneCell_toArray HC2.out.one
      clear h hk
      have m1 : Rb k25 gHR 39 cs := HR.out
      have m2 : k25.rangeAt g (k * 3) [.int .i64 bc, .int .i64 bq, .slice Ak bo.length ck] := HRG.out
      try dsimp only
      refine hK.out _ _ ?_ (fun hHeld => ?_)
      ·exact ⟨m1, m2⟩
      clear hK K
      try simp only [P9]
      refine tk9 6 (.tuple #[.agg cs2.toArray, .agg #[.int .i64 rp, .int .i64 rc, .int .i64 rq, .slice A9 ro.length c9, .int .i64 re], .bool y]) rfl (fun w hSw => ?_) ?_
      ·(try dsimp only at hSw)
       go_simp
      try simp only [P9]
      refine tk9 7 (.agg cs2.toArray) rfl (fun w hSw => ?_) ?_
      ·(try dsimp only at hSw)
       go_simp
      try simp only [P9]
      refine tk9 8 (.agg #[.int .i64 rp, .int .i64 rc, .int .i64 rq, .slice A9 ro.length c9, .int .i64 re]) rfl (fun w hSw => ?_) ?_
      ·(try dsimp only at hSw)
       go_simp
      try simp only [P9]
      refine tk9 9 (.bool y) rfl (fun w hSw => ?_) ?_
      ·(try dsimp only at hSw)
       go_simp
      try simp only [P9]
      refine wpAnyH_ready (rs := [11]) (by kernel_rfl) (by simp) ?_
      refine AllReadyH.cons (o := _) rfl (fun K hK => ?_) (AllReadyH.nil)
      rw [if_pos (by rfl)]
      refine wp_alloc7 36 z5 (by kernel_rfl) ?_
      obtain ⟨k26, hk9⟩ : ∃ x, k25.alloc (.cells (z5).toArray 36) = x := ⟨_, rfl⟩
      have hnew9 : Rb k26 k25.heap.size 36 z5 := by rw [← hk9]; exact Rb.new _ _ _
      have hk : Below k25.heap.size k25 k26 := by rw [← hk9]; exact below_one _ _
      have hzk26 : k25.heap.size < k26.heap.size := by rw [← hk9]; simp
      rw [hk9]
      clear hk9
      replace HD := hid (Fd.below HD.out hk)
      replace HR := hid (Rb.below HR.out hk)
      replace HOP := hid (ownsRow_below HOP.out hk)
      replace HC := hid (FoC.below HC.out hk)
      replace HBl := hid (OwnBt.below HBl.out hk)
      replace HRG := hid (range_below HRG.out hk LT9)
      replace HO1 := hid (Ops.more (Ops.keep HO1.out hk (Nat.le_refl _)) (Below.size hk))
      replace HW1 := hid (Rb.below HW1.out hk)
      replace HGB := hid (Rb.below HGB.out hk)
      replace HC2 := hid (FoC.below HC2.out hk)
      replace HO2 := hid (Ops.more (Ops.keep HO2.out hk (Nat.le_refl _)) (Below.size hk))
      replace hb : Below w.heap.size w k26 := hb.trans (hk.mono (by first | exact hb.size | omega | (simp; omega)))
      have HWB := hid hnew9; clear hnew9 hk
      have hltHWB : k25.heap.size < k26.heap.size := Rb.lt HWB.out
      have m1 : Rb k26 gHR 39 cs := HR.out
      have m2 : k26.rangeAt g (k * 3) [.int .i64 bc, .int .i64 bq, .slice Ak bo.length ck] := HRG.out
      try dsimp only
      refine hK.out _ _ ?_ (fun hHeld => ?_)
      ·exact ⟨m1, m2⟩
      clear hK K
      try simp only [P9]
      refine wpAnyH_ready (rs := [12]) (by kernel_rfl) (by simp) ?_
      refine AllReadyH.cons (o := _) rfl (fun K hK => ?_) (AllReadyH.nil)
      rw [if_pos (by rfl)]
      refine wp_store_mid 39 _ _ rfl (k23.heap.size) 0 cs2.toArray rfl rfl (HGB.out.there (by first | (simp [z38_len, z5_len, HLC.out, HLC2.out]; done) | (simp [z38_len, z5_len, HLC.out, HLC2.out]; omega))) hi2 hone2 ?_
      obtain ⟨k27, hk9⟩ : ∃ x, k26.setCells (k23.heap.size) 0 (cs2) = x := ⟨_, rfl⟩
      show K _ (k26.setCells (k23.heap.size) 0 (cs2))
      replace HD := hid (fd_row HD.out HGB.out (by decide) (by omega) (cs2) 0)
      replace HR := hid (Rb.others (g' := k23.heap.size) (by omega) (cs2) 0 _ HR.out)
      replace HOP := hid (rb_owns (by decide) (cs2) 0 _ _ HOP.out HGB.out)
      replace HC := hid (FoC.set (o := 0) (vs := cs2) HC.out HGB.out z38_nos)
      replace HBl := hid (OwnBt.set (o := 0) (vs := cs2) HBl.out HGB.out (by decide) (by decide))
      replace HRG := hid (rng_set (G := k23.heap.size) (o := 0) (vs := cs2) HRG.out (by omega))
      replace HO1 := hid (ops_set (o := 0) (vs := cs2) HO1.out HGB.out z38_nos)
      replace HW1 := hid (Rb.others (g' := k23.heap.size) (by omega) (cs2) 0 _ HW1.out)
      replace HC2 := hid (FoC.set (o := 0) (vs := cs2) HC2.out HGB.out z38_nos)
      replace HO2 := hid (ops_set (o := 0) (vs := cs2) HO2.out HGB.out z38_nos)
      replace HWB := hid (Rb.others (g' := k23.heap.size) (by omega) (cs2) 0 _ HWB.out)
      replace HGB := hid (Rb.whole (vs := cs2) HGB.out (by simp [z38_len, z5_len, HLC.out, HLC2.out]))
      have hz9 : k26.heap.size ≤ (k26.setCells (k23.heap.size) 0 (cs2)).heap.size := Nat.le_of_eq (sets_size _ _ _ _).symm
      have hy9 : (k26.setCells (k23.heap.size) 0 (cs2)).heap.size ≤ k26.heap.size := Nat.le_of_eq (sets_size _ _ _ _)
      replace hb : Below w.heap.size w (k26.setCells (k23.heap.size) 0 (cs2)) := below_sets (by omega) _ _ _ hb
      rw [hk9] at hz9 hy9 hb HD HR HOP HC HBl HRG HO1 HW1 HGB HC2 HO2 HWB
      have hltqk27 : k23.heap.size < k27.heap.size := Rb.lt HGB.out
      rw [hk9]
      clear hk9
      have m1 : Rb k27 gHR 39 cs := HR.out
      have m2 : k27.rangeAt g (k * 3) [.int .i64 bc, .int .i64 bq, .slice Ak bo.length ck] := HRG.out
      try dsimp only
      refine hK.out _ _ ?_ (fun hHeld => ?_)
      ·exact ⟨m1, m2⟩
      clear hK K
      try simp only [P9]
      refine wpAnyH_ready (rs := [13]) (by kernel_rfl) (by simp) ?_
      refine AllReadyH.cons (o := _) rfl (fun K hK => ?_) (AllReadyH.nil)
      rw [if_pos (by rfl)]
      refine wp_store_mid 36 _ _ rfl (k25.heap.size) 0 #[.int .i64 rp, .int .i64 rc, .int .i64 rq, .slice A9 ro.length c9, .int .i64 re] rfl rfl (HWB.out.there (by first | (simp [z38_len, z5_len, HLC.out, HLC2.out]; done) | (simp [z38_len, z5_len, HLC.out, HLC2.out]; omega))) Tryz.infoRow7 (all_oneCell_toArray (r5_one rp rc rq re A9 ro.length c9)) ?_
      obtain ⟨k28, hk9⟩ : ∃ x, k27.setCells (k25.heap.size) 0 ([.int .i64 rp, .int .i64 rc, .int .i64 rq, .slice A9 ro.length c9, .int .i64 re]) = x := ⟨_, rfl⟩
      show K _ (k27.setCells (k25.heap.size) 0 ([.int .i64 rp, .int .i64 rc, .int .i64 rq, .slice A9 ro.length c9, .int .i64 re]))
      replace HD := hid (fd_row HD.out HWB.out (by decide) (by omega) ([.int .i64 rp, .int .i64 rc, .int .i64 rq, .slice A9 ro.length c9, .int .i64 re]) 0)
      replace HR := hid (Rb.others (g' := k25.heap.size) (by omega) ([.int .i64 rp, .int .i64 rc, .int .i64 rq, .slice A9 ro.length c9, .int .i64 re]) 0 _ HR.out)
      replace HOP := hid (rb_owns (by decide) ([.int .i64 rp, .int .i64 rc, .int .i64 rq, .slice A9 ro.length c9, .int .i64 re]) 0 _ _ HOP.out HWB.out)
      replace HC := hid (FoC.set (o := 0) (vs := [.int .i64 rp, .int .i64 rc, .int .i64 rq, .slice A9 ro.length c9, .int .i64 re]) HC.out HWB.out z5_nos)
      replace HBl := hid (OwnBt.set (o := 0) (vs := [.int .i64 rp, .int .i64 rc, .int .i64 rq, .slice A9 ro.length c9, .int .i64 re]) HBl.out HWB.out (by decide) (by decide))
      replace HRG := hid (rng_set (G := k25.heap.size) (o := 0) (vs := [.int .i64 rp, .int .i64 rc, .int .i64 rq, .slice A9 ro.length c9, .int .i64 re]) HRG.out (by omega))
      replace HO1 := hid (ops_set (o := 0) (vs := [.int .i64 rp, .int .i64 rc, .int .i64 rq, .slice A9 ro.length c9, .int .i64 re]) HO1.out HWB.out z5_nos)
      replace HW1 := hid (Rb.others (g' := k25.heap.size) (by omega) ([.int .i64 rp, .int .i64 rc, .int .i64 rq, .slice A9 ro.length c9, .int .i64 re]) 0 _ HW1.out)
      replace HC2 := hid (FoC.set (o := 0) (vs := [.int .i64 rp, .int .i64 rc, .int .i64 rq, .slice A9 ro.length c9, .int .i64 re]) HC2.out HWB.out z5_nos)
      replace HO2 := hid (ops_set (o := 0) (vs := [.int .i64 rp, .int .i64 rc, .int .i64 rq, .slice A9 ro.length c9, .int .i64 re]) HO2.out HWB.out z5_nos)
      replace HGB := hid (Rb.others (g' := k25.heap.size) (by omega) ([.int .i64 rp, .int .i64 rc, .int .i64 rq, .slice A9 ro.length c9, .int .i64 re]) 0 _ HGB.out)
      replace HWB := hid (Rb.whole (vs := [.int .i64 rp, .int .i64 rc, .int .i64 rq, .slice A9 ro.length c9, .int .i64 re]) HWB.out (by simp [z38_len, z5_len, HLC.out, HLC2.out]))
      have hz9 : k27.heap.size ≤ (k27.setCells (k25.heap.size) 0 ([.int .i64 rp, .int .i64 rc, .int .i64 rq, .slice A9 ro.length c9, .int .i64 re])).heap.size := Nat.le_of_eq (sets_size _ _ _ _).symm
      have hy9 : (k27.setCells (k25.heap.size) 0 ([.int .i64 rp, .int .i64 rc, .int .i64 rq, .slice A9 ro.length c9, .int .i64 re])).heap.size ≤ k27.heap.size := Nat.le_of_eq (sets_size _ _ _ _)
      replace hb : Below w.heap.size w (k27.setCells (k25.heap.size) 0 ([.int .i64 rp, .int .i64 rc, .int .i64 rq, .slice A9 ro.length c9, .int .i64 re])) := below_sets (by omega) _ _ _ hb
      rw [hk9] at hz9 hy9 hb HD HR HOP HC HBl HRG HO1 HW1 HC2 HO2 HWB HGB
      have hltqk28 : k25.heap.size < k28.heap.size := Rb.lt HWB.out
      rw [hk9]
      clear hk9
      have m1 : Rb k28 gHR 39 cs := HR.out
      have m2 : k28.rangeAt g (k * 3) [.int .i64 bc, .int .i64 bq, .slice Ak bo.length ck] := HRG.out
      try dsimp only
      refine hK.out _ _ ?_ (fun hHeld => ?_)
      ·exact ⟨m1, m2⟩
      clear hK K
      try simp only [P9]
      refine wpAnyH_ready (rs := [14]) (by kernel_rfl) (by simp) ?_
      refine AllReadyH.cons (o := _) rfl (fun K hK => ?_) (AllReadyH.nil)
      go_simp
      refine hK.out _ _ ?_ (fun hHeld => ?_)
      ·exact ⟨m1, m2⟩
      clear hK K
      try simp only [P9]
      refine wpAnyH_done (by kernel_rfl) ?_ _
      refine NoPanic.normal ?_
      refine ⟨cs2, A9, c9, k23.heap.size, k25.heap.size, rfl, HD.out, HR.out, HBl.out, HO1.out, HW1.out, HC2.out, HO2.out, HGB.out, HWB.out, by omega, by omega, hb, by omega, by omega⟩
     ·rw [if_pos (by rfl)]
      refine wp_alloc7 36 z5 (by kernel_rfl) ?_
      obtain ⟨k25, hk9⟩ : ∃ x, k24.alloc (.cells (z5).toArray 36) = x := ⟨_, rfl⟩
      have hnew9 : Rb k25 k24.heap.size 36 z5 := by rw [← hk9]; exact Rb.new _ _ _
      have hk : Below k24.heap.size k24 k25 := by rw [← hk9]; exact below_one _ _
      have hzk25 : k24.heap.size < k25.heap.size := by rw [← hk9]; simp
      rw [hk9]
      clear hk9
      replace HD := hid (Fd.below HD.out hk)
      replace HR := hid (Rb.below HR.out hk)
      replace HOP := hid (ownsRow_below HOP.out hk)
      replace HC := hid (FoC.below HC.out hk)
      replace HBl := hid (OwnBt.below HBl.out hk)
      replace HRG := hid (range_below HRG.out hk LT9)
      replace HO1 := hid (Ops.more (Ops.keep HO1.out hk (Nat.le_refl _)) (Below.size hk))
      replace HW1 := hid (Rb.below HW1.out hk)
      replace HGB := hid (Rb.below HGB.out hk)
      replace hb : Below w.heap.size w k25 := hb.trans (hk.mono (by first | exact hb.size | omega | (simp; omega)))
      have HWB := hid hnew9; clear hnew9 hk
      have hltHWB : k24.heap.size < k25.heap.size := Rb.lt HWB.out
      have m1 : Rb k25 gHR 39 cs := HR.out
      have m2 : k25.rangeAt g (k * 3) [.int .i64 bc, .int .i64 bq, .slice Ak bo.length ck] := HRG.out
      try dsimp only
      refine hK.out _ _ ?_ (fun hHeld => ?_)
      ·exact ⟨m1, m2⟩
      clear hK K
      try simp only [P9]
      refine wpAnyH_ready (rs := [5]) (by kernel_rfl) (by simp) ?_
      refine AllReadyH.cons (o := _) rfl (fun K hK => ?_) (AllReadyH.nil)
      go_simp
      go_at_call 10
      refine (rnext_to _ _ cs f f2 bc bq bo _ y rp rc rq re ro _ HC.out (Nat.le_refl _) (Ops.of_own HOP.out) (Nat.le_refl _) HOK.out.1 (by have := HOK.out.2; omega) HG.out hp9 HY.out HST.out HRW.out).mono ?_
      rintro e k26 ⟨cs2, A9, c9, rfl, ⟨hc2, ho9⟩, h⟩
      have hk : Below k25.heap.size k25 k26 := HK9 h
      have hz := h.size
      try simp at hz
      replace HD := hid (Fd.below HD.out hk)
      replace HR := hid (Rb.below HR.out hk)
      replace HOP := hid (ownsRow_below HOP.out hk)
      replace HC := hid (FoC.below HC.out hk)
      replace HBl := hid (OwnBt.below HBl.out hk)
      replace HRG := hid (range_below HRG.out hk LT9)
      replace HO1 := hid (Ops.more (Ops.keep HO1.out hk (Nat.le_refl _)) (Below.size hk))
      replace HW1 := hid (Rb.below HW1.out hk)
      replace HGB := hid (Rb.below HGB.out hk)
      replace HWB := hid (Rb.below HWB.out hk)
      replace hb : Below w.heap.size w k26 := hb.trans (hk.mono hb.size)
      have HC2 := hid hc2; clear hc2
      have HO2 := hid ho9; clear ho9
      have hlc2 := HC2.out.len
      have HLC2 := hid hlc2; clear hlc2
      have hi2 : (Tryz.prog.info? 39).map (·.size) = some cs2.toArray.size := by rw [List.size_toArray, HLC2.out]; exact Tryz.infoFold7
      have hone2 := all_oneCell_toArray HC2.out.one
      clear h hk
      have m1 : Rb k26 gHR 39 cs := HR.out
      have m2 : k26.rangeAt g (k * 3) [.int .i64 bc, .int .i64 bq, .slice Ak bo.length ck] := HRG.out
      try dsimp only
      refine hK.out _ _ ?_ (fun hHeld => ?_)
      ·exact ⟨m1, m2⟩
      clear hK K
      try simp only [P9]
      refine tk9 6 (.tuple #[.agg cs2.toArray, .agg #[.int .i64 rp, .int .i64 rc, .int .i64 rq, .slice A9 ro.length c9, .int .i64 re], .bool y]) rfl (fun w hSw => ?_) ?_
      ·(try dsimp only at hSw)
       go_simp
      try simp only [P9]
      refine tk9 7 (.agg cs2.toArray) rfl (fun w hSw => ?_) ?_
      ·(try dsimp only at hSw)
       go_simp
      try simp only [P9]
      refine tk9 8 (.agg #[.int .i64 rp, .int .i64 rc, .int .i64 rq, .slice A9 ro.length c9, .int .i64 re]) rfl (fun w hSw => ?_) ?_
      ·(try dsimp only at hSw)
       go_simp
      try simp only [P9]
      refine tk9 9 (.bool y) rfl (fun w hSw => ?_) ?_
      ·(try dsimp only at hSw)
       go_simp
      try simp only [P9]
      refine wpAnyH_ready (rs := [12]) (by kernel_rfl) (by simp) ?_
      refine AllReadyH.cons (o := _) rfl (fun K hK => ?_) (AllReadyH.nil)
      rw [if_pos (by rfl)]
      refine wp_store_mid 39 _ _ rfl (k23.heap.size) 0 cs2.toArray rfl rfl (HGB.out.there (by first | (simp [z38_len, z5_len, HLC.out, HLC2.out]; done) | (simp [z38_len, z5_len, HLC.out, HLC2.out]; omega))) hi2 hone2 ?_
      obtain ⟨k27, hk9⟩ : ∃ x, k26.setCells (k23.heap.size) 0 (cs2) = x := ⟨_, rfl⟩
      show K _ (k26.setCells (k23.heap.size) 0 (cs2))
      replace HD := hid (fd_row HD.out HGB.out (by decide) (by omega) (cs2) 0)
      replace HR := hid (Rb.others (g' := k23.heap.size) (by omega) (cs2) 0 _ HR.out)
      replace HOP := hid (rb_owns (by decide) (cs2) 0 _ _ HOP.out HGB.out)
      replace HC := hid (FoC.set (o := 0) (vs := cs2) HC.out HGB.out z38_nos)
      replace HBl := hid (OwnBt.set (o := 0) (vs := cs2) HBl.out HGB.out (by decide) (by decide))
      replace HRG := hid (rng_set (G := k23.heap.size) (o := 0) (vs := cs2) HRG.out (by omega))
      replace HO1 := hid (ops_set (o := 0) (vs := cs2) HO1.out HGB.out z38_nos)
      replace HW1 := hid (Rb.others (g' := k23.heap.size) (by omega) (cs2) 0 _ HW1.out)
      replace HWB := hid (Rb.others (g' := k23.heap.size) (by omega) (cs2) 0 _ HWB.out)
      replace HC2 := hid (FoC.set (o := 0) (vs := cs2) HC2.out HGB.out z38_nos)
      replace HO2 := hid (ops_set (o := 0) (vs := cs2) HO2.out HGB.out z38_nos)
      replace HGB := hid (Rb.whole (vs := cs2) HGB.out (by simp [z38_len, z5_len, HLC.out, HLC2.out]))
      have hz9 : k26.heap.size ≤ (k26.setCells (k23.heap.size) 0 (cs2)).heap.size := Nat.le_of_eq (sets_size _ _ _ _).symm
      have hy9 : (k26.setCells (k23.heap.size) 0 (cs2)).heap.size ≤ k26.heap.size := Nat.le_of_eq (sets_size _ _ _ _)
      replace hb : Below w.heap.size w (k26.setCells (k23.heap.size) 0 (cs2)) := below_sets (by omega) _ _ _ hb
      rw [hk9] at hz9 hy9 hb HD HR HOP HC HBl HRG HO1 HW1 HGB HWB HC2 HO2
      have hltqk27 : k23.heap.size < k27.heap.size := Rb.lt HGB.out
      rw [hk9]
      clear hk9
      have m1 : Rb k27 gHR 39 cs := HR.out
      have m2 : k27.rangeAt g (k * 3) [.int .i64 bc, .int .i64 bq, .slice Ak bo.length ck] := HRG.out
      try dsimp only
      refine hK.out _ _ ?_ (fun hHeld => ?_)
      ·exact ⟨m1, m2⟩
      clear hK K
      try simp only [P9]
      refine wpAnyH_ready (rs := [13]) (by kernel_rfl) (by simp) ?_
      refine AllReadyH.cons (o := _) rfl (fun K hK => ?_) (AllReadyH.nil)
      rw [if_pos (by rfl)]
      refine wp_store_mid 36 _ _ rfl (k24.heap.size) 0 #[.int .i64 rp, .int .i64 rc, .int .i64 rq, .slice A9 ro.length c9, .int .i64 re] rfl rfl (HWB.out.there (by first | (simp [z38_len, z5_len, HLC.out, HLC2.out]; done) | (simp [z38_len, z5_len, HLC.out, HLC2.out]; omega))) Tryz.infoRow7 (all_oneCell_toArray (r5_one rp rc rq re A9 ro.length c9)) ?_
      obtain ⟨k28, hk9⟩ : ∃ x, k27.setCells (k24.heap.size) 0 ([.int .i64 rp, .int .i64 rc, .int .i64 rq, .slice A9 ro.length c9, .int .i64 re]) = x := ⟨_, rfl⟩
      show K _ (k27.setCells (k24.heap.size) 0 ([.int .i64 rp, .int .i64 rc, .int .i64 rq, .slice A9 ro.length c9, .int .i64 re]))
      replace HD := hid (fd_row HD.out HWB.out (by decide) (by omega) ([.int .i64 rp, .int .i64 rc, .int .i64 rq, .slice A9 ro.length c9, .int .i64 re]) 0)
      replace HR := hid (Rb.others (g' := k24.heap.size) (by omega) ([.int .i64 rp, .int .i64 rc, .int .i64 rq, .slice A9 ro.length c9, .int .i64 re]) 0 _ HR.out)
      replace HOP := hid (rb_owns (by decide) ([.int .i64 rp, .int .i64 rc, .int .i64 rq, .slice A9 ro.length c9, .int .i64 re]) 0 _ _ HOP.out HWB.out)
      replace HC := hid (FoC.set (o := 0) (vs := [.int .i64 rp, .int .i64 rc, .int .i64 rq, .slice A9 ro.length c9, .int .i64 re]) HC.out HWB.out z5_nos)
      replace HBl := hid (OwnBt.set (o := 0) (vs := [.int .i64 rp, .int .i64 rc, .int .i64 rq, .slice A9 ro.length c9, .int .i64 re]) HBl.out HWB.out (by decide) (by decide))
      replace HRG := hid (rng_set (G := k24.heap.size) (o := 0) (vs := [.int .i64 rp, .int .i64 rc, .int .i64 rq, .slice A9 ro.length c9, .int .i64 re]) HRG.out (by omega))
      replace HO1 := hid (ops_set (o := 0) (vs := [.int .i64 rp, .int .i64 rc, .int .i64 rq, .slice A9 ro.length c9, .int .i64 re]) HO1.out HWB.out z5_nos)
      replace HW1 := hid (Rb.others (g' := k24.heap.size) (by omega) ([.int .i64 rp, .int .i64 rc, .int .i64 rq, .slice A9 ro.length c9, .int .i64 re]) 0 _ HW1.out)
      replace HC2 := hid (FoC.set (o := 0) (vs := [.int .i64 rp, .int .i64 rc, .int .i64 rq, .slice A9 ro.length c9, .int .i64 re]) HC2.out HWB.out z5_nos)
      replace HO2 := hid (ops_set (o := 0) (vs := [.int .i64 rp, .int .i64 rc, .int .i64 rq, .slice A9 ro.length c9, .int .i64 re]) HO2.out HWB.out z5_nos)
      replace HGB := hid (Rb.others (g' := k24.heap.size) (by omega) ([.int .i64 rp, .int .i64 rc, .int .i64 rq, .slice A9 ro.length c9, .int .i64 re]) 0 _ HGB.out)
      replace HWB := hid (Rb.whole (vs := [.int .i64 rp, .int .i64 rc, .int .i64 rq, .slice A9 ro.length c9, .int .i64 re]) HWB.out (by simp [z38_len, z5_len, HLC.out, HLC2.out]))
      have hz9 : k27.heap.size ≤ (k27.setCells (k24.heap.size) 0 ([.int .i64 rp, .int .i64 rc, .int .i64 rq, .slice A9 ro.length c9, .int .i64 re])).heap.size := Nat.le_of_eq (sets_size _ _ _ _).symm
      have hy9 : (k27.setCells (k24.heap.size) 0 ([.int .i64 rp, .int .i64 rc, .int .i64 rq, .slice A9 ro.length c9, .int .i64 re])).heap.size ≤ k27.heap.size := Nat.le_of_eq (sets_size _ _ _ _)
      replace hb : Below w.heap.size w (k27.setCells (k24.heap.size) 0 ([.int .i64 rp, .int .i64 rc, .int .i64 rq, .slice A9 ro.length c9, .int .i64 re])) := below_sets (by omega) _ _ _ hb
      rw [hk9] at hz9 hy9 hb HD HR HOP HC HBl HRG HO1 HW1 HWB HC2 HO2 HGB
      have hltqk28 : k24.heap.size < k28.heap.size := Rb.lt HWB.out
      rw [hk9]
      clear hk9
      have m1 : Rb k28 gHR 39 cs := HR.out
      have m2 : k28.rangeAt g (k * 3) [.int .i64 bc, .int .i64 bq, .slice Ak bo.length ck] := HRG.out
      try dsimp only
      refine hK.out _ _ ?_ (fun hHeld => ?_)
      ·exact ⟨m1, m2⟩
      clear hK K
      try simp only [P9]
      refine wpAnyH_ready (rs := [14]) (by kernel_rfl) (by simp) ?_
      refine AllReadyH.cons (o := _) rfl (fun K hK => ?_) (AllReadyH.nil)
      go_simp
      refine hK.out _ _ ?_ (fun hHeld => ?_)
      ·exact ⟨m1, m2⟩
      clear hK K
      try simp only [P9]
      refine wpAnyH_done (by kernel_rfl) ?_ _
      refine NoPanic.normal ?_
      refine ⟨cs2, A9, c9, k23.heap.size, k24.heap.size, rfl, HD.out, HR.out, HBl.out, HO1.out, HW1.out, HC2.out, HO2.out, HGB.out, HWB.out, by omega, by omega, hb, by omega, by omega⟩
    ·rw [if_pos (by rfl)]
     refine wp_alloc7 36 z5 (by kernel_rfl) ?_
     obtain ⟨k24, hk9⟩ : ∃ x, k23.alloc (.cells (z5).toArray 36) = x := ⟨_, rfl⟩
     have hnew9 : Rb k24 k23.heap.size 36 z5 := by rw [← hk9]; exact Rb.new _ _ _
     have hk : Below k23.heap.size k23 k24 := by rw [← hk9]; exact below_one _ _
     have hzk24 : k23.heap.size < k24.heap.size := by rw [← hk9]; simp
     rw [hk9]
     clear hk9
     replace HD := hid (Fd.below HD.out hk)
     replace HR := hid (Rb.below HR.out hk)
     replace HOP := hid (ownsRow_below HOP.out hk)
     replace HC := hid (FoC.below HC.out hk)
     replace HBl := hid (OwnBt.below HBl.out hk)
     replace HRG := hid (range_below HRG.out hk LT9)
     replace HO1 := hid (Ops.more (Ops.keep HO1.out hk (Nat.le_refl _)) (Below.size hk))
     replace HW1 := hid (Rb.below HW1.out hk)
     replace hb : Below w.heap.size w k24 := hb.trans (hk.mono (by first | exact hb.size | omega | (simp; omega)))
     have HWB := hid hnew9; clear hnew9 hk
     have hltHWB : k23.heap.size < k24.heap.size := Rb.lt HWB.out
     have m1 : Rb k24 gHR 39 cs := HR.out
     have m2 : k24.rangeAt g (k * 3) [.int .i64 bc, .int .i64 bq, .slice Ak bo.length ck] := HRG.out
     try dsimp only
     refine hK.out _ _ ?_ (fun hHeld => ?_)
     ·exact ⟨m1, m2⟩
     clear hK K
     try simp only [P9]
     refine wpAnyH_ready (rs := [5, 10]) (by kernel_rfl) (by simp) ?_
     refine AllReadyH.cons (o := _) rfl (fun K hK => ?_) (AllReadyH.cons (o := _) rfl (fun K hK => ?_) (AllReadyH.nil))
     ·go_simp
      go_at_call 10
      refine (rnext_to _ _ cs f f2 bc bq bo _ y rp rc rq re ro _ HC.out (Nat.le_refl _) (Ops.of_own HOP.out) (Nat.le_refl _) HOK.out.1 (by have := HOK.out.2; omega) HG.out hp9 HY.out HST.out HRW.out).mono ?_
      rintro e k25 ⟨cs2, A9, c9, rfl, ⟨hc2, ho9⟩, h⟩
      have hk : Below k24.heap.size k24 k25 := HK9 h
      have hz := h.size
      try simp at hz
      replace HD := hid (Fd.below HD.out hk)
      replace HR := hid (Rb.below HR.out hk)
      replace HOP := hid (ownsRow_below HOP.out hk)
      replace HC := hid (FoC.below HC.out hk)
      replace HBl := hid (OwnBt.below HBl.out hk)
      replace HRG := hid (range_below HRG.out hk LT9)
      replace HO1 := hid (Ops.more (Ops.keep HO1.out hk (Nat.le_refl _)) (Below.size hk))
      replace HW1 := hid (Rb.below HW1.out hk)
      replace HWB := hid (Rb.below HWB.out hk)
      replace hb : Below w.heap.size w k25 := hb.trans (hk.mono hb.size)
      have HC2 := hid hc2; clear hc2
      have HO2 := hid ho9; clear ho9
      have hlc2 := HC2.out.len
      have HLC2 := hid hlc2; clear hlc2
      have hi2 : (Tryz.prog.info? 39).map (·.size) = some cs2.toArray.size := by rw [List.size_toArray, HLC2.out]; exact Tryz.infoFold7
      have hone2 := all_oneCell_toArray HC2.out.one
      clear h hk
      have m1 : Rb k25 gHR 39 cs := HR.out
      have m2 : k25.rangeAt g (k * 3) [.int .i64 bc, .int .i64 bq, .slice Ak bo.length ck] := HRG.out
      try dsimp only
      refine hK.out _ _ ?_ (fun hHeld => ?_)
      ·exact ⟨m1, m2⟩
      clear hK K
      try simp only [P9]
      refine tk9 6 (.tuple #[.agg cs2.toArray, .agg #[.int .i64 rp, .int .i64 rc, .int .i64 rq, .slice A9 ro.length c9, .int .i64 re], .bool y]) rfl (fun w hSw => ?_) ?_
      ·(try dsimp only at hSw)
       go_simp
      try simp only [P9]
      refine tk9 7 (.agg cs2.toArray) rfl (fun w hSw => ?_) ?_
      ·(try dsimp only at hSw)
       go_simp
      try simp only [P9]
      refine tk9 8 (.agg #[.int .i64 rp, .int .i64 rc, .int .i64 rq, .slice A9 ro.length c9, .int .i64 re]) rfl (fun w hSw => ?_) ?_
      ·(try dsimp only at hSw)
       go_simp
      try simp only [P9]
      refine tk9 9 (.bool y) rfl (fun w hSw => ?_) ?_
      ·(try dsimp only at hSw)
       go_simp
      try simp only [P9]
      refine wpAnyH_ready (rs := [10]) (by kernel_rfl) (by simp) ?_
      refine AllReadyH.cons (o := _) rfl (fun K hK => ?_) (AllReadyH.nil)
      rw [if_pos (by rfl)]
      refine wp_alloc7 39 z38 (by kernel_rfl) ?_
      obtain ⟨k26, hk9⟩ : ∃ x, k25.alloc (.cells (z38).toArray 39) = x := ⟨_, rfl⟩
      have hnew9 : Rb k26 k25.heap.size 39 z38 := by rw [← hk9]; exact Rb.new _ _ _
      have hk : Below k25.heap.size k25 k26 := by rw [← hk9]; exact below_one _ _
      have hzk26 : k25.heap.size < k26.heap.size := by rw [← hk9]; simp
      rw [hk9]
      clear hk9
      replace HD := hid (Fd.below HD.out hk)
      replace HR := hid (Rb.below HR.out hk)
      replace HOP := hid (ownsRow_below HOP.out hk)
      replace HC := hid (FoC.below HC.out hk)
      replace HBl := hid (OwnBt.below HBl.out hk)
      replace HRG := hid (range_below HRG.out hk LT9)
      replace HO1 := hid (Ops.more (Ops.keep HO1.out hk (Nat.le_refl _)) (Below.size hk))
      replace HW1 := hid (Rb.below HW1.out hk)
      replace HWB := hid (Rb.below HWB.out hk)
      replace HC2 := hid (FoC.below HC2.out hk)
      replace HO2 := hid (Ops.more (Ops.keep HO2.out hk (Nat.le_refl _)) (Below.size hk))
      replace hb : Below w.heap.size w k26 := hb.trans (hk.mono (by first | exact hb.size | omega | (simp; omega)))
      have HGB := hid hnew9; clear hnew9 hk
      have hltHGB : k25.heap.size < k26.heap.size := Rb.lt HGB.out
      have m1 : Rb k26 gHR 39 cs := HR.out
      have m2 : k26.rangeAt g (k * 3) [.int .i64 bc, .int .i64 bq, .slice Ak bo.length ck] := HRG.out
      try dsimp only
      refine hK.out _ _ ?_ (fun hHeld => ?_)
      ·exact ⟨m1, m2⟩
      clear hK K
      try simp only [P9]
      refine wpAnyH_ready (rs := [12]) (by kernel_rfl) (by simp) ?_
      refine AllReadyH.cons (o := _) rfl (fun K hK => ?_) (AllReadyH.nil)
      rw [if_pos (by rfl)]
      refine wp_store_mid 39 _ _ rfl (k25.heap.size) 0 cs2.toArray rfl rfl (HGB.out.there (by first | (simp [z38_len, z5_len, HLC.out, HLC2.out]; done) | (simp [z38_len, z5_len, HLC.out, HLC2.out]; omega))) hi2 hone2 ?_
      obtain ⟨k27, hk9⟩ : ∃ x, k26.setCells (k25.heap.size) 0 (cs2) = x := ⟨_, rfl⟩
      show K _ (k26.setCells (k25.heap.size) 0 (cs2))
      replace HD := hid (fd_row HD.out HGB.out (by decide) (by omega) (cs2) 0)
      replace HR := hid (Rb.others (g' := k25.heap.size) (by omega) (cs2) 0 _ HR.out)
      replace HOP := hid (rb_owns (by decide) (cs2) 0 _ _ HOP.out HGB.out)
      replace HC := hid (FoC.set (o := 0) (vs := cs2) HC.out HGB.out z38_nos)
      replace HBl := hid (OwnBt.set (o := 0) (vs := cs2) HBl.out HGB.out (by decide) (by decide))
      replace HRG := hid (rng_set (G := k25.heap.size) (o := 0) (vs := cs2) HRG.out (by omega))
      replace HO1 := hid (ops_set (o := 0) (vs := cs2) HO1.out HGB.out z38_nos)
      replace HW1 := hid (Rb.others (g' := k25.heap.size) (by omega) (cs2) 0 _ HW1.out)
      replace HWB := hid (Rb.others (g' := k25.heap.size) (by omega) (cs2) 0 _ HWB.out)
      replace HC2 := hid (FoC.set (o := 0) (vs := cs2) HC2.out HGB.out z38_nos)
      replace HO2 := hid (ops_set (o := 0) (vs := cs2) HO2.out HGB.out z38_nos)
      replace HGB := hid (Rb.whole (vs := cs2) HGB.out (by simp [z38_len, z5_len, HLC.out, HLC2.out]))
      have hz9 : k26.heap.size ≤ (k26.setCells (k25.heap.size) 0 (cs2)).heap.size := Nat.le_of_eq (sets_size _ _ _ _).symm
      have hy9 : (k26.setCells (k25.heap.size) 0 (cs2)).heap.size ≤ k26.heap.size := Nat.le_of_eq (sets_size _ _ _ _)
      replace hb : Below w.heap.size w (k26.setCells (k25.heap.size) 0 (cs2)) := below_sets (by omega) _ _ _ hb
      rw [hk9] at hz9 hy9 hb HD HR HOP HC HBl HRG HO1 HW1 HWB HC2 HO2 HGB
      have hltqk27 : k25.heap.size < k27.heap.size := Rb.lt HGB.out
      rw [hk9]
      clear hk9
      have m1 : Rb k27 gHR 39 cs := HR.out
      have m2 : k27.rangeAt g (k * 3) [.int .i64 bc, .int .i64 bq, .slice Ak bo.length ck] := HRG.out
      try dsimp only
      refine hK.out _ _ ?_ (fun hHeld => ?_)
      ·exact ⟨m1, m2⟩
      clear hK K
      try simp only [P9]
      refine wpAnyH_ready (rs := [13]) (by kernel_rfl) (by simp) ?_
      refine AllReadyH.cons (o := _) rfl (fun K hK => ?_) (AllReadyH.nil)
      rw [if_pos (by rfl)]
      refine wp_store_mid 36 _ _ rfl (k23.heap.size) 0 #[.int .i64 rp, .int .i64 rc, .int .i64 rq, .slice A9 ro.length c9, .int .i64 re] rfl rfl (HWB.out.there (by first | (simp [z38_len, z5_len, HLC.out, HLC2.out]; done) | (simp [z38_len, z5_len, HLC.out, HLC2.out]; omega))) Tryz.infoRow7 (all_oneCell_toArray (r5_one rp rc rq re A9 ro.length c9)) ?_
      obtain ⟨k28, hk9⟩ : ∃ x, k27.setCells (k23.heap.size) 0 ([.int .i64 rp, .int .i64 rc, .int .i64 rq, .slice A9 ro.length c9, .int .i64 re]) = x := ⟨_, rfl⟩
      show K _ (k27.setCells (k23.heap.size) 0 ([.int .i64 rp, .int .i64 rc, .int .i64 rq, .slice A9 ro.length c9, .int .i64 re]))
      replace HD := hid (fd_row HD.out HWB.out (by decide) (by omega) ([.int .i64 rp, .int .i64 rc, .int .i64 rq, .slice A9 ro.length c9, .int .i64 re]) 0)
      replace HR := hid (Rb.others (g' := k23.heap.size) (by omega) ([.int .i64 rp, .int .i64 rc, .int .i64 rq, .slice A9 ro.length c9, .int .i64 re]) 0 _ HR.out)
      replace HOP := hid (rb_owns (by decide) ([.int .i64 rp, .int .i64 rc, .int .i64 rq, .slice A9 ro.length c9, .int .i64 re]) 0 _ _ HOP.out HWB.out)
      replace HC := hid (FoC.set (o := 0) (vs := [.int .i64 rp, .int .i64 rc, .int .i64 rq, .slice A9 ro.length c9, .int .i64 re]) HC.out HWB.out z5_nos)
      replace HBl := hid (OwnBt.set (o := 0) (vs := [.int .i64 rp, .int .i64 rc, .int .i64 rq, .slice A9 ro.length c9, .int .i64 re]) HBl.out HWB.out (by decide) (by decide))
      replace HRG := hid (rng_set (G := k23.heap.size) (o := 0) (vs := [.int .i64 rp, .int .i64 rc, .int .i64 rq, .slice A9 ro.length c9, .int .i64 re]) HRG.out (by omega))
      replace HO1 := hid (ops_set (o := 0) (vs := [.int .i64 rp, .int .i64 rc, .int .i64 rq, .slice A9 ro.length c9, .int .i64 re]) HO1.out HWB.out z5_nos)
      replace HW1 := hid (Rb.others (g' := k23.heap.size) (by omega) ([.int .i64 rp, .int .i64 rc, .int .i64 rq, .slice A9 ro.length c9, .int .i64 re]) 0 _ HW1.out)
      replace HC2 := hid (FoC.set (o := 0) (vs := [.int .i64 rp, .int .i64 rc, .int .i64 rq, .slice A9 ro.length c9, .int .i64 re]) HC2.out HWB.out z5_nos)
      replace HO2 := hid (ops_set (o := 0) (vs := [.int .i64 rp, .int .i64 rc, .int .i64 rq, .slice A9 ro.length c9, .int .i64 re]) HO2.out HWB.out z5_nos)
      replace HGB := hid (Rb.others (g' := k23.heap.size) (by omega) ([.int .i64 rp, .int .i64 rc, .int .i64 rq, .slice A9 ro.length c9, .int .i64 re]) 0 _ HGB.out)
      replace HWB := hid (Rb.whole (vs := [.int .i64 rp, .int .i64 rc, .int .i64 rq, .slice A9 ro.length c9, .int .i64 re]) HWB.out (by simp [z38_len, z5_len, HLC.out, HLC2.out]))
      have hz9 : k27.heap.size ≤ (k27.setCells (k23.heap.size) 0 ([.int .i64 rp, .int .i64 rc, .int .i64 rq, .slice A9 ro.length c9, .int .i64 re])).heap.size := Nat.le_of_eq (sets_size _ _ _ _).symm
      have hy9 : (k27.setCells (k23.heap.size) 0 ([.int .i64 rp, .int .i64 rc, .int .i64 rq, .slice A9 ro.length c9, .int .i64 re])).heap.size ≤ k27.heap.size := Nat.le_of_eq (sets_size _ _ _ _)
      replace hb : Below w.heap.size w (k27.setCells (k23.heap.size) 0 ([.int .i64 rp, .int .i64 rc, .int .i64 rq, .slice A9 ro.length c9, .int .i64 re])) := below_sets (by omega) _ _ _ hb
      rw [hk9] at hz9 hy9 hb HD HR HOP HC HBl HRG HO1 HW1 HWB HC2 HO2 HGB
      have hltqk28 : k23.heap.size < k28.heap.size := Rb.lt HWB.out
      rw [hk9]
      clear hk9
      have m1 : Rb k28 gHR 39 cs := HR.out
      have m2 : k28.rangeAt g (k * 3) [.int .i64 bc, .int .i64 bq, .slice Ak bo.length ck] := HRG.out
      try dsimp only
      refine hK.out _ _ ?_ (fun hHeld => ?_)
      ·exact ⟨m1, m2⟩
      clear hK K
      try simp only [P9]
      refine wpAnyH_ready (rs := [14]) (by kernel_rfl) (by simp) ?_
      refine AllReadyH.cons (o := _) rfl (fun K hK => ?_) (AllReadyH.nil)
      go_simp
      refine hK.out _ _ ?_ (fun hHeld => ?_)
      ·exact ⟨m1, m2⟩
      clear hK K
      try simp only [P9]
      refine wpAnyH_done (by kernel_rfl) ?_ _
      refine NoPanic.normal ?_
      refine ⟨cs2, A9, c9, k25.heap.size, k23.heap.size, rfl, HD.out, HR.out, HBl.out, HO1.out, HW1.out, HC2.out, HO2.out, HGB.out, HWB.out, by omega, by omega, hb, by omega, by omega⟩
     ·rw [if_pos (by rfl)]
      refine wp_alloc7 39 z38 (by kernel_rfl) ?_
      obtain ⟨k25, hk9⟩ : ∃ x, k24.alloc (.cells (z38).toArray 39) = x := ⟨_, rfl⟩
      have hnew9 : Rb k25 k24.heap.size 39 z38 := by rw [← hk9]; exact Rb.new _ _ _
      have hk : Below k24.heap.size k24 k25 := by rw [← hk9]; exact below_one _ _
      have hzk25 : k24.heap.size < k25.heap.size := by rw [← hk9]; simp
      rw [hk9]
      clear hk9
      replace HD := hid (Fd.below HD.out hk)
      replace HR := hid (Rb.below HR.out hk)
      replace HOP := hid (ownsRow_below HOP.out hk)
      replace HC := hid (FoC.below HC.out hk)
      replace HBl := hid (OwnBt.below HBl.out hk)
      replace HRG := hid (range_below HRG.out hk LT9)
      replace HO1 := hid (Ops.more (Ops.keep HO1.out hk (Nat.le_refl _)) (Below.size hk))
      replace HW1 := hid (Rb.below HW1.out hk)
      replace HWB := hid (Rb.below HWB.out hk)
      replace hb : Below w.heap.size w k25 := hb.trans (hk.mono (by first | exact hb.size | omega | (simp; omega)))
      have HGB := hid hnew9; clear hnew9 hk
      have hltHGB : k24.heap.size < k25.heap.size := Rb.lt HGB.out
      have m1 : Rb k25 gHR 39 cs := HR.out
      have m2 : k25.rangeAt g (k * 3) [.int .i64 bc, .int .i64 bq, .slice Ak bo.length ck] := HRG.out
      try dsimp only
      refine hK.out _ _ ?_ (fun hHeld => ?_)
      ·exact ⟨m1, m2⟩
      clear hK K
      try simp only [P9]
      refine wpAnyH_ready (rs := [5]) (by kernel_rfl) (by simp) ?_
      refine AllReadyH.cons (o := _) rfl (fun K hK => ?_) (AllReadyH.nil)
      go_simp
      go_at_call 10
      refine (rnext_to _ _ cs f f2 bc bq bo _ y rp rc rq re ro _ HC.out (Nat.le_refl _) (Ops.of_own HOP.out) (Nat.le_refl _) HOK.out.1 (by have := HOK.out.2; omega) HG.out hp9 HY.out HST.out HRW.out).mono ?_
      rintro e k26 ⟨cs2, A9, c9, rfl, ⟨hc2, ho9⟩, h⟩
      have hk : Below k25.heap.size k25 k26 := HK9 h
      have hz := h.size
      try simp at hz
      replace HD := hid (Fd.below HD.out hk)
      replace HR := hid (Rb.below HR.out hk)
      replace HOP := hid (ownsRow_below HOP.out hk)
      replace HC := hid (FoC.below HC.out hk)
      replace HBl := hid (OwnBt.below HBl.out hk)
      replace HRG := hid (range_below HRG.out hk LT9)
      replace HO1 := hid (Ops.more (Ops.keep HO1.out hk (Nat.le_refl _)) (Below.size hk))
      replace HW1 := hid (Rb.below HW1.out hk)
      replace HWB := hid (Rb.below HWB.out hk)
      replace HGB := hid (Rb.below HGB.out hk)
      replace hb : Below w.heap.size w k26 := hb.trans (hk.mono hb.size)
      have HC2 := hid hc2; clear hc2
      have HO2 := hid ho9; clear ho9
      have hlc2 := HC2.out.len
      have HLC2 := hid hlc2; clear hlc2
      have hi2 : (Tryz.prog.info? 39).map (·.size) = some cs2.toArray.size := by rw [List.size_toArray, HLC2.out]; exact Tryz.infoFold7
      have hone2 := all_oneCell_toArray HC2.out.one
      clear h hk
      have m1 : Rb k26 gHR 39 cs := HR.out
      have m2 : k26.rangeAt g (k * 3) [.int .i64 bc, .int .i64 bq, .slice Ak bo.length ck] := HRG.out
      try dsimp only
      refine hK.out _ _ ?_ (fun hHeld => ?_)
      ·exact ⟨m1, m2⟩
      clear hK K
      try simp only [P9]
      refine tk9 6 (.tuple #[.agg cs2.toArray, .agg #[.int .i64 rp, .int .i64 rc, .int .i64 rq, .slice A9 ro.length c9, .int .i64 re], .bool y]) rfl (fun w hSw => ?_) ?_
      ·(try dsimp only at hSw)
       go_simp
      try simp only [P9]
      refine tk9 7 (.agg cs2.toArray) rfl (fun w hSw => ?_) ?_
      ·(try dsimp only at hSw)
       go_simp
      try simp only [P9]
      refine tk9 8 (.agg #[.int .i64 rp, .int .i64 rc, .int .i64 rq, .slice A9 ro.length c9, .int .i64 re]) rfl (fun w hSw => ?_) ?_
      ·(try dsimp only at hSw)
       go_simp
      try simp only [P9]
      refine tk9 9 (.bool y) rfl (fun w hSw => ?_) ?_
      ·(try dsimp only at hSw)
       go_simp
      try simp only [P9]
      refine wpAnyH_ready (rs := [12]) (by kernel_rfl) (by simp) ?_
      refine AllReadyH.cons (o := _) rfl (fun K hK => ?_) (AllReadyH.nil)
      rw [if_pos (by rfl)]
      refine wp_store_mid 39 _ _ rfl (k24.heap.size) 0 cs2.toArray rfl rfl (HGB.out.there (by first | (simp [z38_len, z5_len, HLC.out, HLC2.out]; done) | (simp [z38_len, z5_len, HLC.out, HLC2.out]; omega))) hi2 hone2 ?_
      obtain ⟨k27, hk9⟩ : ∃ x, k26.setCells (k24.heap.size) 0 (cs2) = x := ⟨_, rfl⟩
      show K _ (k26.setCells (k24.heap.size) 0 (cs2))
      replace HD := hid (fd_row HD.out HGB.out (by decide) (by omega) (cs2) 0)
      replace HR := hid (Rb.others (g' := k24.heap.size) (by omega) (cs2) 0 _ HR.out)
      replace HOP := hid (rb_owns (by decide) (cs2) 0 _ _ HOP.out HGB.out)
      replace HC := hid (FoC.set (o := 0) (vs := cs2) HC.out HGB.out z38_nos)
      replace HBl := hid (OwnBt.set (o := 0) (vs := cs2) HBl.out HGB.out (by decide) (by decide))
      replace HRG := hid (rng_set (G := k24.heap.size) (o := 0) (vs := cs2) HRG.out (by omega))
      replace HO1 := hid (ops_set (o := 0) (vs := cs2) HO1.out HGB.out z38_nos)
      replace HW1 := hid (Rb.others (g' := k24.heap.size) (by omega) (cs2) 0 _ HW1.out)
      replace HWB := hid (Rb.others (g' := k24.heap.size) (by omega) (cs2) 0 _ HWB.out)
      replace HC2 := hid (FoC.set (o := 0) (vs := cs2) HC2.out HGB.out z38_nos)
      replace HO2 := hid (ops_set (o := 0) (vs := cs2) HO2.out HGB.out z38_nos)
      replace HGB := hid (Rb.whole (vs := cs2) HGB.out (by simp [z38_len, z5_len, HLC.out, HLC2.out]))
      have hz9 : k26.heap.size ≤ (k26.setCells (k24.heap.size) 0 (cs2)).heap.size := Nat.le_of_eq (sets_size _ _ _ _).symm
      have hy9 : (k26.setCells (k24.heap.size) 0 (cs2)).heap.size ≤ k26.heap.size := Nat.le_of_eq (sets_size _ _ _ _)
      replace hb : Below w.heap.size w (k26.setCells (k24.heap.size) 0 (cs2)) := below_sets (by omega) _ _ _ hb
      rw [hk9] at hz9 hy9 hb HD HR HOP HC HBl HRG HO1 HW1 HWB HGB HC2 HO2
      have hltqk27 : k24.heap.size < k27.heap.size := Rb.lt HGB.out
      rw [hk9]
      clear hk9
      have m1 : Rb k27 gHR 39 cs := HR.out
      have m2 : k27.rangeAt g (k * 3) [.int .i64 bc, .int .i64 bq, .slice Ak bo.length ck] := HRG.out
      try dsimp only
      refine hK.out _ _ ?_ (fun hHeld => ?_)
      ·exact ⟨m1, m2⟩
      clear hK K
      try simp only [P9]
      refine wpAnyH_ready (rs := [13]) (by kernel_rfl) (by simp) ?_
      refine AllReadyH.cons (o := _) rfl (fun K hK => ?_) (AllReadyH.nil)
      rw [if_pos (by rfl)]
      refine wp_store_mid 36 _ _ rfl (k23.heap.size) 0 #[.int .i64 rp, .int .i64 rc, .int .i64 rq, .slice A9 ro.length c9, .int .i64 re] rfl rfl (HWB.out.there (by first | (simp [z38_len, z5_len, HLC.out, HLC2.out]; done) | (simp [z38_len, z5_len, HLC.out, HLC2.out]; omega))) Tryz.infoRow7 (all_oneCell_toArray (r5_one rp rc rq re A9 ro.length c9)) ?_
      obtain ⟨k28, hk9⟩ : ∃ x, k27.setCells (k23.heap.size) 0 ([.int .i64 rp, .int .i64 rc, .int .i64 rq, .slice A9 ro.length c9, .int .i64 re]) = x := ⟨_, rfl⟩
      show K _ (k27.setCells (k23.heap.size) 0 ([.int .i64 rp, .int .i64 rc, .int .i64 rq, .slice A9 ro.length c9, .int .i64 re]))
      replace HD := hid (fd_row HD.out HWB.out (by decide) (by omega) ([.int .i64 rp, .int .i64 rc, .int .i64 rq, .slice A9 ro.length c9, .int .i64 re]) 0)
      replace HR := hid (Rb.others (g' := k23.heap.size) (by omega) ([.int .i64 rp, .int .i64 rc, .int .i64 rq, .slice A9 ro.length c9, .int .i64 re]) 0 _ HR.out)
      replace HOP := hid (rb_owns (by decide) ([.int .i64 rp, .int .i64 rc, .int .i64 rq, .slice A9 ro.length c9, .int .i64 re]) 0 _ _ HOP.out HWB.out)
      replace HC := hid (FoC.set (o := 0) (vs := [.int .i64 rp, .int .i64 rc, .int .i64 rq, .slice A9 ro.length c9, .int .i64 re]) HC.out HWB.out z5_nos)
      replace HBl := hid (OwnBt.set (o := 0) (vs := [.int .i64 rp, .int .i64 rc, .int .i64 rq, .slice A9 ro.length c9, .int .i64 re]) HBl.out HWB.out (by decide) (by decide))
      replace HRG := hid (rng_set (G := k23.heap.size) (o := 0) (vs := [.int .i64 rp, .int .i64 rc, .int .i64 rq, .slice A9 ro.length c9, .int .i64 re]) HRG.out (by omega))
      replace HO1 := hid (ops_set (o := 0) (vs := [.int .i64 rp, .int .i64 rc, .int .i64 rq, .slice A9 ro.length c9, .int .i64 re]) HO1.out HWB.out z5_nos)
      replace HW1 := hid (Rb.others (g' := k23.heap.size) (by omega) ([.int .i64 rp, .int .i64 rc, .int .i64 rq, .slice A9 ro.length c9, .int .i64 re]) 0 _ HW1.out)
      replace HC2 := hid (FoC.set (o := 0) (vs := [.int .i64 rp, .int .i64 rc, .int .i64 rq, .slice A9 ro.length c9, .int .i64 re]) HC2.out HWB.out z5_nos)
      replace HO2 := hid (ops_set (o := 0) (vs := [.int .i64 rp, .int .i64 rc, .int .i64 rq, .slice A9 ro.length c9, .int .i64 re]) HO2.out HWB.out z5_nos)
      replace HGB := hid (Rb.others (g' := k23.heap.size) (by omega) ([.int .i64 rp, .int .i64 rc, .int .i64 rq, .slice A9 ro.length c9, .int .i64 re]) 0 _ HGB.out)
      replace HWB := hid (Rb.whole (vs := [.int .i64 rp, .int .i64 rc, .int .i64 rq, .slice A9 ro.length c9, .int .i64 re]) HWB.out (by simp [z38_len, z5_len, HLC.out, HLC2.out]))
      have hz9 : k27.heap.size ≤ (k27.setCells (k23.heap.size) 0 ([.int .i64 rp, .int .i64 rc, .int .i64 rq, .slice A9 ro.length c9, .int .i64 re])).heap.size := Nat.le_of_eq (sets_size _ _ _ _).symm
      have hy9 : (k27.setCells (k23.heap.size) 0 ([.int .i64 rp, .int .i64 rc, .int .i64 rq, .slice A9 ro.length c9, .int .i64 re])).heap.size ≤ k27.heap.size := Nat.le_of_eq (sets_size _ _ _ _)
      replace hb : Below w.heap.size w (k27.setCells (k23.heap.size) 0 ([.int .i64 rp, .int .i64 rc, .int .i64 rq, .slice A9 ro.length c9, .int .i64 re])) := below_sets (by omega) _ _ _ hb
      rw [hk9] at hz9 hy9 hb HD HR HOP HC HBl HRG HO1 HW1 HWB HC2 HO2 HGB
      have hltqk28 : k23.heap.size < k28.heap.size := Rb.lt HWB.out
      rw [hk9]
      clear hk9
      have m1 : Rb k28 gHR 39 cs := HR.out
      have m2 : k28.rangeAt g (k * 3) [.int .i64 bc, .int .i64 bq, .slice Ak bo.length ck] := HRG.out
      try dsimp only
      refine hK.out _ _ ?_ (fun hHeld => ?_)
      ·exact ⟨m1, m2⟩
      clear hK K
      try simp only [P9]
      refine wpAnyH_ready (rs := [14]) (by kernel_rfl) (by simp) ?_
      refine AllReadyH.cons (o := _) rfl (fun K hK => ?_) (AllReadyH.nil)
      go_simp
      refine hK.out _ _ ?_ (fun hHeld => ?_)
      ·exact ⟨m1, m2⟩
      clear hK K
      try simp only [P9]
      refine wpAnyH_done (by kernel_rfl) ?_ _
      refine NoPanic.normal ?_
      refine ⟨cs2, A9, c9, k24.heap.size, k23.heap.size, rfl, HD.out, HR.out, HBl.out, HO1.out, HW1.out, HC2.out, HO2.out, HGB.out, HWB.out, by omega, by omega, hb, by omega, by omega⟩
   ·rintro a k52 ⟨cs2, A9, c9, GB, WB, rfl, hHD9, hHR9, hHBl9, hHO19, hHW19, hc2, ho2, hgb, hwb, hgb1, hwb1, hb, hne9, hkz⟩
    simp only [Act.put, List.setIfInBounds_toArray, List.set_cons_zero, List.set_cons_succ]
    have hlen2 := hc2.len
    have HLC2 := hid hlen2; clear hlen2
    have HL2 : (Tryz.prog.info? 39).map (·.size) = some cs2.toArray.size := by rw [List.size_toArray, HLC2.out]; exact Tryz.infoFold7
    have HL3 : (Tryz.prog.info? 39).map (·.size) = some cs2.length := by rw [HLC2.out]; exact Tryz.infoFold7
    have hone2 := all_oneCell_toArray hc2.one
    have HC2 := hid hc2; clear hc2
    have HO2 := hid ho2; clear ho2
    have HGB := hid hgb; clear hgb
    have HWB := hid hwb; clear hwb
    replace HD := hid hHD9; clear hHD9
    replace HR := hid hHR9; clear hHR9
    replace HBl := hid hHBl9; clear hHBl9
    replace HO1 := hid hHO19; clear hHO19
    replace HW1 := hid hHW19; clear hHW19
    have hltHW1b := HW1.out.lt
    have hltGB := HGB.out.lt
    have hltWB := HWB.out.lt
    have hltD2 := HD.out.lt
    have hltHR2 := HR.out.lt
    have hth1 := HR.out.there (o := 0) (n := cs2.toArray.size) (by rw [List.size_toArray, HLC.out, HLC2.out]; omega)
    have hrg2 := HGB.out.range
    go_upto_region 13 with (first | (refine wpList_load_mid rfl 39 _ rfl GB 0 rfl cs2 _ hrg2 Tryz.underlying39 rfl HL3 ?_) | (refine wpList_store_mid rfl 39 _ _ rfl gHR 0 cs2.toArray rfl rfl hth1 HL2 hone2 ?_))
    clear hth1 hrg2
    obtain ⟨k53, hk9⟩ : ∃ x, k52.setCells gHR 0 cs2 = x := ⟨_, rfl⟩
    try simp only [List.toList_toArray]
    replace HD := hid (fd_row HD.out HR.out (by decide) (by omega) (cs2) 0)
    replace HBl := hid (OwnBt.set (o := 0) (vs := cs2) HBl.out HR.out (by decide) (by decide))
    replace HO1 := hid (ops_set (o := 0) (vs := cs2) HO1.out HR.out HC.out.nos)
    replace HW1 := hid (Rb.others (g' := gHR) (by omega) (cs2) 0 _ HW1.out)
    replace HC2 := hid (FoC.set (o := 0) (vs := cs2) HC2.out HR.out HC.out.nos)
    replace HO2 := hid (ops_set (o := 0) (vs := cs2) HO2.out HR.out HC.out.nos)
    replace HGB := hid (Rb.others (g' := gHR) (by omega) (cs2) 0 _ HGB.out)
    replace HWB := hid (Rb.others (g' := gHR) (by omega) (cs2) 0 _ HWB.out)
    replace HR := hid (Rb.whole (vs := cs2) HR.out (by simp [z38_len, z5_len, HLC.out, HLC2.out]))
    have hz9 : k52.heap.size ≤ (k52.setCells (gHR) 0 (cs2)).heap.size := Nat.le_of_eq (sets_size _ _ _ _).symm
    have hy9 : (k52.setCells (gHR) 0 (cs2)).heap.size ≤ k52.heap.size := Nat.le_of_eq (sets_size _ _ _ _)
    replace hb : Below w.heap.size w (k52.setCells (gHR) 0 (cs2)) := below_sets (by omega) _ _ _ hb
    rw [hk9] at hz9 hy9 hb HD HR HBl HO1 HW1 HC2 HO2 HGB HWB
    have hltqk53 : gHR < k53.heap.size := Rb.lt HR.out
    rw [hk9]
    clear hk9
    have p0 : k53.cell? ⟨gHW1, 0, none⟩ = some (.int .i64 rp) := HW1.out.cell (j := 0) rfl
    have p1 : k53.cell? ⟨gHW1, 1, none⟩ = some (.int .i64 rc) := HW1.out.cell (j := 1) rfl
    have p2 : k53.cell? ⟨gHW1, 2, none⟩ = some (.int .i64 rq) := HW1.out.cell (j := 2) rfl
    have p3 : k53.cell? ⟨gHW1, 3, none⟩ = some (.slice A1 ro.length c1) := HW1.out.cell (j := 3) rfl
    have p4 : k53.cell? ⟨gHW1, 4, none⟩ = some (.int .i64 re) := HW1.out.cell (j := 4) rfl
    have q0 : k53.cell? ⟨WB, 0, none⟩ = some (.int .i64 rp) := HWB.out.cell (j := 0) rfl
    have q1 : k53.cell? ⟨WB, 1, none⟩ = some (.int .i64 rc) := HWB.out.cell (j := 1) rfl
    have q2 : k53.cell? ⟨WB, 2, none⟩ = some (.int .i64 rq) := HWB.out.cell (j := 2) rfl
    have q3 : k53.cell? ⟨WB, 3, none⟩ = some (.slice A9 ro.length c9) := HWB.out.cell (j := 3) rfl
    have q4 : k53.cell? ⟨WB, 4, none⟩ = some (.int .i64 re) := HWB.out.cell (j := 4) rfl
    have hyy : (y != y) = false := by cases y <;> rfl
    have hrg5 := HR.out.range
    go_wp2_with fail
    refine (reqRow_is _ _ _ ⟨rp, ⟨rc, rq, ro⟩, re⟩ _ ⟨_, rfl, (Ops.keep HO1.out BL9 (Nat.le_refl _))⟩ ⟨_, rfl, (Ops.keep HO2.out BL9 (Nat.le_refl _))⟩ (Nat.le_refl _) hro).mono ?_
    rintro e k54 ⟨rfl, h⟩
    have hk : Below k53.heap.size k53 k54 := HK9 h
    have hz := h.size
    try simp at hz
    replace HD := hid (Fd.below HD.out hk)
    replace HBl := hid (OwnBt.below HBl.out hk)
    replace HO1 := hid (Ops.more (Ops.keep HO1.out hk (Nat.le_refl _)) (Below.size hk))
    replace HW1 := hid (Rb.below HW1.out hk)
    replace HC2 := hid (FoC.below HC2.out hk)
    replace HO2 := hid (Ops.more (Ops.keep HO2.out hk (Nat.le_refl _)) (Below.size hk))
    replace HGB := hid (Rb.below HGB.out hk)
    replace HWB := hid (Rb.below HWB.out hk)
    replace HR := hid (Rb.below HR.out hk)
    replace hb : Below w.heap.size w k54 := hb.trans (hk.mono hb.size)
    clear h hk
    replace hrg5 := HR.out.range
    go_wp2_with (refine wpList_load_midG (by rfl) 39 _ rfl gHR 0 rfl cs2 _ hrg5 Tryz.underlying39 rfl HL3 ?_)
    clear hrg5
    refine (lsame7_is w.heap.size _ gd cs2 f2 _ (Fd.below HD.out BL9) (FoC.below HC2.out BL9) hb.size (Nat.le_refl _)).mono ?_
    rintro e k55 ⟨rfl, h⟩
    have hk : Below k54.heap.size k54 k55 := HK9 h
    have hz := h.size
    try simp at hz
    replace HD := hid (Fd.below HD.out hk)
    replace HBl := hid (OwnBt.below HBl.out hk)
    replace HO1 := hid (Ops.more (Ops.keep HO1.out hk (Nat.le_refl _)) (Below.size hk))
    replace HW1 := hid (Rb.below HW1.out hk)
    replace HC2 := hid (FoC.below HC2.out hk)
    replace HO2 := hid (Ops.more (Ops.keep HO2.out hk (Nat.le_refl _)) (Below.size hk))
    replace HGB := hid (Rb.below HGB.out hk)
    replace HWB := hid (Rb.below HWB.out hk)
    replace HR := hid (Rb.below HR.out hk)
    replace hb : Below w.heap.size w k55 := hb.trans (hk.mono hb.size)
    clear h hk
    go_wp2
    go_roundw
    case rel => exact ⟨k + 1, f2, cs2, by go_num, by omega, (Fd.below HD.out BL9), (Rb.below HR.out BL9), (FoC.below HC2.out BL9), by omega, (OwnBt.below HBl.out BL9), hb⟩
    case measure => first | (simp [intOf]; done) | (simp [intOf]; omega)
  ·have hkk : k = l.length := by omega
   subst hkk
   go_wp2
   go_ret
   exact ⟨rfl, hb⟩
set_option maxRecDepth 100000 in
theorem lifted (os : Os) (started : os.Started) (H : Type) (enc : TypeId × Value → H) :
  ReturnsInHanded {} Tryz.checked os 3 .any (Rows.foldAllSpec.pre6 enc Tryz.prog Tryz.f3 Rows.foldAllRow.domain false) (Rows.foldAllSpec.post enc Tryz.prog Tryz.f3 false true false false) := by
 refine returnsInHanded_of_change (C := Tryz.checked) own started (by kernel_rfl) Tryz.func3
  (ChangeSpec.witness6 (enc := enc) (C := Tryz.checked) false ⟨#[], #[.slice none 0 0], []⟩ 8 (by kernel_rfl) (by kernel_rfl) (by kernel_rfl) (by kernel_rfl)) ?_
 intro W base args ds gs before hval0 hW hcnd _
 have hval : ∀ (j : Nat) t v, Tryz.f3.params[j]? = some t → args[j]? = some v → Value.okWide Tryz.prog W .any base t v := hval0
 have hW' := hW
 obtain ⟨p, q, hA0, hV, rfl, hfz, hnd⟩ := hW
 have hA : DataW.TrodAll enc Tryz.prog W 0 (fun _ => true) true Tryz.f3.params.toList args.toList ds p := hA0
 have hA1 := hA
 rw [Tryz.params3] at hA hval
 obtain ⟨v0, vs0, d0, ds0, p0, q0, hargs, rfl, rfl, h0, r0⟩ := trodAll_cons hA
 obtain ⟨rfl, rfl, rfl⟩ := trodAll_nil r0
 obtain rfl : args = #[v0] := by cases args; simp_all
 obtain ⟨rfl, rfl⟩ := trodVars_none hV
 obtain ⟨A0, c0, a0, rfl, w0, x0⟩ := open_bats (hval 0 22 v0 rfl rfl) h0
 clear hA0 hval0
 simp only [List.append_nil] at hW'
 try simp only [List.append_nil] at hA1
 refine (walk W A0 c0 a0 w0 x0).mono fun e W' ⟨he, hg⟩ => ?_
 subst he
 exact ⟨_, rfl, law_end Tryz.laidOut (by kernel_rfl) hW' hA1 hg rfl rfl rfl (trodAll_mk1 (shut_bool Tryz.underlying4 _))⟩
theorem over : Rows.foldAllRow.holds Tryz.pinned (OpenSpec.ofChange Rows.foldAllSpec) :=
 OpenClaim.holds_of_wide 3 Tryz.f3 rfl rfl rfl rfl rfl rfl rfl ⟨rfl, rfl, rfl, rfl, rfl⟩ rfl rfl rfl rfl rfl (by kernel_rfl) Tryz.func3 (by kernel_rfl)
  (of_decide_eq_true (by kernel_rfl)) (by unfold Func.isWrapper; first | (rw [if_pos (by decide +kernel)]; kernel_rfl) | (rw [if_neg (by decide +kernel)]; exact ⟨rfl, rfl⟩))
  (fun os started H enc _ => lifted os started H enc)
theorem proved : Rows.FoldAllSaid := over
#print axioms proved
end Go.Proofs.YtegkhkcnoahhdaaGreat.foldAll
