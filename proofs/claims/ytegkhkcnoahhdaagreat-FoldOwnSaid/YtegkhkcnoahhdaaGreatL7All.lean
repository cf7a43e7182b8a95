import Derived.Test.YtegkhkcnoahhdaaGreatL7Walk
set_option linter.unusedSimpArgs false
set_option linter.unusedVariables false
namespace Go.Proofs.YtegkhkcnoahhdaaGreat
open Lib (hid)
open Go.RowKit
set_option maxRecDepth 100000
def allF (l : List Bat) : Fo := l.foldl stepF fo0
theorem OwnBt.bats {B : Nat} {v : Value} {l : List Bat} {w : World} (h : OwnBt B v l w) : Bats w w.heap.size v l := by
 obtain ⟨A, c, rfl⟩ := h.slice
 have hl : l.length ≤ c := by
  obtain ⟨ps, e, h1, _⟩ := id h
  rcases h1.2 with ⟨hv, h0⟩ | ⟨g, c', cur, hv, _, _, hnc, _⟩
  ·omega
  ·injection hv with _ _ e3; omega
 refine ⟨A, c, rfl, hl, fun h0 => ?_⟩
 obtain ⟨g, Ak, ck, hA, hg, _, _⟩ := h.at_ 0 h0
 subst hA
 refine ⟨g, 0, rfl, hg, fun k hk => ?_⟩
 obtain ⟨g', Ak, ck, hA, hg', hr, ho⟩ := h.at_ k hk
 injection hA with hA
 injection hA with hA _ _
 subst hA
 exact ⟨_, by rw [Nat.zero_add]; exact hr, Ops.of_own ho⟩
theorem allF_take {l : List Bat} {k : Nat} (h : k < l.length) : allF (l.take (k + 1)) = stepF (allF (l.take k)) l[k] := by
 unfold allF
 rw [List.take_add_one, List.getElem?_eq_getElem h, List.foldl_append]
 rfl
theorem nextFo_small {f : Fo} {b : Bat} {n : Int} (h : (f.place ≤ n ∧ 0 ≤ f.place) ∧ ∀ c, f.last c ≤ f.place) : ((stepF f b).place ≤ n + 1 ∧ 0 ≤ (stepF f b).place) ∧ ∀ c, (stepF f b).last c ≤ (stepF f b).place := by
 unfold stepF
 split
 ·rename_i hn
  unfold nextB at hn
  rw [Bool.and_eq_true, beq_iff_eq] at hn
  refine ⟨⟨by show f.place + 1 ≤ n + 1; omega, by show 0 ≤ f.place + 1; omega⟩, fun c => ?_⟩
  show upd f.last b.client.toNat b.seq c ≤ f.place + 1
  unfold upd
  split
  ·have := h.2 b.client.toNat; omega
  ·have := h.2 c; omega
 ·exact ⟨⟨by omega, h.1.2⟩, h.2⟩
theorem allF_go : ∀ (l : List Bat) (f : Fo) (n : Int), ((f.place ≤ n ∧ 0 ≤ f.place) ∧ ∀ c, f.last c ≤ f.place) → ((l.foldl stepF f).place ≤ n + l.length ∧ 0 ≤ (l.foldl stepF f).place) ∧ ∀ c, (l.foldl stepF f).last c ≤ (l.foldl stepF f).place
 | [], f, n, h => by simpa using h
 | b :: t, f, n, h => by
  have h2 := allF_go t (stepF f b) (n + 1) (nextFo_small h)
  simp only [List.foldl_cons, List.length_cons]
  exact ⟨⟨by have := h2.1.1; omega, h2.1.2⟩, h2.2⟩
theorem allF_small (l : List Bat) : (allF l).place ≤ l.length ∧ ∀ c, (allF l).last c ≤ l.length := by
 have h := allF_go l fo0 0 ⟨⟨by decide, by decide⟩, fun c => by show (0 : Int) ≤ 0; omega⟩
 unfold allF
 refine ⟨by have := h.1.1; omega, fun c => ?_⟩
 have h1 := h.2 c
 have h2 := h.1.1
 omega
set_option maxHeartbeats 1000000 in
theorem lall_is (B c : Nat) (A : Option Addr) (l : List Bat) (w : World) (h : Bats w B (.slice A l.length c) l) (hB : B ≤ w.heap.size) (hok : ∀ b ∈ l, b.ok ∧ b.ops.length ≤ 10) (hl : l.length ≤ 1000) :
  Calls Tryz.prog 13 #[.slice A l.length c] w fun e w' => ∃ v rows, e = .returned (.tuple #[v, rows]) ∧ FoldV w' w'.heap.size v (allF l) ∧ Below w.heap.size w w' := by
 have hb := Below.refl w.heap.size w
 have HL := hid h; clear h
 have HK := hid hok; clear hok
 go_enter Tryz.func13, Tryz.ntmps13
 go_upto_region 1 with fail
 refine wp_world (fun W => Rb W w.heap.size 39 z38 ∧ Below w.heap.size w W ∧ W.heap.size = w.heap.size + 1) ⟨Rb.new w _ z38, below_one w _, by simp⟩ ?_
 rintro W0 ⟨hr0, hb0, hz0⟩
 have HR0 := hid hr0; clear hr0
 have hth : ∀ W : World, (W.alloc (.cells z38.toArray 39)).there W.heap.size 0 z38.toArray.size := fun W => (Rb.new W _ z38).there (by simp)
 have hi38 : (Tryz.prog.info? 39).map (·.size) = some z38.toArray.size := Tryz.infoFold7
 have hone : z38.toArray.all (·.oneCell') = true := all_oneCell_toArray z38_one
 refine wp_region_lit ?_
 refine wpList_buildTo rfl 39 #[] rfl _ rfl z38.toArray (by kernel_rfl) ?_
 refine Great.wpList_allocTo rfl _ rfl (.pointer (some ⟨W0.heap.size, 0, none⟩)) (.cells z38.toArray 39) (by kernel_rfl) ?_
 refine wpList_store_mid rfl 39 _ _ rfl W0.heap.size 0 z38.toArray rfl rfl (hth W0) hi38 hone ?_
 refine wpList_nil ?_
 simp only [Act.put, List.setIfInBounds_toArray, List.set_cons_zero, List.set_cons_succ]
 refine body_worldx (fun W => Rb W w.heap.size 39 z38 ∧ Rb W W0.heap.size 39 z38 ∧ Below w.heap.size w W) ⟨?_, ?_, ?_⟩ ?_
 ·exact Rb.others (by omega) _ _ _ (HR0.out.below (below_one _ _))
 ·exact Rb.whole (Rb.new W0 _ z38) rfl
 ·exact below_sets (by omega) _ _ _ (hb0.alloc (by omega) _)
 rintro W1 ⟨hr0, hr1, hb1⟩
 have HR1 := hid hr1; clear hr1
 replace HR0 := hid hr0; clear hr0
 obtain ⟨g1, hg1⟩ : ∃ g, W0.heap.size = g := ⟨_, rfl⟩
 rw [hg1] at HR1 ⊢
 have hgw : w.heap.size < g1 := by omega
 have hlt1 := HR1.out.lt
 clear hb hb0
 go_wp2_with fail
 go_loopw [5, 6] (fun v i wr => ∃ (k : Nat) (f : Fo) (cs : List Value) (n : Nat), i = .int .i64 k ∧ k ≤ l.length ∧ Rb wr w.heap.size 39 z38 ∧ Rb wr g1 39 cs ∧ FoC wr wr.heap.size cs f ∧ allF (l.take k) = f ∧ FoG f ∧ f.place ≤ k ∧ OwnN (g1 + 1) v n wr ∧ n ≤ k ∧ Below w.heap.size w wr) (fun _ i _ => l.length - (intOf i).toNat)
 case atStart => exact ⟨0, fo0, z38, 0, rfl, Nat.zero_le _, HR0.out, HR1.out, foC_zero _ _, rfl, foG_0, by decide, OwnN.nil _ _, Nat.le_refl _, hb1⟩
 case round =>
  clear HR0 HR1 hlt1 hb1
  obtain ⟨k, f, cs, n, rfl, hk, hr0, hr1, hfc, hall, hgf, hpl, hown, hnk, hb⟩ := hrel
  have hlen9 := hfc.len
  have HR0 := hid hr0; clear hr0
  have HR1 := hid hr1; clear hr1
  have HC := hid hfc; clear hfc
  have HN := hid hown; clear hown
  have HA := hid hall; clear hall
  have HG := hid hgf; clear hgf
  have HLC := hid hlen9; clear hlen9
  have hlt1 := HR1.out.lt
  by_cases hkl : k < l.length
  ·obtain ⟨g, o, Ak, ck, rfl, hga, hr9, hops⟩ := HL.out.at_ k hkl
   have hok9 := HK.out l[k] (List.getElem_mem ..)
   have htk : allF (l.take (k + 1)) = stepF (allF (l.take k)) l[k] := by
    unfold allF
    rw [List.take_add_one, List.getElem?_eq_getElem hkl, List.foldl_append]
    rfl
   rw [HA.out] at htk
   obtain ⟨b, hbe⟩ : ∃ b, l[k] = b := ⟨_, rfl⟩
   rw [hbe] at hr9 hops hok9 htk
   clear hbe
   obtain ⟨bc, bq, bo⟩ := b
   simp only at hr9 hops hok9
   have hgz : g < w.heap.size := Nat.lt_of_lt_of_le hga hB
   have hgl : g < wr.heap.size := Nat.lt_of_lt_of_le hgz hb.size
   have HRG := hid (range_below hr9 hb hgz); clear hr9
   have HOP := hid ((hops.keep hb hB).more (Nat.le_of_lt (Nat.lt_of_le_of_lt hB (Nat.lt_of_le_of_lt hb.size (Nat.lt_succ_self _)))) |> fun h => (hops.keep hb hB).more (Nat.le_trans hB hb.size)); clear hops
   obtain ⟨y, hy⟩ : ∃ y, nextB f ⟨bc, bq, bo⟩ = y := ⟨_, rfl⟩
   obtain ⟨f2, hst⟩ : ∃ f2, stepF f ⟨bc, bq, bo⟩ = f2 := ⟨_, rfl⟩
   obtain ⟨⟨rp, ⟨rc, rq, ro⟩, re⟩, hrw⟩ : ∃ r, rowF f ⟨bc, bq, bo⟩ = r := ⟨_, rfl⟩
   have hp9 : f.place ≤ 1000000000000000 := by omega
   have hg2 : FoG f2 := by rw [← hst]; exact stepF_good HG.out hok9.1 hp9
   have hp2 : f2.place ≤ (k : Int) + 1 := by have := stepF_place f ⟨bc, bq, bo⟩; rw [hst] at this; omega
   rw [hst] at htk
   have HST := hid hst; clear hst
   have HY := hid hy; clear hy
   have HRW := hid hrw; clear hrw
   have HTK := hid htk; clear htk
   have HG2 := hid hg2; clear hg2
   have HOK := hid hok9; clear hok9
   have hki : (k : Int) < (l.length : Int) := by omega
   have hi0 : (Tryz.prog.info? 39).map (·.size) = some cs.length := by rw [HLC.out]; exact Tryz.infoFold7
   have hi3 : (Tryz.prog.info? 33).map (·.size) = some 3 := by kernel_rfl
   go_upto_region 6 with fail
   refine wp_meetx (fun a b W => ∃ cs2 A9 c9 GB WB, b = (((((((((((((a.put (some 18) (.agg cs.toArray)).put (some 19) (.slice (some ⟨g, o, none⟩) l.length c)).put (some 20) (.int .i64 k)).put (some 21) (.pointer (some ⟨g, o + k * 3, none⟩))).put (some 22) (.agg #[.int .i64 bc, .int .i64 bq, .slice Ak bo.length ck])).put (some 23) (.tuple #[.agg cs2.toArray, .agg #[.int .i64 rp, .int .i64 rc, .int .i64 rq, .slice A9 ro.length c9, .int .i64 re], .bool y])).put (some 17) (.tuple #[.agg cs2.toArray, .agg #[.int .i64 rp, .int .i64 rc, .int .i64 rq, .slice A9 ro.length c9, .int .i64 re], .bool y])).put (some 24) (.agg cs2.toArray)).put (some 25) (.agg #[.int .i64 rp, .int .i64 rc, .int .i64 rq, .slice A9 ro.length c9, .int .i64 re])).put (some 26) (.bool y)).put (some 7) (.pointer (some ⟨GB, 0, none⟩))).put (some 8) (.pointer (some ⟨WB, 0, none⟩))).put (some 9) (.bool y)) ∧ Rb W w.heap.size 39 z38 ∧ Rb W g1 39 cs ∧ OwnN (g1 + 1) u5 n W ∧ FoC W W.heap.size cs2 f2 ∧ Rb W GB 39 cs2 ∧ Rb W WB 36 [.int .i64 rp, .int .i64 rc, .int .i64 rq, .slice A9 ro.length c9, .int .i64 re] ∧ g1 < GB ∧ g1 < WB ∧ Below w.heap.size w W ∧ FoC W W.heap.size cs f ∧ u5.ownBlock ≠ some GB ∧ u5.ownBlock ≠ some WB) ?_ ?_
   ·have hvb : ∀ G, u5.ownBlock = some G → G < wr.heap.size := fun G e => by
     obtain ⟨xs, h1, _⟩ := HN.out
     exact (World.ownsRow.lt h1 _ e).2
    replace HR0 := hid (Rb.below HR0.out ((Below.refl wr.heap.size wr).drew))
    replace HR1 := hid (Rb.below HR1.out ((Below.refl wr.heap.size wr).drew))
    replace HC := hid (FoC.below HC.out ((Below.refl wr.heap.size wr).drew))
    replace HN := hid (OwnN.below HN.out ((Below.refl wr.heap.size wr).drew))
    replace HRG := hid (range_below HRG.out ((Below.refl wr.heap.size wr).drew) LT9)
    replace HOP := hid (Ops.more (Ops.keep HOP.out ((Below.refl wr.heap.size wr).drew) (Nat.le_refl _)) (Below.size ((Below.refl wr.heap.size wr).drew)))
    have m1 : Rb wr.drew g1 39 cs := HR1.out
    have m2 : wr.drew.rangeAt g (o + k * 3) [.int .i64 bc, .int .i64 bq, .slice Ak bo.length ck] := HRG.out
    refine wp_region_noPanic ?_
    refine wp_region_held_drew (S := fun W => Rb W g1 39 cs ∧ W.rangeAt g (o + k * 3) [.int .i64 bc, .int .i64 bq, .slice Ak bo.length ck]) (by kernel_rfl) ?_ (fun hHeld => ?_)
    ·exact ⟨m1, m2⟩
    replace hb : Below w.heap.size w wr.drew := hb.drew
    have hzd : wr.heap.size ≤ wr.drew.heap.size := Nat.le_refl _
    generalize wr.drew = k11 at *
    refine tk8 (i := 0) (oi := { dst := some 18, op := Op.load 39 (Operand.tmp 4), type := 39, pos := "ref.go:71", after := #[], guard := none }) (v := .agg cs.toArray) (yieldsIf_load_mid (by rfl) 39 _ rfl g1 0 rfl cs _ (fun w h => h.1.range) Tryz.underlying39 rfl hi0) ?_
    try simp only [P9]
    refine tk9 1 (.slice (some ⟨g, o, none⟩) l.length c) rfl (fun w hSw => ?_) ?_
    ·(try dsimp only at hSw)
     go_simp
    try simp only [P9]
    refine tk9 2 (.int .i64 k) rfl (fun w hSw => ?_) ?_
    ·(try dsimp only at hSw)
     go_simp
    try simp only [P9]
    refine tk9 3 (.pointer (some ⟨g, o + k * 3, none⟩)) rfl (fun w hSw => ?_) ?_
    ·(try dsimp only at hSw)
     go_simp
    try simp only [P9]
    refine tk8 (i := 4) (oi := { dst := some 22, op := Op.load 33 (Operand.tmp 21), type := 33, pos := "ref.go:71", after := #[{ on := 3, ground := Ground.data }], guard := none }) (v := .agg #[.int .i64 bc, .int .i64 bq, .slice Ak bo.length ck]) (yieldsIf_load_mid (by rfl) 33 _ rfl g (o + k * 3) rfl [.int .i64 bc, .int .i64 bq, .slice Ak bo.length ck] _ (fun w h => h.2) Tryz.underlying33 rfl hi3) ?_
    try simp only [P9]
    refine wpAnyH_ready (rs := [5, 10, 11]) (by kernel_rfl) (by simp) ?_
    refine AllReadyH.cons (o := _) rfl (fun K hK => ?_) (AllReadyH.cons (o := _) rfl (fun K hK => ?_) (AllReadyH.cons (o := _) rfl (fun K hK => ?_) (AllReadyH.nil)))
    ·go_simp
     go_at_call 10
     refine (rnext_to _ _ cs f f2 bc bq bo _ y rp rc rq re ro _ HC.out (Nat.le_refl _) HOP.out (Nat.le_refl _) HOK.out.1 (by have := HOK.out.2; omega) HG.out hp9 HY.out HST.out HRW.out).mono ?_
     rintro e k12 ⟨cs2, A9, c9, rfl, ⟨hc2, ho9⟩, h⟩
     have hk : Below k11.heap.size k11 k12 := HK9 h
     have hz := h.size
     try simp at hz
     replace HR0 := hid (Rb.below HR0.out hk)
     replace HR1 := hid (Rb.below HR1.out hk)
     replace HC := hid (FoC.below HC.out hk)
     replace HN := hid (OwnN.below HN.out hk)
     replace HRG := hid (range_below HRG.out hk LT9)
     replace HOP := hid (Ops.more (Ops.keep HOP.out hk (Nat.le_refl _)) (Below.size hk))
     replace hb : Below w.heap.size w k12 := hb.trans (hk.mono hb.size)
     have HC2 := hid hc2; clear hc2
     clear ho9
     have hlc2 := HC2.out.len
     have HLC2 := hid hlc2; clear hlc2
     have hi2 : (Tryz.prog.info? 39).map (·.size) = some cs2.toArray.size := by rw [List.size_toArray, HLC2.out]; exact Tryz.infoFold7
     have hone2 := all_oneCell_toArray HC2.out.one
     clear h hk
     have m1 : Rb k12 g1 39 cs := HR1.out
     have m2 : k12.rangeAt g (o + k * 3) [.int .i64 bc, .int .i64 bq, .slice Ak bo.length ck] := HRG.out
     try dsimp only
     refine hK.out _ _ ?_ (fun hHeld => ?_)
     ·exact ⟨m1, m2⟩
     clear hK K
     try simp only [P9]
     refine tk9 6 (.tuple #[.agg cs2.toArray, .agg #[.int .i64 rp, .int .i64 rc, .int .i64 rq, .slice A9 ro.length c9, .int .i64 re], .bool y]) rfl (fun w hSw => ?_) ?_
     ·(try dsimp only at hSw)
      go_simp
     try simp only [P9]
     refine tk9 7 (.agg cs2.toArray) rfl (fun w hSw => ?_) ?_
     ·(try dsimp only at hSw)
      go_simp
     try simp only [P9]
     refine tk9 8 (.agg #[.int .i64 rp, .int .i64 rc, .int .i64 rq, .slice A9 ro.length c9, .int .i64 re]) rfl (fun w hSw => ?_) ?_
     ·(try dsimp only at hSw)
      go_simp
     try simp only [P9]
     refine tk9 9 (.bool y) rfl (fun w hSw => ?_) ?_
     ·(try dsimp only at hSw)
      go_simp
     try simp only [P9]
     refine wpAnyH_ready (rs := [10, 11]) (by kernel_rfl) (by simp) ?_
     refine AllReadyH.cons (o := _) rfl (fun K hK => ?_) (AllReadyH.cons (o := _) rfl (fun K hK => ?_) (AllReadyH.nil))
     ·rw [if_pos (by rfl)]
      refine wp_alloc7 39 z38 (by kernel_rfl) ?_
      obtain ⟨k13, hk9⟩ : ∃ x, k12.alloc (.cells (z38).toArray 39) = x := ⟨_, rfl⟩
      have hnew9 : Rb k13 k12.heap.size 39 z38 := by rw [← hk9]; exact Rb.new _ _ _
      have hk : Below k12.heap.size k12 k13 := by rw [← hk9]; exact below_one _ _
      have hzk13 : k12.heap.size < k13.heap.size := by rw [← hk9]; simp
      rw [hk9]
      clear hk9
      replace HR0 := hid (Rb.below HR0.out hk)
      replace HR1 := hid (Rb.below HR1.out hk)
      replace HC := hid (FoC.below HC.out hk)
      replace HN := hid (OwnN.below HN.out hk)
      replace HRG := hid (range_below HRG.out hk LT9)
      replace HOP := hid (Ops.more (Ops.keep HOP.out hk (Nat.le_refl _)) (Below.size hk))
      replace HC2 := hid (FoC.below HC2.out hk)
      replace hb : Below w.heap.size w k13 := hb.trans (hk.mono (by first | exact hb.size | omega | (simp; omega)))
      have HGB := hid hnew9; clear hnew9 hk
      have hltHGB : k12.heap.size < k13.heap.size := Rb.lt HGB.out
      have m1 : Rb k13 g1 39 cs := HR1.out
      have m2 : k13.rangeAt g (o + k * 3) [.int .i64 bc, .int .i64 bq, .slice Ak bo.length ck] := HRG.out
      try dsimp only
      refine hK.out _ _ ?_ (fun hHeld => ?_)
      ·exact ⟨m1, m2⟩
      clear hK K
      try simp only [P9]
      refine wpAnyH_ready (rs := [11]) (by kernel_rfl) (by simp) ?_
      refine AllReadyH.cons (o := _) rfl (fun K hK => ?_) (AllReadyH.nil)
      rw [if_pos (by rfl)]
      refine wp_alloc7 36 z5 (by kernel_rfl) ?_
      obtain ⟨k14, hk9⟩ : ∃ x, k13.alloc (.cells (z5).toArray 36) = x := ⟨_, rfl⟩
      have hnew9 : Rb k14 k13.heap.size 36 z5 := by rw [← hk9]; exact Rb.new _ _ _
      have hk : Below k13.heap.size k13 k14 := by rw [← hk9]; exact below_one _ _
      have hzk14 : k13.heap.size < k14.heap.size := by rw [← hk9]; simp
      rw [hk9]
      clear hk9
      replace HR0 := hid (Rb.below HR0.out hk)
      replace HR1 := hid (Rb.below HR1.out hk)
      replace HC := hid (FoC.below HC.out hk)
      replace HN := hid (OwnN.below HN.out hk)
      replace HRG := hid (range_below HRG.out hk LT9)
      replace HOP := hid (Ops.more (Ops.keep HOP.out hk (Nat.le_refl _)) (Below.size hk))
      replace HC2 := hid (FoC.below HC2.out hk)
      replace HGB := hid (Rb.below HGB.out hk)
      replace hb : Below w.heap.size w k14 := hb.trans (hk.mono (by first | exact hb.size | omega | (simp; omega)))
      have HWB := hid hnew9; clear hnew9 hk
      have hltHWB : k13.heap.size < k14.heap.size := Rb.lt HWB.out
      have m1 : Rb k14 g1 39 cs := HR1.out
      have m2 : k14.rangeAt g (o + k * 3) [.int .i64 bc, .int .i64 bq, .slice Ak bo.length ck] := HRG.out
      try dsimp only
      refine hK.out _ _ ?_ (fun hHeld => ?_)
      ·exact ⟨m1, m2⟩
      clear hK K
      try simp only [P9]
      refine wpAnyH_ready (rs := [12]) (by kernel_rfl) (by simp) ?_
      refine AllReadyH.cons (o := _) rfl (fun K hK => ?_) (AllReadyH.nil)
      rw [if_pos (by rfl)]
      refine wp_store_mid 39 _ _ rfl (k12.heap.size) 0 cs2.toArray rfl rfl (HGB.out.there (by first | (simp [z38_len, z5_len, HLC.out, HLC2.out]; done) | (simp [z38_len, z5_len, HLC.out, HLC2.out]; omega))) hi2 hone2 ?_
      obtain ⟨k15, hk9⟩ : ∃ x, k14.setCells (k12.heap.size) 0 (cs2) = x := ⟨_, rfl⟩
      show K _ (k14.setCells (k12.heap.size) 0 (cs2))
      replace HR0 := hid (Rb.others (g' := k12.heap.size) (by omega) (cs2) 0 _ HR0.out)
      replace HR1 := hid (Rb.others (g' := k12.heap.size) (by omega) (cs2) 0 _ HR1.out)
      replace HC := hid (FoC.set (o := 0) (vs := cs2) HC.out HGB.out z38_nos)
      replace HN := hid (OwnN.far HN.out (grown_setCells (k12.heap.size) (cs2) 0 _) (fun e => by have := hvb _ e; omega))
      replace HRG := hid (rng_set (G := k12.heap.size) (o := 0) (vs := cs2) HRG.out (by omega))
      replace HOP := hid (ops_set (o := 0) (vs := cs2) HOP.out HGB.out z38_nos)
      replace HC2 := hid (FoC.set (o := 0) (vs := cs2) HC2.out HGB.out z38_nos)
      replace HWB := hid (Rb.others (g' := k12.heap.size) (by omega) (cs2) 0 _ HWB.out)
      replace HGB := hid (Rb.whole (vs := cs2) HGB.out (by simp [z38_len, z5_len, HLC.out, HLC2.out]))
      have hz9 : k14.heap.size ≤ (k14.setCells (k12.heap.size) 0 (cs2)).heap.size := Nat.le_of_eq (sets_size _ _ _ _).symm
      have hy9 : (k14.setCells (k12.heap.size) 0 (cs2)).heap.size ≤ k14.heap.size := Nat.le_of_eq (sets_size _ _ _ _)
      replace hb : Below w.heap.size w (k14.setCells (k12.heap.size) 0 (cs2)) := below_sets (by omega) _ _ _ hb
      rw [hk9] at hz9 hy9 hb HR0 HR1 HC HN HRG HOP HC2 HGB HWB
      have hltqk15 : k12.heap.size < k15.heap.size := Rb.lt HGB.out
      rw [hk9]
      clear hk9
      have m1 : Rb k15 g1 39 cs := HR1.out
      have m2 : k15.rangeAt g (o + k * 3) [.int .i64 bc, .int .i64 bq, .slice Ak bo.length ck] := HRG.out
      try dsimp only
      refine hK.out _ _ ?_ (fun hHeld => ?_)
      ·exact ⟨m1, m2⟩
      clear hK K
      try simp only [P9]
      refine wpAnyH_ready (rs := [13]) (by kernel_rfl) (by simp) ?_
      refine AllReadyH.cons (o := _) rfl (fun K hK => ?_) (AllReadyH.nil)
      rw [if_pos (by rfl)]
      refine wp_store_mid 36 _ _ rfl (k13.heap.size) 0 #[.int .i64 rp, .int .i64 rc, .int .i64 rq, .slice A9 ro.length c9, .int .i64 re] rfl rfl (HWB.out.there (by first | (simp [z38_len, z5_len, HLC.out, HLC2.out]; done) | (simp [z38_len, z5_len, HLC.out, HLC2.out]; omega))) Tryz.infoRow7 (all_oneCell_toArray (r5_one rp rc rq re A9 ro.length c9)) ?_
      obtain ⟨k16, hk9⟩ : ∃ x, k15.setCells (k13.heap.size) 0 ([.int .i64 rp, .int .i64 rc, .int .i64 rq, .slice A9 ro.length c9, .int .i64 re]) = x := ⟨_, rfl⟩
      show K _ (k15.setCells (k13.heap.size) 0 ([.int .i64 rp, .int .i64 rc, .int .i64 rq, .slice A9 ro.length c9, .int .i64 re]))
      replace HR0 := hid (Rb.others (g' := k13.heap.size) (by omega) ([.int .i64 rp, .int .i64 rc, .int .i64 rq, .slice A9 ro.length c9, .int .i64 re]) 0 _ HR0.out)
      replace HR1 := hid (Rb.others (g' := k13.heap.size) (by omega) ([.int .i64 rp, .int .i64 rc, .int .i64 rq, .slice A9 ro.length c9, .int .i64 re]) 0 _ HR1.out)
      replace HC := hid (FoC.set (o := 0) (vs := [.int .i64 rp, .int .i64 rc, .int .i64 rq, .slice A9 ro.length c9, .int .i64 re]) HC.out HWB.out z5_nos)
      replace HN := hid (OwnN.far HN.out (grown_setCells (k13.heap.size) ([.int .i64 rp, .int .i64 rc, .int .i64 rq, .slice A9 ro.length c9, .int .i64 re]) 0 _) (fun e => by have := hvb _ e; omega))
      replace HRG := hid (rng_set (G := k13.heap.size) (o := 0) (vs := [.int .i64 rp, .int .i64 rc, .int .i64 rq, .slice A9 ro.length c9, .int .i64 re]) HRG.out (by omega))
      replace HOP := hid (ops_set (o := 0) (vs := [.int .i64 rp, .int .i64 rc, .int .i64 rq, .slice A9 ro.length c9, .int .i64 re]) HOP.out HWB.out z5_nos)
      replace HC2 := hid (FoC.set (o := 0) (vs := [.int .i64 rp, .int .i64 rc, .int .i64 rq, .slice A9 ro.length c9, .int .i64 re]) HC2.out HWB.out z5_nos)
      replace HGB := hid (Rb.others (g' := k13.heap.size) (by omega) ([.int .i64 rp, .int .i64 rc, .int .i64 rq, .slice A9 ro.length c9, .int .i64 re]) 0 _ HGB.out)
      replace HWB := hid (Rb.whole (vs := [.int .i64 rp, .int .i64 rc, .int .i64 rq, .slice A9 ro.length c9, .int .i64 re]) HWB.out (by simp [z38_len, z5_len, HLC.out, HLC2.out]))
      have hz9 : k15.heap.size ≤ (k15.setCells (k13.heap.size) 0 ([.int .i64 rp, .int .i64 rc, .int .i64 rq, .slice A9 ro.length c9, .int .i64 re])).heap.size := Nat.le_of_eq (sets_size _ _ _ _).symm
      have hy9 : (k15.setCells (k13.heap.size) 0 ([.int .i64 rp, .int .i64 rc, .int .i64 rq, .slice A9 ro.length c9, .int .i64 re])).heap.size ≤ k15.heap.size := Nat.le_of_eq (sets_size _ _ _ _)
      replace hb : Below w.heap.size w (k15.setCells (k13.heap.size) 0 ([.int .i64 rp, .int .i64 rc, .int .i64 rq, .slice A9 ro.length c9, .int .i64 re])) := below_sets (by omega) _ _ _ hb
      rw [hk9] at hz9 hy9 hb HR0 HR1 HC HN HRG HOP HC2 HWB HGB
      have hltqk16 : k13.heap.size < k16.heap.size := Rb.lt HWB.out
      rw [hk9]
      clear hk9
      have m1 : Rb k16 g1 39 cs := HR1.out
      have m2 : k16.rangeAt g (o + k * 3) [.int .i64 bc, .int .i64 bq, .slice Ak bo.length ck] := HRG.out
      try dsimp only
      refine hK.out _ _ ?_ (fun hHeld => ?_)
      ·exact ⟨m1, m2⟩
      clear hK K
      try simp only [P9]
      refine wpAnyH_ready (rs := [14]) (by kernel_rfl) (by simp) ?_
      refine AllReadyH.cons (o := _) rfl (fun K hK => ?_) (AllReadyH.nil)
      go_simp
      refine hK.out _ _ ?_ (fun hHeld => ?_)
      ·exact ⟨m1, m2⟩
      clear hK K
      try simp only [P9]
      refine wpAnyH_done (by kernel_rfl) ?_ _
      refine NoPanic.normal ?_
      refine ⟨cs2, A9, c9, k12.heap.size, k13.heap.size, rfl, HR0.out, HR1.out, HN.out, HC2.out, HGB.out, HWB.out, by omega, by omega, hb, HC.out, ?_, ?_⟩
      all_goals
       intro e
       have := hvb _ e
       omega
     ·rw [if_pos (by rfl)]
      refine wp_alloc7 36 z5 (by kernel_rfl) ?_
      obtain ⟨k13, hk9⟩ : ∃ x, k12.alloc (.cells (z5).toArray 36) = x := ⟨_, rfl⟩
      have hnew9 : Rb k13 k12.heap.size 36 z5 := by rw [← hk9]; exact Rb.new _ _ _
      have hk : Below k12.heap.size k12 k13 := by rw [← hk9]; exact below_one _ _
      have hzk13 : k12.heap.size < k13.heap.size := by rw [← hk9]; simp
      rw [hk9]
      clear hk9
      replace HR0 := hid (Rb.below HR0.out hk)
      replace HR1 := hid (Rb.below HR1.out hk)
      replace HC := hid (FoC.below HC.out hk)
      replace HN := hid (OwnN.below HN.out hk)
      replace HRG := hid (range_below HRG.out hk LT9)
      replace HOP := hid (Ops.more (Ops.keep HOP.out hk (Nat.le_refl _)) (Below.size hk))
      replace HC2 := hid (FoC.below HC2.out hk)
      replace hb : Below w.heap.size w k13 := hb.trans (hk.mono (by first | exact hb.size | omega | (simp; omega)))
      have HWB := hid hnew9; clear hnew9 hk
      have hltHWB : k12.heap.size < k13.heap.size := Rb.lt HWB.out
      have m1 : Rb k13 g1 39 cs := HR1.out
      have m2 : k13.rangeAt g (o + k * 3) [.int .i64 bc, .int .i64 bq, .slice Ak bo.length ck] := HRG.out
      try dsimp only
      refine hK.out _ _ ?_ (fun hHeld => ?_)
      ·exact ⟨m1, m2⟩
      clear hK K
      try simp only [P9]
      refine wpAnyH_ready (rs := [10]) (by kernel_rfl) (by simp) ?_
      refine AllReadyH.cons (o := _) rfl (fun K hK => ?_) (AllReadyH.nil)
      rw [if_pos (by rfl)]
      refine wp_alloc7 39 z38 (by kernel_rfl) ?_
      obtain ⟨k14, hk9⟩ : ∃ x, k13.alloc (.cells (z38).toArray 39) = x := ⟨_, rfl⟩
      have hnew9 : Rb k14 k13.heap.size 39 z38 := by rw [← hk9]; exact Rb.new _ _ _
      have hk : Below k13.heap.size k13 k14 := by rw [← hk9]; exact below_one _ _
      have hzk14 : k13.heap.size < k14.heap.size := by rw [← hk9]; simp
      rw [hk9]
      clear hk9
      replace HR0 := hid (Rb.below HR0.out hk)
      replace HR1 := hid (Rb.below HR1.out hk)
      replace HC := hid (FoC.below HC.out hk)
      replace HN := hid (OwnN.below HN.out hk)
      replace HRG := hid (range_below HRG.out hk LT9)
      replace HOP := hid (Ops.more (Ops.keep HOP.out hk (Nat.le_refl _)) (Below.size hk))
      replace HC2 := hid (FoC.below HC2.out hk)
      replace HWB := hid (Rb.below HWB.out hk)
      replace hb : Below w.heap.size w k14 := hb.trans (hk.mono (by first | exact hb.size | omega | (simp; omega)))
      have HGB := hid hnew9; clear hnew9 hk
      have hltHGB : k13.heap.size < k14.heap.size := Rb.lt HGB.out
      have m1 : Rb k14 g1 39 cs := HR1.out
      have m2 : k14.rangeAt g (o + k * 3) [.int .i64 bc, .int .i64 bq, .slice Ak bo.length ck] := HRG.out
      try dsimp only
      refine hK.out _ _ ?_ (fun hHeld => ?_)
      ·exact ⟨m1, m2⟩
      clear hK K
      try simp only [P9]
      refine wpAnyH_ready (rs := [12]) (by kernel_rfl) (by simp) ?_
      refine AllReadyH.cons (o := _) rfl (fun K hK => ?_) (AllReadyH.nil)
      rw [if_pos (by rfl)]
      refine wp_store_mid 39 _ _ rfl (k13.heap.size) 0 cs2.toArray rfl rfl (HGB.out.there (by first | (simp [z38_len, z5_len, HLC.out, HLC2.out]; done) | (simp [z38_len, z5_len, HLC.out, HLC2.out]; omega))) hi2 hone2 ?_
      obtain ⟨k15, hk9⟩ : ∃ x, k14.setCells (k13.heap.size) 0 (cs2) = x := ⟨_, rfl⟩
      show K _ (k14.setCells (k13.heap.size) 0 (cs2))
      replace HR0 := hid (Rb.others (g' := k13.heap.size) (by omega) (cs2) 0 _ HR0.out)
      replace HR1 := hid (Rb.others (g' := k13.heap.size) (by omega) (cs2) 0 _ HR1.out)
      replace HC := hid (FoC.set (o := 0) (vs := cs2) HC.out HGB.out z38_nos)
      replace HN := hid (OwnN.far HN.out (grown_setCells (k13.heap.size) (cs2) 0 _) (fun e => by have := hvb _ e; omega))
      replace HRG := hid (rng_set (G := k13.heap.size) (o := 0) (vs := cs2) HRG.out (by omega))
      replace HOP := hid (ops_set (o := 0) (vs := cs2) HOP.out HGB.out z38_nos)
      replace HC2 := hid (FoC.set (o := 0) (vs := cs2) HC2.out HGB.out z38_nos)
      replace HWB := hid (Rb.others (g' := k13.heap.size) (by omega) (cs2) 0 _ HWB.out)
      replace HGB := hid (Rb.whole (vs := cs2) HGB.out (by simp [z38_len, z5_len, HLC.out, HLC2.out]))
      have hz9 : k14.heap.size ≤ (k14.setCells (k13.heap.size) 0 (cs2)).heap.size := Nat.le_of_eq (sets_size _ _ _ _).symm
      have hy9 : (k14.setCells (k13.heap.size) 0 (cs2)).heap.size ≤ k14.heap.size := Nat.le_of_eq (sets_size _ _ _ _)
      replace hb : Below w.heap.size w (k14.setCells (k13.heap.size) 0 (cs2)) := below_sets (by omega) _ _ _ hb
      rw [hk9] at hz9 hy9 hb HR0 HR1 HC HN HRG HOP HC2 HWB HGB
      have hltqk15 : k13.heap.size < k15.heap.size := Rb.lt HGB.out
      rw [hk9]
      clear hk9
      have m1 : Rb k15 g1 39 cs := HR1.out
      have m2 : k15.rangeAt g (o + k * 3) [.int .i64 bc, .int .i64 bq, .slice Ak bo.length ck] := HRG.out
      try dsimp only
      refine hK.out _ _ ?_ (fun hHeld => ?_)
      ·exact ⟨m1, m2⟩
      clear hK K
      try simp only [P9]
      refine wpAnyH_ready (rs := [13]) (by kernel_rfl) (by simp) ?_
      refine AllReadyH.cons (o := _) rfl (fun K hK => ?_) (AllReadyH.nil)
      rw [if_pos (by rfl)]
      refine wp_store_mid 36 _ _ rfl (k12.heap.size) 0 #[.int .i64 rp, .int .i64 rc, .int .i64 rq, .slice A9 ro.length c9, .int .i64 re] rfl rfl (HWB.out.there (by first | (simp [z38_len, z5_len, HLC.out, HLC2.out]; done) | (simp [z38_len, z5_len, HLC.out, HLC2.out]; omega))) Tryz.infoRow7 (all_oneCell_toArray (r5_one rp rc rq re A9 ro.length c9)) ?_
      obtain ⟨k16, hk9⟩ : ∃ x, k15.setCells (k12.heap.size) 0 ([.int .i64 rp, .int .i64 rc, .int .i64 rq, .slice A9 ro.length c9, .int .i64 re]) = x := ⟨_, rfl⟩
      show K _ (k15.setCells (k12.heap.size) 0 ([.int .i64 rp, .int .i64 rc, .int .i64 rq, .slice A9 ro.length c9, .int .i64 re]))
      replace HR0 := hid (Rb.others (g' := k12.heap.size) (by omega) ([.int .i64 rp, .int .i64 rc, .int .i64 rq, .slice A9 ro.length c9, .int .i64 re]) 0 _ HR0.out)
      replace HR1 := hid (Rb.others (g' := k12.heap.size) (by omega) ([.int .i64 rp, .int .i64 rc, .int .i64 rq, .slice A9 ro.length c9, .int .i64 re]) 0 _ HR1.out)
      replace HC := hid (FoC.set (o := 0) (vs := [.int .i64 rp, .int .i64 rc, .int .i64 rq, .slice A9 ro.length c9, .int .i64 re]) HC.out HWB.out z5_nos)
      replace HN := hid (OwnN.far HN.out (grown_setCells (k12.heap.size) ([.int .i64 rp, .int .i64 rc, .int .i64 rq, .slice A9 ro.length c9, .int .i64 re]) 0 _) (fun e => by have := hvb _ e; omega))
      replace HRG := hid (rng_set (G := k12.heap.size) (o := 0) (vs := [.int .i64 rp, .int .i64 rc, .int .i64 rq, .slice A9 ro.length c9, .int .i64 re]) HRG.out (by omega))
      replace HOP := hid (ops_set (o := 0) (vs := [.int .i64 rp, .int .i64 rc, .int .i64 rq, .slice A9 ro.length c9, .int .i64 re]) HOP.out HWB.out z5_nos)
      replace HC2 := hid (FoC.set (o := 0) (vs := [.int .i64 rp, .int .i64 rc, .int .i64 rq, .slice A9 ro.length c9, .int .i64 re]) HC2.out HWB.out z5_nos)
      replace HGB := hid (Rb.others (g' := k12.heap.size) (by omega) ([.int .i64 rp, .int .i64 rc, .int .i64 rq, .slice A9 ro.length c9, .int .i64 re]) 0 _ HGB.out)
      replace HWB := hid (Rb.whole (vs := [.int .i64 rp, .int .i64 rc, .int .i64 rq, .slice A9 ro.length c9, .int .i64 re]) HWB.out (by simp [z38_len, z5_len, HLC.out, HLC2.out]))
      have hz9 : k15.heap.size ≤ (k15.setCells (k12.heap.size) 0 ([.int .i64 rp, .int .i64 rc, .int .i64 rq, .slice A9 ro.length c9, .int .i64 re])).heap.size := Nat.le_of_eq (sets_size _ _ _ _).symm
      have hy9 : (k15.setCells (k12.heap.size) 0 ([.int .i64 rp, .int .i64 rc, .int .i64 rq, .slice A9 ro.length c9, .int .i64 re])).heap.size ≤ k15.heap.size := Nat.le_of_eq (sets_size _ _ _ _)
      replace hb : Below w.heap.size w (k15.setCells (k12.heap.size) 0 ([.int .i64 rp, .int .i64 rc, .int .i64 rq, .slice A9 ro.length c9, .int .i64 re])) := below_sets (by omega) _ _ _ hb
      rw [hk9] at hz9 hy9 hb HR0 HR1 HC HN HRG HOP HC2 HWB HGB
      have hltqk16 : k12.heap.size < k16.heap.size := Rb.lt HWB.out
      rw [hk9]
      clear hk9
      have m1 : Rb k16 g1 39 cs := HR1.out
      have m2 : k16.rangeAt g (o + k * 3) [.int .i64 bc, .int .i64 bq, .slice Ak bo.length ck] := HRG.out
      try dsimp only
      refine hK.out _ _ ?_ (fun hHeld => ?_)
      ·exact ⟨m1, m2⟩
      clear hK K
      try simp only [P9]
      refine wpAnyH_ready (rs := [14]) (by kernel_rfl) (by simp) ?_
      refine AllReadyH.cons (o := _) rfl (fun K hK => ?_) (AllReadyH.nil)
      go_simp
      refine hK.out _ _ ?_ (fun hHeld => ?_)
      ·exact ⟨m1, m2⟩
      clear hK K
      try simp only [P9]
      refine wpAnyH_done (by kernel_rfl) ?_ _
      refine NoPanic.normal ?_
      refine ⟨cs2, A9, c9, k13.heap.size, k12.heap.size, rfl, HR0.out, HR1.out, HN.out, HC2.out, HGB.out, HWB.out, by omega, by omega, hb, HC.out, ?_, ?_⟩
      all_goals
       intro e
       have := hvb _ e
       omega
    ·rw [if_pos (by rfl)]
     refine wp_alloc7 39 z38 (by kernel_rfl) ?_
     obtain ⟨k12, hk9⟩ : ∃ x, k11.alloc (.cells (z38).toArray 39) = x := ⟨_, rfl⟩
     have hnew9 : Rb k12 k11.heap.size 39 z38 := by rw [← hk9]; exact Rb.new _ _ _
     have hk : Below k11.heap.size k11 k12 := by rw [← hk9]; exact below_one _ _
     have hzk12 : k11.heap.size < k12.heap.size := by rw [← hk9]; simp
     rw [hk9]
     clear hk9
     replace HR0 := hid (Rb.below HR0.out hk)
     replace HR1 := hid (Rb.below HR1.out hk)
     replace HC := hid (FoC.below HC.out hk)
     replace HN := hid (OwnN.below HN.out hk)
     replace HRG := hid (range_below HRG.out hk LT9)
     replace HOP := hid (Ops.more (Ops.keep HOP.out hk (Nat.le_refl _)) (Below.size hk))
     replace hb : Below w.heap.size w k12 := hb.trans (hk.mono (by first | exact hb.size | omega | (simp; omega)))
     have HGB := hid hnew9; clear hnew9 hk
     have hltHGB : k11.heap.size < k12.heap.size := Rb.lt HGB.out
     have m1 : Rb k12 g1 39 cs := HR1.out
     have m2 : k12.rangeAt g (o + k * 3) [.int .i64 bc, .int .i64 bq, .slice Ak bo.length ck] := HRG.out
     try dsimp only
     refine hK.out _ _ ?_ (fun hHeld => ?_)
     ·exact ⟨m1, m2⟩
     clear hK K
     try simp only [P9]
     refine wpAnyH_ready (rs := [5, 11]) (by kernel_rfl) (by simp) ?_
     refine AllReadyH.cons (o := _) rfl (fun K hK => ?_) (AllReadyH.cons (o := _) rfl (fun K hK => ?_) (AllReadyH.nil))
     ·go_simp
      go_at_call 10
      refine (rnext_to _ _ cs f f2 bc bq bo _ y rp rc rq re ro _ HC.out (Nat.le_refl _) HOP.out (Nat.le_refl _) HOK.out.1 (by have := HOK.out.2; omega) HG.out hp9 HY.out HST.out HRW.out).mono ?_
      rintro e k13 ⟨cs2, A9, c9, rfl, ⟨hc2, ho9⟩, h⟩
      have hk : Below k12.heap.size k12 k13 := HK9 h
      have hz := h.size
      try simp at hz
      replace HR0 := hid (Rb.below HR0.out hk)
      replace HR1 := hid (Rb.below HR1.out hk)
      replace HC := hid (FoC.below HC.out hk)
      replace HN := hid (OwnN.below HN.out hk)
      replace HRG := hid (range_below HRG.out hk LT9)
      replace HOP := hid (Ops.more (Ops.keep HOP.out hk (Nat.le_refl _)) (Below.size hk))
      replace HGB := hid (Rb.below HGB.out hk)
      replace hb : Below w.heap.size w k13 := hb.trans (hk.mono hb.size)
      have HC2 := hid hc2; clear hc2
      clear ho9
      have hlc2 := HC2.out.len
      have HLC2 := hid hlc2; clear hlc2
      have hi2 : (Tryz.prog.info? 39).map (·.size) = some cs2.toArray.size := by rw [List.size_toArray, HLC2.out]; exact Tryz.infoFold7
      have hone2 := all_oneCell_toArray HC2.out.one
      clear h hk
      have m1 : Rb k13 g1 39 cs := HR1.out
      have m2 : k13.rangeAt g (o + k * 3) [.int .i64 bc, .int .i64 bq, .slice Ak bo.length ck] := HRG.out
      try dsimp only
      refine hK.out _ _ ?_ (fun hHeld => ?_)
      ·exact ⟨m1, m2⟩
      clear hK K
      try simp only [P9]
      refine tk9 6 (.tuple #[.agg cs2.toArray, .agg #[.int .i64 rp, .int .i64 rc, .int .i64 rq, .slice A9 ro.length c9, .int .i64 re], .bool y]) rfl (fun w hSw => ?_) ?_
      ·(try dsimp only at hSw)
       go_simp
      try simp only [P9]
      refine tk9 7 (.agg cs2.toArray) rfl (fun w hSw => ?_) ?_
      ·(try dsimp only at hSw)
       go_simp
      try simp only [P9]
      refine tk9 8 (.agg #[.int .i64 rp, .int .i64 rc, .int .i64 rq, .slice A9 ro.length c9, .int .i64 re]) rfl (fun w hSw => ?_) ?_
      ·(try dsimp only at hSw)
       go_simp
      try simp only [P9]
      refine tk9 9 (.bool y) rfl (fun w hSw => ?_) ?_
      ·(try dsimp only at hSw)
       go_simp
      try simp only [P9]
      refine wpAnyH_ready (rs := [11]) (by kernel_rfl) (by simp) ?_
      refine AllReadyH.cons (o := _) rfl (fun K hK => ?_) (AllReadyH.nil)
      rw [if_pos (by rfl)]
      refine wp_alloc7 36 z5 (by kernel_rfl) ?_
      obtain ⟨k14, hk9⟩ : ∃ x, k13.alloc (.cells (z5).toArray 36) = x := ⟨_, rfl⟩
      have hnew9 : Rb k14 k13.heap.size 36 z5 := by rw [← hk9]; exact Rb.new _ _ _
      have hk : Below k13.heap.size k13 k14 := by rw [← hk9]; exact below_one _ _
      have hzk14 : k13.heap.size < k14.heap.size := by rw [← hk9]; simp
      rw [hk9]
      clear hk9
      replace HR0 := hid (Rb.below HR0.out hk)
      replace HR1 := hid (Rb.below HR1.out hk)
      replace HC := hid (FoC.below HC.out hk)
      replace HN := hid (OwnN.below HN.out hk)
      replace HRG := hid (range_below HRG.out hk LT9)
      replace HOP := hid (Ops.more (Ops.keep HOP.out hk (Nat.le_refl _)) (Below.size hk))
      replace HGB := hid (Rb.below HGB.out hk)
      replace HC2 := hid (FoC.below HC2.out hk)
      replace hb : Below w.heap.size w k14 := hb.trans (hk.mono (by first | exact hb.size | omega | (simp; omega)))
      have HWB := hid hnew9; clear hnew9 hk
      have hltHWB : k13.heap.size < k14.heap.size := Rb.lt HWB.out
      have m1 : Rb k14 g1 39 cs := HR1.out
      have m2 : k14.rangeAt g (o + k * 3) [.int .i64 bc, .int .i64 bq, .slice Ak bo.length ck] := HRG.out
      try dsimp only
      refine hK.out _ _ ?_ (fun hHeld => ?_)
      ·exact ⟨m1, m2⟩
      clear hK K
      try simp only [P9]
      refine wpAnyH_ready (rs := [12]) (by kernel_rfl) (by simp) ?_
      refine AllReadyH.cons (o := _) rfl (fun K hK => ?_) (AllReadyH.nil)
      rw [if_pos (by rfl)]
      refine wp_store_mid 39 _ _ rfl (k11.heap.size) 0 cs2.toArray rfl rfl (HGB.out.there (by first | (simp [z38_len, z5_len, HLC.out, HLC2.out]; done) | (simp [z38_len, z5_len, HLC.out, HLC2.out]; omega))) hi2 hone2 ?_
      obtain ⟨k15, hk9⟩ : ∃ x, k14.setCells (k11.heap.size) 0 (cs2) = x := ⟨_, rfl⟩
      show K _ (k14.setCells (k11.heap.size) 0 (cs2))
      replace HR0 := hid (Rb.others (g' := k11.heap.size) (by omega) (cs2) 0 _ HR0.out)
      replace HR1 := hid (Rb.others (g' := k11.heap.size) (by omega) (cs2) 0 _ HR1.out)
      replace HC := hid (FoC.set (o := 0) (vs := cs2) HC.out HGB.out z38_nos)
      replace HN := hid (OwnN.far HN.out (grown_setCells (k11.heap.size) (cs2) 0 _) (fun e => by have := hvb _ e; omega))
      replace HRG := hid (rng_set (G := k11.heap.size) (o := 0) (vs := cs2) HRG.out (by omega))
      replace HOP := hid (ops_set (o := 0) (vs := cs2) HOP.out HGB.out z38_nos)
      replace HC2 := hid (FoC.set (o := 0) (vs := cs2) HC2.out HGB.out z38_nos)
      replace HWB := hid (Rb.others (g' := k11.heap.size) (by omega) (cs2) 0 _ HWB.out)
      replace HGB := hid (Rb.whole (vs := cs2) HGB.out (by simp [z38_len, z5_len, HLC.out, HLC2.out]))
      have hz9 : k14.heap.size ≤ (k14.setCells (k11.heap.size) 0 (cs2)).heap.size := Nat.le_of_eq (sets_size _ _ _ _).symm
      have hy9 : (k14.setCells (k11.heap.size) 0 (cs2)).heap.size ≤ k14.heap.size := Nat.le_of_eq (sets_size _ _ _ _)
      replace hb : Below w.heap.size w (k14.setCells (k11.heap.size) 0 (cs2)) := below_sets (by omega) _ _ _ hb
      rw [hk9] at hz9 hy9 hb HR0 HR1 HC HN HRG HOP HGB HC2 HWB
      have hltqk15 : k11.heap.size < k15.heap.size := Rb.lt HGB.out
      rw [hk9]
      clear hk9
      have m1 : Rb k15 g1 39 cs := HR1.out
      have m2 : k15.rangeAt g (o + k * 3) [.int .i64 bc, .int .i64 bq, .slice Ak bo.length ck] := HRG.out
      try dsimp only
      refine hK.out _ _ ?_ (fun hHeld => ?_)
      ·exact ⟨m1, m2⟩
      clear hK K
      try simp only [P9]
      refine wpAnyH_ready (rs := [13]) (by kernel_rfl) (by simp) ?_
      refine AllReadyH.cons (o := _) rfl (fun K hK => ?_) (AllReadyH.nil)
      rw [if_pos (by rfl)]
      refine wp_store_mid 36 _ _ rfl (k13.heap.size) 0 #[.int .i64 rp, .int .i64 rc, .int .i64 rq, .slice A9 ro.length c9, .int .i64 re] rfl rfl (HWB.out.there (by first | (simp [z38_len, z5_len, HLC.out, HLC2.out]; done) | (simp [z38_len, z5_len, HLC.out, HLC2.out]; omega))) Tryz.infoRow7 (all_oneCell_toArray (r5_one rp rc rq re A9 ro.length c9)) ?_
      obtain ⟨k16, hk9⟩ : ∃ x, k15.setCells (k13.heap.size) 0 ([.int .i64 rp, .int .i64 rc, .int .i64 rq, .slice A9 ro.length c9, .int .i64 re]) = x := ⟨_, rfl⟩
      show K _ (k15.setCells (k13.heap.size) 0 ([.int .i64 rp, .int .i64 rc, .int .i64 rq, .slice A9 ro.length c9, .int .i64 re]))
      replace HR0 := hid (Rb.others (g' := k13.heap.size) (by omega) ([.int .i64 rp, .int .i64 rc, .int .i64 rq, .slice A9 ro.length c9, .int .i64 re]) 0 _ HR0.out)
      replace HR1 := hid (Rb.others (g' := k13.heap.size) (by omega) ([.int .i64 rp, .int .i64 rc, .int .i64 rq, .slice A9 ro.length c9, .int .i64 re]) 0 _ HR1.out)
      replace HC := hid (FoC.set (o := 0) (vs := [.int .i64 rp, .int .i64 rc, .int .i64 rq, .slice A9 ro.length c9, .int .i64 re]) HC.out HWB.out z5_nos)
      replace HN := hid (OwnN.far HN.out (grown_setCells (k13.heap.size) ([.int .i64 rp, .int .i64 rc, .int .i64 rq, .slice A9 ro.length c9, .int .i64 re]) 0 _) (fun e => by have := hvb _ e; omega))
      replace HRG := hid (rng_set (G := k13.heap.size) (o := 0) (vs := [.int .i64 rp, .int .i64 rc, .int .i64 rq, .slice A9 ro.length c9, .int .i64 re]) HRG.out (by omega))
      replace HOP := hid (ops_set (o := 0) (vs := [.int .i64 rp, .int .i64 rc, .int .i64 rq, .slice A9 ro.length c9, .int .i64 re]) HOP.out HWB.out z5_nos)
      replace HC2 := hid (FoC.set (o := 0) (vs := [.int .i64 rp, .int .i64 rc, .int .i64 rq, .slice A9 ro.length c9, .int .i64 re]) HC2.out HWB.out z5_nos)
      replace HGB := hid (Rb.others (g' := k13.heap.size) (by omega) ([.int .i64 rp, .int .i64 rc, .int .i64 rq, .slice A9 ro.length c9, .int .i64 re]) 0 _ HGB.out)
      replace HWB := hid (Rb.whole (vs := [.int .i64 rp, .int .i64 rc, .int .i64 rq, .slice A9 ro.length c9, .int .i64 re]) HWB.out (by simp [z38_len, z5_len, HLC.out, HLC2.out]))
      have hz9 : k15.heap.size ≤ (k15.setCells (k13.heap.size) 0 ([.int .i64 rp, .int .i64 rc, .int .i64 rq, .slice A9 ro.length c9, .int .i64 re])).heap.size := Nat.le_of_eq (sets_size _ _ _ _).symm
      have hy9 : (k15.setCells (k13.heap.size) 0 ([.int .i64 rp, .int .i64 rc, .int .i64 rq, .slice A9 ro.length c9, .int .i64 re])).heap.size ≤ k15.heap.size := Nat.le_of_eq (sets_size _ _ _ _)
      replace hb : Below w.heap.size w (k15.setCells (k13.heap.size) 0 ([.int .i64 rp, .int .i64 rc, .int .i64 rq, .slice A9 ro.length c9, .int .i64 re])) := below_sets (by omega) _ _ _ hb
      rw [hk9] at hz9 hy9 hb HR0 HR1 HC HN HRG HOP HC2 HWB HGB
      have hltqk16 : k13.heap.size < k16.heap.size := Rb.lt HWB.out
      rw [hk9]
      clear hk9
      have m1 : Rb k16 g1 39 cs := HR1.out
      have m2 : k16.rangeAt g (o + k * 3) [.int .i64 bc, .int .i64 bq, .slice Ak bo.length ck] := HRG.out
      try dsimp only
      refine hK.out _ _ ?_ (fun hHeld => ?_)
      ·exact ⟨m1, m2⟩
      clear hK K
      try simp only [P9]
      refine wpAnyH_ready (rs := [14]) (by kernel_rfl) (by simp) ?_
      refine AllReadyH.cons (o := _) rfl (fun K hK => ?_) (AllReadyH.nil)
      go_simp
      refine hK.out _ _ ?_ (fun hHeld => ?_)
      ·exact ⟨m1, m2⟩
      clear hK K
      try simp only [P9]
      refine wpAnyH_done (by kernel_rfl) ?_ _
      refine NoPanic.normal ?_
      refine ⟨cs2, A9, c9, k11.heap.size, k13.heap.size, rfl, HR0.out, HR1.out, HN.out, HC2.out, HGB.out, HWB.out, by omega, by omega, hb, HC.out, ?_, ?_⟩
      all_goals
       intro e
       have := hvb _ e
       omega
     ·rw [if_pos (by rfl)]
      refine wp_alloc7 36 z5 (by kernel_rfl) ?_
      obtain ⟨k13, hk9⟩ : ∃ x, k12.alloc (.cells (z5).toArray 36) = x := ⟨_, rfl⟩
      have hnew9 : Rb k13 k12.heap.size 36 z5 := by rw [← hk9]; exact Rb.new _ _ _
      have hk : Below k12.heap.size k12 k13 := by rw [← hk9]; exact below_one _ _
      have hzk13 : k12.heap.size < k13.heap.size := by rw [← hk9]; simp
      rw [hk9]
      clear hk9
      replace HR0 := hid (Rb.below HR0.out hk)
      replace HR1 := hid (Rb.below HR1.out hk)
      replace HC := hid (FoC.below HC.out hk)
      replace HN := hid (OwnN.below HN.out hk)
      replace HRG := hid (range_below HRG.out hk LT9)
      replace HOP := hid (Ops.more (Ops.keep HOP.out hk (Nat.le_refl _)) (Below.size hk))
      replace HGB := hid (Rb.below HGB.out hk)
      replace hb : Below w.heap.size w k13 := hb.trans (hk.mono (by first | exact hb.size | omega | (simp; omega)))
      have HWB := hid hnew9; clear hnew9 hk
      have hltHWB : k12.heap.size < k13.heap.size := Rb.lt HWB.out
      have m1 : Rb k13 g1 39 cs := HR1.out
      have m2 : k13.rangeAt g (o + k * 3) [.int .i64 bc, .int .i64 bq, .slice Ak bo.length ck] := HRG.out
      try dsimp only
      refine hK.out _ _ ?_ (fun hHeld => ?_)
      ·exact ⟨m1, m2⟩
      clear hK K
      try simp only [P9]
      refine wpAnyH_ready (rs := [5]) (by kernel_rfl) (by simp) ?_
      refine AllReadyH.cons (o := _) rfl (fun K hK => ?_) (AllReadyH.nil)
      go_simp
      go_at_call 10
      refine (rnext_to _ _ cs f f2 bc bq bo _ y rp rc rq re ro _ HC.out (Nat.le_refl _) HOP.out (Nat.le_refl _) HOK.out.1 (by have := HOK.out.2; omega) HG.out hp9 HY.out HST.out HRW.out).mono ?_
      rintro e k14 ⟨cs2, A9, c9, rfl, ⟨hc2, ho9⟩, h⟩
      have hk : Below k13.heap.size k13 k14 := HK9 h
      have hz := h.size
      try simp at hz
      replace HR0 := hid (Rb.below HR0.out hk)
      replace HR1 := hid (Rb.below HR1.out hk)
      replace HC := hid (FoC.below HC.out hk)
      replace HN := hid (OwnN.below HN.out hk)
      replace HRG := hid (range_below HRG.out hk LT9)
      replace HOP := hid (Ops.more (Ops.keep HOP.out hk (Nat.le_refl _)) (Below.size hk))
      replace HGB := hid (Rb.below HGB.out hk)
      replace HWB := hid (Rb.below HWB.out hk)
      replace hb : Below w.heap.size w k14 := hb.trans (hk.mono hb.size)
      have HC2 := hid hc2; clear hc2
      clear ho9
      have hlc2 := HC2.out.len
      have HLC2 := hid hlc2; clear hlc2
      have hi2 : (Tryz.prog.info? 39).map (·.size) = some cs2.toArray.size := by rw [List.size_toArray, HLC2.out]; exact Tryz.infoFold7
      have hone2 := all_oneCell_toArray HC2.out.one
      clear h hk
      have m1 : Rb k14 g1 39 cs := HR1.out
      have m2 : k14.rangeAt g (o + k * 3) [.int .i64 bc, .int .i64 bq, .slice Ak bo.length ck] := HRG.out
      try dsimp only
      refine hK.out _ _ ?_ (fun hHeld => ?_)
      ·exact ⟨m1, m2⟩
      clear hK K
      try simp only [P9]
      refine tk9 6 (.tuple #[.agg cs2.toArray, .agg #[.int .i64 rp, .int .i64 rc, .int .i64 rq, .slice A9 ro.length c9, .int .i64 re], .bool y]) rfl (fun w hSw => ?_) ?_
      ·(try dsimp only at hSw)
       go_simp
      try simp only [P9]
      refine tk9 7 (.agg cs2.toArray) rfl (fun w hSw => ?_) ?_
      ·(try dsimp only at hSw)
       go_simp
      try simp only [P9]
      refine tk9 8 (.agg #[.int .i64 rp, .int .i64 rc, .int .i64 rq, .slice A9 ro.length c9, .int .i64 re]) rfl (fun w hSw => ?_) ?_
      ·(try dsimp only at hSw)
       go_simp
      try simp only [P9]
      refine tk9 9 (.bool y) rfl (fun w hSw => ?_) ?_
      ·(try dsimp only at hSw)
       go_simp
      try simp only [P9]
      refine wpAnyH_ready (rs := [12]) (by kernel_rfl) (by simp) ?_
      refine AllReadyH.cons (o := _) rfl (fun K hK => ?_) (AllReadyH.nil)
      rw [if_pos (by rfl)]
      refine wp_store_mid 39 _ _ rfl (k11.heap.size) 0 cs2.toArray rfl rfl (HGB.out.there (by first | (simp [z38_len, z5_len, HLC.out, HLC2.out]; done) | (simp [z38_len, z5_len, HLC.out, HLC2.out]; omega))) hi2 hone2 ?_
      obtain ⟨k15, hk9⟩ : ∃ x, k14.setCells (k11.heap.size) 0 (cs2) = x := ⟨_, rfl⟩
      show K _ (k14.setCells (k11.heap.size) 0 (cs2))
      replace HR0 := hid (Rb.others (g' := k11.heap.size) (by omega) (cs2) 0 _ HR0.out)
      replace HR1 := hid (Rb.others (g' := k11.heap.size) (by omega) (cs2) 0 _ HR1.out)
      replace HC := hid (FoC.set (o := 0) (vs := cs2) HC.out HGB.out z38_nos)
      replace HN := hid (OwnN.far HN.out (grown_setCells (k11.heap.size) (cs2) 0 _) (fun e => by have := hvb _ e; omega))
      replace HRG := hid (rng_set (G := k11.heap.size) (o := 0) (vs := cs2) HRG.out (by omega))
      replace HOP := hid (ops_set (o := 0) (vs := cs2) HOP.out HGB.out z38_nos)
      replace HWB := hid (Rb.others (g' := k11.heap.size) (by omega) (cs2) 0 _ HWB.out)
      replace HC2 := hid (FoC.set (o := 0) (vs := cs2) HC2.out HGB.out z38_nos)
      replace HGB := hid (Rb.whole (vs := cs2) HGB.out (by simp [z38_len, z5_len, HLC.out, HLC2.out]))
      have hz9 : k14.heap.size ≤ (k14.setCells (k11.heap.size) 0 (cs2)).heap.size := Nat.le_of_eq (sets_size _ _ _ _).symm
      have hy9 : (k14.setCells (k11.heap.size) 0 (cs2)).heap.size ≤ k14.heap.size := Nat.le_of_eq (sets_size _ _ _ _)
      replace hb : Below w.heap.size w (k14.setCells (k11.heap.size) 0 (cs2)) := below_sets (by omega) _ _ _ hb
      rw [hk9] at hz9 hy9 hb HR0 HR1 HC HN HRG HOP HGB HWB HC2
      have hltqk15 : k11.heap.size < k15.heap.size := Rb.lt HGB.out
      rw [hk9]
      clear hk9
      have m1 : Rb k15 g1 39 cs := HR1.out
      have m2 : k15.rangeAt g (o + k * 3) [.int .i64 bc, .int .i64 bq, .slice Ak bo.length ck] := HRG.out
      try dsimp only
      refine hK.out _ _ ?_ (fun hHeld => ?_)
      ·exact ⟨m1, m2⟩
      clear hK K
      try simp only [P9]
      refine wpAnyH_ready (rs := [13]) (by kernel_rfl) (by simp) ?_
      refine AllReadyH.cons (o := _) rfl (fun K hK => ?_) (AllReadyH.nil)
      rw [if_pos (by rfl)]
      refine wp_store_mid 36 _ _ rfl (k12.heap.size) 0 #[.int .i64 rp, .int .i64 rc, .int .i64 rq, .slice A9 ro.length c9, .int .i64 re] rfl rfl (HWB.out.there (by first | (simp [z38_len, z5_len, HLC.out, HLC2.out]; done) | (simp [z38_len, z5_len, HLC.out, HLC2.out]; omega))) Tryz.infoRow7 (all_oneCell_toArray (r5_one rp rc rq re A9 ro.length c9)) ?_
      obtain ⟨k16, hk9⟩ : ∃ x, k15.setCells (k12.heap.size) 0 ([.int .i64 rp, .int .i64 rc, .int .i64 rq, .slice A9 ro.length c9, .int .i64 re]) = x := ⟨_, rfl⟩
      show K _ (k15.setCells (k12.heap.size) 0 ([.int .i64 rp, .int .i64 rc, .int .i64 rq, .slice A9 ro.length c9, .int .i64 re]))
      replace HR0 := hid (Rb.others (g' := k12.heap.size) (by omega) ([.int .i64 rp, .int .i64 rc, .int .i64 rq, .slice A9 ro.length c9, .int .i64 re]) 0 _ HR0.out)
      replace HR1 := hid (Rb.others (g' := k12.heap.size) (by omega) ([.int .i64 rp, .int .i64 rc, .int .i64 rq, .slice A9 ro.length c9, .int .i64 re]) 0 _ HR1.out)
      replace HC := hid (FoC.set (o := 0) (vs := [.int .i64 rp, .int .i64 rc, .int .i64 rq, .slice A9 ro.length c9, .int .i64 re]) HC.out HWB.out z5_nos)
      replace HN := hid (OwnN.far HN.out (grown_setCells (k12.heap.size) ([.int .i64 rp, .int .i64 rc, .int .i64 rq, .slice A9 ro.length c9, .int .i64 re]) 0 _) (fun e => by have := hvb _ e; omega))
      replace HRG := hid (rng_set (G := k12.heap.size) (o := 0) (vs := [.int .i64 rp, .int .i64 rc, .int .i64 rq, .slice A9 ro.length c9, .int .i64 re]) HRG.out (by omega))
      replace HOP := hid (ops_set (o := 0) (vs := [.int .i64 rp, .int .i64 rc, .int .i64 rq, .slice A9 ro.length c9, .int .i64 re]) HOP.out HWB.out z5_nos)
      replace HC2 := hid (FoC.set (o := 0) (vs := [.int .i64 rp, .int .i64 rc, .int .i64 rq, .slice A9 ro.length c9, .int .i64 re]) HC2.out HWB.out z5_nos)
      replace HGB := hid (Rb.others (g' := k12.heap.size) (by omega) ([.int .i64 rp, .int .i64 rc, .int .i64 rq, .slice A9 ro.length c9, .int .i64 re]) 0 _ HGB.out)
      replace HWB := hid (Rb.whole (vs := [.int .i64 rp, .int .i64 rc, .int .i64 rq, .slice A9 ro.length c9, .int .i64 re]) HWB.out (by simp [z38_len, z5_len, HLC.out, HLC2.out]))
      have hz9 : k15.heap.size ≤ (k15.setCells (k12.heap.size) 0 ([.int .i64 rp, .int .i64 rc, .int .i64 rq, .slice A9 ro.length c9, .int .i64 re])).heap.size := Nat.le_of_eq (sets_size _ _ _ _).symm
      have hy9 : (k15.setCells (k12.heap.size) 0 ([.int .i64 rp, .int .i64 rc, .int .i64 rq, .slice A9 ro.length c9, .int .i64 re])).heap.size ≤ k15.heap.size := Nat.le_of_eq (sets_size _ _ _ _)
      replace hb : Below w.heap.size w (k15.setCells (k12.heap.size) 0 ([.int .i64 rp, .int .i64 rc, .int .i64 rq, .slice A9 ro.length c9, .int .i64 re])) := below_sets (by omega) _ _ _ hb
      rw [hk9] at hz9 hy9 hb HR0 HR1 HC HN HRG HOP HWB HC2 HGB
      have hltqk16 : k12.heap.size < k16.heap.size := Rb.lt HWB.out
      rw [hk9]
      clear hk9
      have m1 : Rb k16 g1 39 cs := HR1.out
      have m2 : k16.rangeAt g (o + k * 3) [.int .i64 bc, .int .i64 bq, .slice Ak bo.length ck] := HRG.out
      try dsimp only
      refine hK.out _ _ ?_ (fun hHeld => ?_)
      ·exact ⟨m1, m2⟩
      clear hK K
      try simp only [P9]
      refine wpAnyH_ready (rs := [14]) (by kernel_rfl) (by simp) ?_
      refine AllReadyH.cons (o := _) rfl (fun K hK => ?_) (AllReadyH.nil)
      go_simp
      refine hK.out _ _ ?_ (fun hHeld => ?_)
      ·exact ⟨m1, m2⟩
      clear hK K
      try simp only [P9]
      refine wpAnyH_done (by kernel_rfl) ?_ _
      refine NoPanic.normal ?_
      refine ⟨cs2, A9, c9, k11.heap.size, k12.heap.size, rfl, HR0.out, HR1.out, HN.out, HC2.out, HGB.out, HWB.out, by omega, by omega, hb, HC.out, ?_, ?_⟩
      all_goals
       intro e
       have := hvb _ e
       omega
    ·rw [if_pos (by rfl)]
     refine wp_alloc7 36 z5 (by kernel_rfl) ?_
     obtain ⟨k12, hk9⟩ : ∃ x, k11.alloc (.cells (z5).toArray 36) = x := ⟨_, rfl⟩
     have hnew9 : Rb k12 k11.heap.size 36 z5 := by rw [← hk9]; exact Rb.new _ _ _
     have hk : Below k11.heap.size k11 k12 := by rw [← hk9]; exact below_one _ _
     have hzk12 : k11.heap.size < k12.heap.size := by rw [← hk9]; simp
     rw [hk9]
     clear hk9
     replace HR0 := hid (Rb.below HR0.out hk)
     replace HR1 := hid (Rb.below HR1.out hk)
     replace HC := hid (FoC.below HC.out hk)
     replace HN := hid (OwnN.below HN.out hk)
     replace HRG := hid (range_below HRG.out hk LT9)
     replace HOP := hid (Ops.more (Ops.keep HOP.out hk (Nat.le_refl _)) (Below.size hk))
     replace hb : Below w.heap.size w k12 := hb.trans (hk.mono (by first | exact hb.size | omega | (simp; omega)))
     have HWB := hid hnew9; clear hnew9 hk
     have hltHWB : k11.heap.size < k12.heap.size := Rb.lt HWB.out
     have m1 : Rb k12 g1 39 cs := HR1.out
     have m2 : k12.rangeAt g (o + k * 3) [.int .i64 bc, .int .i64 bq, .slice Ak bo.length ck] := HRG.out
     try dsimp only
     refine hK.out _ _ ?_ (fun hHeld => ?_)
     ·exact ⟨m1, m2⟩
     clear hK K
     try simp only [P9]
     refine wpAnyH_ready (rs := [5, 10]) (by kernel_rfl) (by simp) ?_
     refine AllReadyH.cons (o := _) rfl (fun K hK => ?_) (AllReadyH.cons (o := _) rfl (fun K hK => ?_) (AllReadyH.nil))
     ·go_simp
      go_at_call 10
      refine (rnext_to _ _ cs f f2 bc bq bo _ y rp rc rq re ro _ HC.out (Nat.le_refl _) HOP.out (Nat.le_refl _) HOK.out.1 (by have := HOK.out.2; omega) HG.out hp9 HY.out HST.out HRW.out).mono ?_
      rintro e k13 ⟨cs2, A9, c9, rfl, ⟨hc2, ho9⟩, h⟩
      have hk : Below k12.heap.size k12 k13 := HK9 h
      have hz := h.size
      try simp at hz
      replace HR0 := hid (Rb.below HR0.out hk)
      replace HR1 := hid (Rb.below HR1.out hk)
      replace HC := hid (FoC.below HC.out hk)
      replace HN := hid (OwnN.below HN.out hk)
      replace HRG := hid (range_below HRG.out hk LT9)
      replace HOP := hid (Ops.more (Ops.keep HOP.out hk (Nat.le_refl _)) (Below.size hk))
      replace HWB := hid (Rb.below HWB.out hk)
      replace hb : Below w.heap.size w k13 := hb.trans (hk.mono hb.size)
      have HC2 := hid hc2; clear hc2
      clear ho9
      have hlc2 := HC2.out.len
      have HLC2 := hid hlc2; clear hlc2
      have hi2 : (Tryz.prog.info? 39).map (·.size) = some cs2.toArray.size := by rw [List.size_toArray, HLC2.out]; exact Tryz.infoFold7
      have hone2 := all_oneCell_toArray HC2.out.one
      clear h hk
      have m1 : Rb k13 g1 39 cs := HR1.out
      have m2 : k13.rangeAt g (o + k * 3) [.int .i64 bc, .int .i64 bq, .slice Ak bo.length ck] := HRG.out
      try dsimp only
      refine hK.out _ _ ?_ (fun hHeld => ?_)
      ·exact ⟨m1, m2⟩
      clear hK K
      try simp only [P9]
      refine tk9 6 (.tuple #[.agg cs2.toArray, .agg #[.int .i64 rp, .int .i64 rc, .int .i64 rq, .slice A9 ro.length c9, .int .i64 re], .bool y]) rfl (fun w hSw => ?_) ?_
      ·(try dsimp only at hSw)
       go_simp
      try simp only [P9]
      refine tk9 7 (.agg cs2.toArray) rfl (fun w hSw => ?_) ?_
      ·(try dsimp only at hSw)
       go_simp
      try simp only [P9]
      refine tk9 8 (.agg #[.int .i64 rp, .int .i64 rc, .int .i64 rq, .slice A9 ro.length c9, .int .i64 re]) rfl (fun w hSw => ?_) ?_
      ·(try dsimp only at hSw)
       go_simp
      try simp only [P9]
      refine tk9 9 (.bool y) rfl (fun w hSw => ?_) ?_
      ·(try dsimp only at hSw)
       go_simp
      try simp only [P9]
      refine wpAnyH_ready (rs := [10]) (by kernel_rfl) (by simp) ?_
      refine AllReadyH.cons (o := _) rfl (fun K hK => ?_) (AllReadyH.nil)
      rw [if_pos (by rfl)]
      refine wp_alloc7 39 z38 (by kernel_rfl) ?_
      obtain ⟨k14, hk9⟩ : ∃ x, k13.alloc (.cells (z38).toArray 39) = x := ⟨_, rfl⟩
      have hnew9 : Rb k14 k13.heap.size 39 z38 := by rw [← hk9]; exact Rb.new _ _ _
      have hk : Below k13.heap.size k13 k14 := by rw [← hk9]; exact below_one _ _
      have hzk14 : k13.heap.size < k14.heap.size := by rw [← hk9]; simp
      rw [hk9]
      clear hk9
      replace HR0 := hid (Rb.below HR0.out hk)
      replace HR1 := hid (Rb.below HR1.out hk)
      replace HC := hid (FoC.below HC.out hk)
      replace HN := hid (OwnN.below HN.out hk)
      replace HRG := hid (range_below HRG.out hk LT9)
      replace HOP := hid (Ops.more (Ops.keep HOP.out hk (Nat.le_refl _)) (Below.size hk))
      replace HWB := hid (Rb.below HWB.out hk)
      replace HC2 := hid (FoC.below HC2.out hk)
      replace hb : Below w.heap.size w k14 := hb.trans (hk.mono (by first | exact hb.size | omega | (simp; omega)))
      have HGB := hid hnew9; clear hnew9 hk
      have hltHGB : k13.heap.size < k14.heap.size := Rb.lt HGB.out
      have m1 : Rb k14 g1 39 cs := HR1.out
      have m2 : k14.rangeAt g (o + k * 3) [.int .i64 bc, .int .i64 bq, .slice Ak bo.length ck] := HRG.out
      try dsimp only
      refine hK.out _ _ ?_ (fun hHeld => ?_)
      ·exact ⟨m1, m2⟩
      clear hK K
      try simp only [P9]
      refine wpAnyH_ready (rs := [12]) (by kernel_rfl) (by simp) ?_
      refine AllReadyH.cons (o := _) rfl (fun K hK => ?_) (AllReadyH.nil)
      rw [if_pos (by rfl)]
      refine wp_store_mid 39 _ _ rfl (k13.heap.size) 0 cs2.toArray rfl rfl (HGB.out.there (by first | (simp [z38_len, z5_len, HLC.out, HLC2.out]; done) | (simp [z38_len, z5_len, HLC.out, HLC2.out]; omega))) hi2 hone2 ?_
      obtain ⟨k15, hk9⟩ : ∃ x, k14.setCells (k13.heap.size) 0 (cs2) = x := ⟨_, rfl⟩
      show K _ (k14.setCells (k13.heap.size) 0 (cs2))
      replace HR0 := hid (Rb.others (g' := k13.heap.size) (by omega) (cs2) 0 _ HR0.out)
      replace HR1 := hid (Rb.others (g' := k13.heap.size) (by omega) (cs2) 0 _ HR1.out)
      replace HC := hid (FoC.set (o := 0) (vs := cs2) HC.out HGB.out z38_nos)
      replace HN := hid (OwnN.far HN.out (grown_setCells (k13.heap.size) (cs2) 0 _) (fun e => by have := hvb _ e; omega))
      replace HRG := hid (rng_set (G := k13.heap.size) (o := 0) (vs := cs2) HRG.out (by omega))
      replace HOP := hid (ops_set (o := 0) (vs := cs2) HOP.out HGB.out z38_nos)
      replace HWB := hid (Rb.others (g' := k13.heap.size) (by omega) (cs2) 0 _ HWB.out)
      replace HC2 := hid (FoC.set (o := 0) (vs := cs2) HC2.out HGB.out z38_nos)
      replace HGB := hid (Rb.whole (vs := cs2) HGB.out (by simp [z38_len, z5_len, HLC.out, HLC2.out]))
      have hz9 : k14.heap.size ≤ (k14.setCells (k13.heap.size) 0 (cs2)).heap.size := Nat.le_of_eq (sets_size _ _ _ _).symm
      have hy9 : (k14.setCells (k13.heap.size) 0 (cs2)).heap.size ≤ k14.heap.size := Nat.le_of_eq (sets_size _ _ _ _)
      replace hb : Below w.heap.size w (k14.setCells (k13.heap.size) 0 (cs2)) := below_sets (by omega) _ _ _ hb
      rw [hk9] at hz9 hy9 hb HR0 HR1 HC HN HRG HOP HWB HC2 HGB
      have hltqk15 : k13.heap.size < k15.heap.size := Rb.lt HGB.out
      rw [hk9]
      clear hk9
      have m1 : Rb k15 g1 39 cs := HR1.out
      have m2 : k15.rangeAt g (o + k * 3) [.int .i64 bc, .int .i64 bq, .slice Ak bo.length ck] := HRG.out
      try dsimp only
      refine hK.out _ _ ?_ (fun hHeld => ?_)
      ·exact ⟨m1, m2⟩
      clear hK K
      try simp only [P9]
      refine wpAnyH_ready (rs := [13]) (by kernel_rfl) (by simp) ?_
      refine AllReadyH.cons (o := _) rfl (fun K hK => ?_) (AllReadyH.nil)
      rw [if_pos (by rfl)]
      refine wp_store_mid 36 _ _ rfl (k11.heap.size) 0 #[.int .i64 rp, .int .i64 rc, .int .i64 rq, .slice A9 ro.length c9, .int .i64 re] rfl rfl (HWB.out.there (by first | (simp [z38_len, z5_len, HLC.out, HLC2.out]; done) | (simp [z38_len, z5_len, HLC.out, HLC2.out]; omega))) Tryz.infoRow7 (all_oneCell_toArray (r5_one rp rc rq re A9 ro.length c9)) ?_
      obtain ⟨k16, hk9⟩ : ∃ x, k15.setCells (k11.heap.size) 0 ([.int .i64 rp, .int .i64 rc, .int .i64 rq, .slice A9 ro.length c9, .int .i64 re]) = x := ⟨_, rfl⟩
      show K _ (k15.setCells (k11.heap.size) 0 ([.int .i64 rp, .int .i64 rc, .int .i64 rq, .slice A9 ro.length c9, .int .i64 re]))
      replace HR0 := hid (Rb.others (g' := k11.heap.size) (by omega) ([.int .i64 rp, .int .i64 rc, .int .i64 rq, .slice A9 ro.length c9, .int .i64 re]) 0 _ HR0.out)
      replace HR1 := hid (Rb.others (g' := k11.heap.size) (by omega) ([.int .i64 rp, .int .i64 rc, .int .i64 rq, .slice A9 ro.length c9, .int .i64 re]) 0 _ HR1.out)
      replace HC := hid (FoC.set (o := 0) (vs := [.int .i64 rp, .int .i64 rc, .int .i64 rq, .slice A9 ro.length c9, .int .i64 re]) HC.out HWB.out z5_nos)
      replace HN := hid (OwnN.far HN.out (grown_setCells (k11.heap.size) ([.int .i64 rp, .int .i64 rc, .int .i64 rq, .slice A9 ro.length c9, .int .i64 re]) 0 _) (fun e => by have := hvb _ e; omega))
      replace HRG := hid (rng_set (G := k11.heap.size) (o := 0) (vs := [.int .i64 rp, .int .i64 rc, .int .i64 rq, .slice A9 ro.length c9, .int .i64 re]) HRG.out (by omega))
      replace HOP := hid (ops_set (o := 0) (vs := [.int .i64 rp, .int .i64 rc, .int .i64 rq, .slice A9 ro.length c9, .int .i64 re]) HOP.out HWB.out z5_nos)
      replace HC2 := hid (FoC.set (o := 0) (vs := [.int .i64 rp, .int .i64 rc, .int .i64 rq, .slice A9 ro.length c9, .int .i64 re]) HC2.out HWB.out z5_nos)
      replace HGB := hid (Rb.others (g' := k11.heap.size) (by omega) ([.int .i64 rp, .int .i64 rc, .int .i64 rq, .slice A9 ro.length c9, .int .i64 re]) 0 _ HGB.out)
      replace HWB := hid (Rb.whole (vs := [.int .i64 rp, .int .i64 rc, .int .i64 rq, .slice A9 ro.length c9, .int .i64 re]) HWB.out (by simp [z38_len, z5_len, HLC.out, HLC2.out]))
      have hz9 : k15.heap.size ≤ (k15.setCells (k11.heap.size) 0 ([.int .i64 rp, .int .i64 rc, .int .i64 rq, .slice A9 ro.length c9, .int .i64 re])).heap.size := Nat.le_of_eq (sets_size _ _ _ _).symm
      have hy9 : (k15.setCells (k11.heap.size) 0 ([.int .i64 rp, .int .i64 rc, .int .i64 rq, .slice A9 ro.length c9, .int .i64 re])).heap.size ≤ k15.heap.size := Nat.le_of_eq (sets_size _ _ _ _)
      replace hb : Below w.heap.size w (k15.setCells (k11.heap.size) 0 ([.int .i64 rp, .int .i64 rc, .int .i64 rq, .slice A9 ro.length c9, .int .i64 re])) := below_sets (by omega) _ _ _ hb
      rw [hk9] at hz9 hy9 hb HR0 HR1 HC HN HRG HOP HWB HC2 HGB
      have hltqk16 : k11.heap.size < k16.heap.size := Rb.lt HWB.out
      rw [hk9]
      clear hk9
      have m1 : Rb k16 g1 39 cs := HR1.out
      have m2 : k16.rangeAt g (o + k * 3) [.int .i64 bc, .int .i64 bq, .slice Ak bo.length ck] := HRG.out
      try dsimp only
      refine hK.out _ _ ?_ (fun hHeld => ?_)
      ·exact ⟨m1, m2⟩
      clear hK K
      try simp only [P9]
      refine wpAnyH_ready (rs := [14]) (by kernel_rfl) (by simp) ?_
      refine AllReadyH.cons (o := _) rfl (fun K hK => ?_) (AllReadyH.nil)
      go_simp
      refine hK.out _ _ ?_ (fun hHeld => ?_)
      ·exact ⟨m1, m2⟩
      clear hK K
      try simp only [P9]
      refine wpAnyH_done (by kernel_rfl) ?_ _
      refine NoPanic.normal ?_
      refine ⟨cs2, A9, c9, k13.heap.size, k11.heap.size, rfl, HR0.out, HR1.out, HN.out, HC2.out, HGB.out, HWB.out, by omega, by omega, hb, HC.out, ?_, ?_⟩
      all_goals
       intro e
       have := hvb _ e
       omega
     ·rw [if_pos (by rfl)]
      refine wp_alloc7 39 z38 (by kernel_rfl) ?_
      obtain ⟨k13, hk9⟩ : ∃ x, k12.alloc (.cells (z38).toArray 39) = x := ⟨_, rfl⟩
      have hnew9 : Rb k13 k12.heap.size 39 z38 := by rw [← hk9]; exact Rb.new _ _ _
      have hk : Below k12.heap.size k12 k13 := by rw [← hk9]; exact below_one _ _
      have hzk13 : k12.heap.size < k13.heap.size := by rw [← hk9]; simp
      rw [hk9]
      clear hk9
      replace HR0 := hid (Rb.below HR0.out hk)
      replace HR1 := hid (Rb.below HR1.out hk)
      replace HC := hid (FoC.below HC.out hk)
      replace HN := hid (OwnN.below HN.out hk)
      replace HRG := hid (range_below HRG.out hk LT9)
      replace HOP := hid (Ops.more (Ops.keep HOP.out hk (Nat.le_refl _)) (Below.size hk))
      replace HWB := hid (Rb.below HWB.out hk)
      replace hb : Below w.heap.size w k13 := hb.trans (hk.mono (by first | exact hb.size | omega | (simp; omega)))
      have HGB := hid hnew9; clear hnew9 hk
      have hltHGB : k12.heap.size < k13.heap.size := Rb.lt HGB.out
      have m1 : Rb k13 g1 39 cs := HR1.out
      have m2 : k13.rangeAt g (o + k * 3) [.int .i64 bc, .int .i64 bq, .slice Ak bo.length ck] := HRG.out
      try dsimp only
      refine hK.out _ _ ?_ (fun hHeld => ?_)
      ·exact ⟨m1, m2⟩
      clear hK K
      try simp only [P9]
      refine wpAnyH_ready (rs := [5]) (by kernel_rfl) (by simp) ?_
      refine AllReadyH.cons (o := _) rfl (fun K hK => ?_) (AllReadyH.nil)
      go_simp
      go_at_call 10
      refine (rnext_to _ _ cs f f2 bc bq bo _ y rp rc rq re ro _ HC.out (Nat.le_refl _) HOP.out (Nat.le_refl _) HOK.out.1 (by have := HOK.out.2; omega) HG.out hp9 HY.out HST.out HRW.out).mono ?_
      rintro e k14 ⟨cs2, A9, c9, rfl, ⟨hc2, ho9⟩, h⟩
      have hk : Below k13.heap.size k13 k14 := HK9 h
      have hz := h.size
      try simp at hz
      replace HR0 := hid (Rb.below HR0.out hk)
      replace HR1 := hid (Rb.below HR1.out hk)
      replace HC := hid (FoC.below HC.out hk)
      replace HN := hid (OwnN.below HN.out hk)
      replace HRG := hid (range_below HRG.out hk LT9)
      replace HOP := hid (Ops.more (Ops.keep HOP.out hk (Nat.le_refl _)) (Below.size hk))
      replace HWB := hid (Rb.below HWB.out hk)
      replace HGB := hid (Rb.below HGB.out hk)
      replace hb : Below w.heap.size w k14 := hb.trans (hk.mono hb.size)
      have HC2 := hid hc2; clear hc2
      clear ho9
      have hlc2 := HC2.out.len
      have HLC2 := hid hlc2; clear hlc2
      have hi2 : (Tryz.prog.info? 39).map (·.size) = some cs2.toArray.size := by rw [List.size_toArray, HLC2.out]; exact Tryz.infoFold7
      have hone2 := all_oneCell_toArray HC2.out.one
      clear h hk
      have m1 : Rb k14 g1 39 cs := HR1.out
      have m2 : k14.rangeAt g (o + k * 3) [.int .i64 bc, .int .i64 bq, .slice Ak bo.length ck] := HRG.out
      try dsimp only
      refine hK.out _ _ ?_ (fun hHeld => ?_)
      ·exact ⟨m1, m2⟩
      clear hK K
      try simp only [P9]
      refine tk9 6 (.tuple #[.agg cs2.toArray, .agg #[.int .i64 rp, .int .i64 rc, .int .i64 rq, .slice A9 ro.length c9, .int .i64 re], .bool y]) rfl (fun w hSw => ?_) ?_
      ·(try dsimp only at hSw)
       go_simp
      try simp only [P9]
      refine tk9 7 (.agg cs2.toArray) rfl (fun w hSw => ?_) ?_
      ·(try dsimp only at hSw)
       go_simp
      try simp only [P9]
      refine tk9 8 (.agg #[.int .i64 rp, .int .i64 rc, .int .i64 rq, .slice A9 ro.length c9, .int .i64 re]) rfl (fun w hSw => ?_) ?_
      ·(try dsimp only at hSw)
       go_simp
      try simp only [P9]
      refine tk9 9 (.bool y) rfl (fun w hSw => ?_) ?_
      ·(try dsimp only at hSw)
       go_simp
      try simp only [P9]
      refine wpAnyH_ready (rs := [12]) (by kernel_rfl) (by simp) ?_
      refine AllReadyH.cons (o := _) rfl (fun K hK => ?_) (AllReadyH.nil)
      rw [if_pos (by rfl)]
      refine wp_store_mid 39 _ _ rfl (k12.heap.size) 0 cs2.toArray rfl rfl (HGB.out.there (by first | (simp [z38_len, z5_len, HLC.out, HLC2.out]; done) | (simp [z38_len, z5_len, HLC.out, HLC2.out]; omega))) hi2 hone2 ?_
      obtain ⟨k15, hk9⟩ : ∃ x, k14.setCells (k12.heap.size) 0 (cs2) = x := ⟨_, rfl⟩
      show K _ (k14.setCells (k12.heap.size) 0 (cs2))
      replace HR0 := hid (Rb.others (g' := k12.heap.size) (by omega) (cs2) 0 _ HR0.out)
      replace HR1 := hid (Rb.others (g' := k12.heap.size) (by omega) (cs2) 0 _ HR1.out)
      replace HC := hid (FoC.set (o := 0) (vs := cs2) HC.out HGB.out z38_nos)
      replace HN := hid (OwnN.far HN.out (grown_setCells (k12.heap.size) (cs2) 0 _) (fun e => by have := hvb _ e; omega))
      replace HRG := hid (rng_set (G := k12.heap.size) (o := 0) (vs := cs2) HRG.out (by omega))
      replace HOP := hid (ops_set (o := 0) (vs := cs2) HOP.out HGB.out z38_nos)
      replace HWB := hid (Rb.others (g' := k12.heap.size) (by omega) (cs2) 0 _ HWB.out)
      replace HC2 := hid (FoC.set (o := 0) (vs := cs2) HC2.out HGB.out z38_nos)
      replace HGB := hid (Rb.whole (vs := cs2) HGB.out (by simp [z38_len, z5_len, HLC.out, HLC2.out]))
      have hz9 : k14.heap.size ≤ (k14.setCells (k12.heap.size) 0 (cs2)).heap.size := Nat.le_of_eq (sets_size _ _ _ _).symm
      have hy9 : (k14.setCells (k12.heap.size) 0 (cs2)).heap.size ≤ k14.heap.size := Nat.le_of_eq (sets_size _ _ _ _)
      replace hb : Below w.heap.size w (k14.setCells (k12.heap.size) 0 (cs2)) := below_sets (by omega) _ _ _ hb
      rw [hk9] at hz9 hy9 hb HR0 HR1 HC HN HRG HOP HWB HGB HC2
      have hltqk15 : k12.heap.size < k15.heap.size := Rb.lt HGB.out
      rw [hk9]
      clear hk9
      have m1 : Rb k15 g1 39 cs := HR1.out
      have m2 : k15.rangeAt g (o + k * 3) [.int .i64 bc, .int .i64 bq, .slice Ak bo.length ck] := HRG.out
      try dsimp only
      refine hK.out _ _ ?_ (fun hHeld => ?_)
      ·exact ⟨m1, m2⟩
      clear hK K
      try simp only [P9]
      refine wpAnyH_ready (rs := [13]) (by kernel_rfl) (by simp) ?_
      refine AllReadyH.cons (o := _) rfl (fun K hK => ?_) (AllReadyH.nil)
      rw [if_pos (by rfl)]
      refine wp_store_mid 36 _ _ rfl (k11.heap.size) 0 #[.int .i64 rp, .int .i64 rc, .int .i64 rq, .slice A9 ro.length c9, .int .i64 re] rfl rfl (HWB.out.there (by first | (simp [z38_len, z5_len, HLC.out, HLC2.out]; done) | (simp [z38_len, z5_len, HLC.out, HLC2.out]; omega))) Tryz.infoRow7 (all_oneCell_toArray (r5_one rp rc rq re A9 ro.length c9)) ?_
      obtain ⟨k16, hk9⟩ : ∃ x, k15.setCells (k11.heap.size) 0 ([.int .i64 rp, .int .i64 rc, .int .i64 rq, .slice A9 ro.length c9, .int .i64 re]) = x := ⟨_, rfl⟩
      show K _ (k15.setCells (k11.heap.size) 0 ([.int .i64 rp, .int .i64 rc, .int .i64 rq, .slice A9 ro.length c9, .int .i64 re]))
      replace HR0 := hid (Rb.others (g' := k11.heap.size) (by omega) ([.int .i64 rp, .int .i64 rc, .int .i64 rq, .slice A9 ro.length c9, .int .i64 re]) 0 _ HR0.out)
      replace HR1 := hid (Rb.others (g' := k11.heap.size) (by omega) ([.int .i64 rp, .int .i64 rc, .int .i64 rq, .slice A9 ro.length c9, .int .i64 re]) 0 _ HR1.out)
      replace HC := hid (FoC.set (o := 0) (vs := [.int .i64 rp, .int .i64 rc, .int .i64 rq, .slice A9 ro.length c9, .int .i64 re]) HC.out HWB.out z5_nos)
      replace HN := hid (OwnN.far HN.out (grown_setCells (k11.heap.size) ([.int .i64 rp, .int .i64 rc, .int .i64 rq, .slice A9 ro.length c9, .int .i64 re]) 0 _) (fun e => by have := hvb _ e; omega))
      replace HRG := hid (rng_set (G := k11.heap.size) (o := 0) (vs := [.int .i64 rp, .int .i64 rc, .int .i64 rq, .slice A9 ro.length c9, .int .i64 re]) HRG.out (by omega))
      replace HOP := hid (ops_set (o := 0) (vs := [.int .i64 rp, .int .i64 rc, .int .i64 rq, .slice A9 ro.length c9, .int .i64 re]) HOP.out HWB.out z5_nos)
      replace HC2 := hid (FoC.set (o := 0) (vs := [.int .i64 rp, .int .i64 rc, .int .i64 rq, .slice A9 ro.length c9, .int .i64 re]) HC2.out HWB.out z5_nos)
      replace HGB := hid (Rb.others (g' := k11.heap.size) (by omega) ([.int .i64 rp, .int .i64 rc, .int .i64 rq, .slice A9 ro.length c9, .int .i64 re]) 0 _ HGB.out)
      replace HWB := hid (Rb.whole (vs := [.int .i64 rp, .int .i64 rc, .int .i64 rq, .slice A9 ro.length c9, .int .i64 re]) HWB.out (by simp [z38_len, z5_len, HLC.out, HLC2.out]))
      have hz9 : k15.heap.size ≤ (k15.setCells (k11.heap.size) 0 ([.int .i64 rp, .int .i64 rc, .int .i64 rq, .slice A9 ro.length c9, .int .i64 re])).heap.size := Nat.le_of_eq (sets_size _ _ _ _).symm
      have hy9 : (k15.setCells (k11.heap.size) 0 ([.int .i64 rp, .int .i64 rc, .int .i64 rq, .slice A9 ro.length c9, .int .i64 re])).heap.size ≤ k15.heap.size := Nat.le_of_eq (sets_size _ _ _ _)
      replace hb : Below w.heap.size w (k15.setCells (k11.heap.size) 0 ([.int .i64 rp, .int .i64 rc, .int .i64 rq, .slice A9 ro.length c9, .int .i64 re])) := below_sets (by omega) _ _ _ hb
      rw [hk9] at hz9 hy9 hb HR0 HR1 HC HN HRG HOP HWB HC2 HGB
      have hltqk16 : k11.heap.size < k16.heap.size := Rb.lt HWB.out
      rw [hk9]
      clear hk9
      have m1 : Rb k16 g1 39 cs := HR1.out
      have m2 : k16.rangeAt g (o + k * 3) [.int .i64 bc, .int .i64 bq, .slice Ak bo.length ck] := HRG.out
      try dsimp only
      refine hK.out _ _ ?_ (fun hHeld => ?_)
      ·exact ⟨m1, m2⟩
      clear hK K
      try simp only [P9]
      refine wpAnyH_ready (rs := [14]) (by kernel_rfl) (by simp) ?_
      refine AllReadyH.cons (o := _) rfl (fun K hK => ?_) (AllReadyH.nil)
      go_simp
      refine hK.out _ _ ?_ (fun hHeld => ?_)
      ·exact ⟨m1, m2⟩
      clear hK K
      try simp only [P9]
      refine wpAnyH_done (by kernel_rfl) ?_ _
      refine NoPanic.normal ?_
      refine ⟨cs2, A9, c9, k12.heap.size, k11.heap.size, rfl, HR0.out, HR1.out, HN.out, HC2.out, HGB.out, HWB.out, by omega, by omega, hb, HC.out, ?_, ?_⟩
      all_goals
       intro e
       have := hvb _ e
       omega
   ·rintro a k20 ⟨cs2, A9, c9, GB, WB, rfl, hr0, hr1, hn9, hc2, hgb, hwb, hgb1, hwb1, hb, hfc, hgb2, hwb2⟩
    simp only [Act.put, List.setIfInBounds_toArray, List.set_cons_zero, List.set_cons_succ]
    have hlen2 := hc2.len
    have HLC2 := hid hlen2; clear hlen2
    have HL2 : (Tryz.prog.info? 39).map (·.size) = some cs2.toArray.size := by rw [List.size_toArray, HLC2.out]; exact Tryz.infoFold7
    have HL3 : (Tryz.prog.info? 39).map (·.size) = some cs2.length := by rw [HLC2.out]; exact Tryz.infoFold7
    have hone2 := all_oneCell_toArray hc2.one
    clear HR0 HR1 HN HC
    have HR0 := hid hr0; clear hr0
    have HR1 := hid hr1; clear hr1
    have HN := hid hn9; clear hn9
    have HC2 := hid hc2; clear hc2
    have HC := hid hfc; clear hfc
    have HGB := hid hgb; clear hgb
    have HWB := hid hwb; clear hwb
    cases y
    ·have hff : f2 = f := by
      have h1 := HST.out
      have h2 := HY.out
      unfold stepF at h1
      rw [if_neg (by rw [h2]; decide)] at h1
      exact h1.symm
     subst hff
     have hlt20 := HR1.out.lt
     go_wp2
     go_roundw
     case rel => exact ⟨k + 1, f2, cs, n, by go_num, by omega, HR0.out, HR1.out, HC.out, HTK.out, HG.out, by omega, HN.out, by omega, hb⟩
     case measure => simp [intOf]; omega
    ·have hltg := HGB.out.lt
     have hltw := HWB.out.lt
     have hlt1 := HR1.out.lt
     have hth1 := HR1.out.there (o := 0) (n := cs2.toArray.size) (by rw [List.size_toArray, HLC.out, HLC2.out]; omega)
     have hrg2 := HGB.out.range
     have hvb : ∀ G, u5.ownBlock = some G → g1 < G := fun G e => by
      obtain ⟨xs, h1, _⟩ := HN.out
      have := (World.ownsRow.lt h1 _ e).1
      omega
     go_upto_region 9 with (first | (refine wpList_load_mid rfl 39 _ rfl GB 0 rfl cs2 _ hrg2 Tryz.underlying39 rfl HL3 ?_) | (refine wpList_store_mid rfl 39 _ _ rfl g1 0 cs2.toArray rfl rfl hth1 HL2 hone2 ?_))
     clear hth1 hrg2
     obtain ⟨k21, hk9⟩ : ∃ x, k20.setCells g1 0 cs2 = x := ⟨_, rfl⟩
     try simp only [List.toList_toArray]
     replace HR0 := hid (Rb.others (g' := g1) (by omega) (cs2) 0 _ HR0.out)
     replace HC := hid (FoC.set (o := 0) (vs := cs2) HC.out HR1.out HC.out.nos)
     replace HC2 := hid (FoC.set (o := 0) (vs := cs2) HC2.out HR1.out HC.out.nos)
     replace HN := hid (OwnN.far HN.out (grown_setCells (g1) (cs2) 0 _) (fun e => by have := hvb _ e; omega))
     replace HGB := hid (Rb.others (g' := g1) (by omega) (cs2) 0 _ HGB.out)
     replace HWB := hid (Rb.others (g' := g1) (by omega) (cs2) 0 _ HWB.out)
     replace HR1 := hid (Rb.whole (vs := cs2) HR1.out (by simp [z38_len, z5_len, HLC.out, HLC2.out]))
     have hz9 : k20.heap.size ≤ (k20.setCells (g1) 0 (cs2)).heap.size := Nat.le_of_eq (sets_size _ _ _ _).symm
     have hy9 : (k20.setCells (g1) 0 (cs2)).heap.size ≤ k20.heap.size := Nat.le_of_eq (sets_size _ _ _ _)
     replace hb : Below w.heap.size w (k20.setCells (g1) 0 (cs2)) := below_sets (by omega) _ _ _ hb
     rw [hk9] at hz9 hy9 hb HR0 HR1 HC HC2 HN HGB HWB
     have hltqk21 : g1 < k21.heap.size := Rb.lt HR1.out
     rw [hk9]
     clear hk9
     have hrw9 := HWB.out.range
     have hltw := HWB.out.lt
     have hi5 : (Tryz.prog.info? 36).map (·.size) = some 5 := Tryz.infoRow7
     go_wp2_with (first | (refine wpList_load_mid rfl 36 _ rfl WB 0 rfl [.int .i64 rp, .int .i64 rc, .int .i64 rq, .slice A9 ro.length c9, .int .i64 re] _ hrw9 Tryz.underlying36 rfl hi5 ?_) | (refine wpList_append_arow rfl _ _ rfl (g1 + 1) _ n k21.heap.size [.int .i64 rp, .int .i64 rc, .int .i64 rq, .slice A9 ro.length c9, .int .i64 re] rfl (HN.out.below (below_one _ _)) rfl (Rb.new _ _ _).range rfl (r5_nos _ _ _ _ _ _ _) (r5_one _ _ _ _ _ _ _) (by omega) LT9 ?_))
     intro v9 k22 hn9 hb9 hg9 _
     have hc9 := (HC2.out.below (below_one k21 (.cells #[.int .i64 rp, .int .i64 rc, .int .i64 rq, .slice A9 ro.length c9, .int .i64 re] 36))).own (HN.out.below (below_one _ _)) hg9
     have hr9 := (hb9.block g1 (by omega)).trans (HR1.out.below (below_one k21 (.cells #[.int .i64 rp, .int .i64 rc, .int .i64 rq, .slice A9 ro.length c9, .int .i64 re] 36)))
     have hq9 := (hb9.block w.heap.size (by omega)).trans (HR0.out.below (below_one k21 (.cells #[.int .i64 rp, .int .i64 rc, .int .i64 rq, .slice A9 ro.length c9, .int .i64 re] 36)))
     have hb22 : Below w.heap.size w k22 := (hb.alloc hb.size _).trans (hb9.mono (by omega))
     go_wp2
     go_roundw
     case rel => exact ⟨k + 1, f2, cs2, n + 1, by go_num, by omega, hq9, hr9, hc9, HTK.out, HG2.out, by omega, hn9, by omega, hb22⟩
     case measure => simp [intOf]; omega
  ·have hkk : k = l.length := by omega
   subst hkk
   rw [List.take_length] at HA
   have hth0 := HR0.out.there (o := 0) (n := cs.toArray.size) (by rw [List.size_toArray, HLC.out, z38_len]; omega)
   have hrg1 := HR1.out.range
   have hi0 : (Tryz.prog.info? 39).map (·.size) = some cs.length := by rw [HLC.out]; exact Tryz.infoFold7
   have hi1 : (Tryz.prog.info? 39).map (·.size) = some cs.toArray.size := by rw [List.size_toArray, HLC.out]; exact Tryz.infoFold7
   have hone1 := all_oneCell_toArray HC.out.one
   go_wp2_with (first | (refine wpList_load_mid rfl 39 _ rfl g1 0 rfl cs _ hrg1 Tryz.underlying39 rfl hi0 ?_) | (refine wpList_store_mid rfl 39 _ _ rfl w.heap.size 0 cs.toArray rfl rfl hth0 hi1 hone1 ?_))
   refine body_world7 (fun W => Rb W w.heap.size 39 cs ∧ FoC W W.heap.size cs f ∧ Below w.heap.size w W) ⟨Rb.whole HR0.out (by rw [HLC.out, z38_len]), FoC.set HC.out HR0.out z38_nos, below_sets (Nat.le_refl _) _ _ _ hb⟩ ?_
   rintro W ⟨h0, hc, hbW⟩
   refine bodyPost_ret (v := .tuple #[.agg cs.toArray, u5]) ?_ rfl ⟨_, _, rfl, ⟨cs, rfl, by rw [HA.out]; exact hc⟩, hbW⟩
   exact results_ct (a := 2) (t := 3) Tryz.results13 rfl rfl (run_loadVar_mid W w.heap.size 0 _ cs _ h0.range Tryz.underlying39 rfl hi0)
end Go.Proofs.YtegkhkcnoahhdaaGreat
