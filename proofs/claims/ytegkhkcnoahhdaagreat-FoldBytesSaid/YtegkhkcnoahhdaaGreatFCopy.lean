import Derived.Test.YtegkhkcnoahhdaaGreatFTold
set_option linter.unusedSimpArgs false
set_option linter.unusedVariables false
namespace Go.Proofs.YtegkhkcnoahhdaaGreat
open Lib (hid)
open Go.RowKit
set_option maxRecDepth 100000
theorem Tryz.infoLast5 : (Tryz.prog.info? 76).map (·.size) = some 20 := by kernel_rfl
theorem fdoc_is (B g : Nat) (f : Fo) (w : World) (h : Fd w B g f) (hB : B ≤ w.heap.size) : Calls Tryz.prog 20 #[.pointer (some ⟨g, 0, none⟩)] w fun e w' => ∃ g', e = .returned (.pointer (some ⟨g', 0, none⟩)) ∧ (Dc w' B g' f.d ∧ w.heap.size ≤ g') ∧ Below w.heap.size w w' := by
 have hglt := h.lt
 obtain ⟨hg, hBg, dv, hr, ho⟩ := h
 have hc := fcopyD_any w.heap.size g f.d w ⟨hglt, dv, Rb.cell hr rfl, Rws.of_own ho⟩ (Nat.le_refl _) (Nat.le_trans hg.d.len (by decide))
 have HC := hid hc; clear hc hr ho
 go_enter Tryz.func20, Tryz.ntmps20
 go_wp2_with fail
 refine HC.out.mono ?_
 rintro e k1 ⟨g', v', rfl, hd, hb⟩
 go_wp2
 go_ret
 exact ⟨g', rfl, ⟨⟨hg.d, v', Nat.le_trans hB hd.lo, hd.here, ownsRow_down hd.own hB⟩, hd.lo⟩, hb⟩
set_option maxHeartbeats 1000000 in
theorem fcopy_is (B g : Nat) (f : Fo) (w : World) (h : Fd w B g f) (hB : B ≤ w.heap.size) : Calls Tryz.prog 18 #[.pointer (some ⟨g, 0, none⟩)] w fun e w' => ∃ g', e = .returned (.pointer (some ⟨g', 0, none⟩)) ∧ (Fd w' B g' f ∧ w.heap.size ≤ g') ∧ Below w.heap.size w w' := by
 have hglt := h.lt
 obtain ⟨hg, hBg, dv, hr, ho⟩ := h
 have hc := fun W (hW : Below w.heap.size w W) => fcopyD_any w.heap.size g f.d W ⟨hglt, dv, Rb.cell (hr.below hW) rfl, (Rws.of_own ho).keep hW (Nat.le_refl _)⟩ hW.size (Nat.le_trans hg.d.len (by decide))
 have HC := hid hc; clear hc
 obtain ⟨⟨s0, p0, t0, e0⟩, hl0⟩ : ∃ l, laOf f 1 = l := ⟨_, rfl⟩
 obtain ⟨⟨s1, p1, t1, e1⟩, hl1⟩ : ∃ l, laOf f 2 = l := ⟨_, rfl⟩
 obtain ⟨⟨s2, p2, t2, e2⟩, hl2⟩ : ∃ l, laOf f 3 = l := ⟨_, rfl⟩
 obtain ⟨⟨s3, p3, t3, e3⟩, hl3⟩ : ∃ l, laOf f 4 = l := ⟨_, rfl⟩
 obtain ⟨⟨s4, p4, t4, e4⟩, hl4⟩ : ∃ l, laOf f 5 = l := ⟨_, rfl⟩
 have hrg : w.rangeAt g 2 [.int .i64 s0, .int .i64 p0, .string t0, .int .i64 e0, .int .i64 s1, .int .i64 p1, .string t1, .int .i64 e1, .int .i64 s2, .int .i64 p2, .string t2, .int .i64 e2, .int .i64 s3, .int .i64 p3, .string t3, .int .i64 e3, .int .i64 s4, .int .i64 p4, .string t4, .int .i64 e4] := by
  have h : w.rangeAt g 2 (laV (laOf f 1) ++ (laV (laOf f 2) ++ (laV (laOf f 3) ++ (laV (laOf f 4) ++ laV (laOf f 5))))) := hr.all
  rw [hl0, hl1, hl2, hl3, hl4] at h; exact h
 have HRG := hid hrg; clear hrg
 have hfe : ∀ v, fcs f.place v (fun c => laOf f (c + 1)) = [.int .i64 f.place, v] ++ [.int .i64 s0, .int .i64 p0, .string t0, .int .i64 e0, .int .i64 s1, .int .i64 p1, .string t1, .int .i64 e1, .int .i64 s2, .int .i64 p2, .string t2, .int .i64 e2, .int .i64 s3, .int .i64 p3, .string t3, .int .i64 e3, .int .i64 s4, .int .i64 p4, .string t4, .int .i64 e4] := fun v => by
  show [.int .i64 f.place, v] ++ (laV (laOf f 1) ++ (laV (laOf f 2) ++ (laV (laOf f 3) ++ (laV (laOf f 4) ++ laV (laOf f 5))))) = _
  rw [hl0, hl1, hl2, hl3, hl4]; rfl
 have HFE := hid hfe; clear hfe
 have c0 : w.cell? ⟨g, 0, none⟩ = some (.int .i64 f.place) := Rb.cell hr rfl
 obtain ⟨p, hp⟩ : ∃ p, f.place = p := ⟨_, rfl⟩
 rw [hp] at c0 HFE
 have HP := hid hp; clear hp
 clear hr ho hl0 hl1 hl2 hl3 hl4
 have hb := Below.refl w.heap.size w
 go_enter Tryz.func18, Tryz.ntmps18
 go_wp2_with fail
 replace c0 : w.drew.cell? ⟨g, 0, none⟩ = some (.int .i64 p) := c0
 replace HRG := hid (range_below HRG.out ((Below.refl w.heap.size w).drew) (by omega))
 have hrg : w.drew.rangeAt g 2 [.int .i64 s0, .int .i64 p0, .string t0, .int .i64 e0, .int .i64 s1, .int .i64 p1, .string t1, .int .i64 e1, .int .i64 s2, .int .i64 p2, .string t2, .int .i64 e2, .int .i64 s3, .int .i64 p3, .string t3, .int .i64 e3, .int .i64 s4, .int .i64 p4, .string t4, .int .i64 e4] := HRG.out
 refine wp_region_noPanic ?_
 refine wp_region_held_drew (S := fun W => W.cell? ⟨g, 0, none⟩ = some (.int .i64 p) ∧ W.rangeAt g 2 [.int .i64 s0, .int .i64 p0, .string t0, .int .i64 e0, .int .i64 s1, .int .i64 p1, .string t1, .int .i64 e1, .int .i64 s2, .int .i64 p2, .string t2, .int .i64 e2, .int .i64 s3, .int .i64 p3, .string t3, .int .i64 e3, .int .i64 s4, .int .i64 p4, .string t4, .int .i64 e4]) (by kernel_rfl) ?_ (fun hHeld => ?_)
 ·exact ⟨c0, hrg⟩
 replace hb : Below w.heap.size w w.drew := hb.drew
 replace hglt : g < w.drew.heap.size := hglt
 have hzd : w.heap.size ≤ w.drew.heap.size := Nat.le_refl _
 generalize w.drew = k1 at *
 refine tk9 0 (.pointer (some ⟨g, 0, none⟩)) rfl (fun w hSw => ?_) ?_
 ·(try dsimp only at hSw)
  go_simp
 try simp only [P9]
 refine tk9 1 (.pointer (some ⟨g, 0, none⟩)) rfl (fun w hSw => ?_) ?_
 ·(try dsimp only at hSw)
  go_simp
 try simp only [P9]
 refine tk9 2 (.pointer (some ⟨g, 0, none⟩)) rfl (fun w hSw => ?_) ?_
 ·(try dsimp only at hSw)
  go_simp
 try simp only [P9]
 refine tk9 3 (.int .i64 p) rfl (fun w hSw => ?_) ?_
 ·(try dsimp only at hSw)
  go_simp
 try simp only [P9]
 refine tk9 4 (.pointer (some ⟨g, 0, none⟩)) rfl (fun w hSw => ?_) ?_
 ·(try dsimp only at hSw)
  go_simp
 try simp only [P9]
 refine tk9 5 (.pointer (some ⟨g, 0, none⟩)) rfl (fun w hSw => ?_) ?_
 ·(try dsimp only at hSw)
  go_simp
 try simp only [P9]
 refine tk9 6 (.pointer (some ⟨g, 1, none⟩)) rfl (fun w hSw => ?_) ?_
 ·(try dsimp only at hSw)
  go_simp
 try simp only [P9]
 refine tk9 10 (.pointer (some ⟨g, 0, none⟩)) rfl (fun w hSw => ?_) ?_
 ·(try dsimp only at hSw)
  go_simp
 try simp only [P9]
 refine tk9 11 (.pointer (some ⟨g, 0, none⟩)) rfl (fun w hSw => ?_) ?_
 ·(try dsimp only at hSw)
  go_simp
 try simp only [P9]
 refine tk9 12 (.pointer (some ⟨g, 2, none⟩)) rfl (fun w hSw => ?_) ?_
 ·(try dsimp only at hSw)
  go_simp
 try simp only [P9]
 refine tk8 (i := 13) (oi := { dst := some 18, op := Op.load 76 (Operand.tmp 17), type := 76, pos := "fold.go:92", after := #[{ on := 12, ground := Ground.data }], guard := none }) (v := .agg [.int .i64 s0, .int .i64 p0, .string t0, .int .i64 e0, .int .i64 s1, .int .i64 p1, .string t1, .int .i64 e1, .int .i64 s2, .int .i64 p2, .string t2, .int .i64 e2, .int .i64 s3, .int .i64 p3, .string t3, .int .i64 e3, .int .i64 s4, .int .i64 p4, .string t4, .int .i64 e4].toArray) (yieldsIf_load_mid (by rfl) 76 _ rfl g 2 rfl [.int .i64 s0, .int .i64 p0, .string t0, .int .i64 e0, .int .i64 s1, .int .i64 p1, .string t1, .int .i64 e1, .int .i64 s2, .int .i64 p2, .string t2, .int .i64 e2, .int .i64 s3, .int .i64 p3, .string t3, .int .i64 e3, .int .i64 s4, .int .i64 p4, .string t4, .int .i64 e4] _ (fun w h => h.2) Tryz.underlying76 rfl Tryz.infoLast5) ?_
 try simp only [P9]
 refine wpAnyH_ready (rs := [7]) (by kernel_rfl) (by simp) ?_
 refine AllReadyH.cons (o := _) rfl (fun K hK => ?_) (AllReadyH.nil)
 go_simp
 go_at_call 43
 refine (HC.out _ hb).mono ?_
 rintro e k2 ⟨g2, v2, rfl, hd2, h⟩
 have hk : Below k1.heap.size k1 k2 := HK9 h
 have hz := h.size
 try simp at hz
 replace c0 := (hk.cell LT9).trans c0
 replace HRG := hid (range_below HRG.out hk (by omega))
 replace hb : Below w.heap.size w k2 := hb.trans (hk.mono hb.size)
 have hglt : g < k2.heap.size := LT9
 obtain ⟨A2, m2, c2, rfl⟩ := own_slice3 hd2.own
 have hg2 := hd2.lo
 have d0 := cell_one hd2.here
 have hg2l := hd2.lt
 have HD := hid hd2.own
 clear hd2
 clear h hk
 have hrg : k2.rangeAt g 2 [.int .i64 s0, .int .i64 p0, .string t0, .int .i64 e0, .int .i64 s1, .int .i64 p1, .string t1, .int .i64 e1, .int .i64 s2, .int .i64 p2, .string t2, .int .i64 e2, .int .i64 s3, .int .i64 p3, .string t3, .int .i64 e3, .int .i64 s4, .int .i64 p4, .string t4, .int .i64 e4] := HRG.out
 try dsimp only
 refine hK.out _ _ ?_ (fun hHeld => ?_)
 ·exact ⟨c0, hrg⟩
 clear hK K
 try simp only [P9]
 refine tk9 8 (.pointer (some ⟨g2, 0, none⟩)) rfl (fun w hSw => ?_) ?_
 ·(try dsimp only at hSw)
  go_simp
 try simp only [P9]
 refine wpAnyH_ready (rs := [9]) (by kernel_rfl) (by simp) ?_
 refine AllReadyH.cons (o := _) rfl (fun K hK => ?_) (AllReadyH.nil)
 go_simp
 refine hK.out _ _ ?_ (fun hHeld => ?_)
 ·exact ⟨c0, hrg⟩
 clear hK K
 try simp only [P9]
 refine tk9 14 (.agg #[.int .i64 p, .slice A2 m2 c2, .int .i64 s0, .int .i64 p0, .string t0, .int .i64 e0, .int .i64 s1, .int .i64 p1, .string t1, .int .i64 e1, .int .i64 s2, .int .i64 p2, .string t2, .int .i64 e2, .int .i64 s3, .int .i64 p3, .string t3, .int .i64 e3, .int .i64 s4, .int .i64 p4, .string t4, .int .i64 e4]) rfl (fun w hSw => ?_) ?_
 ·(try dsimp only at hSw)
  go_simp
 try simp only [P9]
 refine wpAnyH_ready (rs := [15]) (by kernel_rfl) (by simp) ?_
 refine AllReadyH.cons (o := _) rfl (fun K hK => ?_) (AllReadyH.nil)
 go_simp
 obtain ⟨k3, hk9⟩ : ∃ WW, k2.alloc (.cells #[.int .i64 p, .slice A2 m2 c2, .int .i64 s0, .int .i64 p0, .string t0, .int .i64 e0, .int .i64 s1, .int .i64 p1, .string t1, .int .i64 e1, .int .i64 s2, .int .i64 p2, .string t2, .int .i64 e2, .int .i64 s3, .int .i64 p3, .string t3, .int .i64 e3, .int .i64 s4, .int .i64 p4, .string t4, .int .i64 e4] 78) = WW := ⟨_, rfl⟩
 have hz9 : k2.heap.size < k3.heap.size := by rw [← hk9]; simp
 have hk8 : Below k2.heap.size k2 k3 := by rw [← hk9]; exact below_one _ _
 have hfd9 : Fd k3 B k2.heap.size f := by
  refine ⟨hg, Nat.le_trans hB (by omega), .slice A2 m2 c2, ?_, ownsRow_down (ownsRow_below HD.out hk8) (Nat.le_trans hB (by omega))⟩
  unfold Fr
  rw [HP.out, HFE.out, ← hk9]
  exact Rb.new _ _ ([.int .i64 p, .slice A2 m2 c2] ++ [.int .i64 s0, .int .i64 p0, .string t0, .int .i64 e0, .int .i64 s1, .int .i64 p1, .string t1, .int .i64 e1, .int .i64 s2, .int .i64 p2, .string t2, .int .i64 e2, .int .i64 s3, .int .i64 p3, .string t3, .int .i64 e3, .int .i64 s4, .int .i64 p4, .string t4, .int .i64 e4])
 have HF9 := hid hfd9; clear hfd9
 replace c0 : k3.cell? ⟨g, 0, none⟩ = some (.int .i64 p) := (hk8.cell (p := ⟨g, 0, none⟩) (by simp; omega)).trans c0
 replace hrg : k3.rangeAt g 2 [.int .i64 s0, .int .i64 p0, .string t0, .int .i64 e0, .int .i64 s1, .int .i64 p1, .string t1, .int .i64 e1, .int .i64 s2, .int .i64 p2, .string t2, .int .i64 e2, .int .i64 s3, .int .i64 p3, .string t3, .int .i64 e3, .int .i64 s4, .int .i64 p4, .string t4, .int .i64 e4] := range_below hrg hk8 (by omega)
 replace d0 : k3.cell? ⟨g2, 0, none⟩ = some (.slice A2 m2 c2) := (hk8.cell (p := ⟨g2, 0, none⟩) (by simp; omega)).trans d0
 replace hb : Below w.heap.size w k3 := hb.trans (hk8.mono (by omega))
 have hzz : w.heap.size ≤ k2.heap.size := by omega
 rw [hk9]
 clear hk9 hk8
 refine hK.out _ _ ?_ (fun hHeld => ?_)
 ·exact ⟨c0, hrg⟩
 clear hK K
 try simp only [P9]
 refine wpAnyH_ready (rs := [16]) (by kernel_rfl) (by simp) ?_
 refine AllReadyH.cons (o := _) rfl (fun K hK => ?_) (AllReadyH.nil)
 go_simp
 refine hK.out _ _ ?_ (fun hHeld => ?_)
 ·exact ⟨c0, hrg⟩
 clear hK K
 try simp only [P9]
 refine wpAnyH_done (by kernel_rfl) ?_ _
 refine NoPanic.normal ?_
 go_wp2
 go_ret
 exact ⟨_, rfl, ⟨HF9.out, hzz⟩, hb⟩
end Go.Proofs.YtegkhkcnoahhdaaGreat
