import Derived.Test.YtegkhkcnoahhdaaGreatFCopy
set_option linter.unusedSimpArgs false
set_option linter.unusedVariables false
namespace Go.Proofs.YtegkhkcnoahhdaaGreat
open Lib (hid)
open Go.RowKit
set_option maxRecDepth 100000
theorem heq4 (a b e : Int) (c : ByteArray) (W : World) : (Op.equalIn 9999 75 (.agg #[.int .i64 a, .int .i64 b, .string c, .int .i64 e]) (.agg #[.int .i64 a, .int .i64 b, .string c, .int .i64 e])).run Tryz.prog W = .ok true W := by
 rw [run_equalIn_struct W 9998 _ _ _ (by kernel_rfl) (by kernel_rfl)]
 go_simp
theorem part20_0 (s0 p0 e0 s1 p1 e1 s2 p2 e2 s3 p3 e3 s4 p4 e4 : Int) (t0 t1 t2 t3 t4 : ByteArray) (W : World) : (part 75 #[.int .i64 s0, .int .i64 p0, .string t0, .int .i64 e0, .int .i64 s1, .int .i64 p1, .string t1, .int .i64 e1, .int .i64 s2, .int .i64 p2, .string t2, .int .i64 e2, .int .i64 s3, .int .i64 p3, .string t3, .int .i64 e3, .int .i64 s4, .int .i64 p4, .string t4, .int .i64 e4] 0).run Tryz.prog W = .ok (.agg #[.int .i64 s0, .int .i64 p0, .string t0, .int .i64 e0]) W := by kernel_rfl
theorem part20_1 (s0 p0 e0 s1 p1 e1 s2 p2 e2 s3 p3 e3 s4 p4 e4 : Int) (t0 t1 t2 t3 t4 : ByteArray) (W : World) : (part 75 #[.int .i64 s0, .int .i64 p0, .string t0, .int .i64 e0, .int .i64 s1, .int .i64 p1, .string t1, .int .i64 e1, .int .i64 s2, .int .i64 p2, .string t2, .int .i64 e2, .int .i64 s3, .int .i64 p3, .string t3, .int .i64 e3, .int .i64 s4, .int .i64 p4, .string t4, .int .i64 e4] 4).run Tryz.prog W = .ok (.agg #[.int .i64 s1, .int .i64 p1, .string t1, .int .i64 e1]) W := by kernel_rfl
theorem part20_2 (s0 p0 e0 s1 p1 e1 s2 p2 e2 s3 p3 e3 s4 p4 e4 : Int) (t0 t1 t2 t3 t4 : ByteArray) (W : World) : (part 75 #[.int .i64 s0, .int .i64 p0, .string t0, .int .i64 e0, .int .i64 s1, .int .i64 p1, .string t1, .int .i64 e1, .int .i64 s2, .int .i64 p2, .string t2, .int .i64 e2, .int .i64 s3, .int .i64 p3, .string t3, .int .i64 e3, .int .i64 s4, .int .i64 p4, .string t4, .int .i64 e4] 8).run Tryz.prog W = .ok (.agg #[.int .i64 s2, .int .i64 p2, .string t2, .int .i64 e2]) W := by kernel_rfl
theorem part20_3 (s0 p0 e0 s1 p1 e1 s2 p2 e2 s3 p3 e3 s4 p4 e4 : Int) (t0 t1 t2 t3 t4 : ByteArray) (W : World) : (part 75 #[.int .i64 s0, .int .i64 p0, .string t0, .int .i64 e0, .int .i64 s1, .int .i64 p1, .string t1, .int .i64 e1, .int .i64 s2, .int .i64 p2, .string t2, .int .i64 e2, .int .i64 s3, .int .i64 p3, .string t3, .int .i64 e3, .int .i64 s4, .int .i64 p4, .string t4, .int .i64 e4] 12).run Tryz.prog W = .ok (.agg #[.int .i64 s3, .int .i64 p3, .string t3, .int .i64 e3]) W := by kernel_rfl
theorem part20_4 (s0 p0 e0 s1 p1 e1 s2 p2 e2 s3 p3 e3 s4 p4 e4 : Int) (t0 t1 t2 t3 t4 : ByteArray) (W : World) : (part 75 #[.int .i64 s0, .int .i64 p0, .string t0, .int .i64 e0, .int .i64 s1, .int .i64 p1, .string t1, .int .i64 e1, .int .i64 s2, .int .i64 p2, .string t2, .int .i64 e2, .int .i64 s3, .int .i64 p3, .string t3, .int .i64 e3, .int .i64 s4, .int .i64 p4, .string t4, .int .i64 e4] 16).run Tryz.prog W = .ok (.agg #[.int .i64 s4, .int .i64 p4, .string t4, .int .i64 e4]) W := by kernel_rfl
theorem heq20 (s0 p0 e0 s1 p1 e1 s2 p2 e2 s3 p3 e3 s4 p4 e4 : Int) (t0 t1 t2 t3 t4 : ByteArray) (W : World) : (Op.equalIn 10000 76 (.agg #[.int .i64 s0, .int .i64 p0, .string t0, .int .i64 e0, .int .i64 s1, .int .i64 p1, .string t1, .int .i64 e1, .int .i64 s2, .int .i64 p2, .string t2, .int .i64 e2, .int .i64 s3, .int .i64 p3, .string t3, .int .i64 e3, .int .i64 s4, .int .i64 p4, .string t4, .int .i64 e4]) (.agg #[.int .i64 s0, .int .i64 p0, .string t0, .int .i64 e0, .int .i64 s1, .int .i64 p1, .string t1, .int .i64 e1, .int .i64 s2, .int .i64 p2, .string t2, .int .i64 e2, .int .i64 s3, .int .i64 p3, .string t3, .int .i64 e3, .int .i64 s4, .int .i64 p4, .string t4, .int .i64 e4])).run Tryz.prog W = .ok true W := by
 obtain ⟨i, hi⟩ : ∃ i, Tryz.prog.info? 75 = some i := by
  cases h : Tryz.prog.info? 75 with
  | none => have := Tryz.infoLast; rw [h] at this; cases this
  | some i => exact ⟨i, rfl⟩
 have hc : Tryz.prog.cellsOf 75 = 4 := by kernel_rfl
 rw [run_equalIn_array W 9999 (e := 75) (n := 5) _ _ (by kernel_rfl) hi, hc]
 have hr : List.range 5 = [0, 1, 2, 3, 4] := rfl
 rw [hr]
 simp only [Op.eqItems, Sem.run_bind, part20_0, part20_1, part20_2, part20_3, part20_4, heq4, Result.andThen_ok, Nat.zero_mul, Nat.one_mul, Nat.reduceMul, Bool.not_true, Bool.false_eq_true, if_false, Sem.run_pure]
set_option maxHeartbeats 1000000 in
theorem feq_same (B B' g g' : Nat) (f : Fo) (w : World) (h : Fd w B g f) (h' : Fd w B' g' f) : Calls Tryz.prog 17 #[.pointer (some ⟨g, 0, none⟩), .pointer (some ⟨g', 0, none⟩)] w (Bl true w) := by
 have hq20 := heq20
 have hglt := h.lt
 have hglt' := h'.lt
 obtain ⟨hg, hBg, dv, hr, ho⟩ := h
 obtain ⟨hg', hBg', dv', hr', ho'⟩ := h'
 have he := fun W (hW : Below w.heap.size w W) => feqD_any w.heap.size g g' f.d f.d W ⟨hglt, dv, Rb.cell (hr.below hW) rfl, (Rws.of_own ho).keep hW (Nat.le_refl _)⟩ ⟨hglt', dv', Rb.cell (hr'.below hW) rfl, (Rws.of_own ho').keep hW (Nat.le_refl _)⟩ hW.size hg.d hg'.d
 rw [eqD_self] at he
 have HE := hid he; clear he
 obtain ⟨⟨s0, p0, t0, e0⟩, hl0⟩ : ∃ l, laOf f 1 = l := ⟨_, rfl⟩
 obtain ⟨⟨s1, p1, t1, e1⟩, hl1⟩ : ∃ l, laOf f 2 = l := ⟨_, rfl⟩
 obtain ⟨⟨s2, p2, t2, e2⟩, hl2⟩ : ∃ l, laOf f 3 = l := ⟨_, rfl⟩
 obtain ⟨⟨s3, p3, t3, e3⟩, hl3⟩ : ∃ l, laOf f 4 = l := ⟨_, rfl⟩
 obtain ⟨⟨s4, p4, t4, e4⟩, hl4⟩ : ∃ l, laOf f 5 = l := ⟨_, rfl⟩
 have hrg : w.rangeAt g 2 [.int .i64 s0, .int .i64 p0, .string t0, .int .i64 e0, .int .i64 s1, .int .i64 p1, .string t1, .int .i64 e1, .int .i64 s2, .int .i64 p2, .string t2, .int .i64 e2, .int .i64 s3, .int .i64 p3, .string t3, .int .i64 e3, .int .i64 s4, .int .i64 p4, .string t4, .int .i64 e4] := by
  have h : w.rangeAt g 2 (laV (laOf f 1) ++ (laV (laOf f 2) ++ (laV (laOf f 3) ++ (laV (laOf f 4) ++ laV (laOf f 5))))) := hr.all
  rw [hl0, hl1, hl2, hl3, hl4] at h; exact h
 have hrh : w.rangeAt g' 2 [.int .i64 s0, .int .i64 p0, .string t0, .int .i64 e0, .int .i64 s1, .int .i64 p1, .string t1, .int .i64 e1, .int .i64 s2, .int .i64 p2, .string t2, .int .i64 e2, .int .i64 s3, .int .i64 p3, .string t3, .int .i64 e3, .int .i64 s4, .int .i64 p4, .string t4, .int .i64 e4] := by
  have h : w.rangeAt g' 2 (laV (laOf f 1) ++ (laV (laOf f 2) ++ (laV (laOf f 3) ++ (laV (laOf f 4) ++ laV (laOf f 5))))) := hr'.all
  rw [hl0, hl1, hl2, hl3, hl4] at h; exact h
 have HRG := hid hrg; clear hrg
 have HRH := hid hrh; clear hrh
 have c0 : w.cell? ⟨g, 0, none⟩ = some (.int .i64 f.place) := Rb.cell hr rfl
 have c1 : w.cell? ⟨g', 0, none⟩ = some (.int .i64 f.place) := Rb.cell hr' rfl
 obtain ⟨p, hp⟩ : ∃ p, f.place = p := ⟨_, rfl⟩
 rw [hp] at c0 c1
 clear hp hl0 hl1 hl2 hl3 hl4
 clear hr ho hr' ho'
 have hb := Below.refl w.heap.size w
 go_enter Tryz.func17, Tryz.ntmps17
 go_wp2_with fail
 replace c0 : w.drew.cell? ⟨g, 0, none⟩ = some (.int .i64 p) := c0
 replace c1 : w.drew.cell? ⟨g', 0, none⟩ = some (.int .i64 p) := c1
 replace HRG := hid (range_below HRG.out ((Below.refl w.heap.size w).drew) (by omega))
 replace HRH := hid (range_below HRH.out ((Below.refl w.heap.size w).drew) (by omega))
 have hrg : w.drew.rangeAt g 2 [.int .i64 s0, .int .i64 p0, .string t0, .int .i64 e0, .int .i64 s1, .int .i64 p1, .string t1, .int .i64 e1, .int .i64 s2, .int .i64 p2, .string t2, .int .i64 e2, .int .i64 s3, .int .i64 p3, .string t3, .int .i64 e3, .int .i64 s4, .int .i64 p4, .string t4, .int .i64 e4] := HRG.out
 have hrh : w.drew.rangeAt g' 2 [.int .i64 s0, .int .i64 p0, .string t0, .int .i64 e0, .int .i64 s1, .int .i64 p1, .string t1, .int .i64 e1, .int .i64 s2, .int .i64 p2, .string t2, .int .i64 e2, .int .i64 s3, .int .i64 p3, .string t3, .int .i64 e3, .int .i64 s4, .int .i64 p4, .string t4, .int .i64 e4] := HRH.out
 refine wp_region_noPanic ?_
 refine wp_region_held_drew (S := fun W => W.cell? ⟨g, 0, none⟩ = some (.int .i64 p) ∧ W.cell? ⟨g', 0, none⟩ = some (.int .i64 p) ∧ W.rangeAt g 2 [.int .i64 s0, .int .i64 p0, .string t0, .int .i64 e0, .int .i64 s1, .int .i64 p1, .string t1, .int .i64 e1, .int .i64 s2, .int .i64 p2, .string t2, .int .i64 e2, .int .i64 s3, .int .i64 p3, .string t3, .int .i64 e3, .int .i64 s4, .int .i64 p4, .string t4, .int .i64 e4] ∧ W.rangeAt g' 2 [.int .i64 s0, .int .i64 p0, .string t0, .int .i64 e0, .int .i64 s1, .int .i64 p1, .string t1, .int .i64 e1, .int .i64 s2, .int .i64 p2, .string t2, .int .i64 e2, .int .i64 s3, .int .i64 p3, .string t3, .int .i64 e3, .int .i64 s4, .int .i64 p4, .string t4, .int .i64 e4]) (by kernel_rfl) ?_ (fun hHeld => ?_)
 ·exact ⟨c0, c1, hrg, hrh⟩
 replace hb : Below w.heap.size w w.drew := hb.drew
 replace hglt : g < w.drew.heap.size := hglt
 replace hglt' : g' < w.drew.heap.size := hglt'
 have hzd : w.heap.size ≤ w.drew.heap.size := Nat.le_refl _
 generalize w.drew = k1 at *
 refine tk9 0 (.pointer (some ⟨g, 0, none⟩)) rfl (fun w hSw => ?_) ?_
 ·(try dsimp only at hSw)
  go_simp
 try simp only [P9]
 refine tk9 1 (.pointer (some ⟨g, 0, none⟩)) rfl (fun w hSw => ?_) ?_
 ·(try dsimp only at hSw)
  go_simp
 try simp only [P9]
 refine tk9 2 (.pointer (some ⟨g, 0, none⟩)) rfl (fun w hSw => ?_) ?_
 ·(try dsimp only at hSw)
  go_simp
 try simp only [P9]
 refine tk9 3 (.int .i64 p) rfl (fun w hSw => ?_) ?_
 ·(try dsimp only at hSw)
  go_simp
 try simp only [P9]
 refine tk9 4 (.pointer (some ⟨g', 0, none⟩)) rfl (fun w hSw => ?_) ?_
 ·(try dsimp only at hSw)
  go_simp
 try simp only [P9]
 refine tk9 5 (.pointer (some ⟨g', 0, none⟩)) rfl (fun w hSw => ?_) ?_
 ·(try dsimp only at hSw)
  go_simp
 try simp only [P9]
 refine tk9 6 (.pointer (some ⟨g', 0, none⟩)) rfl (fun w hSw => ?_) ?_
 ·(try dsimp only at hSw)
  go_simp
 try simp only [P9]
 refine tk9 7 (.int .i64 p) rfl (fun w hSw => ?_) ?_
 ·(try dsimp only at hSw)
  go_simp
 try simp only [P9]
 refine tk9 8 (.bool true) rfl (fun w hSw => ?_) ?_
 ·(try dsimp only at hSw)
  go_simp
 try simp only [P9]
 refine tk9 9 (.bool true) rfl (fun w hSw => ?_) ?_
 ·(try dsimp only at hSw)
  go_simp
 try simp only [P9]
 refine tk9 10 (.pointer (some ⟨g, 0, none⟩)) rfl (fun w hSw => ?_) ?_
 ·(try dsimp only at hSw)
  go_simp
 try simp only [P9]
 refine tk9 11 (.pointer (some ⟨g, 0, none⟩)) rfl (fun w hSw => ?_) ?_
 ·(try dsimp only at hSw)
  go_simp
 try simp only [P9]
 refine tk9 12 (.pointer (some ⟨g, 2, none⟩)) rfl (fun w hSw => ?_) ?_
 ·(try dsimp only at hSw)
  go_simp
 try simp only [P9]
 refine tk8 (i := 13) (oi := { dst := some 24, op := Op.load 76 (Operand.tmp 23), type := 76, pos := "fold.go:100", after := #[{ on := 12, ground := Ground.data }, { on := 9, ground := Ground.guard }], guard := some (9, true) }) (v := .agg [.int .i64 s0, .int .i64 p0, .string t0, .int .i64 e0, .int .i64 s1, .int .i64 p1, .string t1, .int .i64 e1, .int .i64 s2, .int .i64 p2, .string t2, .int .i64 e2, .int .i64 s3, .int .i64 p3, .string t3, .int .i64 e3, .int .i64 s4, .int .i64 p4, .string t4, .int .i64 e4].toArray) (yieldsIf_load_mid (by rfl) 76 _ rfl g 2 rfl [.int .i64 s0, .int .i64 p0, .string t0, .int .i64 e0, .int .i64 s1, .int .i64 p1, .string t1, .int .i64 e1, .int .i64 s2, .int .i64 p2, .string t2, .int .i64 e2, .int .i64 s3, .int .i64 p3, .string t3, .int .i64 e3, .int .i64 s4, .int .i64 p4, .string t4, .int .i64 e4] _ (fun w h => h.2.2.1) Tryz.underlying76 rfl Tryz.infoLast5) ?_
 try simp only [P9]
 refine tk9 14 (.pointer (some ⟨g', 0, none⟩)) rfl (fun w hSw => ?_) ?_
 ·(try dsimp only at hSw)
  go_simp
 try simp only [P9]
 refine tk9 15 (.pointer (some ⟨g', 0, none⟩)) rfl (fun w hSw => ?_) ?_
 ·(try dsimp only at hSw)
  go_simp
 try simp only [P9]
 refine tk9 16 (.pointer (some ⟨g', 2, none⟩)) rfl (fun w hSw => ?_) ?_
 ·(try dsimp only at hSw)
  go_simp
 try simp only [P9]
 refine tk8 (i := 17) (oi := { dst := some 28, op := Op.load 76 (Operand.tmp 27), type := 76, pos := "fold.go:100", after := #[{ on := 16, ground := Ground.data }, { on := 9, ground := Ground.guard }], guard := some (9, true) }) (v := .agg [.int .i64 s0, .int .i64 p0, .string t0, .int .i64 e0, .int .i64 s1, .int .i64 p1, .string t1, .int .i64 e1, .int .i64 s2, .int .i64 p2, .string t2, .int .i64 e2, .int .i64 s3, .int .i64 p3, .string t3, .int .i64 e3, .int .i64 s4, .int .i64 p4, .string t4, .int .i64 e4].toArray) (yieldsIf_load_mid (by rfl) 76 _ rfl g' 2 rfl [.int .i64 s0, .int .i64 p0, .string t0, .int .i64 e0, .int .i64 s1, .int .i64 p1, .string t1, .int .i64 e1, .int .i64 s2, .int .i64 p2, .string t2, .int .i64 e2, .int .i64 s3, .int .i64 p3, .string t3, .int .i64 e3, .int .i64 s4, .int .i64 p4, .string t4, .int .i64 e4] _ (fun w h => h.2.2.2) Tryz.underlying76 rfl Tryz.infoLast5) ?_
 try simp only [P9]
 refine tk9 18 (.bool true) rfl (fun w hSw => ?_) ?_
 ·(try dsimp only at hSw)
  go_simp
 try simp only [P9]
 refine tk9 19 (.bool true) rfl (fun w hSw => ?_) ?_
 ·(try dsimp only at hSw)
  go_simp
 try simp only [P9]
 refine tk9 20 (.bool true) rfl (fun w hSw => ?_) ?_
 ·(try dsimp only at hSw)
  go_simp
 try simp only [P9]
 refine tk9 21 (.pointer (some ⟨g, 0, none⟩)) rfl (fun w hSw => ?_) ?_
 ·(try dsimp only at hSw)
  go_simp
 try simp only [P9]
 refine tk9 22 (.pointer (some ⟨g, 0, none⟩)) rfl (fun w hSw => ?_) ?_
 ·(try dsimp only at hSw)
  go_simp
 try simp only [P9]
 refine tk9 23 (.pointer (some ⟨g, 1, none⟩)) rfl (fun w hSw => ?_) ?_
 ·(try dsimp only at hSw)
  go_simp
 try simp only [P9]
 refine tk9 24 (.pointer (some ⟨g', 0, none⟩)) rfl (fun w hSw => ?_) ?_
 ·(try dsimp only at hSw)
  go_simp
 try simp only [P9]
 refine tk9 25 (.pointer (some ⟨g', 0, none⟩)) rfl (fun w hSw => ?_) ?_
 ·(try dsimp only at hSw)
  go_simp
 try simp only [P9]
 refine tk9 26 (.pointer (some ⟨g', 1, none⟩)) rfl (fun w hSw => ?_) ?_
 ·(try dsimp only at hSw)
  go_simp
 try simp only [P9]
 refine wpAnyH_ready (rs := [27]) (by kernel_rfl) (by simp) ?_
 refine AllReadyH.cons (o := _) rfl (fun K hK => ?_) (AllReadyH.nil)
 go_simp
 go_at_call 42
 refine (HE.out _ hb).mono ?_
 rintro e k2 ⟨rfl, h⟩
 have hk : Below k1.heap.size k1 k2 := HK9 h
 have hz := h.size
 try simp at hz
 replace c0 := (hk.cell LT9).trans c0
 replace c1 := (hk.cell LT9).trans c1
 replace HRG := hid (range_below HRG.out hk (by omega))
 replace HRH := hid (range_below HRH.out hk (by omega))
 replace hb : Below w.heap.size w k2 := hb.trans (hk.mono hb.size)
 have hglt : g < k2.heap.size := LT9
 have hglt' : g' < k2.heap.size := LT9
 clear h hk
 have hrg : k2.rangeAt g 2 [.int .i64 s0, .int .i64 p0, .string t0, .int .i64 e0, .int .i64 s1, .int .i64 p1, .string t1, .int .i64 e1, .int .i64 s2, .int .i64 p2, .string t2, .int .i64 e2, .int .i64 s3, .int .i64 p3, .string t3, .int .i64 e3, .int .i64 s4, .int .i64 p4, .string t4, .int .i64 e4] := HRG.out
 have hrh : k2.rangeAt g' 2 [.int .i64 s0, .int .i64 p0, .string t0, .int .i64 e0, .int .i64 s1, .int .i64 p1, .string t1, .int .i64 e1, .int .i64 s2, .int .i64 p2, .string t2, .int .i64 e2, .int .i64 s3, .int .i64 p3, .string t3, .int .i64 e3, .int .i64 s4, .int .i64 p4, .string t4, .int .i64 e4] := HRH.out
 try dsimp only
 refine hK.out _ _ ?_ (fun hHeld => ?_)
 ·exact ⟨c0, c1, hrg, hrh⟩
 clear hK K
 try simp only [P9]
 refine wpAnyH_ready (rs := [28]) (by kernel_rfl) (by simp) ?_
 refine AllReadyH.cons (o := _) rfl (fun K hK => ?_) (AllReadyH.nil)
 go_simp
 refine hK.out _ _ ?_ (fun hHeld => ?_)
 ·exact ⟨c0, c1, hrg, hrh⟩
 clear hK K
 try simp only [P9]
 refine wpAnyH_ready (rs := [29]) (by kernel_rfl) (by simp) ?_
 refine AllReadyH.cons (o := _) rfl (fun K hK => ?_) (AllReadyH.nil)
 go_simp
 refine hK.out _ _ ?_ (fun hHeld => ?_)
 ·exact ⟨c0, c1, hrg, hrh⟩
 clear hK K
 try simp only [P9]
 refine wpAnyH_done (by kernel_rfl) ?_ _
 refine NoPanic.normal ?_
 go_wp2
 go_ret
 exact ⟨rfl, hb⟩
set_option maxHeartbeats 1000000 in
theorem feq_place (B B' g g' : Nat) (f f' : Fo) (w : World) (h : Fd w B g f) (h' : Fd w B' g' f') (hne : ¬ f.place = f'.place) : Calls Tryz.prog 17 #[.pointer (some ⟨g, 0, none⟩), .pointer (some ⟨g', 0, none⟩)] w (Bl false w) := by
 have hq20 := heq20
 have hglt := h.lt
 have hglt' := h'.lt
 obtain ⟨hg, hBg, dv, hr, ho⟩ := h
 obtain ⟨hg', hBg', dv', hr', ho'⟩ := h'
 have he := fun W (hW : Below w.heap.size w W) => feqD_any w.heap.size g g' f.d f'.d W ⟨hglt, dv, Rb.cell (hr.below hW) rfl, (Rws.of_own ho).keep hW (Nat.le_refl _)⟩ ⟨hglt', dv', Rb.cell (hr'.below hW) rfl, (Rws.of_own ho').keep hW (Nat.le_refl _)⟩ hW.size hg.d hg'.d
 have HE := hid he; clear he
 have c0 : w.cell? ⟨g, 0, none⟩ = some (.int .i64 f.place) := Rb.cell hr rfl
 have c1 : w.cell? ⟨g', 0, none⟩ = some (.int .i64 f'.place) := Rb.cell hr' rfl
 obtain ⟨p, hp⟩ : ∃ p, f.place = p := ⟨_, rfl⟩
 obtain ⟨q, hq⟩ : ∃ q, f'.place = q := ⟨_, rfl⟩
 rw [hp] at c0 hne
 rw [hq] at c1 hne
 have hneb : (p == q) = false := by rw [beq_eq_false_iff_ne]; exact hne
 clear hp hq
 clear hr ho hr' ho'
 have hb := Below.refl w.heap.size w
 go_enter Tryz.func17, Tryz.ntmps17
 go_wp2_with fail
 replace c0 : w.drew.cell? ⟨g, 0, none⟩ = some (.int .i64 p) := c0
 replace c1 : w.drew.cell? ⟨g', 0, none⟩ = some (.int .i64 q) := c1
 refine wp_region_noPanic ?_
 refine wp_region_held_drew (S := fun W => W.cell? ⟨g, 0, none⟩ = some (.int .i64 p) ∧ W.cell? ⟨g', 0, none⟩ = some (.int .i64 q)) (by kernel_rfl) ?_ (fun hHeld => ?_)
 ·exact ⟨c0, c1⟩
 replace hb : Below w.heap.size w w.drew := hb.drew
 replace hglt : g < w.drew.heap.size := hglt
 replace hglt' : g' < w.drew.heap.size := hglt'
 have hzd : w.heap.size ≤ w.drew.heap.size := Nat.le_refl _
 generalize w.drew = k1 at *
 refine tk9 0 (.pointer (some ⟨g, 0, none⟩)) rfl (fun w hSw => ?_) ?_
 ·(try dsimp only at hSw)
  go_simp
 try simp only [P9]
 refine tk9 1 (.pointer (some ⟨g, 0, none⟩)) rfl (fun w hSw => ?_) ?_
 ·(try dsimp only at hSw)
  go_simp
 try simp only [P9]
 refine tk9 2 (.pointer (some ⟨g, 0, none⟩)) rfl (fun w hSw => ?_) ?_
 ·(try dsimp only at hSw)
  go_simp
 try simp only [P9]
 refine tk9 3 (.int .i64 p) rfl (fun w hSw => ?_) ?_
 ·(try dsimp only at hSw)
  go_simp
 try simp only [P9]
 refine tk9 4 (.pointer (some ⟨g', 0, none⟩)) rfl (fun w hSw => ?_) ?_
 ·(try dsimp only at hSw)
  go_simp
 try simp only [P9]
 refine tk9 5 (.pointer (some ⟨g', 0, none⟩)) rfl (fun w hSw => ?_) ?_
 ·(try dsimp only at hSw)
  go_simp
 try simp only [P9]
 refine tk9 6 (.pointer (some ⟨g', 0, none⟩)) rfl (fun w hSw => ?_) ?_
 ·(try dsimp only at hSw)
  go_simp
 try simp only [P9]
 refine tk9 7 (.int .i64 q) rfl (fun w hSw => ?_) ?_
 ·(try dsimp only at hSw)
  go_simp
 try simp only [P9]
 refine tk9 8 (.bool false) rfl (fun w hSw => ?_) ?_
 ·(try dsimp only at hSw)
  go_simp
 try simp only [P9]
 refine tk9 9 (.bool false) rfl (fun w hSw => ?_) ?_
 ·(try dsimp only at hSw)
  go_simp
 try simp only [P9]
 refine tk7 10 rfl ?_
 try simp only [P9]
 refine tk7 11 rfl ?_
 try simp only [P9]
 refine tk7 12 rfl ?_
 try simp only [P9]
 refine tk7 13 rfl ?_
 try simp only [P9]
 refine tk7 14 rfl ?_
 try simp only [P9]
 refine tk7 15 rfl ?_
 try simp only [P9]
 refine tk7 16 rfl ?_
 try simp only [P9]
 refine tk7 17 rfl ?_
 try simp only [P9]
 refine tk7 18 rfl ?_
 try simp only [P9]
 refine tk9 19 (.bool false) rfl (fun w hSw => ?_) ?_
 ·(try dsimp only at hSw)
  go_simp
 try simp only [P9]
 refine tk9 20 (.bool false) rfl (fun w hSw => ?_) ?_
 ·(try dsimp only at hSw)
  go_simp
 try simp only [P9]
 refine tk7 21 rfl ?_
 try simp only [P9]
 refine tk7 22 rfl ?_
 try simp only [P9]
 refine tk7 23 rfl ?_
 try simp only [P9]
 refine tk7 24 rfl ?_
 try simp only [P9]
 refine tk7 25 rfl ?_
 try simp only [P9]
 refine tk7 26 rfl ?_
 try simp only [P9]
 refine tk7 27 rfl ?_
 try simp only [P9]
 refine tk9 28 (.bool false) rfl (fun w hSw => ?_) ?_
 ·(try dsimp only at hSw)
  go_simp
 try simp only [P9]
 refine wpAnyH_ready (rs := [29]) (by kernel_rfl) (by simp) ?_
 refine AllReadyH.cons (o := _) rfl (fun K hK => ?_) (AllReadyH.nil)
 go_simp
 refine hK.out _ _ ?_ (fun hHeld => ?_)
 ·exact ⟨c0, c1⟩
 clear hK K
 try simp only [P9]
 refine wpAnyH_done (by kernel_rfl) ?_ _
 refine NoPanic.normal ?_
 go_wp2
 go_ret
 exact ⟨rfl, hb⟩
end Go.Proofs.YtegkhkcnoahhdaaGreat
