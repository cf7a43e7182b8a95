/-
  Package fold's Eq: equal folds are the same, folds of other places are not.
  The folds are as they should be.
-/
import Derived.Test.YtegkhkcnoahhdaaFCopy
import Derived.DeepKeys
set_option linter.unusedSimpArgs false
set_option linter.unusedVariables false
namespace Go.Proofs.Ytegkhkcnoahhdaa
open Go.RowKit
set_option maxRecDepth 100000

theorem heq4 (a b e : Int) (c : ByteArray) (W : World) : (Op.equalIn 9999 61 (.agg #[.int .i64 a, .int .i64 b, .string c, .int .i64 e]) (.agg #[.int .i64 a, .int .i64 b, .string c, .int .i64 e])).run Try.prog W = .ok true W := by
  rw [run_equalIn_struct W 9998 _ _ _ (by kernel_rfl) (by kernel_rfl)]
  go_simp
theorem part20_0 (s0 p0 e0 s1 p1 e1 s2 p2 e2 s3 p3 e3 s4 p4 e4 : Int) (t0 t1 t2 t3 t4 : ByteArray) (W : World) : (part 61 #[.int .i64 s0, .int .i64 p0, .string t0, .int .i64 e0, .int .i64 s1, .int .i64 p1, .string t1, .int .i64 e1, .int .i64 s2, .int .i64 p2, .string t2, .int .i64 e2, .int .i64 s3, .int .i64 p3, .string t3, .int .i64 e3, .int .i64 s4, .int .i64 p4, .string t4, .int .i64 e4] 0).run Try.prog W = .ok (.agg #[.int .i64 s0, .int .i64 p0, .string t0, .int .i64 e0]) W := by kernel_rfl
theorem part20_1 (s0 p0 e0 s1 p1 e1 s2 p2 e2 s3 p3 e3 s4 p4 e4 : Int) (t0 t1 t2 t3 t4 : ByteArray) (W : World) : (part 61 #[.int .i64 s0, .int .i64 p0, .string t0, .int .i64 e0, .int .i64 s1, .int .i64 p1, .string t1, .int .i64 e1, .int .i64 s2, .int .i64 p2, .string t2, .int .i64 e2, .int .i64 s3, .int .i64 p3, .string t3, .int .i64 e3, .int .i64 s4, .int .i64 p4, .string t4, .int .i64 e4] 4).run Try.prog W = .ok (.agg #[.int .i64 s1, .int .i64 p1, .string t1, .int .i64 e1]) W := by kernel_rfl
theorem part20_2 (s0 p0 e0 s1 p1 e1 s2 p2 e2 s3 p3 e3 s4 p4 e4 : Int) (t0 t1 t2 t3 t4 : ByteArray) (W : World) : (part 61 #[.int .i64 s0, .int .i64 p0, .string t0, .int .i64 e0, .int .i64 s1, .int .i64 p1, .string t1, .int .i64 e1, .int .i64 s2, .int .i64 p2, .string t2, .int .i64 e2, .int .i64 s3, .int .i64 p3, .string t3, .int .i64 e3, .int .i64 s4, .int .i64 p4, .string t4, .int .i64 e4] 8).run Try.prog W = .ok (.agg #[.int .i64 s2, .int .i64 p2, .string t2, .int .i64 e2]) W := by kernel_rfl
theorem part20_3 (s0 p0 e0 s1 p1 e1 s2 p2 e2 s3 p3 e3 s4 p4 e4 : Int) (t0 t1 t2 t3 t4 : ByteArray) (W : World) : (part 61 #[.int .i64 s0, .int .i64 p0, .string t0, .int .i64 e0, .int .i64 s1, .int .i64 p1, .string t1, .int .i64 e1, .int .i64 s2, .int .i64 p2, .string t2, .int .i64 e2, .int .i64 s3, .int .i64 p3, .string t3, .int .i64 e3, .int .i64 s4, .int .i64 p4, .string t4, .int .i64 e4] 12).run Try.prog W = .ok (.agg #[.int .i64 s3, .int .i64 p3, .string t3, .int .i64 e3]) W := by kernel_rfl
theorem part20_4 (s0 p0 e0 s1 p1 e1 s2 p2 e2 s3 p3 e3 s4 p4 e4 : Int) (t0 t1 t2 t3 t4 : ByteArray) (W : World) : (part 61 #[.int .i64 s0, .int .i64 p0, .string t0, .int .i64 e0, .int .i64 s1, .int .i64 p1, .string t1, .int .i64 e1, .int .i64 s2, .int .i64 p2, .string t2, .int .i64 e2, .int .i64 s3, .int .i64 p3, .string t3, .int .i64 e3, .int .i64 s4, .int .i64 p4, .string t4, .int .i64 e4] 16).run Try.prog W = .ok (.agg #[.int .i64 s4, .int .i64 p4, .string t4, .int .i64 e4]) W := by kernel_rfl
theorem heq20 (s0 p0 e0 s1 p1 e1 s2 p2 e2 s3 p3 e3 s4 p4 e4 : Int) (t0 t1 t2 t3 t4 : ByteArray) (W : World) : (Op.equalIn 10000 62 (.agg #[.int .i64 s0, .int .i64 p0, .string t0, .int .i64 e0, .int .i64 s1, .int .i64 p1, .string t1, .int .i64 e1, .int .i64 s2, .int .i64 p2, .string t2, .int .i64 e2, .int .i64 s3, .int .i64 p3, .string t3, .int .i64 e3, .int .i64 s4, .int .i64 p4, .string t4, .int .i64 e4]) (.agg #[.int .i64 s0, .int .i64 p0, .string t0, .int .i64 e0, .int .i64 s1, .int .i64 p1, .string t1, .int .i64 e1, .int .i64 s2, .int .i64 p2, .string t2, .int .i64 e2, .int .i64 s3, .int .i64 p3, .string t3, .int .i64 e3, .int .i64 s4, .int .i64 p4, .string t4, .int .i64 e4])).run Try.prog W = .ok true W := by
  obtain ⟨i, hi⟩ : ∃ i, Try.prog.info? 61 = some i := by
    cases h : Try.prog.info? 61 with
    | none => have := Try.infoLast; rw [h] at this; cases this
    | some i => exact ⟨i, rfl⟩
  have hc : Try.prog.cellsOf 61 = 4 := by kernel_rfl
  rw [run_equalIn_array W 9999 (e := 61) (n := 5) _ _ (by kernel_rfl) hi, hc]
  have hr : List.range 5 = [0, 1, 2, 3, 4] := rfl
  rw [hr]
  simp only [Op.eqItems, Sem.run_bind, part20_0, part20_1, part20_2, part20_3, part20_4, heq4, Result.andThen_ok, Nat.zero_mul, Nat.one_mul, Nat.reduceMul, Bool.not_true, Bool.false_eq_true, if_false, Sem.run_pure]
set_option maxHeartbeats 1000000 in
theorem feq_same (B B' g g' : Nat) (f : Fo) (w : World) (h : Fd w B g f) (h' : Fd w B' g' f) : Calls Try.prog 15 #[.pointer (some ⟨g, 0, none⟩), .pointer (some ⟨g', 0, none⟩)] w (Bl true w) := by
  have hq20 := heq20
  have hglt := h.lt
  have hglt' := h'.lt
  obtain ⟨hg, hBg, dv, hr, ho⟩ := h
  obtain ⟨hg', hBg', dv', hr', ho'⟩ := h'
  have he := fun W (hW : Below w.heap.size w W) => feqD_any w.heap.size g g' f.d f.d W ⟨hglt, dv, Rb.cell (hr.below hW) rfl, (Rws.of_own ho).keep hW (Nat.le_refl _)⟩ ⟨hglt', dv', Rb.cell (hr'.below hW) rfl, (Rws.of_own ho').keep hW (Nat.le_refl _)⟩ hW.size hg.d hg'.d
  rw [eqD_self] at he
  have HE := Lib.hid he; clear he
  obtain ⟨⟨s0, p0, t0, e0⟩, hl0⟩ : ∃ l, laOf f 1 = l := ⟨_, rfl⟩
  obtain ⟨⟨s1, p1, t1, e1⟩, hl1⟩ : ∃ l, laOf f 2 = l := ⟨_, rfl⟩
  obtain ⟨⟨s2, p2, t2, e2⟩, hl2⟩ : ∃ l, laOf f 3 = l := ⟨_, rfl⟩
  obtain ⟨⟨s3, p3, t3, e3⟩, hl3⟩ : ∃ l, laOf f 4 = l := ⟨_, rfl⟩
  obtain ⟨⟨s4, p4, t4, e4⟩, hl4⟩ : ∃ l, laOf f 5 = l := ⟨_, rfl⟩
  have hrg : w.rangeAt g 2 [.int .i64 s0, .int .i64 p0, .string t0, .int .i64 e0, .int .i64 s1, .int .i64 p1, .string t1, .int .i64 e1, .int .i64 s2, .int .i64 p2, .string t2, .int .i64 e2, .int .i64 s3, .int .i64 p3, .string t3, .int .i64 e3, .int .i64 s4, .int .i64 p4, .string t4, .int .i64 e4] := by
    have h : w.rangeAt g 2 (laV (laOf f 1) ++ (laV (laOf f 2) ++ (laV (laOf f 3) ++ (laV (laOf f 4) ++ laV (laOf f 5))))) := hr.all
    rw [hl0, hl1, hl2, hl3, hl4] at h; exact h
  have hrh : w.rangeAt g' 2 [.int .i64 s0, .int .i64 p0, .string t0, .int .i64 e0, .int .i64 s1, .int .i64 p1, .string t1, .int .i64 e1, .int .i64 s2, .int .i64 p2, .string t2, .int .i64 e2, .int .i64 s3, .int .i64 p3, .string t3, .int .i64 e3, .int .i64 s4, .int .i64 p4, .string t4, .int .i64 e4] := by
    have h : w.rangeAt g' 2 (laV (laOf f 1) ++ (laV (laOf f 2) ++ (laV (laOf f 3) ++ (laV (laOf f 4) ++ laV (laOf f 5))))) := hr'.all
    rw [hl0, hl1, hl2, hl3, hl4] at h; exact h
  have HRG := Lib.hid hrg; clear hrg
  have HRH := Lib.hid hrh; clear hrh
  have c0 : w.cell? ⟨g, 0, none⟩ = some (.int .i64 f.place) := Rb.cell hr rfl
  have c1 : w.cell? ⟨g', 0, none⟩ = some (.int .i64 f.place) := Rb.cell hr' rfl
  obtain ⟨p, hp⟩ : ∃ p, f.place = p := ⟨_, rfl⟩
  rw [hp] at c0 c1
  clear hp hl0 hl1 hl2 hl3 hl4
  clear hr ho hr' ho'
  have hb := Below.refl w.heap.size w
  go_enter Try.func15, Try.ntmps15
  go_wp2_with fail
  replace c0 : w.drew.cell? ⟨g, 0, none⟩ = some (.int .i64 p) := c0
  replace c1 : w.drew.cell? ⟨g', 0, none⟩ = some (.int .i64 p) := c1
  replace HRG := Lib.hid (range_below HRG.out ((Below.refl w.heap.size w).drew) (by omega))
  replace HRH := Lib.hid (range_below HRH.out ((Below.refl w.heap.size w).drew) (by omega))
  have hrg : w.drew.rangeAt g 2 [.int .i64 s0, .int .i64 p0, .string t0, .int .i64 e0, .int .i64 s1, .int .i64 p1, .string t1, .int .i64 e1, .int .i64 s2, .int .i64 p2, .string t2, .int .i64 e2, .int .i64 s3, .int .i64 p3, .string t3, .int .i64 e3, .int .i64 s4, .int .i64 p4, .string t4, .int .i64 e4] := HRG.out
  have hrh : w.drew.rangeAt g' 2 [.int .i64 s0, .int .i64 p0, .string t0, .int .i64 e0, .int .i64 s1, .int .i64 p1, .string t1, .int .i64 e1, .int .i64 s2, .int .i64 p2, .string t2, .int .i64 e2, .int .i64 s3, .int .i64 p3, .string t3, .int .i64 e3, .int .i64 s4, .int .i64 p4, .string t4, .int .i64 e4] := HRH.out
  refine wp_region_noPanic ?_
  refine wp_region_held_drew (S := fun W => W.cell? ⟨g, 0, none⟩ = some (.int .i64 p) ∧ W.cell? ⟨g', 0, none⟩ = some (.int .i64 p) ∧ W.rangeAt g 2 [.int .i64 s0, .int .i64 p0, .string t0, .int .i64 e0, .int .i64 s1, .int .i64 p1, .string t1, .int .i64 e1, .int .i64 s2, .int .i64 p2, .string t2, .int .i64 e2, .int .i64 s3, .int .i64 p3, .string t3, .int .i64 e3, .int .i64 s4, .int .i64 p4, .string t4, .int .i64 e4] ∧ W.rangeAt g' 2 [.int .i64 s0, .int .i64 p0, .string t0, .int .i64 e0, .int .i64 s1, .int .i64 p1, .string t1, .int .i64 e1, .int .i64 s2, .int .i64 p2, .string t2, .int .i64 e2, .int .i64 s3, .int .i64 p3, .string t3, .int .i64 e3, .int .i64 s4, .int .i64 p4, .string t4, .int .i64 e4]) (by kernel_rfl) ?_ (fun hHeld => ?_)
  · exact ⟨c0, c1, hrg, hrh⟩
  replace hb : Below w.heap.size w w.drew := hb.drew
  replace hglt : g < w.drew.heap.size := hglt
  replace hglt' : g' < w.drew.heap.size := hglt'
  have hzd : w.heap.size ≤ w.drew.heap.size := Nat.le_refl _
  generalize w.drew = k1 at *
  refine wpAnyH_take (i := 0) (oi := { dst := some 11, op := Op.move (Operand.tmp 0), type := 26, pos := "fold.go:100", after := #[], guard := none }) (v := .pointer (some ⟨g, 0, none⟩)) rfl (by kernel_rfl) (by kernel_rfl) (by kernel_rfl) (fun _ _ _ h => h) (Or.inl ⟨by rfl, fun w hSw => ?_⟩) (by assumption) ?_
  · (try dsimp only at hSw)
    go_simp
  try simp only [Act.put, List.setIfInBounds_toArray, List.set_cons_zero, List.set_cons_succ]
  refine wpAnyH_take (i := 1) (oi := { dst := some 12, op := Op.nilCheck (Operand.tmp 11), type := 0, pos := "fold.go:100", after := #[{ on := 0, ground := Ground.data }], guard := none }) (v := .pointer (some ⟨g, 0, none⟩)) rfl (by kernel_rfl) (by kernel_rfl) (by kernel_rfl) (fun _ _ _ h => h) (Or.inl ⟨by rfl, fun w hSw => ?_⟩) (by assumption) ?_
  · (try dsimp only at hSw)
    go_simp
  try simp only [Act.put, List.setIfInBounds_toArray, List.set_cons_zero, List.set_cons_succ]
  refine wpAnyH_take (i := 2) (oi := { dst := some 13, op := Op.fieldAddr 64 (Operand.tmp 12) 0, type := 0, pos := "fold.go:100", after := #[{ on := 1, ground := Ground.data }], guard := none }) (v := .pointer (some ⟨g, 0, none⟩)) rfl (by kernel_rfl) (by kernel_rfl) (by kernel_rfl) (fun _ _ _ h => h) (Or.inl ⟨by rfl, fun w hSw => ?_⟩) (by assumption) ?_
  · (try dsimp only at hSw)
    go_simp
  try simp only [Act.put, List.setIfInBounds_toArray, List.set_cons_zero, List.set_cons_succ]
  refine wpAnyH_take (i := 3) (oi := { dst := some 14, op := Op.load 2 (Operand.tmp 13), type := 2, pos := "fold.go:100", after := #[{ on := 2, ground := Ground.data }], guard := none }) (v := .int .i64 p) rfl (by kernel_rfl) (by kernel_rfl) (by kernel_rfl) (fun _ _ _ h => h) (Or.inl ⟨by rfl, fun w hSw => ?_⟩) (by assumption) ?_
  · (try dsimp only at hSw)
    go_simp
  try simp only [Act.put, List.setIfInBounds_toArray, List.set_cons_zero, List.set_cons_succ]
  refine wpAnyH_take (i := 4) (oi := { dst := some 15, op := Op.move (Operand.tmp 1), type := 26, pos := "fold.go:100", after := #[], guard := none }) (v := .pointer (some ⟨g', 0, none⟩)) rfl (by kernel_rfl) (by kernel_rfl) (by kernel_rfl) (fun _ _ _ h => h) (Or.inl ⟨by rfl, fun w hSw => ?_⟩) (by assumption) ?_
  · (try dsimp only at hSw)
    go_simp
  try simp only [Act.put, List.setIfInBounds_toArray, List.set_cons_zero, List.set_cons_succ]
  refine wpAnyH_take (i := 5) (oi := { dst := some 16, op := Op.nilCheck (Operand.tmp 15), type := 0, pos := "fold.go:100", after := #[{ on := 4, ground := Ground.data }], guard := none }) (v := .pointer (some ⟨g', 0, none⟩)) rfl (by kernel_rfl) (by kernel_rfl) (by kernel_rfl) (fun _ _ _ h => h) (Or.inl ⟨by rfl, fun w hSw => ?_⟩) (by assumption) ?_
  · (try dsimp only at hSw)
    go_simp
  try simp only [Act.put, List.setIfInBounds_toArray, List.set_cons_zero, List.set_cons_succ]
  refine wpAnyH_take (i := 6) (oi := { dst := some 17, op := Op.fieldAddr 64 (Operand.tmp 16) 0, type := 0, pos := "fold.go:100", after := #[{ on := 5, ground := Ground.data }], guard := none }) (v := .pointer (some ⟨g', 0, none⟩)) rfl (by kernel_rfl) (by kernel_rfl) (by kernel_rfl) (fun _ _ _ h => h) (Or.inl ⟨by rfl, fun w hSw => ?_⟩) (by assumption) ?_
  · (try dsimp only at hSw)
    go_simp
  try simp only [Act.put, List.setIfInBounds_toArray, List.set_cons_zero, List.set_cons_succ]
  refine wpAnyH_take (i := 7) (oi := { dst := some 18, op := Op.load 2 (Operand.tmp 17), type := 2, pos := "fold.go:100", after := #[{ on := 6, ground := Ground.data }], guard := none }) (v := .int .i64 p) rfl (by kernel_rfl) (by kernel_rfl) (by kernel_rfl) (fun _ _ _ h => h) (Or.inl ⟨by rfl, fun w hSw => ?_⟩) (by assumption) ?_
  · (try dsimp only at hSw)
    go_simp
  try simp only [Act.put, List.setIfInBounds_toArray, List.set_cons_zero, List.set_cons_succ]
  refine wpAnyH_take (i := 8) (oi := { dst := some 19, op := Op.binOp BinOp.eql 2 (Operand.tmp 14) (Operand.tmp 18) 2, type := 4, pos := "fold.go:100", after := #[{ on := 3, ground := Ground.data }, { on := 7, ground := Ground.data }], guard := none }) (v := .bool true) rfl (by kernel_rfl) (by kernel_rfl) (by kernel_rfl) (fun _ _ _ h => h) (Or.inl ⟨by rfl, fun w hSw => ?_⟩) (by assumption) ?_
  · (try dsimp only at hSw)
    go_simp
  try simp only [Act.put, List.setIfInBounds_toArray, List.set_cons_zero, List.set_cons_succ]
  refine wpAnyH_take (i := 9) (oi := { dst := some 20, op := Op.move (Operand.tmp 19), type := 4, pos := "fold.go:100", after := #[{ on := 8, ground := Ground.data }], guard := none }) (v := .bool true) rfl (by kernel_rfl) (by kernel_rfl) (by kernel_rfl) (fun _ _ _ h => h) (Or.inl ⟨by rfl, fun w hSw => ?_⟩) (by assumption) ?_
  · (try dsimp only at hSw)
    go_simp
  try simp only [Act.put, List.setIfInBounds_toArray, List.set_cons_zero, List.set_cons_succ]
  refine wpAnyH_take (i := 10) (oi := { dst := some 21, op := Op.move (Operand.tmp 0), type := 26, pos := "fold.go:100", after := #[{ on := 9, ground := Ground.guard }], guard := some (9, true) }) (v := .pointer (some ⟨g, 0, none⟩)) rfl (by kernel_rfl) (by kernel_rfl) (by kernel_rfl) (fun _ _ _ h => h) (Or.inl ⟨by rfl, fun w hSw => ?_⟩) (by assumption) ?_
  · (try dsimp only at hSw)
    go_simp
  try simp only [Act.put, List.setIfInBounds_toArray, List.set_cons_zero, List.set_cons_succ]
  refine wpAnyH_take (i := 11) (oi := { dst := some 22, op := Op.nilCheck (Operand.tmp 21), type := 0, pos := "fold.go:100", after := #[{ on := 10, ground := Ground.data }, { on := 9, ground := Ground.guard }], guard := some (9, true) }) (v := .pointer (some ⟨g, 0, none⟩)) rfl (by kernel_rfl) (by kernel_rfl) (by kernel_rfl) (fun _ _ _ h => h) (Or.inl ⟨by rfl, fun w hSw => ?_⟩) (by assumption) ?_
  · (try dsimp only at hSw)
    go_simp
  try simp only [Act.put, List.setIfInBounds_toArray, List.set_cons_zero, List.set_cons_succ]
  refine wpAnyH_take (i := 12) (oi := { dst := some 23, op := Op.fieldAddr 64 (Operand.tmp 22) 2, type := 0, pos := "fold.go:100", after := #[{ on := 11, ground := Ground.data }, { on := 9, ground := Ground.guard }], guard := some (9, true) }) (v := .pointer (some ⟨g, 2, none⟩)) rfl (by kernel_rfl) (by kernel_rfl) (by kernel_rfl) (fun _ _ _ h => h) (Or.inl ⟨by rfl, fun w hSw => ?_⟩) (by assumption) ?_
  · (try dsimp only at hSw)
    go_simp
  try simp only [Act.put, List.setIfInBounds_toArray, List.set_cons_zero, List.set_cons_succ]
  refine wpAnyH_take (i := 13) (oi := { dst := some 24, op := Op.load 62 (Operand.tmp 23), type := 62, pos := "fold.go:100", after := #[{ on := 12, ground := Ground.data }, { on := 9, ground := Ground.guard }], guard := some (9, true) }) (v := .agg [.int .i64 s0, .int .i64 p0, .string t0, .int .i64 e0, .int .i64 s1, .int .i64 p1, .string t1, .int .i64 e1, .int .i64 s2, .int .i64 p2, .string t2, .int .i64 e2, .int .i64 s3, .int .i64 p3, .string t3, .int .i64 e3, .int .i64 s4, .int .i64 p4, .string t4, .int .i64 e4].toArray) rfl (by kernel_rfl) (by kernel_rfl) (by kernel_rfl) (fun _ _ _ h => h) (yieldsIf_load_mid (by rfl) 62 _ rfl g 2 rfl [.int .i64 s0, .int .i64 p0, .string t0, .int .i64 e0, .int .i64 s1, .int .i64 p1, .string t1, .int .i64 e1, .int .i64 s2, .int .i64 p2, .string t2, .int .i64 e2, .int .i64 s3, .int .i64 p3, .string t3, .int .i64 e3, .int .i64 s4, .int .i64 p4, .string t4, .int .i64 e4] _ (fun w h => h.2.2.1) Try.underlying62 rfl Try.infoLast5) (by assumption) ?_
  try simp only [Act.put, List.setIfInBounds_toArray, List.set_cons_zero, List.set_cons_succ]
  refine wpAnyH_take (i := 14) (oi := { dst := some 25, op := Op.move (Operand.tmp 1), type := 26, pos := "fold.go:100", after := #[{ on := 9, ground := Ground.guard }], guard := some (9, true) }) (v := .pointer (some ⟨g', 0, none⟩)) rfl (by kernel_rfl) (by kernel_rfl) (by kernel_rfl) (fun _ _ _ h => h) (Or.inl ⟨by rfl, fun w hSw => ?_⟩) (by assumption) ?_
  · (try dsimp only at hSw)
    go_simp
  try simp only [Act.put, List.setIfInBounds_toArray, List.set_cons_zero, List.set_cons_succ]
  refine wpAnyH_take (i := 15) (oi := { dst := some 26, op := Op.nilCheck (Operand.tmp 25), type := 0, pos := "fold.go:100", after := #[{ on := 14, ground := Ground.data }, { on := 9, ground := Ground.guard }], guard := some (9, true) }) (v := .pointer (some ⟨g', 0, none⟩)) rfl (by kernel_rfl) (by kernel_rfl) (by kernel_rfl) (fun _ _ _ h => h) (Or.inl ⟨by rfl, fun w hSw => ?_⟩) (by assumption) ?_
  · (try dsimp only at hSw)
    go_simp
  try simp only [Act.put, List.setIfInBounds_toArray, List.set_cons_zero, List.set_cons_succ]
  refine wpAnyH_take (i := 16) (oi := { dst := some 27, op := Op.fieldAddr 64 (Operand.tmp 26) 2, type := 0, pos := "fold.go:100", after := #[{ on := 15, ground := Ground.data }, { on := 9, ground := Ground.guard }], guard := some (9, true) }) (v := .pointer (some ⟨g', 2, none⟩)) rfl (by kernel_rfl) (by kernel_rfl) (by kernel_rfl) (fun _ _ _ h => h) (Or.inl ⟨by rfl, fun w hSw => ?_⟩) (by assumption) ?_
  · (try dsimp only at hSw)
    go_simp
  try simp only [Act.put, List.setIfInBounds_toArray, List.set_cons_zero, List.set_cons_succ]
  refine wpAnyH_take (i := 17) (oi := { dst := some 28, op := Op.load 62 (Operand.tmp 27), type := 62, pos := "fold.go:100", after := #[{ on := 16, ground := Ground.data }, { on := 9, ground := Ground.guard }], guard := some (9, true) }) (v := .agg [.int .i64 s0, .int .i64 p0, .string t0, .int .i64 e0, .int .i64 s1, .int .i64 p1, .string t1, .int .i64 e1, .int .i64 s2, .int .i64 p2, .string t2, .int .i64 e2, .int .i64 s3, .int .i64 p3, .string t3, .int .i64 e3, .int .i64 s4, .int .i64 p4, .string t4, .int .i64 e4].toArray) rfl (by kernel_rfl) (by kernel_rfl) (by kernel_rfl) (fun _ _ _ h => h) (yieldsIf_load_mid (by rfl) 62 _ rfl g' 2 rfl [.int .i64 s0, .int .i64 p0, .string t0, .int .i64 e0, .int .i64 s1, .int .i64 p1, .string t1, .int .i64 e1, .int .i64 s2, .int .i64 p2, .string t2, .int .i64 e2, .int .i64 s3, .int .i64 p3, .string t3, .int .i64 e3, .int .i64 s4, .int .i64 p4, .string t4, .int .i64 e4] _ (fun w h => h.2.2.2) Try.underlying62 rfl Try.infoLast5) (by assumption) ?_
  try simp only [Act.put, List.setIfInBounds_toArray, List.set_cons_zero, List.set_cons_succ]
  refine wpAnyH_take (i := 18) (oi := { dst := some 29, op := Op.binOp BinOp.eql 62 (Operand.tmp 24) (Operand.tmp 28) 62, type := 4, pos := "fold.go:100", after := #[{ on := 13, ground := Ground.data }, { on := 17, ground := Ground.data }, { on := 9, ground := Ground.guard }], guard := some (9, true) }) (v := .bool true) rfl (by kernel_rfl) (by kernel_rfl) (by kernel_rfl) (fun _ _ _ h => h) (Or.inl ⟨by rfl, fun w hSw => ?_⟩) (by assumption) ?_
  · (try dsimp only at hSw)
    go_simp
  try simp only [Act.put, List.setIfInBounds_toArray, List.set_cons_zero, List.set_cons_succ]
  refine wpAnyH_take (i := 19) (oi := { dst := some 30, op := Op.pick (Operand.tmp 20) (Operand.tmp 29) (Operand.const (Value.bool false)), type := 4, pos := "fold.go:100", after := #[{ on := 9, ground := Ground.data }, { on := 18, ground := Ground.data }], guard := none }) (v := .bool true) rfl (by kernel_rfl) (by kernel_rfl) (by kernel_rfl) (fun _ _ _ h => h) (Or.inl ⟨by rfl, fun w hSw => ?_⟩) (by assumption) ?_
  · (try dsimp only at hSw)
    go_simp
  try simp only [Act.put, List.setIfInBounds_toArray, List.set_cons_zero, List.set_cons_succ]
  refine wpAnyH_take (i := 20) (oi := { dst := some 31, op := Op.move (Operand.tmp 30), type := 4, pos := "fold.go:100", after := #[{ on := 19, ground := Ground.data }, { on := 9, ground := Ground.chain }], guard := none }) (v := .bool true) rfl (by kernel_rfl) (by kernel_rfl) (by kernel_rfl) (fun _ _ _ h => h) (Or.inl ⟨by rfl, fun w hSw => ?_⟩) (by assumption) ?_
  · (try dsimp only at hSw)
    go_simp
  try simp only [Act.put, List.setIfInBounds_toArray, List.set_cons_zero, List.set_cons_succ]
  refine wpAnyH_take (i := 21) (oi := { dst := some 32, op := Op.move (Operand.tmp 0), type := 26, pos := "fold.go:100", after := #[{ on := 20, ground := Ground.guard }], guard := some (20, true) }) (v := .pointer (some ⟨g, 0, none⟩)) rfl (by kernel_rfl) (by kernel_rfl) (by kernel_rfl) (fun _ _ _ h => h) (Or.inl ⟨by rfl, fun w hSw => ?_⟩) (by assumption) ?_
  · (try dsimp only at hSw)
    go_simp
  try simp only [Act.put, List.setIfInBounds_toArray, List.set_cons_zero, List.set_cons_succ]
  refine wpAnyH_take (i := 22) (oi := { dst := some 33, op := Op.nilCheck (Operand.tmp 32), type := 0, pos := "fold.go:100", after := #[{ on := 21, ground := Ground.data }, { on := 20, ground := Ground.guard }], guard := some (20, true) }) (v := .pointer (some ⟨g, 0, none⟩)) rfl (by kernel_rfl) (by kernel_rfl) (by kernel_rfl) (fun _ _ _ h => h) (Or.inl ⟨by rfl, fun w hSw => ?_⟩) (by assumption) ?_
  · (try dsimp only at hSw)
    go_simp
  try simp only [Act.put, List.setIfInBounds_toArray, List.set_cons_zero, List.set_cons_succ]
  refine wpAnyH_take (i := 23) (oi := { dst := some 34, op := Op.fieldAddr 64 (Operand.tmp 33) 1, type := 0, pos := "fold.go:100", after := #[{ on := 22, ground := Ground.data }, { on := 20, ground := Ground.guard }], guard := some (20, true) }) (v := .pointer (some ⟨g, 1, none⟩)) rfl (by kernel_rfl) (by kernel_rfl) (by kernel_rfl) (fun _ _ _ h => h) (Or.inl ⟨by rfl, fun w hSw => ?_⟩) (by assumption) ?_
  · (try dsimp only at hSw)
    go_simp
  try simp only [Act.put, List.setIfInBounds_toArray, List.set_cons_zero, List.set_cons_succ]
  refine wpAnyH_take (i := 24) (oi := { dst := some 35, op := Op.move (Operand.tmp 1), type := 26, pos := "fold.go:100", after := #[{ on := 20, ground := Ground.guard }], guard := some (20, true) }) (v := .pointer (some ⟨g', 0, none⟩)) rfl (by kernel_rfl) (by kernel_rfl) (by kernel_rfl) (fun _ _ _ h => h) (Or.inl ⟨by rfl, fun w hSw => ?_⟩) (by assumption) ?_
  · (try dsimp only at hSw)
    go_simp
  try simp only [Act.put, List.setIfInBounds_toArray, List.set_cons_zero, List.set_cons_succ]
  refine wpAnyH_take (i := 25) (oi := { dst := some 36, op := Op.nilCheck (Operand.tmp 35), type := 0, pos := "fold.go:100", after := #[{ on := 24, ground := Ground.data }, { on := 20, ground := Ground.guard }], guard := some (20, true) }) (v := .pointer (some ⟨g', 0, none⟩)) rfl (by kernel_rfl) (by kernel_rfl) (by kernel_rfl) (fun _ _ _ h => h) (Or.inl ⟨by rfl, fun w hSw => ?_⟩) (by assumption) ?_
  · (try dsimp only at hSw)
    go_simp
  try simp only [Act.put, List.setIfInBounds_toArray, List.set_cons_zero, List.set_cons_succ]
  refine wpAnyH_take (i := 26) (oi := { dst := some 37, op := Op.fieldAddr 64 (Operand.tmp 36) 1, type := 0, pos := "fold.go:100", after := #[{ on := 25, ground := Ground.data }, { on := 20, ground := Ground.guard }], guard := some (20, true) }) (v := .pointer (some ⟨g', 1, none⟩)) rfl (by kernel_rfl) (by kernel_rfl) (by kernel_rfl) (fun _ _ _ h => h) (Or.inl ⟨by rfl, fun w hSw => ?_⟩) (by assumption) ?_
  · (try dsimp only at hSw)
    go_simp
  try simp only [Act.put, List.setIfInBounds_toArray, List.set_cons_zero, List.set_cons_succ]
  refine wpAnyH_ready (rs := [27]) (by kernel_rfl) (by simp) ?_
  refine AllReadyH.cons (o := { dst := some 38, op := Op.call { callee := Callee.value (Operand.func 26), args := #[Operand.tmp 34, Operand.tmp 37], argTypes := #[59, 49] }, type := 4, pos := "fold.go:100", after := #[{ on := 23, ground := Ground.data }, { on := 26, ground := Ground.data }, { on := 20, ground := Ground.chain }, { on := 20, ground := Ground.guard }], guard := some (20, true) }) rfl (fun K hK => ?_) (AllReadyH.nil)
  go_simp
  go_at_call 26
  refine (HE.out _ hb).mono ?_
  rintro e k2 ⟨rfl, h⟩
  have hk : Below k1.heap.size k1 k2 := by
    refine Below.trans ?_ (h.mono (by first | (simp; done) | (simp; omega) | omega))
    repeat' (first | with_reducible exact Below.refl _ _ | (with_reducible refine Below.alloc ?_ ?_ _) | (with_reducible refine Below.setCell ?_ ?_ _) | exact (by first | (simp; done) | (simp; omega) | omega))
  have hz := h.size
  try simp at hz
  replace c0 : k2.cell? ⟨g, 0, none⟩ = some (.int .i64 p) := (hk.cell (p := ⟨g, 0, none⟩) (by first | (simp; done) | (simp; omega) | omega)).trans c0
  replace c1 : k2.cell? ⟨g', 0, none⟩ = some (.int .i64 p) := (hk.cell (p := ⟨g', 0, none⟩) (by first | (simp; done) | (simp; omega) | omega)).trans c1
  replace HRG := Lib.hid (range_below HRG.out hk (by omega))
  replace HRH := Lib.hid (range_below HRH.out hk (by omega))
  replace hb : Below w.heap.size w k2 := hb.trans (hk.mono hb.size)
  have hglt : g < k2.heap.size := (by first | (simp; done) | (simp; omega) | omega)
  have hglt' : g' < k2.heap.size := (by first | (simp; done) | (simp; omega) | omega)
  clear h hk
  have hrg : k2.rangeAt g 2 [.int .i64 s0, .int .i64 p0, .string t0, .int .i64 e0, .int .i64 s1, .int .i64 p1, .string t1, .int .i64 e1, .int .i64 s2, .int .i64 p2, .string t2, .int .i64 e2, .int .i64 s3, .int .i64 p3, .string t3, .int .i64 e3, .int .i64 s4, .int .i64 p4, .string t4, .int .i64 e4] := HRG.out
  have hrh : k2.rangeAt g' 2 [.int .i64 s0, .int .i64 p0, .string t0, .int .i64 e0, .int .i64 s1, .int .i64 p1, .string t1, .int .i64 e1, .int .i64 s2, .int .i64 p2, .string t2, .int .i64 e2, .int .i64 s3, .int .i64 p3, .string t3, .int .i64 e3, .int .i64 s4, .int .i64 p4, .string t4, .int .i64 e4] := HRH.out
  try dsimp only
  refine hK.out _ _ ?_ (fun hHeld => ?_)
  · exact ⟨c0, c1, hrg, hrh⟩
  clear hK K
  try simp only [Act.put, List.setIfInBounds_toArray, List.set_cons_zero, List.set_cons_succ]
  refine wpAnyH_ready (rs := [28]) (by kernel_rfl) (by simp) ?_
  refine AllReadyH.cons (o := { dst := some 39, op := Op.pick (Operand.tmp 31) (Operand.tmp 38) (Operand.const (Value.bool false)), type := 4, pos := "fold.go:100", after := #[{ on := 20, ground := Ground.data }, { on := 27, ground := Ground.data }], guard := none }) rfl (fun K hK => ?_) (AllReadyH.nil)
  go_simp
  refine hK.out _ _ ?_ (fun hHeld => ?_)
  · exact ⟨c0, c1, hrg, hrh⟩
  clear hK K
  try simp only [Act.put, List.setIfInBounds_toArray, List.set_cons_zero, List.set_cons_succ]
  refine wpAnyH_ready (rs := [29]) (by kernel_rfl) (by simp) ?_
  refine AllReadyH.cons (o := _) rfl (fun K hK => ?_) (AllReadyH.nil)
  go_simp
  refine hK.out _ _ ?_ (fun hHeld => ?_)
  · exact ⟨c0, c1, hrg, hrh⟩
  clear hK K
  try simp only [Act.put, List.setIfInBounds_toArray, List.set_cons_zero, List.set_cons_succ]
  refine wpAnyH_done (by kernel_rfl) ?_ _
  refine NoPanic.normal ?_
  go_wp2
  go_ret
  exact ⟨rfl, hb⟩
set_option maxHeartbeats 1000000 in
theorem feq_place (B B' g g' : Nat) (f f' : Fo) (w : World) (h : Fd w B g f) (h' : Fd w B' g' f') (hne : ¬ f.place = f'.place) : Calls Try.prog 15 #[.pointer (some ⟨g, 0, none⟩), .pointer (some ⟨g', 0, none⟩)] w (Bl false w) := by
  have hq20 := heq20
  have hglt := h.lt
  have hglt' := h'.lt
  obtain ⟨hg, hBg, dv, hr, ho⟩ := h
  obtain ⟨hg', hBg', dv', hr', ho'⟩ := h'
  have he := fun W (hW : Below w.heap.size w W) => feqD_any w.heap.size g g' f.d f'.d W ⟨hglt, dv, Rb.cell (hr.below hW) rfl, (Rws.of_own ho).keep hW (Nat.le_refl _)⟩ ⟨hglt', dv', Rb.cell (hr'.below hW) rfl, (Rws.of_own ho').keep hW (Nat.le_refl _)⟩ hW.size hg.d hg'.d
  have HE := Lib.hid he; clear he
  have c0 : w.cell? ⟨g, 0, none⟩ = some (.int .i64 f.place) := Rb.cell hr rfl
  have c1 : w.cell? ⟨g', 0, none⟩ = some (.int .i64 f'.place) := Rb.cell hr' rfl
  obtain ⟨p, hp⟩ : ∃ p, f.place = p := ⟨_, rfl⟩
  obtain ⟨q, hq⟩ : ∃ q, f'.place = q := ⟨_, rfl⟩
  rw [hp] at c0 hne
  rw [hq] at c1 hne
  have hneb : (p == q) = false := by rw [beq_eq_false_iff_ne]; exact hne
  clear hp hq
  clear hr ho hr' ho'
  have hb := Below.refl w.heap.size w
  go_enter Try.func15, Try.ntmps15
  go_wp2_with fail
  replace c0 : w.drew.cell? ⟨g, 0, none⟩ = some (.int .i64 p) := c0
  replace c1 : w.drew.cell? ⟨g', 0, none⟩ = some (.int .i64 q) := c1
  refine wp_region_noPanic ?_
  refine wp_region_held_drew (S := fun W => W.cell? ⟨g, 0, none⟩ = some (.int .i64 p) ∧ W.cell? ⟨g', 0, none⟩ = some (.int .i64 q)) (by kernel_rfl) ?_ (fun hHeld => ?_)
  · exact ⟨c0, c1⟩
  replace hb : Below w.heap.size w w.drew := hb.drew
  replace hglt : g < w.drew.heap.size := hglt
  replace hglt' : g' < w.drew.heap.size := hglt'
  have hzd : w.heap.size ≤ w.drew.heap.size := Nat.le_refl _
  generalize w.drew = k1 at *
  refine wpAnyH_take (i := 0) (oi := { dst := some 11, op := Op.move (Operand.tmp 0), type := 26, pos := "fold.go:100", after := #[], guard := none }) (v := .pointer (some ⟨g, 0, none⟩)) rfl (by kernel_rfl) (by kernel_rfl) (by kernel_rfl) (fun _ _ _ h => h) (Or.inl ⟨by rfl, fun w hSw => ?_⟩) (by assumption) ?_
  · (try dsimp only at hSw)
    go_simp
  try simp only [Act.put, List.setIfInBounds_toArray, List.set_cons_zero, List.set_cons_succ]
  refine wpAnyH_take (i := 1) (oi := { dst := some 12, op := Op.nilCheck (Operand.tmp 11), type := 0, pos := "fold.go:100", after := #[{ on := 0, ground := Ground.data }], guard := none }) (v := .pointer (some ⟨g, 0, none⟩)) rfl (by kernel_rfl) (by kernel_rfl) (by kernel_rfl) (fun _ _ _ h => h) (Or.inl ⟨by rfl, fun w hSw => ?_⟩) (by assumption) ?_
  · (try dsimp only at hSw)
    go_simp
  try simp only [Act.put, List.setIfInBounds_toArray, List.set_cons_zero, List.set_cons_succ]
  refine wpAnyH_take (i := 2) (oi := { dst := some 13, op := Op.fieldAddr 64 (Operand.tmp 12) 0, type := 0, pos := "fold.go:100", after := #[{ on := 1, ground := Ground.data }], guard := none }) (v := .pointer (some ⟨g, 0, none⟩)) rfl (by kernel_rfl) (by kernel_rfl) (by kernel_rfl) (fun _ _ _ h => h) (Or.inl ⟨by rfl, fun w hSw => ?_⟩) (by assumption) ?_
  · (try dsimp only at hSw)
    go_simp
  try simp only [Act.put, List.setIfInBounds_toArray, List.set_cons_zero, List.set_cons_succ]
  refine wpAnyH_take (i := 3) (oi := { dst := some 14, op := Op.load 2 (Operand.tmp 13), type := 2, pos := "fold.go:100", after := #[{ on := 2, ground := Ground.data }], guard := none }) (v := .int .i64 p) rfl (by kernel_rfl) (by kernel_rfl) (by kernel_rfl) (fun _ _ _ h => h) (Or.inl ⟨by rfl, fun w hSw => ?_⟩) (by assumption) ?_
  · (try dsimp only at hSw)
    go_simp
  try simp only [Act.put, List.setIfInBounds_toArray, List.set_cons_zero, List.set_cons_succ]
  refine wpAnyH_take (i := 4) (oi := { dst := some 15, op := Op.move (Operand.tmp 1), type := 26, pos := "fold.go:100", after := #[], guard := none }) (v := .pointer (some ⟨g', 0, none⟩)) rfl (by kernel_rfl) (by kernel_rfl) (by kernel_rfl) (fun _ _ _ h => h) (Or.inl ⟨by rfl, fun w hSw => ?_⟩) (by assumption) ?_
  · (try dsimp only at hSw)
    go_simp
  try simp only [Act.put, List.setIfInBounds_toArray, List.set_cons_zero, List.set_cons_succ]
  refine wpAnyH_take (i := 5) (oi := { dst := some 16, op := Op.nilCheck (Operand.tmp 15), type := 0, pos := "fold.go:100", after := #[{ on := 4, ground := Ground.data }], guard := none }) (v := .pointer (some ⟨g', 0, none⟩)) rfl (by kernel_rfl) (by kernel_rfl) (by kernel_rfl) (fun _ _ _ h => h) (Or.inl ⟨by rfl, fun w hSw => ?_⟩) (by assumption) ?_
  · (try dsimp only at hSw)
    go_simp
  try simp only [Act.put, List.setIfInBounds_toArray, List.set_cons_zero, List.set_cons_succ]
  refine wpAnyH_take (i := 6) (oi := { dst := some 17, op := Op.fieldAddr 64 (Operand.tmp 16) 0, type := 0, pos := "fold.go:100", after := #[{ on := 5, ground := Ground.data }], guard := none }) (v := .pointer (some ⟨g', 0, none⟩)) rfl (by kernel_rfl) (by kernel_rfl) (by kernel_rfl) (fun _ _ _ h => h) (Or.inl ⟨by rfl, fun w hSw => ?_⟩) (by assumption) ?_
  · (try dsimp only at hSw)
    go_simp
  try simp only [Act.put, List.setIfInBounds_toArray, List.set_cons_zero, List.set_cons_succ]
  refine wpAnyH_take (i := 7) (oi := { dst := some 18, op := Op.load 2 (Operand.tmp 17), type := 2, pos := "fold.go:100", after := #[{ on := 6, ground := Ground.data }], guard := none }) (v := .int .i64 q) rfl (by kernel_rfl) (by kernel_rfl) (by kernel_rfl) (fun _ _ _ h => h) (Or.inl ⟨by rfl, fun w hSw => ?_⟩) (by assumption) ?_
  · (try dsimp only at hSw)
    go_simp
  try simp only [Act.put, List.setIfInBounds_toArray, List.set_cons_zero, List.set_cons_succ]
  refine wpAnyH_take (i := 8) (oi := { dst := some 19, op := Op.binOp BinOp.eql 2 (Operand.tmp 14) (Operand.tmp 18) 2, type := 4, pos := "fold.go:100", after := #[{ on := 3, ground := Ground.data }, { on := 7, ground := Ground.data }], guard := none }) (v := .bool false) rfl (by kernel_rfl) (by kernel_rfl) (by kernel_rfl) (fun _ _ _ h => h) (Or.inl ⟨by rfl, fun w hSw => ?_⟩) (by assumption) ?_
  · (try dsimp only at hSw)
    go_simp
  try simp only [Act.put, List.setIfInBounds_toArray, List.set_cons_zero, List.set_cons_succ]
  refine wpAnyH_take (i := 9) (oi := { dst := some 20, op := Op.move (Operand.tmp 19), type := 4, pos := "fold.go:100", after := #[{ on := 8, ground := Ground.data }], guard := none }) (v := .bool false) rfl (by kernel_rfl) (by kernel_rfl) (by kernel_rfl) (fun _ _ _ h => h) (Or.inl ⟨by rfl, fun w hSw => ?_⟩) (by assumption) ?_
  · (try dsimp only at hSw)
    go_simp
  try simp only [Act.put, List.setIfInBounds_toArray, List.set_cons_zero, List.set_cons_succ]
  refine wpAnyH_take (i := 10) (oi := { dst := some 21, op := Op.move (Operand.tmp 0), type := 26, pos := "fold.go:100", after := #[{ on := 9, ground := Ground.guard }], guard := some (9, true) }) (v := undef) rfl (by kernel_rfl) (by kernel_rfl) (by kernel_rfl) (fun _ _ _ h => h) (Or.inr ⟨by rfl, rfl⟩) (by assumption) ?_
  try simp only [Act.put, List.setIfInBounds_toArray, List.set_cons_zero, List.set_cons_succ]
  refine wpAnyH_take (i := 11) (oi := { dst := some 22, op := Op.nilCheck (Operand.tmp 21), type := 0, pos := "fold.go:100", after := #[{ on := 10, ground := Ground.data }, { on := 9, ground := Ground.guard }], guard := some (9, true) }) (v := undef) rfl (by kernel_rfl) (by kernel_rfl) (by kernel_rfl) (fun _ _ _ h => h) (Or.inr ⟨by rfl, rfl⟩) (by assumption) ?_
  try simp only [Act.put, List.setIfInBounds_toArray, List.set_cons_zero, List.set_cons_succ]
  refine wpAnyH_take (i := 12) (oi := { dst := some 23, op := Op.fieldAddr 64 (Operand.tmp 22) 2, type := 0, pos := "fold.go:100", after := #[{ on := 11, ground := Ground.data }, { on := 9, ground := Ground.guard }], guard := some (9, true) }) (v := undef) rfl (by kernel_rfl) (by kernel_rfl) (by kernel_rfl) (fun _ _ _ h => h) (Or.inr ⟨by rfl, rfl⟩) (by assumption) ?_
  try simp only [Act.put, List.setIfInBounds_toArray, List.set_cons_zero, List.set_cons_succ]
  refine wpAnyH_take (i := 13) (oi := { dst := some 24, op := Op.load 62 (Operand.tmp 23), type := 62, pos := "fold.go:100", after := #[{ on := 12, ground := Ground.data }, { on := 9, ground := Ground.guard }], guard := some (9, true) }) (v := undef) rfl (by kernel_rfl) (by kernel_rfl) (by kernel_rfl) (fun _ _ _ h => h) (Or.inr ⟨by rfl, rfl⟩) (by assumption) ?_
  try simp only [Act.put, List.setIfInBounds_toArray, List.set_cons_zero, List.set_cons_succ]
  refine wpAnyH_take (i := 14) (oi := { dst := some 25, op := Op.move (Operand.tmp 1), type := 26, pos := "fold.go:100", after := #[{ on := 9, ground := Ground.guard }], guard := some (9, true) }) (v := undef) rfl (by kernel_rfl) (by kernel_rfl) (by kernel_rfl) (fun _ _ _ h => h) (Or.inr ⟨by rfl, rfl⟩) (by assumption) ?_
  try simp only [Act.put, List.setIfInBounds_toArray, List.set_cons_zero, List.set_cons_succ]
  refine wpAnyH_take (i := 15) (oi := { dst := some 26, op := Op.nilCheck (Operand.tmp 25), type := 0, pos := "fold.go:100", after := #[{ on := 14, ground := Ground.data }, { on := 9, ground := Ground.guard }], guard := some (9, true) }) (v := undef) rfl (by kernel_rfl) (by kernel_rfl) (by kernel_rfl) (fun _ _ _ h => h) (Or.inr ⟨by rfl, rfl⟩) (by assumption) ?_
  try simp only [Act.put, List.setIfInBounds_toArray, List.set_cons_zero, List.set_cons_succ]
  refine wpAnyH_take (i := 16) (oi := { dst := some 27, op := Op.fieldAddr 64 (Operand.tmp 26) 2, type := 0, pos := "fold.go:100", after := #[{ on := 15, ground := Ground.data }, { on := 9, ground := Ground.guard }], guard := some (9, true) }) (v := undef) rfl (by kernel_rfl) (by kernel_rfl) (by kernel_rfl) (fun _ _ _ h => h) (Or.inr ⟨by rfl, rfl⟩) (by assumption) ?_
  try simp only [Act.put, List.setIfInBounds_toArray, List.set_cons_zero, List.set_cons_succ]
  refine wpAnyH_take (i := 17) (oi := { dst := some 28, op := Op.load 62 (Operand.tmp 27), type := 62, pos := "fold.go:100", after := #[{ on := 16, ground := Ground.data }, { on := 9, ground := Ground.guard }], guard := some (9, true) }) (v := undef) rfl (by kernel_rfl) (by kernel_rfl) (by kernel_rfl) (fun _ _ _ h => h) (Or.inr ⟨by rfl, rfl⟩) (by assumption) ?_
  try simp only [Act.put, List.setIfInBounds_toArray, List.set_cons_zero, List.set_cons_succ]
  refine wpAnyH_take (i := 18) (oi := { dst := some 29, op := Op.binOp BinOp.eql 62 (Operand.tmp 24) (Operand.tmp 28) 62, type := 4, pos := "fold.go:100", after := #[{ on := 13, ground := Ground.data }, { on := 17, ground := Ground.data }, { on := 9, ground := Ground.guard }], guard := some (9, true) }) (v := undef) rfl (by kernel_rfl) (by kernel_rfl) (by kernel_rfl) (fun _ _ _ h => h) (Or.inr ⟨by rfl, rfl⟩) (by assumption) ?_
  try simp only [Act.put, List.setIfInBounds_toArray, List.set_cons_zero, List.set_cons_succ]
  refine wpAnyH_take (i := 19) (oi := { dst := some 30, op := Op.pick (Operand.tmp 20) (Operand.tmp 29) (Operand.const (Value.bool false)), type := 4, pos := "fold.go:100", after := #[{ on := 9, ground := Ground.data }, { on := 18, ground := Ground.data }], guard := none }) (v := .bool false) rfl (by kernel_rfl) (by kernel_rfl) (by kernel_rfl) (fun _ _ _ h => h) (Or.inl ⟨by rfl, fun w hSw => ?_⟩) (by assumption) ?_
  · (try dsimp only at hSw)
    go_simp
  try simp only [Act.put, List.setIfInBounds_toArray, List.set_cons_zero, List.set_cons_succ]
  refine wpAnyH_take (i := 20) (oi := { dst := some 31, op := Op.move (Operand.tmp 30), type := 4, pos := "fold.go:100", after := #[{ on := 19, ground := Ground.data }, { on := 9, ground := Ground.chain }], guard := none }) (v := .bool false) rfl (by kernel_rfl) (by kernel_rfl) (by kernel_rfl) (fun _ _ _ h => h) (Or.inl ⟨by rfl, fun w hSw => ?_⟩) (by assumption) ?_
  · (try dsimp only at hSw)
    go_simp
  try simp only [Act.put, List.setIfInBounds_toArray, List.set_cons_zero, List.set_cons_succ]
  refine wpAnyH_take (i := 21) (oi := { dst := some 32, op := Op.move (Operand.tmp 0), type := 26, pos := "fold.go:100", after := #[{ on := 20, ground := Ground.guard }], guard := some (20, true) }) (v := undef) rfl (by kernel_rfl) (by kernel_rfl) (by kernel_rfl) (fun _ _ _ h => h) (Or.inr ⟨by rfl, rfl⟩) (by assumption) ?_
  try simp only [Act.put, List.setIfInBounds_toArray, List.set_cons_zero, List.set_cons_succ]
  refine wpAnyH_take (i := 22) (oi := { dst := some 33, op := Op.nilCheck (Operand.tmp 32), type := 0, pos := "fold.go:100", after := #[{ on := 21, ground := Ground.data }, { on := 20, ground := Ground.guard }], guard := some (20, true) }) (v := undef) rfl (by kernel_rfl) (by kernel_rfl) (by kernel_rfl) (fun _ _ _ h => h) (Or.inr ⟨by rfl, rfl⟩) (by assumption) ?_
  try simp only [Act.put, List.setIfInBounds_toArray, List.set_cons_zero, List.set_cons_succ]
  refine wpAnyH_take (i := 23) (oi := { dst := some 34, op := Op.fieldAddr 64 (Operand.tmp 33) 1, type := 0, pos := "fold.go:100", after := #[{ on := 22, ground := Ground.data }, { on := 20, ground := Ground.guard }], guard := some (20, true) }) (v := undef) rfl (by kernel_rfl) (by kernel_rfl) (by kernel_rfl) (fun _ _ _ h => h) (Or.inr ⟨by rfl, rfl⟩) (by assumption) ?_
  try simp only [Act.put, List.setIfInBounds_toArray, List.set_cons_zero, List.set_cons_succ]
  refine wpAnyH_take (i := 24) (oi := { dst := some 35, op := Op.move (Operand.tmp 1), type := 26, pos := "fold.go:100", after := #[{ on := 20, ground := Ground.guard }], guard := some (20, true) }) (v := undef) rfl (by kernel_rfl) (by kernel_rfl) (by kernel_rfl) (fun _ _ _ h => h) (Or.inr ⟨by rfl, rfl⟩) (by assumption) ?_
  try simp only [Act.put, List.setIfInBounds_toArray, List.set_cons_zero, List.set_cons_succ]
  refine wpAnyH_take (i := 25) (oi := { dst := some 36, op := Op.nilCheck (Operand.tmp 35), type := 0, pos := "fold.go:100", after := #[{ on := 24, ground := Ground.data }, { on := 20, ground := Ground.guard }], guard := some (20, true) }) (v := undef) rfl (by kernel_rfl) (by kernel_rfl) (by kernel_rfl) (fun _ _ _ h => h) (Or.inr ⟨by rfl, rfl⟩) (by assumption) ?_
  try simp only [Act.put, List.setIfInBounds_toArray, List.set_cons_zero, List.set_cons_succ]
  refine wpAnyH_take (i := 26) (oi := { dst := some 37, op := Op.fieldAddr 64 (Operand.tmp 36) 1, type := 0, pos := "fold.go:100", after := #[{ on := 25, ground := Ground.data }, { on := 20, ground := Ground.guard }], guard := some (20, true) }) (v := undef) rfl (by kernel_rfl) (by kernel_rfl) (by kernel_rfl) (fun _ _ _ h => h) (Or.inr ⟨by rfl, rfl⟩) (by assumption) ?_
  try simp only [Act.put, List.setIfInBounds_toArray, List.set_cons_zero, List.set_cons_succ]
  refine wpAnyH_take (i := 27) (oi := { dst := some 38, op := Op.call { callee := Callee.value (Operand.func 26), args := #[Operand.tmp 34, Operand.tmp 37], argTypes := #[59, 49] }, type := 4, pos := "fold.go:100", after := #[{ on := 23, ground := Ground.data }, { on := 26, ground := Ground.data }, { on := 20, ground := Ground.chain }, { on := 20, ground := Ground.guard }], guard := some (20, true) }) (v := undef) rfl (by kernel_rfl) (by kernel_rfl) (by kernel_rfl) (fun _ _ _ h => h) (Or.inr ⟨by rfl, rfl⟩) (by assumption) ?_
  try simp only [Act.put, List.setIfInBounds_toArray, List.set_cons_zero, List.set_cons_succ]
  refine wpAnyH_take (i := 28) (oi := { dst := some 39, op := Op.pick (Operand.tmp 31) (Operand.tmp 38) (Operand.const (Value.bool false)), type := 4, pos := "fold.go:100", after := #[{ on := 20, ground := Ground.data }, { on := 27, ground := Ground.data }], guard := none }) (v := .bool false) rfl (by kernel_rfl) (by kernel_rfl) (by kernel_rfl) (fun _ _ _ h => h) (Or.inl ⟨by rfl, fun w hSw => ?_⟩) (by assumption) ?_
  · (try dsimp only at hSw)
    go_simp
  try simp only [Act.put, List.setIfInBounds_toArray, List.set_cons_zero, List.set_cons_succ]
  refine wpAnyH_ready (rs := [29]) (by kernel_rfl) (by simp) ?_
  refine AllReadyH.cons (o := _) rfl (fun K hK => ?_) (AllReadyH.nil)
  go_simp
  refine hK.out _ _ ?_ (fun hHeld => ?_)
  · exact ⟨c0, c1⟩
  clear hK K
  try simp only [Act.put, List.setIfInBounds_toArray, List.set_cons_zero, List.set_cons_succ]
  refine wpAnyH_done (by kernel_rfl) ?_ _
  refine NoPanic.normal ?_
  go_wp2
  go_ret
  exact ⟨rfl, hb⟩
end Go.Proofs.Ytegkhkcnoahhdaa
