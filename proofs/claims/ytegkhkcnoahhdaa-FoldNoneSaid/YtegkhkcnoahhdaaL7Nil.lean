/-
  Package fold's Next and Told where there is no fold, with the row that they answer.
  There are no conditions.
-/
import Derived.Test.YtegkhkcnoahhdaaL7Begun
set_option linter.unusedSimpArgs false
set_option linter.unusedVariables false
namespace Go.Proofs.Ytegkhkcnoahhdaa
open Go.RowKit
set_option maxRecDepth 100000

theorem fnext_nilz (bc bq : Int) (s : Value) (w : World) : Calls Try.prog 9 #[.pointer none, .agg #[.int .i64 bc, .int .i64 bq, s]] w fun e w' => e = .returned (.tuple #[.agg #[.int .i64 0, .int .i64 0, .int .i64 0, .slice none 0 0, .int .i64 0], .bool false]) ∧ Below w.heap.size w w' := by
  go_enter Try.func9, Try.ntmps9
  have hb := Below.refl w.heap.size w
  go_wp2_with fail
  refine wp_world (fun W => Rb W (w.heap.size + 1) 32 [.int .i64 0, .int .i64 0, .int .i64 0, .slice none 0 0, .int .i64 0] ∧ Below w.heap.size w W) ⟨Rb.new_at _ _ _ _ (by simp), below_two _ _ _⟩ ?_
  clear hb
  rintro k1 ⟨hr0, hb⟩
  have HR := Lib.hid hr0; clear hr0
  replace HR := Lib.hid (Rb.below HR.out ((Below.refl k1.heap.size k1).drew))
  refine wp_region_noPanic ?_
  refine wp_region_held_drew (S := fun W => True) (by kernel_rfl) ?_ (fun hHeld => ?_)
  · trivial
  replace hb : Below w.heap.size w k1.drew := hb.drew
  have hzd : k1.heap.size ≤ k1.drew.heap.size := Nat.le_refl _
  generalize k1.drew = k2 at *
  refine wpAnyH_take (i := 0) (oi := { dst := some 8, op := Op.move (Operand.tmp 0), type := 26, pos := "fold.go:35", after := #[], guard := none }) (v := .pointer none) rfl (by kernel_rfl) (by kernel_rfl) (by kernel_rfl) (fun _ _ _ h => h) (Or.inl ⟨by rfl, fun w hSw => ?_⟩) (by assumption) ?_
  · (try dsimp only at hSw)
    go_simp
  try simp only [Act.put, List.setIfInBounds_toArray, List.set_cons_zero, List.set_cons_succ]
  refine wpAnyH_take (i := 1) (oi := { dst := some 9, op := Op.binOp BinOp.eql 26 (Operand.tmp 8) (Operand.const (Value.pointer none)) 26, type := 4, pos := "fold.go:35", after := #[{ on := 0, ground := Ground.data }], guard := none }) (v := .bool true) rfl (by kernel_rfl) (by kernel_rfl) (by kernel_rfl) (fun _ _ _ h => h) (Or.inl ⟨by rfl, fun w hSw => ?_⟩) (by assumption) ?_
  · (try dsimp only at hSw)
    go_simp
  try simp only [Act.put, List.setIfInBounds_toArray, List.set_cons_zero, List.set_cons_succ]
  refine wpAnyH_take (i := 2) (oi := { dst := some 10, op := Op.move (Operand.tmp 9), type := 4, pos := "fold.go:35", after := #[{ on := 1, ground := Ground.data }], guard := none }) (v := .bool true) rfl (by kernel_rfl) (by kernel_rfl) (by kernel_rfl) (fun _ _ _ h => h) (Or.inl ⟨by rfl, fun w hSw => ?_⟩) (by assumption) ?_
  · (try dsimp only at hSw)
    go_simp
  try simp only [Act.put, List.setIfInBounds_toArray, List.set_cons_zero, List.set_cons_succ]
  refine wpAnyH_take (i := 3) (oi := { dst := some 11, op := Op.fieldAddr 29 (Operand.tmp 3) 1, type := 0, pos := "fold.go:35", after := #[{ on := 2, ground := Ground.guard }], guard := some (2, false) }) (v := undef) rfl (by kernel_rfl) (by kernel_rfl) (by kernel_rfl) (fun _ _ _ h => h) (Or.inr ⟨by rfl, rfl⟩) (by assumption) ?_
  try simp only [Act.put, List.setIfInBounds_toArray, List.set_cons_zero, List.set_cons_succ]
  refine wpAnyH_take (i := 4) (oi := { dst := some 12, op := Op.load 2 (Operand.tmp 11), type := 2, pos := "fold.go:35", after := #[{ on := 3, ground := Ground.data }, { on := 2, ground := Ground.guard }], guard := some (2, false) }) (v := undef) rfl (by kernel_rfl) (by kernel_rfl) (by kernel_rfl) (fun _ _ _ h => h) (Or.inr ⟨by rfl, rfl⟩) (by assumption) ?_
  try simp only [Act.put, List.setIfInBounds_toArray, List.set_cons_zero, List.set_cons_succ]
  refine wpAnyH_take (i := 5) (oi := { dst := some 13, op := Op.move (Operand.tmp 0), type := 26, pos := "fold.go:35", after := #[{ on := 2, ground := Ground.guard }], guard := some (2, false) }) (v := undef) rfl (by kernel_rfl) (by kernel_rfl) (by kernel_rfl) (fun _ _ _ h => h) (Or.inr ⟨by rfl, rfl⟩) (by assumption) ?_
  try simp only [Act.put, List.setIfInBounds_toArray, List.set_cons_zero, List.set_cons_succ]
  refine wpAnyH_take (i := 6) (oi := { dst := some 14, op := Op.fieldAddr 29 (Operand.tmp 3) 0, type := 0, pos := "fold.go:35", after := #[{ on := 2, ground := Ground.guard }], guard := some (2, false) }) (v := undef) rfl (by kernel_rfl) (by kernel_rfl) (by kernel_rfl) (fun _ _ _ h => h) (Or.inr ⟨by rfl, rfl⟩) (by assumption) ?_
  try simp only [Act.put, List.setIfInBounds_toArray, List.set_cons_zero, List.set_cons_succ]
  refine wpAnyH_take (i := 7) (oi := { dst := some 15, op := Op.load 3 (Operand.tmp 14), type := 3, pos := "fold.go:35", after := #[{ on := 6, ground := Ground.data }, { on := 2, ground := Ground.guard }], guard := some (2, false) }) (v := undef) rfl (by kernel_rfl) (by kernel_rfl) (by kernel_rfl) (fun _ _ _ h => h) (Or.inr ⟨by rfl, rfl⟩) (by assumption) ?_
  try simp only [Act.put, List.setIfInBounds_toArray, List.set_cons_zero, List.set_cons_succ]
  refine wpAnyH_take (i := 8) (oi := { dst := some 16, op := Op.call { callee := Callee.value (Operand.func 13), args := #[Operand.tmp 13, Operand.tmp 15], argTypes := #[26, 3] }, type := 2, pos := "fold.go:35", after := #[{ on := 5, ground := Ground.data }, { on := 7, ground := Ground.data }, { on := 2, ground := Ground.chain }, { on := 2, ground := Ground.guard }], guard := some (2, false) }) (v := undef) rfl (by kernel_rfl) (by kernel_rfl) (by kernel_rfl) (fun _ _ _ h => h) (Or.inr ⟨by rfl, rfl⟩) (by assumption) ?_
  try simp only [Act.put, List.setIfInBounds_toArray, List.set_cons_zero, List.set_cons_succ]
  refine wpAnyH_take (i := 9) (oi := { dst := some 17, op := Op.binOp BinOp.add 2 (Operand.tmp 16) (Operand.const (Value.int IntKind.i64 1)) 2, type := 2, pos := "fold.go:35", after := #[{ on := 8, ground := Ground.data }, { on := 2, ground := Ground.guard }], guard := some (2, false) }) (v := undef) rfl (by kernel_rfl) (by kernel_rfl) (by kernel_rfl) (fun _ _ _ h => h) (Or.inr ⟨by rfl, rfl⟩) (by assumption) ?_
  try simp only [Act.put, List.setIfInBounds_toArray, List.set_cons_zero, List.set_cons_succ]
  refine wpAnyH_take (i := 10) (oi := { dst := some 18, op := Op.binOp BinOp.neq 2 (Operand.tmp 12) (Operand.tmp 17) 2, type := 4, pos := "fold.go:35", after := #[{ on := 4, ground := Ground.data }, { on := 9, ground := Ground.data }, { on := 2, ground := Ground.guard }], guard := some (2, false) }) (v := undef) rfl (by kernel_rfl) (by kernel_rfl) (by kernel_rfl) (fun _ _ _ h => h) (Or.inr ⟨by rfl, rfl⟩) (by assumption) ?_
  try simp only [Act.put, List.setIfInBounds_toArray, List.set_cons_zero, List.set_cons_succ]
  refine wpAnyH_take (i := 11) (oi := { dst := some 19, op := Op.pick (Operand.tmp 10) (Operand.const (Value.bool true)) (Operand.tmp 18), type := 4, pos := "fold.go:35", after := #[{ on := 2, ground := Ground.data }, { on := 10, ground := Ground.data }], guard := none }) (v := .bool true) rfl (by kernel_rfl) (by kernel_rfl) (by kernel_rfl) (fun _ _ _ h => h) (Or.inl ⟨by rfl, fun w hSw => ?_⟩) (by assumption) ?_
  · (try dsimp only at hSw)
    go_simp
  try simp only [Act.put, List.setIfInBounds_toArray, List.set_cons_zero, List.set_cons_succ]
  refine wpAnyH_done (by kernel_rfl) ?_ _
  refine NoPanic.normal ?_
  have hr1d := HR.out
  have r0 := hr1d.cell (j := 0) rfl
  have r1 := hr1d.cell (j := 1) rfl
  have r2 := hr1d.cell (j := 2) rfl
  have r3 := hr1d.cell (j := 3) rfl
  have r4 := hr1d.cell (j := 4) rfl
  have f0 := hr1d.frz 0
  have f1 := hr1d.frz 1
  have f2 := hr1d.frz 2
  have f3 := hr1d.frz 3
  have f4 := hr1d.frz 4
  have hlt := hr1d.lt
  go_wp2
  refine body_world7 (fun W => Rb W (w.heap.size + 1) 32 [.int .i64 0, .int .i64 0, .int .i64 0, .slice none 0 0, .int .i64 0] ∧ Below w.heap.size w W) ⟨((((hr1d.set 0 _).set 1 _).set 2 _).set 3 _).set 4 _, BW9 hb⟩ ?_
  rintro W ⟨h3, hbW⟩
  refine bodyPost_ret (v := .tuple #[.agg #[.int .i64 0, .int .i64 0, .int .i64 0, .slice none 0 0, .int .i64 0], .bool false]) ?_ rfl ⟨rfl, hbW⟩
  exact results_ct (a := 4) (t := 5) Try.results9 rfl rfl (run_loadVar_mid W (w.heap.size + 1) 0 _ [.int .i64 0, .int .i64 0, .int .i64 0, .slice none 0 0, .int .i64 0] _ h3.range Try.underlying32 rfl Try.infoRow7)
theorem ftold_nilz (c : Int) (w : World) : Calls Try.prog 10 #[.pointer none, .int .i64 c] w fun e w' => e = .returned (.tuple #[.agg #[.int .i64 0, .int .i64 0, .int .i64 0, .slice none 0 0, .int .i64 0], .bool false]) ∧ Below w.heap.size w w' := by
  have HL := Lib.hid (fun W => flast_out none c W (.inl rfl))
  go_enter Try.func10, Try.ntmps10
  go_wp2_with fail
  refine (HL.out _).mono ?_
  rintro e k1 ⟨rfl, h⟩
  have hb : Below w.heap.size w k1 := (below_one w _).trans (h.mono (by simp))
  have hr : Rb k1 w.heap.size 32 [.int .i64 0, .int .i64 0, .int .i64 0, .slice none 0 0, .int .i64 0] := (Rb.new w _ _).below h
  have r0 := hr.cell (j := 0) rfl
  have r1 := hr.cell (j := 1) rfl
  have r2 := hr.cell (j := 2) rfl
  have r3 := hr.cell (j := 3) rfl
  have r4 := hr.cell (j := 4) rfl
  have f0 := hr.frz 0
  have f1 := hr.frz 1
  have f2 := hr.frz 2
  have f3 := hr.frz 3
  have f4 := hr.frz 4
  have hlt := hr.lt
  have hfl := Try.fld_seq
  have HR := Lib.hid hr
  clear hr h
  go_wp2
  refine body_world7 (fun W => Rb W w.heap.size 32 [.int .i64 0, .int .i64 0, .int .i64 0, .slice none 0 0, .int .i64 0] ∧ Below w.heap.size w W) ⟨(((((HR.out.set 0 _).set 1 _).set 2 _).set 3 _).set 4 _).below (below_one _ _), BW9 hb⟩ ?_
  rintro W ⟨h3, hbW⟩
  refine bodyPost_ret (v := .tuple #[.agg #[.int .i64 0, .int .i64 0, .int .i64 0, .slice none 0 0, .int .i64 0], .bool false]) ?_ rfl ⟨rfl, hbW⟩
  exact results_ct (a := 4) (t := 5) Try.results10 rfl rfl (run_loadVar_mid W w.heap.size 0 _ [.int .i64 0, .int .i64 0, .int .i64 0, .slice none 0 0, .int .i64 0] _ h3.range Try.underlying32 rfl Try.infoRow7)
end Go.Proofs.Ytegkhkcnoahhdaa
