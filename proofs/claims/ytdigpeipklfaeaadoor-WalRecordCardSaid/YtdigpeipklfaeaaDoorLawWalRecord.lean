/-
  Records go to bytes and back; what may not be does not (WalRecord).
  There are no conditions.
-/
import Derived.Test.YtdigpeipklfaeaaDoorRows
import Derived.Test.YtdigpeipklfaeaaDoorCards
import Derived.Test.YtdigpeipklfaeaaDoorTie
import Derived.Test.YtdigpeipklfaeaaDoorBun1
import Derived.Test.YtdigpeipklfaeaaDoorBun4
import Derived.Test.YtdigpeipklfaeaaDoorBun9
import Derived.Test.YtdigpeipklfaeaaDoorBun2
import Derived.SevenTiedAt
import Derived.WalkKit
import Derived.ProofKit
import Derived.OpenShut
import Derived.ShutString
namespace Go.Proofs.YtdigpeipklfaeaaDoor.walRecord
open Go.ChangeShapes Go.WideShapes Go.ChangeAt Go.RowKit
open Go.ChangeMaps (open_string shut_string)
set_option linter.unusedVariables false

theorem own : ownKnob Tryd.prog.godebug = none := by kernel_rfl

set_option maxRecDepth 100000 in
set_option maxHeartbeats 8000000 in
theorem walk (w : World) (a0 : Rcd) (w0 : a0.fit) (a1 : Int) (w1 : (Lit.int .i64 a1).wf = true) (hT : Tbl w) :
    Calls Tryd.prog 3 #[a0.val, .int .i64 a1] w fun e w' => e = .returned (.bool true) ∧ Below w.heap.size w w' := by
  obtain ⟨hd, ht, hv, ⟨ix, et, kd, dt0⟩⟩ := a0
  unfold Rcd.val
  simp only
  have HW0 := Lib.hid w0; have HW1 := Lib.hid w1
  clear w0
  have HT := Lib.hid hT
  obtain ⟨W0, hW0⟩ : ∃ W0, w.alloc (.cells #[.bool hd, .int .i64 ht, .int .i64 hv, .int .i64 ix, .int .i64 et, .int .i64 kd, .string dt0] 27) = W0 := ⟨_, rfl⟩
  have hb0 : Below w.heap.size w W0 := by rw [← hW0]; exact below_new _ _
  have r0 : Rt W0 w.heap.size 27 [.bool hd, .int .i64 ht, .int .i64 hv, .int .i64 ix, .int .i64 et, .int .i64 kd, .string dt0] := by rw [← hW0]; exact Rt.new w _ _
  have hT0 := tbl_keep hT hb0
  have HT0 := Lib.hid hT0
  have HB0 := Lib.hid hb0
  have HR0 := Lib.hid r0
  have HE := Lib.hid hW0
  clear hT hT0 hb0 r0 hW0
  go_enter Tryd.func3, Tryd.ntmps3
  go_wp2_with fail
  rw [HE.out]
  refine (begun10_any W0 HT0.out).mono ?_
  rintro e k1 ⟨rfl, h1⟩
  have hr1 := HR0.out.below h1
  have HB1 := Lib.hid (HB0.out.trans (h1.mono HB0.out.size))
  have HR1 := Lib.hid hr1
  have x0 := hr1.cell (j := 0) rfl
  have x1 := hr1.cell (j := 1) rfl
  have x2 := hr1.cell (j := 2) rfl
  have x3 := hr1.cell (j := 3) rfl
  have x4 := hr1.cell (j := 4) rfl
  have x5 := hr1.cell (j := 5) rfl
  have x6 := hr1.cell (j := 6) rfl
  clear hr1 h1 HR0 HB0 HT0 HE
  go_wp2_with fail
  refine (cut10_any hd ht hv ix et kd dt0 _).mono ?_
  rintro e k2 ⟨rfl, h2⟩
  obtain ⟨dt, hdt⟩ : ∃ dt, cutS dt0 300 = dt := ⟨_, rfl⟩
  have hds : dt.size ≤ 300 := by rw [← hdt]; exact cutS_size _ _
  rw [hdt]
  have hr2 := HR1.out.below h2
  have HB2 := Lib.hid (HB1.out.trans (h2.mono HB1.out.size))
  have HR2 := Lib.hid hr2
  clear x0 x1 x2 x3 x4 x5 x6
  have x0 := hr2.cell (j := 0) rfl
  have y0 := hr2.frz 0
  have x1 := hr2.cell (j := 1) rfl
  have y1 := hr2.frz 1
  have x2 := hr2.cell (j := 2) rfl
  have y2 := hr2.frz 2
  have x3 := hr2.cell (j := 3) rfl
  have y3 := hr2.frz 3
  have x4 := hr2.cell (j := 4) rfl
  have y4 := hr2.frz 4
  have x5 := hr2.cell (j := 5) rfl
  have y5 := hr2.frz 5
  have x6 := hr2.cell (j := 6) rfl
  have y6 := hr2.frz 6
  clear hr2 h2 HR1 HB1 hdt
  go_wp2_with fail
  · obtain ⟨n, rfl⟩ : ∃ n : Nat, a1 = (n : Int) := ⟨a1.toNat, by omega⟩
    obtain ⟨W3, hW3⟩ : ∃ W3, (((((((k2.setCell ⟨w.heap.size, 0, none⟩ (.bool hd)).setCell ⟨w.heap.size, 1, none⟩ (.int .i64 ht)).setCell ⟨w.heap.size, 2, none⟩ (.int .i64 hv)).setCell ⟨w.heap.size, 3, none⟩ (.int .i64 ix)).setCell ⟨w.heap.size, 4, none⟩ (.int .i64 et)).setCell ⟨w.heap.size, 5, none⟩ (.int .i64 kd)).setCell ⟨w.heap.size, 6, none⟩ (.string dt)) = W3 := ⟨_, rfl⟩
    have hr3 : Rt W3 w.heap.size 27 [.bool hd, .int .i64 ht, .int .i64 hv, .int .i64 ix, .int .i64 et, .int .i64 kd, .string dt] := by rw [← hW3]; exact (((((((HR2.out.set 0 (.bool hd)).set 1 (.int .i64 ht)).set 2 (.int .i64 hv)).set 3 (.int .i64 ix)).set 4 (.int .i64 et)).set 5 (.int .i64 kd)).set 6 (.string dt))
    have hb3 : Below w.heap.size w W3 := by rw [← hW3]; exact (below_set10 ((below_set10 ((below_set10 ((below_set10 ((below_set10 ((below_set10 ((below_set10 (HB2.out) 0 (g := w.heap.size) (.bool hd) (Nat.le_refl _))) 1 (g := w.heap.size) (.int .i64 ht) (Nat.le_refl _))) 2 (g := w.heap.size) (.int .i64 hv) (Nat.le_refl _))) 3 (g := w.heap.size) (.int .i64 ix) (Nat.le_refl _))) 4 (g := w.heap.size) (.int .i64 et) (Nat.le_refl _))) 5 (g := w.heap.size) (.int .i64 kd) (Nat.le_refl _))) 6 (g := w.heap.size) (.string dt) (Nat.le_refl _))
    rw [hW3]
    clear hW3 HR2 HB2 x0 x1 x2 x3 x4 x5 x6 y0 y1 y2 y3 y4 y5 y6
    have hmk := make_zer10 n (by omega) W3
    rw [hmk]
    have hcv : (convert 30 9 (.slice (some ⟨W3.heap.size, 0, none⟩) n n)).run Tryd.prog (W3.alloc (.cells (madeCells #[.int .u8 0] n) 5)) = .ok (.string (zerS n)) (W3.alloc (.cells (madeCells #[.int .u8 0] n) 5)) := conv_zer10 n (by omega) (by omega) W3
    have hzs := zerS_size n
    obtain ⟨dx, hdx⟩ : ∃ dx, zerS n = dx := ⟨_, rfl⟩
    rw [hdx] at hzs hcv
    clear hdx hmk
    have hr9 := hr3.below (below_new W3 (.cells (madeCells #[.int .u8 0] n) 5))
    have hb9 := hb3.trans ((below_new W3 (.cells (madeCells #[.int .u8 0] n) 5)).mono hb3.size)
    obtain ⟨W4, hW4⟩ : ∃ W4, W3.alloc (.cells (madeCells #[.int .u8 0] n) 5) = W4 := ⟨_, rfl⟩
    rw [hW4] at hcv hr9 hb9 ⊢
    clear hW4
    have y6 := hr9.frz 6
    have x0 := hr9.cell (j := 0) rfl
    have x1 := hr9.cell (j := 1) rfl
    have x2 := hr9.cell (j := 2) rfl
    have x3 := hr9.cell (j := 3) rfl
    have x4 := hr9.cell (j := 4) rfl
    have x5 := hr9.cell (j := 5) rfl
    have x6 := hr9.cell (j := 6) rfl
    have HR9 := Lib.hid hr9
    have HB9 := Lib.hid hb9
    clear hr9 hb9 hr3 hb3
    go_wp2_with fail
    obtain ⟨W5, hW5⟩ : ∃ W5, (W4.setCell ⟨w.heap.size, 6, none⟩ (.string dx)) = W5 := ⟨_, rfl⟩
    have hr3 : Rt W5 w.heap.size 27 [.bool hd, .int .i64 ht, .int .i64 hv, .int .i64 ix, .int .i64 et, .int .i64 kd, .string dx] := by rw [← hW5]; exact HR9.out.set 6 (.string dx)
    have hb3 : Below w.heap.size w W5 := by rw [← hW5]; exact below_set10 HB9.out 6 (g := w.heap.size) (.string dx) (Nat.le_refl _)
    rw [hW5]
    clear hW5 HR9 HB9 hcv y6 x0 x1 x2 x3 x4 x5 x6
    obtain ⟨m, hm⟩ : ∃ m, encR10 ⟨hd, ht, hv, ⟨ix, et, kd, dx⟩⟩ = m := ⟨_, rfl⟩
    obtain ⟨y, hy⟩ : ∃ y, may10 ⟨hd, ht, hv, ⟨ix, et, kd, dx⟩⟩ = y := ⟨_, rfl⟩
    have hms : m.length ≤ 2607 := by rw [← hm]; exact enc10_short _
    have HY := Lib.hid hy
    have HM := Lib.hid hm
    have HMS := Lib.hid hms
    clear hy hm hms
    have hTT := fun (k : World) (h : Below w.heap.size w k) => tbl_keep HT.out h
    refine (of10_any hd ht hv ix et kd dx _).mono ?_
    rintro e k4 ⟨rfl, h4⟩
    have hr4 := hr3.below h4
    have hb4 := hb3.trans (h4.mono hb3.size)
    clear h4 hr3 hb3
    have HR4 := Lib.hid hr4
    have HB4 := Lib.hid hb4
    have x0 := hr4.cell (j := 0) rfl
    have x1 := hr4.cell (j := 1) rfl
    have x2 := hr4.cell (j := 2) rfl
    have x3 := hr4.cell (j := 3) rfl
    have x4 := hr4.cell (j := 4) rfl
    have x5 := hr4.cell (j := 5) rfl
    have x6 := hr4.cell (j := 6) rfl
    clear hr4 hb4
    go_wp2_with fail
    refine (wenc_v hd ht hv ix et kd dx m _ (by omega) (hTT _ HB4.out) HM.out).mono ?_
    rintro e k5 h5
    obtain ⟨v5, rfl, ho5, h5⟩ := h5
    have hr5 := HR4.out.below h5
    have hb5 := HB4.out.trans (h5.mono HB4.out.size)
    have HO5 := Lib.hid ho5
    have HR5 := Lib.hid hr5
    have HB5 := Lib.hid hb5
    clear h5 ho5 HR4 HB4 x0 x1 x2 x3 x4 x5 x6
    have x0 := hr5.cell (j := 0) rfl
    have x1 := hr5.cell (j := 1) rfl
    have x2 := hr5.cell (j := 2) rfl
    have x3 := hr5.cell (j := 3) rfl
    have x4 := hr5.cell (j := 4) rfl
    have x5 := hr5.cell (j := 5) rfl
    have x6 := hr5.cell (j := 6) rfl
    clear hr5 hb5
    go_wp2_with fail
    refine (rmay_v10 hd ht hv ix et kd dx y _ (by omega) HY.out).mono ?_
    rintro e k6 ⟨rfl, h6⟩
    have hr6 := HR5.out.below h6
    have hb6 := HB5.out.trans (h6.mono HB5.out.size)
    have ho6 := HO5.out.below h6
    have HR6 := Lib.hid hr6
    have HB6 := Lib.hid hb6
    have HO6 := Lib.hid ho6
    clear h6 ho6 HR5 HB5 HO5 x0 x1 x2 x3 x4 x5 x6
    have x0 := hr6.cell (j := 0) rfl
    have x1 := hr6.cell (j := 1) rfl
    have x2 := hr6.cell (j := 2) rfl
    have x3 := hr6.cell (j := 3) rfl
    have x4 := hr6.cell (j := 4) rfl
    have x5 := hr6.cell (j := 5) rfl
    have x6 := hr6.cell (j := 6) rfl
    clear hr6 hb6
    go_wp2_with fail
    obtain ⟨S, hS⟩ : ∃ S, (⟨m.toArray⟩ : ByteArray) = S := ⟨_, rfl⟩
    have HS := Lib.hid hS
    clear hS
    clear x0 x1 x2 x3 x4 x5 x6
    have hx : Rt k6.drew w.heap.size 27 [.bool hd, .int .i64 ht, .int .i64 hv, .int .i64 ix, .int .i64 et, .int .i64 kd, .string dx] := HR6.out
    have ho : OwnB k4.heap.size v5 m k6.drew := HO6.out
    have hb : Below w.heap.size w k6.drew := HB6.out.drew
    clear HR6 HO6 HB6
    refine wp_region_noPanic ?_
    refine wp_region_held_drew (S := fun W => Rt W w.heap.size 27 [.bool hd, .int .i64 ht, .int .i64 hv, .int .i64 ix, .int .i64 et, .int .i64 kd, .string dx] ∧ (convert 30 9 v5).run Tryd.prog W = .ok (.string S) W) (by kernel_rfl) ?_ (fun hHeld => ?_)
    · exact ⟨hx, conv_byt (Byt.of_own ho) HS.out⟩
    generalize k6.drew = k7 at *
    refine wpAnyH_take (i := 0) (oi := { dst := some 32, op := Op.load 27 (Operand.tmp 2), type := 27, pos := "law.go:47", after := #[], guard := none }) (v := .agg #[.bool hd, .int .i64 ht, .int .i64 hv, .int .i64 ix, .int .i64 et, .int .i64 kd, .string dx]) rfl (by kernel_rfl) (by kernel_rfl) (by kernel_rfl) (fun _ _ _ h => h) (Or.inl ⟨by rfl, fun w hSw => ?_⟩) (by assumption) ?_
    · (try dsimp only at hSw)
      have q0 := hSw.1.cell (j := 0) rfl
      have q1 := hSw.1.cell (j := 1) rfl
      have q2 := hSw.1.cell (j := 2) rfl
      have q3 := hSw.1.cell (j := 3) rfl
      have q4 := hSw.1.cell (j := 4) rfl
      have q5 := hSw.1.cell (j := 5) rfl
      have q6 := hSw.1.cell (j := 6) rfl
      clear hSw
      go_simp
    try simp only [Act.put, List.setIfInBounds_toArray, List.set_cons_zero, List.set_cons_succ]
    refine wpAnyH_take (i := 3) (oi := { dst := some 35, op := Op.move (Operand.tmp 7), type := 4, pos := "law.go:47", after := #[], guard := none }) (v := .bool y) rfl (by kernel_rfl) (by kernel_rfl) (by kernel_rfl) (fun _ _ _ h => h) (Or.inl ⟨by rfl, fun w hSw => ?_⟩) (by assumption) ?_
    · (try dsimp only at hSw)
      go_simp
    try simp only [Act.put, List.setIfInBounds_toArray, List.set_cons_zero, List.set_cons_succ]
    refine wpAnyH_ready (rs := [1]) (by kernel_rfl) (by simp) ?_
    refine AllReadyH.cons (o := { dst := some 33, op := Op.call { callee := Callee.value (Operand.func 13), args := #[Operand.tmp 32], argTypes := #[27] }, type := 32, pos := "law.go:47", after := #[{ on := 0, ground := Ground.data }], guard := none }) rfl (fun K hK => ?_) AllReadyH.nil
    go_simp
    go_at_call 13
    refine (of10_any hd ht hv ix et kd dx _).mono ?_
    rintro e kq ⟨rfl, hq⟩
    replace hx := hx.below hq
    replace ho := ho.below hq
    replace hb := hb.trans (hq.mono hb.size)
    clear hq
    refine hK.out _ _ ?_ (fun hHeld => ?_)
    · exact ⟨hx, conv_byt (Byt.of_own ho) HS.out⟩
    clear hK K
    try simp only [Act.put, List.setIfInBounds_toArray, List.set_cons_zero, List.set_cons_succ]
    refine wpAnyH_ready (rs := [2]) (by kernel_rfl) (by simp) ?_
    refine AllReadyH.cons (o := { dst := some 34, op := Op.call { callee := Callee.value (Operand.func 15), args := #[Operand.tmp 33], argTypes := #[32] }, type := 4, pos := "law.go:47", after := #[{ on := 1, ground := Ground.data }, { on := 1, ground := Ground.chain }], guard := none }) rfl (fun K hK => ?_) AllReadyH.nil
    go_simp
    go_at_call 15
    refine (wmay_v hd ht hv ix et kd dx y _ (by omega) HY.out).mono ?_
    rintro e kq ⟨rfl, hq⟩
    replace hx := hx.below hq
    replace ho := ho.below hq
    replace hb := hb.trans (hq.mono hb.size)
    clear hq
    refine hK.out _ _ ?_ (fun hHeld => ?_)
    · exact ⟨hx, conv_byt (Byt.of_own ho) HS.out⟩
    clear hK K
    try simp only [Act.put, List.setIfInBounds_toArray, List.set_cons_zero, List.set_cons_succ]
    refine wpAnyH_take (i := 4) (oi := { dst := some 36, op := Op.binOp BinOp.neq 4 (Operand.tmp 34) (Operand.tmp 35) 4, type := 4, pos := "law.go:47", after := #[{ on := 2, ground := Ground.data }, { on := 3, ground := Ground.data }], guard := none }) (v := .bool false) rfl (by kernel_rfl) (by kernel_rfl) (by kernel_rfl) (fun _ _ _ h => h) (Or.inl ⟨by rfl, fun w hSw => ?_⟩) (by assumption) ?_
    · (try dsimp only at hSw)
      go_simp
    try simp only [Act.put, List.setIfInBounds_toArray, List.set_cons_zero, List.set_cons_succ]
    refine wpAnyH_take (i := 5) (oi := { dst := some 37, op := Op.move (Operand.tmp 36), type := 4, pos := "law.go:47", after := #[{ on := 4, ground := Ground.data }, { on := 2, ground := Ground.chain }], guard := none }) (v := .bool false) rfl (by kernel_rfl) (by kernel_rfl) (by kernel_rfl) (fun _ _ _ h => h) (Or.inl ⟨by rfl, fun w hSw => ?_⟩) (by assumption) ?_
    · (try dsimp only at hSw)
      go_simp
    try simp only [Act.put, List.setIfInBounds_toArray, List.set_cons_zero, List.set_cons_succ]
    refine wpAnyH_take (i := 6) (oi := { dst := some 38, op := Op.move (Operand.tmp 6), type := 30, pos := "law.go:47", after := #[{ on := 5, ground := Ground.guard }], guard := some (5, false) }) (v := v5) rfl (by kernel_rfl) (by kernel_rfl) (by kernel_rfl) (fun _ _ _ h => h) (Or.inl ⟨by rfl, fun w hSw => ?_⟩) (by assumption) ?_
    · (try dsimp only at hSw)
      go_simp
    try simp only [Act.put, List.setIfInBounds_toArray, List.set_cons_zero, List.set_cons_succ]
    refine wpAnyH_take (i := 7) (oi := { dst := some 39, op := Op.convert 30 9 (Operand.tmp 38), type := 9, pos := "law.go:47", after := #[{ on := 6, ground := Ground.data }, { on := 5, ground := Ground.guard }], guard := some (5, false) }) (v := .string S) rfl (by kernel_rfl) (by kernel_rfl) (by kernel_rfl) (fun _ _ _ h => h) (Or.inl ⟨by rfl, fun w hSw => ?_⟩) (by assumption) ?_
    · (try dsimp only at hSw)
      have qc := hSw.2
      clear hSw
      go_simp
    try simp only [Act.put, List.setIfInBounds_toArray, List.set_cons_zero, List.set_cons_succ]
    refine wpAnyH_take (i := 8) (oi := { dst := some 40, op := Op.load 27 (Operand.tmp 2), type := 27, pos := "law.go:47", after := #[{ on := 5, ground := Ground.guard }], guard := some (5, false) }) (v := .agg #[.bool hd, .int .i64 ht, .int .i64 hv, .int .i64 ix, .int .i64 et, .int .i64 kd, .string dx]) rfl (by kernel_rfl) (by kernel_rfl) (by kernel_rfl) (fun _ _ _ h => h) (Or.inl ⟨by rfl, fun w hSw => ?_⟩) (by assumption) ?_
    · (try dsimp only at hSw)
      have q0 := hSw.1.cell (j := 0) rfl
      have q1 := hSw.1.cell (j := 1) rfl
      have q2 := hSw.1.cell (j := 2) rfl
      have q3 := hSw.1.cell (j := 3) rfl
      have q4 := hSw.1.cell (j := 4) rfl
      have q5 := hSw.1.cell (j := 5) rfl
      have q6 := hSw.1.cell (j := 6) rfl
      clear hSw
      go_simp
    try simp only [Act.put, List.setIfInBounds_toArray, List.set_cons_zero, List.set_cons_succ]
    refine wpAnyH_ready (rs := [9]) (by kernel_rfl) (by simp) ?_
    refine AllReadyH.cons (o := { dst := some 41, op := Op.call { callee := Callee.value (Operand.func 16), args := #[Operand.tmp 40], argTypes := #[27] }, type := 30, pos := "law.go:47", after := #[{ on := 8, ground := Ground.data }, { on := 5, ground := Ground.chain }, { on := 5, ground := Ground.guard }], guard := some (5, false) }) rfl (fun K hK => ?_) AllReadyH.nil
    go_simp
    go_at_call 16
    refine (renc_v hd ht hv ix et kd dx m _ (by omega) HM.out).mono ?_
    rintro e kq ⟨v9, rfl, ho9, hq⟩
    have m3 := conv_byt (Byt.of_own ho9) HS.out
    replace hx := hx.below hq
    replace ho := ho.below hq
    replace hb := hb.trans (hq.mono hb.size)
    clear hq ho9
    refine hK.out _ _ ?_ (fun hHeld => ?_)
    · exact ⟨hx, conv_byt (Byt.of_own ho) HS.out⟩
    clear hK K
    try simp only [Act.put, List.setIfInBounds_toArray, List.set_cons_zero, List.set_cons_succ]
    refine wpAnyH_ready (rs := [10]) (by kernel_rfl) (by simp) ?_
    refine AllReadyH.cons (o := { dst := some 42, op := Op.convert 30 9 (Operand.tmp 41), type := 9, pos := "law.go:47", after := #[{ on := 9, ground := Ground.data }, { on := 5, ground := Ground.guard }], guard := some (5, false) }) rfl (fun K hK => ?_) AllReadyH.nil
    go_simp
    clear m3
    refine hK.out _ _ ?_ (fun hHeld => ?_)
    · exact ⟨hx, conv_byt (Byt.of_own ho) HS.out⟩
    clear hK K
    try simp only [Act.put, List.setIfInBounds_toArray, List.set_cons_zero, List.set_cons_succ]
    refine wpAnyH_take (i := 11) (oi := { dst := some 43, op := Op.binOp BinOp.neq 9 (Operand.tmp 39) (Operand.tmp 42) 9, type := 4, pos := "law.go:47", after := #[{ on := 7, ground := Ground.data }, { on := 10, ground := Ground.data }, { on := 5, ground := Ground.guard }], guard := some (5, false) }) (v := .bool false) rfl (by kernel_rfl) (by kernel_rfl) (by kernel_rfl) (fun _ _ _ h => h) (Or.inl ⟨by rfl, fun w hSw => ?_⟩) (by assumption) ?_
    · (try dsimp only at hSw)
      go_simp
    try simp only [Act.put, List.setIfInBounds_toArray, List.set_cons_zero, List.set_cons_succ]
    refine wpAnyH_take (i := 12) (oi := { dst := some 44, op := Op.pick (Operand.tmp 37) (Operand.const (Value.bool true)) (Operand.tmp 43), type := 4, pos := "law.go:47", after := #[{ on := 5, ground := Ground.data }, { on := 11, ground := Ground.data }], guard := none }) (v := .bool false) rfl (by kernel_rfl) (by kernel_rfl) (by kernel_rfl) (fun _ _ _ h => h) (Or.inl ⟨by rfl, fun w hSw => ?_⟩) (by assumption) ?_
    · (try dsimp only at hSw)
      go_simp
    try simp only [Act.put, List.setIfInBounds_toArray, List.set_cons_zero, List.set_cons_succ]
    refine wpAnyH_done (by kernel_rfl) ?_ _
    refine NoPanic.normal ?_
    cases y
    · have hm0 : m = [] := by rw [← HM.out]; unfold encR10; rw [HY.out]; rfl
      subst hm0
      rcases own_nz ho rfl with rfl | ⟨g, o, c, rfl⟩
      · go_wp2_with fail
        go_ret
        exact ⟨rfl, hb⟩
      · go_wp2_with fail
        go_ret
        exact ⟨rfl, hb⟩
    · have hdec := decR10_enc HY.out []
      rw [List.append_nil, HM.out] at hdec
      go_wp2_with fail
      refine (wdec_v v5 _ m _ (Byt.of_own ho) (Nat.le_refl _) (by have := HMS.out; omega) (hTT _ hb) hd ht hv ix et kd dx m.length 0 hdec).mono ?_
      rintro e k8 ⟨rfl, h8⟩
      replace hx := hx.below h8
      replace ho := ho.below h8
      replace hb := hb.trans (h8.mono hb.size)
      clear h8 hdec
      obtain ⟨A5, c5, rfl⟩ := byt_slice (Byt.of_own ho)
      have HX := Lib.hid hx; have HB := Lib.hid hb
      clear hx hb
      go_wp2_with fail
      obtain ⟨W8, hW8⟩ : ∃ W8, k8.alloc (.cells #[.bool hd, .int .i64 ht, .int .i64 hv, .int .i64 ix, .int .i64 et, .int .i64 kd, .string dx] 32) = W8 := ⟨_, rfl⟩
      have h9 : Below k8.heap.size k8 W8 := by rw [← hW8]; exact below_new _ _
      have hz : Rt W8.drew k8.heap.size 32 [.bool hd, .int .i64 ht, .int .i64 hv, .int .i64 ix, .int .i64 et, .int .i64 kd, .string dx] := by rw [← hW8]; exact Rt.new k8 _ _
      have hx : Rt W8.drew w.heap.size 27 [.bool hd, .int .i64 ht, .int .i64 hv, .int .i64 ix, .int .i64 et, .int .i64 kd, .string dx] := HX.out.below h9.drew
      have hb : Below w.heap.size w W8.drew := (HB.out.trans (h9.mono HB.out.size)).drew
      rw [hW8]
      clear hW8 h9 HX HB ho
      refine wp_region_noPanic ?_
      refine wp_region_held_drew (S := fun W => Rt W w.heap.size 27 [.bool hd, .int .i64 ht, .int .i64 hv, .int .i64 ix, .int .i64 et, .int .i64 kd, .string dx] ∧ Rt W k8.heap.size 32 [.bool hd, .int .i64 ht, .int .i64 hv, .int .i64 ix, .int .i64 et, .int .i64 kd, .string dx]) (by kernel_rfl) ?_ (fun hHeld => ?_)
      · exact ⟨hx, hz⟩
      generalize W8.drew = k9 at *
      refine wpAnyH_take (i := 0) (oi := { dst := some 56, op := Op.move (Operand.tmp 10), type := 37, pos := "law.go:54", after := #[], guard := none }) (v := .int .i64 0) rfl (by kernel_rfl) (by kernel_rfl) (by kernel_rfl) (fun _ _ _ h => h) (Or.inl ⟨by rfl, fun w hSw => ?_⟩) (by assumption) ?_
      · (try dsimp only at hSw)
        go_simp
      try simp only [Act.put, List.setIfInBounds_toArray, List.set_cons_zero, List.set_cons_succ]
      refine wpAnyH_take (i := 1) (oi := { dst := some 57, op := Op.binOp BinOp.eql 37 (Operand.tmp 56) (Operand.const (Value.int IntKind.i64 0)) 37, type := 4, pos := "law.go:54", after := #[{ on := 0, ground := Ground.data }], guard := none }) (v := .bool true) rfl (by kernel_rfl) (by kernel_rfl) (by kernel_rfl) (fun _ _ _ h => h) (Or.inl ⟨by rfl, fun w hSw => ?_⟩) (by assumption) ?_
      · (try dsimp only at hSw)
        go_simp
      try simp only [Act.put, List.setIfInBounds_toArray, List.set_cons_zero, List.set_cons_succ]
      refine wpAnyH_take (i := 2) (oi := { dst := some 58, op := Op.move (Operand.tmp 57), type := 4, pos := "law.go:54", after := #[{ on := 1, ground := Ground.data }], guard := none }) (v := .bool true) rfl (by kernel_rfl) (by kernel_rfl) (by kernel_rfl) (fun _ _ _ h => h) (Or.inl ⟨by rfl, fun w hSw => ?_⟩) (by assumption) ?_
      · (try dsimp only at hSw)
        go_simp
      try simp only [Act.put, List.setIfInBounds_toArray, List.set_cons_zero, List.set_cons_succ]
      refine wpAnyH_take (i := 3) (oi := { dst := some 59, op := Op.move (Operand.tmp 9), type := 3, pos := "law.go:54", after := #[{ on := 2, ground := Ground.guard }], guard := some (2, true) }) (v := .int .i64 m.length) rfl (by kernel_rfl) (by kernel_rfl) (by kernel_rfl) (fun _ _ _ h => h) (Or.inl ⟨by rfl, fun w hSw => ?_⟩) (by assumption) ?_
      · (try dsimp only at hSw)
        go_simp
      try simp only [Act.put, List.setIfInBounds_toArray, List.set_cons_zero, List.set_cons_succ]
      refine wpAnyH_take (i := 4) (oi := { dst := some 60, op := Op.move (Operand.tmp 6), type := 30, pos := "law.go:54", after := #[{ on := 2, ground := Ground.guard }], guard := some (2, true) }) (v := .slice A5 m.length c5) rfl (by kernel_rfl) (by kernel_rfl) (by kernel_rfl) (fun _ _ _ h => h) (Or.inl ⟨by rfl, fun w hSw => ?_⟩) (by assumption) ?_
      · (try dsimp only at hSw)
        go_simp
      try simp only [Act.put, List.setIfInBounds_toArray, List.set_cons_zero, List.set_cons_succ]
      refine wpAnyH_take (i := 5) (oi := { dst := some 61, op := Op.call { callee := Callee.builtin Builtin.len, args := #[Operand.tmp 60], argTypes := #[30] }, type := 3, pos := "law.go:54", after := #[{ on := 4, ground := Ground.data }, { on := 2, ground := Ground.guard }], guard := some (2, true) }) (v := .int .i64 m.length) rfl (by kernel_rfl) (by kernel_rfl) (by kernel_rfl) (fun _ _ _ h => h) (Or.inl ⟨by rfl, fun w hSw => ?_⟩) (by assumption) ?_
      · (try dsimp only at hSw)
        go_simp
      try simp only [Act.put, List.setIfInBounds_toArray, List.set_cons_zero, List.set_cons_succ]
      refine wpAnyH_take (i := 6) (oi := { dst := some 62, op := Op.binOp BinOp.eql 3 (Operand.tmp 59) (Operand.tmp 61) 3, type := 4, pos := "law.go:54", after := #[{ on := 3, ground := Ground.data }, { on := 5, ground := Ground.data }, { on := 2, ground := Ground.guard }], guard := some (2, true) }) (v := .bool true) rfl (by kernel_rfl) (by kernel_rfl) (by kernel_rfl) (fun _ _ _ h => h) (Or.inl ⟨by rfl, fun w hSw => ?_⟩) (by assumption) ?_
      · (try dsimp only at hSw)
        go_simp
      try simp only [Act.put, List.setIfInBounds_toArray, List.set_cons_zero, List.set_cons_succ]
      refine wpAnyH_take (i := 7) (oi := { dst := some 63, op := Op.pick (Operand.tmp 58) (Operand.tmp 62) (Operand.const (Value.bool false)), type := 4, pos := "law.go:54", after := #[{ on := 2, ground := Ground.data }, { on := 6, ground := Ground.data }], guard := none }) (v := .bool true) rfl (by kernel_rfl) (by kernel_rfl) (by kernel_rfl) (fun _ _ _ h => h) (Or.inl ⟨by rfl, fun w hSw => ?_⟩) (by assumption) ?_
      · (try dsimp only at hSw)
        go_simp
      try simp only [Act.put, List.setIfInBounds_toArray, List.set_cons_zero, List.set_cons_succ]
      refine wpAnyH_take (i := 8) (oi := { dst := some 64, op := Op.move (Operand.tmp 63), type := 4, pos := "law.go:54", after := #[{ on := 7, ground := Ground.data }, { on := 2, ground := Ground.chain }], guard := none }) (v := .bool true) rfl (by kernel_rfl) (by kernel_rfl) (by kernel_rfl) (fun _ _ _ h => h) (Or.inl ⟨by rfl, fun w hSw => ?_⟩) (by assumption) ?_
      · (try dsimp only at hSw)
        go_simp
      try simp only [Act.put, List.setIfInBounds_toArray, List.set_cons_zero, List.set_cons_succ]
      refine wpAnyH_take (i := 9) (oi := { dst := some 65, op := Op.load 32 (Operand.tmp 8), type := 32, pos := "law.go:54", after := #[{ on := 8, ground := Ground.guard }], guard := some (8, true) }) (v := .agg #[.bool hd, .int .i64 ht, .int .i64 hv, .int .i64 ix, .int .i64 et, .int .i64 kd, .string dx]) rfl (by kernel_rfl) (by kernel_rfl) (by kernel_rfl) (fun _ _ _ h => h) (Or.inl ⟨by rfl, fun w hSw => ?_⟩) (by assumption) ?_
      · (try dsimp only at hSw)
        have q0 := hSw.2.cell (j := 0) rfl
        have q1 := hSw.2.cell (j := 1) rfl
        have q2 := hSw.2.cell (j := 2) rfl
        have q3 := hSw.2.cell (j := 3) rfl
        have q4 := hSw.2.cell (j := 4) rfl
        have q5 := hSw.2.cell (j := 5) rfl
        have q6 := hSw.2.cell (j := 6) rfl
        clear hSw
        go_simp
      try simp only [Act.put, List.setIfInBounds_toArray, List.set_cons_zero, List.set_cons_succ]
      refine wpAnyH_take (i := 11) (oi := { dst := some 67, op := Op.load 27 (Operand.tmp 2), type := 27, pos := "law.go:54", after := #[{ on := 8, ground := Ground.guard }], guard := some (8, true) }) (v := .agg #[.bool hd, .int .i64 ht, .int .i64 hv, .int .i64 ix, .int .i64 et, .int .i64 kd, .string dx]) rfl (by kernel_rfl) (by kernel_rfl) (by kernel_rfl) (fun _ _ _ h => h) (Or.inl ⟨by rfl, fun w hSw => ?_⟩) (by assumption) ?_
      · (try dsimp only at hSw)
        have q0 := hSw.1.cell (j := 0) rfl
        have q1 := hSw.1.cell (j := 1) rfl
        have q2 := hSw.1.cell (j := 2) rfl
        have q3 := hSw.1.cell (j := 3) rfl
        have q4 := hSw.1.cell (j := 4) rfl
        have q5 := hSw.1.cell (j := 5) rfl
        have q6 := hSw.1.cell (j := 6) rfl
        clear hSw
        go_simp
      try simp only [Act.put, List.setIfInBounds_toArray, List.set_cons_zero, List.set_cons_succ]
      refine wpAnyH_ready (rs := [10]) (by kernel_rfl) (by simp) ?_
      refine AllReadyH.cons (o := { dst := some 66, op := Op.call { callee := Callee.value (Operand.func 19), args := #[Operand.tmp 65], argTypes := #[32] }, type := 27, pos := "law.go:54", after := #[{ on := 9, ground := Ground.data }, { on := 8, ground := Ground.chain }, { on := 8, ground := Ground.guard }], guard := some (8, true) }) rfl (fun K hK => ?_) AllReadyH.nil
      go_simp
      go_at_call 19
      refine (back10_any hd ht hv ix et kd dx _).mono ?_
      rintro e kq ⟨rfl, hq⟩
      replace hx := hx.below hq
      replace hz := hz.below hq
      replace hb := hb.trans (hq.mono hb.size)
      clear hq
      refine hK.out _ _ ?_ (fun hHeld => ?_)
      · exact ⟨hx, hz⟩
      clear hK K
      try simp only [Act.put, List.setIfInBounds_toArray, List.set_cons_zero, List.set_cons_succ]
      refine wpAnyH_ready (rs := [12]) (by kernel_rfl) (by simp) ?_
      refine AllReadyH.cons (o := { dst := some 68, op := Op.call { callee := Callee.value (Operand.func 18), args := #[Operand.tmp 66, Operand.tmp 67], argTypes := #[27, 27] }, type := 4, pos := "law.go:54", after := #[{ on := 10, ground := Ground.data }, { on := 11, ground := Ground.data }, { on := 10, ground := Ground.chain }, { on := 8, ground := Ground.guard }], guard := some (8, true) }) rfl (fun K hK => ?_) AllReadyH.nil
      go_simp
      go_at_call 18
      refine (req10_any ⟨hd, ht, hv, ⟨ix, et, kd, dx⟩⟩ ⟨hd, ht, hv, ⟨ix, et, kd, dx⟩⟩ _).mono ?_
      rintro e kr ⟨rfl, hq⟩
      rw [eq10_self]
      replace hx := hx.below hq
      replace hz := hz.below hq
      replace hb := hb.trans (hq.mono hb.size)
      clear hq
      refine hK.out _ _ ?_ (fun hHeld => ?_)
      · exact ⟨hx, hz⟩
      clear hK K
      try simp only [Act.put, List.setIfInBounds_toArray, List.set_cons_zero, List.set_cons_succ]
      refine wpAnyH_take (i := 13) (oi := { dst := some 69, op := Op.pick (Operand.tmp 64) (Operand.tmp 68) (Operand.const (Value.bool false)), type := 4, pos := "law.go:54", after := #[{ on := 8, ground := Ground.data }, { on := 12, ground := Ground.data }], guard := none }) (v := .bool true) rfl (by kernel_rfl) (by kernel_rfl) (by kernel_rfl) (fun _ _ _ h => h) (Or.inl ⟨by rfl, fun w hSw => ?_⟩) (by assumption) ?_
      · (try dsimp only at hSw)
        go_simp
      try simp only [Act.put, List.setIfInBounds_toArray, List.set_cons_zero, List.set_cons_succ]
      refine wpAnyH_ready (rs := [14]) (by kernel_rfl) (by simp) ?_
      refine AllReadyH.cons (o := { dst := some 4, op := Op.assign (Operand.tmp 69), type := 4, pos := "law.go:54", after := #[{ on := 13, ground := Ground.data }, { on := 12, ground := Ground.chain }, { on := 0, ground := Ground.phase }, { on := 1, ground := Ground.phase }, { on := 2, ground := Ground.phase }, { on := 3, ground := Ground.phase }, { on := 4, ground := Ground.phase }, { on := 5, ground := Ground.phase }, { on := 6, ground := Ground.phase }, { on := 7, ground := Ground.phase }, { on := 8, ground := Ground.phase }, { on := 9, ground := Ground.phase }, { on := 10, ground := Ground.phase }, { on := 11, ground := Ground.phase }, { on := 12, ground := Ground.phase }, { on := 13, ground := Ground.phase }], guard := none }) rfl (fun K hK => ?_) AllReadyH.nil
      go_simp
      refine hK.out _ _ ?_ (fun hHeld => ?_)
      · exact ⟨hx, hz⟩
      clear hK K
      try simp only [Act.put, List.setIfInBounds_toArray, List.set_cons_zero, List.set_cons_succ]
      refine wpAnyH_done (by kernel_rfl) ?_ _
      refine NoPanic.normal ?_
      go_wp2_with fail
      go_ret
      exact ⟨rfl, hb⟩
  · obtain ⟨W3, hW3⟩ : ∃ W3, (((((((k2.setCell ⟨w.heap.size, 0, none⟩ (.bool hd)).setCell ⟨w.heap.size, 1, none⟩ (.int .i64 ht)).setCell ⟨w.heap.size, 2, none⟩ (.int .i64 hv)).setCell ⟨w.heap.size, 3, none⟩ (.int .i64 ix)).setCell ⟨w.heap.size, 4, none⟩ (.int .i64 et)).setCell ⟨w.heap.size, 5, none⟩ (.int .i64 kd)).setCell ⟨w.heap.size, 6, none⟩ (.string dt)) = W3 := ⟨_, rfl⟩
    have hr3 : Rt W3 w.heap.size 27 [.bool hd, .int .i64 ht, .int .i64 hv, .int .i64 ix, .int .i64 et, .int .i64 kd, .string dt] := by rw [← hW3]; exact (((((((HR2.out.set 0 (.bool hd)).set 1 (.int .i64 ht)).set 2 (.int .i64 hv)).set 3 (.int .i64 ix)).set 4 (.int .i64 et)).set 5 (.int .i64 kd)).set 6 (.string dt))
    have hb3 : Below w.heap.size w W3 := by rw [← hW3]; exact (below_set10 ((below_set10 ((below_set10 ((below_set10 ((below_set10 ((below_set10 ((below_set10 (HB2.out) 0 (g := w.heap.size) (.bool hd) (Nat.le_refl _))) 1 (g := w.heap.size) (.int .i64 ht) (Nat.le_refl _))) 2 (g := w.heap.size) (.int .i64 hv) (Nat.le_refl _))) 3 (g := w.heap.size) (.int .i64 ix) (Nat.le_refl _))) 4 (g := w.heap.size) (.int .i64 et) (Nat.le_refl _))) 5 (g := w.heap.size) (.int .i64 kd) (Nat.le_refl _))) 6 (g := w.heap.size) (.string dt) (Nat.le_refl _))
    rw [hW3]
    clear hW3 HR2 HB2 x0 x1 x2 x3 x4 x5 x6 y0 y1 y2 y3 y4 y5 y6
    obtain ⟨m, hm⟩ : ∃ m, encR10 ⟨hd, ht, hv, ⟨ix, et, kd, dt⟩⟩ = m := ⟨_, rfl⟩
    obtain ⟨y, hy⟩ : ∃ y, may10 ⟨hd, ht, hv, ⟨ix, et, kd, dt⟩⟩ = y := ⟨_, rfl⟩
    have hms : m.length ≤ 2607 := by rw [← hm]; exact enc10_short _
    have HY := Lib.hid hy
    have HM := Lib.hid hm
    have HMS := Lib.hid hms
    clear hy hm hms
    have hTT := fun (k : World) (h : Below w.heap.size w k) => tbl_keep HT.out h
    refine (of10_any hd ht hv ix et kd dt _).mono ?_
    rintro e k4 ⟨rfl, h4⟩
    have hr4 := hr3.below h4
    have hb4 := hb3.trans (h4.mono hb3.size)
    clear h4 hr3 hb3
    have HR4 := Lib.hid hr4
    have HB4 := Lib.hid hb4
    have x0 := hr4.cell (j := 0) rfl
    have x1 := hr4.cell (j := 1) rfl
    have x2 := hr4.cell (j := 2) rfl
    have x3 := hr4.cell (j := 3) rfl
    have x4 := hr4.cell (j := 4) rfl
    have x5 := hr4.cell (j := 5) rfl
    have x6 := hr4.cell (j := 6) rfl
    clear hr4 hb4
    go_wp2_with fail
    refine (wenc_v hd ht hv ix et kd dt m _ (by omega) (hTT _ HB4.out) HM.out).mono ?_
    rintro e k5 h5
    obtain ⟨v5, rfl, ho5, h5⟩ := h5
    have hr5 := HR4.out.below h5
    have hb5 := HB4.out.trans (h5.mono HB4.out.size)
    have HO5 := Lib.hid ho5
    have HR5 := Lib.hid hr5
    have HB5 := Lib.hid hb5
    clear h5 ho5 HR4 HB4 x0 x1 x2 x3 x4 x5 x6
    have x0 := hr5.cell (j := 0) rfl
    have x1 := hr5.cell (j := 1) rfl
    have x2 := hr5.cell (j := 2) rfl
    have x3 := hr5.cell (j := 3) rfl
    have x4 := hr5.cell (j := 4) rfl
    have x5 := hr5.cell (j := 5) rfl
    have x6 := hr5.cell (j := 6) rfl
    clear hr5 hb5
    go_wp2_with fail
    refine (rmay_v10 hd ht hv ix et kd dt y _ (by omega) HY.out).mono ?_
    rintro e k6 ⟨rfl, h6⟩
    have hr6 := HR5.out.below h6
    have hb6 := HB5.out.trans (h6.mono HB5.out.size)
    have ho6 := HO5.out.below h6
    have HR6 := Lib.hid hr6
    have HB6 := Lib.hid hb6
    have HO6 := Lib.hid ho6
    clear h6 ho6 HR5 HB5 HO5 x0 x1 x2 x3 x4 x5 x6
    have x0 := hr6.cell (j := 0) rfl
    have x1 := hr6.cell (j := 1) rfl
    have x2 := hr6.cell (j := 2) rfl
    have x3 := hr6.cell (j := 3) rfl
    have x4 := hr6.cell (j := 4) rfl
    have x5 := hr6.cell (j := 5) rfl
    have x6 := hr6.cell (j := 6) rfl
    clear hr6 hb6
    go_wp2_with fail
    obtain ⟨S, hS⟩ : ∃ S, (⟨m.toArray⟩ : ByteArray) = S := ⟨_, rfl⟩
    have HS := Lib.hid hS
    clear hS
    clear x0 x1 x2 x3 x4 x5 x6
    have hx : Rt k6.drew w.heap.size 27 [.bool hd, .int .i64 ht, .int .i64 hv, .int .i64 ix, .int .i64 et, .int .i64 kd, .string dt] := HR6.out
    have ho : OwnB k4.heap.size v5 m k6.drew := HO6.out
    have hb : Below w.heap.size w k6.drew := HB6.out.drew
    clear HR6 HO6 HB6
    refine wp_region_noPanic ?_
    refine wp_region_held_drew (S := fun W => Rt W w.heap.size 27 [.bool hd, .int .i64 ht, .int .i64 hv, .int .i64 ix, .int .i64 et, .int .i64 kd, .string dt] ∧ (convert 30 9 v5).run Tryd.prog W = .ok (.string S) W) (by kernel_rfl) ?_ (fun hHeld => ?_)
    · exact ⟨hx, conv_byt (Byt.of_own ho) HS.out⟩
    generalize k6.drew = k7 at *
    refine wpAnyH_take (i := 0) (oi := { dst := some 32, op := Op.load 27 (Operand.tmp 2), type := 27, pos := "law.go:47", after := #[], guard := none }) (v := .agg #[.bool hd, .int .i64 ht, .int .i64 hv, .int .i64 ix, .int .i64 et, .int .i64 kd, .string dt]) rfl (by kernel_rfl) (by kernel_rfl) (by kernel_rfl) (fun _ _ _ h => h) (Or.inl ⟨by rfl, fun w hSw => ?_⟩) (by assumption) ?_
    · (try dsimp only at hSw)
      have q0 := hSw.1.cell (j := 0) rfl
      have q1 := hSw.1.cell (j := 1) rfl
      have q2 := hSw.1.cell (j := 2) rfl
      have q3 := hSw.1.cell (j := 3) rfl
      have q4 := hSw.1.cell (j := 4) rfl
      have q5 := hSw.1.cell (j := 5) rfl
      have q6 := hSw.1.cell (j := 6) rfl
      clear hSw
      go_simp
    try simp only [Act.put, List.setIfInBounds_toArray, List.set_cons_zero, List.set_cons_succ]
    refine wpAnyH_take (i := 3) (oi := { dst := some 35, op := Op.move (Operand.tmp 7), type := 4, pos := "law.go:47", after := #[], guard := none }) (v := .bool y) rfl (by kernel_rfl) (by kernel_rfl) (by kernel_rfl) (fun _ _ _ h => h) (Or.inl ⟨by rfl, fun w hSw => ?_⟩) (by assumption) ?_
    · (try dsimp only at hSw)
      go_simp
    try simp only [Act.put, List.setIfInBounds_toArray, List.set_cons_zero, List.set_cons_succ]
    refine wpAnyH_ready (rs := [1]) (by kernel_rfl) (by simp) ?_
    refine AllReadyH.cons (o := { dst := some 33, op := Op.call { callee := Callee.value (Operand.func 13), args := #[Operand.tmp 32], argTypes := #[27] }, type := 32, pos := "law.go:47", after := #[{ on := 0, ground := Ground.data }], guard := none }) rfl (fun K hK => ?_) AllReadyH.nil
    go_simp
    go_at_call 13
    refine (of10_any hd ht hv ix et kd dt _).mono ?_
    rintro e kq ⟨rfl, hq⟩
    replace hx := hx.below hq
    replace ho := ho.below hq
    replace hb := hb.trans (hq.mono hb.size)
    clear hq
    refine hK.out _ _ ?_ (fun hHeld => ?_)
    · exact ⟨hx, conv_byt (Byt.of_own ho) HS.out⟩
    clear hK K
    try simp only [Act.put, List.setIfInBounds_toArray, List.set_cons_zero, List.set_cons_succ]
    refine wpAnyH_ready (rs := [2]) (by kernel_rfl) (by simp) ?_
    refine AllReadyH.cons (o := { dst := some 34, op := Op.call { callee := Callee.value (Operand.func 15), args := #[Operand.tmp 33], argTypes := #[32] }, type := 4, pos := "law.go:47", after := #[{ on := 1, ground := Ground.data }, { on := 1, ground := Ground.chain }], guard := none }) rfl (fun K hK => ?_) AllReadyH.nil
    go_simp
    go_at_call 15
    refine (wmay_v hd ht hv ix et kd dt y _ (by omega) HY.out).mono ?_
    rintro e kq ⟨rfl, hq⟩
    replace hx := hx.below hq
    replace ho := ho.below hq
    replace hb := hb.trans (hq.mono hb.size)
    clear hq
    refine hK.out _ _ ?_ (fun hHeld => ?_)
    · exact ⟨hx, conv_byt (Byt.of_own ho) HS.out⟩
    clear hK K
    try simp only [Act.put, List.setIfInBounds_toArray, List.set_cons_zero, List.set_cons_succ]
    refine wpAnyH_take (i := 4) (oi := { dst := some 36, op := Op.binOp BinOp.neq 4 (Operand.tmp 34) (Operand.tmp 35) 4, type := 4, pos := "law.go:47", after := #[{ on := 2, ground := Ground.data }, { on := 3, ground := Ground.data }], guard := none }) (v := .bool false) rfl (by kernel_rfl) (by kernel_rfl) (by kernel_rfl) (fun _ _ _ h => h) (Or.inl ⟨by rfl, fun w hSw => ?_⟩) (by assumption) ?_
    · (try dsimp only at hSw)
      go_simp
    try simp only [Act.put, List.setIfInBounds_toArray, List.set_cons_zero, List.set_cons_succ]
    refine wpAnyH_take (i := 5) (oi := { dst := some 37, op := Op.move (Operand.tmp 36), type := 4, pos := "law.go:47", after := #[{ on := 4, ground := Ground.data }, { on := 2, ground := Ground.chain }], guard := none }) (v := .bool false) rfl (by kernel_rfl) (by kernel_rfl) (by kernel_rfl) (fun _ _ _ h => h) (Or.inl ⟨by rfl, fun w hSw => ?_⟩) (by assumption) ?_
    · (try dsimp only at hSw)
      go_simp
    try simp only [Act.put, List.setIfInBounds_toArray, List.set_cons_zero, List.set_cons_succ]
    refine wpAnyH_take (i := 6) (oi := { dst := some 38, op := Op.move (Operand.tmp 6), type := 30, pos := "law.go:47", after := #[{ on := 5, ground := Ground.guard }], guard := some (5, false) }) (v := v5) rfl (by kernel_rfl) (by kernel_rfl) (by kernel_rfl) (fun _ _ _ h => h) (Or.inl ⟨by rfl, fun w hSw => ?_⟩) (by assumption) ?_
    · (try dsimp only at hSw)
      go_simp
    try simp only [Act.put, List.setIfInBounds_toArray, List.set_cons_zero, List.set_cons_succ]
    refine wpAnyH_take (i := 7) (oi := { dst := some 39, op := Op.convert 30 9 (Operand.tmp 38), type := 9, pos := "law.go:47", after := #[{ on := 6, ground := Ground.data }, { on := 5, ground := Ground.guard }], guard := some (5, false) }) (v := .string S) rfl (by kernel_rfl) (by kernel_rfl) (by kernel_rfl) (fun _ _ _ h => h) (Or.inl ⟨by rfl, fun w hSw => ?_⟩) (by assumption) ?_
    · (try dsimp only at hSw)
      have qc := hSw.2
      clear hSw
      go_simp
    try simp only [Act.put, List.setIfInBounds_toArray, List.set_cons_zero, List.set_cons_succ]
    refine wpAnyH_take (i := 8) (oi := { dst := some 40, op := Op.load 27 (Operand.tmp 2), type := 27, pos := "law.go:47", after := #[{ on := 5, ground := Ground.guard }], guard := some (5, false) }) (v := .agg #[.bool hd, .int .i64 ht, .int .i64 hv, .int .i64 ix, .int .i64 et, .int .i64 kd, .string dt]) rfl (by kernel_rfl) (by kernel_rfl) (by kernel_rfl) (fun _ _ _ h => h) (Or.inl ⟨by rfl, fun w hSw => ?_⟩) (by assumption) ?_
    · (try dsimp only at hSw)
      have q0 := hSw.1.cell (j := 0) rfl
      have q1 := hSw.1.cell (j := 1) rfl
      have q2 := hSw.1.cell (j := 2) rfl
      have q3 := hSw.1.cell (j := 3) rfl
      have q4 := hSw.1.cell (j := 4) rfl
      have q5 := hSw.1.cell (j := 5) rfl
      have q6 := hSw.1.cell (j := 6) rfl
      clear hSw
      go_simp
    try simp only [Act.put, List.setIfInBounds_toArray, List.set_cons_zero, List.set_cons_succ]
    refine wpAnyH_ready (rs := [9]) (by kernel_rfl) (by simp) ?_
    refine AllReadyH.cons (o := { dst := some 41, op := Op.call { callee := Callee.value (Operand.func 16), args := #[Operand.tmp 40], argTypes := #[27] }, type := 30, pos := "law.go:47", after := #[{ on := 8, ground := Ground.data }, { on := 5, ground := Ground.chain }, { on := 5, ground := Ground.guard }], guard := some (5, false) }) rfl (fun K hK => ?_) AllReadyH.nil
    go_simp
    go_at_call 16
    refine (renc_v hd ht hv ix et kd dt m _ (by omega) HM.out).mono ?_
    rintro e kq ⟨v9, rfl, ho9, hq⟩
    have m3 := conv_byt (Byt.of_own ho9) HS.out
    replace hx := hx.below hq
    replace ho := ho.below hq
    replace hb := hb.trans (hq.mono hb.size)
    clear hq ho9
    refine hK.out _ _ ?_ (fun hHeld => ?_)
    · exact ⟨hx, conv_byt (Byt.of_own ho) HS.out⟩
    clear hK K
    try simp only [Act.put, List.setIfInBounds_toArray, List.set_cons_zero, List.set_cons_succ]
    refine wpAnyH_ready (rs := [10]) (by kernel_rfl) (by simp) ?_
    refine AllReadyH.cons (o := { dst := some 42, op := Op.convert 30 9 (Operand.tmp 41), type := 9, pos := "law.go:47", after := #[{ on := 9, ground := Ground.data }, { on := 5, ground := Ground.guard }], guard := some (5, false) }) rfl (fun K hK => ?_) AllReadyH.nil
    go_simp
    clear m3
    refine hK.out _ _ ?_ (fun hHeld => ?_)
    · exact ⟨hx, conv_byt (Byt.of_own ho) HS.out⟩
    clear hK K
    try simp only [Act.put, List.setIfInBounds_toArray, List.set_cons_zero, List.set_cons_succ]
    refine wpAnyH_take (i := 11) (oi := { dst := some 43, op := Op.binOp BinOp.neq 9 (Operand.tmp 39) (Operand.tmp 42) 9, type := 4, pos := "law.go:47", after := #[{ on := 7, ground := Ground.data }, { on := 10, ground := Ground.data }, { on := 5, ground := Ground.guard }], guard := some (5, false) }) (v := .bool false) rfl (by kernel_rfl) (by kernel_rfl) (by kernel_rfl) (fun _ _ _ h => h) (Or.inl ⟨by rfl, fun w hSw => ?_⟩) (by assumption) ?_
    · (try dsimp only at hSw)
      go_simp
    try simp only [Act.put, List.setIfInBounds_toArray, List.set_cons_zero, List.set_cons_succ]
    refine wpAnyH_take (i := 12) (oi := { dst := some 44, op := Op.pick (Operand.tmp 37) (Operand.const (Value.bool true)) (Operand.tmp 43), type := 4, pos := "law.go:47", after := #[{ on := 5, ground := Ground.data }, { on := 11, ground := Ground.data }], guard := none }) (v := .bool false) rfl (by kernel_rfl) (by kernel_rfl) (by kernel_rfl) (fun _ _ _ h => h) (Or.inl ⟨by rfl, fun w hSw => ?_⟩) (by assumption) ?_
    · (try dsimp only at hSw)
      go_simp
    try simp only [Act.put, List.setIfInBounds_toArray, List.set_cons_zero, List.set_cons_succ]
    refine wpAnyH_done (by kernel_rfl) ?_ _
    refine NoPanic.normal ?_
    cases y
    · have hm0 : m = [] := by rw [← HM.out]; unfold encR10; rw [HY.out]; rfl
      subst hm0
      rcases own_nz ho rfl with rfl | ⟨g, o, c, rfl⟩
      · go_wp2_with fail
        go_ret
        exact ⟨rfl, hb⟩
      · go_wp2_with fail
        go_ret
        exact ⟨rfl, hb⟩
    · have hdec := decR10_enc HY.out []
      rw [List.append_nil, HM.out] at hdec
      go_wp2_with fail
      refine (wdec_v v5 _ m _ (Byt.of_own ho) (Nat.le_refl _) (by have := HMS.out; omega) (hTT _ hb) hd ht hv ix et kd dt m.length 0 hdec).mono ?_
      rintro e k8 ⟨rfl, h8⟩
      replace hx := hx.below h8
      replace ho := ho.below h8
      replace hb := hb.trans (h8.mono hb.size)
      clear h8 hdec
      obtain ⟨A5, c5, rfl⟩ := byt_slice (Byt.of_own ho)
      have HX := Lib.hid hx; have HB := Lib.hid hb
      clear hx hb
      go_wp2_with fail
      obtain ⟨W8, hW8⟩ : ∃ W8, k8.alloc (.cells #[.bool hd, .int .i64 ht, .int .i64 hv, .int .i64 ix, .int .i64 et, .int .i64 kd, .string dt] 32) = W8 := ⟨_, rfl⟩
      have h9 : Below k8.heap.size k8 W8 := by rw [← hW8]; exact below_new _ _
      have hz : Rt W8.drew k8.heap.size 32 [.bool hd, .int .i64 ht, .int .i64 hv, .int .i64 ix, .int .i64 et, .int .i64 kd, .string dt] := by rw [← hW8]; exact Rt.new k8 _ _
      have hx : Rt W8.drew w.heap.size 27 [.bool hd, .int .i64 ht, .int .i64 hv, .int .i64 ix, .int .i64 et, .int .i64 kd, .string dt] := HX.out.below h9.drew
      have hb : Below w.heap.size w W8.drew := (HB.out.trans (h9.mono HB.out.size)).drew
      rw [hW8]
      clear hW8 h9 HX HB ho
      refine wp_region_noPanic ?_
      refine wp_region_held_drew (S := fun W => Rt W w.heap.size 27 [.bool hd, .int .i64 ht, .int .i64 hv, .int .i64 ix, .int .i64 et, .int .i64 kd, .string dt] ∧ Rt W k8.heap.size 32 [.bool hd, .int .i64 ht, .int .i64 hv, .int .i64 ix, .int .i64 et, .int .i64 kd, .string dt]) (by kernel_rfl) ?_ (fun hHeld => ?_)
      · exact ⟨hx, hz⟩
      generalize W8.drew = k9 at *
      refine wpAnyH_take (i := 0) (oi := { dst := some 56, op := Op.move (Operand.tmp 10), type := 37, pos := "law.go:54", after := #[], guard := none }) (v := .int .i64 0) rfl (by kernel_rfl) (by kernel_rfl) (by kernel_rfl) (fun _ _ _ h => h) (Or.inl ⟨by rfl, fun w hSw => ?_⟩) (by assumption) ?_
      · (try dsimp only at hSw)
        go_simp
      try simp only [Act.put, List.setIfInBounds_toArray, List.set_cons_zero, List.set_cons_succ]
      refine wpAnyH_take (i := 1) (oi := { dst := some 57, op := Op.binOp BinOp.eql 37 (Operand.tmp 56) (Operand.const (Value.int IntKind.i64 0)) 37, type := 4, pos := "law.go:54", after := #[{ on := 0, ground := Ground.data }], guard := none }) (v := .bool true) rfl (by kernel_rfl) (by kernel_rfl) (by kernel_rfl) (fun _ _ _ h => h) (Or.inl ⟨by rfl, fun w hSw => ?_⟩) (by assumption) ?_
      · (try dsimp only at hSw)
        go_simp
      try simp only [Act.put, List.setIfInBounds_toArray, List.set_cons_zero, List.set_cons_succ]
      refine wpAnyH_take (i := 2) (oi := { dst := some 58, op := Op.move (Operand.tmp 57), type := 4, pos := "law.go:54", after := #[{ on := 1, ground := Ground.data }], guard := none }) (v := .bool true) rfl (by kernel_rfl) (by kernel_rfl) (by kernel_rfl) (fun _ _ _ h => h) (Or.inl ⟨by rfl, fun w hSw => ?_⟩) (by assumption) ?_
      · (try dsimp only at hSw)
        go_simp
      try simp only [Act.put, List.setIfInBounds_toArray, List.set_cons_zero, List.set_cons_succ]
      refine wpAnyH_take (i := 3) (oi := { dst := some 59, op := Op.move (Operand.tmp 9), type := 3, pos := "law.go:54", after := #[{ on := 2, ground := Ground.guard }], guard := some (2, true) }) (v := .int .i64 m.length) rfl (by kernel_rfl) (by kernel_rfl) (by kernel_rfl) (fun _ _ _ h => h) (Or.inl ⟨by rfl, fun w hSw => ?_⟩) (by assumption) ?_
      · (try dsimp only at hSw)
        go_simp
      try simp only [Act.put, List.setIfInBounds_toArray, List.set_cons_zero, List.set_cons_succ]
      refine wpAnyH_take (i := 4) (oi := { dst := some 60, op := Op.move (Operand.tmp 6), type := 30, pos := "law.go:54", after := #[{ on := 2, ground := Ground.guard }], guard := some (2, true) }) (v := .slice A5 m.length c5) rfl (by kernel_rfl) (by kernel_rfl) (by kernel_rfl) (fun _ _ _ h => h) (Or.inl ⟨by rfl, fun w hSw => ?_⟩) (by assumption) ?_
      · (try dsimp only at hSw)
        go_simp
      try simp only [Act.put, List.setIfInBounds_toArray, List.set_cons_zero, List.set_cons_succ]
      refine wpAnyH_take (i := 5) (oi := { dst := some 61, op := Op.call { callee := Callee.builtin Builtin.len, args := #[Operand.tmp 60], argTypes := #[30] }, type := 3, pos := "law.go:54", after := #[{ on := 4, ground := Ground.data }, { on := 2, ground := Ground.guard }], guard := some (2, true) }) (v := .int .i64 m.length) rfl (by kernel_rfl) (by kernel_rfl) (by kernel_rfl) (fun _ _ _ h => h) (Or.inl ⟨by rfl, fun w hSw => ?_⟩) (by assumption) ?_
      · (try dsimp only at hSw)
        go_simp
      try simp only [Act.put, List.setIfInBounds_toArray, List.set_cons_zero, List.set_cons_succ]
      refine wpAnyH_take (i := 6) (oi := { dst := some 62, op := Op.binOp BinOp.eql 3 (Operand.tmp 59) (Operand.tmp 61) 3, type := 4, pos := "law.go:54", after := #[{ on := 3, ground := Ground.data }, { on := 5, ground := Ground.data }, { on := 2, ground := Ground.guard }], guard := some (2, true) }) (v := .bool true) rfl (by kernel_rfl) (by kernel_rfl) (by kernel_rfl) (fun _ _ _ h => h) (Or.inl ⟨by rfl, fun w hSw => ?_⟩) (by assumption) ?_
      · (try dsimp only at hSw)
        go_simp
      try simp only [Act.put, List.setIfInBounds_toArray, List.set_cons_zero, List.set_cons_succ]
      refine wpAnyH_take (i := 7) (oi := { dst := some 63, op := Op.pick (Operand.tmp 58) (Operand.tmp 62) (Operand.const (Value.bool false)), type := 4, pos := "law.go:54", after := #[{ on := 2, ground := Ground.data }, { on := 6, ground := Ground.data }], guard := none }) (v := .bool true) rfl (by kernel_rfl) (by kernel_rfl) (by kernel_rfl) (fun _ _ _ h => h) (Or.inl ⟨by rfl, fun w hSw => ?_⟩) (by assumption) ?_
      · (try dsimp only at hSw)
        go_simp
      try simp only [Act.put, List.setIfInBounds_toArray, List.set_cons_zero, List.set_cons_succ]
      refine wpAnyH_take (i := 8) (oi := { dst := some 64, op := Op.move (Operand.tmp 63), type := 4, pos := "law.go:54", after := #[{ on := 7, ground := Ground.data }, { on := 2, ground := Ground.chain }], guard := none }) (v := .bool true) rfl (by kernel_rfl) (by kernel_rfl) (by kernel_rfl) (fun _ _ _ h => h) (Or.inl ⟨by rfl, fun w hSw => ?_⟩) (by assumption) ?_
      · (try dsimp only at hSw)
        go_simp
      try simp only [Act.put, List.setIfInBounds_toArray, List.set_cons_zero, List.set_cons_succ]
      refine wpAnyH_take (i := 9) (oi := { dst := some 65, op := Op.load 32 (Operand.tmp 8), type := 32, pos := "law.go:54", after := #[{ on := 8, ground := Ground.guard }], guard := some (8, true) }) (v := .agg #[.bool hd, .int .i64 ht, .int .i64 hv, .int .i64 ix, .int .i64 et, .int .i64 kd, .string dt]) rfl (by kernel_rfl) (by kernel_rfl) (by kernel_rfl) (fun _ _ _ h => h) (Or.inl ⟨by rfl, fun w hSw => ?_⟩) (by assumption) ?_
      · (try dsimp only at hSw)
        have q0 := hSw.2.cell (j := 0) rfl
        have q1 := hSw.2.cell (j := 1) rfl
        have q2 := hSw.2.cell (j := 2) rfl
        have q3 := hSw.2.cell (j := 3) rfl
        have q4 := hSw.2.cell (j := 4) rfl
        have q5 := hSw.2.cell (j := 5) rfl
        have q6 := hSw.2.cell (j := 6) rfl
        clear hSw
        go_simp
      try simp only [Act.put, List.setIfInBounds_toArray, List.set_cons_zero, List.set_cons_succ]
      refine wpAnyH_take (i := 11) (oi := { dst := some 67, op := Op.load 27 (Operand.tmp 2), type := 27, pos := "law.go:54", after := #[{ on := 8, ground := Ground.guard }], guard := some (8, true) }) (v := .agg #[.bool hd, .int .i64 ht, .int .i64 hv, .int .i64 ix, .int .i64 et, .int .i64 kd, .string dt]) rfl (by kernel_rfl) (by kernel_rfl) (by kernel_rfl) (fun _ _ _ h => h) (Or.inl ⟨by rfl, fun w hSw => ?_⟩) (by assumption) ?_
      · (try dsimp only at hSw)
        have q0 := hSw.1.cell (j := 0) rfl
        have q1 := hSw.1.cell (j := 1) rfl
        have q2 := hSw.1.cell (j := 2) rfl
        have q3 := hSw.1.cell (j := 3) rfl
        have q4 := hSw.1.cell (j := 4) rfl
        have q5 := hSw.1.cell (j := 5) rfl
        have q6 := hSw.1.cell (j := 6) rfl
        clear hSw
        go_simp
      try simp only [Act.put, List.setIfInBounds_toArray, List.set_cons_zero, List.set_cons_succ]
      refine wpAnyH_ready (rs := [10]) (by kernel_rfl) (by simp) ?_
      refine AllReadyH.cons (o := { dst := some 66, op := Op.call { callee := Callee.value (Operand.func 19), args := #[Operand.tmp 65], argTypes := #[32] }, type := 27, pos := "law.go:54", after := #[{ on := 9, ground := Ground.data }, { on := 8, ground := Ground.chain }, { on := 8, ground := Ground.guard }], guard := some (8, true) }) rfl (fun K hK => ?_) AllReadyH.nil
      go_simp
      go_at_call 19
      refine (back10_any hd ht hv ix et kd dt _).mono ?_
      rintro e kq ⟨rfl, hq⟩
      replace hx := hx.below hq
      replace hz := hz.below hq
      replace hb := hb.trans (hq.mono hb.size)
      clear hq
      refine hK.out _ _ ?_ (fun hHeld => ?_)
      · exact ⟨hx, hz⟩
      clear hK K
      try simp only [Act.put, List.setIfInBounds_toArray, List.set_cons_zero, List.set_cons_succ]
      refine wpAnyH_ready (rs := [12]) (by kernel_rfl) (by simp) ?_
      refine AllReadyH.cons (o := { dst := some 68, op := Op.call { callee := Callee.value (Operand.func 18), args := #[Operand.tmp 66, Operand.tmp 67], argTypes := #[27, 27] }, type := 4, pos := "law.go:54", after := #[{ on := 10, ground := Ground.data }, { on := 11, ground := Ground.data }, { on := 10, ground := Ground.chain }, { on := 8, ground := Ground.guard }], guard := some (8, true) }) rfl (fun K hK => ?_) AllReadyH.nil
      go_simp
      go_at_call 18
      refine (req10_any ⟨hd, ht, hv, ⟨ix, et, kd, dt⟩⟩ ⟨hd, ht, hv, ⟨ix, et, kd, dt⟩⟩ _).mono ?_
      rintro e kr ⟨rfl, hq⟩
      rw [eq10_self]
      replace hx := hx.below hq
      replace hz := hz.below hq
      replace hb := hb.trans (hq.mono hb.size)
      clear hq
      refine hK.out _ _ ?_ (fun hHeld => ?_)
      · exact ⟨hx, hz⟩
      clear hK K
      try simp only [Act.put, List.setIfInBounds_toArray, List.set_cons_zero, List.set_cons_succ]
      refine wpAnyH_take (i := 13) (oi := { dst := some 69, op := Op.pick (Operand.tmp 64) (Operand.tmp 68) (Operand.const (Value.bool false)), type := 4, pos := "law.go:54", after := #[{ on := 8, ground := Ground.data }, { on := 12, ground := Ground.data }], guard := none }) (v := .bool true) rfl (by kernel_rfl) (by kernel_rfl) (by kernel_rfl) (fun _ _ _ h => h) (Or.inl ⟨by rfl, fun w hSw => ?_⟩) (by assumption) ?_
      · (try dsimp only at hSw)
        go_simp
      try simp only [Act.put, List.setIfInBounds_toArray, List.set_cons_zero, List.set_cons_succ]
      refine wpAnyH_ready (rs := [14]) (by kernel_rfl) (by simp) ?_
      refine AllReadyH.cons (o := { dst := some 4, op := Op.assign (Operand.tmp 69), type := 4, pos := "law.go:54", after := #[{ on := 13, ground := Ground.data }, { on := 12, ground := Ground.chain }, { on := 0, ground := Ground.phase }, { on := 1, ground := Ground.phase }, { on := 2, ground := Ground.phase }, { on := 3, ground := Ground.phase }, { on := 4, ground := Ground.phase }, { on := 5, ground := Ground.phase }, { on := 6, ground := Ground.phase }, { on := 7, ground := Ground.phase }, { on := 8, ground := Ground.phase }, { on := 9, ground := Ground.phase }, { on := 10, ground := Ground.phase }, { on := 11, ground := Ground.phase }, { on := 12, ground := Ground.phase }, { on := 13, ground := Ground.phase }], guard := none }) rfl (fun K hK => ?_) AllReadyH.nil
      go_simp
      refine hK.out _ _ ?_ (fun hHeld => ?_)
      · exact ⟨hx, hz⟩
      clear hK K
      try simp only [Act.put, List.setIfInBounds_toArray, List.set_cons_zero, List.set_cons_succ]
      refine wpAnyH_done (by kernel_rfl) ?_ _
      refine NoPanic.normal ?_
      go_wp2_with fail
      go_ret
      exact ⟨rfl, hb⟩
  · obtain ⟨W3, hW3⟩ : ∃ W3, (((((((k2.setCell ⟨w.heap.size, 0, none⟩ (.bool hd)).setCell ⟨w.heap.size, 1, none⟩ (.int .i64 ht)).setCell ⟨w.heap.size, 2, none⟩ (.int .i64 hv)).setCell ⟨w.heap.size, 3, none⟩ (.int .i64 ix)).setCell ⟨w.heap.size, 4, none⟩ (.int .i64 et)).setCell ⟨w.heap.size, 5, none⟩ (.int .i64 kd)).setCell ⟨w.heap.size, 6, none⟩ (.string dt)) = W3 := ⟨_, rfl⟩
    have hr3 : Rt W3 w.heap.size 27 [.bool hd, .int .i64 ht, .int .i64 hv, .int .i64 ix, .int .i64 et, .int .i64 kd, .string dt] := by rw [← hW3]; exact (((((((HR2.out.set 0 (.bool hd)).set 1 (.int .i64 ht)).set 2 (.int .i64 hv)).set 3 (.int .i64 ix)).set 4 (.int .i64 et)).set 5 (.int .i64 kd)).set 6 (.string dt))
    have hb3 : Below w.heap.size w W3 := by rw [← hW3]; exact (below_set10 ((below_set10 ((below_set10 ((below_set10 ((below_set10 ((below_set10 ((below_set10 (HB2.out) 0 (g := w.heap.size) (.bool hd) (Nat.le_refl _))) 1 (g := w.heap.size) (.int .i64 ht) (Nat.le_refl _))) 2 (g := w.heap.size) (.int .i64 hv) (Nat.le_refl _))) 3 (g := w.heap.size) (.int .i64 ix) (Nat.le_refl _))) 4 (g := w.heap.size) (.int .i64 et) (Nat.le_refl _))) 5 (g := w.heap.size) (.int .i64 kd) (Nat.le_refl _))) 6 (g := w.heap.size) (.string dt) (Nat.le_refl _))
    rw [hW3]
    clear hW3 HR2 HB2 x0 x1 x2 x3 x4 x5 x6 y0 y1 y2 y3 y4 y5 y6
    obtain ⟨m, hm⟩ : ∃ m, encR10 ⟨hd, ht, hv, ⟨ix, et, kd, dt⟩⟩ = m := ⟨_, rfl⟩
    obtain ⟨y, hy⟩ : ∃ y, may10 ⟨hd, ht, hv, ⟨ix, et, kd, dt⟩⟩ = y := ⟨_, rfl⟩
    have hms : m.length ≤ 2607 := by rw [← hm]; exact enc10_short _
    have HY := Lib.hid hy
    have HM := Lib.hid hm
    have HMS := Lib.hid hms
    clear hy hm hms
    have hTT := fun (k : World) (h : Below w.heap.size w k) => tbl_keep HT.out h
    refine (of10_any hd ht hv ix et kd dt _).mono ?_
    rintro e k4 ⟨rfl, h4⟩
    have hr4 := hr3.below h4
    have hb4 := hb3.trans (h4.mono hb3.size)
    clear h4 hr3 hb3
    have HR4 := Lib.hid hr4
    have HB4 := Lib.hid hb4
    have x0 := hr4.cell (j := 0) rfl
    have x1 := hr4.cell (j := 1) rfl
    have x2 := hr4.cell (j := 2) rfl
    have x3 := hr4.cell (j := 3) rfl
    have x4 := hr4.cell (j := 4) rfl
    have x5 := hr4.cell (j := 5) rfl
    have x6 := hr4.cell (j := 6) rfl
    clear hr4 hb4
    go_wp2_with fail
    refine (wenc_v hd ht hv ix et kd dt m _ (by omega) (hTT _ HB4.out) HM.out).mono ?_
    rintro e k5 h5
    obtain ⟨v5, rfl, ho5, h5⟩ := h5
    have hr5 := HR4.out.below h5
    have hb5 := HB4.out.trans (h5.mono HB4.out.size)
    have HO5 := Lib.hid ho5
    have HR5 := Lib.hid hr5
    have HB5 := Lib.hid hb5
    clear h5 ho5 HR4 HB4 x0 x1 x2 x3 x4 x5 x6
    have x0 := hr5.cell (j := 0) rfl
    have x1 := hr5.cell (j := 1) rfl
    have x2 := hr5.cell (j := 2) rfl
    have x3 := hr5.cell (j := 3) rfl
    have x4 := hr5.cell (j := 4) rfl
    have x5 := hr5.cell (j := 5) rfl
    have x6 := hr5.cell (j := 6) rfl
    clear hr5 hb5
    go_wp2_with fail
    refine (rmay_v10 hd ht hv ix et kd dt y _ (by omega) HY.out).mono ?_
    rintro e k6 ⟨rfl, h6⟩
    have hr6 := HR5.out.below h6
    have hb6 := HB5.out.trans (h6.mono HB5.out.size)
    have ho6 := HO5.out.below h6
    have HR6 := Lib.hid hr6
    have HB6 := Lib.hid hb6
    have HO6 := Lib.hid ho6
    clear h6 ho6 HR5 HB5 HO5 x0 x1 x2 x3 x4 x5 x6
    have x0 := hr6.cell (j := 0) rfl
    have x1 := hr6.cell (j := 1) rfl
    have x2 := hr6.cell (j := 2) rfl
    have x3 := hr6.cell (j := 3) rfl
    have x4 := hr6.cell (j := 4) rfl
    have x5 := hr6.cell (j := 5) rfl
    have x6 := hr6.cell (j := 6) rfl
    clear hr6 hb6
    go_wp2_with fail
    obtain ⟨S, hS⟩ : ∃ S, (⟨m.toArray⟩ : ByteArray) = S := ⟨_, rfl⟩
    have HS := Lib.hid hS
    clear hS
    clear x0 x1 x2 x3 x4 x5 x6
    have hx : Rt k6.drew w.heap.size 27 [.bool hd, .int .i64 ht, .int .i64 hv, .int .i64 ix, .int .i64 et, .int .i64 kd, .string dt] := HR6.out
    have ho : OwnB k4.heap.size v5 m k6.drew := HO6.out
    have hb : Below w.heap.size w k6.drew := HB6.out.drew
    clear HR6 HO6 HB6
    refine wp_region_noPanic ?_
    refine wp_region_held_drew (S := fun W => Rt W w.heap.size 27 [.bool hd, .int .i64 ht, .int .i64 hv, .int .i64 ix, .int .i64 et, .int .i64 kd, .string dt] ∧ (convert 30 9 v5).run Tryd.prog W = .ok (.string S) W) (by kernel_rfl) ?_ (fun hHeld => ?_)
    · exact ⟨hx, conv_byt (Byt.of_own ho) HS.out⟩
    generalize k6.drew = k7 at *
    refine wpAnyH_take (i := 0) (oi := { dst := some 32, op := Op.load 27 (Operand.tmp 2), type := 27, pos := "law.go:47", after := #[], guard := none }) (v := .agg #[.bool hd, .int .i64 ht, .int .i64 hv, .int .i64 ix, .int .i64 et, .int .i64 kd, .string dt]) rfl (by kernel_rfl) (by kernel_rfl) (by kernel_rfl) (fun _ _ _ h => h) (Or.inl ⟨by rfl, fun w hSw => ?_⟩) (by assumption) ?_
    · (try dsimp only at hSw)
      have q0 := hSw.1.cell (j := 0) rfl
      have q1 := hSw.1.cell (j := 1) rfl
      have q2 := hSw.1.cell (j := 2) rfl
      have q3 := hSw.1.cell (j := 3) rfl
      have q4 := hSw.1.cell (j := 4) rfl
      have q5 := hSw.1.cell (j := 5) rfl
      have q6 := hSw.1.cell (j := 6) rfl
      clear hSw
      go_simp
    try simp only [Act.put, List.setIfInBounds_toArray, List.set_cons_zero, List.set_cons_succ]
    refine wpAnyH_take (i := 3) (oi := { dst := some 35, op := Op.move (Operand.tmp 7), type := 4, pos := "law.go:47", after := #[], guard := none }) (v := .bool y) rfl (by kernel_rfl) (by kernel_rfl) (by kernel_rfl) (fun _ _ _ h => h) (Or.inl ⟨by rfl, fun w hSw => ?_⟩) (by assumption) ?_
    · (try dsimp only at hSw)
      go_simp
    try simp only [Act.put, List.setIfInBounds_toArray, List.set_cons_zero, List.set_cons_succ]
    refine wpAnyH_ready (rs := [1]) (by kernel_rfl) (by simp) ?_
    refine AllReadyH.cons (o := { dst := some 33, op := Op.call { callee := Callee.value (Operand.func 13), args := #[Operand.tmp 32], argTypes := #[27] }, type := 32, pos := "law.go:47", after := #[{ on := 0, ground := Ground.data }], guard := none }) rfl (fun K hK => ?_) AllReadyH.nil
    go_simp
    go_at_call 13
    refine (of10_any hd ht hv ix et kd dt _).mono ?_
    rintro e kq ⟨rfl, hq⟩
    replace hx := hx.below hq
    replace ho := ho.below hq
    replace hb := hb.trans (hq.mono hb.size)
    clear hq
    refine hK.out _ _ ?_ (fun hHeld => ?_)
    · exact ⟨hx, conv_byt (Byt.of_own ho) HS.out⟩
    clear hK K
    try simp only [Act.put, List.setIfInBounds_toArray, List.set_cons_zero, List.set_cons_succ]
    refine wpAnyH_ready (rs := [2]) (by kernel_rfl) (by simp) ?_
    refine AllReadyH.cons (o := { dst := some 34, op := Op.call { callee := Callee.value (Operand.func 15), args := #[Operand.tmp 33], argTypes := #[32] }, type := 4, pos := "law.go:47", after := #[{ on := 1, ground := Ground.data }, { on := 1, ground := Ground.chain }], guard := none }) rfl (fun K hK => ?_) AllReadyH.nil
    go_simp
    go_at_call 15
    refine (wmay_v hd ht hv ix et kd dt y _ (by omega) HY.out).mono ?_
    rintro e kq ⟨rfl, hq⟩
    replace hx := hx.below hq
    replace ho := ho.below hq
    replace hb := hb.trans (hq.mono hb.size)
    clear hq
    refine hK.out _ _ ?_ (fun hHeld => ?_)
    · exact ⟨hx, conv_byt (Byt.of_own ho) HS.out⟩
    clear hK K
    try simp only [Act.put, List.setIfInBounds_toArray, List.set_cons_zero, List.set_cons_succ]
    refine wpAnyH_take (i := 4) (oi := { dst := some 36, op := Op.binOp BinOp.neq 4 (Operand.tmp 34) (Operand.tmp 35) 4, type := 4, pos := "law.go:47", after := #[{ on := 2, ground := Ground.data }, { on := 3, ground := Ground.data }], guard := none }) (v := .bool false) rfl (by kernel_rfl) (by kernel_rfl) (by kernel_rfl) (fun _ _ _ h => h) (Or.inl ⟨by rfl, fun w hSw => ?_⟩) (by assumption) ?_
    · (try dsimp only at hSw)
      go_simp
    try simp only [Act.put, List.setIfInBounds_toArray, List.set_cons_zero, List.set_cons_succ]
    refine wpAnyH_take (i := 5) (oi := { dst := some 37, op := Op.move (Operand.tmp 36), type := 4, pos := "law.go:47", after := #[{ on := 4, ground := Ground.data }, { on := 2, ground := Ground.chain }], guard := none }) (v := .bool false) rfl (by kernel_rfl) (by kernel_rfl) (by kernel_rfl) (fun _ _ _ h => h) (Or.inl ⟨by rfl, fun w hSw => ?_⟩) (by assumption) ?_
    · (try dsimp only at hSw)
      go_simp
    try simp only [Act.put, List.setIfInBounds_toArray, List.set_cons_zero, List.set_cons_succ]
    refine wpAnyH_take (i := 6) (oi := { dst := some 38, op := Op.move (Operand.tmp 6), type := 30, pos := "law.go:47", after := #[{ on := 5, ground := Ground.guard }], guard := some (5, false) }) (v := v5) rfl (by kernel_rfl) (by kernel_rfl) (by kernel_rfl) (fun _ _ _ h => h) (Or.inl ⟨by rfl, fun w hSw => ?_⟩) (by assumption) ?_
    · (try dsimp only at hSw)
      go_simp
    try simp only [Act.put, List.setIfInBounds_toArray, List.set_cons_zero, List.set_cons_succ]
    refine wpAnyH_take (i := 7) (oi := { dst := some 39, op := Op.convert 30 9 (Operand.tmp 38), type := 9, pos := "law.go:47", after := #[{ on := 6, ground := Ground.data }, { on := 5, ground := Ground.guard }], guard := some (5, false) }) (v := .string S) rfl (by kernel_rfl) (by kernel_rfl) (by kernel_rfl) (fun _ _ _ h => h) (Or.inl ⟨by rfl, fun w hSw => ?_⟩) (by assumption) ?_
    · (try dsimp only at hSw)
      have qc := hSw.2
      clear hSw
      go_simp
    try simp only [Act.put, List.setIfInBounds_toArray, List.set_cons_zero, List.set_cons_succ]
    refine wpAnyH_take (i := 8) (oi := { dst := some 40, op := Op.load 27 (Operand.tmp 2), type := 27, pos := "law.go:47", after := #[{ on := 5, ground := Ground.guard }], guard := some (5, false) }) (v := .agg #[.bool hd, .int .i64 ht, .int .i64 hv, .int .i64 ix, .int .i64 et, .int .i64 kd, .string dt]) rfl (by kernel_rfl) (by kernel_rfl) (by kernel_rfl) (fun _ _ _ h => h) (Or.inl ⟨by rfl, fun w hSw => ?_⟩) (by assumption) ?_
    · (try dsimp only at hSw)
      have q0 := hSw.1.cell (j := 0) rfl
      have q1 := hSw.1.cell (j := 1) rfl
      have q2 := hSw.1.cell (j := 2) rfl
      have q3 := hSw.1.cell (j := 3) rfl
      have q4 := hSw.1.cell (j := 4) rfl
      have q5 := hSw.1.cell (j := 5) rfl
      have q6 := hSw.1.cell (j := 6) rfl
      clear hSw
      go_simp
    try simp only [Act.put, List.setIfInBounds_toArray, List.set_cons_zero, List.set_cons_succ]
    refine wpAnyH_ready (rs := [9]) (by kernel_rfl) (by simp) ?_
    refine AllReadyH.cons (o := { dst := some 41, op := Op.call { callee := Callee.value (Operand.func 16), args := #[Operand.tmp 40], argTypes := #[27] }, type := 30, pos := "law.go:47", after := #[{ on := 8, ground := Ground.data }, { on := 5, ground := Ground.chain }, { on := 5, ground := Ground.guard }], guard := some (5, false) }) rfl (fun K hK => ?_) AllReadyH.nil
    go_simp
    go_at_call 16
    refine (renc_v hd ht hv ix et kd dt m _ (by omega) HM.out).mono ?_
    rintro e kq ⟨v9, rfl, ho9, hq⟩
    have m3 := conv_byt (Byt.of_own ho9) HS.out
    replace hx := hx.below hq
    replace ho := ho.below hq
    replace hb := hb.trans (hq.mono hb.size)
    clear hq ho9
    refine hK.out _ _ ?_ (fun hHeld => ?_)
    · exact ⟨hx, conv_byt (Byt.of_own ho) HS.out⟩
    clear hK K
    try simp only [Act.put, List.setIfInBounds_toArray, List.set_cons_zero, List.set_cons_succ]
    refine wpAnyH_ready (rs := [10]) (by kernel_rfl) (by simp) ?_
    refine AllReadyH.cons (o := { dst := some 42, op := Op.convert 30 9 (Operand.tmp 41), type := 9, pos := "law.go:47", after := #[{ on := 9, ground := Ground.data }, { on := 5, ground := Ground.guard }], guard := some (5, false) }) rfl (fun K hK => ?_) AllReadyH.nil
    go_simp
    clear m3
    refine hK.out _ _ ?_ (fun hHeld => ?_)
    · exact ⟨hx, conv_byt (Byt.of_own ho) HS.out⟩
    clear hK K
    try simp only [Act.put, List.setIfInBounds_toArray, List.set_cons_zero, List.set_cons_succ]
    refine wpAnyH_take (i := 11) (oi := { dst := some 43, op := Op.binOp BinOp.neq 9 (Operand.tmp 39) (Operand.tmp 42) 9, type := 4, pos := "law.go:47", after := #[{ on := 7, ground := Ground.data }, { on := 10, ground := Ground.data }, { on := 5, ground := Ground.guard }], guard := some (5, false) }) (v := .bool false) rfl (by kernel_rfl) (by kernel_rfl) (by kernel_rfl) (fun _ _ _ h => h) (Or.inl ⟨by rfl, fun w hSw => ?_⟩) (by assumption) ?_
    · (try dsimp only at hSw)
      go_simp
    try simp only [Act.put, List.setIfInBounds_toArray, List.set_cons_zero, List.set_cons_succ]
    refine wpAnyH_take (i := 12) (oi := { dst := some 44, op := Op.pick (Operand.tmp 37) (Operand.const (Value.bool true)) (Operand.tmp 43), type := 4, pos := "law.go:47", after := #[{ on := 5, ground := Ground.data }, { on := 11, ground := Ground.data }], guard := none }) (v := .bool false) rfl (by kernel_rfl) (by kernel_rfl) (by kernel_rfl) (fun _ _ _ h => h) (Or.inl ⟨by rfl, fun w hSw => ?_⟩) (by assumption) ?_
    · (try dsimp only at hSw)
      go_simp
    try simp only [Act.put, List.setIfInBounds_toArray, List.set_cons_zero, List.set_cons_succ]
    refine wpAnyH_done (by kernel_rfl) ?_ _
    refine NoPanic.normal ?_
    cases y
    · have hm0 : m = [] := by rw [← HM.out]; unfold encR10; rw [HY.out]; rfl
      subst hm0
      rcases own_nz ho rfl with rfl | ⟨g, o, c, rfl⟩
      · go_wp2_with fail
        go_ret
        exact ⟨rfl, hb⟩
      · go_wp2_with fail
        go_ret
        exact ⟨rfl, hb⟩
    · have hdec := decR10_enc HY.out []
      rw [List.append_nil, HM.out] at hdec
      go_wp2_with fail
      refine (wdec_v v5 _ m _ (Byt.of_own ho) (Nat.le_refl _) (by have := HMS.out; omega) (hTT _ hb) hd ht hv ix et kd dt m.length 0 hdec).mono ?_
      rintro e k8 ⟨rfl, h8⟩
      replace hx := hx.below h8
      replace ho := ho.below h8
      replace hb := hb.trans (h8.mono hb.size)
      clear h8 hdec
      obtain ⟨A5, c5, rfl⟩ := byt_slice (Byt.of_own ho)
      have HX := Lib.hid hx; have HB := Lib.hid hb
      clear hx hb
      go_wp2_with fail
      obtain ⟨W8, hW8⟩ : ∃ W8, k8.alloc (.cells #[.bool hd, .int .i64 ht, .int .i64 hv, .int .i64 ix, .int .i64 et, .int .i64 kd, .string dt] 32) = W8 := ⟨_, rfl⟩
      have h9 : Below k8.heap.size k8 W8 := by rw [← hW8]; exact below_new _ _
      have hz : Rt W8.drew k8.heap.size 32 [.bool hd, .int .i64 ht, .int .i64 hv, .int .i64 ix, .int .i64 et, .int .i64 kd, .string dt] := by rw [← hW8]; exact Rt.new k8 _ _
      have hx : Rt W8.drew w.heap.size 27 [.bool hd, .int .i64 ht, .int .i64 hv, .int .i64 ix, .int .i64 et, .int .i64 kd, .string dt] := HX.out.below h9.drew
      have hb : Below w.heap.size w W8.drew := (HB.out.trans (h9.mono HB.out.size)).drew
      rw [hW8]
      clear hW8 h9 HX HB ho
      refine wp_region_noPanic ?_
      refine wp_region_held_drew (S := fun W => Rt W w.heap.size 27 [.bool hd, .int .i64 ht, .int .i64 hv, .int .i64 ix, .int .i64 et, .int .i64 kd, .string dt] ∧ Rt W k8.heap.size 32 [.bool hd, .int .i64 ht, .int .i64 hv, .int .i64 ix, .int .i64 et, .int .i64 kd, .string dt]) (by kernel_rfl) ?_ (fun hHeld => ?_)
      · exact ⟨hx, hz⟩
      generalize W8.drew = k9 at *
      refine wpAnyH_take (i := 0) (oi := { dst := some 56, op := Op.move (Operand.tmp 10), type := 37, pos := "law.go:54", after := #[], guard := none }) (v := .int .i64 0) rfl (by kernel_rfl) (by kernel_rfl) (by kernel_rfl) (fun _ _ _ h => h) (Or.inl ⟨by rfl, fun w hSw => ?_⟩) (by assumption) ?_
      · (try dsimp only at hSw)
        go_simp
      try simp only [Act.put, List.setIfInBounds_toArray, List.set_cons_zero, List.set_cons_succ]
      refine wpAnyH_take (i := 1) (oi := { dst := some 57, op := Op.binOp BinOp.eql 37 (Operand.tmp 56) (Operand.const (Value.int IntKind.i64 0)) 37, type := 4, pos := "law.go:54", after := #[{ on := 0, ground := Ground.data }], guard := none }) (v := .bool true) rfl (by kernel_rfl) (by kernel_rfl) (by kernel_rfl) (fun _ _ _ h => h) (Or.inl ⟨by rfl, fun w hSw => ?_⟩) (by assumption) ?_
      · (try dsimp only at hSw)
        go_simp
      try simp only [Act.put, List.setIfInBounds_toArray, List.set_cons_zero, List.set_cons_succ]
      refine wpAnyH_take (i := 2) (oi := { dst := some 58, op := Op.move (Operand.tmp 57), type := 4, pos := "law.go:54", after := #[{ on := 1, ground := Ground.data }], guard := none }) (v := .bool true) rfl (by kernel_rfl) (by kernel_rfl) (by kernel_rfl) (fun _ _ _ h => h) (Or.inl ⟨by rfl, fun w hSw => ?_⟩) (by assumption) ?_
      · (try dsimp only at hSw)
        go_simp
      try simp only [Act.put, List.setIfInBounds_toArray, List.set_cons_zero, List.set_cons_succ]
      refine wpAnyH_take (i := 3) (oi := { dst := some 59, op := Op.move (Operand.tmp 9), type := 3, pos := "law.go:54", after := #[{ on := 2, ground := Ground.guard }], guard := some (2, true) }) (v := .int .i64 m.length) rfl (by kernel_rfl) (by kernel_rfl) (by kernel_rfl) (fun _ _ _ h => h) (Or.inl ⟨by rfl, fun w hSw => ?_⟩) (by assumption) ?_
      · (try dsimp only at hSw)
        go_simp
      try simp only [Act.put, List.setIfInBounds_toArray, List.set_cons_zero, List.set_cons_succ]
      refine wpAnyH_take (i := 4) (oi := { dst := some 60, op := Op.move (Operand.tmp 6), type := 30, pos := "law.go:54", after := #[{ on := 2, ground := Ground.guard }], guard := some (2, true) }) (v := .slice A5 m.length c5) rfl (by kernel_rfl) (by kernel_rfl) (by kernel_rfl) (fun _ _ _ h => h) (Or.inl ⟨by rfl, fun w hSw => ?_⟩) (by assumption) ?_
      · (try dsimp only at hSw)
        go_simp
      try simp only [Act.put, List.setIfInBounds_toArray, List.set_cons_zero, List.set_cons_succ]
      refine wpAnyH_take (i := 5) (oi := { dst := some 61, op := Op.call { callee := Callee.builtin Builtin.len, args := #[Operand.tmp 60], argTypes := #[30] }, type := 3, pos := "law.go:54", after := #[{ on := 4, ground := Ground.data }, { on := 2, ground := Ground.guard }], guard := some (2, true) }) (v := .int .i64 m.length) rfl (by kernel_rfl) (by kernel_rfl) (by kernel_rfl) (fun _ _ _ h => h) (Or.inl ⟨by rfl, fun w hSw => ?_⟩) (by assumption) ?_
      · (try dsimp only at hSw)
        go_simp
      try simp only [Act.put, List.setIfInBounds_toArray, List.set_cons_zero, List.set_cons_succ]
      refine wpAnyH_take (i := 6) (oi := { dst := some 62, op := Op.binOp BinOp.eql 3 (Operand.tmp 59) (Operand.tmp 61) 3, type := 4, pos := "law.go:54", after := #[{ on := 3, ground := Ground.data }, { on := 5, ground := Ground.data }, { on := 2, ground := Ground.guard }], guard := some (2, true) }) (v := .bool true) rfl (by kernel_rfl) (by kernel_rfl) (by kernel_rfl) (fun _ _ _ h => h) (Or.inl ⟨by rfl, fun w hSw => ?_⟩) (by assumption) ?_
      · (try dsimp only at hSw)
        go_simp
      try simp only [Act.put, List.setIfInBounds_toArray, List.set_cons_zero, List.set_cons_succ]
      refine wpAnyH_take (i := 7) (oi := { dst := some 63, op := Op.pick (Operand.tmp 58) (Operand.tmp 62) (Operand.const (Value.bool false)), type := 4, pos := "law.go:54", after := #[{ on := 2, ground := Ground.data }, { on := 6, ground := Ground.data }], guard := none }) (v := .bool true) rfl (by kernel_rfl) (by kernel_rfl) (by kernel_rfl) (fun _ _ _ h => h) (Or.inl ⟨by rfl, fun w hSw => ?_⟩) (by assumption) ?_
      · (try dsimp only at hSw)
        go_simp
      try simp only [Act.put, List.setIfInBounds_toArray, List.set_cons_zero, List.set_cons_succ]
      refine wpAnyH_take (i := 8) (oi := { dst := some 64, op := Op.move (Operand.tmp 63), type := 4, pos := "law.go:54", after := #[{ on := 7, ground := Ground.data }, { on := 2, ground := Ground.chain }], guard := none }) (v := .bool true) rfl (by kernel_rfl) (by kernel_rfl) (by kernel_rfl) (fun _ _ _ h => h) (Or.inl ⟨by rfl, fun w hSw => ?_⟩) (by assumption) ?_
      · (try dsimp only at hSw)
        go_simp
      try simp only [Act.put, List.setIfInBounds_toArray, List.set_cons_zero, List.set_cons_succ]
      refine wpAnyH_take (i := 9) (oi := { dst := some 65, op := Op.load 32 (Operand.tmp 8), type := 32, pos := "law.go:54", after := #[{ on := 8, ground := Ground.guard }], guard := some (8, true) }) (v := .agg #[.bool hd, .int .i64 ht, .int .i64 hv, .int .i64 ix, .int .i64 et, .int .i64 kd, .string dt]) rfl (by kernel_rfl) (by kernel_rfl) (by kernel_rfl) (fun _ _ _ h => h) (Or.inl ⟨by rfl, fun w hSw => ?_⟩) (by assumption) ?_
      · (try dsimp only at hSw)
        have q0 := hSw.2.cell (j := 0) rfl
        have q1 := hSw.2.cell (j := 1) rfl
        have q2 := hSw.2.cell (j := 2) rfl
        have q3 := hSw.2.cell (j := 3) rfl
        have q4 := hSw.2.cell (j := 4) rfl
        have q5 := hSw.2.cell (j := 5) rfl
        have q6 := hSw.2.cell (j := 6) rfl
        clear hSw
        go_simp
      try simp only [Act.put, List.setIfInBounds_toArray, List.set_cons_zero, List.set_cons_succ]
      refine wpAnyH_take (i := 11) (oi := { dst := some 67, op := Op.load 27 (Operand.tmp 2), type := 27, pos := "law.go:54", after := #[{ on := 8, ground := Ground.guard }], guard := some (8, true) }) (v := .agg #[.bool hd, .int .i64 ht, .int .i64 hv, .int .i64 ix, .int .i64 et, .int .i64 kd, .string dt]) rfl (by kernel_rfl) (by kernel_rfl) (by kernel_rfl) (fun _ _ _ h => h) (Or.inl ⟨by rfl, fun w hSw => ?_⟩) (by assumption) ?_
      · (try dsimp only at hSw)
        have q0 := hSw.1.cell (j := 0) rfl
        have q1 := hSw.1.cell (j := 1) rfl
        have q2 := hSw.1.cell (j := 2) rfl
        have q3 := hSw.1.cell (j := 3) rfl
        have q4 := hSw.1.cell (j := 4) rfl
        have q5 := hSw.1.cell (j := 5) rfl
        have q6 := hSw.1.cell (j := 6) rfl
        clear hSw
        go_simp
      try simp only [Act.put, List.setIfInBounds_toArray, List.set_cons_zero, List.set_cons_succ]
      refine wpAnyH_ready (rs := [10]) (by kernel_rfl) (by simp) ?_
      refine AllReadyH.cons (o := { dst := some 66, op := Op.call { callee := Callee.value (Operand.func 19), args := #[Operand.tmp 65], argTypes := #[32] }, type := 27, pos := "law.go:54", after := #[{ on := 9, ground := Ground.data }, { on := 8, ground := Ground.chain }, { on := 8, ground := Ground.guard }], guard := some (8, true) }) rfl (fun K hK => ?_) AllReadyH.nil
      go_simp
      go_at_call 19
      refine (back10_any hd ht hv ix et kd dt _).mono ?_
      rintro e kq ⟨rfl, hq⟩
      replace hx := hx.below hq
      replace hz := hz.below hq
      replace hb := hb.trans (hq.mono hb.size)
      clear hq
      refine hK.out _ _ ?_ (fun hHeld => ?_)
      · exact ⟨hx, hz⟩
      clear hK K
      try simp only [Act.put, List.setIfInBounds_toArray, List.set_cons_zero, List.set_cons_succ]
      refine wpAnyH_ready (rs := [12]) (by kernel_rfl) (by simp) ?_
      refine AllReadyH.cons (o := { dst := some 68, op := Op.call { callee := Callee.value (Operand.func 18), args := #[Operand.tmp 66, Operand.tmp 67], argTypes := #[27, 27] }, type := 4, pos := "law.go:54", after := #[{ on := 10, ground := Ground.data }, { on := 11, ground := Ground.data }, { on := 10, ground := Ground.chain }, { on := 8, ground := Ground.guard }], guard := some (8, true) }) rfl (fun K hK => ?_) AllReadyH.nil
      go_simp
      go_at_call 18
      refine (req10_any ⟨hd, ht, hv, ⟨ix, et, kd, dt⟩⟩ ⟨hd, ht, hv, ⟨ix, et, kd, dt⟩⟩ _).mono ?_
      rintro e kr ⟨rfl, hq⟩
      rw [eq10_self]
      replace hx := hx.below hq
      replace hz := hz.below hq
      replace hb := hb.trans (hq.mono hb.size)
      clear hq
      refine hK.out _ _ ?_ (fun hHeld => ?_)
      · exact ⟨hx, hz⟩
      clear hK K
      try simp only [Act.put, List.setIfInBounds_toArray, List.set_cons_zero, List.set_cons_succ]
      refine wpAnyH_take (i := 13) (oi := { dst := some 69, op := Op.pick (Operand.tmp 64) (Operand.tmp 68) (Operand.const (Value.bool false)), type := 4, pos := "law.go:54", after := #[{ on := 8, ground := Ground.data }, { on := 12, ground := Ground.data }], guard := none }) (v := .bool true) rfl (by kernel_rfl) (by kernel_rfl) (by kernel_rfl) (fun _ _ _ h => h) (Or.inl ⟨by rfl, fun w hSw => ?_⟩) (by assumption) ?_
      · (try dsimp only at hSw)
        go_simp
      try simp only [Act.put, List.setIfInBounds_toArray, List.set_cons_zero, List.set_cons_succ]
      refine wpAnyH_ready (rs := [14]) (by kernel_rfl) (by simp) ?_
      refine AllReadyH.cons (o := { dst := some 4, op := Op.assign (Operand.tmp 69), type := 4, pos := "law.go:54", after := #[{ on := 13, ground := Ground.data }, { on := 12, ground := Ground.chain }, { on := 0, ground := Ground.phase }, { on := 1, ground := Ground.phase }, { on := 2, ground := Ground.phase }, { on := 3, ground := Ground.phase }, { on := 4, ground := Ground.phase }, { on := 5, ground := Ground.phase }, { on := 6, ground := Ground.phase }, { on := 7, ground := Ground.phase }, { on := 8, ground := Ground.phase }, { on := 9, ground := Ground.phase }, { on := 10, ground := Ground.phase }, { on := 11, ground := Ground.phase }, { on := 12, ground := Ground.phase }, { on := 13, ground := Ground.phase }], guard := none }) rfl (fun K hK => ?_) AllReadyH.nil
      go_simp
      refine hK.out _ _ ?_ (fun hHeld => ?_)
      · exact ⟨hx, hz⟩
      clear hK K
      try simp only [Act.put, List.setIfInBounds_toArray, List.set_cons_zero, List.set_cons_succ]
      refine wpAnyH_done (by kernel_rfl) ?_ _
      refine NoPanic.normal ?_
      go_wp2_with fail
      go_ret
      exact ⟨rfl, hb⟩

set_option maxRecDepth 100000 in
theorem lifted (os : Os) (started : os.Started) (H : Type) (enc : TypeId × Value → H) :
    ReturnsInHanded {} Tryd.checked os 3 .any (fun w args => (Rows.walRecordSpec.pre enc Tryd.prog Tryd.f3 [] false w args ∧ laidMetH Tryd.prog laidS w) ∧ sizedMet enc Tryd.prog Tryd.f3 (OpenSpec.ofChange Rows.walRecordSpec) false w args) (Rows.walRecordSpec.post enc Tryd.prog Tryd.f3 false true false false) := by
  refine returnsInHanded_of_change_and (C := Tryd.checked) (X := fun w _ => laidMetH Tryd.prog laidS w) (fun _ _ _ hh h => h.of_heap hh) own started (by kernel_rfl) Tryd.func3
    (ChangeSpec.witness_at (enc := enc) (C := Tryd.checked) (os := os) (X := fun w _ => laidMetH Tryd.prog laidS w) false (laidWorld os) #[.agg #[.bool false, .int .i64 0, .int .i64 0, .int .i64 0, .int .i64 0, .int .i64 0, .string ByteArray.empty], .int .i64 0] 8 rfl (by kernel_rfl) (by kernel_rfl) (by kernel_rfl) (by kernel_rfl) (by kernel_rfl) (laid_met os _)) ?_
  intro W base args ds gs before hval0 hW hcnd _ hL _
  have hT := tbl_of_laid hL
  have hval : ∀ (j : Nat) t v, Tryd.f3.params[j]? = some t → args[j]? = some v → Value.okWide Tryd.prog W .any base t v := hval0
  have hW' := hW
  obtain ⟨p, q, hA0, hV, rfl, hfz, hnd⟩ := hW
  have hA : DataW.TrodAll enc Tryd.prog W 0 (fun _ => true) true Tryd.f3.params.toList args.toList ds p := hA0
  have hA1 := hA
  rw [Tryd.params3] at hA hval
  obtain ⟨v0, vs0, d0, ds0, p0, q0, hargs, rfl, rfl, h0, r0⟩ := trodAll_cons hA
  obtain ⟨v1, vs1, d1, ds1, p1, q1, rfl, rfl, rfl, h1, r1⟩ := trodAll_cons r0
  obtain ⟨rfl, rfl, rfl⟩ := trodAll_nil r1
  obtain rfl : args = #[v0, v1] := by cases args; simp_all
  obtain ⟨rfl, rfl⟩ := trodVars_none hV
  obtain ⟨a0, rfl, w0⟩ := open_rcd (hval 0 27 v0 rfl rfl) h0
  obtain ⟨a1, rfl, rfl, rfl, w1⟩ := open_int Tryd.underlying3 (hval 1 3 v1 rfl rfl) h1
  clear hA0 hval0
  simp only [List.append_nil] at hW'
  try simp only [List.append_nil] at hA1
  refine (walk W a0 w0 a1 w1 hT).mono fun e W' ⟨he, hg⟩ => ?_
  subst he
  exact ⟨_, rfl, law_end Tryd.laidOut (by kernel_rfl) hW' hA1 hg rfl rfl rfl (trodAll_mk1 (shut_bool Tryd.underlying4 _))⟩

theorem over : Rows.walRecordRow.holds Tryd.pinned (OpenSpec.ofChange Rows.walRecordSpec) :=
  OpenClaim.holds_of_wide 3 Tryd.f3 rfl rfl rfl rfl rfl rfl rfl ⟨rfl, rfl, rfl, rfl, rfl⟩ rfl rfl rfl rfl rfl (by kernel_rfl) Tryd.func3 (by kernel_rfl)
    (of_decide_eq_true (by kernel_rfl)) (by unfold Func.isWrapper; first | (rw [if_pos (by decide +kernel)]; kernel_rfl) | (rw [if_neg (by decide +kernel)]; exact ⟨rfl, rfl⟩))
    (fun os started H enc _ => lifted os started H enc)


/-- the statement: the card, closed by the builder's one call -/
theorem proved : Rows.WalRecordCardSaid :=
  Claim7.holds_tied_plain_at .later [] [.data] true Rows.walRecordCard.stood.harness Rows.walRecordCard.stood.looks
    over (fun _ h => by cases h) (by kernel_rfl) (fun _ h => by cases h) walRecord_row_tie rfl ⟨rfl, rfl⟩ (by kernel_rfl) rfl
    (fun f fn hf hfn => by
      obtain rfl : f = 3 := Option.some.inj ((show Tryd.prog.funcNamed "packhorse/packhorselaw10.WalRecord" = some 3 by kernel_rfl).symm.trans hf) |>.symm
      obtain rfl : fn = Tryd.f3 := (Option.some.inj (Tryd.func3.symm.trans hfn)).symm
      refine ⟨by kernel_rfl, fun j t ht => ?_⟩
      have h := List.all_eq_true.1 (show (Tryd.f3.params.toList.all fun t => !Tryd.prog.wantsStandIn t) = true by kernel_rfl) t (List.mem_of_getElem? (by simpa using ht))
      exact (show Tryd.prog.wantsStandIn t = false by simpa using h))
    (by kernel_rfl)
#print axioms proved
end Go.Proofs.YtdigpeipklfaeaaDoor.walRecord
