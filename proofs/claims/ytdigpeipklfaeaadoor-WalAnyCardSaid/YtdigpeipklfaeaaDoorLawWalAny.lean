/-
  Any bytes begin with a record, or not: the program answers what the reference does (WalAny).
  There are no conditions.
-/
import Derived.Test.YtdigpeipklfaeaaDoorRows
import Derived.Test.YtdigpeipklfaeaaDoorCards
import Derived.Test.YtdigpeipklfaeaaDoorTie
import Derived.Test.YtdigpeipklfaeaaDoorBun1
import Derived.SevenTiedAt
import Derived.Test.YtdigpeipklfaeaaDoorBun4
import Derived.WalkKit
import Derived.ProofKit
import Derived.OpenShut
import Derived.ShutString
namespace Go.Proofs.YtdigpeipklfaeaaDoor.walAny
open Go.ChangeShapes Go.WideShapes Go.ChangeAt Go.RowKit
open Go.ChangeMaps (open_string shut_string)
set_option linter.unusedVariables false

theorem own : ownKnob Tryd.prog.godebug = none := by kernel_rfl

set_option maxRecDepth 100000 in
set_option maxHeartbeats 8000000 in
theorem walk (w : World) (A0 : Option Addr) (c0 : Nat) (a0 : List UInt8) (w0 : Byt w w.heap.size (.slice A0 a0.length c0) a0) (x0 : a0.length ≤ maxLen) (hT : Tbl w) :
    Calls Tryd.prog 5 #[.slice A0 a0.length c0] w fun e w' => e = .returned (.bool true) ∧ Below w.heap.size w w' := by
  have HA0 := Lib.hid w0; have HF0 := Lib.hid x0; clear w0 x0
  have HT := Lib.hid hT; clear hT
  go_enter Tryd.func5, Tryd.ntmps5
  go_wp2_with fail
  refine (begun10_any w HT.out).mono ?_
  rintro e w1 ⟨rfl, hb1⟩
  have HT1 := Lib.hid (tbl_keep HT.out hb1)
  have HB1 := Lib.hid hb1
  clear HT hb1
  have HA := Lib.hid (HA0.out.below HB1.out (Nat.le_refl _))
  go_wp2_with fail
  refine (short_any A0 a0.length c0 w.heap.size 100 a0 w1 HA.out (by omega)).mono ?_
  rintro e w1' ⟨A2, c2, rfl, hby2, rfl⟩
  have hl2 : (a0.take 100).length ≤ 100 := by rw [List.length_take]; omega
  obtain ⟨l, hl⟩ : ∃ l, a0.take 100 = l := ⟨_, rfl⟩
  rw [hl] at hby2 hl2 ⊢
  obtain ⟨ln, hln⟩ : ∃ ln, l.length = ln := ⟨_, rfl⟩
  have HLN := Lib.hid hln
  rw [hln] at hby2 hl2 ⊢
  have HBY := Lib.hid hby2
  obtain ⟨⟨⟨hd, ht, hv, ⟨ix, et, kd, dt⟩⟩, n, er⟩, hr⟩ : ∃ r, decR10 l = r := ⟨_, rfl⟩
  have HR := Lib.hid hr
  have heq := eq10_self ⟨hd, ht, hv, ⟨ix, et, kd, dt⟩⟩
  have HEQ := Lib.hid heq
  clear hl hln hby2 hr heq HA HA0
  go_wp2_with fail
  refine (wdec_v _ _ l w1 HBY.out HB1.out.size (by rw [HLN.out]; omega) HT1.out _ _ _ _ _ _ _ _ _ HR.out).mono ?_
  rintro e w2 ⟨rfl, hb2⟩
  have HBY2 := Lib.hid (HBY.out.below hb2 HB1.out.size)
  have HB2 := Lib.hid (HB1.out.trans (hb2.mono HB1.out.size))
  have HB1s := HB1.out.size
  have hb12 := hb2.size
  clear hb2 HBY HB1
  go_wp2_with fail
  obtain ⟨W2, hW2⟩ : ∃ W2, w2.alloc (.cells #[.bool hd, .int .i64 ht, .int .i64 hv, .int .i64 ix, .int .i64 et, .int .i64 kd, .string dt] 32) = W2 := ⟨_, rfl⟩
  have h2 : Below w2.heap.size w2 W2 := by rw [← hW2]; exact below_new _ _
  have hx2 : Rt W2 w2.heap.size 32 [.bool hd, .int .i64 ht, .int .i64 hv, .int .i64 ix, .int .i64 et, .int .i64 kd, .string dt] := by rw [← hW2]; exact Rt.new w2 _ _
  have hHB2 := HB2.out.trans (h2.mono HB2.out.size)
  rw [hW2]
  refine (rdec_v _ _ l W2 (HBY2.out.below h2 (Nat.le_trans HB1s hb12)) (Nat.le_trans (Nat.le_trans HB1s hb12) h2.size) (by rw [HLN.out]; omega) _ _ _ _ _ _ _ _ _ HR.out).mono ?_
  rintro e w3 ⟨rfl, hb3⟩
  have hx3 := hx2.below hb3
  have HB3 := Lib.hid (hHB2.trans (hb3.mono hHB2.size))
  have HX3 := Lib.hid hx3
  have c0 := hx3.cell (j := 0) rfl
  have c1 := hx3.cell (j := 1) rfl
  have c2' := hx3.cell (j := 2) rfl
  have c3 := hx3.cell (j := 3) rfl
  have c4 := hx3.cell (j := 4) rfl
  have c5 := hx3.cell (j := 5) rfl
  have c6 := hx3.cell (j := 6) rfl
  have hl3 := hx3.lt
  clear hW2 h2 hx2 hHB2 hb3 hx3 HB2 HBY2
  go_wp2_with fail
  obtain ⟨W4, hW4⟩ : ∃ W4, w3.alloc (.cells #[.bool hd, .int .i64 ht, .int .i64 hv, .int .i64 ix, .int .i64 et, .int .i64 kd, .string dt] 27) = W4 := ⟨_, rfl⟩
  have h4 : Below w3.heap.size w3 W4 := by rw [← hW4]; exact below_new _ _
  have hy4 : Rt W4.drew w3.heap.size 27 [.bool hd, .int .i64 ht, .int .i64 hv, .int .i64 ix, .int .i64 et, .int .i64 kd, .string dt] := by rw [← hW4]; exact Rt.new w3 _ _
  have hx4 : Rt W4.drew w2.heap.size 32 [.bool hd, .int .i64 ht, .int .i64 hv, .int .i64 ix, .int .i64 et, .int .i64 kd, .string dt] := HX3.out.below h4.drew
  have hb4 : Below w.heap.size w W4.drew := (HB3.out.trans (h4.mono HB3.out.size)).drew
  rw [hW4]
  clear h4 hW4 HB3 HX3 c0 c1 c2' c3 c4 c5 c6
  refine wp_region_noPanic ?_
  refine wp_region_held_drew (S := fun W => Rt W w2.heap.size 32 [.bool hd, .int .i64 ht, .int .i64 hv, .int .i64 ix, .int .i64 et, .int .i64 kd, .string dt] ∧ Rt W w3.heap.size 27 [.bool hd, .int .i64 ht, .int .i64 hv, .int .i64 ix, .int .i64 et, .int .i64 kd, .string dt]) (by kernel_rfl) ?_ (fun hHeld => ?_)
  · exact ⟨hx4, hy4⟩
  generalize W4.drew = k5 at *
  refine wpAnyH_take (i := 0) (oi := { dst := some 27, op := Op.load 32 (Operand.tmp 4), type := 32, pos := "law.go:96", after := #[], guard := none }) (v := .agg #[.bool hd, .int .i64 ht, .int .i64 hv, .int .i64 ix, .int .i64 et, .int .i64 kd, .string dt]) rfl (by kernel_rfl) (by kernel_rfl) (by kernel_rfl) (fun _ _ _ h => h) (Or.inl ⟨by rfl, fun w hSw => ?_⟩) (by assumption) ?_
  · (try dsimp only at hSw)
    have q0 := hSw.1.cell (j := 0) rfl
    have q1 := hSw.1.cell (j := 1) rfl
    have q2 := hSw.1.cell (j := 2) rfl
    have q3 := hSw.1.cell (j := 3) rfl
    have q4 := hSw.1.cell (j := 4) rfl
    have q5 := hSw.1.cell (j := 5) rfl
    have q6 := hSw.1.cell (j := 6) rfl
    clear hSw
    go_simp
  try simp only [Act.put, List.setIfInBounds_toArray, List.set_cons_zero, List.set_cons_succ]
  refine wpAnyH_take (i := 2) (oi := { dst := some 29, op := Op.load 27 (Operand.tmp 7), type := 27, pos := "law.go:96", after := #[], guard := none }) (v := .agg #[.bool hd, .int .i64 ht, .int .i64 hv, .int .i64 ix, .int .i64 et, .int .i64 kd, .string dt]) rfl (by kernel_rfl) (by kernel_rfl) (by kernel_rfl) (fun _ _ _ h => h) (Or.inl ⟨by rfl, fun w hSw => ?_⟩) (by assumption) ?_
  · (try dsimp only at hSw)
    have q0 := hSw.2.cell (j := 0) rfl
    have q1 := hSw.2.cell (j := 1) rfl
    have q2 := hSw.2.cell (j := 2) rfl
    have q3 := hSw.2.cell (j := 3) rfl
    have q4 := hSw.2.cell (j := 4) rfl
    have q5 := hSw.2.cell (j := 5) rfl
    have q6 := hSw.2.cell (j := 6) rfl
    clear hSw
    go_simp
  try simp only [Act.put, List.setIfInBounds_toArray, List.set_cons_zero, List.set_cons_succ]
  refine wpAnyH_ready (rs := [1]) (by kernel_rfl) (by simp) ?_
  refine AllReadyH.cons (o := { dst := some 28, op := Op.call { callee := Callee.value (Operand.func 19), args := #[Operand.tmp 27], argTypes := #[32] }, type := 27, pos := "law.go:96", after := #[{ on := 0, ground := Ground.data }], guard := none }) rfl (fun K hK => ?_) AllReadyH.nil
  go_simp
  go_at_call 19
  refine (back10_any hd ht hv ix et kd dt _).mono ?_
  rintro e k6 ⟨rfl, h6⟩
  replace hx4 := hx4.below h6
  replace hy4 := hy4.below h6
  replace hb4 := hb4.trans (h6.mono hb4.size)
  clear h6
  refine hK.out _ _ ?_ (fun hHeld => ?_)
  · exact ⟨hx4, hy4⟩
  clear hK K
  try simp only [Act.put, List.setIfInBounds_toArray, List.set_cons_zero, List.set_cons_succ]
  refine wpAnyH_ready (rs := [3]) (by kernel_rfl) (by simp) ?_
  refine AllReadyH.cons (o := { dst := some 30, op := Op.call { callee := Callee.value (Operand.func 18), args := #[Operand.tmp 28, Operand.tmp 29], argTypes := #[27, 27] }, type := 4, pos := "law.go:96", after := #[{ on := 1, ground := Ground.data }, { on := 2, ground := Ground.data }, { on := 1, ground := Ground.chain }], guard := none }) rfl (fun K hK => ?_) AllReadyH.nil
  go_simp
  go_at_call 18
  refine (req10_any ⟨hd, ht, hv, ⟨ix, et, kd, dt⟩⟩ ⟨hd, ht, hv, ⟨ix, et, kd, dt⟩⟩ _).mono ?_
  rintro e k7 ⟨rfl, h7⟩
  rw [HEQ.out]
  replace hx4 := hx4.below h7
  replace hy4 := hy4.below h7
  replace hb4 := hb4.trans (h7.mono hb4.size)
  clear h7
  refine hK.out _ _ ?_ (fun hHeld => ?_)
  · exact ⟨hx4, hy4⟩
  clear hK K
  try simp only [Act.put, List.setIfInBounds_toArray, List.set_cons_zero, List.set_cons_succ]
  refine wpAnyH_take (i := 4) (oi := { dst := some 31, op := Op.move (Operand.tmp 30), type := 4, pos := "law.go:96", after := #[{ on := 3, ground := Ground.data }, { on := 3, ground := Ground.chain }], guard := none }) (v := .bool true) rfl (by kernel_rfl) (by kernel_rfl) (by kernel_rfl) (fun _ _ _ h => h) (Or.inl ⟨by rfl, fun w hSw => ?_⟩) (by assumption) ?_
  · (try dsimp only at hSw)
    go_simp
  try simp only [Act.put, List.setIfInBounds_toArray, List.set_cons_zero, List.set_cons_succ]
  refine wpAnyH_take (i := 5) (oi := { dst := some 32, op := Op.move (Operand.tmp 5), type := 3, pos := "law.go:96", after := #[{ on := 4, ground := Ground.guard }], guard := some (4, true) }) (v := .int .i64 n) rfl (by kernel_rfl) (by kernel_rfl) (by kernel_rfl) (fun _ _ _ h => h) (Or.inl ⟨by rfl, fun w hSw => ?_⟩) (by assumption) ?_
  · (try dsimp only at hSw)
    go_simp
  try simp only [Act.put, List.setIfInBounds_toArray, List.set_cons_zero, List.set_cons_succ]
  refine wpAnyH_take (i := 6) (oi := { dst := some 33, op := Op.move (Operand.tmp 8), type := 3, pos := "law.go:96", after := #[{ on := 4, ground := Ground.guard }], guard := some (4, true) }) (v := .int .i64 n) rfl (by kernel_rfl) (by kernel_rfl) (by kernel_rfl) (fun _ _ _ h => h) (Or.inl ⟨by rfl, fun w hSw => ?_⟩) (by assumption) ?_
  · (try dsimp only at hSw)
    go_simp
  try simp only [Act.put, List.setIfInBounds_toArray, List.set_cons_zero, List.set_cons_succ]
  refine wpAnyH_take (i := 7) (oi := { dst := some 34, op := Op.binOp BinOp.eql 3 (Operand.tmp 32) (Operand.tmp 33) 3, type := 4, pos := "law.go:96", after := #[{ on := 5, ground := Ground.data }, { on := 6, ground := Ground.data }, { on := 4, ground := Ground.guard }], guard := some (4, true) }) (v := .bool true) rfl (by kernel_rfl) (by kernel_rfl) (by kernel_rfl) (fun _ _ _ h => h) (Or.inl ⟨by rfl, fun w hSw => ?_⟩) (by assumption) ?_
  · (try dsimp only at hSw)
    go_simp
  try simp only [Act.put, List.setIfInBounds_toArray, List.set_cons_zero, List.set_cons_succ]
  refine wpAnyH_take (i := 8) (oi := { dst := some 35, op := Op.pick (Operand.tmp 31) (Operand.tmp 34) (Operand.const (Value.bool false)), type := 4, pos := "law.go:96", after := #[{ on := 4, ground := Ground.data }, { on := 7, ground := Ground.data }], guard := none }) (v := .bool true) rfl (by kernel_rfl) (by kernel_rfl) (by kernel_rfl) (fun _ _ _ h => h) (Or.inl ⟨by rfl, fun w hSw => ?_⟩) (by assumption) ?_
  · (try dsimp only at hSw)
    go_simp
  try simp only [Act.put, List.setIfInBounds_toArray, List.set_cons_zero, List.set_cons_succ]
  refine wpAnyH_take (i := 9) (oi := { dst := some 36, op := Op.move (Operand.tmp 35), type := 4, pos := "law.go:96", after := #[{ on := 8, ground := Ground.data }, { on := 4, ground := Ground.chain }], guard := none }) (v := .bool true) rfl (by kernel_rfl) (by kernel_rfl) (by kernel_rfl) (fun _ _ _ h => h) (Or.inl ⟨by rfl, fun w hSw => ?_⟩) (by assumption) ?_
  · (try dsimp only at hSw)
    go_simp
  try simp only [Act.put, List.setIfInBounds_toArray, List.set_cons_zero, List.set_cons_succ]
  refine wpAnyH_take (i := 10) (oi := { dst := some 37, op := Op.move (Operand.tmp 6), type := 37, pos := "law.go:96", after := #[{ on := 9, ground := Ground.guard }], guard := some (9, true) }) (v := .int .i64 er) rfl (by kernel_rfl) (by kernel_rfl) (by kernel_rfl) (fun _ _ _ h => h) (Or.inl ⟨by rfl, fun w hSw => ?_⟩) (by assumption) ?_
  · (try dsimp only at hSw)
    go_simp
  try simp only [Act.put, List.setIfInBounds_toArray, List.set_cons_zero, List.set_cons_succ]
  refine wpAnyH_take (i := 11) (oi := { dst := some 38, op := Op.move (Operand.tmp 9), type := 37, pos := "law.go:96", after := #[{ on := 9, ground := Ground.guard }], guard := some (9, true) }) (v := .int .i64 er) rfl (by kernel_rfl) (by kernel_rfl) (by kernel_rfl) (fun _ _ _ h => h) (Or.inl ⟨by rfl, fun w hSw => ?_⟩) (by assumption) ?_
  · (try dsimp only at hSw)
    go_simp
  try simp only [Act.put, List.setIfInBounds_toArray, List.set_cons_zero, List.set_cons_succ]
  refine wpAnyH_take (i := 12) (oi := { dst := some 39, op := Op.binOp BinOp.eql 37 (Operand.tmp 37) (Operand.tmp 38) 37, type := 4, pos := "law.go:96", after := #[{ on := 10, ground := Ground.data }, { on := 11, ground := Ground.data }, { on := 9, ground := Ground.guard }], guard := some (9, true) }) (v := .bool true) rfl (by kernel_rfl) (by kernel_rfl) (by kernel_rfl) (fun _ _ _ h => h) (Or.inl ⟨by rfl, fun w hSw => ?_⟩) (by assumption) ?_
  · (try dsimp only at hSw)
    go_simp
  try simp only [Act.put, List.setIfInBounds_toArray, List.set_cons_zero, List.set_cons_succ]
  refine wpAnyH_take (i := 13) (oi := { dst := some 40, op := Op.pick (Operand.tmp 36) (Operand.tmp 39) (Operand.const (Value.bool false)), type := 4, pos := "law.go:96", after := #[{ on := 9, ground := Ground.data }, { on := 12, ground := Ground.data }], guard := none }) (v := .bool true) rfl (by kernel_rfl) (by kernel_rfl) (by kernel_rfl) (fun _ _ _ h => h) (Or.inl ⟨by rfl, fun w hSw => ?_⟩) (by assumption) ?_
  · (try dsimp only at hSw)
    go_simp
  try simp only [Act.put, List.setIfInBounds_toArray, List.set_cons_zero, List.set_cons_succ]
  refine wpAnyH_ready (rs := [14]) (by kernel_rfl) (by simp) ?_
  refine AllReadyH.cons (o := { dst := some 2, op := Op.assign (Operand.tmp 40), type := 4, pos := "law.go:96", after := #[{ on := 13, ground := Ground.data }, { on := 9, ground := Ground.chain }, { on := 0, ground := Ground.phase }, { on := 1, ground := Ground.phase }, { on := 2, ground := Ground.phase }, { on := 3, ground := Ground.phase }, { on := 4, ground := Ground.phase }, { on := 5, ground := Ground.phase }, { on := 6, ground := Ground.phase }, { on := 7, ground := Ground.phase }, { on := 8, ground := Ground.phase }, { on := 9, ground := Ground.phase }, { on := 10, ground := Ground.phase }, { on := 11, ground := Ground.phase }, { on := 12, ground := Ground.phase }, { on := 13, ground := Ground.phase }], guard := none }) rfl (fun K hK => ?_) AllReadyH.nil
  go_simp
  refine hK.out _ _ ?_ (fun hHeld => ?_)
  · exact ⟨hx4, hy4⟩
  clear hK K
  try simp only [Act.put, List.setIfInBounds_toArray, List.set_cons_zero, List.set_cons_succ]
  refine wpAnyH_done (by kernel_rfl) ?_ _
  refine NoPanic.normal ?_
  go_wp2
  go_ret
  exact ⟨rfl, hb4⟩

set_option maxRecDepth 100000 in
theorem lifted (os : Os) (started : os.Started) (H : Type) (enc : TypeId × Value → H) :
    ReturnsInHanded {} Tryd.checked os 5 .any (fun w args => (Rows.walAnySpec.pre enc Tryd.prog Tryd.f5 [] false w args ∧ laidMetH Tryd.prog laidS w) ∧ sizedMet enc Tryd.prog Tryd.f5 (OpenSpec.ofChange Rows.walAnySpec) false w args) (Rows.walAnySpec.post enc Tryd.prog Tryd.f5 false true false false) := by
  refine returnsInHanded_of_change_and (C := Tryd.checked) (X := fun w _ => laidMetH Tryd.prog laidS w) (fun _ _ _ hh h => h.of_heap hh) own started (by kernel_rfl) Tryd.func5
    (ChangeSpec.witness_at (enc := enc) (C := Tryd.checked) (os := os) (X := fun w _ => laidMetH Tryd.prog laidS w) false (laidWorld os) #[.slice none 0 0] 8 rfl (by kernel_rfl) (by kernel_rfl) (by kernel_rfl) (by kernel_rfl) (by kernel_rfl) (laid_met os _)) ?_
  intro W base args ds gs before hval0 hW hcnd _ hL _
  have hT := tbl_of_laid hL
  have hval : ∀ (j : Nat) t v, Tryd.f5.params[j]? = some t → args[j]? = some v → Value.okWide Tryd.prog W .any base t v := hval0
  have hW' := hW
  obtain ⟨p, q, hA0, hV, rfl, hfz, hnd⟩ := hW
  have hA : DataW.TrodAll enc Tryd.prog W 0 (fun _ => true) true Tryd.f5.params.toList args.toList ds p := hA0
  have hA1 := hA
  rw [Tryd.params5] at hA hval
  obtain ⟨v0, vs0, d0, ds0, p0, q0, hargs, rfl, rfl, h0, r0⟩ := trodAll_cons hA
  obtain ⟨rfl, rfl, rfl⟩ := trodAll_nil r0
  obtain rfl : args = #[v0] := by cases args; simp_all
  obtain ⟨rfl, rfl⟩ := trodVars_none hV
  obtain ⟨A0, c0, a0, rfl, w0, x0⟩ := open_bytes (hval 0 30 v0 rfl rfl) h0
  clear hA0 hval0
  simp only [List.append_nil] at hW'
  try simp only [List.append_nil] at hA1
  refine (walk W A0 c0 a0 w0 x0 hT).mono fun e W' ⟨he, hg⟩ => ?_
  subst he
  exact ⟨_, rfl, law_end Tryd.laidOut (by kernel_rfl) hW' hA1 hg rfl rfl rfl (trodAll_mk1 (shut_bool Tryd.underlying4 _))⟩

theorem over : Rows.walAnyRow.holds Tryd.pinned (OpenSpec.ofChange Rows.walAnySpec) :=
  OpenClaim.holds_of_wide 5 Tryd.f5 rfl rfl rfl rfl rfl rfl rfl ⟨rfl, rfl, rfl, rfl, rfl⟩ rfl rfl rfl rfl rfl (by kernel_rfl) Tryd.func5 (by kernel_rfl)
    (of_decide_eq_true (by kernel_rfl)) (by unfold Func.isWrapper; first | (rw [if_pos (by decide +kernel)]; kernel_rfl) | (rw [if_neg (by decide +kernel)]; exact ⟨rfl, rfl⟩))
    (fun os started H enc _ => lifted os started H enc)


/-- the statement: the card, closed by the builder's one call -/
theorem proved : Rows.WalAnyCardSaid :=
  Claim7.holds_tied_plain_at .later [] [.data] true Rows.walAnyCard.stood.harness Rows.walAnyCard.stood.looks
    over (fun _ h => by cases h) (by kernel_rfl) (fun _ h => by cases h) walAny_row_tie rfl ⟨rfl, rfl⟩ (by kernel_rfl) rfl
    (fun f fn hf hfn => by
      obtain rfl : f = 5 := Option.some.inj ((show Tryd.prog.funcNamed "packhorse/packhorselaw10.WalAny" = some 5 by kernel_rfl).symm.trans hf) |>.symm
      obtain rfl : fn = Tryd.f5 := (Option.some.inj (Tryd.func5.symm.trans hfn)).symm
      refine ⟨by kernel_rfl, fun j t ht => ?_⟩
      have h := List.all_eq_true.1 (show (Tryd.f5.params.toList.all fun t => !Tryd.prog.wantsStandIn t) = true by kernel_rfl) t (List.mem_of_getElem? (by simpa using ht))
      exact (show Tryd.prog.wantsStandIn t = false by simpa using h))
    (by kernel_rfl)
#print axioms proved
end Go.Proofs.YtdigpeipklfaeaaDoor.walAny
