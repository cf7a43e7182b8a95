/-
  What a kind does not need is zero, or it may not be. There are no conditions.
-/
import Derived.Test.YtdhppekfehbngaaRows
import Derived.Test.YtdhppekfehbngaaL5Begun
import Derived.Test.YtdhppekfehbngaaL5CutBatch
import Derived.Test.YtdhppekfehbngaaL5Open
import Derived.Test.YtdhppekfehbngaaLawKit
import Derived.WalkKit
import Derived.ProofKit
import Derived.OpenShut
import Derived.ShutString
set_option linter.unusedSimpArgs false
set_option linter.unusedVariables false
namespace Go.Proofs.Ytdhppekfehbngaa.opNeeds
open Go.ChangeShapes Go.WideShapes Go.ChangeAt Go.RowKit
open Go.ChangeMaps (open_string shut_string)
set_option linter.unusedVariables false

theorem own : ownKnob Try.prog.godebug = none := by kernel_rfl

set_option maxRecDepth 100000 in
set_option maxHeartbeats 8000000 in
theorem walk (w : World) (a0 : Int) (w0 : (Lit.int .i64 a0).wf = true) (a1 : ByteArray) (w1 : a1.size ≤ maxLen) (a2 : Int) (w2 : (Lit.int .i64 a2).wf = true) :
    Calls Try.prog 9 #[.int .i64 a0, .string a1, .int .i64 a2] w fun e w' => e = .returned (.bool true) ∧ Below w.heap.size w w' := by
  have hb := Below.refl w.heap.size w
  go_enter Try.func9, Try.ntmps9
  go_wp2_with fail
  refine (begun5_any _).mono ?_
  rintro e k1 ⟨rfl, h⟩
  have hk : Below w.heap.size w k1 := by
    refine Below.trans ?_ (h.mono (by first | (simp; done) | (simp; omega) | omega))
    repeat' (first | with_reducible exact Below.refl _ _ | (with_reducible refine Below.alloc ?_ ?_ _) | (with_reducible refine Below.setCell ?_ ?_ _) | exact (by first | (simp; done) | (simp; omega) | omega))
  have hz := h.size
  try simp at hz
  replace hb : Below w.heap.size w k1 := hb.trans (hk.mono hb.size)
  clear h hk
  by_cases hsz : (60 : Int) < (a1.size : Int)
  · obtain ⟨KY, hKY⟩ : ∃ KY, a1.extract 0 60 = KY := ⟨_, rfl⟩
    have hKs : KY.size ≤ 60 := by rw [← hKY, ByteArray.size_extract]; omega
    go_wp2
    try rw [hKY]
    try simp only [hKY]
    refine wp_world (fun W => W.cell? ⟨k1.heap.size, 0, none⟩ = some (.int .i64 1) ∧ W.cell? ⟨k1.heap.size + 1, 0, none⟩ = some (.int .i64 a0) ∧ W.cell? ⟨k1.heap.size + 1, 1, none⟩ = some (.string KY) ∧ W.cell? ⟨k1.heap.size + 1, 2, none⟩ = some (.int .i64 0) ∧ W.cell? ⟨k1.heap.size + 1, 3, none⟩ = some (.int .i64 0) ∧ W.cell? ⟨k1.heap.size + 1, 4, none⟩ = some (.string ⟨#[]⟩) ∧ W.cell? ⟨k1.heap.size + 1, 5, none⟩ = some (.int .i64 0) ∧ W.cell? ⟨k1.heap.size + 1, 6, none⟩ = some (.int .i64 0) ∧ W.cell? ⟨k1.heap.size + 1, 7, none⟩ = some (.string ⟨#[]⟩) ∧ W.cell? ⟨k1.heap.size + 1, 8, none⟩ = some (.int .i64 0) ∧ W.cell? ⟨k1.heap.size + 1, 9, none⟩ = some (.int .i64 a0) ∧ W.cell? ⟨k1.heap.size + 1, 10, none⟩ = some (.string KY) ∧ W.cell? ⟨k1.heap.size + 1, 11, none⟩ = some (.int .i64 1) ∧ W.cell? ⟨k1.heap.size + 1, 12, none⟩ = some (.int .i64 1) ∧ W.cell? ⟨k1.heap.size + 1, 13, none⟩ = some (.string ⟨#[]⟩) ∧ W.cell? ⟨k1.heap.size + 1, 14, none⟩ = some (.int .i64 0) ∧ W.cell? ⟨k1.heap.size + 1, 15, none⟩ = some (.int .i64 0) ∧ W.cell? ⟨k1.heap.size + 1, 16, none⟩ = some (.string ⟨#[]⟩) ∧ W.cell? ⟨k1.heap.size + 1, 17, none⟩ = some (.int .i64 0) ∧ W.cell? ⟨k1.heap.size + 1, 18, none⟩ = some (.int .i64 a0) ∧ W.cell? ⟨k1.heap.size + 1, 19, none⟩ = some (.string KY) ∧ W.cell? ⟨k1.heap.size + 1, 20, none⟩ = some (.int .i64 0) ∧ W.cell? ⟨k1.heap.size + 1, 21, none⟩ = some (.int .i64 0) ∧ W.cell? ⟨k1.heap.size + 1, 22, none⟩ = some (.string ⟨#[]⟩) ∧ W.cell? ⟨k1.heap.size + 1, 23, none⟩ = some (.int .i64 1) ∧ W.cell? ⟨k1.heap.size + 1, 24, none⟩ = some (.int .i64 1) ∧ W.cell? ⟨k1.heap.size + 1, 25, none⟩ = some (.string ⟨#[]⟩) ∧ W.cell? ⟨k1.heap.size + 1, 26, none⟩ = some (.int .i64 0) ∧ W.cell? ⟨k1.heap.size + 1, 27, none⟩ = some (.int .i64 a0) ∧ W.cell? ⟨k1.heap.size + 1, 28, none⟩ = some (.string KY) ∧ W.cell? ⟨k1.heap.size + 1, 29, none⟩ = some (.int .i64 0) ∧ W.cell? ⟨k1.heap.size + 1, 30, none⟩ = some (.int .i64 0) ∧ W.cell? ⟨k1.heap.size + 1, 31, none⟩ = some (.string ⟨#[]⟩) ∧ W.cell? ⟨k1.heap.size + 1, 32, none⟩ = some (.int .i64 0) ∧ W.cell? ⟨k1.heap.size + 1, 33, none⟩ = some (.int .i64 0) ∧ W.cell? ⟨k1.heap.size + 1, 34, none⟩ = some (.string ⟨#[]⟩) ∧ W.cell? ⟨k1.heap.size + 1, 35, none⟩ = some (.int .i64 a2) ∧ W.cell? ⟨k1.heap.size + 1, 36, none⟩ = some (.int .i64 a0) ∧ W.cell? ⟨k1.heap.size + 1, 37, none⟩ = some (.string KY) ∧ W.cell? ⟨k1.heap.size + 1, 38, none⟩ = some (.int .i64 1) ∧ W.cell? ⟨k1.heap.size + 1, 39, none⟩ = some (.int .i64 1) ∧ W.cell? ⟨k1.heap.size + 1, 40, none⟩ = some (.string ⟨#[]⟩) ∧ W.cell? ⟨k1.heap.size + 1, 41, none⟩ = some (.int .i64 1) ∧ W.cell? ⟨k1.heap.size + 1, 42, none⟩ = some (.int .i64 1) ∧ W.cell? ⟨k1.heap.size + 1, 43, none⟩ = some (.string ⟨#[]⟩) ∧ W.cell? ⟨k1.heap.size + 1, 44, none⟩ = some (.int .i64 0) ∧ W.cell? ⟨k1.heap.size + 1, 45, none⟩ = some (.int .i64 a0) ∧ W.cell? ⟨k1.heap.size + 1, 46, none⟩ = some (.string KY) ∧ W.cell? ⟨k1.heap.size + 1, 47, none⟩ = some (.int .i64 1) ∧ W.cell? ⟨k1.heap.size + 1, 48, none⟩ = some (.int .i64 1) ∧ W.cell? ⟨k1.heap.size + 1, 49, none⟩ = some (.string ⟨#[]⟩) ∧ W.cell? ⟨k1.heap.size + 1, 50, none⟩ = some (.int .i64 0) ∧ W.cell? ⟨k1.heap.size + 1, 51, none⟩ = some (.int .i64 0) ∧ W.cell? ⟨k1.heap.size + 1, 52, none⟩ = some (.string ⟨#[]⟩) ∧ W.cell? ⟨k1.heap.size + 1, 53, none⟩ = some (.int .i64 a2) ∧ Below (k1.heap.size) k1 W ∧ k1.heap.size + 2 ≤ W.heap.size) ⟨(by go_simp), (by go_simp), (by go_simp), (by go_simp), (by go_simp), (by go_simp), (by go_simp), (by go_simp), (by go_simp), (by go_simp), (by go_simp), (by go_simp), (by go_simp), (by go_simp), (by go_simp), (by go_simp), (by go_simp), (by go_simp), (by go_simp), (by go_simp), (by go_simp), (by go_simp), (by go_simp), (by go_simp), (by go_simp), (by go_simp), (by go_simp), (by go_simp), (by go_simp), (by go_simp), (by go_simp), (by go_simp), (by go_simp), (by go_simp), (by go_simp), (by go_simp), (by go_simp), (by go_simp), (by go_simp), (by go_simp), (by go_simp), (by go_simp), (by go_simp), (by go_simp), (by go_simp), (by go_simp), (by go_simp), (by go_simp), (by go_simp), (by go_simp), (by go_simp), (by go_simp), (by go_simp), (by go_simp), (by go_simp), (by
        repeat' (first | with_reducible exact Below.refl _ _ | (with_reducible refine Below.alloc ?_ ?_ _) | (with_reducible refine Below.setCell ?_ ?_ _) | exact (by first | (simp; done) | (simp; omega) | omega))), (by first | (simp; done) | (simp; omega) | omega)⟩ ?_
    rintro k2 ⟨u0, g0, g1, g2, g3, g4, g5, g6, g7, g8, g9, g10, g11, g12, g13, g14, g15, g16, g17, g18, g19, g20, g21, g22, g23, g24, g25, g26, g27, g28, g29, g30, g31, g32, g33, g34, g35, g36, g37, g38, g39, g40, g41, g42, g43, g44, g45, g46, g47, g48, g49, g50, g51, g52, g53, hk, hz⟩
    replace hb : Below w.heap.size w k2 := hb.trans (hk.mono (by first | exact hb.size | omega | (simp; omega)))
    have lt0 : k1.heap.size < k2.heap.size := (by first | (simp; done) | (simp; omega) | omega)
    have lt1 : k1.heap.size + 1 < k2.heap.size := (by first | (simp; done) | (simp; omega) | omega)
    clear hk
    go_loopw [10] (fun i wr => ∃ k : Nat, i = .int .i64 k ∧ k ≤ 6 ∧ Below k2.heap.size k2 wr) (fun i _ => 6 - (intOf i).toNat)
    case atStart => exact ⟨0, rfl, by decide, Below.refl _ _⟩
    case round =>
      obtain ⟨k, rfl, hk, hkw⟩ := hrel
      have hb0 := hb
      have hb : Below w.heap.size w wr := hb0.trans (hkw.mono hb0.size)
      have hzw := hkw.size
      have h7 : k = 0 ∨ k = 1 ∨ k = 2 ∨ k = 3 ∨ k = 4 ∨ k = 5 ∨ k = 6 := by omega
      rcases h7 with rfl | rfl | rfl | rfl | rfl | rfl | rfl
      · have g0 := (hkw.cell (p := ⟨k1.heap.size + 1, 0, none⟩) (by first | (simp; done) | (simp; omega) | omega)).trans g0
        have g1 := (hkw.cell (p := ⟨k1.heap.size + 1, 1, none⟩) (by first | (simp; done) | (simp; omega) | omega)).trans g1
        have g2 := (hkw.cell (p := ⟨k1.heap.size + 1, 2, none⟩) (by first | (simp; done) | (simp; omega) | omega)).trans g2
        have g3 := (hkw.cell (p := ⟨k1.heap.size + 1, 3, none⟩) (by first | (simp; done) | (simp; omega) | omega)).trans g3
        have g4 := (hkw.cell (p := ⟨k1.heap.size + 1, 4, none⟩) (by first | (simp; done) | (simp; omega) | omega)).trans g4
        have g5 := (hkw.cell (p := ⟨k1.heap.size + 1, 5, none⟩) (by first | (simp; done) | (simp; omega) | omega)).trans g5
        have g6 := (hkw.cell (p := ⟨k1.heap.size + 1, 6, none⟩) (by first | (simp; done) | (simp; omega) | omega)).trans g6
        have g7 := (hkw.cell (p := ⟨k1.heap.size + 1, 7, none⟩) (by first | (simp; done) | (simp; omega) | omega)).trans g7
        have g8 := (hkw.cell (p := ⟨k1.heap.size + 1, 8, none⟩) (by first | (simp; done) | (simp; omega) | omega)).trans g8
        have lt0 : k1.heap.size + 1 < wr.heap.size := (by first | (simp; done) | (simp; omega) | omega)
        obtain ⟨x, hx⟩ : ∃ x, mayO ⟨a0, KY, ⟨0, 0, ⟨#[]⟩⟩, ⟨0, 0, ⟨#[]⟩⟩, 0⟩ = x := ⟨_, rfl⟩
        have HX := Lib.hid hx; clear hx
        have hkr : Below k2.heap.size k2 wr := hkw
        have HKR := Lib.hid hkr; clear hkr
        go_wp2
        replace g0 : wr.drew.cell? ⟨k1.heap.size + 1, 0, none⟩ = some (.int .i64 a0) := g0
        replace g1 : wr.drew.cell? ⟨k1.heap.size + 1, 1, none⟩ = some (.string KY) := g1
        replace g2 : wr.drew.cell? ⟨k1.heap.size + 1, 2, none⟩ = some (.int .i64 0) := g2
        replace g3 : wr.drew.cell? ⟨k1.heap.size + 1, 3, none⟩ = some (.int .i64 0) := g3
        replace g4 : wr.drew.cell? ⟨k1.heap.size + 1, 4, none⟩ = some (.string ⟨#[]⟩) := g4
        replace g5 : wr.drew.cell? ⟨k1.heap.size + 1, 5, none⟩ = some (.int .i64 0) := g5
        replace g6 : wr.drew.cell? ⟨k1.heap.size + 1, 6, none⟩ = some (.int .i64 0) := g6
        replace g7 : wr.drew.cell? ⟨k1.heap.size + 1, 7, none⟩ = some (.string ⟨#[]⟩) := g7
        replace g8 : wr.drew.cell? ⟨k1.heap.size + 1, 8, none⟩ = some (.int .i64 0) := g8
        replace HKR := Lib.hid (Below.trans HKR.out (Below.mono ((Below.refl wr.heap.size wr).drew) (by omega)))
        refine wp_region_noPanic ?_
        refine wp_region_held_drew (S := fun W => W.cell? ⟨k1.heap.size + 1, 0, none⟩ = some (.int .i64 a0) ∧ W.cell? ⟨k1.heap.size + 1, 1, none⟩ = some (.string KY) ∧ W.cell? ⟨k1.heap.size + 1, 2, none⟩ = some (.int .i64 0) ∧ W.cell? ⟨k1.heap.size + 1, 3, none⟩ = some (.int .i64 0) ∧ W.cell? ⟨k1.heap.size + 1, 4, none⟩ = some (.string ⟨#[]⟩) ∧ W.cell? ⟨k1.heap.size + 1, 5, none⟩ = some (.int .i64 0) ∧ W.cell? ⟨k1.heap.size + 1, 6, none⟩ = some (.int .i64 0) ∧ W.cell? ⟨k1.heap.size + 1, 7, none⟩ = some (.string ⟨#[]⟩) ∧ W.cell? ⟨k1.heap.size + 1, 8, none⟩ = some (.int .i64 0)) (by kernel_rfl) ?_ (fun hHeld => ?_)
        · exact ⟨g0, g1, g2, g3, g4, g5, g6, g7, g8⟩
        replace hb : Below w.heap.size w wr.drew := hb.drew
        replace lt0 : k1.heap.size + 1 < wr.drew.heap.size := lt0
        have hzd : wr.heap.size ≤ wr.drew.heap.size := Nat.le_refl _
        generalize wr.drew = k31 at *
        refine wpAnyH_take (i := 0) (oi := { dst := some 52, op := Op.move (Operand.tmp 9), type := 27, pos := "wide.go:53", after := #[], guard := none }) (v := .slice (some ⟨k1.heap.size + 1, 0, none⟩) 6 6) rfl (by kernel_rfl) (by kernel_rfl) (by kernel_rfl) (fun _ _ _ h => h) (Or.inl ⟨by rfl, fun w hSw => ?_⟩) (by assumption) ?_
        · (try dsimp only at hSw)
          go_simp
        try simp only [Act.put, List.setIfInBounds_toArray, List.set_cons_zero, List.set_cons_succ]
        refine wpAnyH_take (i := 1) (oi := { dst := some 53, op := Op.move (Operand.tmp 10), type := 3, pos := "wide.go:53", after := #[], guard := none }) (v := .int .i64 0) rfl (by kernel_rfl) (by kernel_rfl) (by kernel_rfl) (fun _ _ _ h => h) (Or.inl ⟨by rfl, fun w hSw => ?_⟩) (by assumption) ?_
        · (try dsimp only at hSw)
          go_simp
        try simp only [Act.put, List.setIfInBounds_toArray, List.set_cons_zero, List.set_cons_succ]
        refine wpAnyH_take (i := 2) (oi := { dst := some 54, op := Op.indexAddr 27 (Operand.tmp 52) (Operand.tmp 53), type := 0, pos := "wide.go:53", after := #[{ on := 0, ground := Ground.data }, { on := 1, ground := Ground.data }], guard := none }) (v := .pointer (some ⟨k1.heap.size + 1, 0, none⟩)) rfl (by kernel_rfl) (by kernel_rfl) (by kernel_rfl) (fun _ _ _ h => h) (Or.inl ⟨by rfl, fun w hSw => ?_⟩) (by assumption) ?_
        · (try dsimp only at hSw)
          go_simp
        try simp only [Act.put, List.setIfInBounds_toArray, List.set_cons_zero, List.set_cons_succ]
        refine wpAnyH_take (i := 3) (oi := { dst := some 55, op := Op.load 25 (Operand.tmp 54), type := 25, pos := "wide.go:53", after := #[{ on := 2, ground := Ground.data }], guard := none }) (v := .agg #[.int .i64 a0, .string KY, .int .i64 0, .int .i64 0, .string ⟨#[]⟩, .int .i64 0, .int .i64 0, .string ⟨#[]⟩, .int .i64 0]) rfl (by kernel_rfl) (by kernel_rfl) (by kernel_rfl) (fun _ _ _ h => h) (Or.inl ⟨by rfl, fun w hSw => ?_⟩) (by assumption) ?_
        · (try dsimp only at hSw)
          go_simp
        try simp only [Act.put, List.setIfInBounds_toArray, List.set_cons_zero, List.set_cons_succ]
        refine wpAnyH_take (i := 5) (oi := { dst := some 57, op := Op.move (Operand.tmp 9), type := 27, pos := "wide.go:53", after := #[], guard := none }) (v := .slice (some ⟨k1.heap.size + 1, 0, none⟩) 6 6) rfl (by kernel_rfl) (by kernel_rfl) (by kernel_rfl) (fun _ _ _ h => h) (Or.inl ⟨by rfl, fun w hSw => ?_⟩) (by assumption) ?_
        · (try dsimp only at hSw)
          go_simp
        try simp only [Act.put, List.setIfInBounds_toArray, List.set_cons_zero, List.set_cons_succ]
        refine wpAnyH_take (i := 6) (oi := { dst := some 58, op := Op.move (Operand.tmp 10), type := 3, pos := "wide.go:53", after := #[], guard := none }) (v := .int .i64 0) rfl (by kernel_rfl) (by kernel_rfl) (by kernel_rfl) (fun _ _ _ h => h) (Or.inl ⟨by rfl, fun w hSw => ?_⟩) (by assumption) ?_
        · (try dsimp only at hSw)
          go_simp
        try simp only [Act.put, List.setIfInBounds_toArray, List.set_cons_zero, List.set_cons_succ]
        refine wpAnyH_take (i := 7) (oi := { dst := some 59, op := Op.indexAddr 27 (Operand.tmp 57) (Operand.tmp 58), type := 0, pos := "wide.go:53", after := #[{ on := 5, ground := Ground.data }, { on := 6, ground := Ground.data }], guard := none }) (v := .pointer (some ⟨k1.heap.size + 1, 0, none⟩)) rfl (by kernel_rfl) (by kernel_rfl) (by kernel_rfl) (fun _ _ _ h => h) (Or.inl ⟨by rfl, fun w hSw => ?_⟩) (by assumption) ?_
        · (try dsimp only at hSw)
          go_simp
        try simp only [Act.put, List.setIfInBounds_toArray, List.set_cons_zero, List.set_cons_succ]
        refine wpAnyH_take (i := 8) (oi := { dst := some 60, op := Op.load 25 (Operand.tmp 59), type := 25, pos := "wide.go:53", after := #[{ on := 7, ground := Ground.data }], guard := none }) (v := .agg #[.int .i64 a0, .string KY, .int .i64 0, .int .i64 0, .string ⟨#[]⟩, .int .i64 0, .int .i64 0, .string ⟨#[]⟩, .int .i64 0]) rfl (by kernel_rfl) (by kernel_rfl) (by kernel_rfl) (fun _ _ _ h => h) (Or.inl ⟨by rfl, fun w hSw => ?_⟩) (by assumption) ?_
        · (try dsimp only at hSw)
          go_simp
        try simp only [Act.put, List.setIfInBounds_toArray, List.set_cons_zero, List.set_cons_succ]
        refine wpAnyH_ready (rs := [4]) (by kernel_rfl) (by simp) ?_
        refine AllReadyH.cons (o := { dst := some 56, op := Op.call { callee := Callee.value (Operand.func 12), args := #[Operand.tmp 55], argTypes := #[25] }, type := 4, pos := "wide.go:53", after := #[{ on := 3, ground := Ground.data }], guard := none }) rfl (fun K hK => ?_) (AllReadyH.nil)
        go_simp
        go_at_call 12
        refine (omay_is _ ⟨a0, KY, ⟨0, 0, ⟨#[]⟩⟩, ⟨0, 0, ⟨#[]⟩⟩, 0⟩ x _ rfl ⟨Nat.le_trans hKs (by decide), Nat.zero_le _, Nat.zero_le _⟩ HX.out).mono ?_
        rintro e k32 ⟨rfl, h⟩
        have hk : Below k31.heap.size k31 k32 := by
          refine Below.trans ?_ (h.mono (by first | (simp; done) | (simp; omega) | omega))
          repeat' (first | with_reducible exact Below.refl _ _ | (with_reducible refine Below.alloc ?_ ?_ _) | (with_reducible refine Below.setCell ?_ ?_ _) | exact (by first | (simp; done) | (simp; omega) | omega))
        have hz := h.size
        try simp at hz
        replace g0 : k32.cell? ⟨k1.heap.size + 1, 0, none⟩ = some (.int .i64 a0) := (hk.cell (p := ⟨k1.heap.size + 1, 0, none⟩) (by first | (simp; done) | (simp; omega) | omega)).trans g0
        replace g1 : k32.cell? ⟨k1.heap.size + 1, 1, none⟩ = some (.string KY) := (hk.cell (p := ⟨k1.heap.size + 1, 1, none⟩) (by first | (simp; done) | (simp; omega) | omega)).trans g1
        replace g2 : k32.cell? ⟨k1.heap.size + 1, 2, none⟩ = some (.int .i64 0) := (hk.cell (p := ⟨k1.heap.size + 1, 2, none⟩) (by first | (simp; done) | (simp; omega) | omega)).trans g2
        replace g3 : k32.cell? ⟨k1.heap.size + 1, 3, none⟩ = some (.int .i64 0) := (hk.cell (p := ⟨k1.heap.size + 1, 3, none⟩) (by first | (simp; done) | (simp; omega) | omega)).trans g3
        replace g4 : k32.cell? ⟨k1.heap.size + 1, 4, none⟩ = some (.string ⟨#[]⟩) := (hk.cell (p := ⟨k1.heap.size + 1, 4, none⟩) (by first | (simp; done) | (simp; omega) | omega)).trans g4
        replace g5 : k32.cell? ⟨k1.heap.size + 1, 5, none⟩ = some (.int .i64 0) := (hk.cell (p := ⟨k1.heap.size + 1, 5, none⟩) (by first | (simp; done) | (simp; omega) | omega)).trans g5
        replace g6 : k32.cell? ⟨k1.heap.size + 1, 6, none⟩ = some (.int .i64 0) := (hk.cell (p := ⟨k1.heap.size + 1, 6, none⟩) (by first | (simp; done) | (simp; omega) | omega)).trans g6
        replace g7 : k32.cell? ⟨k1.heap.size + 1, 7, none⟩ = some (.string ⟨#[]⟩) := (hk.cell (p := ⟨k1.heap.size + 1, 7, none⟩) (by first | (simp; done) | (simp; omega) | omega)).trans g7
        replace g8 : k32.cell? ⟨k1.heap.size + 1, 8, none⟩ = some (.int .i64 0) := (hk.cell (p := ⟨k1.heap.size + 1, 8, none⟩) (by first | (simp; done) | (simp; omega) | omega)).trans g8
        replace HKR := Lib.hid (Below.trans HKR.out (Below.mono hk (by omega)))
        replace hb : Below w.heap.size w k32 := hb.trans (hk.mono hb.size)
        have lt0 : k1.heap.size + 1 < k32.heap.size := (by first | (simp; done) | (simp; omega) | omega)
        clear h hk
        try dsimp only
        refine hK.out _ _ ?_ (fun hHeld => ?_)
        · exact ⟨g0, g1, g2, g3, g4, g5, g6, g7, g8⟩
        clear hK K
        try simp only [Act.put, List.setIfInBounds_toArray, List.set_cons_zero, List.set_cons_succ]
        refine wpAnyH_ready (rs := [9]) (by kernel_rfl) (by simp) ?_
        refine AllReadyH.cons (o := { dst := some 61, op := Op.call { callee := Callee.value (Operand.func 13), args := #[Operand.tmp 60], argTypes := #[25] }, type := 4, pos := "wide.go:53", after := #[{ on := 8, ground := Ground.data }, { on := 4, ground := Ground.chain }], guard := none }) rfl (fun K hK => ?_) (AllReadyH.nil)
        go_simp
        go_at_call 13
        refine (rmayOp_is _ ⟨a0, KY, ⟨0, 0, ⟨#[]⟩⟩, ⟨0, 0, ⟨#[]⟩⟩, 0⟩ x _ rfl ⟨Nat.le_trans hKs (by decide), Nat.zero_le _, Nat.zero_le _⟩ HX.out).mono ?_
        rintro e k33 ⟨rfl, h⟩
        have hk : Below k32.heap.size k32 k33 := by
          refine Below.trans ?_ (h.mono (by first | (simp; done) | (simp; omega) | omega))
          repeat' (first | with_reducible exact Below.refl _ _ | (with_reducible refine Below.alloc ?_ ?_ _) | (with_reducible refine Below.setCell ?_ ?_ _) | exact (by first | (simp; done) | (simp; omega) | omega))
        have hz := h.size
        try simp at hz
        replace g0 : k33.cell? ⟨k1.heap.size + 1, 0, none⟩ = some (.int .i64 a0) := (hk.cell (p := ⟨k1.heap.size + 1, 0, none⟩) (by first | (simp; done) | (simp; omega) | omega)).trans g0
        replace g1 : k33.cell? ⟨k1.heap.size + 1, 1, none⟩ = some (.string KY) := (hk.cell (p := ⟨k1.heap.size + 1, 1, none⟩) (by first | (simp; done) | (simp; omega) | omega)).trans g1
        replace g2 : k33.cell? ⟨k1.heap.size + 1, 2, none⟩ = some (.int .i64 0) := (hk.cell (p := ⟨k1.heap.size + 1, 2, none⟩) (by first | (simp; done) | (simp; omega) | omega)).trans g2
        replace g3 : k33.cell? ⟨k1.heap.size + 1, 3, none⟩ = some (.int .i64 0) := (hk.cell (p := ⟨k1.heap.size + 1, 3, none⟩) (by first | (simp; done) | (simp; omega) | omega)).trans g3
        replace g4 : k33.cell? ⟨k1.heap.size + 1, 4, none⟩ = some (.string ⟨#[]⟩) := (hk.cell (p := ⟨k1.heap.size + 1, 4, none⟩) (by first | (simp; done) | (simp; omega) | omega)).trans g4
        replace g5 : k33.cell? ⟨k1.heap.size + 1, 5, none⟩ = some (.int .i64 0) := (hk.cell (p := ⟨k1.heap.size + 1, 5, none⟩) (by first | (simp; done) | (simp; omega) | omega)).trans g5
        replace g6 : k33.cell? ⟨k1.heap.size + 1, 6, none⟩ = some (.int .i64 0) := (hk.cell (p := ⟨k1.heap.size + 1, 6, none⟩) (by first | (simp; done) | (simp; omega) | omega)).trans g6
        replace g7 : k33.cell? ⟨k1.heap.size + 1, 7, none⟩ = some (.string ⟨#[]⟩) := (hk.cell (p := ⟨k1.heap.size + 1, 7, none⟩) (by first | (simp; done) | (simp; omega) | omega)).trans g7
        replace g8 : k33.cell? ⟨k1.heap.size + 1, 8, none⟩ = some (.int .i64 0) := (hk.cell (p := ⟨k1.heap.size + 1, 8, none⟩) (by first | (simp; done) | (simp; omega) | omega)).trans g8
        replace HKR := Lib.hid (Below.trans HKR.out (Below.mono hk (by omega)))
        replace hb : Below w.heap.size w k33 := hb.trans (hk.mono hb.size)
        have lt0 : k1.heap.size + 1 < k33.heap.size := (by first | (simp; done) | (simp; omega) | omega)
        clear h hk
        try dsimp only
        refine hK.out _ _ ?_ (fun hHeld => ?_)
        · exact ⟨g0, g1, g2, g3, g4, g5, g6, g7, g8⟩
        clear hK K
        try simp only [Act.put, List.setIfInBounds_toArray, List.set_cons_zero, List.set_cons_succ]
        refine wpAnyH_ready (rs := [10]) (by kernel_rfl) (by simp) ?_
        refine AllReadyH.cons (o := { dst := some 62, op := Op.binOp BinOp.neq 4 (Operand.tmp 56) (Operand.tmp 61) 4, type := 4, pos := "wide.go:53", after := #[{ on := 4, ground := Ground.data }, { on := 9, ground := Ground.data }], guard := none }) rfl (fun K hK => ?_) (AllReadyH.nil)
        go_simp
        refine hK.out _ _ ?_ (fun hHeld => ?_)
        · exact ⟨g0, g1, g2, g3, g4, g5, g6, g7, g8⟩
        clear hK K
        try simp only [Act.put, List.setIfInBounds_toArray, List.set_cons_zero, List.set_cons_succ]
        refine wpAnyH_done (by kernel_rfl) ?_ _
        refine NoPanic.normal ?_
        go_wp2
        go_roundw
        case rel => exact ⟨1, by go_num, by decide, HKR.out⟩
        case measure => simp [intOf]
      · have g9 := (hkw.cell (p := ⟨k1.heap.size + 1, 9, none⟩) (by first | (simp; done) | (simp; omega) | omega)).trans g9
        have g10 := (hkw.cell (p := ⟨k1.heap.size + 1, 10, none⟩) (by first | (simp; done) | (simp; omega) | omega)).trans g10
        have g11 := (hkw.cell (p := ⟨k1.heap.size + 1, 11, none⟩) (by first | (simp; done) | (simp; omega) | omega)).trans g11
        have g12 := (hkw.cell (p := ⟨k1.heap.size + 1, 12, none⟩) (by first | (simp; done) | (simp; omega) | omega)).trans g12
        have g13 := (hkw.cell (p := ⟨k1.heap.size + 1, 13, none⟩) (by first | (simp; done) | (simp; omega) | omega)).trans g13
        have g14 := (hkw.cell (p := ⟨k1.heap.size + 1, 14, none⟩) (by first | (simp; done) | (simp; omega) | omega)).trans g14
        have g15 := (hkw.cell (p := ⟨k1.heap.size + 1, 15, none⟩) (by first | (simp; done) | (simp; omega) | omega)).trans g15
        have g16 := (hkw.cell (p := ⟨k1.heap.size + 1, 16, none⟩) (by first | (simp; done) | (simp; omega) | omega)).trans g16
        have g17 := (hkw.cell (p := ⟨k1.heap.size + 1, 17, none⟩) (by first | (simp; done) | (simp; omega) | omega)).trans g17
        have lt0 : k1.heap.size + 1 < wr.heap.size := (by first | (simp; done) | (simp; omega) | omega)
        obtain ⟨x, hx⟩ : ∃ x, mayO ⟨a0, KY, ⟨1, 1, ⟨#[]⟩⟩, ⟨0, 0, ⟨#[]⟩⟩, 0⟩ = x := ⟨_, rfl⟩
        have HX := Lib.hid hx; clear hx
        have hkr : Below k2.heap.size k2 wr := hkw
        have HKR := Lib.hid hkr; clear hkr
        go_wp2
        replace g9 : wr.drew.cell? ⟨k1.heap.size + 1, 9, none⟩ = some (.int .i64 a0) := g9
        replace g10 : wr.drew.cell? ⟨k1.heap.size + 1, 10, none⟩ = some (.string KY) := g10
        replace g11 : wr.drew.cell? ⟨k1.heap.size + 1, 11, none⟩ = some (.int .i64 1) := g11
        replace g12 : wr.drew.cell? ⟨k1.heap.size + 1, 12, none⟩ = some (.int .i64 1) := g12
        replace g13 : wr.drew.cell? ⟨k1.heap.size + 1, 13, none⟩ = some (.string ⟨#[]⟩) := g13
        replace g14 : wr.drew.cell? ⟨k1.heap.size + 1, 14, none⟩ = some (.int .i64 0) := g14
        replace g15 : wr.drew.cell? ⟨k1.heap.size + 1, 15, none⟩ = some (.int .i64 0) := g15
        replace g16 : wr.drew.cell? ⟨k1.heap.size + 1, 16, none⟩ = some (.string ⟨#[]⟩) := g16
        replace g17 : wr.drew.cell? ⟨k1.heap.size + 1, 17, none⟩ = some (.int .i64 0) := g17
        replace HKR := Lib.hid (Below.trans HKR.out (Below.mono ((Below.refl wr.heap.size wr).drew) (by omega)))
        refine wp_region_noPanic ?_
        refine wp_region_held_drew (S := fun W => W.cell? ⟨k1.heap.size + 1, 9, none⟩ = some (.int .i64 a0) ∧ W.cell? ⟨k1.heap.size + 1, 10, none⟩ = some (.string KY) ∧ W.cell? ⟨k1.heap.size + 1, 11, none⟩ = some (.int .i64 1) ∧ W.cell? ⟨k1.heap.size + 1, 12, none⟩ = some (.int .i64 1) ∧ W.cell? ⟨k1.heap.size + 1, 13, none⟩ = some (.string ⟨#[]⟩) ∧ W.cell? ⟨k1.heap.size + 1, 14, none⟩ = some (.int .i64 0) ∧ W.cell? ⟨k1.heap.size + 1, 15, none⟩ = some (.int .i64 0) ∧ W.cell? ⟨k1.heap.size + 1, 16, none⟩ = some (.string ⟨#[]⟩) ∧ W.cell? ⟨k1.heap.size + 1, 17, none⟩ = some (.int .i64 0)) (by kernel_rfl) ?_ (fun hHeld => ?_)
        · exact ⟨g9, g10, g11, g12, g13, g14, g15, g16, g17⟩
        replace hb : Below w.heap.size w wr.drew := hb.drew
        replace lt0 : k1.heap.size + 1 < wr.drew.heap.size := lt0
        have hzd : wr.heap.size ≤ wr.drew.heap.size := Nat.le_refl _
        generalize wr.drew = k41 at *
        refine wpAnyH_take (i := 0) (oi := { dst := some 52, op := Op.move (Operand.tmp 9), type := 27, pos := "wide.go:53", after := #[], guard := none }) (v := .slice (some ⟨k1.heap.size + 1, 0, none⟩) 6 6) rfl (by kernel_rfl) (by kernel_rfl) (by kernel_rfl) (fun _ _ _ h => h) (Or.inl ⟨by rfl, fun w hSw => ?_⟩) (by assumption) ?_
        · (try dsimp only at hSw)
          go_simp
        try simp only [Act.put, List.setIfInBounds_toArray, List.set_cons_zero, List.set_cons_succ]
        refine wpAnyH_take (i := 1) (oi := { dst := some 53, op := Op.move (Operand.tmp 10), type := 3, pos := "wide.go:53", after := #[], guard := none }) (v := .int .i64 1) rfl (by kernel_rfl) (by kernel_rfl) (by kernel_rfl) (fun _ _ _ h => h) (Or.inl ⟨by rfl, fun w hSw => ?_⟩) (by assumption) ?_
        · (try dsimp only at hSw)
          go_simp
        try simp only [Act.put, List.setIfInBounds_toArray, List.set_cons_zero, List.set_cons_succ]
        refine wpAnyH_take (i := 2) (oi := { dst := some 54, op := Op.indexAddr 27 (Operand.tmp 52) (Operand.tmp 53), type := 0, pos := "wide.go:53", after := #[{ on := 0, ground := Ground.data }, { on := 1, ground := Ground.data }], guard := none }) (v := .pointer (some ⟨k1.heap.size + 1, 9, none⟩)) rfl (by kernel_rfl) (by kernel_rfl) (by kernel_rfl) (fun _ _ _ h => h) (Or.inl ⟨by rfl, fun w hSw => ?_⟩) (by assumption) ?_
        · (try dsimp only at hSw)
          go_simp
        try simp only [Act.put, List.setIfInBounds_toArray, List.set_cons_zero, List.set_cons_succ]
        refine wpAnyH_take (i := 3) (oi := { dst := some 55, op := Op.load 25 (Operand.tmp 54), type := 25, pos := "wide.go:53", after := #[{ on := 2, ground := Ground.data }], guard := none }) (v := .agg #[.int .i64 a0, .string KY, .int .i64 1, .int .i64 1, .string ⟨#[]⟩, .int .i64 0, .int .i64 0, .string ⟨#[]⟩, .int .i64 0]) rfl (by kernel_rfl) (by kernel_rfl) (by kernel_rfl) (fun _ _ _ h => h) (Or.inl ⟨by rfl, fun w hSw => ?_⟩) (by assumption) ?_
        · (try dsimp only at hSw)
          go_simp
        try simp only [Act.put, List.setIfInBounds_toArray, List.set_cons_zero, List.set_cons_succ]
        refine wpAnyH_take (i := 5) (oi := { dst := some 57, op := Op.move (Operand.tmp 9), type := 27, pos := "wide.go:53", after := #[], guard := none }) (v := .slice (some ⟨k1.heap.size + 1, 0, none⟩) 6 6) rfl (by kernel_rfl) (by kernel_rfl) (by kernel_rfl) (fun _ _ _ h => h) (Or.inl ⟨by rfl, fun w hSw => ?_⟩) (by assumption) ?_
        · (try dsimp only at hSw)
          go_simp
        try simp only [Act.put, List.setIfInBounds_toArray, List.set_cons_zero, List.set_cons_succ]
        refine wpAnyH_take (i := 6) (oi := { dst := some 58, op := Op.move (Operand.tmp 10), type := 3, pos := "wide.go:53", after := #[], guard := none }) (v := .int .i64 1) rfl (by kernel_rfl) (by kernel_rfl) (by kernel_rfl) (fun _ _ _ h => h) (Or.inl ⟨by rfl, fun w hSw => ?_⟩) (by assumption) ?_
        · (try dsimp only at hSw)
          go_simp
        try simp only [Act.put, List.setIfInBounds_toArray, List.set_cons_zero, List.set_cons_succ]
        refine wpAnyH_take (i := 7) (oi := { dst := some 59, op := Op.indexAddr 27 (Operand.tmp 57) (Operand.tmp 58), type := 0, pos := "wide.go:53", after := #[{ on := 5, ground := Ground.data }, { on := 6, ground := Ground.data }], guard := none }) (v := .pointer (some ⟨k1.heap.size + 1, 9, none⟩)) rfl (by kernel_rfl) (by kernel_rfl) (by kernel_rfl) (fun _ _ _ h => h) (Or.inl ⟨by rfl, fun w hSw => ?_⟩) (by assumption) ?_
        · (try dsimp only at hSw)
          go_simp
        try simp only [Act.put, List.setIfInBounds_toArray, List.set_cons_zero, List.set_cons_succ]
        refine wpAnyH_take (i := 8) (oi := { dst := some 60, op := Op.load 25 (Operand.tmp 59), type := 25, pos := "wide.go:53", after := #[{ on := 7, ground := Ground.data }], guard := none }) (v := .agg #[.int .i64 a0, .string KY, .int .i64 1, .int .i64 1, .string ⟨#[]⟩, .int .i64 0, .int .i64 0, .string ⟨#[]⟩, .int .i64 0]) rfl (by kernel_rfl) (by kernel_rfl) (by kernel_rfl) (fun _ _ _ h => h) (Or.inl ⟨by rfl, fun w hSw => ?_⟩) (by assumption) ?_
        · (try dsimp only at hSw)
          go_simp
        try simp only [Act.put, List.setIfInBounds_toArray, List.set_cons_zero, List.set_cons_succ]
        refine wpAnyH_ready (rs := [4]) (by kernel_rfl) (by simp) ?_
        refine AllReadyH.cons (o := { dst := some 56, op := Op.call { callee := Callee.value (Operand.func 12), args := #[Operand.tmp 55], argTypes := #[25] }, type := 4, pos := "wide.go:53", after := #[{ on := 3, ground := Ground.data }], guard := none }) rfl (fun K hK => ?_) (AllReadyH.nil)
        go_simp
        go_at_call 12
        refine (omay_is _ ⟨a0, KY, ⟨1, 1, ⟨#[]⟩⟩, ⟨0, 0, ⟨#[]⟩⟩, 0⟩ x _ rfl ⟨Nat.le_trans hKs (by decide), Nat.zero_le _, Nat.zero_le _⟩ HX.out).mono ?_
        rintro e k42 ⟨rfl, h⟩
        have hk : Below k41.heap.size k41 k42 := by
          refine Below.trans ?_ (h.mono (by first | (simp; done) | (simp; omega) | omega))
          repeat' (first | with_reducible exact Below.refl _ _ | (with_reducible refine Below.alloc ?_ ?_ _) | (with_reducible refine Below.setCell ?_ ?_ _) | exact (by first | (simp; done) | (simp; omega) | omega))
        have hz := h.size
        try simp at hz
        replace g9 : k42.cell? ⟨k1.heap.size + 1, 9, none⟩ = some (.int .i64 a0) := (hk.cell (p := ⟨k1.heap.size + 1, 9, none⟩) (by first | (simp; done) | (simp; omega) | omega)).trans g9
        replace g10 : k42.cell? ⟨k1.heap.size + 1, 10, none⟩ = some (.string KY) := (hk.cell (p := ⟨k1.heap.size + 1, 10, none⟩) (by first | (simp; done) | (simp; omega) | omega)).trans g10
        replace g11 : k42.cell? ⟨k1.heap.size + 1, 11, none⟩ = some (.int .i64 1) := (hk.cell (p := ⟨k1.heap.size + 1, 11, none⟩) (by first | (simp; done) | (simp; omega) | omega)).trans g11
        replace g12 : k42.cell? ⟨k1.heap.size + 1, 12, none⟩ = some (.int .i64 1) := (hk.cell (p := ⟨k1.heap.size + 1, 12, none⟩) (by first | (simp; done) | (simp; omega) | omega)).trans g12
        replace g13 : k42.cell? ⟨k1.heap.size + 1, 13, none⟩ = some (.string ⟨#[]⟩) := (hk.cell (p := ⟨k1.heap.size + 1, 13, none⟩) (by first | (simp; done) | (simp; omega) | omega)).trans g13
        replace g14 : k42.cell? ⟨k1.heap.size + 1, 14, none⟩ = some (.int .i64 0) := (hk.cell (p := ⟨k1.heap.size + 1, 14, none⟩) (by first | (simp; done) | (simp; omega) | omega)).trans g14
        replace g15 : k42.cell? ⟨k1.heap.size + 1, 15, none⟩ = some (.int .i64 0) := (hk.cell (p := ⟨k1.heap.size + 1, 15, none⟩) (by first | (simp; done) | (simp; omega) | omega)).trans g15
        replace g16 : k42.cell? ⟨k1.heap.size + 1, 16, none⟩ = some (.string ⟨#[]⟩) := (hk.cell (p := ⟨k1.heap.size + 1, 16, none⟩) (by first | (simp; done) | (simp; omega) | omega)).trans g16
        replace g17 : k42.cell? ⟨k1.heap.size + 1, 17, none⟩ = some (.int .i64 0) := (hk.cell (p := ⟨k1.heap.size + 1, 17, none⟩) (by first | (simp; done) | (simp; omega) | omega)).trans g17
        replace HKR := Lib.hid (Below.trans HKR.out (Below.mono hk (by omega)))
        replace hb : Below w.heap.size w k42 := hb.trans (hk.mono hb.size)
        have lt0 : k1.heap.size + 1 < k42.heap.size := (by first | (simp; done) | (simp; omega) | omega)
        clear h hk
        try dsimp only
        refine hK.out _ _ ?_ (fun hHeld => ?_)
        · exact ⟨g9, g10, g11, g12, g13, g14, g15, g16, g17⟩
        clear hK K
        try simp only [Act.put, List.setIfInBounds_toArray, List.set_cons_zero, List.set_cons_succ]
        refine wpAnyH_ready (rs := [9]) (by kernel_rfl) (by simp) ?_
        refine AllReadyH.cons (o := { dst := some 61, op := Op.call { callee := Callee.value (Operand.func 13), args := #[Operand.tmp 60], argTypes := #[25] }, type := 4, pos := "wide.go:53", after := #[{ on := 8, ground := Ground.data }, { on := 4, ground := Ground.chain }], guard := none }) rfl (fun K hK => ?_) (AllReadyH.nil)
        go_simp
        go_at_call 13
        refine (rmayOp_is _ ⟨a0, KY, ⟨1, 1, ⟨#[]⟩⟩, ⟨0, 0, ⟨#[]⟩⟩, 0⟩ x _ rfl ⟨Nat.le_trans hKs (by decide), Nat.zero_le _, Nat.zero_le _⟩ HX.out).mono ?_
        rintro e k43 ⟨rfl, h⟩
        have hk : Below k42.heap.size k42 k43 := by
          refine Below.trans ?_ (h.mono (by first | (simp; done) | (simp; omega) | omega))
          repeat' (first | with_reducible exact Below.refl _ _ | (with_reducible refine Below.alloc ?_ ?_ _) | (with_reducible refine Below.setCell ?_ ?_ _) | exact (by first | (simp; done) | (simp; omega) | omega))
        have hz := h.size
        try simp at hz
        replace g9 : k43.cell? ⟨k1.heap.size + 1, 9, none⟩ = some (.int .i64 a0) := (hk.cell (p := ⟨k1.heap.size + 1, 9, none⟩) (by first | (simp; done) | (simp; omega) | omega)).trans g9
        replace g10 : k43.cell? ⟨k1.heap.size + 1, 10, none⟩ = some (.string KY) := (hk.cell (p := ⟨k1.heap.size + 1, 10, none⟩) (by first | (simp; done) | (simp; omega) | omega)).trans g10
        replace g11 : k43.cell? ⟨k1.heap.size + 1, 11, none⟩ = some (.int .i64 1) := (hk.cell (p := ⟨k1.heap.size + 1, 11, none⟩) (by first | (simp; done) | (simp; omega) | omega)).trans g11
        replace g12 : k43.cell? ⟨k1.heap.size + 1, 12, none⟩ = some (.int .i64 1) := (hk.cell (p := ⟨k1.heap.size + 1, 12, none⟩) (by first | (simp; done) | (simp; omega) | omega)).trans g12
        replace g13 : k43.cell? ⟨k1.heap.size + 1, 13, none⟩ = some (.string ⟨#[]⟩) := (hk.cell (p := ⟨k1.heap.size + 1, 13, none⟩) (by first | (simp; done) | (simp; omega) | omega)).trans g13
        replace g14 : k43.cell? ⟨k1.heap.size + 1, 14, none⟩ = some (.int .i64 0) := (hk.cell (p := ⟨k1.heap.size + 1, 14, none⟩) (by first | (simp; done) | (simp; omega) | omega)).trans g14
        replace g15 : k43.cell? ⟨k1.heap.size + 1, 15, none⟩ = some (.int .i64 0) := (hk.cell (p := ⟨k1.heap.size + 1, 15, none⟩) (by first | (simp; done) | (simp; omega) | omega)).trans g15
        replace g16 : k43.cell? ⟨k1.heap.size + 1, 16, none⟩ = some (.string ⟨#[]⟩) := (hk.cell (p := ⟨k1.heap.size + 1, 16, none⟩) (by first | (simp; done) | (simp; omega) | omega)).trans g16
        replace g17 : k43.cell? ⟨k1.heap.size + 1, 17, none⟩ = some (.int .i64 0) := (hk.cell (p := ⟨k1.heap.size + 1, 17, none⟩) (by first | (simp; done) | (simp; omega) | omega)).trans g17
        replace HKR := Lib.hid (Below.trans HKR.out (Below.mono hk (by omega)))
        replace hb : Below w.heap.size w k43 := hb.trans (hk.mono hb.size)
        have lt0 : k1.heap.size + 1 < k43.heap.size := (by first | (simp; done) | (simp; omega) | omega)
        clear h hk
        try dsimp only
        refine hK.out _ _ ?_ (fun hHeld => ?_)
        · exact ⟨g9, g10, g11, g12, g13, g14, g15, g16, g17⟩
        clear hK K
        try simp only [Act.put, List.setIfInBounds_toArray, List.set_cons_zero, List.set_cons_succ]
        refine wpAnyH_ready (rs := [10]) (by kernel_rfl) (by simp) ?_
        refine AllReadyH.cons (o := { dst := some 62, op := Op.binOp BinOp.neq 4 (Operand.tmp 56) (Operand.tmp 61) 4, type := 4, pos := "wide.go:53", after := #[{ on := 4, ground := Ground.data }, { on := 9, ground := Ground.data }], guard := none }) rfl (fun K hK => ?_) (AllReadyH.nil)
        go_simp
        refine hK.out _ _ ?_ (fun hHeld => ?_)
        · exact ⟨g9, g10, g11, g12, g13, g14, g15, g16, g17⟩
        clear hK K
        try simp only [Act.put, List.setIfInBounds_toArray, List.set_cons_zero, List.set_cons_succ]
        refine wpAnyH_done (by kernel_rfl) ?_ _
        refine NoPanic.normal ?_
        go_wp2
        go_roundw
        case rel => exact ⟨2, by go_num, by decide, HKR.out⟩
        case measure => simp [intOf]
      · have g18 := (hkw.cell (p := ⟨k1.heap.size + 1, 18, none⟩) (by first | (simp; done) | (simp; omega) | omega)).trans g18
        have g19 := (hkw.cell (p := ⟨k1.heap.size + 1, 19, none⟩) (by first | (simp; done) | (simp; omega) | omega)).trans g19
        have g20 := (hkw.cell (p := ⟨k1.heap.size + 1, 20, none⟩) (by first | (simp; done) | (simp; omega) | omega)).trans g20
        have g21 := (hkw.cell (p := ⟨k1.heap.size + 1, 21, none⟩) (by first | (simp; done) | (simp; omega) | omega)).trans g21
        have g22 := (hkw.cell (p := ⟨k1.heap.size + 1, 22, none⟩) (by first | (simp; done) | (simp; omega) | omega)).trans g22
        have g23 := (hkw.cell (p := ⟨k1.heap.size + 1, 23, none⟩) (by first | (simp; done) | (simp; omega) | omega)).trans g23
        have g24 := (hkw.cell (p := ⟨k1.heap.size + 1, 24, none⟩) (by first | (simp; done) | (simp; omega) | omega)).trans g24
        have g25 := (hkw.cell (p := ⟨k1.heap.size + 1, 25, none⟩) (by first | (simp; done) | (simp; omega) | omega)).trans g25
        have g26 := (hkw.cell (p := ⟨k1.heap.size + 1, 26, none⟩) (by first | (simp; done) | (simp; omega) | omega)).trans g26
        have lt0 : k1.heap.size + 1 < wr.heap.size := (by first | (simp; done) | (simp; omega) | omega)
        obtain ⟨x, hx⟩ : ∃ x, mayO ⟨a0, KY, ⟨0, 0, ⟨#[]⟩⟩, ⟨1, 1, ⟨#[]⟩⟩, 0⟩ = x := ⟨_, rfl⟩
        have HX := Lib.hid hx; clear hx
        have hkr : Below k2.heap.size k2 wr := hkw
        have HKR := Lib.hid hkr; clear hkr
        go_wp2
        replace g18 : wr.drew.cell? ⟨k1.heap.size + 1, 18, none⟩ = some (.int .i64 a0) := g18
        replace g19 : wr.drew.cell? ⟨k1.heap.size + 1, 19, none⟩ = some (.string KY) := g19
        replace g20 : wr.drew.cell? ⟨k1.heap.size + 1, 20, none⟩ = some (.int .i64 0) := g20
        replace g21 : wr.drew.cell? ⟨k1.heap.size + 1, 21, none⟩ = some (.int .i64 0) := g21
        replace g22 : wr.drew.cell? ⟨k1.heap.size + 1, 22, none⟩ = some (.string ⟨#[]⟩) := g22
        replace g23 : wr.drew.cell? ⟨k1.heap.size + 1, 23, none⟩ = some (.int .i64 1) := g23
        replace g24 : wr.drew.cell? ⟨k1.heap.size + 1, 24, none⟩ = some (.int .i64 1) := g24
        replace g25 : wr.drew.cell? ⟨k1.heap.size + 1, 25, none⟩ = some (.string ⟨#[]⟩) := g25
        replace g26 : wr.drew.cell? ⟨k1.heap.size + 1, 26, none⟩ = some (.int .i64 0) := g26
        replace HKR := Lib.hid (Below.trans HKR.out (Below.mono ((Below.refl wr.heap.size wr).drew) (by omega)))
        refine wp_region_noPanic ?_
        refine wp_region_held_drew (S := fun W => W.cell? ⟨k1.heap.size + 1, 18, none⟩ = some (.int .i64 a0) ∧ W.cell? ⟨k1.heap.size + 1, 19, none⟩ = some (.string KY) ∧ W.cell? ⟨k1.heap.size + 1, 20, none⟩ = some (.int .i64 0) ∧ W.cell? ⟨k1.heap.size + 1, 21, none⟩ = some (.int .i64 0) ∧ W.cell? ⟨k1.heap.size + 1, 22, none⟩ = some (.string ⟨#[]⟩) ∧ W.cell? ⟨k1.heap.size + 1, 23, none⟩ = some (.int .i64 1) ∧ W.cell? ⟨k1.heap.size + 1, 24, none⟩ = some (.int .i64 1) ∧ W.cell? ⟨k1.heap.size + 1, 25, none⟩ = some (.string ⟨#[]⟩) ∧ W.cell? ⟨k1.heap.size + 1, 26, none⟩ = some (.int .i64 0)) (by kernel_rfl) ?_ (fun hHeld => ?_)
        · exact ⟨g18, g19, g20, g21, g22, g23, g24, g25, g26⟩
        replace hb : Below w.heap.size w wr.drew := hb.drew
        replace lt0 : k1.heap.size + 1 < wr.drew.heap.size := lt0
        have hzd : wr.heap.size ≤ wr.drew.heap.size := Nat.le_refl _
        generalize wr.drew = k51 at *
        refine wpAnyH_take (i := 0) (oi := { dst := some 52, op := Op.move (Operand.tmp 9), type := 27, pos := "wide.go:53", after := #[], guard := none }) (v := .slice (some ⟨k1.heap.size + 1, 0, none⟩) 6 6) rfl (by kernel_rfl) (by kernel_rfl) (by kernel_rfl) (fun _ _ _ h => h) (Or.inl ⟨by rfl, fun w hSw => ?_⟩) (by assumption) ?_
        · (try dsimp only at hSw)
          go_simp
        try simp only [Act.put, List.setIfInBounds_toArray, List.set_cons_zero, List.set_cons_succ]
        refine wpAnyH_take (i := 1) (oi := { dst := some 53, op := Op.move (Operand.tmp 10), type := 3, pos := "wide.go:53", after := #[], guard := none }) (v := .int .i64 2) rfl (by kernel_rfl) (by kernel_rfl) (by kernel_rfl) (fun _ _ _ h => h) (Or.inl ⟨by rfl, fun w hSw => ?_⟩) (by assumption) ?_
        · (try dsimp only at hSw)
          go_simp
        try simp only [Act.put, List.setIfInBounds_toArray, List.set_cons_zero, List.set_cons_succ]
        refine wpAnyH_take (i := 2) (oi := { dst := some 54, op := Op.indexAddr 27 (Operand.tmp 52) (Operand.tmp 53), type := 0, pos := "wide.go:53", after := #[{ on := 0, ground := Ground.data }, { on := 1, ground := Ground.data }], guard := none }) (v := .pointer (some ⟨k1.heap.size + 1, 18, none⟩)) rfl (by kernel_rfl) (by kernel_rfl) (by kernel_rfl) (fun _ _ _ h => h) (Or.inl ⟨by rfl, fun w hSw => ?_⟩) (by assumption) ?_
        · (try dsimp only at hSw)
          go_simp
        try simp only [Act.put, List.setIfInBounds_toArray, List.set_cons_zero, List.set_cons_succ]
        refine wpAnyH_take (i := 3) (oi := { dst := some 55, op := Op.load 25 (Operand.tmp 54), type := 25, pos := "wide.go:53", after := #[{ on := 2, ground := Ground.data }], guard := none }) (v := .agg #[.int .i64 a0, .string KY, .int .i64 0, .int .i64 0, .string ⟨#[]⟩, .int .i64 1, .int .i64 1, .string ⟨#[]⟩, .int .i64 0]) rfl (by kernel_rfl) (by kernel_rfl) (by kernel_rfl) (fun _ _ _ h => h) (Or.inl ⟨by rfl, fun w hSw => ?_⟩) (by assumption) ?_
        · (try dsimp only at hSw)
          go_simp
        try simp only [Act.put, List.setIfInBounds_toArray, List.set_cons_zero, List.set_cons_succ]
        refine wpAnyH_take (i := 5) (oi := { dst := some 57, op := Op.move (Operand.tmp 9), type := 27, pos := "wide.go:53", after := #[], guard := none }) (v := .slice (some ⟨k1.heap.size + 1, 0, none⟩) 6 6) rfl (by kernel_rfl) (by kernel_rfl) (by kernel_rfl) (fun _ _ _ h => h) (Or.inl ⟨by rfl, fun w hSw => ?_⟩) (by assumption) ?_
        · (try dsimp only at hSw)
          go_simp
        try simp only [Act.put, List.setIfInBounds_toArray, List.set_cons_zero, List.set_cons_succ]
        refine wpAnyH_take (i := 6) (oi := { dst := some 58, op := Op.move (Operand.tmp 10), type := 3, pos := "wide.go:53", after := #[], guard := none }) (v := .int .i64 2) rfl (by kernel_rfl) (by kernel_rfl) (by kernel_rfl) (fun _ _ _ h => h) (Or.inl ⟨by rfl, fun w hSw => ?_⟩) (by assumption) ?_
        · (try dsimp only at hSw)
          go_simp
        try simp only [Act.put, List.setIfInBounds_toArray, List.set_cons_zero, List.set_cons_succ]
        refine wpAnyH_take (i := 7) (oi := { dst := some 59, op := Op.indexAddr 27 (Operand.tmp 57) (Operand.tmp 58), type := 0, pos := "wide.go:53", after := #[{ on := 5, ground := Ground.data }, { on := 6, ground := Ground.data }], guard := none }) (v := .pointer (some ⟨k1.heap.size + 1, 18, none⟩)) rfl (by kernel_rfl) (by kernel_rfl) (by kernel_rfl) (fun _ _ _ h => h) (Or.inl ⟨by rfl, fun w hSw => ?_⟩) (by assumption) ?_
        · (try dsimp only at hSw)
          go_simp
        try simp only [Act.put, List.setIfInBounds_toArray, List.set_cons_zero, List.set_cons_succ]
        refine wpAnyH_take (i := 8) (oi := { dst := some 60, op := Op.load 25 (Operand.tmp 59), type := 25, pos := "wide.go:53", after := #[{ on := 7, ground := Ground.data }], guard := none }) (v := .agg #[.int .i64 a0, .string KY, .int .i64 0, .int .i64 0, .string ⟨#[]⟩, .int .i64 1, .int .i64 1, .string ⟨#[]⟩, .int .i64 0]) rfl (by kernel_rfl) (by kernel_rfl) (by kernel_rfl) (fun _ _ _ h => h) (Or.inl ⟨by rfl, fun w hSw => ?_⟩) (by assumption) ?_
        · (try dsimp only at hSw)
          go_simp
        try simp only [Act.put, List.setIfInBounds_toArray, List.set_cons_zero, List.set_cons_succ]
        refine wpAnyH_ready (rs := [4]) (by kernel_rfl) (by simp) ?_
        refine AllReadyH.cons (o := { dst := some 56, op := Op.call { callee := Callee.value (Operand.func 12), args := #[Operand.tmp 55], argTypes := #[25] }, type := 4, pos := "wide.go:53", after := #[{ on := 3, ground := Ground.data }], guard := none }) rfl (fun K hK => ?_) (AllReadyH.nil)
        go_simp
        go_at_call 12
        refine (omay_is _ ⟨a0, KY, ⟨0, 0, ⟨#[]⟩⟩, ⟨1, 1, ⟨#[]⟩⟩, 0⟩ x _ rfl ⟨Nat.le_trans hKs (by decide), Nat.zero_le _, Nat.zero_le _⟩ HX.out).mono ?_
        rintro e k52 ⟨rfl, h⟩
        have hk : Below k51.heap.size k51 k52 := by
          refine Below.trans ?_ (h.mono (by first | (simp; done) | (simp; omega) | omega))
          repeat' (first | with_reducible exact Below.refl _ _ | (with_reducible refine Below.alloc ?_ ?_ _) | (with_reducible refine Below.setCell ?_ ?_ _) | exact (by first | (simp; done) | (simp; omega) | omega))
        have hz := h.size
        try simp at hz
        replace g18 : k52.cell? ⟨k1.heap.size + 1, 18, none⟩ = some (.int .i64 a0) := (hk.cell (p := ⟨k1.heap.size + 1, 18, none⟩) (by first | (simp; done) | (simp; omega) | omega)).trans g18
        replace g19 : k52.cell? ⟨k1.heap.size + 1, 19, none⟩ = some (.string KY) := (hk.cell (p := ⟨k1.heap.size + 1, 19, none⟩) (by first | (simp; done) | (simp; omega) | omega)).trans g19
        replace g20 : k52.cell? ⟨k1.heap.size + 1, 20, none⟩ = some (.int .i64 0) := (hk.cell (p := ⟨k1.heap.size + 1, 20, none⟩) (by first | (simp; done) | (simp; omega) | omega)).trans g20
        replace g21 : k52.cell? ⟨k1.heap.size + 1, 21, none⟩ = some (.int .i64 0) := (hk.cell (p := ⟨k1.heap.size + 1, 21, none⟩) (by first | (simp; done) | (simp; omega) | omega)).trans g21
        replace g22 : k52.cell? ⟨k1.heap.size + 1, 22, none⟩ = some (.string ⟨#[]⟩) := (hk.cell (p := ⟨k1.heap.size + 1, 22, none⟩) (by first | (simp; done) | (simp; omega) | omega)).trans g22
        replace g23 : k52.cell? ⟨k1.heap.size + 1, 23, none⟩ = some (.int .i64 1) := (hk.cell (p := ⟨k1.heap.size + 1, 23, none⟩) (by first | (simp; done) | (simp; omega) | omega)).trans g23
        replace g24 : k52.cell? ⟨k1.heap.size + 1, 24, none⟩ = some (.int .i64 1) := (hk.cell (p := ⟨k1.heap.size + 1, 24, none⟩) (by first | (simp; done) | (simp; omega) | omega)).trans g24
        replace g25 : k52.cell? ⟨k1.heap.size + 1, 25, none⟩ = some (.string ⟨#[]⟩) := (hk.cell (p := ⟨k1.heap.size + 1, 25, none⟩) (by first | (simp; done) | (simp; omega) | omega)).trans g25
        replace g26 : k52.cell? ⟨k1.heap.size + 1, 26, none⟩ = some (.int .i64 0) := (hk.cell (p := ⟨k1.heap.size + 1, 26, none⟩) (by first | (simp; done) | (simp; omega) | omega)).trans g26
        replace HKR := Lib.hid (Below.trans HKR.out (Below.mono hk (by omega)))
        replace hb : Below w.heap.size w k52 := hb.trans (hk.mono hb.size)
        have lt0 : k1.heap.size + 1 < k52.heap.size := (by first | (simp; done) | (simp; omega) | omega)
        clear h hk
        try dsimp only
        refine hK.out _ _ ?_ (fun hHeld => ?_)
        · exact ⟨g18, g19, g20, g21, g22, g23, g24, g25, g26⟩
        clear hK K
        try simp only [Act.put, List.setIfInBounds_toArray, List.set_cons_zero, List.set_cons_succ]
        refine wpAnyH_ready (rs := [9]) (by kernel_rfl) (by simp) ?_
        refine AllReadyH.cons (o := { dst := some 61, op := Op.call { callee := Callee.value (Operand.func 13), args := #[Operand.tmp 60], argTypes := #[25] }, type := 4, pos := "wide.go:53", after := #[{ on := 8, ground := Ground.data }, { on := 4, ground := Ground.chain }], guard := none }) rfl (fun K hK => ?_) (AllReadyH.nil)
        go_simp
        go_at_call 13
        refine (rmayOp_is _ ⟨a0, KY, ⟨0, 0, ⟨#[]⟩⟩, ⟨1, 1, ⟨#[]⟩⟩, 0⟩ x _ rfl ⟨Nat.le_trans hKs (by decide), Nat.zero_le _, Nat.zero_le _⟩ HX.out).mono ?_
        rintro e k53 ⟨rfl, h⟩
        have hk : Below k52.heap.size k52 k53 := by
          refine Below.trans ?_ (h.mono (by first | (simp; done) | (simp; omega) | omega))
          repeat' (first | with_reducible exact Below.refl _ _ | (with_reducible refine Below.alloc ?_ ?_ _) | (with_reducible refine Below.setCell ?_ ?_ _) | exact (by first | (simp; done) | (simp; omega) | omega))
        have hz := h.size
        try simp at hz
        replace g18 : k53.cell? ⟨k1.heap.size + 1, 18, none⟩ = some (.int .i64 a0) := (hk.cell (p := ⟨k1.heap.size + 1, 18, none⟩) (by first | (simp; done) | (simp; omega) | omega)).trans g18
        replace g19 : k53.cell? ⟨k1.heap.size + 1, 19, none⟩ = some (.string KY) := (hk.cell (p := ⟨k1.heap.size + 1, 19, none⟩) (by first | (simp; done) | (simp; omega) | omega)).trans g19
        replace g20 : k53.cell? ⟨k1.heap.size + 1, 20, none⟩ = some (.int .i64 0) := (hk.cell (p := ⟨k1.heap.size + 1, 20, none⟩) (by first | (simp; done) | (simp; omega) | omega)).trans g20
        replace g21 : k53.cell? ⟨k1.heap.size + 1, 21, none⟩ = some (.int .i64 0) := (hk.cell (p := ⟨k1.heap.size + 1, 21, none⟩) (by first | (simp; done) | (simp; omega) | omega)).trans g21
        replace g22 : k53.cell? ⟨k1.heap.size + 1, 22, none⟩ = some (.string ⟨#[]⟩) := (hk.cell (p := ⟨k1.heap.size + 1, 22, none⟩) (by first | (simp; done) | (simp; omega) | omega)).trans g22
        replace g23 : k53.cell? ⟨k1.heap.size + 1, 23, none⟩ = some (.int .i64 1) := (hk.cell (p := ⟨k1.heap.size + 1, 23, none⟩) (by first | (simp; done) | (simp; omega) | omega)).trans g23
        replace g24 : k53.cell? ⟨k1.heap.size + 1, 24, none⟩ = some (.int .i64 1) := (hk.cell (p := ⟨k1.heap.size + 1, 24, none⟩) (by first | (simp; done) | (simp; omega) | omega)).trans g24
        replace g25 : k53.cell? ⟨k1.heap.size + 1, 25, none⟩ = some (.string ⟨#[]⟩) := (hk.cell (p := ⟨k1.heap.size + 1, 25, none⟩) (by first | (simp; done) | (simp; omega) | omega)).trans g25
        replace g26 : k53.cell? ⟨k1.heap.size + 1, 26, none⟩ = some (.int .i64 0) := (hk.cell (p := ⟨k1.heap.size + 1, 26, none⟩) (by first | (simp; done) | (simp; omega) | omega)).trans g26
        replace HKR := Lib.hid (Below.trans HKR.out (Below.mono hk (by omega)))
        replace hb : Below w.heap.size w k53 := hb.trans (hk.mono hb.size)
        have lt0 : k1.heap.size + 1 < k53.heap.size := (by first | (simp; done) | (simp; omega) | omega)
        clear h hk
        try dsimp only
        refine hK.out _ _ ?_ (fun hHeld => ?_)
        · exact ⟨g18, g19, g20, g21, g22, g23, g24, g25, g26⟩
        clear hK K
        try simp only [Act.put, List.setIfInBounds_toArray, List.set_cons_zero, List.set_cons_succ]
        refine wpAnyH_ready (rs := [10]) (by kernel_rfl) (by simp) ?_
        refine AllReadyH.cons (o := { dst := some 62, op := Op.binOp BinOp.neq 4 (Operand.tmp 56) (Operand.tmp 61) 4, type := 4, pos := "wide.go:53", after := #[{ on := 4, ground := Ground.data }, { on := 9, ground := Ground.data }], guard := none }) rfl (fun K hK => ?_) (AllReadyH.nil)
        go_simp
        refine hK.out _ _ ?_ (fun hHeld => ?_)
        · exact ⟨g18, g19, g20, g21, g22, g23, g24, g25, g26⟩
        clear hK K
        try simp only [Act.put, List.setIfInBounds_toArray, List.set_cons_zero, List.set_cons_succ]
        refine wpAnyH_done (by kernel_rfl) ?_ _
        refine NoPanic.normal ?_
        go_wp2
        go_roundw
        case rel => exact ⟨3, by go_num, by decide, HKR.out⟩
        case measure => simp [intOf]
      · have g27 := (hkw.cell (p := ⟨k1.heap.size + 1, 27, none⟩) (by first | (simp; done) | (simp; omega) | omega)).trans g27
        have g28 := (hkw.cell (p := ⟨k1.heap.size + 1, 28, none⟩) (by first | (simp; done) | (simp; omega) | omega)).trans g28
        have g29 := (hkw.cell (p := ⟨k1.heap.size + 1, 29, none⟩) (by first | (simp; done) | (simp; omega) | omega)).trans g29
        have g30 := (hkw.cell (p := ⟨k1.heap.size + 1, 30, none⟩) (by first | (simp; done) | (simp; omega) | omega)).trans g30
        have g31 := (hkw.cell (p := ⟨k1.heap.size + 1, 31, none⟩) (by first | (simp; done) | (simp; omega) | omega)).trans g31
        have g32 := (hkw.cell (p := ⟨k1.heap.size + 1, 32, none⟩) (by first | (simp; done) | (simp; omega) | omega)).trans g32
        have g33 := (hkw.cell (p := ⟨k1.heap.size + 1, 33, none⟩) (by first | (simp; done) | (simp; omega) | omega)).trans g33
        have g34 := (hkw.cell (p := ⟨k1.heap.size + 1, 34, none⟩) (by first | (simp; done) | (simp; omega) | omega)).trans g34
        have g35 := (hkw.cell (p := ⟨k1.heap.size + 1, 35, none⟩) (by first | (simp; done) | (simp; omega) | omega)).trans g35
        have lt0 : k1.heap.size + 1 < wr.heap.size := (by first | (simp; done) | (simp; omega) | omega)
        obtain ⟨x, hx⟩ : ∃ x, mayO ⟨a0, KY, ⟨0, 0, ⟨#[]⟩⟩, ⟨0, 0, ⟨#[]⟩⟩, a2⟩ = x := ⟨_, rfl⟩
        have HX := Lib.hid hx; clear hx
        have hkr : Below k2.heap.size k2 wr := hkw
        have HKR := Lib.hid hkr; clear hkr
        go_wp2
        replace g27 : wr.drew.cell? ⟨k1.heap.size + 1, 27, none⟩ = some (.int .i64 a0) := g27
        replace g28 : wr.drew.cell? ⟨k1.heap.size + 1, 28, none⟩ = some (.string KY) := g28
        replace g29 : wr.drew.cell? ⟨k1.heap.size + 1, 29, none⟩ = some (.int .i64 0) := g29
        replace g30 : wr.drew.cell? ⟨k1.heap.size + 1, 30, none⟩ = some (.int .i64 0) := g30
        replace g31 : wr.drew.cell? ⟨k1.heap.size + 1, 31, none⟩ = some (.string ⟨#[]⟩) := g31
        replace g32 : wr.drew.cell? ⟨k1.heap.size + 1, 32, none⟩ = some (.int .i64 0) := g32
        replace g33 : wr.drew.cell? ⟨k1.heap.size + 1, 33, none⟩ = some (.int .i64 0) := g33
        replace g34 : wr.drew.cell? ⟨k1.heap.size + 1, 34, none⟩ = some (.string ⟨#[]⟩) := g34
        replace g35 : wr.drew.cell? ⟨k1.heap.size + 1, 35, none⟩ = some (.int .i64 a2) := g35
        replace HKR := Lib.hid (Below.trans HKR.out (Below.mono ((Below.refl wr.heap.size wr).drew) (by omega)))
        refine wp_region_noPanic ?_
        refine wp_region_held_drew (S := fun W => W.cell? ⟨k1.heap.size + 1, 27, none⟩ = some (.int .i64 a0) ∧ W.cell? ⟨k1.heap.size + 1, 28, none⟩ = some (.string KY) ∧ W.cell? ⟨k1.heap.size + 1, 29, none⟩ = some (.int .i64 0) ∧ W.cell? ⟨k1.heap.size + 1, 30, none⟩ = some (.int .i64 0) ∧ W.cell? ⟨k1.heap.size + 1, 31, none⟩ = some (.string ⟨#[]⟩) ∧ W.cell? ⟨k1.heap.size + 1, 32, none⟩ = some (.int .i64 0) ∧ W.cell? ⟨k1.heap.size + 1, 33, none⟩ = some (.int .i64 0) ∧ W.cell? ⟨k1.heap.size + 1, 34, none⟩ = some (.string ⟨#[]⟩) ∧ W.cell? ⟨k1.heap.size + 1, 35, none⟩ = some (.int .i64 a2)) (by kernel_rfl) ?_ (fun hHeld => ?_)
        · exact ⟨g27, g28, g29, g30, g31, g32, g33, g34, g35⟩
        replace hb : Below w.heap.size w wr.drew := hb.drew
        replace lt0 : k1.heap.size + 1 < wr.drew.heap.size := lt0
        have hzd : wr.heap.size ≤ wr.drew.heap.size := Nat.le_refl _
        generalize wr.drew = k61 at *
        refine wpAnyH_take (i := 0) (oi := { dst := some 52, op := Op.move (Operand.tmp 9), type := 27, pos := "wide.go:53", after := #[], guard := none }) (v := .slice (some ⟨k1.heap.size + 1, 0, none⟩) 6 6) rfl (by kernel_rfl) (by kernel_rfl) (by kernel_rfl) (fun _ _ _ h => h) (Or.inl ⟨by rfl, fun w hSw => ?_⟩) (by assumption) ?_
        · (try dsimp only at hSw)
          go_simp
        try simp only [Act.put, List.setIfInBounds_toArray, List.set_cons_zero, List.set_cons_succ]
        refine wpAnyH_take (i := 1) (oi := { dst := some 53, op := Op.move (Operand.tmp 10), type := 3, pos := "wide.go:53", after := #[], guard := none }) (v := .int .i64 3) rfl (by kernel_rfl) (by kernel_rfl) (by kernel_rfl) (fun _ _ _ h => h) (Or.inl ⟨by rfl, fun w hSw => ?_⟩) (by assumption) ?_
        · (try dsimp only at hSw)
          go_simp
        try simp only [Act.put, List.setIfInBounds_toArray, List.set_cons_zero, List.set_cons_succ]
        refine wpAnyH_take (i := 2) (oi := { dst := some 54, op := Op.indexAddr 27 (Operand.tmp 52) (Operand.tmp 53), type := 0, pos := "wide.go:53", after := #[{ on := 0, ground := Ground.data }, { on := 1, ground := Ground.data }], guard := none }) (v := .pointer (some ⟨k1.heap.size + 1, 27, none⟩)) rfl (by kernel_rfl) (by kernel_rfl) (by kernel_rfl) (fun _ _ _ h => h) (Or.inl ⟨by rfl, fun w hSw => ?_⟩) (by assumption) ?_
        · (try dsimp only at hSw)
          go_simp
        try simp only [Act.put, List.setIfInBounds_toArray, List.set_cons_zero, List.set_cons_succ]
        refine wpAnyH_take (i := 3) (oi := { dst := some 55, op := Op.load 25 (Operand.tmp 54), type := 25, pos := "wide.go:53", after := #[{ on := 2, ground := Ground.data }], guard := none }) (v := .agg #[.int .i64 a0, .string KY, .int .i64 0, .int .i64 0, .string ⟨#[]⟩, .int .i64 0, .int .i64 0, .string ⟨#[]⟩, .int .i64 a2]) rfl (by kernel_rfl) (by kernel_rfl) (by kernel_rfl) (fun _ _ _ h => h) (Or.inl ⟨by rfl, fun w hSw => ?_⟩) (by assumption) ?_
        · (try dsimp only at hSw)
          go_simp
        try simp only [Act.put, List.setIfInBounds_toArray, List.set_cons_zero, List.set_cons_succ]
        refine wpAnyH_take (i := 5) (oi := { dst := some 57, op := Op.move (Operand.tmp 9), type := 27, pos := "wide.go:53", after := #[], guard := none }) (v := .slice (some ⟨k1.heap.size + 1, 0, none⟩) 6 6) rfl (by kernel_rfl) (by kernel_rfl) (by kernel_rfl) (fun _ _ _ h => h) (Or.inl ⟨by rfl, fun w hSw => ?_⟩) (by assumption) ?_
        · (try dsimp only at hSw)
          go_simp
        try simp only [Act.put, List.setIfInBounds_toArray, List.set_cons_zero, List.set_cons_succ]
        refine wpAnyH_take (i := 6) (oi := { dst := some 58, op := Op.move (Operand.tmp 10), type := 3, pos := "wide.go:53", after := #[], guard := none }) (v := .int .i64 3) rfl (by kernel_rfl) (by kernel_rfl) (by kernel_rfl) (fun _ _ _ h => h) (Or.inl ⟨by rfl, fun w hSw => ?_⟩) (by assumption) ?_
        · (try dsimp only at hSw)
          go_simp
        try simp only [Act.put, List.setIfInBounds_toArray, List.set_cons_zero, List.set_cons_succ]
        refine wpAnyH_take (i := 7) (oi := { dst := some 59, op := Op.indexAddr 27 (Operand.tmp 57) (Operand.tmp 58), type := 0, pos := "wide.go:53", after := #[{ on := 5, ground := Ground.data }, { on := 6, ground := Ground.data }], guard := none }) (v := .pointer (some ⟨k1.heap.size + 1, 27, none⟩)) rfl (by kernel_rfl) (by kernel_rfl) (by kernel_rfl) (fun _ _ _ h => h) (Or.inl ⟨by rfl, fun w hSw => ?_⟩) (by assumption) ?_
        · (try dsimp only at hSw)
          go_simp
        try simp only [Act.put, List.setIfInBounds_toArray, List.set_cons_zero, List.set_cons_succ]
        refine wpAnyH_take (i := 8) (oi := { dst := some 60, op := Op.load 25 (Operand.tmp 59), type := 25, pos := "wide.go:53", after := #[{ on := 7, ground := Ground.data }], guard := none }) (v := .agg #[.int .i64 a0, .string KY, .int .i64 0, .int .i64 0, .string ⟨#[]⟩, .int .i64 0, .int .i64 0, .string ⟨#[]⟩, .int .i64 a2]) rfl (by kernel_rfl) (by kernel_rfl) (by kernel_rfl) (fun _ _ _ h => h) (Or.inl ⟨by rfl, fun w hSw => ?_⟩) (by assumption) ?_
        · (try dsimp only at hSw)
          go_simp
        try simp only [Act.put, List.setIfInBounds_toArray, List.set_cons_zero, List.set_cons_succ]
        refine wpAnyH_ready (rs := [4]) (by kernel_rfl) (by simp) ?_
        refine AllReadyH.cons (o := { dst := some 56, op := Op.call { callee := Callee.value (Operand.func 12), args := #[Operand.tmp 55], argTypes := #[25] }, type := 4, pos := "wide.go:53", after := #[{ on := 3, ground := Ground.data }], guard := none }) rfl (fun K hK => ?_) (AllReadyH.nil)
        go_simp
        go_at_call 12
        refine (omay_is _ ⟨a0, KY, ⟨0, 0, ⟨#[]⟩⟩, ⟨0, 0, ⟨#[]⟩⟩, a2⟩ x _ rfl ⟨Nat.le_trans hKs (by decide), Nat.zero_le _, Nat.zero_le _⟩ HX.out).mono ?_
        rintro e k62 ⟨rfl, h⟩
        have hk : Below k61.heap.size k61 k62 := by
          refine Below.trans ?_ (h.mono (by first | (simp; done) | (simp; omega) | omega))
          repeat' (first | with_reducible exact Below.refl _ _ | (with_reducible refine Below.alloc ?_ ?_ _) | (with_reducible refine Below.setCell ?_ ?_ _) | exact (by first | (simp; done) | (simp; omega) | omega))
        have hz := h.size
        try simp at hz
        replace g27 : k62.cell? ⟨k1.heap.size + 1, 27, none⟩ = some (.int .i64 a0) := (hk.cell (p := ⟨k1.heap.size + 1, 27, none⟩) (by first | (simp; done) | (simp; omega) | omega)).trans g27
        replace g28 : k62.cell? ⟨k1.heap.size + 1, 28, none⟩ = some (.string KY) := (hk.cell (p := ⟨k1.heap.size + 1, 28, none⟩) (by first | (simp; done) | (simp; omega) | omega)).trans g28
        replace g29 : k62.cell? ⟨k1.heap.size + 1, 29, none⟩ = some (.int .i64 0) := (hk.cell (p := ⟨k1.heap.size + 1, 29, none⟩) (by first | (simp; done) | (simp; omega) | omega)).trans g29
        replace g30 : k62.cell? ⟨k1.heap.size + 1, 30, none⟩ = some (.int .i64 0) := (hk.cell (p := ⟨k1.heap.size + 1, 30, none⟩) (by first | (simp; done) | (simp; omega) | omega)).trans g30
        replace g31 : k62.cell? ⟨k1.heap.size + 1, 31, none⟩ = some (.string ⟨#[]⟩) := (hk.cell (p := ⟨k1.heap.size + 1, 31, none⟩) (by first | (simp; done) | (simp; omega) | omega)).trans g31
        replace g32 : k62.cell? ⟨k1.heap.size + 1, 32, none⟩ = some (.int .i64 0) := (hk.cell (p := ⟨k1.heap.size + 1, 32, none⟩) (by first | (simp; done) | (simp; omega) | omega)).trans g32
        replace g33 : k62.cell? ⟨k1.heap.size + 1, 33, none⟩ = some (.int .i64 0) := (hk.cell (p := ⟨k1.heap.size + 1, 33, none⟩) (by first | (simp; done) | (simp; omega) | omega)).trans g33
        replace g34 : k62.cell? ⟨k1.heap.size + 1, 34, none⟩ = some (.string ⟨#[]⟩) := (hk.cell (p := ⟨k1.heap.size + 1, 34, none⟩) (by first | (simp; done) | (simp; omega) | omega)).trans g34
        replace g35 : k62.cell? ⟨k1.heap.size + 1, 35, none⟩ = some (.int .i64 a2) := (hk.cell (p := ⟨k1.heap.size + 1, 35, none⟩) (by first | (simp; done) | (simp; omega) | omega)).trans g35
        replace HKR := Lib.hid (Below.trans HKR.out (Below.mono hk (by omega)))
        replace hb : Below w.heap.size w k62 := hb.trans (hk.mono hb.size)
        have lt0 : k1.heap.size + 1 < k62.heap.size := (by first | (simp; done) | (simp; omega) | omega)
        clear h hk
        try dsimp only
        refine hK.out _ _ ?_ (fun hHeld => ?_)
        · exact ⟨g27, g28, g29, g30, g31, g32, g33, g34, g35⟩
        clear hK K
        try simp only [Act.put, List.setIfInBounds_toArray, List.set_cons_zero, List.set_cons_succ]
        refine wpAnyH_ready (rs := [9]) (by kernel_rfl) (by simp) ?_
        refine AllReadyH.cons (o := { dst := some 61, op := Op.call { callee := Callee.value (Operand.func 13), args := #[Operand.tmp 60], argTypes := #[25] }, type := 4, pos := "wide.go:53", after := #[{ on := 8, ground := Ground.data }, { on := 4, ground := Ground.chain }], guard := none }) rfl (fun K hK => ?_) (AllReadyH.nil)
        go_simp
        go_at_call 13
        refine (rmayOp_is _ ⟨a0, KY, ⟨0, 0, ⟨#[]⟩⟩, ⟨0, 0, ⟨#[]⟩⟩, a2⟩ x _ rfl ⟨Nat.le_trans hKs (by decide), Nat.zero_le _, Nat.zero_le _⟩ HX.out).mono ?_
        rintro e k63 ⟨rfl, h⟩
        have hk : Below k62.heap.size k62 k63 := by
          refine Below.trans ?_ (h.mono (by first | (simp; done) | (simp; omega) | omega))
          repeat' (first | with_reducible exact Below.refl _ _ | (with_reducible refine Below.alloc ?_ ?_ _) | (with_reducible refine Below.setCell ?_ ?_ _) | exact (by first | (simp; done) | (simp; omega) | omega))
        have hz := h.size
        try simp at hz
        replace g27 : k63.cell? ⟨k1.heap.size + 1, 27, none⟩ = some (.int .i64 a0) := (hk.cell (p := ⟨k1.heap.size + 1, 27, none⟩) (by first | (simp; done) | (simp; omega) | omega)).trans g27
        replace g28 : k63.cell? ⟨k1.heap.size + 1, 28, none⟩ = some (.string KY) := (hk.cell (p := ⟨k1.heap.size + 1, 28, none⟩) (by first | (simp; done) | (simp; omega) | omega)).trans g28
        replace g29 : k63.cell? ⟨k1.heap.size + 1, 29, none⟩ = some (.int .i64 0) := (hk.cell (p := ⟨k1.heap.size + 1, 29, none⟩) (by first | (simp; done) | (simp; omega) | omega)).trans g29
        replace g30 : k63.cell? ⟨k1.heap.size + 1, 30, none⟩ = some (.int .i64 0) := (hk.cell (p := ⟨k1.heap.size + 1, 30, none⟩) (by first | (simp; done) | (simp; omega) | omega)).trans g30
        replace g31 : k63.cell? ⟨k1.heap.size + 1, 31, none⟩ = some (.string ⟨#[]⟩) := (hk.cell (p := ⟨k1.heap.size + 1, 31, none⟩) (by first | (simp; done) | (simp; omega) | omega)).trans g31
        replace g32 : k63.cell? ⟨k1.heap.size + 1, 32, none⟩ = some (.int .i64 0) := (hk.cell (p := ⟨k1.heap.size + 1, 32, none⟩) (by first | (simp; done) | (simp; omega) | omega)).trans g32
        replace g33 : k63.cell? ⟨k1.heap.size + 1, 33, none⟩ = some (.int .i64 0) := (hk.cell (p := ⟨k1.heap.size + 1, 33, none⟩) (by first | (simp; done) | (simp; omega) | omega)).trans g33
        replace g34 : k63.cell? ⟨k1.heap.size + 1, 34, none⟩ = some (.string ⟨#[]⟩) := (hk.cell (p := ⟨k1.heap.size + 1, 34, none⟩) (by first | (simp; done) | (simp; omega) | omega)).trans g34
        replace g35 : k63.cell? ⟨k1.heap.size + 1, 35, none⟩ = some (.int .i64 a2) := (hk.cell (p := ⟨k1.heap.size + 1, 35, none⟩) (by first | (simp; done) | (simp; omega) | omega)).trans g35
        replace HKR := Lib.hid (Below.trans HKR.out (Below.mono hk (by omega)))
        replace hb : Below w.heap.size w k63 := hb.trans (hk.mono hb.size)
        have lt0 : k1.heap.size + 1 < k63.heap.size := (by first | (simp; done) | (simp; omega) | omega)
        clear h hk
        try dsimp only
        refine hK.out _ _ ?_ (fun hHeld => ?_)
        · exact ⟨g27, g28, g29, g30, g31, g32, g33, g34, g35⟩
        clear hK K
        try simp only [Act.put, List.setIfInBounds_toArray, List.set_cons_zero, List.set_cons_succ]
        refine wpAnyH_ready (rs := [10]) (by kernel_rfl) (by simp) ?_
        refine AllReadyH.cons (o := { dst := some 62, op := Op.binOp BinOp.neq 4 (Operand.tmp 56) (Operand.tmp 61) 4, type := 4, pos := "wide.go:53", after := #[{ on := 4, ground := Ground.data }, { on := 9, ground := Ground.data }], guard := none }) rfl (fun K hK => ?_) (AllReadyH.nil)
        go_simp
        refine hK.out _ _ ?_ (fun hHeld => ?_)
        · exact ⟨g27, g28, g29, g30, g31, g32, g33, g34, g35⟩
        clear hK K
        try simp only [Act.put, List.setIfInBounds_toArray, List.set_cons_zero, List.set_cons_succ]
        refine wpAnyH_done (by kernel_rfl) ?_ _
        refine NoPanic.normal ?_
        go_wp2
        go_roundw
        case rel => exact ⟨4, by go_num, by decide, HKR.out⟩
        case measure => simp [intOf]
      · have g36 := (hkw.cell (p := ⟨k1.heap.size + 1, 36, none⟩) (by first | (simp; done) | (simp; omega) | omega)).trans g36
        have g37 := (hkw.cell (p := ⟨k1.heap.size + 1, 37, none⟩) (by first | (simp; done) | (simp; omega) | omega)).trans g37
        have g38 := (hkw.cell (p := ⟨k1.heap.size + 1, 38, none⟩) (by first | (simp; done) | (simp; omega) | omega)).trans g38
        have g39 := (hkw.cell (p := ⟨k1.heap.size + 1, 39, none⟩) (by first | (simp; done) | (simp; omega) | omega)).trans g39
        have g40 := (hkw.cell (p := ⟨k1.heap.size + 1, 40, none⟩) (by first | (simp; done) | (simp; omega) | omega)).trans g40
        have g41 := (hkw.cell (p := ⟨k1.heap.size + 1, 41, none⟩) (by first | (simp; done) | (simp; omega) | omega)).trans g41
        have g42 := (hkw.cell (p := ⟨k1.heap.size + 1, 42, none⟩) (by first | (simp; done) | (simp; omega) | omega)).trans g42
        have g43 := (hkw.cell (p := ⟨k1.heap.size + 1, 43, none⟩) (by first | (simp; done) | (simp; omega) | omega)).trans g43
        have g44 := (hkw.cell (p := ⟨k1.heap.size + 1, 44, none⟩) (by first | (simp; done) | (simp; omega) | omega)).trans g44
        have lt0 : k1.heap.size + 1 < wr.heap.size := (by first | (simp; done) | (simp; omega) | omega)
        obtain ⟨x, hx⟩ : ∃ x, mayO ⟨a0, KY, ⟨1, 1, ⟨#[]⟩⟩, ⟨1, 1, ⟨#[]⟩⟩, 0⟩ = x := ⟨_, rfl⟩
        have HX := Lib.hid hx; clear hx
        have hkr : Below k2.heap.size k2 wr := hkw
        have HKR := Lib.hid hkr; clear hkr
        go_wp2
        replace g36 : wr.drew.cell? ⟨k1.heap.size + 1, 36, none⟩ = some (.int .i64 a0) := g36
        replace g37 : wr.drew.cell? ⟨k1.heap.size + 1, 37, none⟩ = some (.string KY) := g37
        replace g38 : wr.drew.cell? ⟨k1.heap.size + 1, 38, none⟩ = some (.int .i64 1) := g38
        replace g39 : wr.drew.cell? ⟨k1.heap.size + 1, 39, none⟩ = some (.int .i64 1) := g39
        replace g40 : wr.drew.cell? ⟨k1.heap.size + 1, 40, none⟩ = some (.string ⟨#[]⟩) := g40
        replace g41 : wr.drew.cell? ⟨k1.heap.size + 1, 41, none⟩ = some (.int .i64 1) := g41
        replace g42 : wr.drew.cell? ⟨k1.heap.size + 1, 42, none⟩ = some (.int .i64 1) := g42
        replace g43 : wr.drew.cell? ⟨k1.heap.size + 1, 43, none⟩ = some (.string ⟨#[]⟩) := g43
        replace g44 : wr.drew.cell? ⟨k1.heap.size + 1, 44, none⟩ = some (.int .i64 0) := g44
        replace HKR := Lib.hid (Below.trans HKR.out (Below.mono ((Below.refl wr.heap.size wr).drew) (by omega)))
        refine wp_region_noPanic ?_
        refine wp_region_held_drew (S := fun W => W.cell? ⟨k1.heap.size + 1, 36, none⟩ = some (.int .i64 a0) ∧ W.cell? ⟨k1.heap.size + 1, 37, none⟩ = some (.string KY) ∧ W.cell? ⟨k1.heap.size + 1, 38, none⟩ = some (.int .i64 1) ∧ W.cell? ⟨k1.heap.size + 1, 39, none⟩ = some (.int .i64 1) ∧ W.cell? ⟨k1.heap.size + 1, 40, none⟩ = some (.string ⟨#[]⟩) ∧ W.cell? ⟨k1.heap.size + 1, 41, none⟩ = some (.int .i64 1) ∧ W.cell? ⟨k1.heap.size + 1, 42, none⟩ = some (.int .i64 1) ∧ W.cell? ⟨k1.heap.size + 1, 43, none⟩ = some (.string ⟨#[]⟩) ∧ W.cell? ⟨k1.heap.size + 1, 44, none⟩ = some (.int .i64 0)) (by kernel_rfl) ?_ (fun hHeld => ?_)
        · exact ⟨g36, g37, g38, g39, g40, g41, g42, g43, g44⟩
        replace hb : Below w.heap.size w wr.drew := hb.drew
        replace lt0 : k1.heap.size + 1 < wr.drew.heap.size := lt0
        have hzd : wr.heap.size ≤ wr.drew.heap.size := Nat.le_refl _
        generalize wr.drew = k71 at *
        refine wpAnyH_take (i := 0) (oi := { dst := some 52, op := Op.move (Operand.tmp 9), type := 27, pos := "wide.go:53", after := #[], guard := none }) (v := .slice (some ⟨k1.heap.size + 1, 0, none⟩) 6 6) rfl (by kernel_rfl) (by kernel_rfl) (by kernel_rfl) (fun _ _ _ h => h) (Or.inl ⟨by rfl, fun w hSw => ?_⟩) (by assumption) ?_
        · (try dsimp only at hSw)
          go_simp
        try simp only [Act.put, List.setIfInBounds_toArray, List.set_cons_zero, List.set_cons_succ]
        refine wpAnyH_take (i := 1) (oi := { dst := some 53, op := Op.move (Operand.tmp 10), type := 3, pos := "wide.go:53", after := #[], guard := none }) (v := .int .i64 4) rfl (by kernel_rfl) (by kernel_rfl) (by kernel_rfl) (fun _ _ _ h => h) (Or.inl ⟨by rfl, fun w hSw => ?_⟩) (by assumption) ?_
        · (try dsimp only at hSw)
          go_simp
        try simp only [Act.put, List.setIfInBounds_toArray, List.set_cons_zero, List.set_cons_succ]
        refine wpAnyH_take (i := 2) (oi := { dst := some 54, op := Op.indexAddr 27 (Operand.tmp 52) (Operand.tmp 53), type := 0, pos := "wide.go:53", after := #[{ on := 0, ground := Ground.data }, { on := 1, ground := Ground.data }], guard := none }) (v := .pointer (some ⟨k1.heap.size + 1, 36, none⟩)) rfl (by kernel_rfl) (by kernel_rfl) (by kernel_rfl) (fun _ _ _ h => h) (Or.inl ⟨by rfl, fun w hSw => ?_⟩) (by assumption) ?_
        · (try dsimp only at hSw)
          go_simp
        try simp only [Act.put, List.setIfInBounds_toArray, List.set_cons_zero, List.set_cons_succ]
        refine wpAnyH_take (i := 3) (oi := { dst := some 55, op := Op.load 25 (Operand.tmp 54), type := 25, pos := "wide.go:53", after := #[{ on := 2, ground := Ground.data }], guard := none }) (v := .agg #[.int .i64 a0, .string KY, .int .i64 1, .int .i64 1, .string ⟨#[]⟩, .int .i64 1, .int .i64 1, .string ⟨#[]⟩, .int .i64 0]) rfl (by kernel_rfl) (by kernel_rfl) (by kernel_rfl) (fun _ _ _ h => h) (Or.inl ⟨by rfl, fun w hSw => ?_⟩) (by assumption) ?_
        · (try dsimp only at hSw)
          go_simp
        try simp only [Act.put, List.setIfInBounds_toArray, List.set_cons_zero, List.set_cons_succ]
        refine wpAnyH_take (i := 5) (oi := { dst := some 57, op := Op.move (Operand.tmp 9), type := 27, pos := "wide.go:53", after := #[], guard := none }) (v := .slice (some ⟨k1.heap.size + 1, 0, none⟩) 6 6) rfl (by kernel_rfl) (by kernel_rfl) (by kernel_rfl) (fun _ _ _ h => h) (Or.inl ⟨by rfl, fun w hSw => ?_⟩) (by assumption) ?_
        · (try dsimp only at hSw)
          go_simp
        try simp only [Act.put, List.setIfInBounds_toArray, List.set_cons_zero, List.set_cons_succ]
        refine wpAnyH_take (i := 6) (oi := { dst := some 58, op := Op.move (Operand.tmp 10), type := 3, pos := "wide.go:53", after := #[], guard := none }) (v := .int .i64 4) rfl (by kernel_rfl) (by kernel_rfl) (by kernel_rfl) (fun _ _ _ h => h) (Or.inl ⟨by rfl, fun w hSw => ?_⟩) (by assumption) ?_
        · (try dsimp only at hSw)
          go_simp
        try simp only [Act.put, List.setIfInBounds_toArray, List.set_cons_zero, List.set_cons_succ]
        refine wpAnyH_take (i := 7) (oi := { dst := some 59, op := Op.indexAddr 27 (Operand.tmp 57) (Operand.tmp 58), type := 0, pos := "wide.go:53", after := #[{ on := 5, ground := Ground.data }, { on := 6, ground := Ground.data }], guard := none }) (v := .pointer (some ⟨k1.heap.size + 1, 36, none⟩)) rfl (by kernel_rfl) (by kernel_rfl) (by kernel_rfl) (fun _ _ _ h => h) (Or.inl ⟨by rfl, fun w hSw => ?_⟩) (by assumption) ?_
        · (try dsimp only at hSw)
          go_simp
        try simp only [Act.put, List.setIfInBounds_toArray, List.set_cons_zero, List.set_cons_succ]
        refine wpAnyH_take (i := 8) (oi := { dst := some 60, op := Op.load 25 (Operand.tmp 59), type := 25, pos := "wide.go:53", after := #[{ on := 7, ground := Ground.data }], guard := none }) (v := .agg #[.int .i64 a0, .string KY, .int .i64 1, .int .i64 1, .string ⟨#[]⟩, .int .i64 1, .int .i64 1, .string ⟨#[]⟩, .int .i64 0]) rfl (by kernel_rfl) (by kernel_rfl) (by kernel_rfl) (fun _ _ _ h => h) (Or.inl ⟨by rfl, fun w hSw => ?_⟩) (by assumption) ?_
        · (try dsimp only at hSw)
          go_simp
        try simp only [Act.put, List.setIfInBounds_toArray, List.set_cons_zero, List.set_cons_succ]
        refine wpAnyH_ready (rs := [4]) (by kernel_rfl) (by simp) ?_
        refine AllReadyH.cons (o := { dst := some 56, op := Op.call { callee := Callee.value (Operand.func 12), args := #[Operand.tmp 55], argTypes := #[25] }, type := 4, pos := "wide.go:53", after := #[{ on := 3, ground := Ground.data }], guard := none }) rfl (fun K hK => ?_) (AllReadyH.nil)
        go_simp
        go_at_call 12
        refine (omay_is _ ⟨a0, KY, ⟨1, 1, ⟨#[]⟩⟩, ⟨1, 1, ⟨#[]⟩⟩, 0⟩ x _ rfl ⟨Nat.le_trans hKs (by decide), Nat.zero_le _, Nat.zero_le _⟩ HX.out).mono ?_
        rintro e k72 ⟨rfl, h⟩
        have hk : Below k71.heap.size k71 k72 := by
          refine Below.trans ?_ (h.mono (by first | (simp; done) | (simp; omega) | omega))
          repeat' (first | with_reducible exact Below.refl _ _ | (with_reducible refine Below.alloc ?_ ?_ _) | (with_reducible refine Below.setCell ?_ ?_ _) | exact (by first | (simp; done) | (simp; omega) | omega))
        have hz := h.size
        try simp at hz
        replace g36 : k72.cell? ⟨k1.heap.size + 1, 36, none⟩ = some (.int .i64 a0) := (hk.cell (p := ⟨k1.heap.size + 1, 36, none⟩) (by first | (simp; done) | (simp; omega) | omega)).trans g36
        replace g37 : k72.cell? ⟨k1.heap.size + 1, 37, none⟩ = some (.string KY) := (hk.cell (p := ⟨k1.heap.size + 1, 37, none⟩) (by first | (simp; done) | (simp; omega) | omega)).trans g37
        replace g38 : k72.cell? ⟨k1.heap.size + 1, 38, none⟩ = some (.int .i64 1) := (hk.cell (p := ⟨k1.heap.size + 1, 38, none⟩) (by first | (simp; done) | (simp; omega) | omega)).trans g38
        replace g39 : k72.cell? ⟨k1.heap.size + 1, 39, none⟩ = some (.int .i64 1) := (hk.cell (p := ⟨k1.heap.size + 1, 39, none⟩) (by first | (simp; done) | (simp; omega) | omega)).trans g39
        replace g40 : k72.cell? ⟨k1.heap.size + 1, 40, none⟩ = some (.string ⟨#[]⟩) := (hk.cell (p := ⟨k1.heap.size + 1, 40, none⟩) (by first | (simp; done) | (simp; omega) | omega)).trans g40
        replace g41 : k72.cell? ⟨k1.heap.size + 1, 41, none⟩ = some (.int .i64 1) := (hk.cell (p := ⟨k1.heap.size + 1, 41, none⟩) (by first | (simp; done) | (simp; omega) | omega)).trans g41
        replace g42 : k72.cell? ⟨k1.heap.size + 1, 42, none⟩ = some (.int .i64 1) := (hk.cell (p := ⟨k1.heap.size + 1, 42, none⟩) (by first | (simp; done) | (simp; omega) | omega)).trans g42
        replace g43 : k72.cell? ⟨k1.heap.size + 1, 43, none⟩ = some (.string ⟨#[]⟩) := (hk.cell (p := ⟨k1.heap.size + 1, 43, none⟩) (by first | (simp; done) | (simp; omega) | omega)).trans g43
        replace g44 : k72.cell? ⟨k1.heap.size + 1, 44, none⟩ = some (.int .i64 0) := (hk.cell (p := ⟨k1.heap.size + 1, 44, none⟩) (by first | (simp; done) | (simp; omega) | omega)).trans g44
        replace HKR := Lib.hid (Below.trans HKR.out (Below.mono hk (by omega)))
        replace hb : Below w.heap.size w k72 := hb.trans (hk.mono hb.size)
        have lt0 : k1.heap.size + 1 < k72.heap.size := (by first | (simp; done) | (simp; omega) | omega)
        clear h hk
        try dsimp only
        refine hK.out _ _ ?_ (fun hHeld => ?_)
        · exact ⟨g36, g37, g38, g39, g40, g41, g42, g43, g44⟩
        clear hK K
        try simp only [Act.put, List.setIfInBounds_toArray, List.set_cons_zero, List.set_cons_succ]
        refine wpAnyH_ready (rs := [9]) (by kernel_rfl) (by simp) ?_
        refine AllReadyH.cons (o := { dst := some 61, op := Op.call { callee := Callee.value (Operand.func 13), args := #[Operand.tmp 60], argTypes := #[25] }, type := 4, pos := "wide.go:53", after := #[{ on := 8, ground := Ground.data }, { on := 4, ground := Ground.chain }], guard := none }) rfl (fun K hK => ?_) (AllReadyH.nil)
        go_simp
        go_at_call 13
        refine (rmayOp_is _ ⟨a0, KY, ⟨1, 1, ⟨#[]⟩⟩, ⟨1, 1, ⟨#[]⟩⟩, 0⟩ x _ rfl ⟨Nat.le_trans hKs (by decide), Nat.zero_le _, Nat.zero_le _⟩ HX.out).mono ?_
        rintro e k73 ⟨rfl, h⟩
        have hk : Below k72.heap.size k72 k73 := by
          refine Below.trans ?_ (h.mono (by first | (simp; done) | (simp; omega) | omega))
          repeat' (first | with_reducible exact Below.refl _ _ | (with_reducible refine Below.alloc ?_ ?_ _) | (with_reducible refine Below.setCell ?_ ?_ _) | exact (by first | (simp; done) | (simp; omega) | omega))
        have hz := h.size
        try simp at hz
        replace g36 : k73.cell? ⟨k1.heap.size + 1, 36, none⟩ = some (.int .i64 a0) := (hk.cell (p := ⟨k1.heap.size + 1, 36, none⟩) (by first | (simp; done) | (simp; omega) | omega)).trans g36
        replace g37 : k73.cell? ⟨k1.heap.size + 1, 37, none⟩ = some (.string KY) := (hk.cell (p := ⟨k1.heap.size + 1, 37, none⟩) (by first | (simp; done) | (simp; omega) | omega)).trans g37
        replace g38 : k73.cell? ⟨k1.heap.size + 1, 38, none⟩ = some (.int .i64 1) := (hk.cell (p := ⟨k1.heap.size + 1, 38, none⟩) (by first | (simp; done) | (simp; omega) | omega)).trans g38
        replace g39 : k73.cell? ⟨k1.heap.size + 1, 39, none⟩ = some (.int .i64 1) := (hk.cell (p := ⟨k1.heap.size + 1, 39, none⟩) (by first | (simp; done) | (simp; omega) | omega)).trans g39
        replace g40 : k73.cell? ⟨k1.heap.size + 1, 40, none⟩ = some (.string ⟨#[]⟩) := (hk.cell (p := ⟨k1.heap.size + 1, 40, none⟩) (by first | (simp; done) | (simp; omega) | omega)).trans g40
        replace g41 : k73.cell? ⟨k1.heap.size + 1, 41, none⟩ = some (.int .i64 1) := (hk.cell (p := ⟨k1.heap.size + 1, 41, none⟩) (by first | (simp; done) | (simp; omega) | omega)).trans g41
        replace g42 : k73.cell? ⟨k1.heap.size + 1, 42, none⟩ = some (.int .i64 1) := (hk.cell (p := ⟨k1.heap.size + 1, 42, none⟩) (by first | (simp; done) | (simp; omega) | omega)).trans g42
        replace g43 : k73.cell? ⟨k1.heap.size + 1, 43, none⟩ = some (.string ⟨#[]⟩) := (hk.cell (p := ⟨k1.heap.size + 1, 43, none⟩) (by first | (simp; done) | (simp; omega) | omega)).trans g43
        replace g44 : k73.cell? ⟨k1.heap.size + 1, 44, none⟩ = some (.int .i64 0) := (hk.cell (p := ⟨k1.heap.size + 1, 44, none⟩) (by first | (simp; done) | (simp; omega) | omega)).trans g44
        replace HKR := Lib.hid (Below.trans HKR.out (Below.mono hk (by omega)))
        replace hb : Below w.heap.size w k73 := hb.trans (hk.mono hb.size)
        have lt0 : k1.heap.size + 1 < k73.heap.size := (by first | (simp; done) | (simp; omega) | omega)
        clear h hk
        try dsimp only
        refine hK.out _ _ ?_ (fun hHeld => ?_)
        · exact ⟨g36, g37, g38, g39, g40, g41, g42, g43, g44⟩
        clear hK K
        try simp only [Act.put, List.setIfInBounds_toArray, List.set_cons_zero, List.set_cons_succ]
        refine wpAnyH_ready (rs := [10]) (by kernel_rfl) (by simp) ?_
        refine AllReadyH.cons (o := { dst := some 62, op := Op.binOp BinOp.neq 4 (Operand.tmp 56) (Operand.tmp 61) 4, type := 4, pos := "wide.go:53", after := #[{ on := 4, ground := Ground.data }, { on := 9, ground := Ground.data }], guard := none }) rfl (fun K hK => ?_) (AllReadyH.nil)
        go_simp
        refine hK.out _ _ ?_ (fun hHeld => ?_)
        · exact ⟨g36, g37, g38, g39, g40, g41, g42, g43, g44⟩
        clear hK K
        try simp only [Act.put, List.setIfInBounds_toArray, List.set_cons_zero, List.set_cons_succ]
        refine wpAnyH_done (by kernel_rfl) ?_ _
        refine NoPanic.normal ?_
        go_wp2
        go_roundw
        case rel => exact ⟨5, by go_num, by decide, HKR.out⟩
        case measure => simp [intOf]
      · have g45 := (hkw.cell (p := ⟨k1.heap.size + 1, 45, none⟩) (by first | (simp; done) | (simp; omega) | omega)).trans g45
        have g46 := (hkw.cell (p := ⟨k1.heap.size + 1, 46, none⟩) (by first | (simp; done) | (simp; omega) | omega)).trans g46
        have g47 := (hkw.cell (p := ⟨k1.heap.size + 1, 47, none⟩) (by first | (simp; done) | (simp; omega) | omega)).trans g47
        have g48 := (hkw.cell (p := ⟨k1.heap.size + 1, 48, none⟩) (by first | (simp; done) | (simp; omega) | omega)).trans g48
        have g49 := (hkw.cell (p := ⟨k1.heap.size + 1, 49, none⟩) (by first | (simp; done) | (simp; omega) | omega)).trans g49
        have g50 := (hkw.cell (p := ⟨k1.heap.size + 1, 50, none⟩) (by first | (simp; done) | (simp; omega) | omega)).trans g50
        have g51 := (hkw.cell (p := ⟨k1.heap.size + 1, 51, none⟩) (by first | (simp; done) | (simp; omega) | omega)).trans g51
        have g52 := (hkw.cell (p := ⟨k1.heap.size + 1, 52, none⟩) (by first | (simp; done) | (simp; omega) | omega)).trans g52
        have g53 := (hkw.cell (p := ⟨k1.heap.size + 1, 53, none⟩) (by first | (simp; done) | (simp; omega) | omega)).trans g53
        have lt0 : k1.heap.size + 1 < wr.heap.size := (by first | (simp; done) | (simp; omega) | omega)
        obtain ⟨x, hx⟩ : ∃ x, mayO ⟨a0, KY, ⟨1, 1, ⟨#[]⟩⟩, ⟨0, 0, ⟨#[]⟩⟩, a2⟩ = x := ⟨_, rfl⟩
        have HX := Lib.hid hx; clear hx
        have hkr : Below k2.heap.size k2 wr := hkw
        have HKR := Lib.hid hkr; clear hkr
        go_wp2
        replace g45 : wr.drew.cell? ⟨k1.heap.size + 1, 45, none⟩ = some (.int .i64 a0) := g45
        replace g46 : wr.drew.cell? ⟨k1.heap.size + 1, 46, none⟩ = some (.string KY) := g46
        replace g47 : wr.drew.cell? ⟨k1.heap.size + 1, 47, none⟩ = some (.int .i64 1) := g47
        replace g48 : wr.drew.cell? ⟨k1.heap.size + 1, 48, none⟩ = some (.int .i64 1) := g48
        replace g49 : wr.drew.cell? ⟨k1.heap.size + 1, 49, none⟩ = some (.string ⟨#[]⟩) := g49
        replace g50 : wr.drew.cell? ⟨k1.heap.size + 1, 50, none⟩ = some (.int .i64 0) := g50
        replace g51 : wr.drew.cell? ⟨k1.heap.size + 1, 51, none⟩ = some (.int .i64 0) := g51
        replace g52 : wr.drew.cell? ⟨k1.heap.size + 1, 52, none⟩ = some (.string ⟨#[]⟩) := g52
        replace g53 : wr.drew.cell? ⟨k1.heap.size + 1, 53, none⟩ = some (.int .i64 a2) := g53
        replace HKR := Lib.hid (Below.trans HKR.out (Below.mono ((Below.refl wr.heap.size wr).drew) (by omega)))
        refine wp_region_noPanic ?_
        refine wp_region_held_drew (S := fun W => W.cell? ⟨k1.heap.size + 1, 45, none⟩ = some (.int .i64 a0) ∧ W.cell? ⟨k1.heap.size + 1, 46, none⟩ = some (.string KY) ∧ W.cell? ⟨k1.heap.size + 1, 47, none⟩ = some (.int .i64 1) ∧ W.cell? ⟨k1.heap.size + 1, 48, none⟩ = some (.int .i64 1) ∧ W.cell? ⟨k1.heap.size + 1, 49, none⟩ = some (.string ⟨#[]⟩) ∧ W.cell? ⟨k1.heap.size + 1, 50, none⟩ = some (.int .i64 0) ∧ W.cell? ⟨k1.heap.size + 1, 51, none⟩ = some (.int .i64 0) ∧ W.cell? ⟨k1.heap.size + 1, 52, none⟩ = some (.string ⟨#[]⟩) ∧ W.cell? ⟨k1.heap.size + 1, 53, none⟩ = some (.int .i64 a2)) (by kernel_rfl) ?_ (fun hHeld => ?_)
        · exact ⟨g45, g46, g47, g48, g49, g50, g51, g52, g53⟩
        replace hb : Below w.heap.size w wr.drew := hb.drew
        replace lt0 : k1.heap.size + 1 < wr.drew.heap.size := lt0
        have hzd : wr.heap.size ≤ wr.drew.heap.size := Nat.le_refl _
        generalize wr.drew = k81 at *
        refine wpAnyH_take (i := 0) (oi := { dst := some 52, op := Op.move (Operand.tmp 9), type := 27, pos := "wide.go:53", after := #[], guard := none }) (v := .slice (some ⟨k1.heap.size + 1, 0, none⟩) 6 6) rfl (by kernel_rfl) (by kernel_rfl) (by kernel_rfl) (fun _ _ _ h => h) (Or.inl ⟨by rfl, fun w hSw => ?_⟩) (by assumption) ?_
        · (try dsimp only at hSw)
          go_simp
        try simp only [Act.put, List.setIfInBounds_toArray, List.set_cons_zero, List.set_cons_succ]
        refine wpAnyH_take (i := 1) (oi := { dst := some 53, op := Op.move (Operand.tmp 10), type := 3, pos := "wide.go:53", after := #[], guard := none }) (v := .int .i64 5) rfl (by kernel_rfl) (by kernel_rfl) (by kernel_rfl) (fun _ _ _ h => h) (Or.inl ⟨by rfl, fun w hSw => ?_⟩) (by assumption) ?_
        · (try dsimp only at hSw)
          go_simp
        try simp only [Act.put, List.setIfInBounds_toArray, List.set_cons_zero, List.set_cons_succ]
        refine wpAnyH_take (i := 2) (oi := { dst := some 54, op := Op.indexAddr 27 (Operand.tmp 52) (Operand.tmp 53), type := 0, pos := "wide.go:53", after := #[{ on := 0, ground := Ground.data }, { on := 1, ground := Ground.data }], guard := none }) (v := .pointer (some ⟨k1.heap.size + 1, 45, none⟩)) rfl (by kernel_rfl) (by kernel_rfl) (by kernel_rfl) (fun _ _ _ h => h) (Or.inl ⟨by rfl, fun w hSw => ?_⟩) (by assumption) ?_
        · (try dsimp only at hSw)
          go_simp
        try simp only [Act.put, List.setIfInBounds_toArray, List.set_cons_zero, List.set_cons_succ]
        refine wpAnyH_take (i := 3) (oi := { dst := some 55, op := Op.load 25 (Operand.tmp 54), type := 25, pos := "wide.go:53", after := #[{ on := 2, ground := Ground.data }], guard := none }) (v := .agg #[.int .i64 a0, .string KY, .int .i64 1, .int .i64 1, .string ⟨#[]⟩, .int .i64 0, .int .i64 0, .string ⟨#[]⟩, .int .i64 a2]) rfl (by kernel_rfl) (by kernel_rfl) (by kernel_rfl) (fun _ _ _ h => h) (Or.inl ⟨by rfl, fun w hSw => ?_⟩) (by assumption) ?_
        · (try dsimp only at hSw)
          go_simp
        try simp only [Act.put, List.setIfInBounds_toArray, List.set_cons_zero, List.set_cons_succ]
        refine wpAnyH_take (i := 5) (oi := { dst := some 57, op := Op.move (Operand.tmp 9), type := 27, pos := "wide.go:53", after := #[], guard := none }) (v := .slice (some ⟨k1.heap.size + 1, 0, none⟩) 6 6) rfl (by kernel_rfl) (by kernel_rfl) (by kernel_rfl) (fun _ _ _ h => h) (Or.inl ⟨by rfl, fun w hSw => ?_⟩) (by assumption) ?_
        · (try dsimp only at hSw)
          go_simp
        try simp only [Act.put, List.setIfInBounds_toArray, List.set_cons_zero, List.set_cons_succ]
        refine wpAnyH_take (i := 6) (oi := { dst := some 58, op := Op.move (Operand.tmp 10), type := 3, pos := "wide.go:53", after := #[], guard := none }) (v := .int .i64 5) rfl (by kernel_rfl) (by kernel_rfl) (by kernel_rfl) (fun _ _ _ h => h) (Or.inl ⟨by rfl, fun w hSw => ?_⟩) (by assumption) ?_
        · (try dsimp only at hSw)
          go_simp
        try simp only [Act.put, List.setIfInBounds_toArray, List.set_cons_zero, List.set_cons_succ]
        refine wpAnyH_take (i := 7) (oi := { dst := some 59, op := Op.indexAddr 27 (Operand.tmp 57) (Operand.tmp 58), type := 0, pos := "wide.go:53", after := #[{ on := 5, ground := Ground.data }, { on := 6, ground := Ground.data }], guard := none }) (v := .pointer (some ⟨k1.heap.size + 1, 45, none⟩)) rfl (by kernel_rfl) (by kernel_rfl) (by kernel_rfl) (fun _ _ _ h => h) (Or.inl ⟨by rfl, fun w hSw => ?_⟩) (by assumption) ?_
        · (try dsimp only at hSw)
          go_simp
        try simp only [Act.put, List.setIfInBounds_toArray, List.set_cons_zero, List.set_cons_succ]
        refine wpAnyH_take (i := 8) (oi := { dst := some 60, op := Op.load 25 (Operand.tmp 59), type := 25, pos := "wide.go:53", after := #[{ on := 7, ground := Ground.data }], guard := none }) (v := .agg #[.int .i64 a0, .string KY, .int .i64 1, .int .i64 1, .string ⟨#[]⟩, .int .i64 0, .int .i64 0, .string ⟨#[]⟩, .int .i64 a2]) rfl (by kernel_rfl) (by kernel_rfl) (by kernel_rfl) (fun _ _ _ h => h) (Or.inl ⟨by rfl, fun w hSw => ?_⟩) (by assumption) ?_
        · (try dsimp only at hSw)
          go_simp
        try simp only [Act.put, List.setIfInBounds_toArray, List.set_cons_zero, List.set_cons_succ]
        refine wpAnyH_ready (rs := [4]) (by kernel_rfl) (by simp) ?_
        refine AllReadyH.cons (o := { dst := some 56, op := Op.call { callee := Callee.value (Operand.func 12), args := #[Operand.tmp 55], argTypes := #[25] }, type := 4, pos := "wide.go:53", after := #[{ on := 3, ground := Ground.data }], guard := none }) rfl (fun K hK => ?_) (AllReadyH.nil)
        go_simp
        go_at_call 12
        refine (omay_is _ ⟨a0, KY, ⟨1, 1, ⟨#[]⟩⟩, ⟨0, 0, ⟨#[]⟩⟩, a2⟩ x _ rfl ⟨Nat.le_trans hKs (by decide), Nat.zero_le _, Nat.zero_le _⟩ HX.out).mono ?_
        rintro e k82 ⟨rfl, h⟩
        have hk : Below k81.heap.size k81 k82 := by
          refine Below.trans ?_ (h.mono (by first | (simp; done) | (simp; omega) | omega))
          repeat' (first | with_reducible exact Below.refl _ _ | (with_reducible refine Below.alloc ?_ ?_ _) | (with_reducible refine Below.setCell ?_ ?_ _) | exact (by first | (simp; done) | (simp; omega) | omega))
        have hz := h.size
        try simp at hz
        replace g45 : k82.cell? ⟨k1.heap.size + 1, 45, none⟩ = some (.int .i64 a0) := (hk.cell (p := ⟨k1.heap.size + 1, 45, none⟩) (by first | (simp; done) | (simp; omega) | omega)).trans g45
        replace g46 : k82.cell? ⟨k1.heap.size + 1, 46, none⟩ = some (.string KY) := (hk.cell (p := ⟨k1.heap.size + 1, 46, none⟩) (by first | (simp; done) | (simp; omega) | omega)).trans g46
        replace g47 : k82.cell? ⟨k1.heap.size + 1, 47, none⟩ = some (.int .i64 1) := (hk.cell (p := ⟨k1.heap.size + 1, 47, none⟩) (by first | (simp; done) | (simp; omega) | omega)).trans g47
        replace g48 : k82.cell? ⟨k1.heap.size + 1, 48, none⟩ = some (.int .i64 1) := (hk.cell (p := ⟨k1.heap.size + 1, 48, none⟩) (by first | (simp; done) | (simp; omega) | omega)).trans g48
        replace g49 : k82.cell? ⟨k1.heap.size + 1, 49, none⟩ = some (.string ⟨#[]⟩) := (hk.cell (p := ⟨k1.heap.size + 1, 49, none⟩) (by first | (simp; done) | (simp; omega) | omega)).trans g49
        replace g50 : k82.cell? ⟨k1.heap.size + 1, 50, none⟩ = some (.int .i64 0) := (hk.cell (p := ⟨k1.heap.size + 1, 50, none⟩) (by first | (simp; done) | (simp; omega) | omega)).trans g50
        replace g51 : k82.cell? ⟨k1.heap.size + 1, 51, none⟩ = some (.int .i64 0) := (hk.cell (p := ⟨k1.heap.size + 1, 51, none⟩) (by first | (simp; done) | (simp; omega) | omega)).trans g51
        replace g52 : k82.cell? ⟨k1.heap.size + 1, 52, none⟩ = some (.string ⟨#[]⟩) := (hk.cell (p := ⟨k1.heap.size + 1, 52, none⟩) (by first | (simp; done) | (simp; omega) | omega)).trans g52
        replace g53 : k82.cell? ⟨k1.heap.size + 1, 53, none⟩ = some (.int .i64 a2) := (hk.cell (p := ⟨k1.heap.size + 1, 53, none⟩) (by first | (simp; done) | (simp; omega) | omega)).trans g53
        replace HKR := Lib.hid (Below.trans HKR.out (Below.mono hk (by omega)))
        replace hb : Below w.heap.size w k82 := hb.trans (hk.mono hb.size)
        have lt0 : k1.heap.size + 1 < k82.heap.size := (by first | (simp; done) | (simp; omega) | omega)
        clear h hk
        try dsimp only
        refine hK.out _ _ ?_ (fun hHeld => ?_)
        · exact ⟨g45, g46, g47, g48, g49, g50, g51, g52, g53⟩
        clear hK K
        try simp only [Act.put, List.setIfInBounds_toArray, List.set_cons_zero, List.set_cons_succ]
        refine wpAnyH_ready (rs := [9]) (by kernel_rfl) (by simp) ?_
        refine AllReadyH.cons (o := { dst := some 61, op := Op.call { callee := Callee.value (Operand.func 13), args := #[Operand.tmp 60], argTypes := #[25] }, type := 4, pos := "wide.go:53", after := #[{ on := 8, ground := Ground.data }, { on := 4, ground := Ground.chain }], guard := none }) rfl (fun K hK => ?_) (AllReadyH.nil)
        go_simp
        go_at_call 13
        refine (rmayOp_is _ ⟨a0, KY, ⟨1, 1, ⟨#[]⟩⟩, ⟨0, 0, ⟨#[]⟩⟩, a2⟩ x _ rfl ⟨Nat.le_trans hKs (by decide), Nat.zero_le _, Nat.zero_le _⟩ HX.out).mono ?_
        rintro e k83 ⟨rfl, h⟩
        have hk : Below k82.heap.size k82 k83 := by
          refine Below.trans ?_ (h.mono (by first | (simp; done) | (simp; omega) | omega))
          repeat' (first | with_reducible exact Below.refl _ _ | (with_reducible refine Below.alloc ?_ ?_ _) | (with_reducible refine Below.setCell ?_ ?_ _) | exact (by first | (simp; done) | (simp; omega) | omega))
        have hz := h.size
        try simp at hz
        replace g45 : k83.cell? ⟨k1.heap.size + 1, 45, none⟩ = some (.int .i64 a0) := (hk.cell (p := ⟨k1.heap.size + 1, 45, none⟩) (by first | (simp; done) | (simp; omega) | omega)).trans g45
        replace g46 : k83.cell? ⟨k1.heap.size + 1, 46, none⟩ = some (.string KY) := (hk.cell (p := ⟨k1.heap.size + 1, 46, none⟩) (by first | (simp; done) | (simp; omega) | omega)).trans g46
        replace g47 : k83.cell? ⟨k1.heap.size + 1, 47, none⟩ = some (.int .i64 1) := (hk.cell (p := ⟨k1.heap.size + 1, 47, none⟩) (by first | (simp; done) | (simp; omega) | omega)).trans g47
        replace g48 : k83.cell? ⟨k1.heap.size + 1, 48, none⟩ = some (.int .i64 1) := (hk.cell (p := ⟨k1.heap.size + 1, 48, none⟩) (by first | (simp; done) | (simp; omega) | omega)).trans g48
        replace g49 : k83.cell? ⟨k1.heap.size + 1, 49, none⟩ = some (.string ⟨#[]⟩) := (hk.cell (p := ⟨k1.heap.size + 1, 49, none⟩) (by first | (simp; done) | (simp; omega) | omega)).trans g49
        replace g50 : k83.cell? ⟨k1.heap.size + 1, 50, none⟩ = some (.int .i64 0) := (hk.cell (p := ⟨k1.heap.size + 1, 50, none⟩) (by first | (simp; done) | (simp; omega) | omega)).trans g50
        replace g51 : k83.cell? ⟨k1.heap.size + 1, 51, none⟩ = some (.int .i64 0) := (hk.cell (p := ⟨k1.heap.size + 1, 51, none⟩) (by first | (simp; done) | (simp; omega) | omega)).trans g51
        replace g52 : k83.cell? ⟨k1.heap.size + 1, 52, none⟩ = some (.string ⟨#[]⟩) := (hk.cell (p := ⟨k1.heap.size + 1, 52, none⟩) (by first | (simp; done) | (simp; omega) | omega)).trans g52
        replace g53 : k83.cell? ⟨k1.heap.size + 1, 53, none⟩ = some (.int .i64 a2) := (hk.cell (p := ⟨k1.heap.size + 1, 53, none⟩) (by first | (simp; done) | (simp; omega) | omega)).trans g53
        replace HKR := Lib.hid (Below.trans HKR.out (Below.mono hk (by omega)))
        replace hb : Below w.heap.size w k83 := hb.trans (hk.mono hb.size)
        have lt0 : k1.heap.size + 1 < k83.heap.size := (by first | (simp; done) | (simp; omega) | omega)
        clear h hk
        try dsimp only
        refine hK.out _ _ ?_ (fun hHeld => ?_)
        · exact ⟨g45, g46, g47, g48, g49, g50, g51, g52, g53⟩
        clear hK K
        try simp only [Act.put, List.setIfInBounds_toArray, List.set_cons_zero, List.set_cons_succ]
        refine wpAnyH_ready (rs := [10]) (by kernel_rfl) (by simp) ?_
        refine AllReadyH.cons (o := { dst := some 62, op := Op.binOp BinOp.neq 4 (Operand.tmp 56) (Operand.tmp 61) 4, type := 4, pos := "wide.go:53", after := #[{ on := 4, ground := Ground.data }, { on := 9, ground := Ground.data }], guard := none }) rfl (fun K hK => ?_) (AllReadyH.nil)
        go_simp
        refine hK.out _ _ ?_ (fun hHeld => ?_)
        · exact ⟨g45, g46, g47, g48, g49, g50, g51, g52, g53⟩
        clear hK K
        try simp only [Act.put, List.setIfInBounds_toArray, List.set_cons_zero, List.set_cons_succ]
        refine wpAnyH_done (by kernel_rfl) ?_ _
        refine NoPanic.normal ?_
        go_wp2
        go_roundw
        case rel => exact ⟨6, by go_num, by decide, HKR.out⟩
        case measure => simp [intOf]
      · go_wp2
        go_ret
        exact ⟨rfl, hb⟩
  · have hKs : a1.size ≤ 60 := by omega
    go_wp2
    refine wp_world (fun W => W.cell? ⟨k1.heap.size, 0, none⟩ = some (.int .i64 1) ∧ W.cell? ⟨k1.heap.size + 1, 0, none⟩ = some (.int .i64 a0) ∧ W.cell? ⟨k1.heap.size + 1, 1, none⟩ = some (.string a1) ∧ W.cell? ⟨k1.heap.size + 1, 2, none⟩ = some (.int .i64 0) ∧ W.cell? ⟨k1.heap.size + 1, 3, none⟩ = some (.int .i64 0) ∧ W.cell? ⟨k1.heap.size + 1, 4, none⟩ = some (.string ⟨#[]⟩) ∧ W.cell? ⟨k1.heap.size + 1, 5, none⟩ = some (.int .i64 0) ∧ W.cell? ⟨k1.heap.size + 1, 6, none⟩ = some (.int .i64 0) ∧ W.cell? ⟨k1.heap.size + 1, 7, none⟩ = some (.string ⟨#[]⟩) ∧ W.cell? ⟨k1.heap.size + 1, 8, none⟩ = some (.int .i64 0) ∧ W.cell? ⟨k1.heap.size + 1, 9, none⟩ = some (.int .i64 a0) ∧ W.cell? ⟨k1.heap.size + 1, 10, none⟩ = some (.string a1) ∧ W.cell? ⟨k1.heap.size + 1, 11, none⟩ = some (.int .i64 1) ∧ W.cell? ⟨k1.heap.size + 1, 12, none⟩ = some (.int .i64 1) ∧ W.cell? ⟨k1.heap.size + 1, 13, none⟩ = some (.string ⟨#[]⟩) ∧ W.cell? ⟨k1.heap.size + 1, 14, none⟩ = some (.int .i64 0) ∧ W.cell? ⟨k1.heap.size + 1, 15, none⟩ = some (.int .i64 0) ∧ W.cell? ⟨k1.heap.size + 1, 16, none⟩ = some (.string ⟨#[]⟩) ∧ W.cell? ⟨k1.heap.size + 1, 17, none⟩ = some (.int .i64 0) ∧ W.cell? ⟨k1.heap.size + 1, 18, none⟩ = some (.int .i64 a0) ∧ W.cell? ⟨k1.heap.size + 1, 19, none⟩ = some (.string a1) ∧ W.cell? ⟨k1.heap.size + 1, 20, none⟩ = some (.int .i64 0) ∧ W.cell? ⟨k1.heap.size + 1, 21, none⟩ = some (.int .i64 0) ∧ W.cell? ⟨k1.heap.size + 1, 22, none⟩ = some (.string ⟨#[]⟩) ∧ W.cell? ⟨k1.heap.size + 1, 23, none⟩ = some (.int .i64 1) ∧ W.cell? ⟨k1.heap.size + 1, 24, none⟩ = some (.int .i64 1) ∧ W.cell? ⟨k1.heap.size + 1, 25, none⟩ = some (.string ⟨#[]⟩) ∧ W.cell? ⟨k1.heap.size + 1, 26, none⟩ = some (.int .i64 0) ∧ W.cell? ⟨k1.heap.size + 1, 27, none⟩ = some (.int .i64 a0) ∧ W.cell? ⟨k1.heap.size + 1, 28, none⟩ = some (.string a1) ∧ W.cell? ⟨k1.heap.size + 1, 29, none⟩ = some (.int .i64 0) ∧ W.cell? ⟨k1.heap.size + 1, 30, none⟩ = some (.int .i64 0) ∧ W.cell? ⟨k1.heap.size + 1, 31, none⟩ = some (.string ⟨#[]⟩) ∧ W.cell? ⟨k1.heap.size + 1, 32, none⟩ = some (.int .i64 0) ∧ W.cell? ⟨k1.heap.size + 1, 33, none⟩ = some (.int .i64 0) ∧ W.cell? ⟨k1.heap.size + 1, 34, none⟩ = some (.string ⟨#[]⟩) ∧ W.cell? ⟨k1.heap.size + 1, 35, none⟩ = some (.int .i64 a2) ∧ W.cell? ⟨k1.heap.size + 1, 36, none⟩ = some (.int .i64 a0) ∧ W.cell? ⟨k1.heap.size + 1, 37, none⟩ = some (.string a1) ∧ W.cell? ⟨k1.heap.size + 1, 38, none⟩ = some (.int .i64 1) ∧ W.cell? ⟨k1.heap.size + 1, 39, none⟩ = some (.int .i64 1) ∧ W.cell? ⟨k1.heap.size + 1, 40, none⟩ = some (.string ⟨#[]⟩) ∧ W.cell? ⟨k1.heap.size + 1, 41, none⟩ = some (.int .i64 1) ∧ W.cell? ⟨k1.heap.size + 1, 42, none⟩ = some (.int .i64 1) ∧ W.cell? ⟨k1.heap.size + 1, 43, none⟩ = some (.string ⟨#[]⟩) ∧ W.cell? ⟨k1.heap.size + 1, 44, none⟩ = some (.int .i64 0) ∧ W.cell? ⟨k1.heap.size + 1, 45, none⟩ = some (.int .i64 a0) ∧ W.cell? ⟨k1.heap.size + 1, 46, none⟩ = some (.string a1) ∧ W.cell? ⟨k1.heap.size + 1, 47, none⟩ = some (.int .i64 1) ∧ W.cell? ⟨k1.heap.size + 1, 48, none⟩ = some (.int .i64 1) ∧ W.cell? ⟨k1.heap.size + 1, 49, none⟩ = some (.string ⟨#[]⟩) ∧ W.cell? ⟨k1.heap.size + 1, 50, none⟩ = some (.int .i64 0) ∧ W.cell? ⟨k1.heap.size + 1, 51, none⟩ = some (.int .i64 0) ∧ W.cell? ⟨k1.heap.size + 1, 52, none⟩ = some (.string ⟨#[]⟩) ∧ W.cell? ⟨k1.heap.size + 1, 53, none⟩ = some (.int .i64 a2) ∧ Below (k1.heap.size) k1 W ∧ k1.heap.size + 2 ≤ W.heap.size) ⟨(by go_simp), (by go_simp), (by go_simp), (by go_simp), (by go_simp), (by go_simp), (by go_simp), (by go_simp), (by go_simp), (by go_simp), (by go_simp), (by go_simp), (by go_simp), (by go_simp), (by go_simp), (by go_simp), (by go_simp), (by go_simp), (by go_simp), (by go_simp), (by go_simp), (by go_simp), (by go_simp), (by go_simp), (by go_simp), (by go_simp), (by go_simp), (by go_simp), (by go_simp), (by go_simp), (by go_simp), (by go_simp), (by go_simp), (by go_simp), (by go_simp), (by go_simp), (by go_simp), (by go_simp), (by go_simp), (by go_simp), (by go_simp), (by go_simp), (by go_simp), (by go_simp), (by go_simp), (by go_simp), (by go_simp), (by go_simp), (by go_simp), (by go_simp), (by go_simp), (by go_simp), (by go_simp), (by go_simp), (by go_simp), (by
        repeat' (first | with_reducible exact Below.refl _ _ | (with_reducible refine Below.alloc ?_ ?_ _) | (with_reducible refine Below.setCell ?_ ?_ _) | exact (by first | (simp; done) | (simp; omega) | omega))), (by first | (simp; done) | (simp; omega) | omega)⟩ ?_
    rintro k2 ⟨u0, g0, g1, g2, g3, g4, g5, g6, g7, g8, g9, g10, g11, g12, g13, g14, g15, g16, g17, g18, g19, g20, g21, g22, g23, g24, g25, g26, g27, g28, g29, g30, g31, g32, g33, g34, g35, g36, g37, g38, g39, g40, g41, g42, g43, g44, g45, g46, g47, g48, g49, g50, g51, g52, g53, hk, hz⟩
    replace hb : Below w.heap.size w k2 := hb.trans (hk.mono (by first | exact hb.size | omega | (simp; omega)))
    have lt0 : k1.heap.size < k2.heap.size := (by first | (simp; done) | (simp; omega) | omega)
    have lt1 : k1.heap.size + 1 < k2.heap.size := (by first | (simp; done) | (simp; omega) | omega)
    clear hk
    go_loopw [10] (fun i wr => ∃ k : Nat, i = .int .i64 k ∧ k ≤ 6 ∧ Below k2.heap.size k2 wr) (fun i _ => 6 - (intOf i).toNat)
    case atStart => exact ⟨0, rfl, by decide, Below.refl _ _⟩
    case round =>
      obtain ⟨k, rfl, hk, hkw⟩ := hrel
      have hb0 := hb
      have hb : Below w.heap.size w wr := hb0.trans (hkw.mono hb0.size)
      have hzw := hkw.size
      have h7 : k = 0 ∨ k = 1 ∨ k = 2 ∨ k = 3 ∨ k = 4 ∨ k = 5 ∨ k = 6 := by omega
      rcases h7 with rfl | rfl | rfl | rfl | rfl | rfl | rfl
      · have g0 := (hkw.cell (p := ⟨k1.heap.size + 1, 0, none⟩) (by first | (simp; done) | (simp; omega) | omega)).trans g0
        have g1 := (hkw.cell (p := ⟨k1.heap.size + 1, 1, none⟩) (by first | (simp; done) | (simp; omega) | omega)).trans g1
        have g2 := (hkw.cell (p := ⟨k1.heap.size + 1, 2, none⟩) (by first | (simp; done) | (simp; omega) | omega)).trans g2
        have g3 := (hkw.cell (p := ⟨k1.heap.size + 1, 3, none⟩) (by first | (simp; done) | (simp; omega) | omega)).trans g3
        have g4 := (hkw.cell (p := ⟨k1.heap.size + 1, 4, none⟩) (by first | (simp; done) | (simp; omega) | omega)).trans g4
        have g5 := (hkw.cell (p := ⟨k1.heap.size + 1, 5, none⟩) (by first | (simp; done) | (simp; omega) | omega)).trans g5
        have g6 := (hkw.cell (p := ⟨k1.heap.size + 1, 6, none⟩) (by first | (simp; done) | (simp; omega) | omega)).trans g6
        have g7 := (hkw.cell (p := ⟨k1.heap.size + 1, 7, none⟩) (by first | (simp; done) | (simp; omega) | omega)).trans g7
        have g8 := (hkw.cell (p := ⟨k1.heap.size + 1, 8, none⟩) (by first | (simp; done) | (simp; omega) | omega)).trans g8
        have lt0 : k1.heap.size + 1 < wr.heap.size := (by first | (simp; done) | (simp; omega) | omega)
        obtain ⟨x, hx⟩ : ∃ x, mayO ⟨a0, a1, ⟨0, 0, ⟨#[]⟩⟩, ⟨0, 0, ⟨#[]⟩⟩, 0⟩ = x := ⟨_, rfl⟩
        have HX := Lib.hid hx; clear hx
        have hkr : Below k2.heap.size k2 wr := hkw
        have HKR := Lib.hid hkr; clear hkr
        go_wp2
        replace g0 : wr.drew.cell? ⟨k1.heap.size + 1, 0, none⟩ = some (.int .i64 a0) := g0
        replace g1 : wr.drew.cell? ⟨k1.heap.size + 1, 1, none⟩ = some (.string a1) := g1
        replace g2 : wr.drew.cell? ⟨k1.heap.size + 1, 2, none⟩ = some (.int .i64 0) := g2
        replace g3 : wr.drew.cell? ⟨k1.heap.size + 1, 3, none⟩ = some (.int .i64 0) := g3
        replace g4 : wr.drew.cell? ⟨k1.heap.size + 1, 4, none⟩ = some (.string ⟨#[]⟩) := g4
        replace g5 : wr.drew.cell? ⟨k1.heap.size + 1, 5, none⟩ = some (.int .i64 0) := g5
        replace g6 : wr.drew.cell? ⟨k1.heap.size + 1, 6, none⟩ = some (.int .i64 0) := g6
        replace g7 : wr.drew.cell? ⟨k1.heap.size + 1, 7, none⟩ = some (.string ⟨#[]⟩) := g7
        replace g8 : wr.drew.cell? ⟨k1.heap.size + 1, 8, none⟩ = some (.int .i64 0) := g8
        replace HKR := Lib.hid (Below.trans HKR.out (Below.mono ((Below.refl wr.heap.size wr).drew) (by omega)))
        refine wp_region_noPanic ?_
        refine wp_region_held_drew (S := fun W => W.cell? ⟨k1.heap.size + 1, 0, none⟩ = some (.int .i64 a0) ∧ W.cell? ⟨k1.heap.size + 1, 1, none⟩ = some (.string a1) ∧ W.cell? ⟨k1.heap.size + 1, 2, none⟩ = some (.int .i64 0) ∧ W.cell? ⟨k1.heap.size + 1, 3, none⟩ = some (.int .i64 0) ∧ W.cell? ⟨k1.heap.size + 1, 4, none⟩ = some (.string ⟨#[]⟩) ∧ W.cell? ⟨k1.heap.size + 1, 5, none⟩ = some (.int .i64 0) ∧ W.cell? ⟨k1.heap.size + 1, 6, none⟩ = some (.int .i64 0) ∧ W.cell? ⟨k1.heap.size + 1, 7, none⟩ = some (.string ⟨#[]⟩) ∧ W.cell? ⟨k1.heap.size + 1, 8, none⟩ = some (.int .i64 0)) (by kernel_rfl) ?_ (fun hHeld => ?_)
        · exact ⟨g0, g1, g2, g3, g4, g5, g6, g7, g8⟩
        replace hb : Below w.heap.size w wr.drew := hb.drew
        replace lt0 : k1.heap.size + 1 < wr.drew.heap.size := lt0
        have hzd : wr.heap.size ≤ wr.drew.heap.size := Nat.le_refl _
        generalize wr.drew = k31 at *
        refine wpAnyH_take (i := 0) (oi := { dst := some 52, op := Op.move (Operand.tmp 9), type := 27, pos := "wide.go:53", after := #[], guard := none }) (v := .slice (some ⟨k1.heap.size + 1, 0, none⟩) 6 6) rfl (by kernel_rfl) (by kernel_rfl) (by kernel_rfl) (fun _ _ _ h => h) (Or.inl ⟨by rfl, fun w hSw => ?_⟩) (by assumption) ?_
        · (try dsimp only at hSw)
          go_simp
        try simp only [Act.put, List.setIfInBounds_toArray, List.set_cons_zero, List.set_cons_succ]
        refine wpAnyH_take (i := 1) (oi := { dst := some 53, op := Op.move (Operand.tmp 10), type := 3, pos := "wide.go:53", after := #[], guard := none }) (v := .int .i64 0) rfl (by kernel_rfl) (by kernel_rfl) (by kernel_rfl) (fun _ _ _ h => h) (Or.inl ⟨by rfl, fun w hSw => ?_⟩) (by assumption) ?_
        · (try dsimp only at hSw)
          go_simp
        try simp only [Act.put, List.setIfInBounds_toArray, List.set_cons_zero, List.set_cons_succ]
        refine wpAnyH_take (i := 2) (oi := { dst := some 54, op := Op.indexAddr 27 (Operand.tmp 52) (Operand.tmp 53), type := 0, pos := "wide.go:53", after := #[{ on := 0, ground := Ground.data }, { on := 1, ground := Ground.data }], guard := none }) (v := .pointer (some ⟨k1.heap.size + 1, 0, none⟩)) rfl (by kernel_rfl) (by kernel_rfl) (by kernel_rfl) (fun _ _ _ h => h) (Or.inl ⟨by rfl, fun w hSw => ?_⟩) (by assumption) ?_
        · (try dsimp only at hSw)
          go_simp
        try simp only [Act.put, List.setIfInBounds_toArray, List.set_cons_zero, List.set_cons_succ]
        refine wpAnyH_take (i := 3) (oi := { dst := some 55, op := Op.load 25 (Operand.tmp 54), type := 25, pos := "wide.go:53", after := #[{ on := 2, ground := Ground.data }], guard := none }) (v := .agg #[.int .i64 a0, .string a1, .int .i64 0, .int .i64 0, .string ⟨#[]⟩, .int .i64 0, .int .i64 0, .string ⟨#[]⟩, .int .i64 0]) rfl (by kernel_rfl) (by kernel_rfl) (by kernel_rfl) (fun _ _ _ h => h) (Or.inl ⟨by rfl, fun w hSw => ?_⟩) (by assumption) ?_
        · (try dsimp only at hSw)
          go_simp
        try simp only [Act.put, List.setIfInBounds_toArray, List.set_cons_zero, List.set_cons_succ]
        refine wpAnyH_take (i := 5) (oi := { dst := some 57, op := Op.move (Operand.tmp 9), type := 27, pos := "wide.go:53", after := #[], guard := none }) (v := .slice (some ⟨k1.heap.size + 1, 0, none⟩) 6 6) rfl (by kernel_rfl) (by kernel_rfl) (by kernel_rfl) (fun _ _ _ h => h) (Or.inl ⟨by rfl, fun w hSw => ?_⟩) (by assumption) ?_
        · (try dsimp only at hSw)
          go_simp
        try simp only [Act.put, List.setIfInBounds_toArray, List.set_cons_zero, List.set_cons_succ]
        refine wpAnyH_take (i := 6) (oi := { dst := some 58, op := Op.move (Operand.tmp 10), type := 3, pos := "wide.go:53", after := #[], guard := none }) (v := .int .i64 0) rfl (by kernel_rfl) (by kernel_rfl) (by kernel_rfl) (fun _ _ _ h => h) (Or.inl ⟨by rfl, fun w hSw => ?_⟩) (by assumption) ?_
        · (try dsimp only at hSw)
          go_simp
        try simp only [Act.put, List.setIfInBounds_toArray, List.set_cons_zero, List.set_cons_succ]
        refine wpAnyH_take (i := 7) (oi := { dst := some 59, op := Op.indexAddr 27 (Operand.tmp 57) (Operand.tmp 58), type := 0, pos := "wide.go:53", after := #[{ on := 5, ground := Ground.data }, { on := 6, ground := Ground.data }], guard := none }) (v := .pointer (some ⟨k1.heap.size + 1, 0, none⟩)) rfl (by kernel_rfl) (by kernel_rfl) (by kernel_rfl) (fun _ _ _ h => h) (Or.inl ⟨by rfl, fun w hSw => ?_⟩) (by assumption) ?_
        · (try dsimp only at hSw)
          go_simp
        try simp only [Act.put, List.setIfInBounds_toArray, List.set_cons_zero, List.set_cons_succ]
        refine wpAnyH_take (i := 8) (oi := { dst := some 60, op := Op.load 25 (Operand.tmp 59), type := 25, pos := "wide.go:53", after := #[{ on := 7, ground := Ground.data }], guard := none }) (v := .agg #[.int .i64 a0, .string a1, .int .i64 0, .int .i64 0, .string ⟨#[]⟩, .int .i64 0, .int .i64 0, .string ⟨#[]⟩, .int .i64 0]) rfl (by kernel_rfl) (by kernel_rfl) (by kernel_rfl) (fun _ _ _ h => h) (Or.inl ⟨by rfl, fun w hSw => ?_⟩) (by assumption) ?_
        · (try dsimp only at hSw)
          go_simp
        try simp only [Act.put, List.setIfInBounds_toArray, List.set_cons_zero, List.set_cons_succ]
        refine wpAnyH_ready (rs := [4]) (by kernel_rfl) (by simp) ?_
        refine AllReadyH.cons (o := { dst := some 56, op := Op.call { callee := Callee.value (Operand.func 12), args := #[Operand.tmp 55], argTypes := #[25] }, type := 4, pos := "wide.go:53", after := #[{ on := 3, ground := Ground.data }], guard := none }) rfl (fun K hK => ?_) (AllReadyH.nil)
        go_simp
        go_at_call 12
        refine (omay_is _ ⟨a0, a1, ⟨0, 0, ⟨#[]⟩⟩, ⟨0, 0, ⟨#[]⟩⟩, 0⟩ x _ rfl ⟨Nat.le_trans hKs (by decide), Nat.zero_le _, Nat.zero_le _⟩ HX.out).mono ?_
        rintro e k32 ⟨rfl, h⟩
        have hk : Below k31.heap.size k31 k32 := by
          refine Below.trans ?_ (h.mono (by first | (simp; done) | (simp; omega) | omega))
          repeat' (first | with_reducible exact Below.refl _ _ | (with_reducible refine Below.alloc ?_ ?_ _) | (with_reducible refine Below.setCell ?_ ?_ _) | exact (by first | (simp; done) | (simp; omega) | omega))
        have hz := h.size
        try simp at hz
        replace g0 : k32.cell? ⟨k1.heap.size + 1, 0, none⟩ = some (.int .i64 a0) := (hk.cell (p := ⟨k1.heap.size + 1, 0, none⟩) (by first | (simp; done) | (simp; omega) | omega)).trans g0
        replace g1 : k32.cell? ⟨k1.heap.size + 1, 1, none⟩ = some (.string a1) := (hk.cell (p := ⟨k1.heap.size + 1, 1, none⟩) (by first | (simp; done) | (simp; omega) | omega)).trans g1
        replace g2 : k32.cell? ⟨k1.heap.size + 1, 2, none⟩ = some (.int .i64 0) := (hk.cell (p := ⟨k1.heap.size + 1, 2, none⟩) (by first | (simp; done) | (simp; omega) | omega)).trans g2
        replace g3 : k32.cell? ⟨k1.heap.size + 1, 3, none⟩ = some (.int .i64 0) := (hk.cell (p := ⟨k1.heap.size + 1, 3, none⟩) (by first | (simp; done) | (simp; omega) | omega)).trans g3
        replace g4 : k32.cell? ⟨k1.heap.size + 1, 4, none⟩ = some (.string ⟨#[]⟩) := (hk.cell (p := ⟨k1.heap.size + 1, 4, none⟩) (by first | (simp; done) | (simp; omega) | omega)).trans g4
        replace g5 : k32.cell? ⟨k1.heap.size + 1, 5, none⟩ = some (.int .i64 0) := (hk.cell (p := ⟨k1.heap.size + 1, 5, none⟩) (by first | (simp; done) | (simp; omega) | omega)).trans g5
        replace g6 : k32.cell? ⟨k1.heap.size + 1, 6, none⟩ = some (.int .i64 0) := (hk.cell (p := ⟨k1.heap.size + 1, 6, none⟩) (by first | (simp; done) | (simp; omega) | omega)).trans g6
        replace g7 : k32.cell? ⟨k1.heap.size + 1, 7, none⟩ = some (.string ⟨#[]⟩) := (hk.cell (p := ⟨k1.heap.size + 1, 7, none⟩) (by first | (simp; done) | (simp; omega) | omega)).trans g7
        replace g8 : k32.cell? ⟨k1.heap.size + 1, 8, none⟩ = some (.int .i64 0) := (hk.cell (p := ⟨k1.heap.size + 1, 8, none⟩) (by first | (simp; done) | (simp; omega) | omega)).trans g8
        replace HKR := Lib.hid (Below.trans HKR.out (Below.mono hk (by omega)))
        replace hb : Below w.heap.size w k32 := hb.trans (hk.mono hb.size)
        have lt0 : k1.heap.size + 1 < k32.heap.size := (by first | (simp; done) | (simp; omega) | omega)
        clear h hk
        try dsimp only
        refine hK.out _ _ ?_ (fun hHeld => ?_)
        · exact ⟨g0, g1, g2, g3, g4, g5, g6, g7, g8⟩
        clear hK K
        try simp only [Act.put, List.setIfInBounds_toArray, List.set_cons_zero, List.set_cons_succ]
        refine wpAnyH_ready (rs := [9]) (by kernel_rfl) (by simp) ?_
        refine AllReadyH.cons (o := { dst := some 61, op := Op.call { callee := Callee.value (Operand.func 13), args := #[Operand.tmp 60], argTypes := #[25] }, type := 4, pos := "wide.go:53", after := #[{ on := 8, ground := Ground.data }, { on := 4, ground := Ground.chain }], guard := none }) rfl (fun K hK => ?_) (AllReadyH.nil)
        go_simp
        go_at_call 13
        refine (rmayOp_is _ ⟨a0, a1, ⟨0, 0, ⟨#[]⟩⟩, ⟨0, 0, ⟨#[]⟩⟩, 0⟩ x _ rfl ⟨Nat.le_trans hKs (by decide), Nat.zero_le _, Nat.zero_le _⟩ HX.out).mono ?_
        rintro e k33 ⟨rfl, h⟩
        have hk : Below k32.heap.size k32 k33 := by
          refine Below.trans ?_ (h.mono (by first | (simp; done) | (simp; omega) | omega))
          repeat' (first | with_reducible exact Below.refl _ _ | (with_reducible refine Below.alloc ?_ ?_ _) | (with_reducible refine Below.setCell ?_ ?_ _) | exact (by first | (simp; done) | (simp; omega) | omega))
        have hz := h.size
        try simp at hz
        replace g0 : k33.cell? ⟨k1.heap.size + 1, 0, none⟩ = some (.int .i64 a0) := (hk.cell (p := ⟨k1.heap.size + 1, 0, none⟩) (by first | (simp; done) | (simp; omega) | omega)).trans g0
        replace g1 : k33.cell? ⟨k1.heap.size + 1, 1, none⟩ = some (.string a1) := (hk.cell (p := ⟨k1.heap.size + 1, 1, none⟩) (by first | (simp; done) | (simp; omega) | omega)).trans g1
        replace g2 : k33.cell? ⟨k1.heap.size + 1, 2, none⟩ = some (.int .i64 0) := (hk.cell (p := ⟨k1.heap.size + 1, 2, none⟩) (by first | (simp; done) | (simp; omega) | omega)).trans g2
        replace g3 : k33.cell? ⟨k1.heap.size + 1, 3, none⟩ = some (.int .i64 0) := (hk.cell (p := ⟨k1.heap.size + 1, 3, none⟩) (by first | (simp; done) | (simp; omega) | omega)).trans g3
        replace g4 : k33.cell? ⟨k1.heap.size + 1, 4, none⟩ = some (.string ⟨#[]⟩) := (hk.cell (p := ⟨k1.heap.size + 1, 4, none⟩) (by first | (simp; done) | (simp; omega) | omega)).trans g4
        replace g5 : k33.cell? ⟨k1.heap.size + 1, 5, none⟩ = some (.int .i64 0) := (hk.cell (p := ⟨k1.heap.size + 1, 5, none⟩) (by first | (simp; done) | (simp; omega) | omega)).trans g5
        replace g6 : k33.cell? ⟨k1.heap.size + 1, 6, none⟩ = some (.int .i64 0) := (hk.cell (p := ⟨k1.heap.size + 1, 6, none⟩) (by first | (simp; done) | (simp; omega) | omega)).trans g6
        replace g7 : k33.cell? ⟨k1.heap.size + 1, 7, none⟩ = some (.string ⟨#[]⟩) := (hk.cell (p := ⟨k1.heap.size + 1, 7, none⟩) (by first | (simp; done) | (simp; omega) | omega)).trans g7
        replace g8 : k33.cell? ⟨k1.heap.size + 1, 8, none⟩ = some (.int .i64 0) := (hk.cell (p := ⟨k1.heap.size + 1, 8, none⟩) (by first | (simp; done) | (simp; omega) | omega)).trans g8
        replace HKR := Lib.hid (Below.trans HKR.out (Below.mono hk (by omega)))
        replace hb : Below w.heap.size w k33 := hb.trans (hk.mono hb.size)
        have lt0 : k1.heap.size + 1 < k33.heap.size := (by first | (simp; done) | (simp; omega) | omega)
        clear h hk
        try dsimp only
        refine hK.out _ _ ?_ (fun hHeld => ?_)
        · exact ⟨g0, g1, g2, g3, g4, g5, g6, g7, g8⟩
        clear hK K
        try simp only [Act.put, List.setIfInBounds_toArray, List.set_cons_zero, List.set_cons_succ]
        refine wpAnyH_ready (rs := [10]) (by kernel_rfl) (by simp) ?_
        refine AllReadyH.cons (o := { dst := some 62, op := Op.binOp BinOp.neq 4 (Operand.tmp 56) (Operand.tmp 61) 4, type := 4, pos := "wide.go:53", after := #[{ on := 4, ground := Ground.data }, { on := 9, ground := Ground.data }], guard := none }) rfl (fun K hK => ?_) (AllReadyH.nil)
        go_simp
        refine hK.out _ _ ?_ (fun hHeld => ?_)
        · exact ⟨g0, g1, g2, g3, g4, g5, g6, g7, g8⟩
        clear hK K
        try simp only [Act.put, List.setIfInBounds_toArray, List.set_cons_zero, List.set_cons_succ]
        refine wpAnyH_done (by kernel_rfl) ?_ _
        refine NoPanic.normal ?_
        go_wp2
        go_roundw
        case rel => exact ⟨1, by go_num, by decide, HKR.out⟩
        case measure => simp [intOf]
      · have g9 := (hkw.cell (p := ⟨k1.heap.size + 1, 9, none⟩) (by first | (simp; done) | (simp; omega) | omega)).trans g9
        have g10 := (hkw.cell (p := ⟨k1.heap.size + 1, 10, none⟩) (by first | (simp; done) | (simp; omega) | omega)).trans g10
        have g11 := (hkw.cell (p := ⟨k1.heap.size + 1, 11, none⟩) (by first | (simp; done) | (simp; omega) | omega)).trans g11
        have g12 := (hkw.cell (p := ⟨k1.heap.size + 1, 12, none⟩) (by first | (simp; done) | (simp; omega) | omega)).trans g12
        have g13 := (hkw.cell (p := ⟨k1.heap.size + 1, 13, none⟩) (by first | (simp; done) | (simp; omega) | omega)).trans g13
        have g14 := (hkw.cell (p := ⟨k1.heap.size + 1, 14, none⟩) (by first | (simp; done) | (simp; omega) | omega)).trans g14
        have g15 := (hkw.cell (p := ⟨k1.heap.size + 1, 15, none⟩) (by first | (simp; done) | (simp; omega) | omega)).trans g15
        have g16 := (hkw.cell (p := ⟨k1.heap.size + 1, 16, none⟩) (by first | (simp; done) | (simp; omega) | omega)).trans g16
        have g17 := (hkw.cell (p := ⟨k1.heap.size + 1, 17, none⟩) (by first | (simp; done) | (simp; omega) | omega)).trans g17
        have lt0 : k1.heap.size + 1 < wr.heap.size := (by first | (simp; done) | (simp; omega) | omega)
        obtain ⟨x, hx⟩ : ∃ x, mayO ⟨a0, a1, ⟨1, 1, ⟨#[]⟩⟩, ⟨0, 0, ⟨#[]⟩⟩, 0⟩ = x := ⟨_, rfl⟩
        have HX := Lib.hid hx; clear hx
        have hkr : Below k2.heap.size k2 wr := hkw
        have HKR := Lib.hid hkr; clear hkr
        go_wp2
        replace g9 : wr.drew.cell? ⟨k1.heap.size + 1, 9, none⟩ = some (.int .i64 a0) := g9
        replace g10 : wr.drew.cell? ⟨k1.heap.size + 1, 10, none⟩ = some (.string a1) := g10
        replace g11 : wr.drew.cell? ⟨k1.heap.size + 1, 11, none⟩ = some (.int .i64 1) := g11
        replace g12 : wr.drew.cell? ⟨k1.heap.size + 1, 12, none⟩ = some (.int .i64 1) := g12
        replace g13 : wr.drew.cell? ⟨k1.heap.size + 1, 13, none⟩ = some (.string ⟨#[]⟩) := g13
        replace g14 : wr.drew.cell? ⟨k1.heap.size + 1, 14, none⟩ = some (.int .i64 0) := g14
        replace g15 : wr.drew.cell? ⟨k1.heap.size + 1, 15, none⟩ = some (.int .i64 0) := g15
        replace g16 : wr.drew.cell? ⟨k1.heap.size + 1, 16, none⟩ = some (.string ⟨#[]⟩) := g16
        replace g17 : wr.drew.cell? ⟨k1.heap.size + 1, 17, none⟩ = some (.int .i64 0) := g17
        replace HKR := Lib.hid (Below.trans HKR.out (Below.mono ((Below.refl wr.heap.size wr).drew) (by omega)))
        refine wp_region_noPanic ?_
        refine wp_region_held_drew (S := fun W => W.cell? ⟨k1.heap.size + 1, 9, none⟩ = some (.int .i64 a0) ∧ W.cell? ⟨k1.heap.size + 1, 10, none⟩ = some (.string a1) ∧ W.cell? ⟨k1.heap.size + 1, 11, none⟩ = some (.int .i64 1) ∧ W.cell? ⟨k1.heap.size + 1, 12, none⟩ = some (.int .i64 1) ∧ W.cell? ⟨k1.heap.size + 1, 13, none⟩ = some (.string ⟨#[]⟩) ∧ W.cell? ⟨k1.heap.size + 1, 14, none⟩ = some (.int .i64 0) ∧ W.cell? ⟨k1.heap.size + 1, 15, none⟩ = some (.int .i64 0) ∧ W.cell? ⟨k1.heap.size + 1, 16, none⟩ = some (.string ⟨#[]⟩) ∧ W.cell? ⟨k1.heap.size + 1, 17, none⟩ = some (.int .i64 0)) (by kernel_rfl) ?_ (fun hHeld => ?_)
        · exact ⟨g9, g10, g11, g12, g13, g14, g15, g16, g17⟩
        replace hb : Below w.heap.size w wr.drew := hb.drew
        replace lt0 : k1.heap.size + 1 < wr.drew.heap.size := lt0
        have hzd : wr.heap.size ≤ wr.drew.heap.size := Nat.le_refl _
        generalize wr.drew = k41 at *
        refine wpAnyH_take (i := 0) (oi := { dst := some 52, op := Op.move (Operand.tmp 9), type := 27, pos := "wide.go:53", after := #[], guard := none }) (v := .slice (some ⟨k1.heap.size + 1, 0, none⟩) 6 6) rfl (by kernel_rfl) (by kernel_rfl) (by kernel_rfl) (fun _ _ _ h => h) (Or.inl ⟨by rfl, fun w hSw => ?_⟩) (by assumption) ?_
        · (try dsimp only at hSw)
          go_simp
        try simp only [Act.put, List.setIfInBounds_toArray, List.set_cons_zero, List.set_cons_succ]
        refine wpAnyH_take (i := 1) (oi := { dst := some 53, op := Op.move (Operand.tmp 10), type := 3, pos := "wide.go:53", after := #[], guard := none }) (v := .int .i64 1) rfl (by kernel_rfl) (by kernel_rfl) (by kernel_rfl) (fun _ _ _ h => h) (Or.inl ⟨by rfl, fun w hSw => ?_⟩) (by assumption) ?_
        · (try dsimp only at hSw)
          go_simp
        try simp only [Act.put, List.setIfInBounds_toArray, List.set_cons_zero, List.set_cons_succ]
        refine wpAnyH_take (i := 2) (oi := { dst := some 54, op := Op.indexAddr 27 (Operand.tmp 52) (Operand.tmp 53), type := 0, pos := "wide.go:53", after := #[{ on := 0, ground := Ground.data }, { on := 1, ground := Ground.data }], guard := none }) (v := .pointer (some ⟨k1.heap.size + 1, 9, none⟩)) rfl (by kernel_rfl) (by kernel_rfl) (by kernel_rfl) (fun _ _ _ h => h) (Or.inl ⟨by rfl, fun w hSw => ?_⟩) (by assumption) ?_
        · (try dsimp only at hSw)
          go_simp
        try simp only [Act.put, List.setIfInBounds_toArray, List.set_cons_zero, List.set_cons_succ]
        refine wpAnyH_take (i := 3) (oi := { dst := some 55, op := Op.load 25 (Operand.tmp 54), type := 25, pos := "wide.go:53", after := #[{ on := 2, ground := Ground.data }], guard := none }) (v := .agg #[.int .i64 a0, .string a1, .int .i64 1, .int .i64 1, .string ⟨#[]⟩, .int .i64 0, .int .i64 0, .string ⟨#[]⟩, .int .i64 0]) rfl (by kernel_rfl) (by kernel_rfl) (by kernel_rfl) (fun _ _ _ h => h) (Or.inl ⟨by rfl, fun w hSw => ?_⟩) (by assumption) ?_
        · (try dsimp only at hSw)
          go_simp
        try simp only [Act.put, List.setIfInBounds_toArray, List.set_cons_zero, List.set_cons_succ]
        refine wpAnyH_take (i := 5) (oi := { dst := some 57, op := Op.move (Operand.tmp 9), type := 27, pos := "wide.go:53", after := #[], guard := none }) (v := .slice (some ⟨k1.heap.size + 1, 0, none⟩) 6 6) rfl (by kernel_rfl) (by kernel_rfl) (by kernel_rfl) (fun _ _ _ h => h) (Or.inl ⟨by rfl, fun w hSw => ?_⟩) (by assumption) ?_
        · (try dsimp only at hSw)
          go_simp
        try simp only [Act.put, List.setIfInBounds_toArray, List.set_cons_zero, List.set_cons_succ]
        refine wpAnyH_take (i := 6) (oi := { dst := some 58, op := Op.move (Operand.tmp 10), type := 3, pos := "wide.go:53", after := #[], guard := none }) (v := .int .i64 1) rfl (by kernel_rfl) (by kernel_rfl) (by kernel_rfl) (fun _ _ _ h => h) (Or.inl ⟨by rfl, fun w hSw => ?_⟩) (by assumption) ?_
        · (try dsimp only at hSw)
          go_simp
        try simp only [Act.put, List.setIfInBounds_toArray, List.set_cons_zero, List.set_cons_succ]
        refine wpAnyH_take (i := 7) (oi := { dst := some 59, op := Op.indexAddr 27 (Operand.tmp 57) (Operand.tmp 58), type := 0, pos := "wide.go:53", after := #[{ on := 5, ground := Ground.data }, { on := 6, ground := Ground.data }], guard := none }) (v := .pointer (some ⟨k1.heap.size + 1, 9, none⟩)) rfl (by kernel_rfl) (by kernel_rfl) (by kernel_rfl) (fun _ _ _ h => h) (Or.inl ⟨by rfl, fun w hSw => ?_⟩) (by assumption) ?_
        · (try dsimp only at hSw)
          go_simp
        try simp only [Act.put, List.setIfInBounds_toArray, List.set_cons_zero, List.set_cons_succ]
        refine wpAnyH_take (i := 8) (oi := { dst := some 60, op := Op.load 25 (Operand.tmp 59), type := 25, pos := "wide.go:53", after := #[{ on := 7, ground := Ground.data }], guard := none }) (v := .agg #[.int .i64 a0, .string a1, .int .i64 1, .int .i64 1, .string ⟨#[]⟩, .int .i64 0, .int .i64 0, .string ⟨#[]⟩, .int .i64 0]) rfl (by kernel_rfl) (by kernel_rfl) (by kernel_rfl) (fun _ _ _ h => h) (Or.inl ⟨by rfl, fun w hSw => ?_⟩) (by assumption) ?_
        · (try dsimp only at hSw)
          go_simp
        try simp only [Act.put, List.setIfInBounds_toArray, List.set_cons_zero, List.set_cons_succ]
        refine wpAnyH_ready (rs := [4]) (by kernel_rfl) (by simp) ?_
        refine AllReadyH.cons (o := { dst := some 56, op := Op.call { callee := Callee.value (Operand.func 12), args := #[Operand.tmp 55], argTypes := #[25] }, type := 4, pos := "wide.go:53", after := #[{ on := 3, ground := Ground.data }], guard := none }) rfl (fun K hK => ?_) (AllReadyH.nil)
        go_simp
        go_at_call 12
        refine (omay_is _ ⟨a0, a1, ⟨1, 1, ⟨#[]⟩⟩, ⟨0, 0, ⟨#[]⟩⟩, 0⟩ x _ rfl ⟨Nat.le_trans hKs (by decide), Nat.zero_le _, Nat.zero_le _⟩ HX.out).mono ?_
        rintro e k42 ⟨rfl, h⟩
        have hk : Below k41.heap.size k41 k42 := by
          refine Below.trans ?_ (h.mono (by first | (simp; done) | (simp; omega) | omega))
          repeat' (first | with_reducible exact Below.refl _ _ | (with_reducible refine Below.alloc ?_ ?_ _) | (with_reducible refine Below.setCell ?_ ?_ _) | exact (by first | (simp; done) | (simp; omega) | omega))
        have hz := h.size
        try simp at hz
        replace g9 : k42.cell? ⟨k1.heap.size + 1, 9, none⟩ = some (.int .i64 a0) := (hk.cell (p := ⟨k1.heap.size + 1, 9, none⟩) (by first | (simp; done) | (simp; omega) | omega)).trans g9
        replace g10 : k42.cell? ⟨k1.heap.size + 1, 10, none⟩ = some (.string a1) := (hk.cell (p := ⟨k1.heap.size + 1, 10, none⟩) (by first | (simp; done) | (simp; omega) | omega)).trans g10
        replace g11 : k42.cell? ⟨k1.heap.size + 1, 11, none⟩ = some (.int .i64 1) := (hk.cell (p := ⟨k1.heap.size + 1, 11, none⟩) (by first | (simp; done) | (simp; omega) | omega)).trans g11
        replace g12 : k42.cell? ⟨k1.heap.size + 1, 12, none⟩ = some (.int .i64 1) := (hk.cell (p := ⟨k1.heap.size + 1, 12, none⟩) (by first | (simp; done) | (simp; omega) | omega)).trans g12
        replace g13 : k42.cell? ⟨k1.heap.size + 1, 13, none⟩ = some (.string ⟨#[]⟩) := (hk.cell (p := ⟨k1.heap.size + 1, 13, none⟩) (by first | (simp; done) | (simp; omega) | omega)).trans g13
        replace g14 : k42.cell? ⟨k1.heap.size + 1, 14, none⟩ = some (.int .i64 0) := (hk.cell (p := ⟨k1.heap.size + 1, 14, none⟩) (by first | (simp; done) | (simp; omega) | omega)).trans g14
        replace g15 : k42.cell? ⟨k1.heap.size + 1, 15, none⟩ = some (.int .i64 0) := (hk.cell (p := ⟨k1.heap.size + 1, 15, none⟩) (by first | (simp; done) | (simp; omega) | omega)).trans g15
        replace g16 : k42.cell? ⟨k1.heap.size + 1, 16, none⟩ = some (.string ⟨#[]⟩) := (hk.cell (p := ⟨k1.heap.size + 1, 16, none⟩) (by first | (simp; done) | (simp; omega) | omega)).trans g16
        replace g17 : k42.cell? ⟨k1.heap.size + 1, 17, none⟩ = some (.int .i64 0) := (hk.cell (p := ⟨k1.heap.size + 1, 17, none⟩) (by first | (simp; done) | (simp; omega) | omega)).trans g17
        replace HKR := Lib.hid (Below.trans HKR.out (Below.mono hk (by omega)))
        replace hb : Below w.heap.size w k42 := hb.trans (hk.mono hb.size)
        have lt0 : k1.heap.size + 1 < k42.heap.size := (by first | (simp; done) | (simp; omega) | omega)
        clear h hk
        try dsimp only
        refine hK.out _ _ ?_ (fun hHeld => ?_)
        · exact ⟨g9, g10, g11, g12, g13, g14, g15, g16, g17⟩
        clear hK K
        try simp only [Act.put, List.setIfInBounds_toArray, List.set_cons_zero, List.set_cons_succ]
        refine wpAnyH_ready (rs := [9]) (by kernel_rfl) (by simp) ?_
        refine AllReadyH.cons (o := { dst := some 61, op := Op.call { callee := Callee.value (Operand.func 13), args := #[Operand.tmp 60], argTypes := #[25] }, type := 4, pos := "wide.go:53", after := #[{ on := 8, ground := Ground.data }, { on := 4, ground := Ground.chain }], guard := none }) rfl (fun K hK => ?_) (AllReadyH.nil)
        go_simp
        go_at_call 13
        refine (rmayOp_is _ ⟨a0, a1, ⟨1, 1, ⟨#[]⟩⟩, ⟨0, 0, ⟨#[]⟩⟩, 0⟩ x _ rfl ⟨Nat.le_trans hKs (by decide), Nat.zero_le _, Nat.zero_le _⟩ HX.out).mono ?_
        rintro e k43 ⟨rfl, h⟩
        have hk : Below k42.heap.size k42 k43 := by
          refine Below.trans ?_ (h.mono (by first | (simp; done) | (simp; omega) | omega))
          repeat' (first | with_reducible exact Below.refl _ _ | (with_reducible refine Below.alloc ?_ ?_ _) | (with_reducible refine Below.setCell ?_ ?_ _) | exact (by first | (simp; done) | (simp; omega) | omega))
        have hz := h.size
        try simp at hz
        replace g9 : k43.cell? ⟨k1.heap.size + 1, 9, none⟩ = some (.int .i64 a0) := (hk.cell (p := ⟨k1.heap.size + 1, 9, none⟩) (by first | (simp; done) | (simp; omega) | omega)).trans g9
        replace g10 : k43.cell? ⟨k1.heap.size + 1, 10, none⟩ = some (.string a1) := (hk.cell (p := ⟨k1.heap.size + 1, 10, none⟩) (by first | (simp; done) | (simp; omega) | omega)).trans g10
        replace g11 : k43.cell? ⟨k1.heap.size + 1, 11, none⟩ = some (.int .i64 1) := (hk.cell (p := ⟨k1.heap.size + 1, 11, none⟩) (by first | (simp; done) | (simp; omega) | omega)).trans g11
        replace g12 : k43.cell? ⟨k1.heap.size + 1, 12, none⟩ = some (.int .i64 1) := (hk.cell (p := ⟨k1.heap.size + 1, 12, none⟩) (by first | (simp; done) | (simp; omega) | omega)).trans g12
        replace g13 : k43.cell? ⟨k1.heap.size + 1, 13, none⟩ = some (.string ⟨#[]⟩) := (hk.cell (p := ⟨k1.heap.size + 1, 13, none⟩) (by first | (simp; done) | (simp; omega) | omega)).trans g13
        replace g14 : k43.cell? ⟨k1.heap.size + 1, 14, none⟩ = some (.int .i64 0) := (hk.cell (p := ⟨k1.heap.size + 1, 14, none⟩) (by first | (simp; done) | (simp; omega) | omega)).trans g14
        replace g15 : k43.cell? ⟨k1.heap.size + 1, 15, none⟩ = some (.int .i64 0) := (hk.cell (p := ⟨k1.heap.size + 1, 15, none⟩) (by first | (simp; done) | (simp; omega) | omega)).trans g15
        replace g16 : k43.cell? ⟨k1.heap.size + 1, 16, none⟩ = some (.string ⟨#[]⟩) := (hk.cell (p := ⟨k1.heap.size + 1, 16, none⟩) (by first | (simp; done) | (simp; omega) | omega)).trans g16
        replace g17 : k43.cell? ⟨k1.heap.size + 1, 17, none⟩ = some (.int .i64 0) := (hk.cell (p := ⟨k1.heap.size + 1, 17, none⟩) (by first | (simp; done) | (simp; omega) | omega)).trans g17
        replace HKR := Lib.hid (Below.trans HKR.out (Below.mono hk (by omega)))
        replace hb : Below w.heap.size w k43 := hb.trans (hk.mono hb.size)
        have lt0 : k1.heap.size + 1 < k43.heap.size := (by first | (simp; done) | (simp; omega) | omega)
        clear h hk
        try dsimp only
        refine hK.out _ _ ?_ (fun hHeld => ?_)
        · exact ⟨g9, g10, g11, g12, g13, g14, g15, g16, g17⟩
        clear hK K
        try simp only [Act.put, List.setIfInBounds_toArray, List.set_cons_zero, List.set_cons_succ]
        refine wpAnyH_ready (rs := [10]) (by kernel_rfl) (by simp) ?_
        refine AllReadyH.cons (o := { dst := some 62, op := Op.binOp BinOp.neq 4 (Operand.tmp 56) (Operand.tmp 61) 4, type := 4, pos := "wide.go:53", after := #[{ on := 4, ground := Ground.data }, { on := 9, ground := Ground.data }], guard := none }) rfl (fun K hK => ?_) (AllReadyH.nil)
        go_simp
        refine hK.out _ _ ?_ (fun hHeld => ?_)
        · exact ⟨g9, g10, g11, g12, g13, g14, g15, g16, g17⟩
        clear hK K
        try simp only [Act.put, List.setIfInBounds_toArray, List.set_cons_zero, List.set_cons_succ]
        refine wpAnyH_done (by kernel_rfl) ?_ _
        refine NoPanic.normal ?_
        go_wp2
        go_roundw
        case rel => exact ⟨2, by go_num, by decide, HKR.out⟩
        case measure => simp [intOf]
      · have g18 := (hkw.cell (p := ⟨k1.heap.size + 1, 18, none⟩) (by first | (simp; done) | (simp; omega) | omega)).trans g18
        have g19 := (hkw.cell (p := ⟨k1.heap.size + 1, 19, none⟩) (by first | (simp; done) | (simp; omega) | omega)).trans g19
        have g20 := (hkw.cell (p := ⟨k1.heap.size + 1, 20, none⟩) (by first | (simp; done) | (simp; omega) | omega)).trans g20
        have g21 := (hkw.cell (p := ⟨k1.heap.size + 1, 21, none⟩) (by first | (simp; done) | (simp; omega) | omega)).trans g21
        have g22 := (hkw.cell (p := ⟨k1.heap.size + 1, 22, none⟩) (by first | (simp; done) | (simp; omega) | omega)).trans g22
        have g23 := (hkw.cell (p := ⟨k1.heap.size + 1, 23, none⟩) (by first | (simp; done) | (simp; omega) | omega)).trans g23
        have g24 := (hkw.cell (p := ⟨k1.heap.size + 1, 24, none⟩) (by first | (simp; done) | (simp; omega) | omega)).trans g24
        have g25 := (hkw.cell (p := ⟨k1.heap.size + 1, 25, none⟩) (by first | (simp; done) | (simp; omega) | omega)).trans g25
        have g26 := (hkw.cell (p := ⟨k1.heap.size + 1, 26, none⟩) (by first | (simp; done) | (simp; omega) | omega)).trans g26
        have lt0 : k1.heap.size + 1 < wr.heap.size := (by first | (simp; done) | (simp; omega) | omega)
        obtain ⟨x, hx⟩ : ∃ x, mayO ⟨a0, a1, ⟨0, 0, ⟨#[]⟩⟩, ⟨1, 1, ⟨#[]⟩⟩, 0⟩ = x := ⟨_, rfl⟩
        have HX := Lib.hid hx; clear hx
        have hkr : Below k2.heap.size k2 wr := hkw
        have HKR := Lib.hid hkr; clear hkr
        go_wp2
        replace g18 : wr.drew.cell? ⟨k1.heap.size + 1, 18, none⟩ = some (.int .i64 a0) := g18
        replace g19 : wr.drew.cell? ⟨k1.heap.size + 1, 19, none⟩ = some (.string a1) := g19
        replace g20 : wr.drew.cell? ⟨k1.heap.size + 1, 20, none⟩ = some (.int .i64 0) := g20
        replace g21 : wr.drew.cell? ⟨k1.heap.size + 1, 21, none⟩ = some (.int .i64 0) := g21
        replace g22 : wr.drew.cell? ⟨k1.heap.size + 1, 22, none⟩ = some (.string ⟨#[]⟩) := g22
        replace g23 : wr.drew.cell? ⟨k1.heap.size + 1, 23, none⟩ = some (.int .i64 1) := g23
        replace g24 : wr.drew.cell? ⟨k1.heap.size + 1, 24, none⟩ = some (.int .i64 1) := g24
        replace g25 : wr.drew.cell? ⟨k1.heap.size + 1, 25, none⟩ = some (.string ⟨#[]⟩) := g25
        replace g26 : wr.drew.cell? ⟨k1.heap.size + 1, 26, none⟩ = some (.int .i64 0) := g26
        replace HKR := Lib.hid (Below.trans HKR.out (Below.mono ((Below.refl wr.heap.size wr).drew) (by omega)))
        refine wp_region_noPanic ?_
        refine wp_region_held_drew (S := fun W => W.cell? ⟨k1.heap.size + 1, 18, none⟩ = some (.int .i64 a0) ∧ W.cell? ⟨k1.heap.size + 1, 19, none⟩ = some (.string a1) ∧ W.cell? ⟨k1.heap.size + 1, 20, none⟩ = some (.int .i64 0) ∧ W.cell? ⟨k1.heap.size + 1, 21, none⟩ = some (.int .i64 0) ∧ W.cell? ⟨k1.heap.size + 1, 22, none⟩ = some (.string ⟨#[]⟩) ∧ W.cell? ⟨k1.heap.size + 1, 23, none⟩ = some (.int .i64 1) ∧ W.cell? ⟨k1.heap.size + 1, 24, none⟩ = some (.int .i64 1) ∧ W.cell? ⟨k1.heap.size + 1, 25, none⟩ = some (.string ⟨#[]⟩) ∧ W.cell? ⟨k1.heap.size + 1, 26, none⟩ = some (.int .i64 0)) (by kernel_rfl) ?_ (fun hHeld => ?_)
        · exact ⟨g18, g19, g20, g21, g22, g23, g24, g25, g26⟩
        replace hb : Below w.heap.size w wr.drew := hb.drew
        replace lt0 : k1.heap.size + 1 < wr.drew.heap.size := lt0
        have hzd : wr.heap.size ≤ wr.drew.heap.size := Nat.le_refl _
        generalize wr.drew = k51 at *
        refine wpAnyH_take (i := 0) (oi := { dst := some 52, op := Op.move (Operand.tmp 9), type := 27, pos := "wide.go:53", after := #[], guard := none }) (v := .slice (some ⟨k1.heap.size + 1, 0, none⟩) 6 6) rfl (by kernel_rfl) (by kernel_rfl) (by kernel_rfl) (fun _ _ _ h => h) (Or.inl ⟨by rfl, fun w hSw => ?_⟩) (by assumption) ?_
        · (try dsimp only at hSw)
          go_simp
        try simp only [Act.put, List.setIfInBounds_toArray, List.set_cons_zero, List.set_cons_succ]
        refine wpAnyH_take (i := 1) (oi := { dst := some 53, op := Op.move (Operand.tmp 10), type := 3, pos := "wide.go:53", after := #[], guard := none }) (v := .int .i64 2) rfl (by kernel_rfl) (by kernel_rfl) (by kernel_rfl) (fun _ _ _ h => h) (Or.inl ⟨by rfl, fun w hSw => ?_⟩) (by assumption) ?_
        · (try dsimp only at hSw)
          go_simp
        try simp only [Act.put, List.setIfInBounds_toArray, List.set_cons_zero, List.set_cons_succ]
        refine wpAnyH_take (i := 2) (oi := { dst := some 54, op := Op.indexAddr 27 (Operand.tmp 52) (Operand.tmp 53), type := 0, pos := "wide.go:53", after := #[{ on := 0, ground := Ground.data }, { on := 1, ground := Ground.data }], guard := none }) (v := .pointer (some ⟨k1.heap.size + 1, 18, none⟩)) rfl (by kernel_rfl) (by kernel_rfl) (by kernel_rfl) (fun _ _ _ h => h) (Or.inl ⟨by rfl, fun w hSw => ?_⟩) (by assumption) ?_
        · (try dsimp only at hSw)
          go_simp
        try simp only [Act.put, List.setIfInBounds_toArray, List.set_cons_zero, List.set_cons_succ]
        refine wpAnyH_take (i := 3) (oi := { dst := some 55, op := Op.load 25 (Operand.tmp 54), type := 25, pos := "wide.go:53", after := #[{ on := 2, ground := Ground.data }], guard := none }) (v := .agg #[.int .i64 a0, .string a1, .int .i64 0, .int .i64 0, .string ⟨#[]⟩, .int .i64 1, .int .i64 1, .string ⟨#[]⟩, .int .i64 0]) rfl (by kernel_rfl) (by kernel_rfl) (by kernel_rfl) (fun _ _ _ h => h) (Or.inl ⟨by rfl, fun w hSw => ?_⟩) (by assumption) ?_
        · (try dsimp only at hSw)
          go_simp
        try simp only [Act.put, List.setIfInBounds_toArray, List.set_cons_zero, List.set_cons_succ]
        refine wpAnyH_take (i := 5) (oi := { dst := some 57, op := Op.move (Operand.tmp 9), type := 27, pos := "wide.go:53", after := #[], guard := none }) (v := .slice (some ⟨k1.heap.size + 1, 0, none⟩) 6 6) rfl (by kernel_rfl) (by kernel_rfl) (by kernel_rfl) (fun _ _ _ h => h) (Or.inl ⟨by rfl, fun w hSw => ?_⟩) (by assumption) ?_
        · (try dsimp only at hSw)
          go_simp
        try simp only [Act.put, List.setIfInBounds_toArray, List.set_cons_zero, List.set_cons_succ]
        refine wpAnyH_take (i := 6) (oi := { dst := some 58, op := Op.move (Operand.tmp 10), type := 3, pos := "wide.go:53", after := #[], guard := none }) (v := .int .i64 2) rfl (by kernel_rfl) (by kernel_rfl) (by kernel_rfl) (fun _ _ _ h => h) (Or.inl ⟨by rfl, fun w hSw => ?_⟩) (by assumption) ?_
        · (try dsimp only at hSw)
          go_simp
        try simp only [Act.put, List.setIfInBounds_toArray, List.set_cons_zero, List.set_cons_succ]
        refine wpAnyH_take (i := 7) (oi := { dst := some 59, op := Op.indexAddr 27 (Operand.tmp 57) (Operand.tmp 58), type := 0, pos := "wide.go:53", after := #[{ on := 5, ground := Ground.data }, { on := 6, ground := Ground.data }], guard := none }) (v := .pointer (some ⟨k1.heap.size + 1, 18, none⟩)) rfl (by kernel_rfl) (by kernel_rfl) (by kernel_rfl) (fun _ _ _ h => h) (Or.inl ⟨by rfl, fun w hSw => ?_⟩) (by assumption) ?_
        · (try dsimp only at hSw)
          go_simp
        try simp only [Act.put, List.setIfInBounds_toArray, List.set_cons_zero, List.set_cons_succ]
        refine wpAnyH_take (i := 8) (oi := { dst := some 60, op := Op.load 25 (Operand.tmp 59), type := 25, pos := "wide.go:53", after := #[{ on := 7, ground := Ground.data }], guard := none }) (v := .agg #[.int .i64 a0, .string a1, .int .i64 0, .int .i64 0, .string ⟨#[]⟩, .int .i64 1, .int .i64 1, .string ⟨#[]⟩, .int .i64 0]) rfl (by kernel_rfl) (by kernel_rfl) (by kernel_rfl) (fun _ _ _ h => h) (Or.inl ⟨by rfl, fun w hSw => ?_⟩) (by assumption) ?_
        · (try dsimp only at hSw)
          go_simp
        try simp only [Act.put, List.setIfInBounds_toArray, List.set_cons_zero, List.set_cons_succ]
        refine wpAnyH_ready (rs := [4]) (by kernel_rfl) (by simp) ?_
        refine AllReadyH.cons (o := { dst := some 56, op := Op.call { callee := Callee.value (Operand.func 12), args := #[Operand.tmp 55], argTypes := #[25] }, type := 4, pos := "wide.go:53", after := #[{ on := 3, ground := Ground.data }], guard := none }) rfl (fun K hK => ?_) (AllReadyH.nil)
        go_simp
        go_at_call 12
        refine (omay_is _ ⟨a0, a1, ⟨0, 0, ⟨#[]⟩⟩, ⟨1, 1, ⟨#[]⟩⟩, 0⟩ x _ rfl ⟨Nat.le_trans hKs (by decide), Nat.zero_le _, Nat.zero_le _⟩ HX.out).mono ?_
        rintro e k52 ⟨rfl, h⟩
        have hk : Below k51.heap.size k51 k52 := by
          refine Below.trans ?_ (h.mono (by first | (simp; done) | (simp; omega) | omega))
          repeat' (first | with_reducible exact Below.refl _ _ | (with_reducible refine Below.alloc ?_ ?_ _) | (with_reducible refine Below.setCell ?_ ?_ _) | exact (by first | (simp; done) | (simp; omega) | omega))
        have hz := h.size
        try simp at hz
        replace g18 : k52.cell? ⟨k1.heap.size + 1, 18, none⟩ = some (.int .i64 a0) := (hk.cell (p := ⟨k1.heap.size + 1, 18, none⟩) (by first | (simp; done) | (simp; omega) | omega)).trans g18
        replace g19 : k52.cell? ⟨k1.heap.size + 1, 19, none⟩ = some (.string a1) := (hk.cell (p := ⟨k1.heap.size + 1, 19, none⟩) (by first | (simp; done) | (simp; omega) | omega)).trans g19
        replace g20 : k52.cell? ⟨k1.heap.size + 1, 20, none⟩ = some (.int .i64 0) := (hk.cell (p := ⟨k1.heap.size + 1, 20, none⟩) (by first | (simp; done) | (simp; omega) | omega)).trans g20
        replace g21 : k52.cell? ⟨k1.heap.size + 1, 21, none⟩ = some (.int .i64 0) := (hk.cell (p := ⟨k1.heap.size + 1, 21, none⟩) (by first | (simp; done) | (simp; omega) | omega)).trans g21
        replace g22 : k52.cell? ⟨k1.heap.size + 1, 22, none⟩ = some (.string ⟨#[]⟩) := (hk.cell (p := ⟨k1.heap.size + 1, 22, none⟩) (by first | (simp; done) | (simp; omega) | omega)).trans g22
        replace g23 : k52.cell? ⟨k1.heap.size + 1, 23, none⟩ = some (.int .i64 1) := (hk.cell (p := ⟨k1.heap.size + 1, 23, none⟩) (by first | (simp; done) | (simp; omega) | omega)).trans g23
        replace g24 : k52.cell? ⟨k1.heap.size + 1, 24, none⟩ = some (.int .i64 1) := (hk.cell (p := ⟨k1.heap.size + 1, 24, none⟩) (by first | (simp; done) | (simp; omega) | omega)).trans g24
        replace g25 : k52.cell? ⟨k1.heap.size + 1, 25, none⟩ = some (.string ⟨#[]⟩) := (hk.cell (p := ⟨k1.heap.size + 1, 25, none⟩) (by first | (simp; done) | (simp; omega) | omega)).trans g25
        replace g26 : k52.cell? ⟨k1.heap.size + 1, 26, none⟩ = some (.int .i64 0) := (hk.cell (p := ⟨k1.heap.size + 1, 26, none⟩) (by first | (simp; done) | (simp; omega) | omega)).trans g26
        replace HKR := Lib.hid (Below.trans HKR.out (Below.mono hk (by omega)))
        replace hb : Below w.heap.size w k52 := hb.trans (hk.mono hb.size)
        have lt0 : k1.heap.size + 1 < k52.heap.size := (by first | (simp; done) | (simp; omega) | omega)
        clear h hk
        try dsimp only
        refine hK.out _ _ ?_ (fun hHeld => ?_)
        · exact ⟨g18, g19, g20, g21, g22, g23, g24, g25, g26⟩
        clear hK K
        try simp only [Act.put, List.setIfInBounds_toArray, List.set_cons_zero, List.set_cons_succ]
        refine wpAnyH_ready (rs := [9]) (by kernel_rfl) (by simp) ?_
        refine AllReadyH.cons (o := { dst := some 61, op := Op.call { callee := Callee.value (Operand.func 13), args := #[Operand.tmp 60], argTypes := #[25] }, type := 4, pos := "wide.go:53", after := #[{ on := 8, ground := Ground.data }, { on := 4, ground := Ground.chain }], guard := none }) rfl (fun K hK => ?_) (AllReadyH.nil)
        go_simp
        go_at_call 13
        refine (rmayOp_is _ ⟨a0, a1, ⟨0, 0, ⟨#[]⟩⟩, ⟨1, 1, ⟨#[]⟩⟩, 0⟩ x _ rfl ⟨Nat.le_trans hKs (by decide), Nat.zero_le _, Nat.zero_le _⟩ HX.out).mono ?_
        rintro e k53 ⟨rfl, h⟩
        have hk : Below k52.heap.size k52 k53 := by
          refine Below.trans ?_ (h.mono (by first | (simp; done) | (simp; omega) | omega))
          repeat' (first | with_reducible exact Below.refl _ _ | (with_reducible refine Below.alloc ?_ ?_ _) | (with_reducible refine Below.setCell ?_ ?_ _) | exact (by first | (simp; done) | (simp; omega) | omega))
        have hz := h.size
        try simp at hz
        replace g18 : k53.cell? ⟨k1.heap.size + 1, 18, none⟩ = some (.int .i64 a0) := (hk.cell (p := ⟨k1.heap.size + 1, 18, none⟩) (by first | (simp; done) | (simp; omega) | omega)).trans g18
        replace g19 : k53.cell? ⟨k1.heap.size + 1, 19, none⟩ = some (.string a1) := (hk.cell (p := ⟨k1.heap.size + 1, 19, none⟩) (by first | (simp; done) | (simp; omega) | omega)).trans g19
        replace g20 : k53.cell? ⟨k1.heap.size + 1, 20, none⟩ = some (.int .i64 0) := (hk.cell (p := ⟨k1.heap.size + 1, 20, none⟩) (by first | (simp; done) | (simp; omega) | omega)).trans g20
        replace g21 : k53.cell? ⟨k1.heap.size + 1, 21, none⟩ = some (.int .i64 0) := (hk.cell (p := ⟨k1.heap.size + 1, 21, none⟩) (by first | (simp; done) | (simp; omega) | omega)).trans g21
        replace g22 : k53.cell? ⟨k1.heap.size + 1, 22, none⟩ = some (.string ⟨#[]⟩) := (hk.cell (p := ⟨k1.heap.size + 1, 22, none⟩) (by first | (simp; done) | (simp; omega) | omega)).trans g22
        replace g23 : k53.cell? ⟨k1.heap.size + 1, 23, none⟩ = some (.int .i64 1) := (hk.cell (p := ⟨k1.heap.size + 1, 23, none⟩) (by first | (simp; done) | (simp; omega) | omega)).trans g23
        replace g24 : k53.cell? ⟨k1.heap.size + 1, 24, none⟩ = some (.int .i64 1) := (hk.cell (p := ⟨k1.heap.size + 1, 24, none⟩) (by first | (simp; done) | (simp; omega) | omega)).trans g24
        replace g25 : k53.cell? ⟨k1.heap.size + 1, 25, none⟩ = some (.string ⟨#[]⟩) := (hk.cell (p := ⟨k1.heap.size + 1, 25, none⟩) (by first | (simp; done) | (simp; omega) | omega)).trans g25
        replace g26 : k53.cell? ⟨k1.heap.size + 1, 26, none⟩ = some (.int .i64 0) := (hk.cell (p := ⟨k1.heap.size + 1, 26, none⟩) (by first | (simp; done) | (simp; omega) | omega)).trans g26
        replace HKR := Lib.hid (Below.trans HKR.out (Below.mono hk (by omega)))
        replace hb : Below w.heap.size w k53 := hb.trans (hk.mono hb.size)
        have lt0 : k1.heap.size + 1 < k53.heap.size := (by first | (simp; done) | (simp; omega) | omega)
        clear h hk
        try dsimp only
        refine hK.out _ _ ?_ (fun hHeld => ?_)
        · exact ⟨g18, g19, g20, g21, g22, g23, g24, g25, g26⟩
        clear hK K
        try simp only [Act.put, List.setIfInBounds_toArray, List.set_cons_zero, List.set_cons_succ]
        refine wpAnyH_ready (rs := [10]) (by kernel_rfl) (by simp) ?_
        refine AllReadyH.cons (o := { dst := some 62, op := Op.binOp BinOp.neq 4 (Operand.tmp 56) (Operand.tmp 61) 4, type := 4, pos := "wide.go:53", after := #[{ on := 4, ground := Ground.data }, { on := 9, ground := Ground.data }], guard := none }) rfl (fun K hK => ?_) (AllReadyH.nil)
        go_simp
        refine hK.out _ _ ?_ (fun hHeld => ?_)
        · exact ⟨g18, g19, g20, g21, g22, g23, g24, g25, g26⟩
        clear hK K
        try simp only [Act.put, List.setIfInBounds_toArray, List.set_cons_zero, List.set_cons_succ]
        refine wpAnyH_done (by kernel_rfl) ?_ _
        refine NoPanic.normal ?_
        go_wp2
        go_roundw
        case rel => exact ⟨3, by go_num, by decide, HKR.out⟩
        case measure => simp [intOf]
      · have g27 := (hkw.cell (p := ⟨k1.heap.size + 1, 27, none⟩) (by first | (simp; done) | (simp; omega) | omega)).trans g27
        have g28 := (hkw.cell (p := ⟨k1.heap.size + 1, 28, none⟩) (by first | (simp; done) | (simp; omega) | omega)).trans g28
        have g29 := (hkw.cell (p := ⟨k1.heap.size + 1, 29, none⟩) (by first | (simp; done) | (simp; omega) | omega)).trans g29
        have g30 := (hkw.cell (p := ⟨k1.heap.size + 1, 30, none⟩) (by first | (simp; done) | (simp; omega) | omega)).trans g30
        have g31 := (hkw.cell (p := ⟨k1.heap.size + 1, 31, none⟩) (by first | (simp; done) | (simp; omega) | omega)).trans g31
        have g32 := (hkw.cell (p := ⟨k1.heap.size + 1, 32, none⟩) (by first | (simp; done) | (simp; omega) | omega)).trans g32
        have g33 := (hkw.cell (p := ⟨k1.heap.size + 1, 33, none⟩) (by first | (simp; done) | (simp; omega) | omega)).trans g33
        have g34 := (hkw.cell (p := ⟨k1.heap.size + 1, 34, none⟩) (by first | (simp; done) | (simp; omega) | omega)).trans g34
        have g35 := (hkw.cell (p := ⟨k1.heap.size + 1, 35, none⟩) (by first | (simp; done) | (simp; omega) | omega)).trans g35
        have lt0 : k1.heap.size + 1 < wr.heap.size := (by first | (simp; done) | (simp; omega) | omega)
        obtain ⟨x, hx⟩ : ∃ x, mayO ⟨a0, a1, ⟨0, 0, ⟨#[]⟩⟩, ⟨0, 0, ⟨#[]⟩⟩, a2⟩ = x := ⟨_, rfl⟩
        have HX := Lib.hid hx; clear hx
        have hkr : Below k2.heap.size k2 wr := hkw
        have HKR := Lib.hid hkr; clear hkr
        go_wp2
        replace g27 : wr.drew.cell? ⟨k1.heap.size + 1, 27, none⟩ = some (.int .i64 a0) := g27
        replace g28 : wr.drew.cell? ⟨k1.heap.size + 1, 28, none⟩ = some (.string a1) := g28
        replace g29 : wr.drew.cell? ⟨k1.heap.size + 1, 29, none⟩ = some (.int .i64 0) := g29
        replace g30 : wr.drew.cell? ⟨k1.heap.size + 1, 30, none⟩ = some (.int .i64 0) := g30
        replace g31 : wr.drew.cell? ⟨k1.heap.size + 1, 31, none⟩ = some (.string ⟨#[]⟩) := g31
        replace g32 : wr.drew.cell? ⟨k1.heap.size + 1, 32, none⟩ = some (.int .i64 0) := g32
        replace g33 : wr.drew.cell? ⟨k1.heap.size + 1, 33, none⟩ = some (.int .i64 0) := g33
        replace g34 : wr.drew.cell? ⟨k1.heap.size + 1, 34, none⟩ = some (.string ⟨#[]⟩) := g34
        replace g35 : wr.drew.cell? ⟨k1.heap.size + 1, 35, none⟩ = some (.int .i64 a2) := g35
        replace HKR := Lib.hid (Below.trans HKR.out (Below.mono ((Below.refl wr.heap.size wr).drew) (by omega)))
        refine wp_region_noPanic ?_
        refine wp_region_held_drew (S := fun W => W.cell? ⟨k1.heap.size + 1, 27, none⟩ = some (.int .i64 a0) ∧ W.cell? ⟨k1.heap.size + 1, 28, none⟩ = some (.string a1) ∧ W.cell? ⟨k1.heap.size + 1, 29, none⟩ = some (.int .i64 0) ∧ W.cell? ⟨k1.heap.size + 1, 30, none⟩ = some (.int .i64 0) ∧ W.cell? ⟨k1.heap.size + 1, 31, none⟩ = some (.string ⟨#[]⟩) ∧ W.cell? ⟨k1.heap.size + 1, 32, none⟩ = some (.int .i64 0) ∧ W.cell? ⟨k1.heap.size + 1, 33, none⟩ = some (.int .i64 0) ∧ W.cell? ⟨k1.heap.size + 1, 34, none⟩ = some (.string ⟨#[]⟩) ∧ W.cell? ⟨k1.heap.size + 1, 35, none⟩ = some (.int .i64 a2)) (by kernel_rfl) ?_ (fun hHeld => ?_)
        · exact ⟨g27, g28, g29, g30, g31, g32, g33, g34, g35⟩
        replace hb : Below w.heap.size w wr.drew := hb.drew
        replace lt0 : k1.heap.size + 1 < wr.drew.heap.size := lt0
        have hzd : wr.heap.size ≤ wr.drew.heap.size := Nat.le_refl _
        generalize wr.drew = k61 at *
        refine wpAnyH_take (i := 0) (oi := { dst := some 52, op := Op.move (Operand.tmp 9), type := 27, pos := "wide.go:53", after := #[], guard := none }) (v := .slice (some ⟨k1.heap.size + 1, 0, none⟩) 6 6) rfl (by kernel_rfl) (by kernel_rfl) (by kernel_rfl) (fun _ _ _ h => h) (Or.inl ⟨by rfl, fun w hSw => ?_⟩) (by assumption) ?_
        · (try dsimp only at hSw)
          go_simp
        try simp only [Act.put, List.setIfInBounds_toArray, List.set_cons_zero, List.set_cons_succ]
        refine wpAnyH_take (i := 1) (oi := { dst := some 53, op := Op.move (Operand.tmp 10), type := 3, pos := "wide.go:53", after := #[], guard := none }) (v := .int .i64 3) rfl (by kernel_rfl) (by kernel_rfl) (by kernel_rfl) (fun _ _ _ h => h) (Or.inl ⟨by rfl, fun w hSw => ?_⟩) (by assumption) ?_
        · (try dsimp only at hSw)
          go_simp
        try simp only [Act.put, List.setIfInBounds_toArray, List.set_cons_zero, List.set_cons_succ]
        refine wpAnyH_take (i := 2) (oi := { dst := some 54, op := Op.indexAddr 27 (Operand.tmp 52) (Operand.tmp 53), type := 0, pos := "wide.go:53", after := #[{ on := 0, ground := Ground.data }, { on := 1, ground := Ground.data }], guard := none }) (v := .pointer (some ⟨k1.heap.size + 1, 27, none⟩)) rfl (by kernel_rfl) (by kernel_rfl) (by kernel_rfl) (fun _ _ _ h => h) (Or.inl ⟨by rfl, fun w hSw => ?_⟩) (by assumption) ?_
        · (try dsimp only at hSw)
          go_simp
        try simp only [Act.put, List.setIfInBounds_toArray, List.set_cons_zero, List.set_cons_succ]
        refine wpAnyH_take (i := 3) (oi := { dst := some 55, op := Op.load 25 (Operand.tmp 54), type := 25, pos := "wide.go:53", after := #[{ on := 2, ground := Ground.data }], guard := none }) (v := .agg #[.int .i64 a0, .string a1, .int .i64 0, .int .i64 0, .string ⟨#[]⟩, .int .i64 0, .int .i64 0, .string ⟨#[]⟩, .int .i64 a2]) rfl (by kernel_rfl) (by kernel_rfl) (by kernel_rfl) (fun _ _ _ h => h) (Or.inl ⟨by rfl, fun w hSw => ?_⟩) (by assumption) ?_
        · (try dsimp only at hSw)
          go_simp
        try simp only [Act.put, List.setIfInBounds_toArray, List.set_cons_zero, List.set_cons_succ]
        refine wpAnyH_take (i := 5) (oi := { dst := some 57, op := Op.move (Operand.tmp 9), type := 27, pos := "wide.go:53", after := #[], guard := none }) (v := .slice (some ⟨k1.heap.size + 1, 0, none⟩) 6 6) rfl (by kernel_rfl) (by kernel_rfl) (by kernel_rfl) (fun _ _ _ h => h) (Or.inl ⟨by rfl, fun w hSw => ?_⟩) (by assumption) ?_
        · (try dsimp only at hSw)
          go_simp
        try simp only [Act.put, List.setIfInBounds_toArray, List.set_cons_zero, List.set_cons_succ]
        refine wpAnyH_take (i := 6) (oi := { dst := some 58, op := Op.move (Operand.tmp 10), type := 3, pos := "wide.go:53", after := #[], guard := none }) (v := .int .i64 3) rfl (by kernel_rfl) (by kernel_rfl) (by kernel_rfl) (fun _ _ _ h => h) (Or.inl ⟨by rfl, fun w hSw => ?_⟩) (by assumption) ?_
        · (try dsimp only at hSw)
          go_simp
        try simp only [Act.put, List.setIfInBounds_toArray, List.set_cons_zero, List.set_cons_succ]
        refine wpAnyH_take (i := 7) (oi := { dst := some 59, op := Op.indexAddr 27 (Operand.tmp 57) (Operand.tmp 58), type := 0, pos := "wide.go:53", after := #[{ on := 5, ground := Ground.data }, { on := 6, ground := Ground.data }], guard := none }) (v := .pointer (some ⟨k1.heap.size + 1, 27, none⟩)) rfl (by kernel_rfl) (by kernel_rfl) (by kernel_rfl) (fun _ _ _ h => h) (Or.inl ⟨by rfl, fun w hSw => ?_⟩) (by assumption) ?_
        · (try dsimp only at hSw)
          go_simp
        try simp only [Act.put, List.setIfInBounds_toArray, List.set_cons_zero, List.set_cons_succ]
        refine wpAnyH_take (i := 8) (oi := { dst := some 60, op := Op.load 25 (Operand.tmp 59), type := 25, pos := "wide.go:53", after := #[{ on := 7, ground := Ground.data }], guard := none }) (v := .agg #[.int .i64 a0, .string a1, .int .i64 0, .int .i64 0, .string ⟨#[]⟩, .int .i64 0, .int .i64 0, .string ⟨#[]⟩, .int .i64 a2]) rfl (by kernel_rfl) (by kernel_rfl) (by kernel_rfl) (fun _ _ _ h => h) (Or.inl ⟨by rfl, fun w hSw => ?_⟩) (by assumption) ?_
        · (try dsimp only at hSw)
          go_simp
        try simp only [Act.put, List.setIfInBounds_toArray, List.set_cons_zero, List.set_cons_succ]
        refine wpAnyH_ready (rs := [4]) (by kernel_rfl) (by simp) ?_
        refine AllReadyH.cons (o := { dst := some 56, op := Op.call { callee := Callee.value (Operand.func 12), args := #[Operand.tmp 55], argTypes := #[25] }, type := 4, pos := "wide.go:53", after := #[{ on := 3, ground := Ground.data }], guard := none }) rfl (fun K hK => ?_) (AllReadyH.nil)
        go_simp
        go_at_call 12
        refine (omay_is _ ⟨a0, a1, ⟨0, 0, ⟨#[]⟩⟩, ⟨0, 0, ⟨#[]⟩⟩, a2⟩ x _ rfl ⟨Nat.le_trans hKs (by decide), Nat.zero_le _, Nat.zero_le _⟩ HX.out).mono ?_
        rintro e k62 ⟨rfl, h⟩
        have hk : Below k61.heap.size k61 k62 := by
          refine Below.trans ?_ (h.mono (by first | (simp; done) | (simp; omega) | omega))
          repeat' (first | with_reducible exact Below.refl _ _ | (with_reducible refine Below.alloc ?_ ?_ _) | (with_reducible refine Below.setCell ?_ ?_ _) | exact (by first | (simp; done) | (simp; omega) | omega))
        have hz := h.size
        try simp at hz
        replace g27 : k62.cell? ⟨k1.heap.size + 1, 27, none⟩ = some (.int .i64 a0) := (hk.cell (p := ⟨k1.heap.size + 1, 27, none⟩) (by first | (simp; done) | (simp; omega) | omega)).trans g27
        replace g28 : k62.cell? ⟨k1.heap.size + 1, 28, none⟩ = some (.string a1) := (hk.cell (p := ⟨k1.heap.size + 1, 28, none⟩) (by first | (simp; done) | (simp; omega) | omega)).trans g28
        replace g29 : k62.cell? ⟨k1.heap.size + 1, 29, none⟩ = some (.int .i64 0) := (hk.cell (p := ⟨k1.heap.size + 1, 29, none⟩) (by first | (simp; done) | (simp; omega) | omega)).trans g29
        replace g30 : k62.cell? ⟨k1.heap.size + 1, 30, none⟩ = some (.int .i64 0) := (hk.cell (p := ⟨k1.heap.size + 1, 30, none⟩) (by first | (simp; done) | (simp; omega) | omega)).trans g30
        replace g31 : k62.cell? ⟨k1.heap.size + 1, 31, none⟩ = some (.string ⟨#[]⟩) := (hk.cell (p := ⟨k1.heap.size + 1, 31, none⟩) (by first | (simp; done) | (simp; omega) | omega)).trans g31
        replace g32 : k62.cell? ⟨k1.heap.size + 1, 32, none⟩ = some (.int .i64 0) := (hk.cell (p := ⟨k1.heap.size + 1, 32, none⟩) (by first | (simp; done) | (simp; omega) | omega)).trans g32
        replace g33 : k62.cell? ⟨k1.heap.size + 1, 33, none⟩ = some (.int .i64 0) := (hk.cell (p := ⟨k1.heap.size + 1, 33, none⟩) (by first | (simp; done) | (simp; omega) | omega)).trans g33
        replace g34 : k62.cell? ⟨k1.heap.size + 1, 34, none⟩ = some (.string ⟨#[]⟩) := (hk.cell (p := ⟨k1.heap.size + 1, 34, none⟩) (by first | (simp; done) | (simp; omega) | omega)).trans g34
        replace g35 : k62.cell? ⟨k1.heap.size + 1, 35, none⟩ = some (.int .i64 a2) := (hk.cell (p := ⟨k1.heap.size + 1, 35, none⟩) (by first | (simp; done) | (simp; omega) | omega)).trans g35
        replace HKR := Lib.hid (Below.trans HKR.out (Below.mono hk (by omega)))
        replace hb : Below w.heap.size w k62 := hb.trans (hk.mono hb.size)
        have lt0 : k1.heap.size + 1 < k62.heap.size := (by first | (simp; done) | (simp; omega) | omega)
        clear h hk
        try dsimp only
        refine hK.out _ _ ?_ (fun hHeld => ?_)
        · exact ⟨g27, g28, g29, g30, g31, g32, g33, g34, g35⟩
        clear hK K
        try simp only [Act.put, List.setIfInBounds_toArray, List.set_cons_zero, List.set_cons_succ]
        refine wpAnyH_ready (rs := [9]) (by kernel_rfl) (by simp) ?_
        refine AllReadyH.cons (o := { dst := some 61, op := Op.call { callee := Callee.value (Operand.func 13), args := #[Operand.tmp 60], argTypes := #[25] }, type := 4, pos := "wide.go:53", after := #[{ on := 8, ground := Ground.data }, { on := 4, ground := Ground.chain }], guard := none }) rfl (fun K hK => ?_) (AllReadyH.nil)
        go_simp
        go_at_call 13
        refine (rmayOp_is _ ⟨a0, a1, ⟨0, 0, ⟨#[]⟩⟩, ⟨0, 0, ⟨#[]⟩⟩, a2⟩ x _ rfl ⟨Nat.le_trans hKs (by decide), Nat.zero_le _, Nat.zero_le _⟩ HX.out).mono ?_
        rintro e k63 ⟨rfl, h⟩
        have hk : Below k62.heap.size k62 k63 := by
          refine Below.trans ?_ (h.mono (by first | (simp; done) | (simp; omega) | omega))
          repeat' (first | with_reducible exact Below.refl _ _ | (with_reducible refine Below.alloc ?_ ?_ _) | (with_reducible refine Below.setCell ?_ ?_ _) | exact (by first | (simp; done) | (simp; omega) | omega))
        have hz := h.size
        try simp at hz
        replace g27 : k63.cell? ⟨k1.heap.size + 1, 27, none⟩ = some (.int .i64 a0) := (hk.cell (p := ⟨k1.heap.size + 1, 27, none⟩) (by first | (simp; done) | (simp; omega) | omega)).trans g27
        replace g28 : k63.cell? ⟨k1.heap.size + 1, 28, none⟩ = some (.string a1) := (hk.cell (p := ⟨k1.heap.size + 1, 28, none⟩) (by first | (simp; done) | (simp; omega) | omega)).trans g28
        replace g29 : k63.cell? ⟨k1.heap.size + 1, 29, none⟩ = some (.int .i64 0) := (hk.cell (p := ⟨k1.heap.size + 1, 29, none⟩) (by first | (simp; done) | (simp; omega) | omega)).trans g29
        replace g30 : k63.cell? ⟨k1.heap.size + 1, 30, none⟩ = some (.int .i64 0) := (hk.cell (p := ⟨k1.heap.size + 1, 30, none⟩) (by first | (simp; done) | (simp; omega) | omega)).trans g30
        replace g31 : k63.cell? ⟨k1.heap.size + 1, 31, none⟩ = some (.string ⟨#[]⟩) := (hk.cell (p := ⟨k1.heap.size + 1, 31, none⟩) (by first | (simp; done) | (simp; omega) | omega)).trans g31
        replace g32 : k63.cell? ⟨k1.heap.size + 1, 32, none⟩ = some (.int .i64 0) := (hk.cell (p := ⟨k1.heap.size + 1, 32, none⟩) (by first | (simp; done) | (simp; omega) | omega)).trans g32
        replace g33 : k63.cell? ⟨k1.heap.size + 1, 33, none⟩ = some (.int .i64 0) := (hk.cell (p := ⟨k1.heap.size + 1, 33, none⟩) (by first | (simp; done) | (simp; omega) | omega)).trans g33
        replace g34 : k63.cell? ⟨k1.heap.size + 1, 34, none⟩ = some (.string ⟨#[]⟩) := (hk.cell (p := ⟨k1.heap.size + 1, 34, none⟩) (by first | (simp; done) | (simp; omega) | omega)).trans g34
        replace g35 : k63.cell? ⟨k1.heap.size + 1, 35, none⟩ = some (.int .i64 a2) := (hk.cell (p := ⟨k1.heap.size + 1, 35, none⟩) (by first | (simp; done) | (simp; omega) | omega)).trans g35
        replace HKR := Lib.hid (Below.trans HKR.out (Below.mono hk (by omega)))
        replace hb : Below w.heap.size w k63 := hb.trans (hk.mono hb.size)
        have lt0 : k1.heap.size + 1 < k63.heap.size := (by first | (simp; done) | (simp; omega) | omega)
        clear h hk
        try dsimp only
        refine hK.out _ _ ?_ (fun hHeld => ?_)
        · exact ⟨g27, g28, g29, g30, g31, g32, g33, g34, g35⟩
        clear hK K
        try simp only [Act.put, List.setIfInBounds_toArray, List.set_cons_zero, List.set_cons_succ]
        refine wpAnyH_ready (rs := [10]) (by kernel_rfl) (by simp) ?_
        refine AllReadyH.cons (o := { dst := some 62, op := Op.binOp BinOp.neq 4 (Operand.tmp 56) (Operand.tmp 61) 4, type := 4, pos := "wide.go:53", after := #[{ on := 4, ground := Ground.data }, { on := 9, ground := Ground.data }], guard := none }) rfl (fun K hK => ?_) (AllReadyH.nil)
        go_simp
        refine hK.out _ _ ?_ (fun hHeld => ?_)
        · exact ⟨g27, g28, g29, g30, g31, g32, g33, g34, g35⟩
        clear hK K
        try simp only [Act.put, List.setIfInBounds_toArray, List.set_cons_zero, List.set_cons_succ]
        refine wpAnyH_done (by kernel_rfl) ?_ _
        refine NoPanic.normal ?_
        go_wp2
        go_roundw
        case rel => exact ⟨4, by go_num, by decide, HKR.out⟩
        case measure => simp [intOf]
      · have g36 := (hkw.cell (p := ⟨k1.heap.size + 1, 36, none⟩) (by first | (simp; done) | (simp; omega) | omega)).trans g36
        have g37 := (hkw.cell (p := ⟨k1.heap.size + 1, 37, none⟩) (by first | (simp; done) | (simp; omega) | omega)).trans g37
        have g38 := (hkw.cell (p := ⟨k1.heap.size + 1, 38, none⟩) (by first | (simp; done) | (simp; omega) | omega)).trans g38
        have g39 := (hkw.cell (p := ⟨k1.heap.size + 1, 39, none⟩) (by first | (simp; done) | (simp; omega) | omega)).trans g39
        have g40 := (hkw.cell (p := ⟨k1.heap.size + 1, 40, none⟩) (by first | (simp; done) | (simp; omega) | omega)).trans g40
        have g41 := (hkw.cell (p := ⟨k1.heap.size + 1, 41, none⟩) (by first | (simp; done) | (simp; omega) | omega)).trans g41
        have g42 := (hkw.cell (p := ⟨k1.heap.size + 1, 42, none⟩) (by first | (simp; done) | (simp; omega) | omega)).trans g42
        have g43 := (hkw.cell (p := ⟨k1.heap.size + 1, 43, none⟩) (by first | (simp; done) | (simp; omega) | omega)).trans g43
        have g44 := (hkw.cell (p := ⟨k1.heap.size + 1, 44, none⟩) (by first | (simp; done) | (simp; omega) | omega)).trans g44
        have lt0 : k1.heap.size + 1 < wr.heap.size := (by first | (simp; done) | (simp; omega) | omega)
        obtain ⟨x, hx⟩ : ∃ x, mayO ⟨a0, a1, ⟨1, 1, ⟨#[]⟩⟩, ⟨1, 1, ⟨#[]⟩⟩, 0⟩ = x := ⟨_, rfl⟩
        have HX := Lib.hid hx; clear hx
        have hkr : Below k2.heap.size k2 wr := hkw
        have HKR := Lib.hid hkr; clear hkr
        go_wp2
        replace g36 : wr.drew.cell? ⟨k1.heap.size + 1, 36, none⟩ = some (.int .i64 a0) := g36
        replace g37 : wr.drew.cell? ⟨k1.heap.size + 1, 37, none⟩ = some (.string a1) := g37
        replace g38 : wr.drew.cell? ⟨k1.heap.size + 1, 38, none⟩ = some (.int .i64 1) := g38
        replace g39 : wr.drew.cell? ⟨k1.heap.size + 1, 39, none⟩ = some (.int .i64 1) := g39
        replace g40 : wr.drew.cell? ⟨k1.heap.size + 1, 40, none⟩ = some (.string ⟨#[]⟩) := g40
        replace g41 : wr.drew.cell? ⟨k1.heap.size + 1, 41, none⟩ = some (.int .i64 1) := g41
        replace g42 : wr.drew.cell? ⟨k1.heap.size + 1, 42, none⟩ = some (.int .i64 1) := g42
        replace g43 : wr.drew.cell? ⟨k1.heap.size + 1, 43, none⟩ = some (.string ⟨#[]⟩) := g43
        replace g44 : wr.drew.cell? ⟨k1.heap.size + 1, 44, none⟩ = some (.int .i64 0) := g44
        replace HKR := Lib.hid (Below.trans HKR.out (Below.mono ((Below.refl wr.heap.size wr).drew) (by omega)))
        refine wp_region_noPanic ?_
        refine wp_region_held_drew (S := fun W => W.cell? ⟨k1.heap.size + 1, 36, none⟩ = some (.int .i64 a0) ∧ W.cell? ⟨k1.heap.size + 1, 37, none⟩ = some (.string a1) ∧ W.cell? ⟨k1.heap.size + 1, 38, none⟩ = some (.int .i64 1) ∧ W.cell? ⟨k1.heap.size + 1, 39, none⟩ = some (.int .i64 1) ∧ W.cell? ⟨k1.heap.size + 1, 40, none⟩ = some (.string ⟨#[]⟩) ∧ W.cell? ⟨k1.heap.size + 1, 41, none⟩ = some (.int .i64 1) ∧ W.cell? ⟨k1.heap.size + 1, 42, none⟩ = some (.int .i64 1) ∧ W.cell? ⟨k1.heap.size + 1, 43, none⟩ = some (.string ⟨#[]⟩) ∧ W.cell? ⟨k1.heap.size + 1, 44, none⟩ = some (.int .i64 0)) (by kernel_rfl) ?_ (fun hHeld => ?_)
        · exact ⟨g36, g37, g38, g39, g40, g41, g42, g43, g44⟩
        replace hb : Below w.heap.size w wr.drew := hb.drew
        replace lt0 : k1.heap.size + 1 < wr.drew.heap.size := lt0
        have hzd : wr.heap.size ≤ wr.drew.heap.size := Nat.le_refl _
        generalize wr.drew = k71 at *
        refine wpAnyH_take (i := 0) (oi := { dst := some 52, op := Op.move (Operand.tmp 9), type := 27, pos := "wide.go:53", after := #[], guard := none }) (v := .slice (some ⟨k1.heap.size + 1, 0, none⟩) 6 6) rfl (by kernel_rfl) (by kernel_rfl) (by kernel_rfl) (fun _ _ _ h => h) (Or.inl ⟨by rfl, fun w hSw => ?_⟩) (by assumption) ?_
        · (try dsimp only at hSw)
          go_simp
        try simp only [Act.put, List.setIfInBounds_toArray, List.set_cons_zero, List.set_cons_succ]
        refine wpAnyH_take (i := 1) (oi := { dst := some 53, op := Op.move (Operand.tmp 10), type := 3, pos := "wide.go:53", after := #[], guard := none }) (v := .int .i64 4) rfl (by kernel_rfl) (by kernel_rfl) (by kernel_rfl) (fun _ _ _ h => h) (Or.inl ⟨by rfl, fun w hSw => ?_⟩) (by assumption) ?_
        · (try dsimp only at hSw)
          go_simp
        try simp only [Act.put, List.setIfInBounds_toArray, List.set_cons_zero, List.set_cons_succ]
        refine wpAnyH_take (i := 2) (oi := { dst := some 54, op := Op.indexAddr 27 (Operand.tmp 52) (Operand.tmp 53), type := 0, pos := "wide.go:53", after := #[{ on := 0, ground := Ground.data }, { on := 1, ground := Ground.data }], guard := none }) (v := .pointer (some ⟨k1.heap.size + 1, 36, none⟩)) rfl (by kernel_rfl) (by kernel_rfl) (by kernel_rfl) (fun _ _ _ h => h) (Or.inl ⟨by rfl, fun w hSw => ?_⟩) (by assumption) ?_
        · (try dsimp only at hSw)
          go_simp
        try simp only [Act.put, List.setIfInBounds_toArray, List.set_cons_zero, List.set_cons_succ]
        refine wpAnyH_take (i := 3) (oi := { dst := some 55, op := Op.load 25 (Operand.tmp 54), type := 25, pos := "wide.go:53", after := #[{ on := 2, ground := Ground.data }], guard := none }) (v := .agg #[.int .i64 a0, .string a1, .int .i64 1, .int .i64 1, .string ⟨#[]⟩, .int .i64 1, .int .i64 1, .string ⟨#[]⟩, .int .i64 0]) rfl (by kernel_rfl) (by kernel_rfl) (by kernel_rfl) (fun _ _ _ h => h) (Or.inl ⟨by rfl, fun w hSw => ?_⟩) (by assumption) ?_
        · (try dsimp only at hSw)
          go_simp
        try simp only [Act.put, List.setIfInBounds_toArray, List.set_cons_zero, List.set_cons_succ]
        refine wpAnyH_take (i := 5) (oi := { dst := some 57, op := Op.move (Operand.tmp 9), type := 27, pos := "wide.go:53", after := #[], guard := none }) (v := .slice (some ⟨k1.heap.size + 1, 0, none⟩) 6 6) rfl (by kernel_rfl) (by kernel_rfl) (by kernel_rfl) (fun _ _ _ h => h) (Or.inl ⟨by rfl, fun w hSw => ?_⟩) (by assumption) ?_
        · (try dsimp only at hSw)
          go_simp
        try simp only [Act.put, List.setIfInBounds_toArray, List.set_cons_zero, List.set_cons_succ]
        refine wpAnyH_take (i := 6) (oi := { dst := some 58, op := Op.move (Operand.tmp 10), type := 3, pos := "wide.go:53", after := #[], guard := none }) (v := .int .i64 4) rfl (by kernel_rfl) (by kernel_rfl) (by kernel_rfl) (fun _ _ _ h => h) (Or.inl ⟨by rfl, fun w hSw => ?_⟩) (by assumption) ?_
        · (try dsimp only at hSw)
          go_simp
        try simp only [Act.put, List.setIfInBounds_toArray, List.set_cons_zero, List.set_cons_succ]
        refine wpAnyH_take (i := 7) (oi := { dst := some 59, op := Op.indexAddr 27 (Operand.tmp 57) (Operand.tmp 58), type := 0, pos := "wide.go:53", after := #[{ on := 5, ground := Ground.data }, { on := 6, ground := Ground.data }], guard := none }) (v := .pointer (some ⟨k1.heap.size + 1, 36, none⟩)) rfl (by kernel_rfl) (by kernel_rfl) (by kernel_rfl) (fun _ _ _ h => h) (Or.inl ⟨by rfl, fun w hSw => ?_⟩) (by assumption) ?_
        · (try dsimp only at hSw)
          go_simp
        try simp only [Act.put, List.setIfInBounds_toArray, List.set_cons_zero, List.set_cons_succ]
        refine wpAnyH_take (i := 8) (oi := { dst := some 60, op := Op.load 25 (Operand.tmp 59), type := 25, pos := "wide.go:53", after := #[{ on := 7, ground := Ground.data }], guard := none }) (v := .agg #[.int .i64 a0, .string a1, .int .i64 1, .int .i64 1, .string ⟨#[]⟩, .int .i64 1, .int .i64 1, .string ⟨#[]⟩, .int .i64 0]) rfl (by kernel_rfl) (by kernel_rfl) (by kernel_rfl) (fun _ _ _ h => h) (Or.inl ⟨by rfl, fun w hSw => ?_⟩) (by assumption) ?_
        · (try dsimp only at hSw)
          go_simp
        try simp only [Act.put, List.setIfInBounds_toArray, List.set_cons_zero, List.set_cons_succ]
        refine wpAnyH_ready (rs := [4]) (by kernel_rfl) (by simp) ?_
        refine AllReadyH.cons (o := { dst := some 56, op := Op.call { callee := Callee.value (Operand.func 12), args := #[Operand.tmp 55], argTypes := #[25] }, type := 4, pos := "wide.go:53", after := #[{ on := 3, ground := Ground.data }], guard := none }) rfl (fun K hK => ?_) (AllReadyH.nil)
        go_simp
        go_at_call 12
        refine (omay_is _ ⟨a0, a1, ⟨1, 1, ⟨#[]⟩⟩, ⟨1, 1, ⟨#[]⟩⟩, 0⟩ x _ rfl ⟨Nat.le_trans hKs (by decide), Nat.zero_le _, Nat.zero_le _⟩ HX.out).mono ?_
        rintro e k72 ⟨rfl, h⟩
        have hk : Below k71.heap.size k71 k72 := by
          refine Below.trans ?_ (h.mono (by first | (simp; done) | (simp; omega) | omega))
          repeat' (first | with_reducible exact Below.refl _ _ | (with_reducible refine Below.alloc ?_ ?_ _) | (with_reducible refine Below.setCell ?_ ?_ _) | exact (by first | (simp; done) | (simp; omega) | omega))
        have hz := h.size
        try simp at hz
        replace g36 : k72.cell? ⟨k1.heap.size + 1, 36, none⟩ = some (.int .i64 a0) := (hk.cell (p := ⟨k1.heap.size + 1, 36, none⟩) (by first | (simp; done) | (simp; omega) | omega)).trans g36
        replace g37 : k72.cell? ⟨k1.heap.size + 1, 37, none⟩ = some (.string a1) := (hk.cell (p := ⟨k1.heap.size + 1, 37, none⟩) (by first | (simp; done) | (simp; omega) | omega)).trans g37
        replace g38 : k72.cell? ⟨k1.heap.size + 1, 38, none⟩ = some (.int .i64 1) := (hk.cell (p := ⟨k1.heap.size + 1, 38, none⟩) (by first | (simp; done) | (simp; omega) | omega)).trans g38
        replace g39 : k72.cell? ⟨k1.heap.size + 1, 39, none⟩ = some (.int .i64 1) := (hk.cell (p := ⟨k1.heap.size + 1, 39, none⟩) (by first | (simp; done) | (simp; omega) | omega)).trans g39
        replace g40 : k72.cell? ⟨k1.heap.size + 1, 40, none⟩ = some (.string ⟨#[]⟩) := (hk.cell (p := ⟨k1.heap.size + 1, 40, none⟩) (by first | (simp; done) | (simp; omega) | omega)).trans g40
        replace g41 : k72.cell? ⟨k1.heap.size + 1, 41, none⟩ = some (.int .i64 1) := (hk.cell (p := ⟨k1.heap.size + 1, 41, none⟩) (by first | (simp; done) | (simp; omega) | omega)).trans g41
        replace g42 : k72.cell? ⟨k1.heap.size + 1, 42, none⟩ = some (.int .i64 1) := (hk.cell (p := ⟨k1.heap.size + 1, 42, none⟩) (by first | (simp; done) | (simp; omega) | omega)).trans g42
        replace g43 : k72.cell? ⟨k1.heap.size + 1, 43, none⟩ = some (.string ⟨#[]⟩) := (hk.cell (p := ⟨k1.heap.size + 1, 43, none⟩) (by first | (simp; done) | (simp; omega) | omega)).trans g43
        replace g44 : k72.cell? ⟨k1.heap.size + 1, 44, none⟩ = some (.int .i64 0) := (hk.cell (p := ⟨k1.heap.size + 1, 44, none⟩) (by first | (simp; done) | (simp; omega) | omega)).trans g44
        replace HKR := Lib.hid (Below.trans HKR.out (Below.mono hk (by omega)))
        replace hb : Below w.heap.size w k72 := hb.trans (hk.mono hb.size)
        have lt0 : k1.heap.size + 1 < k72.heap.size := (by first | (simp; done) | (simp; omega) | omega)
        clear h hk
        try dsimp only
        refine hK.out _ _ ?_ (fun hHeld => ?_)
        · exact ⟨g36, g37, g38, g39, g40, g41, g42, g43, g44⟩
        clear hK K
        try simp only [Act.put, List.setIfInBounds_toArray, List.set_cons_zero, List.set_cons_succ]
        refine wpAnyH_ready (rs := [9]) (by kernel_rfl) (by simp) ?_
        refine AllReadyH.cons (o := { dst := some 61, op := Op.call { callee := Callee.value (Operand.func 13), args := #[Operand.tmp 60], argTypes := #[25] }, type := 4, pos := "wide.go:53", after := #[{ on := 8, ground := Ground.data }, { on := 4, ground := Ground.chain }], guard := none }) rfl (fun K hK => ?_) (AllReadyH.nil)
        go_simp
        go_at_call 13
        refine (rmayOp_is _ ⟨a0, a1, ⟨1, 1, ⟨#[]⟩⟩, ⟨1, 1, ⟨#[]⟩⟩, 0⟩ x _ rfl ⟨Nat.le_trans hKs (by decide), Nat.zero_le _, Nat.zero_le _⟩ HX.out).mono ?_
        rintro e k73 ⟨rfl, h⟩
        have hk : Below k72.heap.size k72 k73 := by
          refine Below.trans ?_ (h.mono (by first | (simp; done) | (simp; omega) | omega))
          repeat' (first | with_reducible exact Below.refl _ _ | (with_reducible refine Below.alloc ?_ ?_ _) | (with_reducible refine Below.setCell ?_ ?_ _) | exact (by first | (simp; done) | (simp; omega) | omega))
        have hz := h.size
        try simp at hz
        replace g36 : k73.cell? ⟨k1.heap.size + 1, 36, none⟩ = some (.int .i64 a0) := (hk.cell (p := ⟨k1.heap.size + 1, 36, none⟩) (by first | (simp; done) | (simp; omega) | omega)).trans g36
        replace g37 : k73.cell? ⟨k1.heap.size + 1, 37, none⟩ = some (.string a1) := (hk.cell (p := ⟨k1.heap.size + 1, 37, none⟩) (by first | (simp; done) | (simp; omega) | omega)).trans g37
        replace g38 : k73.cell? ⟨k1.heap.size + 1, 38, none⟩ = some (.int .i64 1) := (hk.cell (p := ⟨k1.heap.size + 1, 38, none⟩) (by first | (simp; done) | (simp; omega) | omega)).trans g38
        replace g39 : k73.cell? ⟨k1.heap.size + 1, 39, none⟩ = some (.int .i64 1) := (hk.cell (p := ⟨k1.heap.size + 1, 39, none⟩) (by first | (simp; done) | (simp; omega) | omega)).trans g39
        replace g40 : k73.cell? ⟨k1.heap.size + 1, 40, none⟩ = some (.string ⟨#[]⟩) := (hk.cell (p := ⟨k1.heap.size + 1, 40, none⟩) (by first | (simp; done) | (simp; omega) | omega)).trans g40
        replace g41 : k73.cell? ⟨k1.heap.size + 1, 41, none⟩ = some (.int .i64 1) := (hk.cell (p := ⟨k1.heap.size + 1, 41, none⟩) (by first | (simp; done) | (simp; omega) | omega)).trans g41
        replace g42 : k73.cell? ⟨k1.heap.size + 1, 42, none⟩ = some (.int .i64 1) := (hk.cell (p := ⟨k1.heap.size + 1, 42, none⟩) (by first | (simp; done) | (simp; omega) | omega)).trans g42
        replace g43 : k73.cell? ⟨k1.heap.size + 1, 43, none⟩ = some (.string ⟨#[]⟩) := (hk.cell (p := ⟨k1.heap.size + 1, 43, none⟩) (by first | (simp; done) | (simp; omega) | omega)).trans g43
        replace g44 : k73.cell? ⟨k1.heap.size + 1, 44, none⟩ = some (.int .i64 0) := (hk.cell (p := ⟨k1.heap.size + 1, 44, none⟩) (by first | (simp; done) | (simp; omega) | omega)).trans g44
        replace HKR := Lib.hid (Below.trans HKR.out (Below.mono hk (by omega)))
        replace hb : Below w.heap.size w k73 := hb.trans (hk.mono hb.size)
        have lt0 : k1.heap.size + 1 < k73.heap.size := (by first | (simp; done) | (simp; omega) | omega)
        clear h hk
        try dsimp only
        refine hK.out _ _ ?_ (fun hHeld => ?_)
        · exact ⟨g36, g37, g38, g39, g40, g41, g42, g43, g44⟩
        clear hK K
        try simp only [Act.put, List.setIfInBounds_toArray, List.set_cons_zero, List.set_cons_succ]
        refine wpAnyH_ready (rs := [10]) (by kernel_rfl) (by simp) ?_
        refine AllReadyH.cons (o := { dst := some 62, op := Op.binOp BinOp.neq 4 (Operand.tmp 56) (Operand.tmp 61) 4, type := 4, pos := "wide.go:53", after := #[{ on := 4, ground := Ground.data }, { on := 9, ground := Ground.data }], guard := none }) rfl (fun K hK => ?_) (AllReadyH.nil)
        go_simp
        refine hK.out _ _ ?_ (fun hHeld => ?_)
        · exact ⟨g36, g37, g38, g39, g40, g41, g42, g43, g44⟩
        clear hK K
        try simp only [Act.put, List.setIfInBounds_toArray, List.set_cons_zero, List.set_cons_succ]
        refine wpAnyH_done (by kernel_rfl) ?_ _
        refine NoPanic.normal ?_
        go_wp2
        go_roundw
        case rel => exact ⟨5, by go_num, by decide, HKR.out⟩
        case measure => simp [intOf]
      · have g45 := (hkw.cell (p := ⟨k1.heap.size + 1, 45, none⟩) (by first | (simp; done) | (simp; omega) | omega)).trans g45
        have g46 := (hkw.cell (p := ⟨k1.heap.size + 1, 46, none⟩) (by first | (simp; done) | (simp; omega) | omega)).trans g46
        have g47 := (hkw.cell (p := ⟨k1.heap.size + 1, 47, none⟩) (by first | (simp; done) | (simp; omega) | omega)).trans g47
        have g48 := (hkw.cell (p := ⟨k1.heap.size + 1, 48, none⟩) (by first | (simp; done) | (simp; omega) | omega)).trans g48
        have g49 := (hkw.cell (p := ⟨k1.heap.size + 1, 49, none⟩) (by first | (simp; done) | (simp; omega) | omega)).trans g49
        have g50 := (hkw.cell (p := ⟨k1.heap.size + 1, 50, none⟩) (by first | (simp; done) | (simp; omega) | omega)).trans g50
        have g51 := (hkw.cell (p := ⟨k1.heap.size + 1, 51, none⟩) (by first | (simp; done) | (simp; omega) | omega)).trans g51
        have g52 := (hkw.cell (p := ⟨k1.heap.size + 1, 52, none⟩) (by first | (simp; done) | (simp; omega) | omega)).trans g52
        have g53 := (hkw.cell (p := ⟨k1.heap.size + 1, 53, none⟩) (by first | (simp; done) | (simp; omega) | omega)).trans g53
        have lt0 : k1.heap.size + 1 < wr.heap.size := (by first | (simp; done) | (simp; omega) | omega)
        obtain ⟨x, hx⟩ : ∃ x, mayO ⟨a0, a1, ⟨1, 1, ⟨#[]⟩⟩, ⟨0, 0, ⟨#[]⟩⟩, a2⟩ = x := ⟨_, rfl⟩
        have HX := Lib.hid hx; clear hx
        have hkr : Below k2.heap.size k2 wr := hkw
        have HKR := Lib.hid hkr; clear hkr
        go_wp2
        replace g45 : wr.drew.cell? ⟨k1.heap.size + 1, 45, none⟩ = some (.int .i64 a0) := g45
        replace g46 : wr.drew.cell? ⟨k1.heap.size + 1, 46, none⟩ = some (.string a1) := g46
        replace g47 : wr.drew.cell? ⟨k1.heap.size + 1, 47, none⟩ = some (.int .i64 1) := g47
        replace g48 : wr.drew.cell? ⟨k1.heap.size + 1, 48, none⟩ = some (.int .i64 1) := g48
        replace g49 : wr.drew.cell? ⟨k1.heap.size + 1, 49, none⟩ = some (.string ⟨#[]⟩) := g49
        replace g50 : wr.drew.cell? ⟨k1.heap.size + 1, 50, none⟩ = some (.int .i64 0) := g50
        replace g51 : wr.drew.cell? ⟨k1.heap.size + 1, 51, none⟩ = some (.int .i64 0) := g51
        replace g52 : wr.drew.cell? ⟨k1.heap.size + 1, 52, none⟩ = some (.string ⟨#[]⟩) := g52
        replace g53 : wr.drew.cell? ⟨k1.heap.size + 1, 53, none⟩ = some (.int .i64 a2) := g53
        replace HKR := Lib.hid (Below.trans HKR.out (Below.mono ((Below.refl wr.heap.size wr).drew) (by omega)))
        refine wp_region_noPanic ?_
        refine wp_region_held_drew (S := fun W => W.cell? ⟨k1.heap.size + 1, 45, none⟩ = some (.int .i64 a0) ∧ W.cell? ⟨k1.heap.size + 1, 46, none⟩ = some (.string a1) ∧ W.cell? ⟨k1.heap.size + 1, 47, none⟩ = some (.int .i64 1) ∧ W.cell? ⟨k1.heap.size + 1, 48, none⟩ = some (.int .i64 1) ∧ W.cell? ⟨k1.heap.size + 1, 49, none⟩ = some (.string ⟨#[]⟩) ∧ W.cell? ⟨k1.heap.size + 1, 50, none⟩ = some (.int .i64 0) ∧ W.cell? ⟨k1.heap.size + 1, 51, none⟩ = some (.int .i64 0) ∧ W.cell? ⟨k1.heap.size + 1, 52, none⟩ = some (.string ⟨#[]⟩) ∧ W.cell? ⟨k1.heap.size + 1, 53, none⟩ = some (.int .i64 a2)) (by kernel_rfl) ?_ (fun hHeld => ?_)
        · exact ⟨g45, g46, g47, g48, g49, g50, g51, g52, g53⟩
        replace hb : Below w.heap.size w wr.drew := hb.drew
        replace lt0 : k1.heap.size + 1 < wr.drew.heap.size := lt0
        have hzd : wr.heap.size ≤ wr.drew.heap.size := Nat.le_refl _
        generalize wr.drew = k81 at *
        refine wpAnyH_take (i := 0) (oi := { dst := some 52, op := Op.move (Operand.tmp 9), type := 27, pos := "wide.go:53", after := #[], guard := none }) (v := .slice (some ⟨k1.heap.size + 1, 0, none⟩) 6 6) rfl (by kernel_rfl) (by kernel_rfl) (by kernel_rfl) (fun _ _ _ h => h) (Or.inl ⟨by rfl, fun w hSw => ?_⟩) (by assumption) ?_
        · (try dsimp only at hSw)
          go_simp
        try simp only [Act.put, List.setIfInBounds_toArray, List.set_cons_zero, List.set_cons_succ]
        refine wpAnyH_take (i := 1) (oi := { dst := some 53, op := Op.move (Operand.tmp 10), type := 3, pos := "wide.go:53", after := #[], guard := none }) (v := .int .i64 5) rfl (by kernel_rfl) (by kernel_rfl) (by kernel_rfl) (fun _ _ _ h => h) (Or.inl ⟨by rfl, fun w hSw => ?_⟩) (by assumption) ?_
        · (try dsimp only at hSw)
          go_simp
        try simp only [Act.put, List.setIfInBounds_toArray, List.set_cons_zero, List.set_cons_succ]
        refine wpAnyH_take (i := 2) (oi := { dst := some 54, op := Op.indexAddr 27 (Operand.tmp 52) (Operand.tmp 53), type := 0, pos := "wide.go:53", after := #[{ on := 0, ground := Ground.data }, { on := 1, ground := Ground.data }], guard := none }) (v := .pointer (some ⟨k1.heap.size + 1, 45, none⟩)) rfl (by kernel_rfl) (by kernel_rfl) (by kernel_rfl) (fun _ _ _ h => h) (Or.inl ⟨by rfl, fun w hSw => ?_⟩) (by assumption) ?_
        · (try dsimp only at hSw)
          go_simp
        try simp only [Act.put, List.setIfInBounds_toArray, List.set_cons_zero, List.set_cons_succ]
        refine wpAnyH_take (i := 3) (oi := { dst := some 55, op := Op.load 25 (Operand.tmp 54), type := 25, pos := "wide.go:53", after := #[{ on := 2, ground := Ground.data }], guard := none }) (v := .agg #[.int .i64 a0, .string a1, .int .i64 1, .int .i64 1, .string ⟨#[]⟩, .int .i64 0, .int .i64 0, .string ⟨#[]⟩, .int .i64 a2]) rfl (by kernel_rfl) (by kernel_rfl) (by kernel_rfl) (fun _ _ _ h => h) (Or.inl ⟨by rfl, fun w hSw => ?_⟩) (by assumption) ?_
        · (try dsimp only at hSw)
          go_simp
        try simp only [Act.put, List.setIfInBounds_toArray, List.set_cons_zero, List.set_cons_succ]
        refine wpAnyH_take (i := 5) (oi := { dst := some 57, op := Op.move (Operand.tmp 9), type := 27, pos := "wide.go:53", after := #[], guard := none }) (v := .slice (some ⟨k1.heap.size + 1, 0, none⟩) 6 6) rfl (by kernel_rfl) (by kernel_rfl) (by kernel_rfl) (fun _ _ _ h => h) (Or.inl ⟨by rfl, fun w hSw => ?_⟩) (by assumption) ?_
        · (try dsimp only at hSw)
          go_simp
        try simp only [Act.put, List.setIfInBounds_toArray, List.set_cons_zero, List.set_cons_succ]
        refine wpAnyH_take (i := 6) (oi := { dst := some 58, op := Op.move (Operand.tmp 10), type := 3, pos := "wide.go:53", after := #[], guard := none }) (v := .int .i64 5) rfl (by kernel_rfl) (by kernel_rfl) (by kernel_rfl) (fun _ _ _ h => h) (Or.inl ⟨by rfl, fun w hSw => ?_⟩) (by assumption) ?_
        · (try dsimp only at hSw)
          go_simp
        try simp only [Act.put, List.setIfInBounds_toArray, List.set_cons_zero, List.set_cons_succ]
        refine wpAnyH_take (i := 7) (oi := { dst := some 59, op := Op.indexAddr 27 (Operand.tmp 57) (Operand.tmp 58), type := 0, pos := "wide.go:53", after := #[{ on := 5, ground := Ground.data }, { on := 6, ground := Ground.data }], guard := none }) (v := .pointer (some ⟨k1.heap.size + 1, 45, none⟩)) rfl (by kernel_rfl) (by kernel_rfl) (by kernel_rfl) (fun _ _ _ h => h) (Or.inl ⟨by rfl, fun w hSw => ?_⟩) (by assumption) ?_
        · (try dsimp only at hSw)
          go_simp
        try simp only [Act.put, List.setIfInBounds_toArray, List.set_cons_zero, List.set_cons_succ]
        refine wpAnyH_take (i := 8) (oi := { dst := some 60, op := Op.load 25 (Operand.tmp 59), type := 25, pos := "wide.go:53", after := #[{ on := 7, ground := Ground.data }], guard := none }) (v := .agg #[.int .i64 a0, .string a1, .int .i64 1, .int .i64 1, .string ⟨#[]⟩, .int .i64 0, .int .i64 0, .string ⟨#[]⟩, .int .i64 a2]) rfl (by kernel_rfl) (by kernel_rfl) (by kernel_rfl) (fun _ _ _ h => h) (Or.inl ⟨by rfl, fun w hSw => ?_⟩) (by assumption) ?_
        · (try dsimp only at hSw)
          go_simp
        try simp only [Act.put, List.setIfInBounds_toArray, List.set_cons_zero, List.set_cons_succ]
        refine wpAnyH_ready (rs := [4]) (by kernel_rfl) (by simp) ?_
        refine AllReadyH.cons (o := { dst := some 56, op := Op.call { callee := Callee.value (Operand.func 12), args := #[Operand.tmp 55], argTypes := #[25] }, type := 4, pos := "wide.go:53", after := #[{ on := 3, ground := Ground.data }], guard := none }) rfl (fun K hK => ?_) (AllReadyH.nil)
        go_simp
        go_at_call 12
        refine (omay_is _ ⟨a0, a1, ⟨1, 1, ⟨#[]⟩⟩, ⟨0, 0, ⟨#[]⟩⟩, a2⟩ x _ rfl ⟨Nat.le_trans hKs (by decide), Nat.zero_le _, Nat.zero_le _⟩ HX.out).mono ?_
        rintro e k82 ⟨rfl, h⟩
        have hk : Below k81.heap.size k81 k82 := by
          refine Below.trans ?_ (h.mono (by first | (simp; done) | (simp; omega) | omega))
          repeat' (first | with_reducible exact Below.refl _ _ | (with_reducible refine Below.alloc ?_ ?_ _) | (with_reducible refine Below.setCell ?_ ?_ _) | exact (by first | (simp; done) | (simp; omega) | omega))
        have hz := h.size
        try simp at hz
        replace g45 : k82.cell? ⟨k1.heap.size + 1, 45, none⟩ = some (.int .i64 a0) := (hk.cell (p := ⟨k1.heap.size + 1, 45, none⟩) (by first | (simp; done) | (simp; omega) | omega)).trans g45
        replace g46 : k82.cell? ⟨k1.heap.size + 1, 46, none⟩ = some (.string a1) := (hk.cell (p := ⟨k1.heap.size + 1, 46, none⟩) (by first | (simp; done) | (simp; omega) | omega)).trans g46
        replace g47 : k82.cell? ⟨k1.heap.size + 1, 47, none⟩ = some (.int .i64 1) := (hk.cell (p := ⟨k1.heap.size + 1, 47, none⟩) (by first | (simp; done) | (simp; omega) | omega)).trans g47
        replace g48 : k82.cell? ⟨k1.heap.size + 1, 48, none⟩ = some (.int .i64 1) := (hk.cell (p := ⟨k1.heap.size + 1, 48, none⟩) (by first | (simp; done) | (simp; omega) | omega)).trans g48
        replace g49 : k82.cell? ⟨k1.heap.size + 1, 49, none⟩ = some (.string ⟨#[]⟩) := (hk.cell (p := ⟨k1.heap.size + 1, 49, none⟩) (by first | (simp; done) | (simp; omega) | omega)).trans g49
        replace g50 : k82.cell? ⟨k1.heap.size + 1, 50, none⟩ = some (.int .i64 0) := (hk.cell (p := ⟨k1.heap.size + 1, 50, none⟩) (by first | (simp; done) | (simp; omega) | omega)).trans g50
        replace g51 : k82.cell? ⟨k1.heap.size + 1, 51, none⟩ = some (.int .i64 0) := (hk.cell (p := ⟨k1.heap.size + 1, 51, none⟩) (by first | (simp; done) | (simp; omega) | omega)).trans g51
        replace g52 : k82.cell? ⟨k1.heap.size + 1, 52, none⟩ = some (.string ⟨#[]⟩) := (hk.cell (p := ⟨k1.heap.size + 1, 52, none⟩) (by first | (simp; done) | (simp; omega) | omega)).trans g52
        replace g53 : k82.cell? ⟨k1.heap.size + 1, 53, none⟩ = some (.int .i64 a2) := (hk.cell (p := ⟨k1.heap.size + 1, 53, none⟩) (by first | (simp; done) | (simp; omega) | omega)).trans g53
        replace HKR := Lib.hid (Below.trans HKR.out (Below.mono hk (by omega)))
        replace hb : Below w.heap.size w k82 := hb.trans (hk.mono hb.size)
        have lt0 : k1.heap.size + 1 < k82.heap.size := (by first | (simp; done) | (simp; omega) | omega)
        clear h hk
        try dsimp only
        refine hK.out _ _ ?_ (fun hHeld => ?_)
        · exact ⟨g45, g46, g47, g48, g49, g50, g51, g52, g53⟩
        clear hK K
        try simp only [Act.put, List.setIfInBounds_toArray, List.set_cons_zero, List.set_cons_succ]
        refine wpAnyH_ready (rs := [9]) (by kernel_rfl) (by simp) ?_
        refine AllReadyH.cons (o := { dst := some 61, op := Op.call { callee := Callee.value (Operand.func 13), args := #[Operand.tmp 60], argTypes := #[25] }, type := 4, pos := "wide.go:53", after := #[{ on := 8, ground := Ground.data }, { on := 4, ground := Ground.chain }], guard := none }) rfl (fun K hK => ?_) (AllReadyH.nil)
        go_simp
        go_at_call 13
        refine (rmayOp_is _ ⟨a0, a1, ⟨1, 1, ⟨#[]⟩⟩, ⟨0, 0, ⟨#[]⟩⟩, a2⟩ x _ rfl ⟨Nat.le_trans hKs (by decide), Nat.zero_le _, Nat.zero_le _⟩ HX.out).mono ?_
        rintro e k83 ⟨rfl, h⟩
        have hk : Below k82.heap.size k82 k83 := by
          refine Below.trans ?_ (h.mono (by first | (simp; done) | (simp; omega) | omega))
          repeat' (first | with_reducible exact Below.refl _ _ | (with_reducible refine Below.alloc ?_ ?_ _) | (with_reducible refine Below.setCell ?_ ?_ _) | exact (by first | (simp; done) | (simp; omega) | omega))
        have hz := h.size
        try simp at hz
        replace g45 : k83.cell? ⟨k1.heap.size + 1, 45, none⟩ = some (.int .i64 a0) := (hk.cell (p := ⟨k1.heap.size + 1, 45, none⟩) (by first | (simp; done) | (simp; omega) | omega)).trans g45
        replace g46 : k83.cell? ⟨k1.heap.size + 1, 46, none⟩ = some (.string a1) := (hk.cell (p := ⟨k1.heap.size + 1, 46, none⟩) (by first | (simp; done) | (simp; omega) | omega)).trans g46
        replace g47 : k83.cell? ⟨k1.heap.size + 1, 47, none⟩ = some (.int .i64 1) := (hk.cell (p := ⟨k1.heap.size + 1, 47, none⟩) (by first | (simp; done) | (simp; omega) | omega)).trans g47
        replace g48 : k83.cell? ⟨k1.heap.size + 1, 48, none⟩ = some (.int .i64 1) := (hk.cell (p := ⟨k1.heap.size + 1, 48, none⟩) (by first | (simp; done) | (simp; omega) | omega)).trans g48
        replace g49 : k83.cell? ⟨k1.heap.size + 1, 49, none⟩ = some (.string ⟨#[]⟩) := (hk.cell (p := ⟨k1.heap.size + 1, 49, none⟩) (by first | (simp; done) | (simp; omega) | omega)).trans g49
        replace g50 : k83.cell? ⟨k1.heap.size + 1, 50, none⟩ = some (.int .i64 0) := (hk.cell (p := ⟨k1.heap.size + 1, 50, none⟩) (by first | (simp; done) | (simp; omega) | omega)).trans g50
        replace g51 : k83.cell? ⟨k1.heap.size + 1, 51, none⟩ = some (.int .i64 0) := (hk.cell (p := ⟨k1.heap.size + 1, 51, none⟩) (by first | (simp; done) | (simp; omega) | omega)).trans g51
        replace g52 : k83.cell? ⟨k1.heap.size + 1, 52, none⟩ = some (.string ⟨#[]⟩) := (hk.cell (p := ⟨k1.heap.size + 1, 52, none⟩) (by first | (simp; done) | (simp; omega) | omega)).trans g52
        replace g53 : k83.cell? ⟨k1.heap.size + 1, 53, none⟩ = some (.int .i64 a2) := (hk.cell (p := ⟨k1.heap.size + 1, 53, none⟩) (by first | (simp; done) | (simp; omega) | omega)).trans g53
        replace HKR := Lib.hid (Below.trans HKR.out (Below.mono hk (by omega)))
        replace hb : Below w.heap.size w k83 := hb.trans (hk.mono hb.size)
        have lt0 : k1.heap.size + 1 < k83.heap.size := (by first | (simp; done) | (simp; omega) | omega)
        clear h hk
        try dsimp only
        refine hK.out _ _ ?_ (fun hHeld => ?_)
        · exact ⟨g45, g46, g47, g48, g49, g50, g51, g52, g53⟩
        clear hK K
        try simp only [Act.put, List.setIfInBounds_toArray, List.set_cons_zero, List.set_cons_succ]
        refine wpAnyH_ready (rs := [10]) (by kernel_rfl) (by simp) ?_
        refine AllReadyH.cons (o := { dst := some 62, op := Op.binOp BinOp.neq 4 (Operand.tmp 56) (Operand.tmp 61) 4, type := 4, pos := "wide.go:53", after := #[{ on := 4, ground := Ground.data }, { on := 9, ground := Ground.data }], guard := none }) rfl (fun K hK => ?_) (AllReadyH.nil)
        go_simp
        refine hK.out _ _ ?_ (fun hHeld => ?_)
        · exact ⟨g45, g46, g47, g48, g49, g50, g51, g52, g53⟩
        clear hK K
        try simp only [Act.put, List.setIfInBounds_toArray, List.set_cons_zero, List.set_cons_succ]
        refine wpAnyH_done (by kernel_rfl) ?_ _
        refine NoPanic.normal ?_
        go_wp2
        go_roundw
        case rel => exact ⟨6, by go_num, by decide, HKR.out⟩
        case measure => simp [intOf]
      · go_wp2
        go_ret
        exact ⟨rfl, hb⟩

set_option maxRecDepth 100000 in
theorem lifted (os : Os) (started : os.Started) (H : Type) (enc : TypeId × Value → H) :
    ReturnsInHanded {} Try.checked os 9 .any (Rows.opNeedsSpec.pre6 enc Try.prog Try.f9 Rows.opNeedsRow.domain false) (Rows.opNeedsSpec.post enc Try.prog Try.f9 false true false false) := by
  refine returnsInHanded_of_change (C := Try.checked) own started (by kernel_rfl) Try.func9
    (ChangeSpec.witness6 (enc := enc) (C := Try.checked) false ⟨#[], #[.int .i64 0, .string ByteArray.empty, .int .i64 0], []⟩ 8 (by kernel_rfl) (by kernel_rfl) (by kernel_rfl) (by kernel_rfl)) ?_
  intro W base args ds gs before hval0 hW hcnd _
  have hval : ∀ (j : Nat) t v, Try.f9.params[j]? = some t → args[j]? = some v → Value.okWide Try.prog W .any base t v := hval0
  have hW' := hW
  obtain ⟨p, q, hA0, hV, rfl, hfz, hnd⟩ := hW
  have hA : DataW.TrodAll enc Try.prog W 0 (fun _ => true) true Try.f9.params.toList args.toList ds p := hA0
  have hA1 := hA
  rw [Try.params9] at hA hval
  obtain ⟨v0, vs0, d0, ds0, p0, q0, hargs, rfl, rfl, h0, r0⟩ := trodAll_cons hA
  obtain ⟨v1, vs1, d1, ds1, p1, q1, rfl, rfl, rfl, h1, r1⟩ := trodAll_cons r0
  obtain ⟨v2, vs2, d2, ds2, p2, q2, rfl, rfl, rfl, h2, r2⟩ := trodAll_cons r1
  obtain ⟨rfl, rfl, rfl⟩ := trodAll_nil r2
  obtain rfl : args = #[v0, v1, v2] := by cases args; simp_all
  obtain ⟨rfl, rfl⟩ := trodVars_none hV
  obtain ⟨a0, rfl, rfl, rfl, w0⟩ := open_int Try.underlying3 (hval 0 3 v0 rfl rfl) h0
  obtain ⟨a1, rfl, rfl, rfl, w1⟩ := open_string Try.underlying9 (hval 1 9 v1 rfl rfl) h1
  obtain ⟨a2, rfl, rfl, rfl, w2⟩ := open_int Try.underlying2 (hval 2 2 v2 rfl rfl) h2
  clear hA0 hval0
  simp only [List.append_nil] at hW'
  try simp only [List.append_nil] at hA1
  refine (walk W a0 w0 a1 w1 a2 w2).mono fun e W' ⟨he, hg⟩ => ?_
  subst he
  exact ⟨_, rfl, law_end Try.laidOut (by kernel_rfl) hW' hA1 hg rfl rfl rfl (trodAll_mk1 (shut_bool Try.underlying4 _))⟩

theorem over : Rows.opNeedsRow.holds Try.pinned (OpenSpec.ofChange Rows.opNeedsSpec) :=
  OpenClaim.holds_of_wide 9 Try.f9 rfl rfl rfl rfl rfl rfl rfl ⟨rfl, rfl, rfl, rfl, rfl⟩ rfl rfl rfl rfl rfl (by kernel_rfl) Try.func9 (by kernel_rfl)
    (of_decide_eq_true (by kernel_rfl)) (by unfold Func.isWrapper; first | (rw [if_pos (by decide +kernel)]; kernel_rfl) | (rw [if_neg (by decide +kernel)]; exact ⟨rfl, rfl⟩))
    (fun os started H enc _ => lifted os started H enc)

/-- the statement -/
theorem proved : Rows.OpNeedsSaid := over
#print axioms proved
end Go.Proofs.Ytdhppekfehbngaa.opNeeds
