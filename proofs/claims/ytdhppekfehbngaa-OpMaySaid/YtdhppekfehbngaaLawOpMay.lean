/-
  Which operations may be, as the reference tells it. There are no conditions.
-/
import Derived.Test.YtdhppekfehbngaaRows
import Derived.Test.YtdhppekfehbngaaL5Begun
import Derived.Test.YtdhppekfehbngaaL5CutBatch
import Derived.Test.YtdhppekfehbngaaL5Open
import Derived.Test.YtdhppekfehbngaaLawKit
import Derived.WalkKit
import Derived.ProofKit
import Derived.OpenShut
import Derived.ShutString
set_option linter.unusedSimpArgs false
set_option linter.unusedVariables false
namespace Go.Proofs.Ytdhppekfehbngaa.opMay
open Go.ChangeShapes Go.WideShapes Go.ChangeAt Go.RowKit
open Go.ChangeMaps (open_string shut_string)
set_option linter.unusedVariables false

theorem own : ownKnob Try.prog.godebug = none := by kernel_rfl
theorem own_one {B : Nat} {v : Value} {y : Opn} {w : World} (h : OwnO B v [y] w) : ∃ g c, v = .slice (some ⟨g, 0, none⟩) 1 c ∧ B ≤ g ∧ g < w.heap.size ∧ w.rangeAt g 0 y.cs := by
  have ho := Ops.of_own h
  obtain ⟨A, c, rfl, _, hc⟩ := ho
  obtain ⟨g, o, hA, hg, hr⟩ := hc (by simp)
  have hh : ∃ g', A = some ⟨g', 0, none⟩ := by
    rcases h.2 with ⟨_, h0⟩ | ⟨g', c', cur, hv, _⟩
    · simp at h0
    · injection hv with h1 _ _; exact ⟨g', h1⟩
  obtain ⟨g', rfl⟩ := hh
  simp only [Option.some.injEq, Addr.mk.injEq] at hA
  obtain ⟨rfl, rfl, _⟩ := hA
  exact ⟨g', c, rfl, (World.ownsRow.lt h g' rfl).1, hg, by simpa using hr 0 (by simp)⟩
theorem cells9 {W : World} {g : Nat} {a b c d e f h i j : Value} (hr : W.rangeAt g 0 [a, b, c, d, e, f, h, i, j]) : W.cell? ⟨g, 0, none⟩ = some a ∧ W.cell? ⟨g, 1, none⟩ = some b ∧ W.cell? ⟨g, 2, none⟩ = some c ∧ W.cell? ⟨g, 3, none⟩ = some d ∧ W.cell? ⟨g, 4, none⟩ = some e ∧ W.cell? ⟨g, 5, none⟩ = some f ∧ W.cell? ⟨g, 6, none⟩ = some h ∧ W.cell? ⟨g, 7, none⟩ = some i ∧ W.cell? ⟨g, 8, none⟩ = some j :=
  ⟨by simpa using hr 0 a rfl, by simpa using hr 1 b rfl, by simpa using hr 2 c rfl, by simpa using hr 3 d rfl, by simpa using hr 4 e rfl, by simpa using hr 5 f rfl, by simpa using hr 6 h rfl, by simpa using hr 7 i rfl, by simpa using hr 8 j rfl⟩
theorem fit_ints {o : Opn} (h : o.fit) : o.ints := ⟨h.1, h.2.2.2.2, h.2.2.1.1, h.2.2.1.2.1, h.2.2.2.1.1, h.2.2.2.1.2.1⟩
theorem ok_small {o : Opn} (h : o.ok) : o.small := ⟨h.2.1, h.2.2.1.2.2, h.2.2.2.1.2.2⟩

set_option maxRecDepth 100000 in
set_option maxHeartbeats 8000000 in
theorem walk (w : World) (a0 : Opn) (w0 : a0.fit) :
    Calls Try.prog 3 #[a0.v] w fun e w' => e = .returned (.bool true) ∧ Below w.heap.size w w' := by
  obtain ⟨ak, akey, ⟨avk, avn, avs⟩, ⟨aok, aon, aos⟩, an⟩ := a0
  have HF := Lib.hid w0; clear w0
  unfold Opn.v
  have hb := Below.refl w.heap.size w
  go_enter Try.func3, Try.ntmps3
  go_wp2_with fail
  refine (begun5_any _).mono ?_
  rintro e k1 ⟨rfl, h⟩
  have hk : Below w.heap.size w k1 := by
    refine Below.trans ?_ (h.mono (by first | (simp; done) | (simp; omega) | omega))
    repeat' (first | with_reducible exact Below.refl _ _ | (with_reducible refine Below.alloc ?_ ?_ _) | (with_reducible refine Below.setCell ?_ ?_ _) | exact (by first | (simp; done) | (simp; omega) | omega))
  have hz := h.size
  try simp at hz
  have af0 : k1.frozen? ⟨w.heap.size, 0, none⟩ = false := (h.frozen (p := ⟨w.heap.size, 0, none⟩) (by first | (simp; done) | (simp; omega) | omega)).trans (by go_simp)
  have af1 : k1.frozen? ⟨w.heap.size, 1, none⟩ = false := (h.frozen (p := ⟨w.heap.size, 1, none⟩) (by first | (simp; done) | (simp; omega) | omega)).trans (by go_simp)
  have af2 : k1.frozen? ⟨w.heap.size, 2, none⟩ = false := (h.frozen (p := ⟨w.heap.size, 2, none⟩) (by first | (simp; done) | (simp; omega) | omega)).trans (by go_simp)
  have af3 : k1.frozen? ⟨w.heap.size, 3, none⟩ = false := (h.frozen (p := ⟨w.heap.size, 3, none⟩) (by first | (simp; done) | (simp; omega) | omega)).trans (by go_simp)
  have af4 : k1.frozen? ⟨w.heap.size, 4, none⟩ = false := (h.frozen (p := ⟨w.heap.size, 4, none⟩) (by first | (simp; done) | (simp; omega) | omega)).trans (by go_simp)
  have af5 : k1.frozen? ⟨w.heap.size, 5, none⟩ = false := (h.frozen (p := ⟨w.heap.size, 5, none⟩) (by first | (simp; done) | (simp; omega) | omega)).trans (by go_simp)
  have af6 : k1.frozen? ⟨w.heap.size, 6, none⟩ = false := (h.frozen (p := ⟨w.heap.size, 6, none⟩) (by first | (simp; done) | (simp; omega) | omega)).trans (by go_simp)
  have af7 : k1.frozen? ⟨w.heap.size, 7, none⟩ = false := (h.frozen (p := ⟨w.heap.size, 7, none⟩) (by first | (simp; done) | (simp; omega) | omega)).trans (by go_simp)
  have af8 : k1.frozen? ⟨w.heap.size, 8, none⟩ = false := (h.frozen (p := ⟨w.heap.size, 8, none⟩) (by first | (simp; done) | (simp; omega) | omega)).trans (by go_simp)
  have a0 : k1.cell? ⟨w.heap.size, 0, none⟩ = some (.int .i64 ak) := (h.cell (p := ⟨w.heap.size, 0, none⟩) (by first | (simp; done) | (simp; omega) | omega)).trans (by go_simp)
  have a1 : k1.cell? ⟨w.heap.size, 1, none⟩ = some (.string akey) := (h.cell (p := ⟨w.heap.size, 1, none⟩) (by first | (simp; done) | (simp; omega) | omega)).trans (by go_simp)
  have a2 : k1.cell? ⟨w.heap.size, 2, none⟩ = some (.int .i64 avk) := (h.cell (p := ⟨w.heap.size, 2, none⟩) (by first | (simp; done) | (simp; omega) | omega)).trans (by go_simp)
  have a3 : k1.cell? ⟨w.heap.size, 3, none⟩ = some (.int .i64 avn) := (h.cell (p := ⟨w.heap.size, 3, none⟩) (by first | (simp; done) | (simp; omega) | omega)).trans (by go_simp)
  have a4 : k1.cell? ⟨w.heap.size, 4, none⟩ = some (.string avs) := (h.cell (p := ⟨w.heap.size, 4, none⟩) (by first | (simp; done) | (simp; omega) | omega)).trans (by go_simp)
  have a5 : k1.cell? ⟨w.heap.size, 5, none⟩ = some (.int .i64 aok) := (h.cell (p := ⟨w.heap.size, 5, none⟩) (by first | (simp; done) | (simp; omega) | omega)).trans (by go_simp)
  have a6 : k1.cell? ⟨w.heap.size, 6, none⟩ = some (.int .i64 aon) := (h.cell (p := ⟨w.heap.size, 6, none⟩) (by first | (simp; done) | (simp; omega) | omega)).trans (by go_simp)
  have a7 : k1.cell? ⟨w.heap.size, 7, none⟩ = some (.string aos) := (h.cell (p := ⟨w.heap.size, 7, none⟩) (by first | (simp; done) | (simp; omega) | omega)).trans (by go_simp)
  have a8 : k1.cell? ⟨w.heap.size, 8, none⟩ = some (.int .i64 an) := (h.cell (p := ⟨w.heap.size, 8, none⟩) (by first | (simp; done) | (simp; omega) | omega)).trans (by go_simp)
  replace hb : Below w.heap.size w k1 := hb.trans (hk.mono hb.size)
  have lt0 : w.heap.size < k1.heap.size := (by first | (simp; done) | (simp; omega) | omega)
  clear h hk
  go_wp2_with fail
  refine (l5cut_any (k1.heap.size + 1) _ [⟨ak, akey, ⟨avk, avn, avs⟩, ⟨aok, aon, aos⟩, an⟩] _ (ops_one _ _ _ ⟨ak, akey, ⟨avk, avn, avs⟩, ⟨aok, aon, aos⟩, an⟩ (by intro j z hj; rw [Nat.zero_add, World.cell?_alloc_mark]; simpa [Opn.cs] using hj) (Nat.lt_succ_self _)) (by simp)).mono ?_
  rintro e k2 ⟨u, m, rfl, hO, h, hml, hcut⟩
  have hk : Below k1.heap.size k1 k2 := (below_one k1 _).trans (h.mono (by simp))
  obtain ⟨y, rfl⟩ : ∃ y, m = [y] := by
    match m, hml with
    | [y], _ => exact ⟨y, rfl⟩
  have hy := hcut 0 (by simp) (by simp)
  obtain ⟨g, c, rfl, hg1, hg2, hr⟩ := own_one hO
  clear hO hcut hml
  have hok := hy.ok (fit_ints HF.out)
  simp only [List.getElem_cons_zero] at hok
  obtain ⟨yk, ykey, ⟨yvk, yvn, yvs⟩, ⟨yok, yon, yos⟩, yn⟩ := y
  obtain ⟨y0, y1, y2, y3, y4, y5, y6, y7, y8⟩ := cells9 hr
  have HOK := Lib.hid hok; clear hok hr hy
  have hgk : g < k2.heap.size := hg2
  have hgw : ¬ g = w.heap.size := by have := hb.size; simp at hg1; omega
  have hgw2 : ¬ w.heap.size = g := fun e => hgw e.symm
  replace hb : Below w.heap.size w k2 := hb.trans (hk.mono hb.size)
  have hz2 := hk.size
  replace af0 := (hk.frozen (p := ⟨w.heap.size, 0, none⟩) (by simp; omega)).trans af0
  replace af1 := (hk.frozen (p := ⟨w.heap.size, 1, none⟩) (by simp; omega)).trans af1
  replace af2 := (hk.frozen (p := ⟨w.heap.size, 2, none⟩) (by simp; omega)).trans af2
  replace af3 := (hk.frozen (p := ⟨w.heap.size, 3, none⟩) (by simp; omega)).trans af3
  replace af4 := (hk.frozen (p := ⟨w.heap.size, 4, none⟩) (by simp; omega)).trans af4
  replace af5 := (hk.frozen (p := ⟨w.heap.size, 5, none⟩) (by simp; omega)).trans af5
  replace af6 := (hk.frozen (p := ⟨w.heap.size, 6, none⟩) (by simp; omega)).trans af6
  replace af7 := (hk.frozen (p := ⟨w.heap.size, 7, none⟩) (by simp; omega)).trans af7
  replace af8 := (hk.frozen (p := ⟨w.heap.size, 8, none⟩) (by simp; omega)).trans af8
  replace a0 := (hk.cell (p := ⟨w.heap.size, 0, none⟩) (by simp; omega)).trans a0
  replace a1 := (hk.cell (p := ⟨w.heap.size, 1, none⟩) (by simp; omega)).trans a1
  replace a2 := (hk.cell (p := ⟨w.heap.size, 2, none⟩) (by simp; omega)).trans a2
  replace a3 := (hk.cell (p := ⟨w.heap.size, 3, none⟩) (by simp; omega)).trans a3
  replace a4 := (hk.cell (p := ⟨w.heap.size, 4, none⟩) (by simp; omega)).trans a4
  replace a5 := (hk.cell (p := ⟨w.heap.size, 5, none⟩) (by simp; omega)).trans a5
  replace a6 := (hk.cell (p := ⟨w.heap.size, 6, none⟩) (by simp; omega)).trans a6
  replace a7 := (hk.cell (p := ⟨w.heap.size, 7, none⟩) (by simp; omega)).trans a7
  replace a8 := (hk.cell (p := ⟨w.heap.size, 8, none⟩) (by simp; omega)).trans a8
  clear h hk
  have lt0 : w.heap.size < k2.heap.size := (by first | (simp; done) | (simp; omega) | omega)
  go_wp2
  refine wp_world (fun W => W.frozen? ⟨w.heap.size, 0, none⟩ = false ∧ W.frozen? ⟨w.heap.size, 1, none⟩ = false ∧ W.frozen? ⟨w.heap.size, 2, none⟩ = false ∧ W.frozen? ⟨w.heap.size, 3, none⟩ = false ∧ W.frozen? ⟨w.heap.size, 4, none⟩ = false ∧ W.frozen? ⟨w.heap.size, 5, none⟩ = false ∧ W.frozen? ⟨w.heap.size, 6, none⟩ = false ∧ W.frozen? ⟨w.heap.size, 7, none⟩ = false ∧ W.frozen? ⟨w.heap.size, 8, none⟩ = false ∧ W.cell? ⟨w.heap.size, 0, none⟩ = some (.int .i64 yk) ∧ W.cell? ⟨w.heap.size, 1, none⟩ = some (.string ykey) ∧ W.cell? ⟨w.heap.size, 2, none⟩ = some (.int .i64 yvk) ∧ W.cell? ⟨w.heap.size, 3, none⟩ = some (.int .i64 yvn) ∧ W.cell? ⟨w.heap.size, 4, none⟩ = some (.string yvs) ∧ W.cell? ⟨w.heap.size, 5, none⟩ = some (.int .i64 yok) ∧ W.cell? ⟨w.heap.size, 6, none⟩ = some (.int .i64 yon) ∧ W.cell? ⟨w.heap.size, 7, none⟩ = some (.string yos) ∧ W.cell? ⟨w.heap.size, 8, none⟩ = some (.int .i64 yn) ∧ Below (w.heap.size) k2 W ∧ k2.heap.size ≤ W.heap.size) ⟨(by go_simp), (by go_simp), (by go_simp), (by go_simp), (by go_simp), (by go_simp), (by go_simp), (by go_simp), (by go_simp), (by go_simp), (by go_simp), (by go_simp), (by go_simp), (by go_simp), (by go_simp), (by go_simp), (by go_simp), (by go_simp), (by
      repeat' (first | with_reducible exact Below.refl _ _ | (with_reducible refine Below.alloc ?_ ?_ _) | (with_reducible refine Below.setCell ?_ ?_ _) | exact (by first | (simp; done) | (simp; omega) | omega))), (by first | (simp; done) | (simp; omega) | omega)⟩ ?_
  clear af0 af1 af2 af3 af4 af5 af6 af7 af8 a0 a1 a2 a3 a4 a5 a6 a7 a8
  rintro k3 ⟨af0, af1, af2, af3, af4, af5, af6, af7, af8, a0, a1, a2, a3, a4, a5, a6, a7, a8, hk, hz⟩
  replace hb : Below w.heap.size w k3 := hb.trans (hk.mono (by first | exact hb.size | omega | (simp; omega)))
  have lt0 : w.heap.size < k3.heap.size := (by first | (simp; done) | (simp; omega) | omega)
  clear hk
  obtain ⟨x, hx⟩ : ∃ x, mayO ⟨yk, ykey, ⟨yvk, yvn, yvs⟩, ⟨yok, yon, yos⟩, yn⟩ = x := ⟨_, rfl⟩
  have HX := Lib.hid hx; clear hx
  refine wp_region_noPanic ?_
  refine wp_region_held_drew (S := fun W => W.cell? ⟨w.heap.size, 0, none⟩ = some (.int .i64 yk) ∧ W.cell? ⟨w.heap.size, 1, none⟩ = some (.string ykey) ∧ W.cell? ⟨w.heap.size, 2, none⟩ = some (.int .i64 yvk) ∧ W.cell? ⟨w.heap.size, 3, none⟩ = some (.int .i64 yvn) ∧ W.cell? ⟨w.heap.size, 4, none⟩ = some (.string yvs) ∧ W.cell? ⟨w.heap.size, 5, none⟩ = some (.int .i64 yok) ∧ W.cell? ⟨w.heap.size, 6, none⟩ = some (.int .i64 yon) ∧ W.cell? ⟨w.heap.size, 7, none⟩ = some (.string yos) ∧ W.cell? ⟨w.heap.size, 8, none⟩ = some (.int .i64 yn)) (by kernel_rfl) ?_ (fun hHeld => ?_)
  · exact ⟨a0, a1, a2, a3, a4, a5, a6, a7, a8⟩
  replace af0 : k3.drew.frozen? ⟨w.heap.size, 0, none⟩ = false := af0
  replace af1 : k3.drew.frozen? ⟨w.heap.size, 1, none⟩ = false := af1
  replace af2 : k3.drew.frozen? ⟨w.heap.size, 2, none⟩ = false := af2
  replace af3 : k3.drew.frozen? ⟨w.heap.size, 3, none⟩ = false := af3
  replace af4 : k3.drew.frozen? ⟨w.heap.size, 4, none⟩ = false := af4
  replace af5 : k3.drew.frozen? ⟨w.heap.size, 5, none⟩ = false := af5
  replace af6 : k3.drew.frozen? ⟨w.heap.size, 6, none⟩ = false := af6
  replace af7 : k3.drew.frozen? ⟨w.heap.size, 7, none⟩ = false := af7
  replace af8 : k3.drew.frozen? ⟨w.heap.size, 8, none⟩ = false := af8
  replace a0 : k3.drew.cell? ⟨w.heap.size, 0, none⟩ = some (.int .i64 yk) := a0
  replace a1 : k3.drew.cell? ⟨w.heap.size, 1, none⟩ = some (.string ykey) := a1
  replace a2 : k3.drew.cell? ⟨w.heap.size, 2, none⟩ = some (.int .i64 yvk) := a2
  replace a3 : k3.drew.cell? ⟨w.heap.size, 3, none⟩ = some (.int .i64 yvn) := a3
  replace a4 : k3.drew.cell? ⟨w.heap.size, 4, none⟩ = some (.string yvs) := a4
  replace a5 : k3.drew.cell? ⟨w.heap.size, 5, none⟩ = some (.int .i64 yok) := a5
  replace a6 : k3.drew.cell? ⟨w.heap.size, 6, none⟩ = some (.int .i64 yon) := a6
  replace a7 : k3.drew.cell? ⟨w.heap.size, 7, none⟩ = some (.string yos) := a7
  replace a8 : k3.drew.cell? ⟨w.heap.size, 8, none⟩ = some (.int .i64 yn) := a8
  replace hb : Below w.heap.size w k3.drew := hb.drew
  replace lt0 : w.heap.size < k3.drew.heap.size := lt0
  have hzd : k3.heap.size ≤ k3.drew.heap.size := Nat.le_refl _
  generalize k3.drew = k4 at *
  refine wpAnyH_take (i := 0) (oi := { dst := some 12, op := Op.load 25 (Operand.tmp 1), type := 25, pos := "law.go:45", after := #[], guard := none }) (v := .agg #[.int .i64 yk, .string ykey, .int .i64 yvk, .int .i64 yvn, .string yvs, .int .i64 yok, .int .i64 yon, .string yos, .int .i64 yn]) rfl (by kernel_rfl) (by kernel_rfl) (by kernel_rfl) (fun _ _ _ h => h) (Or.inl ⟨by rfl, fun w hSw => ?_⟩) (by assumption) ?_
  · (try dsimp only at hSw)
    go_simp
  try simp only [Act.put, List.setIfInBounds_toArray, List.set_cons_zero, List.set_cons_succ]
  refine wpAnyH_take (i := 2) (oi := { dst := some 14, op := Op.load 25 (Operand.tmp 1), type := 25, pos := "law.go:45", after := #[], guard := none }) (v := .agg #[.int .i64 yk, .string ykey, .int .i64 yvk, .int .i64 yvn, .string yvs, .int .i64 yok, .int .i64 yon, .string yos, .int .i64 yn]) rfl (by kernel_rfl) (by kernel_rfl) (by kernel_rfl) (fun _ _ _ h => h) (Or.inl ⟨by rfl, fun w hSw => ?_⟩) (by assumption) ?_
  · (try dsimp only at hSw)
    go_simp
  try simp only [Act.put, List.setIfInBounds_toArray, List.set_cons_zero, List.set_cons_succ]
  refine wpAnyH_ready (rs := [1]) (by kernel_rfl) (by simp) ?_
  refine AllReadyH.cons (o := { dst := some 13, op := Op.call { callee := Callee.value (Operand.func 12), args := #[Operand.tmp 12], argTypes := #[25] }, type := 4, pos := "law.go:45", after := #[{ on := 0, ground := Ground.data }], guard := none }) rfl (fun K hK => ?_) (AllReadyH.nil)
  go_simp
  go_at_call 12
  refine (omay_is _ ⟨yk, ykey, ⟨yvk, yvn, yvs⟩, ⟨yok, yon, yos⟩, yn⟩ x _ rfl (ok_small HOK.out) HX.out).mono ?_
  rintro e k5 ⟨rfl, h⟩
  have hk : Below k4.heap.size k4 k5 := by
    refine Below.trans ?_ (h.mono (by first | (simp; done) | (simp; omega) | omega))
    repeat' (first | with_reducible exact Below.refl _ _ | (with_reducible refine Below.alloc ?_ ?_ _) | (with_reducible refine Below.setCell ?_ ?_ _) | exact (by first | (simp; done) | (simp; omega) | omega))
  have hz := h.size
  try simp at hz
  replace af0 : k5.frozen? ⟨w.heap.size, 0, none⟩ = false := (hk.frozen (p := ⟨w.heap.size, 0, none⟩) (by first | (simp; done) | (simp; omega) | omega)).trans af0
  replace af1 : k5.frozen? ⟨w.heap.size, 1, none⟩ = false := (hk.frozen (p := ⟨w.heap.size, 1, none⟩) (by first | (simp; done) | (simp; omega) | omega)).trans af1
  replace af2 : k5.frozen? ⟨w.heap.size, 2, none⟩ = false := (hk.frozen (p := ⟨w.heap.size, 2, none⟩) (by first | (simp; done) | (simp; omega) | omega)).trans af2
  replace af3 : k5.frozen? ⟨w.heap.size, 3, none⟩ = false := (hk.frozen (p := ⟨w.heap.size, 3, none⟩) (by first | (simp; done) | (simp; omega) | omega)).trans af3
  replace af4 : k5.frozen? ⟨w.heap.size, 4, none⟩ = false := (hk.frozen (p := ⟨w.heap.size, 4, none⟩) (by first | (simp; done) | (simp; omega) | omega)).trans af4
  replace af5 : k5.frozen? ⟨w.heap.size, 5, none⟩ = false := (hk.frozen (p := ⟨w.heap.size, 5, none⟩) (by first | (simp; done) | (simp; omega) | omega)).trans af5
  replace af6 : k5.frozen? ⟨w.heap.size, 6, none⟩ = false := (hk.frozen (p := ⟨w.heap.size, 6, none⟩) (by first | (simp; done) | (simp; omega) | omega)).trans af6
  replace af7 : k5.frozen? ⟨w.heap.size, 7, none⟩ = false := (hk.frozen (p := ⟨w.heap.size, 7, none⟩) (by first | (simp; done) | (simp; omega) | omega)).trans af7
  replace af8 : k5.frozen? ⟨w.heap.size, 8, none⟩ = false := (hk.frozen (p := ⟨w.heap.size, 8, none⟩) (by first | (simp; done) | (simp; omega) | omega)).trans af8
  replace a0 : k5.cell? ⟨w.heap.size, 0, none⟩ = some (.int .i64 yk) := (hk.cell (p := ⟨w.heap.size, 0, none⟩) (by first | (simp; done) | (simp; omega) | omega)).trans a0
  replace a1 : k5.cell? ⟨w.heap.size, 1, none⟩ = some (.string ykey) := (hk.cell (p := ⟨w.heap.size, 1, none⟩) (by first | (simp; done) | (simp; omega) | omega)).trans a1
  replace a2 : k5.cell? ⟨w.heap.size, 2, none⟩ = some (.int .i64 yvk) := (hk.cell (p := ⟨w.heap.size, 2, none⟩) (by first | (simp; done) | (simp; omega) | omega)).trans a2
  replace a3 : k5.cell? ⟨w.heap.size, 3, none⟩ = some (.int .i64 yvn) := (hk.cell (p := ⟨w.heap.size, 3, none⟩) (by first | (simp; done) | (simp; omega) | omega)).trans a3
  replace a4 : k5.cell? ⟨w.heap.size, 4, none⟩ = some (.string yvs) := (hk.cell (p := ⟨w.heap.size, 4, none⟩) (by first | (simp; done) | (simp; omega) | omega)).trans a4
  replace a5 : k5.cell? ⟨w.heap.size, 5, none⟩ = some (.int .i64 yok) := (hk.cell (p := ⟨w.heap.size, 5, none⟩) (by first | (simp; done) | (simp; omega) | omega)).trans a5
  replace a6 : k5.cell? ⟨w.heap.size, 6, none⟩ = some (.int .i64 yon) := (hk.cell (p := ⟨w.heap.size, 6, none⟩) (by first | (simp; done) | (simp; omega) | omega)).trans a6
  replace a7 : k5.cell? ⟨w.heap.size, 7, none⟩ = some (.string yos) := (hk.cell (p := ⟨w.heap.size, 7, none⟩) (by first | (simp; done) | (simp; omega) | omega)).trans a7
  replace a8 : k5.cell? ⟨w.heap.size, 8, none⟩ = some (.int .i64 yn) := (hk.cell (p := ⟨w.heap.size, 8, none⟩) (by first | (simp; done) | (simp; omega) | omega)).trans a8
  replace hb : Below w.heap.size w k5 := hb.trans (hk.mono hb.size)
  have lt0 : w.heap.size < k5.heap.size := (by first | (simp; done) | (simp; omega) | omega)
  clear h hk
  try dsimp only
  refine hK.out _ _ ?_ (fun hHeld => ?_)
  · exact ⟨a0, a1, a2, a3, a4, a5, a6, a7, a8⟩
  clear hK K
  try simp only [Act.put, List.setIfInBounds_toArray, List.set_cons_zero, List.set_cons_succ]
  refine wpAnyH_ready (rs := [3]) (by kernel_rfl) (by simp) ?_
  refine AllReadyH.cons (o := { dst := some 15, op := Op.call { callee := Callee.value (Operand.func 13), args := #[Operand.tmp 14], argTypes := #[25] }, type := 4, pos := "law.go:45", after := #[{ on := 2, ground := Ground.data }, { on := 1, ground := Ground.chain }], guard := none }) rfl (fun K hK => ?_) (AllReadyH.nil)
  go_simp
  go_at_call 13
  refine (rmayOp_is _ ⟨yk, ykey, ⟨yvk, yvn, yvs⟩, ⟨yok, yon, yos⟩, yn⟩ x _ rfl (ok_small HOK.out) HX.out).mono ?_
  rintro e k6 ⟨rfl, h⟩
  have hk : Below k5.heap.size k5 k6 := by
    refine Below.trans ?_ (h.mono (by first | (simp; done) | (simp; omega) | omega))
    repeat' (first | with_reducible exact Below.refl _ _ | (with_reducible refine Below.alloc ?_ ?_ _) | (with_reducible refine Below.setCell ?_ ?_ _) | exact (by first | (simp; done) | (simp; omega) | omega))
  have hz := h.size
  try simp at hz
  replace af0 : k6.frozen? ⟨w.heap.size, 0, none⟩ = false := (hk.frozen (p := ⟨w.heap.size, 0, none⟩) (by first | (simp; done) | (simp; omega) | omega)).trans af0
  replace af1 : k6.frozen? ⟨w.heap.size, 1, none⟩ = false := (hk.frozen (p := ⟨w.heap.size, 1, none⟩) (by first | (simp; done) | (simp; omega) | omega)).trans af1
  replace af2 : k6.frozen? ⟨w.heap.size, 2, none⟩ = false := (hk.frozen (p := ⟨w.heap.size, 2, none⟩) (by first | (simp; done) | (simp; omega) | omega)).trans af2
  replace af3 : k6.frozen? ⟨w.heap.size, 3, none⟩ = false := (hk.frozen (p := ⟨w.heap.size, 3, none⟩) (by first | (simp; done) | (simp; omega) | omega)).trans af3
  replace af4 : k6.frozen? ⟨w.heap.size, 4, none⟩ = false := (hk.frozen (p := ⟨w.heap.size, 4, none⟩) (by first | (simp; done) | (simp; omega) | omega)).trans af4
  replace af5 : k6.frozen? ⟨w.heap.size, 5, none⟩ = false := (hk.frozen (p := ⟨w.heap.size, 5, none⟩) (by first | (simp; done) | (simp; omega) | omega)).trans af5
  replace af6 : k6.frozen? ⟨w.heap.size, 6, none⟩ = false := (hk.frozen (p := ⟨w.heap.size, 6, none⟩) (by first | (simp; done) | (simp; omega) | omega)).trans af6
  replace af7 : k6.frozen? ⟨w.heap.size, 7, none⟩ = false := (hk.frozen (p := ⟨w.heap.size, 7, none⟩) (by first | (simp; done) | (simp; omega) | omega)).trans af7
  replace af8 : k6.frozen? ⟨w.heap.size, 8, none⟩ = false := (hk.frozen (p := ⟨w.heap.size, 8, none⟩) (by first | (simp; done) | (simp; omega) | omega)).trans af8
  replace a0 : k6.cell? ⟨w.heap.size, 0, none⟩ = some (.int .i64 yk) := (hk.cell (p := ⟨w.heap.size, 0, none⟩) (by first | (simp; done) | (simp; omega) | omega)).trans a0
  replace a1 : k6.cell? ⟨w.heap.size, 1, none⟩ = some (.string ykey) := (hk.cell (p := ⟨w.heap.size, 1, none⟩) (by first | (simp; done) | (simp; omega) | omega)).trans a1
  replace a2 : k6.cell? ⟨w.heap.size, 2, none⟩ = some (.int .i64 yvk) := (hk.cell (p := ⟨w.heap.size, 2, none⟩) (by first | (simp; done) | (simp; omega) | omega)).trans a2
  replace a3 : k6.cell? ⟨w.heap.size, 3, none⟩ = some (.int .i64 yvn) := (hk.cell (p := ⟨w.heap.size, 3, none⟩) (by first | (simp; done) | (simp; omega) | omega)).trans a3
  replace a4 : k6.cell? ⟨w.heap.size, 4, none⟩ = some (.string yvs) := (hk.cell (p := ⟨w.heap.size, 4, none⟩) (by first | (simp; done) | (simp; omega) | omega)).trans a4
  replace a5 : k6.cell? ⟨w.heap.size, 5, none⟩ = some (.int .i64 yok) := (hk.cell (p := ⟨w.heap.size, 5, none⟩) (by first | (simp; done) | (simp; omega) | omega)).trans a5
  replace a6 : k6.cell? ⟨w.heap.size, 6, none⟩ = some (.int .i64 yon) := (hk.cell (p := ⟨w.heap.size, 6, none⟩) (by first | (simp; done) | (simp; omega) | omega)).trans a6
  replace a7 : k6.cell? ⟨w.heap.size, 7, none⟩ = some (.string yos) := (hk.cell (p := ⟨w.heap.size, 7, none⟩) (by first | (simp; done) | (simp; omega) | omega)).trans a7
  replace a8 : k6.cell? ⟨w.heap.size, 8, none⟩ = some (.int .i64 yn) := (hk.cell (p := ⟨w.heap.size, 8, none⟩) (by first | (simp; done) | (simp; omega) | omega)).trans a8
  replace hb : Below w.heap.size w k6 := hb.trans (hk.mono hb.size)
  have lt0 : w.heap.size < k6.heap.size := (by first | (simp; done) | (simp; omega) | omega)
  clear h hk
  try dsimp only
  refine hK.out _ _ ?_ (fun hHeld => ?_)
  · exact ⟨a0, a1, a2, a3, a4, a5, a6, a7, a8⟩
  clear hK K
  try simp only [Act.put, List.setIfInBounds_toArray, List.set_cons_zero, List.set_cons_succ]
  refine wpAnyH_ready (rs := [4]) (by kernel_rfl) (by simp) ?_
  refine AllReadyH.cons (o := { dst := some 16, op := Op.binOp BinOp.eql 4 (Operand.tmp 13) (Operand.tmp 15) 4, type := 4, pos := "law.go:45", after := #[{ on := 1, ground := Ground.data }, { on := 3, ground := Ground.data }], guard := none }) rfl (fun K hK => ?_) (AllReadyH.nil)
  go_simp
  refine hK.out _ _ ?_ (fun hHeld => ?_)
  · exact ⟨a0, a1, a2, a3, a4, a5, a6, a7, a8⟩
  clear hK K
  try simp only [Act.put, List.setIfInBounds_toArray, List.set_cons_zero, List.set_cons_succ]
  refine wpAnyH_ready (rs := [5]) (by kernel_rfl) (by simp) ?_
  refine AllReadyH.cons (o := { dst := some 2, op := Op.assign (Operand.tmp 16), type := 4, pos := "law.go:45", after := #[{ on := 4, ground := Ground.data }, { on := 3, ground := Ground.chain }, { on := 0, ground := Ground.phase }, { on := 1, ground := Ground.phase }, { on := 2, ground := Ground.phase }, { on := 3, ground := Ground.phase }, { on := 4, ground := Ground.phase }], guard := none }) rfl (fun K hK => ?_) (AllReadyH.nil)
  go_simp
  refine hK.out _ _ ?_ (fun hHeld => ?_)
  · exact ⟨a0, a1, a2, a3, a4, a5, a6, a7, a8⟩
  clear hK K
  try simp only [Act.put, List.setIfInBounds_toArray, List.set_cons_zero, List.set_cons_succ]
  refine wpAnyH_done (by kernel_rfl) ?_ _
  refine NoPanic.normal ?_
  go_wp2
  go_ret
  exact ⟨by simp, hb⟩

set_option maxRecDepth 100000 in
theorem lifted (os : Os) (started : os.Started) (H : Type) (enc : TypeId × Value → H) :
    ReturnsInHanded {} Try.checked os 3 .any (Rows.opMaySpec.pre6 enc Try.prog Try.f3 Rows.opMayRow.domain false) (Rows.opMaySpec.post enc Try.prog Try.f3 false true false false) := by
  refine returnsInHanded_of_change (C := Try.checked) own started (by kernel_rfl) Try.func3
    (ChangeSpec.witness6 (enc := enc) (C := Try.checked) false ⟨#[], #[.agg #[.int .i64 0, .string ByteArray.empty, .int .i64 0, .int .i64 0, .string ByteArray.empty, .int .i64 0, .int .i64 0, .string ByteArray.empty, .int .i64 0]], []⟩ 8 (by kernel_rfl) (by kernel_rfl) (by kernel_rfl) (by kernel_rfl)) ?_
  intro W base args ds gs before hval0 hW hcnd _
  have hval : ∀ (j : Nat) t v, Try.f3.params[j]? = some t → args[j]? = some v → Value.okWide Try.prog W .any base t v := hval0
  have hW' := hW
  obtain ⟨p, q, hA0, hV, rfl, hfz, hnd⟩ := hW
  have hA : DataW.TrodAll enc Try.prog W 0 (fun _ => true) true Try.f3.params.toList args.toList ds p := hA0
  have hA1 := hA
  rw [Try.params3] at hA hval
  obtain ⟨v0, vs0, d0, ds0, p0, q0, hargs, rfl, rfl, h0, r0⟩ := trodAll_cons hA
  obtain ⟨rfl, rfl, rfl⟩ := trodAll_nil r0
  obtain rfl : args = #[v0] := by cases args; simp_all
  obtain ⟨rfl, rfl⟩ := trodVars_none hV
  obtain ⟨a0, rfl, w0⟩ := open_opn (hval 0 25 v0 rfl rfl) h0
  clear hA0 hval0
  simp only [List.append_nil] at hW'
  try simp only [List.append_nil] at hA1
  refine (walk W a0 w0).mono fun e W' ⟨he, hg⟩ => ?_
  subst he
  exact ⟨_, rfl, law_end Try.laidOut (by kernel_rfl) hW' hA1 hg rfl rfl rfl (trodAll_mk1 (shut_bool Try.underlying4 _))⟩

theorem over : Rows.opMayRow.holds Try.pinned (OpenSpec.ofChange Rows.opMaySpec) :=
  OpenClaim.holds_of_wide 3 Try.f3 rfl rfl rfl rfl rfl rfl rfl ⟨rfl, rfl, rfl, rfl, rfl⟩ rfl rfl rfl rfl rfl (by kernel_rfl) Try.func3 (by kernel_rfl)
    (of_decide_eq_true (by kernel_rfl)) (by unfold Func.isWrapper; first | (rw [if_pos (by decide +kernel)]; kernel_rfl) | (rw [if_neg (by decide +kernel)]; exact ⟨rfl, rfl⟩))
    (fun os started H enc _ => lifted os started H enc)

/-- the statement -/
theorem proved : Rows.OpMaySaid := over
#print axioms proved
end Go.Proofs.Ytdhppekfehbngaa.opMay
