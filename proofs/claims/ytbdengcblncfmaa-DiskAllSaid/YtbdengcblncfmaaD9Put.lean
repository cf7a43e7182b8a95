/-
  Package disk's put: a file is laid under its name.
  The disk has at most 100,000 files.
-/
import Derived.Test.YtbdengcblncfmaaD9Small
import Derived.Test.YtbdengcblncfmaaLawKit
import Derived.Great.Walk
import Derived.Maps.OwnOps
set_option linter.unusedSimpArgs false
set_option linter.unusedVariables false
namespace Go.Proofs.Ytbdengcblncfmaa
open Go.RowKit
set_option maxRecDepth 100000

/-- a map is written inside a region -/
theorem wp_put9 {w : World} {o : Oper} {a : Act} {K : Act → World → Prop} {Q : Exit → Act → World → Prop} (m x v : Operand) (hop : o.op = Op.mapUpdate 55 m x v)
    (b : Nat) (ps : List (Fil × Value)) (q : Fil × Value) (hm : a.eval m = .map (some b)) (hown : Map9 w (some b) ps) (hs : ps.Pairwise fun x y => ltK x.1.name y.1.name = true) (hl : ps.length ≤ 100000)
    (hx : a.eval x = .string q.1.name) (hn : q.1.name.size ≤ maxLen) (hv : a.eval v = fileV q)
    (h : ∀ w', Map9 w' (some b) (setP q ps) → w.grownBy w' (some b) → K (a.put o.dst undef) w') : o.wp Try.prog a w K Q := by
  have hown : w.ownsMap Try.prog 9 RH b ps.length (DD ps) := hown
  obtain ⟨w', hrun, r1, r2⟩ := hown.update (t := 55) Try.lawStr9 Try.underlying55 (by unfold maxLen; omega) (key9 hn) (val := fileV q) (d := (kq q).2) (ps := []) rfl
  rw [dd_put q ps hs] at r1
  have r3 : Map9 w' (some b) (setP q ps) := by
    obtain ⟨es, clock, hb, F, _, hD⟩ := r1
    refine ⟨es, clock, hb, F, ?_, hD⟩
    have e : Maps.size (DD (setP q ps)) = es.size := by
      rw [hD]
      show ((es.toList.map _).foldr DataW.insert []).length = _
      rw [length_sorted]; simp
    rw [← e, dd_size]; exact Nat.le_refl _
  unfold Oper.wp
  simp [execOp, hop, hm, hx, hv, hrun, Result.andThen]
  exact h w' r3 r2

set_option maxHeartbeats 2000000 in
theorem put9_any (g : Nat) (m : Option Nat) (ps : List (Fil × Value)) (c : Nat) (f : Fil) (A : Option Addr) (n2 c2 : Nat) (w : World) (hb : Box9 w g m c) (hm : Map9 w m ps) (hs : ps.Pairwise fun x y => ltK x.1.name y.1.name = true) (hl : ps.length ≤ 100000) (hn : f.name.size ≤ 10) :
    Calls Try.prog 29 #[.pointer (some ⟨g, 0, none⟩), .string f.name, .agg #[.slice A n2 c2, .int .i64 ((f.fast : Nat) : Int), .bool f.there]] w fun e w' => e = .returned (.tuple #[]) ∧ ∃ b, Box9 w' g (some b) c ∧ Map9 w' (some b) (setP (f, .slice A n2 c2) ps) ∧ (m = some b ∨ (m = none ∧ w.heap.size ≤ b)) ∧ Off (fun k => k = g ∨ m = some k) w w' := by
  obtain ⟨nm, hnm⟩ : ∃ nm, f.name = nm := ⟨_, rfl⟩
  obtain ⟨fa, hfa⟩ : ∃ fa, f.fast = fa := ⟨_, rfl⟩
  obtain ⟨th, hth⟩ : ∃ th, f.there = th := ⟨_, rfl⟩
  rw [hnm, hfa, hth]
  rw [hnm] at hn
  have HQ : Hid (fileV (f, .slice A n2 c2) = .agg #[.slice A n2 c2, .int .i64 ((fa : Nat) : Int), .bool th]) := Lib.hid (by unfold fileV; rw [hfa, hth])
  have HNM := Lib.hid hnm
  clear hnm hfa hth
  have hlt := hb.lt
  have hbx := Blk.new w #[.slice A n2 c2, .int .i64 ((fa : Nat) : Int), .bool th] 59
  have hb0 := below_new w (Obj.cells #[.slice A n2 c2, .int .i64 ((fa : Nat) : Int), .bool th] 59)
  have hz0 : (w.alloc (Obj.cells #[.slice A n2 c2, .int .i64 ((fa : Nat) : Int), .bool th] 59)).heap.size = w.heap.size + 1 := by simp
  obtain ⟨W0, hW0⟩ : ∃ W0, w.alloc (Obj.cells #[.slice A n2 c2, .int .i64 ((fa : Nat) : Int), .bool th] 59) = W0 := ⟨_, rfl⟩
  rw [hW0] at hbx hb0 hz0
  have HB := Lib.hid (hb.below hb0)
  have HM := Lib.hid (hm.below hb0)
  have HBX := Lib.hid hbx
  have HOF : Hid (Off (fun k => k = g ∨ m = some k) w W0) := Lib.hid (Off.of_below hb0)
  have hz1 : Hid (W0.heap.size = w.heap.size + 1) := Lib.hid hz0
  obtain ⟨gb, hgb⟩ : ∃ gb, w.heap.size = gb := ⟨_, rfl⟩
  rw [hgb] at HBX
  clear hbx hb0 hb hm hz0
  have hc0 := HB.out.cell0
  have hmm := @run_makeMap Try.prog
  have qT : ∀ (w : World) (r : Option Nat), (binOp .eql 55 (.map r) (.map none)).run Try.prog w = .ok (.bool r.isNone) w := fun w r => run_eql_map_nil w _ _ _ r Try.underlying55
  cases m with
  | some b =>
    have e0 : (some b).isNone = false := rfl
    go_enter Try.func29, Try.ntmps29
    go_wp2_with fail
    refine wp_world (fun W => Box9 W g (some b) c ∧ Map9 W (some b) ps ∧ Blk W gb #[.slice A n2 c2, .int .i64 ((fa : Nat) : Int), .bool th] 59 ∧ Off (fun k => k = g ∨ some b = some k) w W ∧ gb < W.heap.size ∧ b ≠ g ∧ b ≠ gb) ⟨HB.out, HM.out, HBX.out, HOF.out, HBX.out.lt, (fun e => HB.out.ne_map (show W0.ownsMap Try.prog 9 RH b ps.length (DD ps) from HM.out) e.symm), (fun e => by rw [e] at HM; exact blk_ne_map HBX.out (show W0.ownsMap Try.prog 9 RH gb ps.length (DD ps) from HM.out))⟩ ?_
    rintro W9 ⟨hB9, hM9, hBX9, hOF9, hz9, hne9⟩
    have hc0 := hB9.cell0
    have q0 := hBX9.cell (j := 0) rfl
    have q1 := hBX9.cell (j := 1) rfl
    have q2 := hBX9.cell (j := 2) rfl
    have HB9 := Lib.hid hB9
    have HM9 := Lib.hid hM9
    have HBX9 := Lib.hid hBX9
    have HOF9 := Lib.hid hOF9
    have hltg := hB9.lt
    have hltb := hBX9.lt
    clear hB9 hM9 hBX9 hOF9
    have hb : Below W9.heap.size W9 W9 := Below.refl _ _
    have lt0 : g < W9.heap.size := (by first | (simp; done) | (simp; omega) | omega)
    have lt1 : gb < W9.heap.size := (by first | (simp; done) | (simp; omega) | omega)
    replace hc0 : W9.drew.cell? ⟨g, 0, none⟩ = some (.map (some b)) := hc0
    replace q0 : W9.drew.cell? ⟨gb, 0, none⟩ = some (.slice A n2 c2) := q0
    replace q1 : W9.drew.cell? ⟨gb, 1, none⟩ = some (.int .i64 ((fa : Nat) : Int)) := q1
    replace q2 : W9.drew.cell? ⟨gb, 2, none⟩ = some (.bool th) := q2
    replace HM9 := Lib.hid (Map9.below HM9.out ((Below.refl W9.heap.size W9).drew))
    replace HB9 := Lib.hid (Box9.below HB9.out ((Below.refl W9.heap.size W9).drew))
    replace HBX9 := Lib.hid (Blk.below HBX9.out ((Below.refl W9.heap.size W9).drew))
    replace HOF9 := Lib.hid (Off.then_ HOF9.out ((Below.refl W9.heap.size W9).drew))
    refine wp_region_noPanic ?_
    refine wp_region_held_drew (S := fun W => W.cell? ⟨g, 0, none⟩ = some (.map (some b)) ∧ W.cell? ⟨gb, 0, none⟩ = some (.slice A n2 c2) ∧ W.cell? ⟨gb, 1, none⟩ = some (.int .i64 ((fa : Nat) : Int)) ∧ W.cell? ⟨gb, 2, none⟩ = some (.bool th)) (by kernel_rfl) ?_ (fun hHeld => ?_)
    · exact ⟨hc0, q0, q1, q2⟩
    replace hb : Below W9.heap.size W9 W9.drew := hb.drew
    replace lt0 : g < W9.drew.heap.size := lt0
    replace lt1 : gb < W9.drew.heap.size := lt1
    have hzd : W9.heap.size ≤ W9.drew.heap.size := Nat.le_refl _
    generalize W9.drew = k1 at *
    refine wpAnyH_take (i := 0) (oi := { dst := some 15, op := Op.move (Operand.tmp 0), type := 24, pos := "disk.go:83", after := #[], guard := none }) (v := .pointer (some ⟨g, 0, none⟩)) rfl (by kernel_rfl) (by kernel_rfl) (by kernel_rfl) (fun _ _ _ h => h) (Or.inl ⟨by rfl, fun w hSw => ?_⟩) (by assumption) ?_
    · (try dsimp only at hSw)
      go_simp
    try simp only [Act.put, List.setIfInBounds_toArray, List.set_cons_zero, List.set_cons_succ]
    refine wpAnyH_take (i := 1) (oi := { dst := some 16, op := Op.nilCheck (Operand.tmp 15), type := 0, pos := "disk.go:83", after := #[{ on := 0, ground := Ground.data }], guard := none }) (v := .pointer (some ⟨g, 0, none⟩)) rfl (by kernel_rfl) (by kernel_rfl) (by kernel_rfl) (fun _ _ _ h => h) (Or.inl ⟨by rfl, fun w hSw => ?_⟩) (by assumption) ?_
    · (try dsimp only at hSw)
      go_simp
    try simp only [Act.put, List.setIfInBounds_toArray, List.set_cons_zero, List.set_cons_succ]
    refine wpAnyH_take (i := 2) (oi := { dst := some 17, op := Op.fieldAddr 57 (Operand.tmp 16) 0, type := 0, pos := "disk.go:83", after := #[{ on := 1, ground := Ground.data }], guard := none }) (v := .pointer (some ⟨g, 0, none⟩)) rfl (by kernel_rfl) (by kernel_rfl) (by kernel_rfl) (fun _ _ _ h => h) (Or.inl ⟨by rfl, fun w hSw => ?_⟩) (by assumption) ?_
    · (try dsimp only at hSw)
      go_simp
    try simp only [Act.put, List.setIfInBounds_toArray, List.set_cons_zero, List.set_cons_succ]
    refine wpAnyH_take (i := 3) (oi := { dst := some 18, op := Op.load 55 (Operand.tmp 17), type := 55, pos := "disk.go:83", after := #[{ on := 2, ground := Ground.data }], guard := none }) (v := .map (some b)) rfl (by kernel_rfl) (by kernel_rfl) (by kernel_rfl) (fun _ _ _ h => h) (Or.inl ⟨by rfl, fun w hSw => ?_⟩) (by assumption) ?_
    · (try dsimp only at hSw)
      go_simp
    try simp only [Act.put, List.setIfInBounds_toArray, List.set_cons_zero, List.set_cons_succ]
    refine wpAnyH_take (i := 4) (oi := { dst := some 19, op := Op.move (Operand.tmp 1), type := 9, pos := "disk.go:83", after := #[], guard := none }) (v := .string nm) rfl (by kernel_rfl) (by kernel_rfl) (by kernel_rfl) (fun _ _ _ h => h) (Or.inl ⟨by rfl, fun w hSw => ?_⟩) (by assumption) ?_
    · (try dsimp only at hSw)
      go_simp
    try simp only [Act.put, List.setIfInBounds_toArray, List.set_cons_zero, List.set_cons_succ]
    refine wpAnyH_take (i := 6) (oi := { dst := some 21, op := Op.load 59 (Operand.tmp 5), type := 59, pos := "disk.go:83", after := #[], guard := none }) (v := .agg #[.slice A n2 c2, .int .i64 ((fa : Nat) : Int), .bool th]) rfl (by kernel_rfl) (by kernel_rfl) (by kernel_rfl) (fun _ _ _ h => h) (Or.inl ⟨by rfl, fun w hSw => ?_⟩) (by assumption) ?_
    · (try dsimp only at hSw)
      go_simp
    try simp only [Act.put, List.setIfInBounds_toArray, List.set_cons_zero, List.set_cons_succ]
    refine wpAnyH_ready (rs := [5]) (by kernel_rfl) (by simp) ?_
    refine AllReadyH.cons (o := { dst := some 20, op := Op.call { callee := Callee.value (Operand.func 38), args := #[Operand.tmp 19], argTypes := #[9] }, type := 9, pos := "disk.go:83", after := #[{ on := 4, ground := Ground.data }], guard := none }) rfl (fun K hK => ?_) (AllReadyH.nil)
    go_simp
    go_at_call 38
    refine (clone_any nm _ (by omega)).mono ?_
    rintro e k2 ⟨rfl, h⟩
    have hk : Below k1.heap.size k1 k2 := by
      refine Below.trans ?_ (h.mono (by first | (simp; done) | (simp; omega) | omega))
      repeat' (first | with_reducible exact Below.refl _ _ | (with_reducible refine Below.alloc ?_ ?_ _) | (with_reducible refine Below.setCell ?_ ?_ _) | exact (by first | (simp; done) | (simp; omega) | omega))
    have hz := h.size
    try simp at hz
    replace hc0 : k2.cell? ⟨g, 0, none⟩ = some (.map (some b)) := (hk.cell (p := ⟨g, 0, none⟩) (by first | (simp; done) | (simp; omega) | omega)).trans hc0
    replace q0 : k2.cell? ⟨gb, 0, none⟩ = some (.slice A n2 c2) := (hk.cell (p := ⟨gb, 0, none⟩) (by first | (simp; done) | (simp; omega) | omega)).trans q0
    replace q1 : k2.cell? ⟨gb, 1, none⟩ = some (.int .i64 ((fa : Nat) : Int)) := (hk.cell (p := ⟨gb, 1, none⟩) (by first | (simp; done) | (simp; omega) | omega)).trans q1
    replace q2 : k2.cell? ⟨gb, 2, none⟩ = some (.bool th) := (hk.cell (p := ⟨gb, 2, none⟩) (by first | (simp; done) | (simp; omega) | omega)).trans q2
    replace HM9 := Lib.hid (Map9.below HM9.out hk)
    replace HB9 := Lib.hid (Box9.below HB9.out hk)
    replace HBX9 := Lib.hid (Blk.below HBX9.out hk)
    replace HOF9 := Lib.hid (Off.then_ HOF9.out hk)
    replace hb : Below W9.heap.size W9 k2 := hb.trans (hk.mono hb.size)
    have lt0 : g < k2.heap.size := (by first | (simp; done) | (simp; omega) | omega)
    have lt1 : gb < k2.heap.size := (by first | (simp; done) | (simp; omega) | omega)
    clear h hk
    try dsimp only
    refine hK.out _ _ ?_ (fun hHeld => ?_)
    · exact ⟨hc0, q0, q1, q2⟩
    clear hK K
    try simp only [Act.put, List.setIfInBounds_toArray, List.set_cons_zero, List.set_cons_succ]
    refine wpAnyH_ready (rs := [7]) (by kernel_rfl) (by simp) ?_
    refine AllReadyH.cons (o := { dst := none, op := Op.mapUpdate 55 (Operand.tmp 18) (Operand.tmp 20) (Operand.tmp 21), type := 0, pos := "disk.go:83", after := #[{ on := 3, ground := Ground.data }, { on := 5, ground := Ground.data }, { on := 6, ground := Ground.data }, { on := 5, ground := Ground.chain }, { on := 0, ground := Ground.phase }, { on := 1, ground := Ground.phase }, { on := 2, ground := Ground.phase }, { on := 3, ground := Ground.phase }, { on := 4, ground := Ground.phase }, { on := 5, ground := Ground.phase }, { on := 6, ground := Ground.phase }], guard := none }) rfl (fun K hK => ?_) (AllReadyH.nil)
    rw [if_pos (by rfl)]
    refine wp_put9 (.tmp 18) (.tmp 20) (.tmp 21) rfl b ps (f, .slice A n2 c2) rfl HM9.out hs hl ?h1 ?h2 ?h3 ?_
    case h1 => rw [HNM.out]; rfl
    case h2 => rw [HNM.out]; unfold maxLen; omega
    case h3 => rw [HQ.out]; rfl
    intro k9 hm9 hg9
    have HOF10 := Lib.hid (HOF9.out.grown hg9 (fun k hk => .inl (.inr hk)))
    have hofb : Off (fun k => k = b) k2 k9 := (Off.refl _ _).grown hg9 (fun k hk => .inl (Option.some.inj hk.symm))
    have HB10 := Lib.hid (HB9.out.off hofb (fun e => hne9.1 e.symm))
    have HBX10 := Lib.hid (HBX9.out.off hofb (fun e => hne9.2 e.symm))
    replace hc0 := HB10.out.cell0
    replace q0 := HBX10.out.cell (j := 0) rfl
    replace q1 := HBX10.out.cell (j := 1) rfl
    replace q2 := HBX10.out.cell (j := 2) rfl
    refine hK.out _ _ ?_ (fun hHeld => ?_)
    · exact ⟨hc0, q0, q1, q2⟩
    clear hK K
    try simp only [Act.put, List.setIfInBounds_toArray, List.set_cons_zero, List.set_cons_succ]
    refine wpAnyH_done (by kernel_rfl) ?_ _
    refine NoPanic.normal ?_
    go_wp2
    exact Go.Great.bodyPost_end0 rfl rfl ⟨by first | rfl | trivial, b, HB10.out, hm9, .inl rfl, HOF10.out⟩
  | none =>
    have hps : ps = [] := HM.out
    subst hps
    have e0 : (none : Option Nat).isNone = true := rfl
    have hfz := (HB.out.below (below_new W0 (.map #[] 0))).frz 0
    have hcA := (HB.out.below (below_new W0 (.map #[] 0))).cell0
    obtain ⟨b, hbb⟩ : ∃ b, W0.heap.size = b := ⟨_, rfl⟩
    have hM1 : Map9 (W0.alloc (.map #[] 0)) (some b) [] := by rw [← hbb]; exact World.ownsMap_made _ _ _ _
    have hB1 := (HB.out.below (below_new W0 (.map #[] 0))).set0 (some b)
    have hgb2 : g ≠ b := by have := HB.out.lt; omega
    have hgb3 : gb ≠ g := by omega
    have hgb4 : b ≠ gb := by have := HBX.out.lt; omega
    have hM2 : Map9 ((W0.alloc (.map #[] 0)).setCell ⟨g, 0, none⟩ (.map (some b))) (some b) [] := hM1.off ((Off.refl (fun k => k = g) _).set (.inl rfl)) (fun b' hb' e => by cases hb'; exact hgb2 e.symm)
    have hX2 := (HBX.out.below (below_new W0 (.map #[] 0))).far hgb3 (.map (some b)) (j := 0)
    have hO2 : Off (fun k => k = g ∨ (none : Option Nat) = some k) w ((W0.alloc (.map #[] 0)).setCell ⟨g, 0, none⟩ (.map (some b))) := (HOF.out.alloc _).set (.inl (.inl rfl))
    have HB1 := Lib.hid hB1
    have HM2 := Lib.hid hM2
    have HX2 := Lib.hid hX2
    have HO2 := Lib.hid hO2
    have HBB := Lib.hid hbb
    have HLT : Hid (gb < ((W0.alloc (.map #[] 0)).setCell ⟨g, 0, none⟩ (.map (some b))).heap.size) := Lib.hid hX2.lt
    clear hB1 hM1 hM2 hX2 hO2
    go_enter Try.func29, Try.ntmps29
    go_wp2_with fail
    refine wp_world (fun W => Box9 W g (some b) c ∧ Map9 W (some b) ([] : List (Fil × Value)) ∧ Blk W gb #[.slice A n2 c2, .int .i64 ((fa : Nat) : Int), .bool th] 59 ∧ Off (fun k => k = g ∨ (none : Option Nat) = some k) w W ∧ gb < W.heap.size ∧ b ≠ g ∧ b ≠ gb) ⟨HB1.out, HM2.out, HX2.out, HO2.out, HLT.out, fun e => hgb2 e.symm, hgb4⟩ ?_
    rintro W9 ⟨hB9, hM9, hBX9, hOF9, hz9, hne9⟩
    have hc0 := hB9.cell0
    have q0 := hBX9.cell (j := 0) rfl
    have q1 := hBX9.cell (j := 1) rfl
    have q2 := hBX9.cell (j := 2) rfl
    have HB9 := Lib.hid hB9
    have HM9 := Lib.hid hM9
    have HBX9 := Lib.hid hBX9
    have HOF9 := Lib.hid hOF9
    have hltg := hB9.lt
    have hltb := hBX9.lt
    clear hB9 hM9 hBX9 hOF9
    have hb : Below W9.heap.size W9 W9 := Below.refl _ _
    have lt0 : g < W9.heap.size := (by first | (simp; done) | (simp; omega) | omega)
    have lt1 : gb < W9.heap.size := (by first | (simp; done) | (simp; omega) | omega)
    replace hc0 : W9.drew.cell? ⟨g, 0, none⟩ = some (.map (some b)) := hc0
    replace q0 : W9.drew.cell? ⟨gb, 0, none⟩ = some (.slice A n2 c2) := q0
    replace q1 : W9.drew.cell? ⟨gb, 1, none⟩ = some (.int .i64 ((fa : Nat) : Int)) := q1
    replace q2 : W9.drew.cell? ⟨gb, 2, none⟩ = some (.bool th) := q2
    replace HM9 := Lib.hid (Map9.below HM9.out ((Below.refl W9.heap.size W9).drew))
    replace HB9 := Lib.hid (Box9.below HB9.out ((Below.refl W9.heap.size W9).drew))
    replace HBX9 := Lib.hid (Blk.below HBX9.out ((Below.refl W9.heap.size W9).drew))
    replace HOF9 := Lib.hid (Off.then_ HOF9.out ((Below.refl W9.heap.size W9).drew))
    refine wp_region_noPanic ?_
    refine wp_region_held_drew (S := fun W => W.cell? ⟨g, 0, none⟩ = some (.map (some b)) ∧ W.cell? ⟨gb, 0, none⟩ = some (.slice A n2 c2) ∧ W.cell? ⟨gb, 1, none⟩ = some (.int .i64 ((fa : Nat) : Int)) ∧ W.cell? ⟨gb, 2, none⟩ = some (.bool th)) (by kernel_rfl) ?_ (fun hHeld => ?_)
    · exact ⟨hc0, q0, q1, q2⟩
    replace hb : Below W9.heap.size W9 W9.drew := hb.drew
    replace lt0 : g < W9.drew.heap.size := lt0
    replace lt1 : gb < W9.drew.heap.size := lt1
    have hzd : W9.heap.size ≤ W9.drew.heap.size := Nat.le_refl _
    generalize W9.drew = k1 at *
    refine wpAnyH_take (i := 0) (oi := { dst := some 15, op := Op.move (Operand.tmp 0), type := 24, pos := "disk.go:83", after := #[], guard := none }) (v := .pointer (some ⟨g, 0, none⟩)) rfl (by kernel_rfl) (by kernel_rfl) (by kernel_rfl) (fun _ _ _ h => h) (Or.inl ⟨by rfl, fun w hSw => ?_⟩) (by assumption) ?_
    · (try dsimp only at hSw)
      go_simp
    try simp only [Act.put, List.setIfInBounds_toArray, List.set_cons_zero, List.set_cons_succ]
    refine wpAnyH_take (i := 1) (oi := { dst := some 16, op := Op.nilCheck (Operand.tmp 15), type := 0, pos := "disk.go:83", after := #[{ on := 0, ground := Ground.data }], guard := none }) (v := .pointer (some ⟨g, 0, none⟩)) rfl (by kernel_rfl) (by kernel_rfl) (by kernel_rfl) (fun _ _ _ h => h) (Or.inl ⟨by rfl, fun w hSw => ?_⟩) (by assumption) ?_
    · (try dsimp only at hSw)
      go_simp
    try simp only [Act.put, List.setIfInBounds_toArray, List.set_cons_zero, List.set_cons_succ]
    refine wpAnyH_take (i := 2) (oi := { dst := some 17, op := Op.fieldAddr 57 (Operand.tmp 16) 0, type := 0, pos := "disk.go:83", after := #[{ on := 1, ground := Ground.data }], guard := none }) (v := .pointer (some ⟨g, 0, none⟩)) rfl (by kernel_rfl) (by kernel_rfl) (by kernel_rfl) (fun _ _ _ h => h) (Or.inl ⟨by rfl, fun w hSw => ?_⟩) (by assumption) ?_
    · (try dsimp only at hSw)
      go_simp
    try simp only [Act.put, List.setIfInBounds_toArray, List.set_cons_zero, List.set_cons_succ]
    refine wpAnyH_take (i := 3) (oi := { dst := some 18, op := Op.load 55 (Operand.tmp 17), type := 55, pos := "disk.go:83", after := #[{ on := 2, ground := Ground.data }], guard := none }) (v := .map (some b)) rfl (by kernel_rfl) (by kernel_rfl) (by kernel_rfl) (fun _ _ _ h => h) (Or.inl ⟨by rfl, fun w hSw => ?_⟩) (by assumption) ?_
    · (try dsimp only at hSw)
      go_simp
    try simp only [Act.put, List.setIfInBounds_toArray, List.set_cons_zero, List.set_cons_succ]
    refine wpAnyH_take (i := 4) (oi := { dst := some 19, op := Op.move (Operand.tmp 1), type := 9, pos := "disk.go:83", after := #[], guard := none }) (v := .string nm) rfl (by kernel_rfl) (by kernel_rfl) (by kernel_rfl) (fun _ _ _ h => h) (Or.inl ⟨by rfl, fun w hSw => ?_⟩) (by assumption) ?_
    · (try dsimp only at hSw)
      go_simp
    try simp only [Act.put, List.setIfInBounds_toArray, List.set_cons_zero, List.set_cons_succ]
    refine wpAnyH_take (i := 6) (oi := { dst := some 21, op := Op.load 59 (Operand.tmp 5), type := 59, pos := "disk.go:83", after := #[], guard := none }) (v := .agg #[.slice A n2 c2, .int .i64 ((fa : Nat) : Int), .bool th]) rfl (by kernel_rfl) (by kernel_rfl) (by kernel_rfl) (fun _ _ _ h => h) (Or.inl ⟨by rfl, fun w hSw => ?_⟩) (by assumption) ?_
    · (try dsimp only at hSw)
      go_simp
    try simp only [Act.put, List.setIfInBounds_toArray, List.set_cons_zero, List.set_cons_succ]
    refine wpAnyH_ready (rs := [5]) (by kernel_rfl) (by simp) ?_
    refine AllReadyH.cons (o := { dst := some 20, op := Op.call { callee := Callee.value (Operand.func 38), args := #[Operand.tmp 19], argTypes := #[9] }, type := 9, pos := "disk.go:83", after := #[{ on := 4, ground := Ground.data }], guard := none }) rfl (fun K hK => ?_) (AllReadyH.nil)
    go_simp
    go_at_call 38
    refine (clone_any nm _ (by omega)).mono ?_
    rintro e k2 ⟨rfl, h⟩
    have hk : Below k1.heap.size k1 k2 := by
      refine Below.trans ?_ (h.mono (by first | (simp; done) | (simp; omega) | omega))
      repeat' (first | with_reducible exact Below.refl _ _ | (with_reducible refine Below.alloc ?_ ?_ _) | (with_reducible refine Below.setCell ?_ ?_ _) | exact (by first | (simp; done) | (simp; omega) | omega))
    have hz := h.size
    try simp at hz
    replace hc0 : k2.cell? ⟨g, 0, none⟩ = some (.map (some b)) := (hk.cell (p := ⟨g, 0, none⟩) (by first | (simp; done) | (simp; omega) | omega)).trans hc0
    replace q0 : k2.cell? ⟨gb, 0, none⟩ = some (.slice A n2 c2) := (hk.cell (p := ⟨gb, 0, none⟩) (by first | (simp; done) | (simp; omega) | omega)).trans q0
    replace q1 : k2.cell? ⟨gb, 1, none⟩ = some (.int .i64 ((fa : Nat) : Int)) := (hk.cell (p := ⟨gb, 1, none⟩) (by first | (simp; done) | (simp; omega) | omega)).trans q1
    replace q2 : k2.cell? ⟨gb, 2, none⟩ = some (.bool th) := (hk.cell (p := ⟨gb, 2, none⟩) (by first | (simp; done) | (simp; omega) | omega)).trans q2
    replace HM9 := Lib.hid (Map9.below HM9.out hk)
    replace HB9 := Lib.hid (Box9.below HB9.out hk)
    replace HBX9 := Lib.hid (Blk.below HBX9.out hk)
    replace HOF9 := Lib.hid (Off.then_ HOF9.out hk)
    replace hb : Below W9.heap.size W9 k2 := hb.trans (hk.mono hb.size)
    have lt0 : g < k2.heap.size := (by first | (simp; done) | (simp; omega) | omega)
    have lt1 : gb < k2.heap.size := (by first | (simp; done) | (simp; omega) | omega)
    clear h hk
    try dsimp only
    refine hK.out _ _ ?_ (fun hHeld => ?_)
    · exact ⟨hc0, q0, q1, q2⟩
    clear hK K
    try simp only [Act.put, List.setIfInBounds_toArray, List.set_cons_zero, List.set_cons_succ]
    refine wpAnyH_ready (rs := [7]) (by kernel_rfl) (by simp) ?_
    refine AllReadyH.cons (o := { dst := none, op := Op.mapUpdate 55 (Operand.tmp 18) (Operand.tmp 20) (Operand.tmp 21), type := 0, pos := "disk.go:83", after := #[{ on := 3, ground := Ground.data }, { on := 5, ground := Ground.data }, { on := 6, ground := Ground.data }, { on := 5, ground := Ground.chain }, { on := 0, ground := Ground.phase }, { on := 1, ground := Ground.phase }, { on := 2, ground := Ground.phase }, { on := 3, ground := Ground.phase }, { on := 4, ground := Ground.phase }, { on := 5, ground := Ground.phase }, { on := 6, ground := Ground.phase }], guard := none }) rfl (fun K hK => ?_) (AllReadyH.nil)
    rw [if_pos (by rfl)]
    refine wp_put9 (.tmp 18) (.tmp 20) (.tmp 21) rfl b [] (f, .slice A n2 c2) rfl HM9.out List.Pairwise.nil (by simp) ?h1 ?h2 ?h3 ?_
    case h1 => rw [HNM.out]; rfl
    case h2 => rw [HNM.out]; unfold maxLen; omega
    case h3 => rw [HQ.out]; rfl
    intro k9 hm9 hg9
    have HOF10 := Lib.hid (HOF9.out.grown hg9 (fun k hk => (by cases hk; right; have := hz1.out; omega)))
    have hofb : Off (fun k => k = b) k2 k9 := (Off.refl _ _).grown hg9 (fun k hk => .inl (Option.some.inj hk.symm))
    have HB10 := Lib.hid (HB9.out.off hofb (fun e => hne9.1 e.symm))
    have HBX10 := Lib.hid (HBX9.out.off hofb (fun e => hne9.2 e.symm))
    replace hc0 := HB10.out.cell0
    replace q0 := HBX10.out.cell (j := 0) rfl
    replace q1 := HBX10.out.cell (j := 1) rfl
    replace q2 := HBX10.out.cell (j := 2) rfl
    refine hK.out _ _ ?_ (fun hHeld => ?_)
    · exact ⟨hc0, q0, q1, q2⟩
    clear hK K
    try simp only [Act.put, List.setIfInBounds_toArray, List.set_cons_zero, List.set_cons_succ]
    refine wpAnyH_done (by kernel_rfl) ?_ _
    refine NoPanic.normal ?_
    go_wp2
    exact Go.Great.bodyPost_end0 rfl rfl ⟨by first | rfl | trivial, b, HB10.out, hm9, (by first | exact .inr ⟨trivial, by have := hz1.out; omega⟩ | exact .inr ⟨rfl, by have := hz1.out; omega⟩), HOF10.out⟩
end Go.Proofs.Ytbdengcblncfmaa
