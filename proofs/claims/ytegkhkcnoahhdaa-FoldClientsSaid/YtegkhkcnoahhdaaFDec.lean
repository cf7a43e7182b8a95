/-
  Package fold's mayErr, mayLast, placesDiffer and may answer as the plain functions say.
  The lasts' integers are in their ranges, their texts at most 1,000,000 bytes.
-/
import Derived.Test.YtegkhkcnoahhdaaFRead3
set_option linter.unusedSimpArgs false
set_option linter.unusedVariables false
namespace Go.Proofs.Ytegkhkcnoahhdaa
open Go.RowKit
set_option maxRecDepth 100000

theorem fmayErr_any (e : Int) (w : World) : Calls Try.prog 64 #[.int .i64 e] w (Bl (mayE e) w) := by
  by_cases h0 : e = 0
  · subst h0
    go_enter Try.func64, Try.ntmps64
    go_wp2
    go_ret
    exact ⟨rfl, Below.refl _ _⟩
  by_cases h6 : e = 6
  · subst h6; clear h0
    go_enter Try.func64, Try.ntmps64
    go_wp2
    go_ret
    exact ⟨rfl, Below.refl _ _⟩
  by_cases h7 : e = 7
  · subst h7; clear h0 h6
    go_enter Try.func64, Try.ntmps64
    go_wp2
    go_ret
    exact ⟨rfl, Below.refl _ _⟩
  by_cases h8 : e = 8
  · subst h8; clear h0 h6 h7
    go_enter Try.func64, Try.ntmps64
    go_wp2
    go_ret
    exact ⟨rfl, Below.refl _ _⟩
  by_cases h4 : e = 4
  · subst h4; clear h0 h6 h7 h8
    go_enter Try.func64, Try.ntmps64
    go_wp2
    go_ret
    exact ⟨rfl, Below.refl _ _⟩
  have hm : mayE e = false := by
    unfold mayE
    simp [h0, h6, h7, h8, h4]
  rw [hm]
  clear hm
  go_enter Try.func64, Try.ntmps64
  go_wp2
  go_ret
  exact ⟨rfl, Below.refl _ _⟩
set_option maxHeartbeats 1000000 in
theorem fmayLast_any (G c : Nat) (p : Int) (dv : Value) (las : Nat → La) (l : La) (w : World) (h : Fr w G p dv las) (hl : l.ok) :
    Calls Try.prog 43 #[.pointer (some ⟨G, 0, none⟩), .int .i64 (c : Int), .agg #[.int .i64 l.seq, .int .i64 l.place, .string l.txt, .int .i64 l.err]] w (Bl (mayL p c l) w) := by
  obtain ⟨s, pl, t, e⟩ := l
  have hlt := h.lt
  have c0 : w.cell? ⟨G, 0, none⟩ = some (.int .i64 p) := Rb.cell h rfl
  clear h
  have hts : t.data.toList.length ≤ 1000000 := by rw [size_list]; exact hl.txt
  clear hl
  have hb := Below.refl w.heap.size w
  by_cases hs : s = 0
  · have hm : mayL p c ⟨s, pl, t, e⟩ = true := by unfold mayL; simp [hs]
    rw [hm]
    subst hs
    clear hm
    go_enter Try.func43, Try.ntmps43
    go_wp2
    go_ret
    exact ⟨rfl, BB9 hb⟩
  · obtain ⟨⟨bc, bq, bo⟩, hrb⟩ : ∃ b, (rBat t.data.toList).1 = b := ⟨_, rfl⟩
    obtain ⟨y, hy⟩ : ∃ y, okB t.data.toList = y := ⟨_, rfl⟩
    have hm : mayL p c ⟨s, pl, t, e⟩ = (y && bc == (c : Int) && bq == s && (decide (1 ≤ pl) && decide (pl ≤ p) && mayE e)) := by
      unfold mayL; simp only; rw [hy, hrb]; simp [hs]
    have hd : decR t.data.toList = if y = true then (⟨bc, bq, bo⟩, 0) else (⟨0, 0, []⟩, 1) := by
      unfold decR; rw [hy, hrb]
    obtain ⟨⟨⟨dc, dq, dos⟩, de⟩, hde⟩ : ∃ r, decR t.data.toList = r := ⟨_, rfl⟩
    rw [hde] at hd
    rw [hm]
    have HCV := Lib.hid (fun W => conv_text W t)
    have HD := Lib.hid (fun (W : World) (A : Option Addr) (n c B : Nat) (hby : Byt W B (.slice A n c) t.data.toList) (hB : B ≤ W.heap.size) => decode_to A n c B t.data.toList dc dq dos de W hby hB hts hde)
    have hsb : (s == 0) = false := by rw [beq_eq_false_iff_ne]; exact hs
    clear hm hrb hy hde
    cases y with
    | false =>
      rw [if_neg (by decide)] at hd
      injection hd with e1 e2
      injection e1 with e1 e3 e4
      subst e1; subst e3; subst e4; subst e2
      rw [show (false && bc == (c : Int) && bq == s && (decide (1 ≤ pl) && decide (pl ≤ p) && mayE e)) = false from rfl]
      go_enter Try.func43, Try.ntmps43
      go_wp2_with fail
      obtain ⟨cv, k2, hcv, hby, hbk, hz2⟩ := HCV.out (w.alloc (.cells #[.int .i64 s, .int .i64 pl, .string t, .int .i64 e] 61))
      rw [hcv]
      clear hcv
      have hsz : (w.alloc (.cells #[.int .i64 s, .int .i64 pl, .string t, .int .i64 e] 61)).heap.size = w.heap.size + 1 := by simp
      rw [hsz] at hby hbk hz2
      go_wp2_with fail
      have hrl : Rb k2 w.heap.size 61 [.int .i64 s, .int .i64 pl, .string t, .int .i64 e] := (hbk.block w.heap.size (by omega)).trans (Rb.new w _ _)
      have hb2 : Below w.heap.size w k2 := (below_one w _).trans (hbk.mono (by omega))
      refine (HD.out k2 _ _ _ _ hby (Nat.le_refl _)).mono ?_
      rintro e1 k3 ⟨A2, c2, rfl, _, hb3⟩
      replace hrl := hrl.below hb3
      replace hb3 := hb2.trans (hb3.mono hb2.size)
      have l0 := hrl.cell (j := 0) rfl
      have l1 := hrl.cell (j := 1) rfl
      have l3 := hrl.cell (j := 3) rfl
      have hll := hrl.lt
      replace c0 : k3.cell? ⟨G, 0, none⟩ = some (.int .i64 p) := (hb3.cell (p := ⟨G, 0, none⟩) (by simp; omega)).trans c0
      have hGl : G < k3.heap.size := Nat.lt_of_lt_of_le hlt hb3.size
      clear hb2 hbk hby hrl hz2 hsz hb
      go_wp2
      go_ret
      exact ⟨rfl, BW9 hb3⟩
    | true =>
      rw [if_pos rfl] at hd
      injection hd with e1 e2
      injection e1 with e1 e3 e4
      subst e1; subst e3; subst e4; subst e2
      by_cases hc : dc = (c : Int)
      · have hc1 : (dc != (c : Int)) = false := by rw [hc]; simp
        have hc2 : (dc == (c : Int)) = true := by rw [hc]; simp
        rw [hc2]
        clear hc hc2
        by_cases hq : dq = s
        · have hq1 : (dq != s) = false := by rw [hq]; simp
          have hq2 : (dq == s) = true := by rw [hq]; simp
          rw [hq2]
          clear hq hq2
          by_cases h1 : 1 ≤ pl
          · by_cases h2 : pl ≤ p
            · obtain ⟨x, hx⟩ : ∃ x, mayE e = x := ⟨_, rfl⟩
              have HME := Lib.hid (fun W => hx ▸ fmayErr_any e W)
              rw [show (true && true && true && (decide (1 ≤ pl) && decide (pl ≤ p) && mayE e)) = x by rw [hx, decide_eq_true h1, decide_eq_true h2]; rfl]
              clear hx
              go_enter Try.func43, Try.ntmps43
              go_wp2_with fail
              obtain ⟨cv, k2, hcv, hby, hbk, hz2⟩ := HCV.out (w.alloc (.cells #[.int .i64 s, .int .i64 pl, .string t, .int .i64 e] 61))
              rw [hcv]
              clear hcv
              have hsz : (w.alloc (.cells #[.int .i64 s, .int .i64 pl, .string t, .int .i64 e] 61)).heap.size = w.heap.size + 1 := by simp
              rw [hsz] at hby hbk hz2
              go_wp2_with fail
              have hrl : Rb k2 w.heap.size 61 [.int .i64 s, .int .i64 pl, .string t, .int .i64 e] := (hbk.block w.heap.size (by omega)).trans (Rb.new w _ _)
              have hb2 : Below w.heap.size w k2 := (below_one w _).trans (hbk.mono (by omega))
              refine (HD.out k2 _ _ _ _ hby (Nat.le_refl _)).mono ?_
              rintro e1 k3 ⟨A2, c2, rfl, _, hb3⟩
              replace hrl := hrl.below hb3
              replace hb3 := hb2.trans (hb3.mono hb2.size)
              have l0 := hrl.cell (j := 0) rfl
              have l1 := hrl.cell (j := 1) rfl
              have l3 := hrl.cell (j := 3) rfl
              have hll := hrl.lt
              replace c0 : k3.cell? ⟨G, 0, none⟩ = some (.int .i64 p) := (hb3.cell (p := ⟨G, 0, none⟩) (by simp; omega)).trans c0
              have hGl : G < k3.heap.size := Nat.lt_of_lt_of_le hlt hb3.size
              clear hb2 hbk hby hrl hz2 hsz hb
              go_wp2_with fail
              refine wp_world (fun W => W.cell? ⟨w.heap.size, 1, none⟩ = some (.int .i64 pl) ∧ W.cell? ⟨w.heap.size, 3, none⟩ = some (.int .i64 e) ∧ W.cell? ⟨G, 0, none⟩ = some (.int .i64 p) ∧ Below w.heap.size w W ∧ w.heap.size < W.heap.size ∧ G < W.heap.size) ⟨by go_simp, by go_simp, by go_simp, BW9 hb3, by simp; omega, by simp; omega⟩ ?_
              clear l0 l1 l3 c0 hll hGl hb3
              rintro k4 ⟨q1, q3, q0, hb, hl4, hg4⟩
              replace q1 : k4.drew.cell? ⟨w.heap.size, 1, none⟩ = some (.int .i64 pl) := q1
              replace q3 : k4.drew.cell? ⟨w.heap.size, 3, none⟩ = some (.int .i64 e) := q3
              replace q0 : k4.drew.cell? ⟨G, 0, none⟩ = some (.int .i64 p) := q0
              refine wp_region_noPanic ?_
              refine wp_region_held_drew (S := fun W => W.cell? ⟨w.heap.size, 1, none⟩ = some (.int .i64 pl) ∧ W.cell? ⟨w.heap.size, 3, none⟩ = some (.int .i64 e) ∧ W.cell? ⟨G, 0, none⟩ = some (.int .i64 p)) (by kernel_rfl) ?_ (fun hHeld => ?_)
              · exact ⟨q1, q3, q0⟩
              replace hb : Below w.heap.size w k4.drew := hb.drew
              replace hl4 : w.heap.size < k4.drew.heap.size := hl4
              replace hg4 : G < k4.drew.heap.size := hg4
              have hzd : k4.heap.size ≤ k4.drew.heap.size := Nat.le_refl _
              generalize k4.drew = k5 at *
              refine wpAnyH_take (i := 0) (oi := { dst := some 34, op := Op.fieldAddr 61 (Operand.tmp 5) 1, type := 0, pos := "fold.go:210", after := #[], guard := none }) (v := .pointer (some ⟨w.heap.size, 1, none⟩)) rfl (by kernel_rfl) (by kernel_rfl) (by kernel_rfl) (fun _ _ _ h => h) (Or.inl ⟨by rfl, fun w hSw => ?_⟩) (by assumption) ?_
              · (try dsimp only at hSw)
                go_simp
              try simp only [Act.put, List.setIfInBounds_toArray, List.set_cons_zero, List.set_cons_succ]
              refine wpAnyH_take (i := 1) (oi := { dst := some 35, op := Op.load 2 (Operand.tmp 34), type := 2, pos := "fold.go:210", after := #[{ on := 0, ground := Ground.data }], guard := none }) (v := .int .i64 pl) rfl (by kernel_rfl) (by kernel_rfl) (by kernel_rfl) (fun _ _ _ h => h) (Or.inl ⟨by rfl, fun w hSw => ?_⟩) (by assumption) ?_
              · (try dsimp only at hSw)
                go_simp
              try simp only [Act.put, List.setIfInBounds_toArray, List.set_cons_zero, List.set_cons_succ]
              refine wpAnyH_take (i := 2) (oi := { dst := some 36, op := Op.binOp BinOp.geq 2 (Operand.tmp 35) (Operand.const (Value.int IntKind.i64 1)) 2, type := 4, pos := "fold.go:210", after := #[{ on := 1, ground := Ground.data }], guard := none }) (v := .bool true) rfl (by kernel_rfl) (by kernel_rfl) (by kernel_rfl) (fun _ _ _ h => h) (Or.inl ⟨by rfl, fun w hSw => ?_⟩) (by assumption) ?_
              · (try dsimp only at hSw)
                go_simp
              try simp only [Act.put, List.setIfInBounds_toArray, List.set_cons_zero, List.set_cons_succ]
              refine wpAnyH_take (i := 3) (oi := { dst := some 37, op := Op.move (Operand.tmp 36), type := 4, pos := "fold.go:210", after := #[{ on := 2, ground := Ground.data }], guard := none }) (v := .bool true) rfl (by kernel_rfl) (by kernel_rfl) (by kernel_rfl) (fun _ _ _ h => h) (Or.inl ⟨by rfl, fun w hSw => ?_⟩) (by assumption) ?_
              · (try dsimp only at hSw)
                go_simp
              try simp only [Act.put, List.setIfInBounds_toArray, List.set_cons_zero, List.set_cons_succ]
              refine wpAnyH_take (i := 4) (oi := { dst := some 38, op := Op.fieldAddr 61 (Operand.tmp 5) 1, type := 0, pos := "fold.go:210", after := #[{ on := 3, ground := Ground.guard }], guard := some (3, true) }) (v := .pointer (some ⟨w.heap.size, 1, none⟩)) rfl (by kernel_rfl) (by kernel_rfl) (by kernel_rfl) (fun _ _ _ h => h) (Or.inl ⟨by rfl, fun w hSw => ?_⟩) (by assumption) ?_
              · (try dsimp only at hSw)
                go_simp
              try simp only [Act.put, List.setIfInBounds_toArray, List.set_cons_zero, List.set_cons_succ]
              refine wpAnyH_take (i := 5) (oi := { dst := some 39, op := Op.load 2 (Operand.tmp 38), type := 2, pos := "fold.go:210", after := #[{ on := 4, ground := Ground.data }, { on := 3, ground := Ground.guard }], guard := some (3, true) }) (v := .int .i64 pl) rfl (by kernel_rfl) (by kernel_rfl) (by kernel_rfl) (fun _ _ _ h => h) (Or.inl ⟨by rfl, fun w hSw => ?_⟩) (by assumption) ?_
              · (try dsimp only at hSw)
                go_simp
              try simp only [Act.put, List.setIfInBounds_toArray, List.set_cons_zero, List.set_cons_succ]
              refine wpAnyH_take (i := 6) (oi := { dst := some 40, op := Op.move (Operand.tmp 0), type := 26, pos := "fold.go:210", after := #[{ on := 3, ground := Ground.guard }], guard := some (3, true) }) (v := .pointer (some ⟨G, 0, none⟩)) rfl (by kernel_rfl) (by kernel_rfl) (by kernel_rfl) (fun _ _ _ h => h) (Or.inl ⟨by rfl, fun w hSw => ?_⟩) (by assumption) ?_
              · (try dsimp only at hSw)
                go_simp
              try simp only [Act.put, List.setIfInBounds_toArray, List.set_cons_zero, List.set_cons_succ]
              refine wpAnyH_take (i := 7) (oi := { dst := some 41, op := Op.nilCheck (Operand.tmp 40), type := 0, pos := "fold.go:210", after := #[{ on := 6, ground := Ground.data }, { on := 3, ground := Ground.guard }], guard := some (3, true) }) (v := .pointer (some ⟨G, 0, none⟩)) rfl (by kernel_rfl) (by kernel_rfl) (by kernel_rfl) (fun _ _ _ h => h) (Or.inl ⟨by rfl, fun w hSw => ?_⟩) (by assumption) ?_
              · (try dsimp only at hSw)
                go_simp
              try simp only [Act.put, List.setIfInBounds_toArray, List.set_cons_zero, List.set_cons_succ]
              refine wpAnyH_take (i := 8) (oi := { dst := some 42, op := Op.fieldAddr 64 (Operand.tmp 41) 0, type := 0, pos := "fold.go:210", after := #[{ on := 7, ground := Ground.data }, { on := 3, ground := Ground.guard }], guard := some (3, true) }) (v := .pointer (some ⟨G, 0, none⟩)) rfl (by kernel_rfl) (by kernel_rfl) (by kernel_rfl) (fun _ _ _ h => h) (Or.inl ⟨by rfl, fun w hSw => ?_⟩) (by assumption) ?_
              · (try dsimp only at hSw)
                go_simp
              try simp only [Act.put, List.setIfInBounds_toArray, List.set_cons_zero, List.set_cons_succ]
              refine wpAnyH_take (i := 9) (oi := { dst := some 43, op := Op.load 2 (Operand.tmp 42), type := 2, pos := "fold.go:210", after := #[{ on := 8, ground := Ground.data }, { on := 3, ground := Ground.guard }], guard := some (3, true) }) (v := .int .i64 p) rfl (by kernel_rfl) (by kernel_rfl) (by kernel_rfl) (fun _ _ _ h => h) (Or.inl ⟨by rfl, fun w hSw => ?_⟩) (by assumption) ?_
              · (try dsimp only at hSw)
                go_simp
              try simp only [Act.put, List.setIfInBounds_toArray, List.set_cons_zero, List.set_cons_succ]
              refine wpAnyH_take (i := 10) (oi := { dst := some 44, op := Op.binOp BinOp.leq 2 (Operand.tmp 39) (Operand.tmp 43) 2, type := 4, pos := "fold.go:210", after := #[{ on := 5, ground := Ground.data }, { on := 9, ground := Ground.data }, { on := 3, ground := Ground.guard }], guard := some (3, true) }) (v := .bool true) rfl (by kernel_rfl) (by kernel_rfl) (by kernel_rfl) (fun _ _ _ h => h) (Or.inl ⟨by rfl, fun w hSw => ?_⟩) (by assumption) ?_
              · (try dsimp only at hSw)
                go_simp
              try simp only [Act.put, List.setIfInBounds_toArray, List.set_cons_zero, List.set_cons_succ]
              refine wpAnyH_take (i := 11) (oi := { dst := some 45, op := Op.pick (Operand.tmp 37) (Operand.tmp 44) (Operand.const (Value.bool false)), type := 4, pos := "fold.go:210", after := #[{ on := 3, ground := Ground.data }, { on := 10, ground := Ground.data }], guard := none }) (v := .bool true) rfl (by kernel_rfl) (by kernel_rfl) (by kernel_rfl) (fun _ _ _ h => h) (Or.inl ⟨by rfl, fun w hSw => ?_⟩) (by assumption) ?_
              · (try dsimp only at hSw)
                go_simp
              try simp only [Act.put, List.setIfInBounds_toArray, List.set_cons_zero, List.set_cons_succ]
              refine wpAnyH_take (i := 12) (oi := { dst := some 46, op := Op.move (Operand.tmp 45), type := 4, pos := "fold.go:210", after := #[{ on := 11, ground := Ground.data }, { on := 3, ground := Ground.chain }], guard := none }) (v := .bool true) rfl (by kernel_rfl) (by kernel_rfl) (by kernel_rfl) (fun _ _ _ h => h) (Or.inl ⟨by rfl, fun w hSw => ?_⟩) (by assumption) ?_
              · (try dsimp only at hSw)
                go_simp
              try simp only [Act.put, List.setIfInBounds_toArray, List.set_cons_zero, List.set_cons_succ]
              refine wpAnyH_take (i := 13) (oi := { dst := some 47, op := Op.fieldAddr 61 (Operand.tmp 5) 3, type := 0, pos := "fold.go:210", after := #[{ on := 12, ground := Ground.guard }], guard := some (12, true) }) (v := .pointer (some ⟨w.heap.size, 3, none⟩)) rfl (by kernel_rfl) (by kernel_rfl) (by kernel_rfl) (fun _ _ _ h => h) (Or.inl ⟨by rfl, fun w hSw => ?_⟩) (by assumption) ?_
              · (try dsimp only at hSw)
                go_simp
              try simp only [Act.put, List.setIfInBounds_toArray, List.set_cons_zero, List.set_cons_succ]
              refine wpAnyH_take (i := 14) (oi := { dst := some 48, op := Op.load 30 (Operand.tmp 47), type := 30, pos := "fold.go:210", after := #[{ on := 13, ground := Ground.data }, { on := 12, ground := Ground.guard }], guard := some (12, true) }) (v := .int .i64 e) rfl (by kernel_rfl) (by kernel_rfl) (by kernel_rfl) (fun _ _ _ h => h) (Or.inl ⟨by rfl, fun w hSw => ?_⟩) (by assumption) ?_
              · (try dsimp only at hSw)
                go_simp
              try simp only [Act.put, List.setIfInBounds_toArray, List.set_cons_zero, List.set_cons_succ]
              refine wpAnyH_ready (rs := [15]) (by kernel_rfl) (by simp) ?_
              refine AllReadyH.cons (o := { dst := some 49, op := Op.call { callee := Callee.value (Operand.func 64), args := #[Operand.tmp 48], argTypes := #[30] }, type := 4, pos := "fold.go:210", after := #[{ on := 14, ground := Ground.data }, { on := 12, ground := Ground.chain }, { on := 12, ground := Ground.guard }], guard := some (12, true) }) rfl (fun K hK => ?_) (AllReadyH.nil)
              go_simp
              go_at_call 64
              refine (HME.out _).mono ?_
              rintro e k6 ⟨rfl, h⟩
              have hk : Below k5.heap.size k5 k6 := by
                refine Below.trans ?_ (h.mono (by first | (simp; done) | (simp; omega) | omega))
                repeat' (first | with_reducible exact Below.refl _ _ | (with_reducible refine Below.alloc ?_ ?_ _) | (with_reducible refine Below.setCell ?_ ?_ _) | exact (by first | (simp; done) | (simp; omega) | omega))
              have hz := h.size
              try simp at hz
              replace q1 : k6.cell? ⟨w.heap.size, 1, none⟩ = some (.int .i64 pl) := (hk.cell (p := ⟨w.heap.size, 1, none⟩) (by first | (simp; done) | (simp; omega) | omega)).trans q1
              replace q3 : k6.cell? ⟨w.heap.size, 3, none⟩ = some (.int .i64 e) := (hk.cell (p := ⟨w.heap.size, 3, none⟩) (by first | (simp; done) | (simp; omega) | omega)).trans q3
              replace q0 : k6.cell? ⟨G, 0, none⟩ = some (.int .i64 p) := (hk.cell (p := ⟨G, 0, none⟩) (by first | (simp; done) | (simp; omega) | omega)).trans q0
              replace hb : Below w.heap.size w k6 := hb.trans (hk.mono hb.size)
              have hl4 : w.heap.size < k6.heap.size := (by first | (simp; done) | (simp; omega) | omega)
              have hg4 : G < k6.heap.size := (by first | (simp; done) | (simp; omega) | omega)
              clear h hk
              try dsimp only
              refine hK.out _ _ ?_ (fun hHeld => ?_)
              · exact ⟨q1, q3, q0⟩
              clear hK K
              try simp only [Act.put, List.setIfInBounds_toArray, List.set_cons_zero, List.set_cons_succ]
              refine wpAnyH_ready (rs := [16]) (by kernel_rfl) (by simp) ?_
              refine AllReadyH.cons (o := { dst := some 50, op := Op.pick (Operand.tmp 46) (Operand.tmp 49) (Operand.const (Value.bool false)), type := 4, pos := "fold.go:210", after := #[{ on := 12, ground := Ground.data }, { on := 15, ground := Ground.data }], guard := none }) rfl (fun K hK => ?_) (AllReadyH.nil)
              go_simp
              refine hK.out _ _ ?_ (fun hHeld => ?_)
              · exact ⟨q1, q3, q0⟩
              clear hK K
              try simp only [Act.put, List.setIfInBounds_toArray, List.set_cons_zero, List.set_cons_succ]
              refine wpAnyH_ready (rs := [17]) (by kernel_rfl) (by simp) ?_
              refine AllReadyH.cons (o := { dst := some 6, op := Op.assign (Operand.tmp 50), type := 4, pos := "fold.go:210", after := #[{ on := 16, ground := Ground.data }, { on := 15, ground := Ground.chain }, { on := 0, ground := Ground.phase }, { on := 1, ground := Ground.phase }, { on := 2, ground := Ground.phase }, { on := 3, ground := Ground.phase }, { on := 4, ground := Ground.phase }, { on := 5, ground := Ground.phase }, { on := 6, ground := Ground.phase }, { on := 7, ground := Ground.phase }, { on := 8, ground := Ground.phase }, { on := 9, ground := Ground.phase }, { on := 10, ground := Ground.phase }, { on := 11, ground := Ground.phase }, { on := 12, ground := Ground.phase }, { on := 13, ground := Ground.phase }, { on := 14, ground := Ground.phase }, { on := 15, ground := Ground.phase }, { on := 16, ground := Ground.phase }], guard := none }) rfl (fun K hK => ?_) (AllReadyH.nil)
              go_simp
              refine hK.out _ _ ?_ (fun hHeld => ?_)
              · exact ⟨q1, q3, q0⟩
              clear hK K
              try simp only [Act.put, List.setIfInBounds_toArray, List.set_cons_zero, List.set_cons_succ]
              refine wpAnyH_done (by kernel_rfl) ?_ _
              refine NoPanic.normal ?_
              go_wp2
              go_ret
              exact ⟨rfl, hb⟩
            · rw [show (true && true && true && (decide (1 ≤ pl) && decide (pl ≤ p) && mayE e)) = false by rw [decide_eq_false h2]; simp]
              have hd1 := decide_eq_true h1
              have hd2 := decide_eq_false h2
              go_enter Try.func43, Try.ntmps43
              go_wp2_with fail
              obtain ⟨cv, k2, hcv, hby, hbk, hz2⟩ := HCV.out (w.alloc (.cells #[.int .i64 s, .int .i64 pl, .string t, .int .i64 e] 61))
              rw [hcv]
              clear hcv
              have hsz : (w.alloc (.cells #[.int .i64 s, .int .i64 pl, .string t, .int .i64 e] 61)).heap.size = w.heap.size + 1 := by simp
              rw [hsz] at hby hbk hz2
              go_wp2_with fail
              have hrl : Rb k2 w.heap.size 61 [.int .i64 s, .int .i64 pl, .string t, .int .i64 e] := (hbk.block w.heap.size (by omega)).trans (Rb.new w _ _)
              have hb2 : Below w.heap.size w k2 := (below_one w _).trans (hbk.mono (by omega))
              refine (HD.out k2 _ _ _ _ hby (Nat.le_refl _)).mono ?_
              rintro e1 k3 ⟨A2, c2, rfl, _, hb3⟩
              replace hrl := hrl.below hb3
              replace hb3 := hb2.trans (hb3.mono hb2.size)
              have l0 := hrl.cell (j := 0) rfl
              have l1 := hrl.cell (j := 1) rfl
              have l3 := hrl.cell (j := 3) rfl
              have hll := hrl.lt
              replace c0 : k3.cell? ⟨G, 0, none⟩ = some (.int .i64 p) := (hb3.cell (p := ⟨G, 0, none⟩) (by simp; omega)).trans c0
              have hGl : G < k3.heap.size := Nat.lt_of_lt_of_le hlt hb3.size
              clear hb2 hbk hby hrl hz2 hsz hb
              go_wp2_with fail
              refine wp_world (fun W => W.cell? ⟨w.heap.size, 1, none⟩ = some (.int .i64 pl) ∧ W.cell? ⟨w.heap.size, 3, none⟩ = some (.int .i64 e) ∧ W.cell? ⟨G, 0, none⟩ = some (.int .i64 p) ∧ Below w.heap.size w W ∧ w.heap.size < W.heap.size ∧ G < W.heap.size) ⟨by go_simp, by go_simp, by go_simp, BW9 hb3, by simp; omega, by simp; omega⟩ ?_
              clear l0 l1 l3 c0 hll hGl hb3
              rintro k4 ⟨q1, q3, q0, hb, hl4, hg4⟩
              replace q1 : k4.drew.cell? ⟨w.heap.size, 1, none⟩ = some (.int .i64 pl) := q1
              replace q3 : k4.drew.cell? ⟨w.heap.size, 3, none⟩ = some (.int .i64 e) := q3
              replace q0 : k4.drew.cell? ⟨G, 0, none⟩ = some (.int .i64 p) := q0
              refine wp_region_noPanic ?_
              refine wp_region_held_drew (S := fun W => W.cell? ⟨w.heap.size, 1, none⟩ = some (.int .i64 pl) ∧ W.cell? ⟨w.heap.size, 3, none⟩ = some (.int .i64 e) ∧ W.cell? ⟨G, 0, none⟩ = some (.int .i64 p)) (by kernel_rfl) ?_ (fun hHeld => ?_)
              · exact ⟨q1, q3, q0⟩
              replace hb : Below w.heap.size w k4.drew := hb.drew
              replace hl4 : w.heap.size < k4.drew.heap.size := hl4
              replace hg4 : G < k4.drew.heap.size := hg4
              have hzd : k4.heap.size ≤ k4.drew.heap.size := Nat.le_refl _
              generalize k4.drew = k5 at *
              refine wpAnyH_take (i := 0) (oi := { dst := some 34, op := Op.fieldAddr 61 (Operand.tmp 5) 1, type := 0, pos := "fold.go:210", after := #[], guard := none }) (v := .pointer (some ⟨w.heap.size, 1, none⟩)) rfl (by kernel_rfl) (by kernel_rfl) (by kernel_rfl) (fun _ _ _ h => h) (Or.inl ⟨by rfl, fun w hSw => ?_⟩) (by assumption) ?_
              · (try dsimp only at hSw)
                go_simp
              try simp only [Act.put, List.setIfInBounds_toArray, List.set_cons_zero, List.set_cons_succ]
              refine wpAnyH_take (i := 1) (oi := { dst := some 35, op := Op.load 2 (Operand.tmp 34), type := 2, pos := "fold.go:210", after := #[{ on := 0, ground := Ground.data }], guard := none }) (v := .int .i64 pl) rfl (by kernel_rfl) (by kernel_rfl) (by kernel_rfl) (fun _ _ _ h => h) (Or.inl ⟨by rfl, fun w hSw => ?_⟩) (by assumption) ?_
              · (try dsimp only at hSw)
                go_simp
              try simp only [Act.put, List.setIfInBounds_toArray, List.set_cons_zero, List.set_cons_succ]
              refine wpAnyH_take (i := 2) (oi := { dst := some 36, op := Op.binOp BinOp.geq 2 (Operand.tmp 35) (Operand.const (Value.int IntKind.i64 1)) 2, type := 4, pos := "fold.go:210", after := #[{ on := 1, ground := Ground.data }], guard := none }) (v := .bool true) rfl (by kernel_rfl) (by kernel_rfl) (by kernel_rfl) (fun _ _ _ h => h) (Or.inl ⟨by rfl, fun w hSw => ?_⟩) (by assumption) ?_
              · (try dsimp only at hSw)
                go_simp
              try simp only [Act.put, List.setIfInBounds_toArray, List.set_cons_zero, List.set_cons_succ]
              refine wpAnyH_take (i := 3) (oi := { dst := some 37, op := Op.move (Operand.tmp 36), type := 4, pos := "fold.go:210", after := #[{ on := 2, ground := Ground.data }], guard := none }) (v := .bool true) rfl (by kernel_rfl) (by kernel_rfl) (by kernel_rfl) (fun _ _ _ h => h) (Or.inl ⟨by rfl, fun w hSw => ?_⟩) (by assumption) ?_
              · (try dsimp only at hSw)
                go_simp
              try simp only [Act.put, List.setIfInBounds_toArray, List.set_cons_zero, List.set_cons_succ]
              refine wpAnyH_take (i := 4) (oi := { dst := some 38, op := Op.fieldAddr 61 (Operand.tmp 5) 1, type := 0, pos := "fold.go:210", after := #[{ on := 3, ground := Ground.guard }], guard := some (3, true) }) (v := .pointer (some ⟨w.heap.size, 1, none⟩)) rfl (by kernel_rfl) (by kernel_rfl) (by kernel_rfl) (fun _ _ _ h => h) (Or.inl ⟨by rfl, fun w hSw => ?_⟩) (by assumption) ?_
              · (try dsimp only at hSw)
                go_simp
              try simp only [Act.put, List.setIfInBounds_toArray, List.set_cons_zero, List.set_cons_succ]
              refine wpAnyH_take (i := 5) (oi := { dst := some 39, op := Op.load 2 (Operand.tmp 38), type := 2, pos := "fold.go:210", after := #[{ on := 4, ground := Ground.data }, { on := 3, ground := Ground.guard }], guard := some (3, true) }) (v := .int .i64 pl) rfl (by kernel_rfl) (by kernel_rfl) (by kernel_rfl) (fun _ _ _ h => h) (Or.inl ⟨by rfl, fun w hSw => ?_⟩) (by assumption) ?_
              · (try dsimp only at hSw)
                go_simp
              try simp only [Act.put, List.setIfInBounds_toArray, List.set_cons_zero, List.set_cons_succ]
              refine wpAnyH_take (i := 6) (oi := { dst := some 40, op := Op.move (Operand.tmp 0), type := 26, pos := "fold.go:210", after := #[{ on := 3, ground := Ground.guard }], guard := some (3, true) }) (v := .pointer (some ⟨G, 0, none⟩)) rfl (by kernel_rfl) (by kernel_rfl) (by kernel_rfl) (fun _ _ _ h => h) (Or.inl ⟨by rfl, fun w hSw => ?_⟩) (by assumption) ?_
              · (try dsimp only at hSw)
                go_simp
              try simp only [Act.put, List.setIfInBounds_toArray, List.set_cons_zero, List.set_cons_succ]
              refine wpAnyH_take (i := 7) (oi := { dst := some 41, op := Op.nilCheck (Operand.tmp 40), type := 0, pos := "fold.go:210", after := #[{ on := 6, ground := Ground.data }, { on := 3, ground := Ground.guard }], guard := some (3, true) }) (v := .pointer (some ⟨G, 0, none⟩)) rfl (by kernel_rfl) (by kernel_rfl) (by kernel_rfl) (fun _ _ _ h => h) (Or.inl ⟨by rfl, fun w hSw => ?_⟩) (by assumption) ?_
              · (try dsimp only at hSw)
                go_simp
              try simp only [Act.put, List.setIfInBounds_toArray, List.set_cons_zero, List.set_cons_succ]
              refine wpAnyH_take (i := 8) (oi := { dst := some 42, op := Op.fieldAddr 64 (Operand.tmp 41) 0, type := 0, pos := "fold.go:210", after := #[{ on := 7, ground := Ground.data }, { on := 3, ground := Ground.guard }], guard := some (3, true) }) (v := .pointer (some ⟨G, 0, none⟩)) rfl (by kernel_rfl) (by kernel_rfl) (by kernel_rfl) (fun _ _ _ h => h) (Or.inl ⟨by rfl, fun w hSw => ?_⟩) (by assumption) ?_
              · (try dsimp only at hSw)
                go_simp
              try simp only [Act.put, List.setIfInBounds_toArray, List.set_cons_zero, List.set_cons_succ]
              refine wpAnyH_take (i := 9) (oi := { dst := some 43, op := Op.load 2 (Operand.tmp 42), type := 2, pos := "fold.go:210", after := #[{ on := 8, ground := Ground.data }, { on := 3, ground := Ground.guard }], guard := some (3, true) }) (v := .int .i64 p) rfl (by kernel_rfl) (by kernel_rfl) (by kernel_rfl) (fun _ _ _ h => h) (Or.inl ⟨by rfl, fun w hSw => ?_⟩) (by assumption) ?_
              · (try dsimp only at hSw)
                go_simp
              try simp only [Act.put, List.setIfInBounds_toArray, List.set_cons_zero, List.set_cons_succ]
              refine wpAnyH_take (i := 10) (oi := { dst := some 44, op := Op.binOp BinOp.leq 2 (Operand.tmp 39) (Operand.tmp 43) 2, type := 4, pos := "fold.go:210", after := #[{ on := 5, ground := Ground.data }, { on := 9, ground := Ground.data }, { on := 3, ground := Ground.guard }], guard := some (3, true) }) (v := .bool false) rfl (by kernel_rfl) (by kernel_rfl) (by kernel_rfl) (fun _ _ _ h => h) (Or.inl ⟨by rfl, fun w hSw => ?_⟩) (by assumption) ?_
              · (try dsimp only at hSw)
                go_simp
              try simp only [Act.put, List.setIfInBounds_toArray, List.set_cons_zero, List.set_cons_succ]
              refine wpAnyH_take (i := 11) (oi := { dst := some 45, op := Op.pick (Operand.tmp 37) (Operand.tmp 44) (Operand.const (Value.bool false)), type := 4, pos := "fold.go:210", after := #[{ on := 3, ground := Ground.data }, { on := 10, ground := Ground.data }], guard := none }) (v := .bool false) rfl (by kernel_rfl) (by kernel_rfl) (by kernel_rfl) (fun _ _ _ h => h) (Or.inl ⟨by rfl, fun w hSw => ?_⟩) (by assumption) ?_
              · (try dsimp only at hSw)
                go_simp
              try simp only [Act.put, List.setIfInBounds_toArray, List.set_cons_zero, List.set_cons_succ]
              refine wpAnyH_take (i := 12) (oi := { dst := some 46, op := Op.move (Operand.tmp 45), type := 4, pos := "fold.go:210", after := #[{ on := 11, ground := Ground.data }, { on := 3, ground := Ground.chain }], guard := none }) (v := .bool false) rfl (by kernel_rfl) (by kernel_rfl) (by kernel_rfl) (fun _ _ _ h => h) (Or.inl ⟨by rfl, fun w hSw => ?_⟩) (by assumption) ?_
              · (try dsimp only at hSw)
                go_simp
              try simp only [Act.put, List.setIfInBounds_toArray, List.set_cons_zero, List.set_cons_succ]
              refine wpAnyH_take (i := 13) (oi := { dst := some 47, op := Op.fieldAddr 61 (Operand.tmp 5) 3, type := 0, pos := "fold.go:210", after := #[{ on := 12, ground := Ground.guard }], guard := some (12, true) }) (v := undef) rfl (by kernel_rfl) (by kernel_rfl) (by kernel_rfl) (fun _ _ _ h => h) (Or.inr ⟨by rfl, rfl⟩) (by assumption) ?_
              try simp only [Act.put, List.setIfInBounds_toArray, List.set_cons_zero, List.set_cons_succ]
              refine wpAnyH_take (i := 14) (oi := { dst := some 48, op := Op.load 30 (Operand.tmp 47), type := 30, pos := "fold.go:210", after := #[{ on := 13, ground := Ground.data }, { on := 12, ground := Ground.guard }], guard := some (12, true) }) (v := undef) rfl (by kernel_rfl) (by kernel_rfl) (by kernel_rfl) (fun _ _ _ h => h) (Or.inr ⟨by rfl, rfl⟩) (by assumption) ?_
              try simp only [Act.put, List.setIfInBounds_toArray, List.set_cons_zero, List.set_cons_succ]
              refine wpAnyH_take (i := 15) (oi := { dst := some 49, op := Op.call { callee := Callee.value (Operand.func 64), args := #[Operand.tmp 48], argTypes := #[30] }, type := 4, pos := "fold.go:210", after := #[{ on := 14, ground := Ground.data }, { on := 12, ground := Ground.chain }, { on := 12, ground := Ground.guard }], guard := some (12, true) }) (v := undef) rfl (by kernel_rfl) (by kernel_rfl) (by kernel_rfl) (fun _ _ _ h => h) (Or.inr ⟨by rfl, rfl⟩) (by assumption) ?_
              try simp only [Act.put, List.setIfInBounds_toArray, List.set_cons_zero, List.set_cons_succ]
              refine wpAnyH_take (i := 16) (oi := { dst := some 50, op := Op.pick (Operand.tmp 46) (Operand.tmp 49) (Operand.const (Value.bool false)), type := 4, pos := "fold.go:210", after := #[{ on := 12, ground := Ground.data }, { on := 15, ground := Ground.data }], guard := none }) (v := .bool false) rfl (by kernel_rfl) (by kernel_rfl) (by kernel_rfl) (fun _ _ _ h => h) (Or.inl ⟨by rfl, fun w hSw => ?_⟩) (by assumption) ?_
              · (try dsimp only at hSw)
                go_simp
              try simp only [Act.put, List.setIfInBounds_toArray, List.set_cons_zero, List.set_cons_succ]
              refine wpAnyH_ready (rs := [17]) (by kernel_rfl) (by simp) ?_
              refine AllReadyH.cons (o := { dst := some 6, op := Op.assign (Operand.tmp 50), type := 4, pos := "fold.go:210", after := #[{ on := 16, ground := Ground.data }, { on := 15, ground := Ground.chain }, { on := 0, ground := Ground.phase }, { on := 1, ground := Ground.phase }, { on := 2, ground := Ground.phase }, { on := 3, ground := Ground.phase }, { on := 4, ground := Ground.phase }, { on := 5, ground := Ground.phase }, { on := 6, ground := Ground.phase }, { on := 7, ground := Ground.phase }, { on := 8, ground := Ground.phase }, { on := 9, ground := Ground.phase }, { on := 10, ground := Ground.phase }, { on := 11, ground := Ground.phase }, { on := 12, ground := Ground.phase }, { on := 13, ground := Ground.phase }, { on := 14, ground := Ground.phase }, { on := 15, ground := Ground.phase }, { on := 16, ground := Ground.phase }], guard := none }) rfl (fun K hK => ?_) (AllReadyH.nil)
              go_simp
              refine hK.out _ _ ?_ (fun hHeld => ?_)
              · exact ⟨q1, q3, q0⟩
              clear hK K
              try simp only [Act.put, List.setIfInBounds_toArray, List.set_cons_zero, List.set_cons_succ]
              refine wpAnyH_done (by kernel_rfl) ?_ _
              refine NoPanic.normal ?_
              go_wp2
              go_ret
              exact ⟨rfl, hb⟩
          · rw [show (true && true && true && (decide (1 ≤ pl) && decide (pl ≤ p) && mayE e)) = false by rw [decide_eq_false h1]; simp]
            have hd1 := decide_eq_false h1
            go_enter Try.func43, Try.ntmps43
            go_wp2_with fail
            obtain ⟨cv, k2, hcv, hby, hbk, hz2⟩ := HCV.out (w.alloc (.cells #[.int .i64 s, .int .i64 pl, .string t, .int .i64 e] 61))
            rw [hcv]
            clear hcv
            have hsz : (w.alloc (.cells #[.int .i64 s, .int .i64 pl, .string t, .int .i64 e] 61)).heap.size = w.heap.size + 1 := by simp
            rw [hsz] at hby hbk hz2
            go_wp2_with fail
            have hrl : Rb k2 w.heap.size 61 [.int .i64 s, .int .i64 pl, .string t, .int .i64 e] := (hbk.block w.heap.size (by omega)).trans (Rb.new w _ _)
            have hb2 : Below w.heap.size w k2 := (below_one w _).trans (hbk.mono (by omega))
            refine (HD.out k2 _ _ _ _ hby (Nat.le_refl _)).mono ?_
            rintro e1 k3 ⟨A2, c2, rfl, _, hb3⟩
            replace hrl := hrl.below hb3
            replace hb3 := hb2.trans (hb3.mono hb2.size)
            have l0 := hrl.cell (j := 0) rfl
            have l1 := hrl.cell (j := 1) rfl
            have l3 := hrl.cell (j := 3) rfl
            have hll := hrl.lt
            replace c0 : k3.cell? ⟨G, 0, none⟩ = some (.int .i64 p) := (hb3.cell (p := ⟨G, 0, none⟩) (by simp; omega)).trans c0
            have hGl : G < k3.heap.size := Nat.lt_of_lt_of_le hlt hb3.size
            clear hb2 hbk hby hrl hz2 hsz hb
            go_wp2_with fail
            refine wp_world (fun W => W.cell? ⟨w.heap.size, 1, none⟩ = some (.int .i64 pl) ∧ W.cell? ⟨w.heap.size, 3, none⟩ = some (.int .i64 e) ∧ W.cell? ⟨G, 0, none⟩ = some (.int .i64 p) ∧ Below w.heap.size w W ∧ w.heap.size < W.heap.size ∧ G < W.heap.size) ⟨by go_simp, by go_simp, by go_simp, BW9 hb3, by simp; omega, by simp; omega⟩ ?_
            clear l0 l1 l3 c0 hll hGl hb3
            rintro k4 ⟨q1, q3, q0, hb, hl4, hg4⟩
            replace q1 : k4.drew.cell? ⟨w.heap.size, 1, none⟩ = some (.int .i64 pl) := q1
            replace q3 : k4.drew.cell? ⟨w.heap.size, 3, none⟩ = some (.int .i64 e) := q3
            replace q0 : k4.drew.cell? ⟨G, 0, none⟩ = some (.int .i64 p) := q0
            refine wp_region_noPanic ?_
            refine wp_region_held_drew (S := fun W => W.cell? ⟨w.heap.size, 1, none⟩ = some (.int .i64 pl) ∧ W.cell? ⟨w.heap.size, 3, none⟩ = some (.int .i64 e) ∧ W.cell? ⟨G, 0, none⟩ = some (.int .i64 p)) (by kernel_rfl) ?_ (fun hHeld => ?_)
            · exact ⟨q1, q3, q0⟩
            replace hb : Below w.heap.size w k4.drew := hb.drew
            replace hl4 : w.heap.size < k4.drew.heap.size := hl4
            replace hg4 : G < k4.drew.heap.size := hg4
            have hzd : k4.heap.size ≤ k4.drew.heap.size := Nat.le_refl _
            generalize k4.drew = k5 at *
            refine wpAnyH_take (i := 0) (oi := { dst := some 34, op := Op.fieldAddr 61 (Operand.tmp 5) 1, type := 0, pos := "fold.go:210", after := #[], guard := none }) (v := .pointer (some ⟨w.heap.size, 1, none⟩)) rfl (by kernel_rfl) (by kernel_rfl) (by kernel_rfl) (fun _ _ _ h => h) (Or.inl ⟨by rfl, fun w hSw => ?_⟩) (by assumption) ?_
            · (try dsimp only at hSw)
              go_simp
            try simp only [Act.put, List.setIfInBounds_toArray, List.set_cons_zero, List.set_cons_succ]
            refine wpAnyH_take (i := 1) (oi := { dst := some 35, op := Op.load 2 (Operand.tmp 34), type := 2, pos := "fold.go:210", after := #[{ on := 0, ground := Ground.data }], guard := none }) (v := .int .i64 pl) rfl (by kernel_rfl) (by kernel_rfl) (by kernel_rfl) (fun _ _ _ h => h) (Or.inl ⟨by rfl, fun w hSw => ?_⟩) (by assumption) ?_
            · (try dsimp only at hSw)
              go_simp
            try simp only [Act.put, List.setIfInBounds_toArray, List.set_cons_zero, List.set_cons_succ]
            refine wpAnyH_take (i := 2) (oi := { dst := some 36, op := Op.binOp BinOp.geq 2 (Operand.tmp 35) (Operand.const (Value.int IntKind.i64 1)) 2, type := 4, pos := "fold.go:210", after := #[{ on := 1, ground := Ground.data }], guard := none }) (v := .bool false) rfl (by kernel_rfl) (by kernel_rfl) (by kernel_rfl) (fun _ _ _ h => h) (Or.inl ⟨by rfl, fun w hSw => ?_⟩) (by assumption) ?_
            · (try dsimp only at hSw)
              go_simp
            try simp only [Act.put, List.setIfInBounds_toArray, List.set_cons_zero, List.set_cons_succ]
            refine wpAnyH_take (i := 3) (oi := { dst := some 37, op := Op.move (Operand.tmp 36), type := 4, pos := "fold.go:210", after := #[{ on := 2, ground := Ground.data }], guard := none }) (v := .bool false) rfl (by kernel_rfl) (by kernel_rfl) (by kernel_rfl) (fun _ _ _ h => h) (Or.inl ⟨by rfl, fun w hSw => ?_⟩) (by assumption) ?_
            · (try dsimp only at hSw)
              go_simp
            try simp only [Act.put, List.setIfInBounds_toArray, List.set_cons_zero, List.set_cons_succ]
            refine wpAnyH_take (i := 4) (oi := { dst := some 38, op := Op.fieldAddr 61 (Operand.tmp 5) 1, type := 0, pos := "fold.go:210", after := #[{ on := 3, ground := Ground.guard }], guard := some (3, true) }) (v := undef) rfl (by kernel_rfl) (by kernel_rfl) (by kernel_rfl) (fun _ _ _ h => h) (Or.inr ⟨by rfl, rfl⟩) (by assumption) ?_
            try simp only [Act.put, List.setIfInBounds_toArray, List.set_cons_zero, List.set_cons_succ]
            refine wpAnyH_take (i := 5) (oi := { dst := some 39, op := Op.load 2 (Operand.tmp 38), type := 2, pos := "fold.go:210", after := #[{ on := 4, ground := Ground.data }, { on := 3, ground := Ground.guard }], guard := some (3, true) }) (v := undef) rfl (by kernel_rfl) (by kernel_rfl) (by kernel_rfl) (fun _ _ _ h => h) (Or.inr ⟨by rfl, rfl⟩) (by assumption) ?_
            try simp only [Act.put, List.setIfInBounds_toArray, List.set_cons_zero, List.set_cons_succ]
            refine wpAnyH_take (i := 6) (oi := { dst := some 40, op := Op.move (Operand.tmp 0), type := 26, pos := "fold.go:210", after := #[{ on := 3, ground := Ground.guard }], guard := some (3, true) }) (v := undef) rfl (by kernel_rfl) (by kernel_rfl) (by kernel_rfl) (fun _ _ _ h => h) (Or.inr ⟨by rfl, rfl⟩) (by assumption) ?_
            try simp only [Act.put, List.setIfInBounds_toArray, List.set_cons_zero, List.set_cons_succ]
            refine wpAnyH_take (i := 7) (oi := { dst := some 41, op := Op.nilCheck (Operand.tmp 40), type := 0, pos := "fold.go:210", after := #[{ on := 6, ground := Ground.data }, { on := 3, ground := Ground.guard }], guard := some (3, true) }) (v := undef) rfl (by kernel_rfl) (by kernel_rfl) (by kernel_rfl) (fun _ _ _ h => h) (Or.inr ⟨by rfl, rfl⟩) (by assumption) ?_
            try simp only [Act.put, List.setIfInBounds_toArray, List.set_cons_zero, List.set_cons_succ]
            refine wpAnyH_take (i := 8) (oi := { dst := some 42, op := Op.fieldAddr 64 (Operand.tmp 41) 0, type := 0, pos := "fold.go:210", after := #[{ on := 7, ground := Ground.data }, { on := 3, ground := Ground.guard }], guard := some (3, true) }) (v := undef) rfl (by kernel_rfl) (by kernel_rfl) (by kernel_rfl) (fun _ _ _ h => h) (Or.inr ⟨by rfl, rfl⟩) (by assumption) ?_
            try simp only [Act.put, List.setIfInBounds_toArray, List.set_cons_zero, List.set_cons_succ]
            refine wpAnyH_take (i := 9) (oi := { dst := some 43, op := Op.load 2 (Operand.tmp 42), type := 2, pos := "fold.go:210", after := #[{ on := 8, ground := Ground.data }, { on := 3, ground := Ground.guard }], guard := some (3, true) }) (v := undef) rfl (by kernel_rfl) (by kernel_rfl) (by kernel_rfl) (fun _ _ _ h => h) (Or.inr ⟨by rfl, rfl⟩) (by assumption) ?_
            try simp only [Act.put, List.setIfInBounds_toArray, List.set_cons_zero, List.set_cons_succ]
            refine wpAnyH_take (i := 10) (oi := { dst := some 44, op := Op.binOp BinOp.leq 2 (Operand.tmp 39) (Operand.tmp 43) 2, type := 4, pos := "fold.go:210", after := #[{ on := 5, ground := Ground.data }, { on := 9, ground := Ground.data }, { on := 3, ground := Ground.guard }], guard := some (3, true) }) (v := undef) rfl (by kernel_rfl) (by kernel_rfl) (by kernel_rfl) (fun _ _ _ h => h) (Or.inr ⟨by rfl, rfl⟩) (by assumption) ?_
            try simp only [Act.put, List.setIfInBounds_toArray, List.set_cons_zero, List.set_cons_succ]
            refine wpAnyH_take (i := 11) (oi := { dst := some 45, op := Op.pick (Operand.tmp 37) (Operand.tmp 44) (Operand.const (Value.bool false)), type := 4, pos := "fold.go:210", after := #[{ on := 3, ground := Ground.data }, { on := 10, ground := Ground.data }], guard := none }) (v := .bool false) rfl (by kernel_rfl) (by kernel_rfl) (by kernel_rfl) (fun _ _ _ h => h) (Or.inl ⟨by rfl, fun w hSw => ?_⟩) (by assumption) ?_
            · (try dsimp only at hSw)
              go_simp
            try simp only [Act.put, List.setIfInBounds_toArray, List.set_cons_zero, List.set_cons_succ]
            refine wpAnyH_take (i := 12) (oi := { dst := some 46, op := Op.move (Operand.tmp 45), type := 4, pos := "fold.go:210", after := #[{ on := 11, ground := Ground.data }, { on := 3, ground := Ground.chain }], guard := none }) (v := .bool false) rfl (by kernel_rfl) (by kernel_rfl) (by kernel_rfl) (fun _ _ _ h => h) (Or.inl ⟨by rfl, fun w hSw => ?_⟩) (by assumption) ?_
            · (try dsimp only at hSw)
              go_simp
            try simp only [Act.put, List.setIfInBounds_toArray, List.set_cons_zero, List.set_cons_succ]
            refine wpAnyH_take (i := 13) (oi := { dst := some 47, op := Op.fieldAddr 61 (Operand.tmp 5) 3, type := 0, pos := "fold.go:210", after := #[{ on := 12, ground := Ground.guard }], guard := some (12, true) }) (v := undef) rfl (by kernel_rfl) (by kernel_rfl) (by kernel_rfl) (fun _ _ _ h => h) (Or.inr ⟨by rfl, rfl⟩) (by assumption) ?_
            try simp only [Act.put, List.setIfInBounds_toArray, List.set_cons_zero, List.set_cons_succ]
            refine wpAnyH_take (i := 14) (oi := { dst := some 48, op := Op.load 30 (Operand.tmp 47), type := 30, pos := "fold.go:210", after := #[{ on := 13, ground := Ground.data }, { on := 12, ground := Ground.guard }], guard := some (12, true) }) (v := undef) rfl (by kernel_rfl) (by kernel_rfl) (by kernel_rfl) (fun _ _ _ h => h) (Or.inr ⟨by rfl, rfl⟩) (by assumption) ?_
            try simp only [Act.put, List.setIfInBounds_toArray, List.set_cons_zero, List.set_cons_succ]
            refine wpAnyH_take (i := 15) (oi := { dst := some 49, op := Op.call { callee := Callee.value (Operand.func 64), args := #[Operand.tmp 48], argTypes := #[30] }, type := 4, pos := "fold.go:210", after := #[{ on := 14, ground := Ground.data }, { on := 12, ground := Ground.chain }, { on := 12, ground := Ground.guard }], guard := some (12, true) }) (v := undef) rfl (by kernel_rfl) (by kernel_rfl) (by kernel_rfl) (fun _ _ _ h => h) (Or.inr ⟨by rfl, rfl⟩) (by assumption) ?_
            try simp only [Act.put, List.setIfInBounds_toArray, List.set_cons_zero, List.set_cons_succ]
            refine wpAnyH_take (i := 16) (oi := { dst := some 50, op := Op.pick (Operand.tmp 46) (Operand.tmp 49) (Operand.const (Value.bool false)), type := 4, pos := "fold.go:210", after := #[{ on := 12, ground := Ground.data }, { on := 15, ground := Ground.data }], guard := none }) (v := .bool false) rfl (by kernel_rfl) (by kernel_rfl) (by kernel_rfl) (fun _ _ _ h => h) (Or.inl ⟨by rfl, fun w hSw => ?_⟩) (by assumption) ?_
            · (try dsimp only at hSw)
              go_simp
            try simp only [Act.put, List.setIfInBounds_toArray, List.set_cons_zero, List.set_cons_succ]
            refine wpAnyH_ready (rs := [17]) (by kernel_rfl) (by simp) ?_
            refine AllReadyH.cons (o := { dst := some 6, op := Op.assign (Operand.tmp 50), type := 4, pos := "fold.go:210", after := #[{ on := 16, ground := Ground.data }, { on := 15, ground := Ground.chain }, { on := 0, ground := Ground.phase }, { on := 1, ground := Ground.phase }, { on := 2, ground := Ground.phase }, { on := 3, ground := Ground.phase }, { on := 4, ground := Ground.phase }, { on := 5, ground := Ground.phase }, { on := 6, ground := Ground.phase }, { on := 7, ground := Ground.phase }, { on := 8, ground := Ground.phase }, { on := 9, ground := Ground.phase }, { on := 10, ground := Ground.phase }, { on := 11, ground := Ground.phase }, { on := 12, ground := Ground.phase }, { on := 13, ground := Ground.phase }, { on := 14, ground := Ground.phase }, { on := 15, ground := Ground.phase }, { on := 16, ground := Ground.phase }], guard := none }) rfl (fun K hK => ?_) (AllReadyH.nil)
            go_simp
            refine hK.out _ _ ?_ (fun hHeld => ?_)
            · exact ⟨q1, q3, q0⟩
            clear hK K
            try simp only [Act.put, List.setIfInBounds_toArray, List.set_cons_zero, List.set_cons_succ]
            refine wpAnyH_done (by kernel_rfl) ?_ _
            refine NoPanic.normal ?_
            go_wp2
            go_ret
            exact ⟨rfl, hb⟩
        · have hq1 : (dq != s) = true := by simp [hq]
          have hq2 : (dq == s) = false := by simp [hq]
          rw [hq2, show (true && true && false && (decide (1 ≤ pl) && decide (pl ≤ p) && mayE e)) = false from rfl]
          clear hq hq2
          go_enter Try.func43, Try.ntmps43
          go_wp2_with fail
          obtain ⟨cv, k2, hcv, hby, hbk, hz2⟩ := HCV.out (w.alloc (.cells #[.int .i64 s, .int .i64 pl, .string t, .int .i64 e] 61))
          rw [hcv]
          clear hcv
          have hsz : (w.alloc (.cells #[.int .i64 s, .int .i64 pl, .string t, .int .i64 e] 61)).heap.size = w.heap.size + 1 := by simp
          rw [hsz] at hby hbk hz2
          go_wp2_with fail
          have hrl : Rb k2 w.heap.size 61 [.int .i64 s, .int .i64 pl, .string t, .int .i64 e] := (hbk.block w.heap.size (by omega)).trans (Rb.new w _ _)
          have hb2 : Below w.heap.size w k2 := (below_one w _).trans (hbk.mono (by omega))
          refine (HD.out k2 _ _ _ _ hby (Nat.le_refl _)).mono ?_
          rintro e1 k3 ⟨A2, c2, rfl, _, hb3⟩
          replace hrl := hrl.below hb3
          replace hb3 := hb2.trans (hb3.mono hb2.size)
          have l0 := hrl.cell (j := 0) rfl
          have l1 := hrl.cell (j := 1) rfl
          have l3 := hrl.cell (j := 3) rfl
          have hll := hrl.lt
          replace c0 : k3.cell? ⟨G, 0, none⟩ = some (.int .i64 p) := (hb3.cell (p := ⟨G, 0, none⟩) (by simp; omega)).trans c0
          have hGl : G < k3.heap.size := Nat.lt_of_lt_of_le hlt hb3.size
          clear hb2 hbk hby hrl hz2 hsz hb
          go_wp2
          go_ret
          exact ⟨rfl, BW9 hb3⟩
      · have hc1 : (dc != (c : Int)) = true := by simp [hc]
        have hc2 : (dc == (c : Int)) = false := by simp [hc]
        rw [hc2, show (true && false && dq == s && (decide (1 ≤ pl) && decide (pl ≤ p) && mayE e)) = false from rfl]
        clear hc hc2
        go_enter Try.func43, Try.ntmps43
        go_wp2_with fail
        obtain ⟨cv, k2, hcv, hby, hbk, hz2⟩ := HCV.out (w.alloc (.cells #[.int .i64 s, .int .i64 pl, .string t, .int .i64 e] 61))
        rw [hcv]
        clear hcv
        have hsz : (w.alloc (.cells #[.int .i64 s, .int .i64 pl, .string t, .int .i64 e] 61)).heap.size = w.heap.size + 1 := by simp
        rw [hsz] at hby hbk hz2
        go_wp2_with fail
        have hrl : Rb k2 w.heap.size 61 [.int .i64 s, .int .i64 pl, .string t, .int .i64 e] := (hbk.block w.heap.size (by omega)).trans (Rb.new w _ _)
        have hb2 : Below w.heap.size w k2 := (below_one w _).trans (hbk.mono (by omega))
        refine (HD.out k2 _ _ _ _ hby (Nat.le_refl _)).mono ?_
        rintro e1 k3 ⟨A2, c2, rfl, _, hb3⟩
        replace hrl := hrl.below hb3
        replace hb3 := hb2.trans (hb3.mono hb2.size)
        have l0 := hrl.cell (j := 0) rfl
        have l1 := hrl.cell (j := 1) rfl
        have l3 := hrl.cell (j := 3) rfl
        have hll := hrl.lt
        replace c0 : k3.cell? ⟨G, 0, none⟩ = some (.int .i64 p) := (hb3.cell (p := ⟨G, 0, none⟩) (by simp; omega)).trans c0
        have hGl : G < k3.heap.size := Nat.lt_of_lt_of_le hlt hb3.size
        clear hb2 hbk hby hrl hz2 hsz hb
        go_wp2
        go_ret
        exact ⟨rfl, BW9 hb3⟩
end Go.Proofs.Ytegkhkcnoahhdaa
/-
  Package fold's placesDiffer and may answer as the plain functions say.
  The lasts' integers are in their ranges, their texts at most 1,000,000 bytes.
-/
namespace Go.Proofs.Ytegkhkcnoahhdaa
open Go.RowKit
set_option maxRecDepth 100000

theorem idx20 {las : Nat → La} {cl : List Value} (hcl : laV (las 0) ++ (laV (las 1) ++ (laV (las 2) ++ (laV (las 3) ++ laV (las 4)))) = cl) (k : Nat) (s p : Int) (t : ByteArray) (r : Int) (W : World) (hk : k < 5) (h : las k = ⟨s, p, t, r⟩) :
    (Instr.index 62 (.agg cl.toArray) (.int .i64 k)).run Try.prog W = .ok (.agg #[.int .i64 s, .int .i64 p, .string t, .int .i64 r]) W := by
  obtain ⟨l1, hl1⟩ : ∃ l, las 0 = l := ⟨_, rfl⟩
  obtain ⟨l2, hl2⟩ : ∃ l, las 1 = l := ⟨_, rfl⟩
  obtain ⟨l3, hl3⟩ : ∃ l, las 2 = l := ⟨_, rfl⟩
  obtain ⟨l4, hl4⟩ : ∃ l, las 3 = l := ⟨_, rfl⟩
  obtain ⟨l5, hl5⟩ : ∃ l, las 4 = l := ⟨_, rfl⟩
  rw [← hcl, hl1, hl2, hl3, hl4, hl5]
  obtain rfl | rfl | rfl | rfl | rfl : k = 0 ∨ k = 1 ∨ k = 2 ∨ k = 3 ∨ k = 4 := by omega
  · rw [hl1] at h; subst h; kernel_rfl
  · rw [hl2] at h; subst h; kernel_rfl
  · rw [hl3] at h; subst h; kernel_rfl
  · rw [hl4] at h; subst h; kernel_rfl
  · rw [hl5] at h; subst h; kernel_rfl
set_option maxHeartbeats 1000000 in
theorem fdiff_any (G : Nat) (p : Int) (dv : Value) (las : Nat → La) (w : World) (h : Fr w G p dv las) :
    Calls Try.prog 44 #[.pointer (some ⟨G, 0, none⟩)] w (Bl (difL las) w) := by
  have hlt := h.lt
  have hrg := h.all
  obtain ⟨cl, hcl⟩ : ∃ cl, laV (las 0) ++ (laV (las 1) ++ (laV (las 2) ++ (laV (las 3) ++ laV (las 4)))) = cl := ⟨_, rfl⟩
  rw [hcl] at hrg
  have hcll : cl.length = 20 := by rw [← hcl]; rfl
  have hil : (Try.prog.info? 62).map (·.size) = some cl.length := by rw [hcll]; exact Try.infoLast5
  have HIDX := Lib.hid (idx20 hcl)
  have HFR := Lib.hid h; clear h hcl
  have hb := Below.refl w.heap.size w
  go_enter Try.func44, Try.ntmps44
  go_wp2_with (refine wpList_load_mid rfl 62 _ rfl G 2 rfl cl _ hrg Try.underlying62 rfl hil ?_)
  go_loopw [11] (fun i wr => ∃ k : Nat, i = .int .i64 k ∧ k ≤ 5 ∧ difL las = ((List.range 5).drop k).all (difA las) ∧ Below w.heap.size w wr) (fun i _ => 5 - (intOf i).toNat)
  case atStart => exact ⟨0, rfl, by omega, rfl, hb⟩
  case round =>
    obtain ⟨k, rfl, hk, hall, hbw⟩ := hrel
    clear hrg hb
    generalize wr = wo at *
    by_cases hk5 : k < 5
    · obtain ⟨⟨s, p1, t, r⟩, hla⟩ : ∃ l, las k = l := ⟨_, rfl⟩
      have hix := fun W => HIDX.out k s p1 t r W hk5 hla
      have hstep : difL las = (difA las k && ((List.range 5).drop (k + 1)).all (difA las)) := by
        rw [hall, List.drop_eq_getElem_cons (by simpa using hk5)]
        simp
      have hA : difA las k = (List.range k).all fun j => !(decide (s > 0) && p1 == (las j).place) := by
        unfold difA; rw [hla]
      have HST := Lib.hid hstep
      have HA := Lib.hid hA
      have HLA := Lib.hid hla
      clear hall hstep hA hla
      have hfr := HFR.out.below hbw
      have hGl := hfr.lt
      have hk51 : ¬ (5 : Int) < (k : Int) := by omega
      go_wp2_with fail
      refine wp_world (fun W => Rb W wo.heap.size 61 [.int .i64 s, .int .i64 p1, .string t, .int .i64 r] ∧ Below w.heap.size w W ∧ Below wo.heap.size wo W) ⟨Rb.new _ _ _, hbw.alloc hbw.size _, below_one _ _⟩ ?_
      rintro W1 ⟨ha, hb1, hbr1⟩
      have hal := ha.lt
      have hwr := hbw.size
      clear hbw hix
      go_loopw [21] (fun j w2 => ∃ m : Nat, j = .int .i64 m ∧ m ≤ k ∧ difA las k = ((List.range k).drop m).all (fun j => !(decide (s > 0) && p1 == (las j).place)) ∧ Below W1.heap.size W1 w2) (fun j _ => k - (intOf j).toNat)
      case atStart => exact ⟨0, rfl, by omega, HA.out, Below.refl _ _⟩
      case round =>
        obtain ⟨m, rfl, hm, hin, hb2⟩ := hrel
        have hbw2 : Below w.heap.size w wr := hb1.trans (hb2.mono (by have := hb1.size; omega))
        have hfr2 := HFR.out.below hbw2
        have ha2 := ha.below hb2
        have a0 := ha2.cell (j := 0) rfl
        have a1 := ha2.cell (j := 1) rfl
        have hal2 := ha2.lt
        have hGl2 := hfr2.lt
        by_cases hmk : m < k
        · obtain ⟨⟨s2, p2, t2, r2⟩, hlb⟩ : ∃ l, las m = l := ⟨_, rfl⟩
          have b0 : wr.cell? ⟨G, 2 + m * 4, none⟩ = some (.int .i64 s2) := hfr2.at_ m 0 _ (by omega) (by rw [hlb]; rfl)
          have b1 : wr.cell? ⟨G, 2 + m * 4 + 1, none⟩ = some (.int .i64 p2) := hfr2.at_ m 1 _ (by omega) (by rw [hlb]; rfl)
          have b2 : wr.cell? ⟨G, 2 + m * 4 + 2, none⟩ = some (.string t2) := hfr2.at_ m 2 _ (by omega) (by rw [hlb]; rfl)
          have b3 : wr.cell? ⟨G, 2 + m * 4 + 3, none⟩ = some (.int .i64 r2) := hfr2.at_ m 3 _ (by omega) (by rw [hlb]; rfl)
          have hstep : difA las k = (!(decide (s > 0) && p1 == p2) && ((List.range k).drop (m + 1)).all (fun j => !(decide (s > 0) && p1 == (las j).place))) := by
            rw [hin, List.drop_eq_getElem_cons (by simpa using hmk)]
            simp [hlb]
          have HST2 := Lib.hid hstep
          clear hin hstep hlb hfr2
          by_cases hs : s > 0
          · by_cases hp : p1 = p2
            · have hres : difL las = false := by rw [HST.out, HST2.out, decide_eq_true hs, hp]; simp
              have HRES := Lib.hid hres
              have hpb : (p1 == p2) = true := by rw [hp]; simp
              clear hres hp
              go_wp2
              go_ret
              exact ⟨by rw [HRES.out]; rfl, BW9 hbw2⟩
            · have hnx : difA las k = ((List.range k).drop (m + 1)).all (fun j => !(decide (s > 0) && p1 == (las j).place)) := by rw [HST2.out, beq_eq_false_iff_ne.2 hp]; simp
              have HNX := Lib.hid hnx
              have hpb : (p1 == p2) = false := by rw [beq_eq_false_iff_ne]; exact hp
              clear hnx hp
              go_wp2
              go_roundw
              case rel => exact ⟨m + 1, by go_num, by omega, HNX.out, hb2.alloc hb2.size _⟩
              case measure => simp [intOf]; omega
          · have hnx : difA las k = ((List.range k).drop (m + 1)).all (fun j => !(decide (s > 0) && p1 == (las j).place)) := by rw [HST2.out, decide_eq_false hs]; simp
            have HNX := Lib.hid hnx
            clear hnx
            go_wp2
            go_roundw
            case rel => exact ⟨m + 1, by go_num, by omega, HNX.out, hb2.alloc hb2.size _⟩
            case measure => simp [intOf]; omega
        · have hnx : difL las = ((List.range 5).drop (k + 1)).all (difA las) := by
            rw [HST.out, hin, List.drop_eq_nil_of_le (by simp; omega)]; simp
          have HNX := Lib.hid hnx
          clear hnx hin
          go_wp2
          go_roundw
          case rel => exact ⟨k + 1, by go_num, by omega, HNX.out, hbw2⟩
          case measure => simp [intOf]; omega
    · have hres : difL las = true := by rw [hall, List.drop_eq_nil_of_le (by simp; omega)]; rfl
      have HRES := Lib.hid hres
      clear hres hall
      go_wp2
      go_ret
      exact ⟨by rw [HRES.out]; rfl, hbw⟩
set_option maxHeartbeats 1000000 in
theorem fmay_any (G : Nat) (p : Int) (dv : Value) (las : Nat → La) (w : World) (h : Fr w G p dv las) (hok : ∀ i, (las i).ok) :
    Calls Try.prog 25 #[.pointer (some ⟨G, 0, none⟩)] w (Bl (mayF p las) w) := by
  have hlt := h.lt
  have hrg := h.all
  obtain ⟨cl, hcl⟩ : ∃ cl, laV (las 0) ++ (laV (las 1) ++ (laV (las 2) ++ (laV (las 3) ++ laV (las 4)))) = cl := ⟨_, rfl⟩
  rw [hcl] at hrg
  have hcll : cl.length = 20 := by rw [← hcl]; rfl
  have hil : (Try.prog.info? 62).map (·.size) = some cl.length := by rw [hcll]; exact Try.infoLast5
  have HIDX := Lib.hid (idx20 hcl)
  have HFR := Lib.hid h; clear h hcl
  have HOK := Lib.hid hok; clear hok
  have hb := Below.refl w.heap.size w
  go_enter Try.func25, Try.ntmps25
  go_wp2_with (refine wpList_load_mid rfl 62 _ rfl G 2 rfl cl _ hrg Try.underlying62 rfl hil ?_)
  go_loopw [9] (fun i wr => ∃ k : Nat, i = .int .i64 k ∧ k ≤ 5 ∧ ((List.range 5).all fun i => mayL p (i + 1) (las i)) = ((List.range 5).drop k).all (fun i => mayL p (i + 1) (las i)) ∧ Below w.heap.size w wr) (fun i _ => 5 - (intOf i).toNat)
  case atStart => exact ⟨0, rfl, by omega, rfl, hb⟩
  case round =>
    obtain ⟨k, rfl, hk, hall, hbw⟩ := hrel
    clear hrg hb
    have hfr := HFR.out.below hbw
    have hGl := hfr.lt
    have c0 : wr.cell? ⟨G, 0, none⟩ = some (.int .i64 p) := Rb.cell hfr rfl
    by_cases hk5 : k < 5
    · obtain ⟨⟨s, p1, t, r⟩, hla⟩ : ∃ l, las k = l := ⟨_, rfl⟩
      have hix := fun W => HIDX.out k s p1 t r W hk5 hla
      have hlok := HOK.out k
      rw [hla] at hlok
      obtain ⟨y, hy⟩ : ∃ y, mayL p (k + 1) ⟨s, p1, t, r⟩ = y := ⟨_, rfl⟩
      have hML := fun W (hW : Below wr.heap.size wr W) => fmayLast_any G (k + 1) p dv las ⟨s, p1, t, r⟩ W (hfr.below hW) hlok
      rw [hy] at hML
      simp only [Int.natCast_add, Int.cast_ofNat_Int] at hML
      have hstep : ((List.range 5).all fun i => mayL p (i + 1) (las i)) = (y && ((List.range 5).drop (k + 1)).all (fun i => mayL p (i + 1) (las i))) := by
        rw [hall, List.drop_eq_getElem_cons (by simpa using hk5)]
        simp [hla, hy]
      have HST := Lib.hid hstep
      have HML := Lib.hid hML
      clear hall hstep hla hML hy hlok
      go_wp2_with fail
      refine (HML.out _ (below_one wr _)).mono ?_
      rintro e k1 ⟨rfl, h⟩
      have hb1 : Below w.heap.size w k1 := (hbw.alloc hbw.size _).trans (h.mono (by have := hbw.size; simp; omega))
      clear h hix
      cases y with
      | true =>
        have hnx : ((List.range 5).all fun i => mayL p (i + 1) (las i)) = ((List.range 5).drop (k + 1)).all (fun i => mayL p (i + 1) (las i)) := by rw [HST.out]; simp
        have HNX := Lib.hid hnx
        clear hnx
        go_wp2
        go_roundw
        case rel => exact ⟨k + 1, by go_num, by omega, HNX.out, hb1⟩
        case measure => simp [intOf]; omega
      | false =>
        have hres : mayF p las = false := by unfold mayF; rw [HST.out]; simp
        have HRES := Lib.hid hres
        clear hres
        go_wp2
        go_ret
        exact ⟨by rw [HRES.out]; rfl, hb1⟩
    · obtain rfl : k = 5 := by omega
      have hres : mayF p las = (decide (0 ≤ p) && difL las) := by
        unfold mayF; rw [hall, List.drop_eq_nil_of_le (by simp)]; rfl
      have HRES := Lib.hid hres
      clear hres hall
      obtain ⟨x, hx⟩ : ∃ x, difL las = x := ⟨_, rfl⟩
      have HDF := Lib.hid (fun W (hW : Below wr.heap.size wr W) => hx ▸ fdiff_any G p dv las W (hfr.below hW))
      have hr2 := HRES.out
      rw [hx] at hr2
      clear hfr hx HRES
      by_cases hp : 0 ≤ p
      · rw [decide_eq_true hp, Bool.true_and] at hr2
        have HR2 := Lib.hid hr2
        clear hr2
        go_wp2_with fail
        refine (HDF.out _ (Below.refl _ _)).mono ?_
        rintro e k1 ⟨rfl, h⟩
        have hb1 := hbw.trans (h.mono hbw.size)
        clear h
        go_wp2
        go_ret
        exact ⟨by rw [HR2.out]; rfl, hb1⟩
      · rw [decide_eq_false hp, Bool.false_and] at hr2
        have HR2 := Lib.hid hr2
        clear hr2
        go_wp2
        go_ret
        exact ⟨by rw [HR2.out]; rfl, hbw⟩
end Go.Proofs.Ytegkhkcnoahhdaa
/-
  Package fold's Decode: tells the fold whose bytes they are, or ErrForm, as the plain function says.
  The bytes are there in memory, at most 1,000,000.
-/
namespace Go.Proofs.Ytegkhkcnoahhdaa
open Go.RowKit
set_option maxRecDepth 100000

theorem fcs_congr {p : Int} {dv : Value} {g g' : Nat → La} (h : ∀ c, c < 5 → g c = g' c) : fcs p dv g = fcs p dv g' := by
  unfold fcs
  rw [h 0 (by omega), h 1 (by omega), h 2 (by omega), h 3 (by omega), h 4 (by omega)]
/-- what Decode answers -/
def FDecR (B : Nat) (r : Option Fo) (w : World) (e : Ending) (w' : World) : Prop :=
  (∀ f, r = some f → ∃ g, e = .returned (.tuple #[.pointer (some ⟨g, 0, none⟩), .int .i64 0]) ∧ (Fd w' B g f ∧ w.heap.size ≤ g)) ∧ (r = none → e = .returned (.tuple #[.pointer none, .int .i64 1])) ∧ Below w.heap.size w w'
set_option maxHeartbeats 2000000 in
theorem fdecode_any (A : Option Addr) (n c B C : Nat) (l : List UInt8) (w : World) (h : Byt w C (.slice A n c) l) (hC : C ≤ w.heap.size) (hB : B ≤ w.heap.size) (hl : l.length ≤ 1000000) :
    Calls Try.prog 11 #[.slice A n c] w (FDecR B (decF l) w) := by
  obtain rfl : n = l.length := by obtain ⟨A', c', hv, _⟩ := h; injection hv
  obtain ⟨⟨p, d, ls, ⟨rest, bad⟩⟩, hrd⟩ : ∃ r, rdF l = r := ⟨_, rfl⟩
  have HRF := Lib.hid (fun W g (hf : FRd W g C (l, false)) => frfold_any g C l W hf hl p d ls (rest, bad) hrd)
  have HBY := Lib.hid h
  obtain ⟨x, hx⟩ : ∃ x, mayF p (laAt ls) = x := ⟨_, rfl⟩
  have hlok : ∀ i, (laAt ls i).ok := fun i => by
    have h1 : ls = (rdLs 5 (rdD (rdN (l, false)).2).2).1 := by unfold rdF at hrd; exact ((Prod.mk.inj (Prod.mk.inj (Prod.mk.inj hrd).2).2).1).symm
    rw [h1]
    exact rdLs_laok 5 _ (Nat.le_trans (rdD_len _) (Nat.le_trans (rdN_len _) hl)) i
  have HOK := Lib.hid hlok
  have HRD := Lib.hid hrd
  have HX := Lib.hid hx
  clear h hrd hx hlok
  obtain ⟨z, hz⟩ : ∃ z, l.length = z := ⟨_, rfl⟩
  rw [hz] at HBY ⊢
  have HZ := Lib.hid hz; clear hz
  cases bad with
  | true =>
    have hno : decF l = none := by unfold decF; rw [HRD.out]; simp only; rw [if_pos (.inl trivial)]
    rw [hno]
    clear hno
    go_enter Try.func11, Try.ntmps11
    go_wp2_with fail
    refine (HRF.out _ w.heap.size ⟨A, c, by rw [HZ.out]; exact Rb.new w _ _, by simp only; rw [HZ.out]; exact HBY.out.below (below_one w _) hC, hC⟩).mono ?_
    rintro e k1 ⟨G, dv, rfl, ⟨hG, hfr, ho, hgd, hfd⟩, hgw⟩
    have hb : Below w.heap.size w k1 := Below.grown (below_one w _) hgw (by simp) (fun k hk => by injection hk with hk; omega)
    obtain ⟨A1, c1, hq, _, _⟩ := hfd
    have q0 := hq.cell (j := 0) rfl
    have q1 := hq.cell (j := 1) rfl
    have hql := hq.lt
    clear hq hgw
    go_wp2
    go_ret2
    exact ⟨fun f h => (by cases h), fun _ => rfl, hb⟩
  | false =>
    by_cases hr : 0 < rest.length
    · have hno : decF l = none := by unfold decF; rw [HRD.out]; simp only; rw [if_pos (.inr (.inl hr))]
      rw [hno]
      clear hno
      go_enter Try.func11, Try.ntmps11
      go_wp2_with fail
      refine (HRF.out _ w.heap.size ⟨A, c, by rw [HZ.out]; exact Rb.new w _ _, by simp only; rw [HZ.out]; exact HBY.out.below (below_one w _) hC, hC⟩).mono ?_
      rintro e k1 ⟨G, dv, rfl, ⟨hG, hfr, ho, hgd, hfd⟩, hgw⟩
      have hb : Below w.heap.size w k1 := Below.grown (below_one w _) hgw (by simp) (fun k hk => by injection hk with hk; omega)
      obtain ⟨A1, c1, hq, _, _⟩ := hfd
      have q0 := hq.cell (j := 0) rfl
      have q1 := hq.cell (j := 1) rfl
      have hql := hq.lt
      clear hq hgw
      have hrl : ¬ ((rest.length : Int) ≤ 0) := by omega
      go_wp2
      go_ret2
      exact ⟨fun f h => (by cases h), fun _ => rfl, hb⟩
    · have hr0 : rest.length = 0 := by omega
      cases x with
      | false =>
        have hno : decF l = none := by unfold decF; rw [HRD.out]; simp only; rw [if_pos (.inr (.inr HX.out))]
        rw [hno]
        clear hno
        go_enter Try.func11, Try.ntmps11
        go_wp2_with fail
        refine (HRF.out _ w.heap.size ⟨A, c, by rw [HZ.out]; exact Rb.new w _ _, by simp only; rw [HZ.out]; exact HBY.out.below (below_one w _) hC, hC⟩).mono ?_
        rintro e k1 ⟨G, dv, rfl, ⟨hG, hfr, ho, hgd, hfd⟩, hgw⟩
        have hb : Below w.heap.size w k1 := Below.grown (below_one w _) hgw (by simp) (fun k hk => by injection hk with hk; omega)
        obtain ⟨A1, c1, hq, _, _⟩ := hfd
        have q0 := hq.cell (j := 0) rfl
        have q1 := hq.cell (j := 1) rfl
        have hql := hq.lt
        clear hq hgw
        simp only [hr0] at q0
        have HM := Lib.hid (fmay_any G p dv (laAt ls) k1 hfr HOK.out)
        clear hfr ho
        go_wp2_with fail
        refine HM.out.mono ?_
        rintro e k2 ⟨rfl, h⟩
        rw [HX.out]
        have hb2 := hb.trans (h.mono hb.size)
        clear h
        go_wp2
        go_ret2
        exact ⟨fun f h => (by cases h), fun _ => rfl, hb2⟩
      | true =>
        have hyes : decF l = some (foOf p d (laAt ls)) := by
          unfold decF
          rw [HRD.out]
          simp only
          rw [if_neg]
          rintro (h | h | h)
          · cases h
          · omega
          · rw [HX.out] at h; cases h
        rw [hyes]
        have HYES := Lib.hid hyes; clear hyes
        go_enter Try.func11, Try.ntmps11
        go_wp2_with fail
        refine (HRF.out _ w.heap.size ⟨A, c, by rw [HZ.out]; exact Rb.new w _ _, by simp only; rw [HZ.out]; exact HBY.out.below (below_one w _) hC, hC⟩).mono ?_
        rintro e k1 ⟨G, dv, rfl, ⟨hG, hfr, ho, hgd, hfd⟩, hgw⟩
        have hb : Below w.heap.size w k1 := Below.grown (below_one w _) hgw (by simp) (fun k hk => by injection hk with hk; omega)
        obtain ⟨A1, c1, hq, _, _⟩ := hfd
        have q0 := hq.cell (j := 0) rfl
        have q1 := hq.cell (j := 1) rfl
        have hql := hq.lt
        clear hq hgw
        have hgd2 : Gd (rdF l).2.1 := by rw [HRD.out]; exact hgd
        obtain ⟨y1, y2, y3, y4⟩ := decF_yes hl hgd2 HYES.out
        rw [HRD.out] at y4
        simp only at y4
        have hws : w.heap.size ≤ (w.alloc (.cells #[.slice A z c, .bool false] 70)).heap.size := by simp
        have hG1 : w.heap.size ≤ G := Nat.le_trans hws hG
        have hF : Fd k1 B G (foOf p d (laAt ls)) := by
          refine ⟨y1, by omega, dv, ?_, ownsRow_down ho (by omega)⟩
          unfold Fr at hfr ⊢
          rw [fcs_congr y4]
          exact hfr
        have HF := Lib.hid hF
        simp only [hr0] at q0
        have HM := Lib.hid (fmay_any G p dv (laAt ls) k1 hfr HOK.out)
        clear hfr ho hF y4 y3 y2 y1 hgd2 hws
        go_wp2_with fail
        refine HM.out.mono ?_
        rintro e k2 ⟨rfl, h⟩
        rw [HX.out]
        have hb2 := hb.trans (h.mono hb.size)
        have HF2 := Lib.hid (HF.out.below h)
        clear h
        go_wp2
        go_ret2
        exact ⟨fun f h => (by injection h with h; subst h; exact ⟨G, rfl, HF2.out, hG1⟩), fun h => (by cases h), hb2⟩
end Go.Proofs.Ytegkhkcnoahhdaa
