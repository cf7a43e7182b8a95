/-
  Contracts of the program's functions, of the reference's, and plain lemmas on what they answer (part 3 of 4).
  Each lemma names its conditions.
-/
import Derived.Test.YtoekiencnbgmhaaCun2
import Derived.RangeFuncNested
import Derived.RangeFuncBox
import Derived.RangeFuncBound
import Derived.RangeFuncCalls
import Derived.RangeFuncLeaves
import Derived.Shelf.Abstract
import Derived.Shelf.RegionOpen
import Derived.WalkKit
import Derived.OwnWalkIn
import Derived.TacticsInMore
import Derived.LoopNIn
import Derived.LoopIn
import Derived.Test.YtoekiencnbgmhaaCun1
import Derived.Laws.AppendOwnNone
import Derived.Lib.AppendZeros
import Derived.Maps.AppendAt
import Derived.Deep.MidRow
import Derived.Deep.AppendLies
import Derived.Lib.Hide
import Derived.LoopTactic
import Derived.Deep.RegionHeld3
import Derived.IntWalk
import Derived.Deep.OwnRows
import Derived.WalkSmall
import Derived.Deep.QuietTactic
import Derived.BigQuiet
/-
  The reference's log: Fits, end, Newer, Get.
  The conditions: its numbers are far from the end, its entries at most 200.
-/
set_option linter.unusedSimpArgs false
set_option linter.unusedVariables false
namespace Go.Proofs.Ytoekiencnbgmhaa
open Go.RowKit Go.Deep
set_option maxRecDepth 100000

/-- a log of the reference in memory: its value, and that its row reads so -/
structure RL (N : Nat → Prop) (w : World) (ix st : Int) (cf dt : ByteArray) (L : List Ent) (A : Option Addr) (n c : Nat) : Prop where
  ok : Lok 1000000 ⟨⟨ix, st, cf, dt⟩, L⟩
  len : L.length = n
  row : Ens N w (.slice A n c) L
section
variable {N : Nat → Prop} {w : World} {ix st : Int} {cf dt : ByteArray} {L : List Ent} {A : Option Addr} {n c : Nat}
theorem RL.below {w' : World} (h : RL N w ix st cf dt L A n c) (hb : Below w.heap.size w w') : RL N w' ix st cf dt L A n c := ⟨h.ok, h.len, h.row.below hb⟩
theorem RL.bds (h : RL N w ix st cf dt L A n c) : 0 ≤ ix ∧ ix ≤ 1099512627776 ∧ n ≤ 200 ∧ n ≤ c := by
  have := h.ok.ends
  exact ⟨this.1, this.2.1, by rw [← h.len]; exact this.2.2, h.row.len.2⟩
theorem rfirst_x (h : RL N w ix st cf dt L A n c) (W : World) : Calls Try.prog 49 #[.agg #[.int .i64 ix, .int .i64 st, .string cf, .string dt, .slice A n c]] W fun e w' => e = .returned (.int .i64 (ix + 1)) ∧ Below W.heap.size W w' := rfirst13_any (.slice A n c) h.ok W
theorem rlast_x (h : RL N w ix st cf dt L A n c) (W : World) : Calls Try.prog 48 #[.agg #[.int .i64 ix, .int .i64 st, .string cf, .string dt, .slice A n c]] W fun e w' => e = .returned (.int .i64 (ix + (n : Int))) ∧ Below W.heap.size W w' := by
  obtain ⟨h1, h2, h3⟩ := h
  subst h2
  exact rlast13_any A c h1 W
theorem rterm_x (h : RL N w ix st cf dt L A n c) (i t : Int) (b : Bool) (ht : trm13 ⟨⟨ix, st, cf, dt⟩, L⟩ i = (t, b)) : Calls Try.prog 18 #[.agg #[.int .i64 ix, .int .i64 st, .string cf, .string dt, .slice A n c], .int .i64 i] w fun e w' => e = .returned (.tuple #[.int .i64 t, .bool b]) ∧ Below w.heap.size w w' := by
  obtain ⟨h1, h2, h3⟩ := h
  subst h2
  exact rterm13_any N A c h1 w h3 i t b ht
set_option maxHeartbeats 400000 in
theorem rfits_x (h : RL N w ix st cf dt L A n c) (i t : Int) (b : Bool) (hb : fts13 ⟨⟨ix, st, cf, dt⟩, L⟩ i t = b) : Calls Try.prog 20 #[.agg #[.int .i64 ix, .int .i64 st, .string cf, .string dt, .slice A n c], .int .i64 i, .int .i64 t] w fun e w' => e = .returned (.bool b) ∧ Below w.heap.size w w' := by
  obtain ⟨⟨x, y⟩, hxy⟩ : ∃ p, trm13 ⟨⟨ix, st, cf, dt⟩, L⟩ i = p := ⟨_, rfl⟩
  have HT := Lib.hid fun W (hb : Below w.heap.size w W) => rterm_x (h.below hb) i x y hxy
  unfold fts13 at hb
  rw [hxy] at hb
  have hb : (y && x == t) = b := hb
  obtain ⟨b0, hb0⟩ : ∃ b0, w.heap.size = b0 := ⟨_, rfl⟩
  obtain ⟨W0, hW0⟩ : ∃ W0, w.alloc (.cells #[.int .i64 ix, .int .i64 st, .string cf, .string dt, .slice A n c] 32) = W0 := ⟨_, rfl⟩
  have hR : Rt W0 b0 32 [.int .i64 ix, .int .i64 st, .string cf, .string dt, .slice A n c] := by rw [← hW0, ← hb0]; exact Rt.new _ _ _
  have hB : Below w.heap.size w W0 := by rw [← hW0]; exact below_new _ _
  have d0 := hR.cell (j := 0) rfl
  have d1 := hR.cell (j := 1) rfl
  have d2 := hR.cell (j := 2) rfl
  have d3 := hR.cell (j := 3) rfl
  have d4 := hR.cell (j := 4) rfl
  clear h hxy
  go_enter Try.func20, Try.ntmps20
  go_wp2_with fail
  refine (HT.out _ hB).mono ?_
  rintro e w1 ⟨rfl, h'⟩
  replace hR := hR.below h'
  replace hB := hB.trans (h'.mono hB.size)
  clear d0 d1 d2 d3 d4 h'
  have d0 := hR.cell (j := 0) rfl
  have d1 := hR.cell (j := 1) rfl
  have d2 := hR.cell (j := 2) rfl
  have d3 := hR.cell (j := 3) rfl
  have d4 := hR.cell (j := 4) rfl
  cases y with
  | false =>
    subst hb
    go_wp2
    go_ret
    exact ⟨rfl, hB⟩
  | true =>
    subst hb
    go_wp2
    go_ret
    exact ⟨by simp, hB⟩
set_option maxHeartbeats 400000 in
theorem rend_x (h : RL N w ix st cf dt L A n c) (t : Int) (b : Bool) (ht : trm13 ⟨⟨ix, st, cf, dt⟩, L⟩ (ix + (n : Int)) = (t, b)) : Calls Try.prog 52 #[.agg #[.int .i64 ix, .int .i64 st, .string cf, .string dt, .slice A n c]] w fun e w' => e = .returned (.int .i64 t) ∧ Below w.heap.size w w' := by
  have HT := Lib.hid fun W (hb : Below w.heap.size w W) => rterm_x (h.below hb) _ t b ht
  have HL := Lib.hid fun W => rlast_x h W
  obtain ⟨b0, hb0⟩ : ∃ b0, w.heap.size = b0 := ⟨_, rfl⟩
  obtain ⟨W0, hW0⟩ : ∃ W0, w.alloc (.cells #[.int .i64 ix, .int .i64 st, .string cf, .string dt, .slice A n c] 32) = W0 := ⟨_, rfl⟩
  have hR : Rt W0 b0 32 [.int .i64 ix, .int .i64 st, .string cf, .string dt, .slice A n c] := by rw [← hW0, ← hb0]; exact Rt.new _ _ _
  have hB : Below w.heap.size w W0 := by rw [← hW0]; exact below_new _ _
  have d0 := hR.cell (j := 0) rfl
  have d1 := hR.cell (j := 1) rfl
  have d2 := hR.cell (j := 2) rfl
  have d3 := hR.cell (j := 3) rfl
  have d4 := hR.cell (j := 4) rfl
  clear h ht
  go_enter Try.func52, Try.ntmps52
  go_wp2_with fail
  clear d0 d1 d2 d3 d4
  replace hR : Rt W0.drew b0 32 [.int .i64 ix, .int .i64 st, .string cf, .string dt, .slice A n c] := hR
  replace hB := hB.drew
  refine wp_region_noPanic ?_
  refine wp_region_held_drew (S := fun W => Rt W b0 32 [.int .i64 ix, .int .i64 st, .string cf, .string dt, .slice A n c]) (by kernel_rfl) ?_ (fun hHeld => ?_)
  · exact hR
  generalize W0.drew = kz at *
  refine tkH 0 (.agg #[.int .i64 ix, .int .i64 st, .string cf, .string dt, .slice A n c]) rfl (fun w hSw => ?_) ?_
  · (try dsimp only at hSw)
    have q0 := Rt.cell (j := 0) hSw rfl
    have q1 := Rt.cell (j := 1) hSw rfl
    have q2 := Rt.cell (j := 2) hSw rfl
    have q3 := Rt.cell (j := 3) hSw rfl
    have q4 := Rt.cell (j := 4) hSw rfl
    go_simp
  try simp only [Act.put, List.setIfInBounds_toArray, List.set_cons_zero, List.set_cons_succ]
  refine tkH 1 (.agg #[.int .i64 ix, .int .i64 st, .string cf, .string dt, .slice A n c]) rfl (fun w hSw => ?_) ?_
  · (try dsimp only at hSw)
    have q0 := Rt.cell (j := 0) hSw rfl
    have q1 := Rt.cell (j := 1) hSw rfl
    have q2 := Rt.cell (j := 2) hSw rfl
    have q3 := Rt.cell (j := 3) hSw rfl
    have q4 := Rt.cell (j := 4) hSw rfl
    go_simp
  try simp only [Act.put, List.setIfInBounds_toArray, List.set_cons_zero, List.set_cons_succ]
  refine stH 2 rfl (fun K hK => ?_)
  go_simp
  go_at_call 48
  refine (HL.out _).mono ?_
  rintro e k9 ⟨rfl, h'⟩
  replace hR := hR.below h'
  replace hB := hB.trans (h'.mono hB.size)
  clear h'
  refine hK.out _ _ ?_ (fun hHeld => ?_)
  · exact hR
  clear hK K
  try simp only [Act.put, List.setIfInBounds_toArray, List.set_cons_zero, List.set_cons_succ]
  refine stH 3 rfl (fun K hK => ?_)
  go_simp
  go_at_call 18
  refine (HT.out _ hB).mono ?_
  rintro e k9 ⟨rfl, h'⟩
  replace hR := hR.below h'
  replace hB := hB.trans (h'.mono hB.size)
  clear h'
  refine hK.out _ _ ?_ (fun hHeld => ?_)
  · exact hR
  clear hK K
  try simp only [Act.put, List.setIfInBounds_toArray, List.set_cons_zero, List.set_cons_succ]
  refine tkH 4 (.tuple #[.int .i64 t, .bool b]) rfl (fun w hSw => ?_) ?_
  · (try dsimp only at hSw)
    have q0 := Rt.cell (j := 0) hSw rfl
    have q1 := Rt.cell (j := 1) hSw rfl
    have q2 := Rt.cell (j := 2) hSw rfl
    have q3 := Rt.cell (j := 3) hSw rfl
    have q4 := Rt.cell (j := 4) hSw rfl
    go_simp
  try simp only [Act.put, List.setIfInBounds_toArray, List.set_cons_zero, List.set_cons_succ]
  refine tkH 5 (.int .i64 t) rfl (fun w hSw => ?_) ?_
  · (try dsimp only at hSw)
    have q0 := Rt.cell (j := 0) hSw rfl
    have q1 := Rt.cell (j := 1) hSw rfl
    have q2 := Rt.cell (j := 2) hSw rfl
    have q3 := Rt.cell (j := 3) hSw rfl
    have q4 := Rt.cell (j := 4) hSw rfl
    go_simp
  try simp only [Act.put, List.setIfInBounds_toArray, List.set_cons_zero, List.set_cons_succ]
  refine tkH 6 (.bool b) rfl (fun w hSw => ?_) ?_
  · (try dsimp only at hSw)
    have q0 := Rt.cell (j := 0) hSw rfl
    have q1 := Rt.cell (j := 1) hSw rfl
    have q2 := Rt.cell (j := 2) hSw rfl
    have q3 := Rt.cell (j := 3) hSw rfl
    have q4 := Rt.cell (j := 4) hSw rfl
    go_simp
  try simp only [Act.put, List.setIfInBounds_toArray, List.set_cons_zero, List.set_cons_succ]
  refine tkH 7 (.int .i64 t) rfl (fun w hSw => ?_) ?_
  · (try dsimp only at hSw)
    have q0 := Rt.cell (j := 0) hSw rfl
    have q1 := Rt.cell (j := 1) hSw rfl
    have q2 := Rt.cell (j := 2) hSw rfl
    have q3 := Rt.cell (j := 3) hSw rfl
    have q4 := Rt.cell (j := 4) hSw rfl
    go_simp
  try simp only [Act.put, List.setIfInBounds_toArray, List.set_cons_zero, List.set_cons_succ]
  refine tkH 8 (.bool b) rfl (fun w hSw => ?_) ?_
  · (try dsimp only at hSw)
    have q0 := Rt.cell (j := 0) hSw rfl
    have q1 := Rt.cell (j := 1) hSw rfl
    have q2 := Rt.cell (j := 2) hSw rfl
    have q3 := Rt.cell (j := 3) hSw rfl
    have q4 := Rt.cell (j := 4) hSw rfl
    go_simp
  try simp only [Act.put, List.setIfInBounds_toArray, List.set_cons_zero, List.set_cons_succ]
  refine wpAnyH_done (by kernel_rfl) ?_ _
  refine NoPanic.normal ?_
  go_wp2
  go_ret
  exact ⟨rfl, hB⟩
set_option maxHeartbeats 400000 in
theorem rnewer_x (h : RL N w ix st cf dt L A n c) (i t : Int) (b : Bool) (hb : nwr13 ⟨⟨ix, st, cf, dt⟩, L⟩ i t = b) : Calls Try.prog 22 #[.agg #[.int .i64 ix, .int .i64 st, .string cf, .string dt, .slice A n c], .int .i64 i, .int .i64 t] w fun e w' => e = .returned (.bool b) ∧ Below w.heap.size w w' := by
  have hlst : lst13 ⟨⟨ix, st, cf, dt⟩, L⟩ = ix + (n : Int) := by unfold lst13; simp only; rw [h.len]
  obtain ⟨⟨x, y⟩, hxy⟩ : ∃ p, trm13 ⟨⟨ix, st, cf, dt⟩, L⟩ (ix + (n : Int)) = p := ⟨_, rfl⟩
  have HN := Lib.hid fun W (hb : Below w.heap.size w W) => rend_x (h.below hb) x y hxy
  have HL := Lib.hid fun W => rlast_x h W
  unfold nwr13 at hb
  rw [hlst, hxy] at hb
  obtain ⟨l, hl⟩ : ∃ l, ix + (n : Int) = l := ⟨_, rfl⟩
  rw [hl] at HL hb
  have hb : (decide (x < t) || (t == x && decide (l ≤ i))) = b := hb
  obtain ⟨b0, hb0⟩ : ∃ b0, w.heap.size = b0 := ⟨_, rfl⟩
  obtain ⟨W0, hW0⟩ : ∃ W0, w.alloc (.cells #[.int .i64 ix, .int .i64 st, .string cf, .string dt, .slice A n c] 32) = W0 := ⟨_, rfl⟩
  have hR : Rt W0 b0 32 [.int .i64 ix, .int .i64 st, .string cf, .string dt, .slice A n c] := by rw [← hW0, ← hb0]; exact Rt.new _ _ _
  have hB : Below w.heap.size w W0 := by rw [← hW0]; exact below_new _ _
  have d0 := hR.cell (j := 0) rfl
  have d1 := hR.cell (j := 1) rfl
  have d2 := hR.cell (j := 2) rfl
  have d3 := hR.cell (j := 3) rfl
  have d4 := hR.cell (j := 4) rfl
  clear h hxy hlst hl
  by_cases hxt : x < t
  · have hbt : b = true := by rw [← hb, show decide (x < t) = true from decide_eq_true hxt]; rfl
    subst hbt
    clear hb
    go_enter Try.func22, Try.ntmps22
    go_wp2_with fail
    refine (HN.out _ hB).mono ?_
    rintro e w1 ⟨rfl, h'⟩
    replace hR := hR.below h'
    replace hB := hB.trans (h'.mono hB.size)
    clear d0 d1 d2 d3 d4 h'
    have d0 := hR.cell (j := 0) rfl
    have d1 := hR.cell (j := 1) rfl
    have d2 := hR.cell (j := 2) rfl
    have d3 := hR.cell (j := 3) rfl
    have d4 := hR.cell (j := 4) rfl
    go_wp2
    go_ret
    exact ⟨rfl, hB⟩
  · by_cases hte : t = x
    · subst hte
      have hb2 : decide (l ≤ i) = b := by rw [← hb, show decide (t < t) = false from decide_eq_false hxt]; simp
      subst hb2
      clear hb
      go_enter Try.func22, Try.ntmps22
      go_wp2_with fail
      refine (HN.out _ hB).mono ?_
      rintro e w1 ⟨rfl, h'⟩
      replace hR := hR.below h'
      replace hB := hB.trans (h'.mono hB.size)
      clear d0 d1 d2 d3 d4 h'
      have d0 := hR.cell (j := 0) rfl
      have d1 := hR.cell (j := 1) rfl
      have d2 := hR.cell (j := 2) rfl
      have d3 := hR.cell (j := 3) rfl
      have d4 := hR.cell (j := 4) rfl
      go_wp2_with fail
      refine (HN.out _ hB).mono ?_
      rintro e w2 ⟨rfl, h'⟩
      replace hR := hR.below h'
      replace hB := hB.trans (h'.mono hB.size)
      clear d0 d1 d2 d3 d4 h'
      have d0 := hR.cell (j := 0) rfl
      have d1 := hR.cell (j := 1) rfl
      have d2 := hR.cell (j := 2) rfl
      have d3 := hR.cell (j := 3) rfl
      have d4 := hR.cell (j := 4) rfl
      go_wp2_with fail
      refine (HL.out _).mono ?_
      rintro e w3 ⟨rfl, h'⟩
      replace hR := hR.below h'
      replace hB := hB.trans (h'.mono hB.size)
      clear d0 d1 d2 d3 d4 h'
      have d0 := hR.cell (j := 0) rfl
      have d1 := hR.cell (j := 1) rfl
      have d2 := hR.cell (j := 2) rfl
      have d3 := hR.cell (j := 3) rfl
      have d4 := hR.cell (j := 4) rfl
      go_wp2
      go_ret
      exact ⟨rfl, hB⟩
    · have hbf : b = false := by rw [← hb, show decide (x < t) = false from decide_eq_false hxt, show (t == x) = false by simpa using hte]; rfl
      have hteb : (t == x) = false := by simpa using hte
      subst hbf
      clear hb
      go_enter Try.func22, Try.ntmps22
      go_wp2_with fail
      refine (HN.out _ hB).mono ?_
      rintro e w1 ⟨rfl, h'⟩
      replace hR := hR.below h'
      replace hB := hB.trans (h'.mono hB.size)
      clear d0 d1 d2 d3 d4 h'
      have d0 := hR.cell (j := 0) rfl
      have d1 := hR.cell (j := 1) rfl
      have d2 := hR.cell (j := 2) rfl
      have d3 := hR.cell (j := 3) rfl
      have d4 := hR.cell (j := 4) rfl
      go_wp2_with fail
      refine (HN.out _ hB).mono ?_
      rintro e w2 ⟨rfl, h'⟩
      replace hR := hR.below h'
      replace hB := hB.trans (h'.mono hB.size)
      clear d0 d1 d2 d3 d4 h'
      have d0 := hR.cell (j := 0) rfl
      have d1 := hR.cell (j := 1) rfl
      have d2 := hR.cell (j := 2) rfl
      have d3 := hR.cell (j := 3) rfl
      have d4 := hR.cell (j := 4) rfl
      go_wp2
      go_ret
      exact ⟨by show Ending.returned (Value.bool (decide (x < t))) = _; rw [decide_eq_false (by omega)], hB⟩
set_option maxHeartbeats 1000000 in
theorem rget_x (h : RL N w ix st cf dt L A n c) (i z : Int) (hz : -9223372036854775808 ≤ z ∧ z ≤ 9223372036854775807) : Calls Try.prog 25 #[.agg #[.int .i64 ix, .int .i64 st, .string cf, .string dt, .slice A n c], .int .i64 i, .int .i64 z] w fun e w' => ∃ v, e = .returned v ∧ OwnEn w.heap.size v (get13 ⟨⟨ix, st, cf, dt⟩, L⟩ i z) w' ∧ Below w.heap.size w w' := by
  have HF := Lib.hid fun W => rfirst_x h W
  have HL := Lib.hid fun W => rlast_x h W
  have HE := Lib.hid h.row
  have HN := Lib.hid h.len
  obtain ⟨h0, h1, h2, h3⟩ := h.bds
  have hlst : lst13 ⟨⟨ix, st, cf, dt⟩, L⟩ = ix + (n : Int) := by unfold lst13; simp only; rw [h.len]
  have hout : ¬ (ix < i ∧ i ≤ ix + (n : Int)) → get13 ⟨⟨ix, st, cf, dt⟩, L⟩ i z = [] := fun hh => by
    unfold get13; rw [frm13_out (by rw [hlst]; exact hh)]; simp
  have hin : (ix < i ∧ i ≤ ix + (n : Int)) → get13 ⟨⟨ix, st, cf, dt⟩, L⟩ i z = (L.drop (i - ix - 1).toNat).take z.toNat := fun hh => by
    unfold get13; rw [frm13_in (by rw [hlst]; exact hh)]
  obtain ⟨b0, hb0⟩ : ∃ b0, w.heap.size = b0 := ⟨_, rfl⟩
  obtain ⟨W0, hW0⟩ : ∃ W0, w.alloc (.cells #[.int .i64 ix, .int .i64 st, .string cf, .string dt, .slice A n c] 32) = W0 := ⟨_, rfl⟩
  have hR : Rt W0 b0 32 [.int .i64 ix, .int .i64 st, .string cf, .string dt, .slice A n c] := by rw [← hW0, ← hb0]; exact Rt.new _ _ _
  have hB : Below w.heap.size w W0 := by rw [← hW0]; exact below_new _ _
  have d0 := hR.cell (j := 0) rfl
  have d1 := hR.cell (j := 1) rfl
  have d2 := hR.cell (j := 2) rfl
  have d3 := hR.cell (j := 3) rfl
  have d4 := hR.cell (j := 4) rfl
  clear h hlst
  by_cases hlo : i < ix + 1
  · rw [hout (by omega)]
    go_enter Try.func25, Try.ntmps25
    go_wp2_with fail
    refine (HF.out _).mono ?_
    rintro e w1 ⟨rfl, h'⟩
    replace hR := hR.below h'
    replace hB := hB.trans (h'.mono hB.size)
    clear d0 d1 d2 d3 d4 h'
    have d0 := hR.cell (j := 0) rfl
    have d1 := hR.cell (j := 1) rfl
    have d2 := hR.cell (j := 2) rfl
    have d3 := hR.cell (j := 3) rfl
    have d4 := hR.cell (j := 4) rfl
    go_wp2
    go_ret
    exact ⟨_, rfl, OwnEn.nil _ _, hB⟩
  · by_cases hhi : ix + (n : Int) < i
    · rw [hout (by omega)]
      go_enter Try.func25, Try.ntmps25
      go_wp2_with fail
      refine (HF.out _).mono ?_
      rintro e w1 ⟨rfl, h'⟩
      replace hR := hR.below h'
      replace hB := hB.trans (h'.mono hB.size)
      clear d0 d1 d2 d3 d4 h'
      have d0 := hR.cell (j := 0) rfl
      have d1 := hR.cell (j := 1) rfl
      have d2 := hR.cell (j := 2) rfl
      have d3 := hR.cell (j := 3) rfl
      have d4 := hR.cell (j := 4) rfl
      go_wp2_with fail
      refine (HL.out _).mono ?_
      rintro e w2 ⟨rfl, h'⟩
      replace hR := hR.below h'
      replace hB := hB.trans (h'.mono hB.size)
      clear d0 d1 d2 d3 d4 h'
      have d0 := hR.cell (j := 0) rfl
      have d1 := hR.cell (j := 1) rfl
      have d2 := hR.cell (j := 2) rfl
      have d3 := hR.cell (j := 3) rfl
      have d4 := hR.cell (j := 4) rfl
      go_wp2
      go_ret
      exact ⟨_, rfl, OwnEn.nil _ _, hB⟩
    · by_cases hz1 : z < 1
      · rw [hin (by omega), show z.toNat = 0 by omega, List.take_zero]
        go_enter Try.func25, Try.ntmps25
        go_wp2_with fail
        refine (HF.out _).mono ?_
        rintro e w1 ⟨rfl, h'⟩
        replace hR := hR.below h'
        replace hB := hB.trans (h'.mono hB.size)
        clear d0 d1 d2 d3 d4 h'
        have d0 := hR.cell (j := 0) rfl
        have d1 := hR.cell (j := 1) rfl
        have d2 := hR.cell (j := 2) rfl
        have d3 := hR.cell (j := 3) rfl
        have d4 := hR.cell (j := 4) rfl
        go_wp2_with fail
        refine (HL.out _).mono ?_
        rintro e w2 ⟨rfl, h'⟩
        replace hR := hR.below h'
        replace hB := hB.trans (h'.mono hB.size)
        clear d0 d1 d2 d3 d4 h'
        have d0 := hR.cell (j := 0) rfl
        have d1 := hR.cell (j := 1) rfl
        have d2 := hR.cell (j := 2) rfl
        have d3 := hR.cell (j := 3) rfl
        have d4 := hR.cell (j := 4) rfl
        go_wp2
        go_ret
        exact ⟨_, rfl, OwnEn.nil _ _, hB⟩
      · rw [hin (by omega)]
        obtain ⟨k, hk⟩ : ∃ k : Nat, i - (ix + 1) = (k : Int) := ⟨(i - (ix + 1)).toNat, by omega⟩
        rw [show (i - ix - 1).toNat = k by omega]
        have hkn : k < n := by omega
        obtain ⟨q, hq⟩ : ∃ q : Nat, min z ((n - k : Nat) : Int) = (q : Int) := ⟨(min z ((n - k : Nat) : Int)).toNat, by omega⟩
        have hqn : q ≤ n - k := by omega
        have hqt : (L.drop k).take z.toNat = (L.drop k).take q := by
          by_cases hh : z.toNat ≤ n - k
          · rw [show q = z.toNat by omega]
          · rw [List.take_of_length_le (by rw [List.length_drop, HN.out]; omega), List.take_of_length_le (by rw [List.length_drop, HN.out]; omega)]
        rw [hqt]
        have hkc : ¬ c = k := by omega
        have hki : (k : Int) ≤ (n : Int) := by omega
        have hk0 : (0 : Int) ≤ (k : Int) := by omega
        clear hqt hin hout
        go_enter Try.func25, Try.ntmps25
        go_wp2_with fail
        refine (HF.out _).mono ?_
        rintro e w1 ⟨rfl, h'⟩
        replace hR := hR.below h'
        replace hB := hB.trans (h'.mono hB.size)
        clear d0 d1 d2 d3 d4 h'
        have d0 := hR.cell (j := 0) rfl
        have d1 := hR.cell (j := 1) rfl
        have d2 := hR.cell (j := 2) rfl
        have d3 := hR.cell (j := 3) rfl
        have d4 := hR.cell (j := 4) rfl
        go_wp2_with fail
        refine (HL.out _).mono ?_
        rintro e w2 ⟨rfl, h'⟩
        replace hR := hR.below h'
        replace hB := hB.trans (h'.mono hB.size)
        clear d0 d1 d2 d3 d4 h'
        have d0 := hR.cell (j := 0) rfl
        have d1 := hR.cell (j := 1) rfl
        have d2 := hR.cell (j := 2) rfl
        have d3 := hR.cell (j := 3) rfl
        have d4 := hR.cell (j := 4) rfl
        go_wp2_with fail
        obtain ⟨a, o, hA, _, _, _⟩ := HE.out.at_ k (by rw [HN.out]; exact hkn)
        have hwk : IntKind.i64.wrap (k : Int) = (k : Int) := by rw [IntKind.wrap_i64]; omega
        have HA := Lib.hid hA
        clear d0 d1 d2 d3 d4 hA
        replace hR : Rt w2.drew b0 32 [.int .i64 ix, .int .i64 st, .string cf, .string dt, .slice A n c] := hR
        replace hB := hB.drew
        refine wp_region_noPanic ?_
        refine wp_region_held_drew (S := fun W => Rt W b0 32 [.int .i64 ix, .int .i64 st, .string cf, .string dt, .slice A n c]) (by kernel_rfl) ?_ (fun hHeld => ?_)
        · exact hR
        generalize w2.drew = kz at *
        refine tkH 0 (.pointer (some ⟨b0, 4, none⟩)) rfl (fun w hSw => ?_) ?_
        · (try dsimp only at hSw)
          have q0 := Rt.cell (j := 0) hSw rfl
          have q1 := Rt.cell (j := 1) hSw rfl
          have q2 := Rt.cell (j := 2) hSw rfl
          have q3 := Rt.cell (j := 3) hSw rfl
          have q4 := Rt.cell (j := 4) hSw rfl
          go_simp
        try simp only [Act.put, List.setIfInBounds_toArray, List.set_cons_zero, List.set_cons_succ]
        refine tkH 1 (.slice A n c) rfl (fun w hSw => ?_) ?_
        · (try dsimp only at hSw)
          have q0 := Rt.cell (j := 0) hSw rfl
          have q1 := Rt.cell (j := 1) hSw rfl
          have q2 := Rt.cell (j := 2) hSw rfl
          have q3 := Rt.cell (j := 3) hSw rfl
          have q4 := Rt.cell (j := 4) hSw rfl
          go_simp
        try simp only [Act.put, List.setIfInBounds_toArray, List.set_cons_zero, List.set_cons_succ]
        refine tkH 2 (.int .i64 i) rfl (fun w hSw => ?_) ?_
        · (try dsimp only at hSw)
          have q0 := Rt.cell (j := 0) hSw rfl
          have q1 := Rt.cell (j := 1) hSw rfl
          have q2 := Rt.cell (j := 2) hSw rfl
          have q3 := Rt.cell (j := 3) hSw rfl
          have q4 := Rt.cell (j := 4) hSw rfl
          go_simp
        try simp only [Act.put, List.setIfInBounds_toArray, List.set_cons_zero, List.set_cons_succ]
        refine tkH 3 (.agg #[.int .i64 ix, .int .i64 st, .string cf, .string dt, .slice A n c]) rfl (fun w hSw => ?_) ?_
        · (try dsimp only at hSw)
          have q0 := Rt.cell (j := 0) hSw rfl
          have q1 := Rt.cell (j := 1) hSw rfl
          have q2 := Rt.cell (j := 2) hSw rfl
          have q3 := Rt.cell (j := 3) hSw rfl
          have q4 := Rt.cell (j := 4) hSw rfl
          go_simp
        try simp only [Act.put, List.setIfInBounds_toArray, List.set_cons_zero, List.set_cons_succ]
        refine stH 4 rfl (fun K hK => ?_)
        go_simp
        go_at_call 49
        refine (HF.out _).mono ?_
        rintro e k9 ⟨rfl, h'⟩
        replace hR := hR.below h'
        replace hB := hB.trans (h'.mono hB.size)
        clear h'
        refine hK.out _ _ ?_ (fun hHeld => ?_)
        · exact hR
        clear hK K
        try simp only [Act.put, List.setIfInBounds_toArray, List.set_cons_zero, List.set_cons_succ]
        refine tkH 5 (.int .i64 k) rfl (fun w hSw => ?_) ?_
        · (try dsimp only at hSw)
          have q0 := Rt.cell (j := 0) hSw rfl
          have q1 := Rt.cell (j := 1) hSw rfl
          have q2 := Rt.cell (j := 2) hSw rfl
          have q3 := Rt.cell (j := 3) hSw rfl
          have q4 := Rt.cell (j := 4) hSw rfl
          go_simp
        try simp only [Act.put, List.setIfInBounds_toArray, List.set_cons_zero, List.set_cons_succ]
        refine tkH 6 (.slice (some ⟨a, o + k * 4, none⟩) (n - k) (c - k)) rfl (fun w hSw => ?_) ?_
        · (try dsimp only at hSw)
          have q0 := Rt.cell (j := 0) hSw rfl
          have q1 := Rt.cell (j := 1) hSw rfl
          have q2 := Rt.cell (j := 2) hSw rfl
          have q3 := Rt.cell (j := 3) hSw rfl
          have q4 := Rt.cell (j := 4) hSw rfl
          have hA := HA.out
          subst hA
          go_simp
        try simp only [Act.put, List.setIfInBounds_toArray, List.set_cons_zero, List.set_cons_succ]
        refine tkH 7 (.slice (some ⟨a, o + k * 4, none⟩) (n - k) (c - k)) rfl (fun w hSw => ?_) ?_
        · (try dsimp only at hSw)
          have q0 := Rt.cell (j := 0) hSw rfl
          have q1 := Rt.cell (j := 1) hSw rfl
          have q2 := Rt.cell (j := 2) hSw rfl
          have q3 := Rt.cell (j := 3) hSw rfl
          have q4 := Rt.cell (j := 4) hSw rfl
          go_simp
        try simp only [Act.put, List.setIfInBounds_toArray, List.set_cons_zero, List.set_cons_succ]
        refine wpAnyH_done (by kernel_rfl) ?_ _
        refine NoPanic.normal ?_
        have hE2 := HE.out.below hB
        have hD2 := hE2.drop k (by rw [HN.out]; omega)
        rw [if_neg hkc, HN.out] at hD2
        rw [HA.out, add_lit_10] at hD2
        have hT2 := hD2.take q (by rw [List.length_drop, HN.out]; exact hqn)
        have HT2 := Lib.hid hT2
        have hl2 : ([] : List Ent).length + ((L.drop k).take q).length ≤ 1050000 := by rw [List.length_take, List.length_drop, HN.out]; simp; omega
        have HSZ := Lib.hid hB.size
        clear hE2 hD2 hT2
        go_wp2_with (at_builtin; refine wpList_append_en rfl _ _ rfl w.heap.size _ (.slice none 0 0) _ [] _ rfl (OwnEn.nil _ _) rfl HT2.out hl2 HSZ.out ?_; intro v' w' g1 g2 g3; (rw [List.nil_append] at g1); (obtain ⟨A3, c3, hv3⟩ := g1.slice); (obtain ⟨m3, hm3⟩ : ∃ m3, ((L.drop k).take q).length = m3 := ⟨_, rfl⟩); (rw [hm3] at hv3); subst hv3; (have HG1 := Lib.hid g1); (have HG2 := Lib.hid g2); clear g1 g2 g3 hm3)
        go_ret
        exact ⟨_, rfl, HG1.out, hB.trans HG2.out⟩
end
end Go.Proofs.Ytoekiencnbgmhaa
/-
  The reference's NewLog and Pack.
  The conditions: rows have at most 1,000 entries.
-/
set_option linter.unusedSimpArgs false
set_option linter.unusedVariables false
namespace Go.Proofs.Ytoekiencnbgmhaa
open Go.RowKit Go.Deep
set_option maxRecDepth 100000

/-- one behind the other: what the reference's loop has told behind k entries -/
def flwK (i0 t0 : Int) (L : List Ent) : Nat → Int
  | 0 => t0
  | k + 1 => ((L[k]?).getD noEnt).et
set_option maxHeartbeats 3000000 in
theorem rpack_x {N : Nat → Prop} {w : World} {ix st : Int} {cf dt : ByteArray} {L : List Ent} {A : Option Addr} {n c : Nat} (h : RL N w ix st cf dt L A n c) (s : Snp) (r' : Lg) (b : Bool) (hp : pck13 ⟨⟨ix, st, cf, dt⟩, L⟩ s = (r', b)) :
    Calls Try.prog 14 #[.agg #[.int .i64 ix, .int .i64 st, .string cf, .string dt, .slice A n c], s.val] w fun e w' => ∃ v, e = .returned (.tuple #[lgv r' v, .bool b]) ∧ ((v = .slice A n c ∧ b = false) ∨ (b = true ∧ OwnEn w.heap.size v r'.L w')) ∧ Below w.heap.size w w' := by
  have HF := Lib.hid fun W => rfirst_x h W
  have HL := Lib.hid fun W => rlast_x h W
  obtain ⟨fb, hfb⟩ : ∃ fb, fts13 ⟨⟨ix, st, cf, dt⟩, L⟩ s.ix s.st = fb := ⟨_, rfl⟩
  have HT := Lib.hid fun W (hb : Below w.heap.size w W) => rfits_x (h.below hb) s.ix s.st fb hfb
  obtain ⟨h0, h1, h2, h3⟩ := h.bds
  obtain ⟨sx, sy, sc, sd⟩ := s
  simp only at HT hfb
  have hlst : lst13 ⟨⟨ix, st, cf, dt⟩, L⟩ = ix + (n : Int) := by unfold lst13; simp only; rw [h.len]
  have hfo : ix + (n : Int) < sx → fb = false := fun hh => by
    rw [← hfb]; unfold fts13
    rw [trm13_out (by show ¬ sx = ix; omega) (by rw [hlst]; show ¬ (ix < sx ∧ sx ≤ _); omega)]; rfl
  have HE := Lib.hid h.row
  have HN := Lib.hid h.len
  have HFB := Lib.hid hfb
  unfold lgv
  show Calls _ _ #[_, .agg #[.int .i64 sx, .int .i64 sy, .string sc, .string sd]] w _
  obtain ⟨b0, hb0⟩ : ∃ b0, w.heap.size = b0 := ⟨_, rfl⟩
  obtain ⟨W0, hW0⟩ : ∃ W0, ((w.alloc (.cells #[.int .i64 ix, .int .i64 st, .string cf, .string dt, .slice A n c] 32)).alloc (.cells #[.int .i64 sx, .int .i64 sy, .string sc, .string sd] 23)).alloc (.cells #[.int .i64 0, .int .i64 0, .string ⟨#[]⟩, .string ⟨#[]⟩, .slice none 0 0] 32) = W0 := ⟨_, rfl⟩
  obtain ⟨Wa, hWa⟩ : ∃ Wa, w.alloc (.cells #[.int .i64 ix, .int .i64 st, .string cf, .string dt, .slice A n c] 32) = Wa := ⟨_, rfl⟩
  obtain ⟨Wb, hWb⟩ : ∃ Wb, Wa.alloc (.cells #[.int .i64 sx, .int .i64 sy, .string sc, .string sd] 23) = Wb := ⟨_, rfl⟩
  have hWc : Wb.alloc (.cells #[.int .i64 0, .int .i64 0, .string ⟨#[]⟩, .string ⟨#[]⟩, .slice none 0 0] 32) = W0 := by rw [← hWb, ← hWa]; exact hW0
  have za : Wa.heap.size = b0 + 1 := by rw [← hWa, World.size_alloc, hb0]
  have zb : Wb.heap.size = b0 + 2 := by rw [← hWb, World.size_alloc, za]
  have ba : Below w.heap.size w Wa := by rw [← hWa]; exact below_new _ _
  have bb : Below Wa.heap.size Wa Wb := by rw [← hWb]; exact below_new _ _
  have bc : Below Wb.heap.size Wb W0 := by rw [← hWc]; exact below_new _ _
  have hR : Rt W0 b0 32 [.int .i64 ix, .int .i64 st, .string cf, .string dt, .slice A n c] := Rt.below (Rt.below (show Rt Wa b0 _ _ by rw [← hWa]; exact Rt.new_at w b0 _ _ hb0) bb) bc
  have hS : Rt W0 (b0 + 1) 23 [.int .i64 sx, .int .i64 sy, .string sc, .string sd] := Rt.below (show Rt Wb (b0 + 1) _ _ by rw [← hWb]; exact Rt.new_at Wa (b0 + 1) _ _ za) bc
  have hZ : Rt W0 (b0 + 2) 32 [.int .i64 0, .int .i64 0, .string ⟨#[]⟩, .string ⟨#[]⟩, .slice none 0 0] := by rw [← hWc]; exact Rt.new_at Wb (b0 + 2) _ _ zb
  have hB : Below w.heap.size w W0 := (ba.trans (bb.mono (by omega))).trans (bc.mono (by omega))
  clear hWa hWb hWc za zb ba bb bc h hlst hfb
  by_cases c1 : sx < ix + 1
  · have hp2 : (⟨⟨ix, st, cf, dt⟩, L⟩, false) = (r', b) := by
      rw [← hp]; unfold pck13
      rw [if_neg (by rintro ⟨e1, e2⟩; have e1 : ix < sx := e1; omega)]
    injection hp2 with e1 e2
    subst e1; subst e2
    go_enter Try.func14, Try.ntmps14
    go_wp2_with fail
    replace hR : Rt W0.drew b0 32 [.int .i64 ix, .int .i64 st, .string cf, .string dt, .slice A n c] := hR
    replace hS : Rt W0.drew (b0 + 1) 23 [.int .i64 sx, .int .i64 sy, .string sc, .string sd] := hS
    replace hZ : Rt W0.drew (b0 + 2) 32 [.int .i64 0, .int .i64 0, .string ⟨#[]⟩, .string ⟨#[]⟩, .slice none 0 0] := hZ
    replace hB := hB.drew
    refine wp_region_noPanic ?_
    refine wp_region_held_drew (S := fun W => Rt W b0 32 [.int .i64 ix, .int .i64 st, .string cf, .string dt, .slice A n c] ∧ Rt W (b0 + 1) 23 [.int .i64 sx, .int .i64 sy, .string sc, .string sd]) (by kernel_rfl) ?_ (fun hHeld => ?_)
    · exact ⟨hR, hS⟩
    generalize W0.drew = kz at *
    refine tkH 0 (.pointer (some ⟨b0 + 1, 0, none⟩)) rfl (fun w hSw => ?_) ?_
    · (try dsimp only at hSw)
      obtain ⟨s1, s2⟩ := hSw
      have q0 := Rt.cell (j := 0) s1 rfl
      have q1 := Rt.cell (j := 1) s1 rfl
      have q2 := Rt.cell (j := 2) s1 rfl
      have q3 := Rt.cell (j := 3) s1 rfl
      have q4 := Rt.cell (j := 4) s1 rfl
      have u0 := Rt.cell (j := 0) s2 rfl
      have u1 := Rt.cell (j := 1) s2 rfl
      have u2 := Rt.cell (j := 2) s2 rfl
      have u3 := Rt.cell (j := 3) s2 rfl
      go_simp
    try simp only [Act.put, List.setIfInBounds_toArray, List.set_cons_zero, List.set_cons_succ]
    refine tkH 1 (.int .i64 sx) rfl (fun w hSw => ?_) ?_
    · (try dsimp only at hSw)
      obtain ⟨s1, s2⟩ := hSw
      have q0 := Rt.cell (j := 0) s1 rfl
      have q1 := Rt.cell (j := 1) s1 rfl
      have q2 := Rt.cell (j := 2) s1 rfl
      have q3 := Rt.cell (j := 3) s1 rfl
      have q4 := Rt.cell (j := 4) s1 rfl
      have u0 := Rt.cell (j := 0) s2 rfl
      have u1 := Rt.cell (j := 1) s2 rfl
      have u2 := Rt.cell (j := 2) s2 rfl
      have u3 := Rt.cell (j := 3) s2 rfl
      go_simp
    try simp only [Act.put, List.setIfInBounds_toArray, List.set_cons_zero, List.set_cons_succ]
    refine tkH 2 (.agg #[.int .i64 ix, .int .i64 st, .string cf, .string dt, .slice A n c]) rfl (fun w hSw => ?_) ?_
    · (try dsimp only at hSw)
      obtain ⟨s1, s2⟩ := hSw
      have q0 := Rt.cell (j := 0) s1 rfl
      have q1 := Rt.cell (j := 1) s1 rfl
      have q2 := Rt.cell (j := 2) s1 rfl
      have q3 := Rt.cell (j := 3) s1 rfl
      have q4 := Rt.cell (j := 4) s1 rfl
      have u0 := Rt.cell (j := 0) s2 rfl
      have u1 := Rt.cell (j := 1) s2 rfl
      have u2 := Rt.cell (j := 2) s2 rfl
      have u3 := Rt.cell (j := 3) s2 rfl
      go_simp
    try simp only [Act.put, List.setIfInBounds_toArray, List.set_cons_zero, List.set_cons_succ]
    refine stH 3 rfl (fun K hK => ?_)
    go_simp
    go_at_call 49
    refine (HF.out _).mono ?_
    rintro e k9 ⟨rfl, h'⟩
    replace hR := hR.below h'
    replace hS := hS.below h'
    replace hZ := hZ.below h'
    replace hB := hB.trans (h'.mono hB.size)
    clear h'
    refine hK.out _ _ ?_ (fun hHeld => ?_)
    · exact ⟨hR, hS⟩
    clear hK K
    try simp only [Act.put, List.setIfInBounds_toArray, List.set_cons_zero, List.set_cons_succ]
    refine tkH 4 (.bool true) rfl (fun w hSw => ?_) ?_
    · (try dsimp only at hSw)
      obtain ⟨s1, s2⟩ := hSw
      have q0 := Rt.cell (j := 0) s1 rfl
      have q1 := Rt.cell (j := 1) s1 rfl
      have q2 := Rt.cell (j := 2) s1 rfl
      have q3 := Rt.cell (j := 3) s1 rfl
      have q4 := Rt.cell (j := 4) s1 rfl
      have u0 := Rt.cell (j := 0) s2 rfl
      have u1 := Rt.cell (j := 1) s2 rfl
      have u2 := Rt.cell (j := 2) s2 rfl
      have u3 := Rt.cell (j := 3) s2 rfl
      go_simp
    try simp only [Act.put, List.setIfInBounds_toArray, List.set_cons_zero, List.set_cons_succ]
    refine tkH 5 (.bool true) rfl (fun w hSw => ?_) ?_
    · (try dsimp only at hSw)
      obtain ⟨s1, s2⟩ := hSw
      have q0 := Rt.cell (j := 0) s1 rfl
      have q1 := Rt.cell (j := 1) s1 rfl
      have q2 := Rt.cell (j := 2) s1 rfl
      have q3 := Rt.cell (j := 3) s1 rfl
      have q4 := Rt.cell (j := 4) s1 rfl
      have u0 := Rt.cell (j := 0) s2 rfl
      have u1 := Rt.cell (j := 1) s2 rfl
      have u2 := Rt.cell (j := 2) s2 rfl
      have u3 := Rt.cell (j := 3) s2 rfl
      go_simp
    try simp only [Act.put, List.setIfInBounds_toArray, List.set_cons_zero, List.set_cons_succ]
    refine skH 6 rfl ?_
    try simp only [Act.put, List.setIfInBounds_toArray, List.set_cons_zero, List.set_cons_succ]
    refine skH 7 rfl ?_
    try simp only [Act.put, List.setIfInBounds_toArray, List.set_cons_zero, List.set_cons_succ]
    refine skH 8 rfl ?_
    try simp only [Act.put, List.setIfInBounds_toArray, List.set_cons_zero, List.set_cons_succ]
    refine skH 9 rfl ?_
    try simp only [Act.put, List.setIfInBounds_toArray, List.set_cons_zero, List.set_cons_succ]
    refine skH 10 rfl ?_
    try simp only [Act.put, List.setIfInBounds_toArray, List.set_cons_zero, List.set_cons_succ]
    refine tkH 11 (.bool true) rfl (fun w hSw => ?_) ?_
    · (try dsimp only at hSw)
      obtain ⟨s1, s2⟩ := hSw
      have q0 := Rt.cell (j := 0) s1 rfl
      have q1 := Rt.cell (j := 1) s1 rfl
      have q2 := Rt.cell (j := 2) s1 rfl
      have q3 := Rt.cell (j := 3) s1 rfl
      have q4 := Rt.cell (j := 4) s1 rfl
      have u0 := Rt.cell (j := 0) s2 rfl
      have u1 := Rt.cell (j := 1) s2 rfl
      have u2 := Rt.cell (j := 2) s2 rfl
      have u3 := Rt.cell (j := 3) s2 rfl
      go_simp
    try simp only [Act.put, List.setIfInBounds_toArray, List.set_cons_zero, List.set_cons_succ]
    refine tkH 12 (.bool true) rfl (fun w hSw => ?_) ?_
    · (try dsimp only at hSw)
      obtain ⟨s1, s2⟩ := hSw
      have q0 := Rt.cell (j := 0) s1 rfl
      have q1 := Rt.cell (j := 1) s1 rfl
      have q2 := Rt.cell (j := 2) s1 rfl
      have q3 := Rt.cell (j := 3) s1 rfl
      have q4 := Rt.cell (j := 4) s1 rfl
      have u0 := Rt.cell (j := 0) s2 rfl
      have u1 := Rt.cell (j := 1) s2 rfl
      have u2 := Rt.cell (j := 2) s2 rfl
      have u3 := Rt.cell (j := 3) s2 rfl
      go_simp
    try simp only [Act.put, List.setIfInBounds_toArray, List.set_cons_zero, List.set_cons_succ]
    refine skH 13 rfl ?_
    try simp only [Act.put, List.setIfInBounds_toArray, List.set_cons_zero, List.set_cons_succ]
    refine skH 14 rfl ?_
    try simp only [Act.put, List.setIfInBounds_toArray, List.set_cons_zero, List.set_cons_succ]
    refine skH 15 rfl ?_
    try simp only [Act.put, List.setIfInBounds_toArray, List.set_cons_zero, List.set_cons_succ]
    refine skH 16 rfl ?_
    try simp only [Act.put, List.setIfInBounds_toArray, List.set_cons_zero, List.set_cons_succ]
    refine skH 17 rfl ?_
    try simp only [Act.put, List.setIfInBounds_toArray, List.set_cons_zero, List.set_cons_succ]
    refine skH 18 rfl ?_
    try simp only [Act.put, List.setIfInBounds_toArray, List.set_cons_zero, List.set_cons_succ]
    refine skH 19 rfl ?_
    try simp only [Act.put, List.setIfInBounds_toArray, List.set_cons_zero, List.set_cons_succ]
    refine tkH 20 (.bool true) rfl (fun w hSw => ?_) ?_
    · (try dsimp only at hSw)
      obtain ⟨s1, s2⟩ := hSw
      have q0 := Rt.cell (j := 0) s1 rfl
      have q1 := Rt.cell (j := 1) s1 rfl
      have q2 := Rt.cell (j := 2) s1 rfl
      have q3 := Rt.cell (j := 3) s1 rfl
      have q4 := Rt.cell (j := 4) s1 rfl
      have u0 := Rt.cell (j := 0) s2 rfl
      have u1 := Rt.cell (j := 1) s2 rfl
      have u2 := Rt.cell (j := 2) s2 rfl
      have u3 := Rt.cell (j := 3) s2 rfl
      go_simp
    try simp only [Act.put, List.setIfInBounds_toArray, List.set_cons_zero, List.set_cons_succ]
    refine wpAnyH_done (by kernel_rfl) ?_ _
    refine NoPanic.normal ?_
    have d0 := hR.cell (j := 0) rfl
    have d1 := hR.cell (j := 1) rfl
    have d2 := hR.cell (j := 2) rfl
    have d3 := hR.cell (j := 3) rfl
    have d4 := hR.cell (j := 4) rfl
    have z0 := hZ.cell (j := 0) rfl
    have z1 := hZ.cell (j := 1) rfl
    have z2 := hZ.cell (j := 2) rfl
    have z3 := hZ.cell (j := 3) rfl
    have z4 := hZ.cell (j := 4) rfl
    have f0 := hZ.frz 0
    have f1 := hZ.frz 1
    have f2 := hZ.frz 2
    have f3 := hZ.frz 3
    have f4 := hZ.frz 4
    have hB5 := (((((hB.setCell (p := ⟨b0 + 2, 0, none⟩) (by show w.heap.size ≤ b0 + 2; omega) (.int .i64 ix)).setCell (p := ⟨b0 + 2, 1, none⟩) (by show w.heap.size ≤ b0 + 2; omega) (.int .i64 st)).setCell (p := ⟨b0 + 2, 2, none⟩) (by show w.heap.size ≤ b0 + 2; omega) (.string cf)).setCell (p := ⟨b0 + 2, 3, none⟩) (by show w.heap.size ≤ b0 + 2; omega) (.string dt)).setCell (p := ⟨b0 + 2, 4, none⟩) (by show w.heap.size ≤ b0 + 2; omega) (.slice A n c))
    have hZ5 := (((((hZ.set 0 (.int .i64 ix)).set 1 (.int .i64 st)).set 2 (.string cf)).set 3 (.string dt)).set 4 (.slice A n c))
    obtain ⟨W5, hW5⟩ : ∃ W5, (((((k9.setCell ⟨b0 + 2, 0, none⟩ (.int .i64 ix)).setCell ⟨b0 + 2, 1, none⟩ (.int .i64 st)).setCell ⟨b0 + 2, 2, none⟩ (.string cf)).setCell ⟨b0 + 2, 3, none⟩ (.string dt)).setCell ⟨b0 + 2, 4, none⟩ (.slice A n c)) = W5 := ⟨_, rfl⟩
    rw [hW5] at hB5 hZ5
    have g0 := hZ5.cell (j := 0) rfl
    have g1 := hZ5.cell (j := 1) rfl
    have g2 := hZ5.cell (j := 2) rfl
    have g3 := hZ5.cell (j := 3) rfl
    have g4 := hZ5.cell (j := 4) rfl
    have HW5 := Lib.hid hW5
    clear hZ hZ5 hW5
    go_wp2
    rw [HW5.out]
    refine bodyPost_ret (v := .tuple #[.agg #[.int .i64 ix, .int .i64 st, .string cf, .string dt, .slice A n c], .bool false]) ?_ rfl ?_
    · simp [results, Try.results14, go_sem, g0, g1, g2, g3, g4]
    · exact ⟨_, rfl, by simp, hB5⟩
  · by_cases c2 : ix + (n : Int) < sx
    · have hf0 := hfo c2
      subst hf0
      have hp2 : (⟨⟨ix, st, cf, dt⟩, L⟩, false) = (r', b) := by
        rw [← hp]; unfold pck13
        rw [if_neg (by rintro ⟨e1, e2⟩; rw [HFB.out] at e2; cases e2)]
      injection hp2 with e1 e2
      subst e1; subst e2
      go_enter Try.func14, Try.ntmps14
      go_wp2_with fail
      replace hR : Rt W0.drew b0 32 [.int .i64 ix, .int .i64 st, .string cf, .string dt, .slice A n c] := hR
      replace hS : Rt W0.drew (b0 + 1) 23 [.int .i64 sx, .int .i64 sy, .string sc, .string sd] := hS
      replace hZ : Rt W0.drew (b0 + 2) 32 [.int .i64 0, .int .i64 0, .string ⟨#[]⟩, .string ⟨#[]⟩, .slice none 0 0] := hZ
      replace hB := hB.drew
      refine wp_region_noPanic ?_
      refine wp_region_held_drew (S := fun W => Rt W b0 32 [.int .i64 ix, .int .i64 st, .string cf, .string dt, .slice A n c] ∧ Rt W (b0 + 1) 23 [.int .i64 sx, .int .i64 sy, .string sc, .string sd]) (by kernel_rfl) ?_ (fun hHeld => ?_)
      · exact ⟨hR, hS⟩
      generalize W0.drew = kz at *
      refine tkH 0 (.pointer (some ⟨b0 + 1, 0, none⟩)) rfl (fun w hSw => ?_) ?_
      · (try dsimp only at hSw)
        obtain ⟨s1, s2⟩ := hSw
        have q0 := Rt.cell (j := 0) s1 rfl
        have q1 := Rt.cell (j := 1) s1 rfl
        have q2 := Rt.cell (j := 2) s1 rfl
        have q3 := Rt.cell (j := 3) s1 rfl
        have q4 := Rt.cell (j := 4) s1 rfl
        have u0 := Rt.cell (j := 0) s2 rfl
        have u1 := Rt.cell (j := 1) s2 rfl
        have u2 := Rt.cell (j := 2) s2 rfl
        have u3 := Rt.cell (j := 3) s2 rfl
        go_simp
      try simp only [Act.put, List.setIfInBounds_toArray, List.set_cons_zero, List.set_cons_succ]
      refine tkH 1 (.int .i64 sx) rfl (fun w hSw => ?_) ?_
      · (try dsimp only at hSw)
        obtain ⟨s1, s2⟩ := hSw
        have q0 := Rt.cell (j := 0) s1 rfl
        have q1 := Rt.cell (j := 1) s1 rfl
        have q2 := Rt.cell (j := 2) s1 rfl
        have q3 := Rt.cell (j := 3) s1 rfl
        have q4 := Rt.cell (j := 4) s1 rfl
        have u0 := Rt.cell (j := 0) s2 rfl
        have u1 := Rt.cell (j := 1) s2 rfl
        have u2 := Rt.cell (j := 2) s2 rfl
        have u3 := Rt.cell (j := 3) s2 rfl
        go_simp
      try simp only [Act.put, List.setIfInBounds_toArray, List.set_cons_zero, List.set_cons_succ]
      refine tkH 2 (.agg #[.int .i64 ix, .int .i64 st, .string cf, .string dt, .slice A n c]) rfl (fun w hSw => ?_) ?_
      · (try dsimp only at hSw)
        obtain ⟨s1, s2⟩ := hSw
        have q0 := Rt.cell (j := 0) s1 rfl
        have q1 := Rt.cell (j := 1) s1 rfl
        have q2 := Rt.cell (j := 2) s1 rfl
        have q3 := Rt.cell (j := 3) s1 rfl
        have q4 := Rt.cell (j := 4) s1 rfl
        have u0 := Rt.cell (j := 0) s2 rfl
        have u1 := Rt.cell (j := 1) s2 rfl
        have u2 := Rt.cell (j := 2) s2 rfl
        have u3 := Rt.cell (j := 3) s2 rfl
        go_simp
      try simp only [Act.put, List.setIfInBounds_toArray, List.set_cons_zero, List.set_cons_succ]
      refine stH 3 rfl (fun K hK => ?_)
      go_simp
      go_at_call 49
      refine (HF.out _).mono ?_
      rintro e k9 ⟨rfl, h'⟩
      replace hR := hR.below h'
      replace hS := hS.below h'
      replace hZ := hZ.below h'
      replace hB := hB.trans (h'.mono hB.size)
      clear h'
      refine hK.out _ _ ?_ (fun hHeld => ?_)
      · exact ⟨hR, hS⟩
      clear hK K
      try simp only [Act.put, List.setIfInBounds_toArray, List.set_cons_zero, List.set_cons_succ]
      refine tkH 4 (.bool false) rfl (fun w hSw => ?_) ?_
      · (try dsimp only at hSw)
        obtain ⟨s1, s2⟩ := hSw
        have q0 := Rt.cell (j := 0) s1 rfl
        have q1 := Rt.cell (j := 1) s1 rfl
        have q2 := Rt.cell (j := 2) s1 rfl
        have q3 := Rt.cell (j := 3) s1 rfl
        have q4 := Rt.cell (j := 4) s1 rfl
        have u0 := Rt.cell (j := 0) s2 rfl
        have u1 := Rt.cell (j := 1) s2 rfl
        have u2 := Rt.cell (j := 2) s2 rfl
        have u3 := Rt.cell (j := 3) s2 rfl
        go_simp
      try simp only [Act.put, List.setIfInBounds_toArray, List.set_cons_zero, List.set_cons_succ]
      refine tkH 5 (.bool false) rfl (fun w hSw => ?_) ?_
      · (try dsimp only at hSw)
        obtain ⟨s1, s2⟩ := hSw
        have q0 := Rt.cell (j := 0) s1 rfl
        have q1 := Rt.cell (j := 1) s1 rfl
        have q2 := Rt.cell (j := 2) s1 rfl
        have q3 := Rt.cell (j := 3) s1 rfl
        have q4 := Rt.cell (j := 4) s1 rfl
        have u0 := Rt.cell (j := 0) s2 rfl
        have u1 := Rt.cell (j := 1) s2 rfl
        have u2 := Rt.cell (j := 2) s2 rfl
        have u3 := Rt.cell (j := 3) s2 rfl
        go_simp
      try simp only [Act.put, List.setIfInBounds_toArray, List.set_cons_zero, List.set_cons_succ]
      refine tkH 6 (.pointer (some ⟨b0 + 1, 0, none⟩)) rfl (fun w hSw => ?_) ?_
      · (try dsimp only at hSw)
        obtain ⟨s1, s2⟩ := hSw
        have q0 := Rt.cell (j := 0) s1 rfl
        have q1 := Rt.cell (j := 1) s1 rfl
        have q2 := Rt.cell (j := 2) s1 rfl
        have q3 := Rt.cell (j := 3) s1 rfl
        have q4 := Rt.cell (j := 4) s1 rfl
        have u0 := Rt.cell (j := 0) s2 rfl
        have u1 := Rt.cell (j := 1) s2 rfl
        have u2 := Rt.cell (j := 2) s2 rfl
        have u3 := Rt.cell (j := 3) s2 rfl
        go_simp
      try simp only [Act.put, List.setIfInBounds_toArray, List.set_cons_zero, List.set_cons_succ]
      refine tkH 7 (.int .i64 sx) rfl (fun w hSw => ?_) ?_
      · (try dsimp only at hSw)
        obtain ⟨s1, s2⟩ := hSw
        have q0 := Rt.cell (j := 0) s1 rfl
        have q1 := Rt.cell (j := 1) s1 rfl
        have q2 := Rt.cell (j := 2) s1 rfl
        have q3 := Rt.cell (j := 3) s1 rfl
        have q4 := Rt.cell (j := 4) s1 rfl
        have u0 := Rt.cell (j := 0) s2 rfl
        have u1 := Rt.cell (j := 1) s2 rfl
        have u2 := Rt.cell (j := 2) s2 rfl
        have u3 := Rt.cell (j := 3) s2 rfl
        go_simp
      try simp only [Act.put, List.setIfInBounds_toArray, List.set_cons_zero, List.set_cons_succ]
      refine tkH 8 (.agg #[.int .i64 ix, .int .i64 st, .string cf, .string dt, .slice A n c]) rfl (fun w hSw => ?_) ?_
      · (try dsimp only at hSw)
        obtain ⟨s1, s2⟩ := hSw
        have q0 := Rt.cell (j := 0) s1 rfl
        have q1 := Rt.cell (j := 1) s1 rfl
        have q2 := Rt.cell (j := 2) s1 rfl
        have q3 := Rt.cell (j := 3) s1 rfl
        have q4 := Rt.cell (j := 4) s1 rfl
        have u0 := Rt.cell (j := 0) s2 rfl
        have u1 := Rt.cell (j := 1) s2 rfl
        have u2 := Rt.cell (j := 2) s2 rfl
        have u3 := Rt.cell (j := 3) s2 rfl
        go_simp
      try simp only [Act.put, List.setIfInBounds_toArray, List.set_cons_zero, List.set_cons_succ]
      refine stH 9 rfl (fun K hK => ?_)
      go_simp
      go_at_call 48
      refine (HL.out _).mono ?_
      rintro e k9 ⟨rfl, h'⟩
      replace hR := hR.below h'
      replace hS := hS.below h'
      replace hZ := hZ.below h'
      replace hB := hB.trans (h'.mono hB.size)
      clear h'
      refine hK.out _ _ ?_ (fun hHeld => ?_)
      · exact ⟨hR, hS⟩
      clear hK K
      try simp only [Act.put, List.setIfInBounds_toArray, List.set_cons_zero, List.set_cons_succ]
      refine tkH 10 (.bool true) rfl (fun w hSw => ?_) ?_
      · (try dsimp only at hSw)
        obtain ⟨s1, s2⟩ := hSw
        have q0 := Rt.cell (j := 0) s1 rfl
        have q1 := Rt.cell (j := 1) s1 rfl
        have q2 := Rt.cell (j := 2) s1 rfl
        have q3 := Rt.cell (j := 3) s1 rfl
        have q4 := Rt.cell (j := 4) s1 rfl
        have u0 := Rt.cell (j := 0) s2 rfl
        have u1 := Rt.cell (j := 1) s2 rfl
        have u2 := Rt.cell (j := 2) s2 rfl
        have u3 := Rt.cell (j := 3) s2 rfl
        go_simp
      try simp only [Act.put, List.setIfInBounds_toArray, List.set_cons_zero, List.set_cons_succ]
      refine tkH 11 (.bool true) rfl (fun w hSw => ?_) ?_
      · (try dsimp only at hSw)
        obtain ⟨s1, s2⟩ := hSw
        have q0 := Rt.cell (j := 0) s1 rfl
        have q1 := Rt.cell (j := 1) s1 rfl
        have q2 := Rt.cell (j := 2) s1 rfl
        have q3 := Rt.cell (j := 3) s1 rfl
        have q4 := Rt.cell (j := 4) s1 rfl
        have u0 := Rt.cell (j := 0) s2 rfl
        have u1 := Rt.cell (j := 1) s2 rfl
        have u2 := Rt.cell (j := 2) s2 rfl
        have u3 := Rt.cell (j := 3) s2 rfl
        go_simp
      try simp only [Act.put, List.setIfInBounds_toArray, List.set_cons_zero, List.set_cons_succ]
      refine tkH 12 (.bool true) rfl (fun w hSw => ?_) ?_
      · (try dsimp only at hSw)
        obtain ⟨s1, s2⟩ := hSw
        have q0 := Rt.cell (j := 0) s1 rfl
        have q1 := Rt.cell (j := 1) s1 rfl
        have q2 := Rt.cell (j := 2) s1 rfl
        have q3 := Rt.cell (j := 3) s1 rfl
        have q4 := Rt.cell (j := 4) s1 rfl
        have u0 := Rt.cell (j := 0) s2 rfl
        have u1 := Rt.cell (j := 1) s2 rfl
        have u2 := Rt.cell (j := 2) s2 rfl
        have u3 := Rt.cell (j := 3) s2 rfl
        go_simp
      try simp only [Act.put, List.setIfInBounds_toArray, List.set_cons_zero, List.set_cons_succ]
      refine skH 13 rfl ?_
      try simp only [Act.put, List.setIfInBounds_toArray, List.set_cons_zero, List.set_cons_succ]
      refine skH 14 rfl ?_
      try simp only [Act.put, List.setIfInBounds_toArray, List.set_cons_zero, List.set_cons_succ]
      refine skH 15 rfl ?_
      try simp only [Act.put, List.setIfInBounds_toArray, List.set_cons_zero, List.set_cons_succ]
      refine skH 16 rfl ?_
      try simp only [Act.put, List.setIfInBounds_toArray, List.set_cons_zero, List.set_cons_succ]
      refine skH 17 rfl ?_
      try simp only [Act.put, List.setIfInBounds_toArray, List.set_cons_zero, List.set_cons_succ]
      refine skH 18 rfl ?_
      try simp only [Act.put, List.setIfInBounds_toArray, List.set_cons_zero, List.set_cons_succ]
      refine skH 19 rfl ?_
      try simp only [Act.put, List.setIfInBounds_toArray, List.set_cons_zero, List.set_cons_succ]
      refine tkH 20 (.bool true) rfl (fun w hSw => ?_) ?_
      · (try dsimp only at hSw)
        obtain ⟨s1, s2⟩ := hSw
        have q0 := Rt.cell (j := 0) s1 rfl
        have q1 := Rt.cell (j := 1) s1 rfl
        have q2 := Rt.cell (j := 2) s1 rfl
        have q3 := Rt.cell (j := 3) s1 rfl
        have q4 := Rt.cell (j := 4) s1 rfl
        have u0 := Rt.cell (j := 0) s2 rfl
        have u1 := Rt.cell (j := 1) s2 rfl
        have u2 := Rt.cell (j := 2) s2 rfl
        have u3 := Rt.cell (j := 3) s2 rfl
        go_simp
      try simp only [Act.put, List.setIfInBounds_toArray, List.set_cons_zero, List.set_cons_succ]
      refine wpAnyH_done (by kernel_rfl) ?_ _
      refine NoPanic.normal ?_
      have d0 := hR.cell (j := 0) rfl
      have d1 := hR.cell (j := 1) rfl
      have d2 := hR.cell (j := 2) rfl
      have d3 := hR.cell (j := 3) rfl
      have d4 := hR.cell (j := 4) rfl
      have z0 := hZ.cell (j := 0) rfl
      have z1 := hZ.cell (j := 1) rfl
      have z2 := hZ.cell (j := 2) rfl
      have z3 := hZ.cell (j := 3) rfl
      have z4 := hZ.cell (j := 4) rfl
      have f0 := hZ.frz 0
      have f1 := hZ.frz 1
      have f2 := hZ.frz 2
      have f3 := hZ.frz 3
      have f4 := hZ.frz 4
      have hB5 := (((((hB.setCell (p := ⟨b0 + 2, 0, none⟩) (by show w.heap.size ≤ b0 + 2; omega) (.int .i64 ix)).setCell (p := ⟨b0 + 2, 1, none⟩) (by show w.heap.size ≤ b0 + 2; omega) (.int .i64 st)).setCell (p := ⟨b0 + 2, 2, none⟩) (by show w.heap.size ≤ b0 + 2; omega) (.string cf)).setCell (p := ⟨b0 + 2, 3, none⟩) (by show w.heap.size ≤ b0 + 2; omega) (.string dt)).setCell (p := ⟨b0 + 2, 4, none⟩) (by show w.heap.size ≤ b0 + 2; omega) (.slice A n c))
      have hZ5 := (((((hZ.set 0 (.int .i64 ix)).set 1 (.int .i64 st)).set 2 (.string cf)).set 3 (.string dt)).set 4 (.slice A n c))
      obtain ⟨W5, hW5⟩ : ∃ W5, (((((k9.setCell ⟨b0 + 2, 0, none⟩ (.int .i64 ix)).setCell ⟨b0 + 2, 1, none⟩ (.int .i64 st)).setCell ⟨b0 + 2, 2, none⟩ (.string cf)).setCell ⟨b0 + 2, 3, none⟩ (.string dt)).setCell ⟨b0 + 2, 4, none⟩ (.slice A n c)) = W5 := ⟨_, rfl⟩
      rw [hW5] at hB5 hZ5
      have g0 := hZ5.cell (j := 0) rfl
      have g1 := hZ5.cell (j := 1) rfl
      have g2 := hZ5.cell (j := 2) rfl
      have g3 := hZ5.cell (j := 3) rfl
      have g4 := hZ5.cell (j := 4) rfl
      have HW5 := Lib.hid hW5
      clear hZ hZ5 hW5
      go_wp2
      rw [HW5.out]
      refine bodyPost_ret (v := .tuple #[.agg #[.int .i64 ix, .int .i64 st, .string cf, .string dt, .slice A n c], .bool false]) ?_ rfl ?_
      · simp [results, Try.results14, go_sem, g0, g1, g2, g3, g4]
      · exact ⟨_, rfl, by simp, hB5⟩
    · cases fb with
      | false =>
        have hp2 : (⟨⟨ix, st, cf, dt⟩, L⟩, false) = (r', b) := by
          rw [← hp]; unfold pck13
          rw [if_neg (by rintro ⟨e1, e2⟩; rw [HFB.out] at e2; cases e2)]
        injection hp2 with e1 e2
        subst e1; subst e2
        go_enter Try.func14, Try.ntmps14
        go_wp2_with fail
        replace hR : Rt W0.drew b0 32 [.int .i64 ix, .int .i64 st, .string cf, .string dt, .slice A n c] := hR
        replace hS : Rt W0.drew (b0 + 1) 23 [.int .i64 sx, .int .i64 sy, .string sc, .string sd] := hS
        replace hZ : Rt W0.drew (b0 + 2) 32 [.int .i64 0, .int .i64 0, .string ⟨#[]⟩, .string ⟨#[]⟩, .slice none 0 0] := hZ
        replace hB := hB.drew
        refine wp_region_noPanic ?_
        refine wp_region_held_drew (S := fun W => Rt W b0 32 [.int .i64 ix, .int .i64 st, .string cf, .string dt, .slice A n c] ∧ Rt W (b0 + 1) 23 [.int .i64 sx, .int .i64 sy, .string sc, .string sd]) (by kernel_rfl) ?_ (fun hHeld => ?_)
        · exact ⟨hR, hS⟩
        generalize W0.drew = kz at *
        refine tkH 0 (.pointer (some ⟨b0 + 1, 0, none⟩)) rfl (fun w hSw => ?_) ?_
        · (try dsimp only at hSw)
          obtain ⟨s1, s2⟩ := hSw
          have q0 := Rt.cell (j := 0) s1 rfl
          have q1 := Rt.cell (j := 1) s1 rfl
          have q2 := Rt.cell (j := 2) s1 rfl
          have q3 := Rt.cell (j := 3) s1 rfl
          have q4 := Rt.cell (j := 4) s1 rfl
          have u0 := Rt.cell (j := 0) s2 rfl
          have u1 := Rt.cell (j := 1) s2 rfl
          have u2 := Rt.cell (j := 2) s2 rfl
          have u3 := Rt.cell (j := 3) s2 rfl
          go_simp
        try simp only [Act.put, List.setIfInBounds_toArray, List.set_cons_zero, List.set_cons_succ]
        refine tkH 1 (.int .i64 sx) rfl (fun w hSw => ?_) ?_
        · (try dsimp only at hSw)
          obtain ⟨s1, s2⟩ := hSw
          have q0 := Rt.cell (j := 0) s1 rfl
          have q1 := Rt.cell (j := 1) s1 rfl
          have q2 := Rt.cell (j := 2) s1 rfl
          have q3 := Rt.cell (j := 3) s1 rfl
          have q4 := Rt.cell (j := 4) s1 rfl
          have u0 := Rt.cell (j := 0) s2 rfl
          have u1 := Rt.cell (j := 1) s2 rfl
          have u2 := Rt.cell (j := 2) s2 rfl
          have u3 := Rt.cell (j := 3) s2 rfl
          go_simp
        try simp only [Act.put, List.setIfInBounds_toArray, List.set_cons_zero, List.set_cons_succ]
        refine tkH 2 (.agg #[.int .i64 ix, .int .i64 st, .string cf, .string dt, .slice A n c]) rfl (fun w hSw => ?_) ?_
        · (try dsimp only at hSw)
          obtain ⟨s1, s2⟩ := hSw
          have q0 := Rt.cell (j := 0) s1 rfl
          have q1 := Rt.cell (j := 1) s1 rfl
          have q2 := Rt.cell (j := 2) s1 rfl
          have q3 := Rt.cell (j := 3) s1 rfl
          have q4 := Rt.cell (j := 4) s1 rfl
          have u0 := Rt.cell (j := 0) s2 rfl
          have u1 := Rt.cell (j := 1) s2 rfl
          have u2 := Rt.cell (j := 2) s2 rfl
          have u3 := Rt.cell (j := 3) s2 rfl
          go_simp
        try simp only [Act.put, List.setIfInBounds_toArray, List.set_cons_zero, List.set_cons_succ]
        refine stH 3 rfl (fun K hK => ?_)
        go_simp
        go_at_call 49
        refine (HF.out _).mono ?_
        rintro e k9 ⟨rfl, h'⟩
        replace hR := hR.below h'
        replace hS := hS.below h'
        replace hZ := hZ.below h'
        replace hB := hB.trans (h'.mono hB.size)
        clear h'
        refine hK.out _ _ ?_ (fun hHeld => ?_)
        · exact ⟨hR, hS⟩
        clear hK K
        try simp only [Act.put, List.setIfInBounds_toArray, List.set_cons_zero, List.set_cons_succ]
        refine tkH 4 (.bool false) rfl (fun w hSw => ?_) ?_
        · (try dsimp only at hSw)
          obtain ⟨s1, s2⟩ := hSw
          have q0 := Rt.cell (j := 0) s1 rfl
          have q1 := Rt.cell (j := 1) s1 rfl
          have q2 := Rt.cell (j := 2) s1 rfl
          have q3 := Rt.cell (j := 3) s1 rfl
          have q4 := Rt.cell (j := 4) s1 rfl
          have u0 := Rt.cell (j := 0) s2 rfl
          have u1 := Rt.cell (j := 1) s2 rfl
          have u2 := Rt.cell (j := 2) s2 rfl
          have u3 := Rt.cell (j := 3) s2 rfl
          go_simp
        try simp only [Act.put, List.setIfInBounds_toArray, List.set_cons_zero, List.set_cons_succ]
        refine tkH 5 (.bool false) rfl (fun w hSw => ?_) ?_
        · (try dsimp only at hSw)
          obtain ⟨s1, s2⟩ := hSw
          have q0 := Rt.cell (j := 0) s1 rfl
          have q1 := Rt.cell (j := 1) s1 rfl
          have q2 := Rt.cell (j := 2) s1 rfl
          have q3 := Rt.cell (j := 3) s1 rfl
          have q4 := Rt.cell (j := 4) s1 rfl
          have u0 := Rt.cell (j := 0) s2 rfl
          have u1 := Rt.cell (j := 1) s2 rfl
          have u2 := Rt.cell (j := 2) s2 rfl
          have u3 := Rt.cell (j := 3) s2 rfl
          go_simp
        try simp only [Act.put, List.setIfInBounds_toArray, List.set_cons_zero, List.set_cons_succ]
        refine tkH 6 (.pointer (some ⟨b0 + 1, 0, none⟩)) rfl (fun w hSw => ?_) ?_
        · (try dsimp only at hSw)
          obtain ⟨s1, s2⟩ := hSw
          have q0 := Rt.cell (j := 0) s1 rfl
          have q1 := Rt.cell (j := 1) s1 rfl
          have q2 := Rt.cell (j := 2) s1 rfl
          have q3 := Rt.cell (j := 3) s1 rfl
          have q4 := Rt.cell (j := 4) s1 rfl
          have u0 := Rt.cell (j := 0) s2 rfl
          have u1 := Rt.cell (j := 1) s2 rfl
          have u2 := Rt.cell (j := 2) s2 rfl
          have u3 := Rt.cell (j := 3) s2 rfl
          go_simp
        try simp only [Act.put, List.setIfInBounds_toArray, List.set_cons_zero, List.set_cons_succ]
        refine tkH 7 (.int .i64 sx) rfl (fun w hSw => ?_) ?_
        · (try dsimp only at hSw)
          obtain ⟨s1, s2⟩ := hSw
          have q0 := Rt.cell (j := 0) s1 rfl
          have q1 := Rt.cell (j := 1) s1 rfl
          have q2 := Rt.cell (j := 2) s1 rfl
          have q3 := Rt.cell (j := 3) s1 rfl
          have q4 := Rt.cell (j := 4) s1 rfl
          have u0 := Rt.cell (j := 0) s2 rfl
          have u1 := Rt.cell (j := 1) s2 rfl
          have u2 := Rt.cell (j := 2) s2 rfl
          have u3 := Rt.cell (j := 3) s2 rfl
          go_simp
        try simp only [Act.put, List.setIfInBounds_toArray, List.set_cons_zero, List.set_cons_succ]
        refine tkH 8 (.agg #[.int .i64 ix, .int .i64 st, .string cf, .string dt, .slice A n c]) rfl (fun w hSw => ?_) ?_
        · (try dsimp only at hSw)
          obtain ⟨s1, s2⟩ := hSw
          have q0 := Rt.cell (j := 0) s1 rfl
          have q1 := Rt.cell (j := 1) s1 rfl
          have q2 := Rt.cell (j := 2) s1 rfl
          have q3 := Rt.cell (j := 3) s1 rfl
          have q4 := Rt.cell (j := 4) s1 rfl
          have u0 := Rt.cell (j := 0) s2 rfl
          have u1 := Rt.cell (j := 1) s2 rfl
          have u2 := Rt.cell (j := 2) s2 rfl
          have u3 := Rt.cell (j := 3) s2 rfl
          go_simp
        try simp only [Act.put, List.setIfInBounds_toArray, List.set_cons_zero, List.set_cons_succ]
        refine stH 9 rfl (fun K hK => ?_)
        go_simp
        go_at_call 48
        refine (HL.out _).mono ?_
        rintro e k9 ⟨rfl, h'⟩
        replace hR := hR.below h'
        replace hS := hS.below h'
        replace hZ := hZ.below h'
        replace hB := hB.trans (h'.mono hB.size)
        clear h'
        refine hK.out _ _ ?_ (fun hHeld => ?_)
        · exact ⟨hR, hS⟩
        clear hK K
        try simp only [Act.put, List.setIfInBounds_toArray, List.set_cons_zero, List.set_cons_succ]
        refine tkH 10 (.bool false) rfl (fun w hSw => ?_) ?_
        · (try dsimp only at hSw)
          obtain ⟨s1, s2⟩ := hSw
          have q0 := Rt.cell (j := 0) s1 rfl
          have q1 := Rt.cell (j := 1) s1 rfl
          have q2 := Rt.cell (j := 2) s1 rfl
          have q3 := Rt.cell (j := 3) s1 rfl
          have q4 := Rt.cell (j := 4) s1 rfl
          have u0 := Rt.cell (j := 0) s2 rfl
          have u1 := Rt.cell (j := 1) s2 rfl
          have u2 := Rt.cell (j := 2) s2 rfl
          have u3 := Rt.cell (j := 3) s2 rfl
          go_simp
        try simp only [Act.put, List.setIfInBounds_toArray, List.set_cons_zero, List.set_cons_succ]
        refine tkH 11 (.bool false) rfl (fun w hSw => ?_) ?_
        · (try dsimp only at hSw)
          obtain ⟨s1, s2⟩ := hSw
          have q0 := Rt.cell (j := 0) s1 rfl
          have q1 := Rt.cell (j := 1) s1 rfl
          have q2 := Rt.cell (j := 2) s1 rfl
          have q3 := Rt.cell (j := 3) s1 rfl
          have q4 := Rt.cell (j := 4) s1 rfl
          have u0 := Rt.cell (j := 0) s2 rfl
          have u1 := Rt.cell (j := 1) s2 rfl
          have u2 := Rt.cell (j := 2) s2 rfl
          have u3 := Rt.cell (j := 3) s2 rfl
          go_simp
        try simp only [Act.put, List.setIfInBounds_toArray, List.set_cons_zero, List.set_cons_succ]
        refine tkH 12 (.bool false) rfl (fun w hSw => ?_) ?_
        · (try dsimp only at hSw)
          obtain ⟨s1, s2⟩ := hSw
          have q0 := Rt.cell (j := 0) s1 rfl
          have q1 := Rt.cell (j := 1) s1 rfl
          have q2 := Rt.cell (j := 2) s1 rfl
          have q3 := Rt.cell (j := 3) s1 rfl
          have q4 := Rt.cell (j := 4) s1 rfl
          have u0 := Rt.cell (j := 0) s2 rfl
          have u1 := Rt.cell (j := 1) s2 rfl
          have u2 := Rt.cell (j := 2) s2 rfl
          have u3 := Rt.cell (j := 3) s2 rfl
          go_simp
        try simp only [Act.put, List.setIfInBounds_toArray, List.set_cons_zero, List.set_cons_succ]
        refine tkH 13 (.agg #[.int .i64 ix, .int .i64 st, .string cf, .string dt, .slice A n c]) rfl (fun w hSw => ?_) ?_
        · (try dsimp only at hSw)
          obtain ⟨s1, s2⟩ := hSw
          have q0 := Rt.cell (j := 0) s1 rfl
          have q1 := Rt.cell (j := 1) s1 rfl
          have q2 := Rt.cell (j := 2) s1 rfl
          have q3 := Rt.cell (j := 3) s1 rfl
          have q4 := Rt.cell (j := 4) s1 rfl
          have u0 := Rt.cell (j := 0) s2 rfl
          have u1 := Rt.cell (j := 1) s2 rfl
          have u2 := Rt.cell (j := 2) s2 rfl
          have u3 := Rt.cell (j := 3) s2 rfl
          go_simp
        try simp only [Act.put, List.setIfInBounds_toArray, List.set_cons_zero, List.set_cons_succ]
        refine tkH 14 (.pointer (some ⟨b0 + 1, 0, none⟩)) rfl (fun w hSw => ?_) ?_
        · (try dsimp only at hSw)
          obtain ⟨s1, s2⟩ := hSw
          have q0 := Rt.cell (j := 0) s1 rfl
          have q1 := Rt.cell (j := 1) s1 rfl
          have q2 := Rt.cell (j := 2) s1 rfl
          have q3 := Rt.cell (j := 3) s1 rfl
          have q4 := Rt.cell (j := 4) s1 rfl
          have u0 := Rt.cell (j := 0) s2 rfl
          have u1 := Rt.cell (j := 1) s2 rfl
          have u2 := Rt.cell (j := 2) s2 rfl
          have u3 := Rt.cell (j := 3) s2 rfl
          go_simp
        try simp only [Act.put, List.setIfInBounds_toArray, List.set_cons_zero, List.set_cons_succ]
        refine tkH 15 (.int .i64 sx) rfl (fun w hSw => ?_) ?_
        · (try dsimp only at hSw)
          obtain ⟨s1, s2⟩ := hSw
          have q0 := Rt.cell (j := 0) s1 rfl
          have q1 := Rt.cell (j := 1) s1 rfl
          have q2 := Rt.cell (j := 2) s1 rfl
          have q3 := Rt.cell (j := 3) s1 rfl
          have q4 := Rt.cell (j := 4) s1 rfl
          have u0 := Rt.cell (j := 0) s2 rfl
          have u1 := Rt.cell (j := 1) s2 rfl
          have u2 := Rt.cell (j := 2) s2 rfl
          have u3 := Rt.cell (j := 3) s2 rfl
          go_simp
        try simp only [Act.put, List.setIfInBounds_toArray, List.set_cons_zero, List.set_cons_succ]
        refine tkH 16 (.pointer (some ⟨b0 + 1, 1, none⟩)) rfl (fun w hSw => ?_) ?_
        · (try dsimp only at hSw)
          obtain ⟨s1, s2⟩ := hSw
          have q0 := Rt.cell (j := 0) s1 rfl
          have q1 := Rt.cell (j := 1) s1 rfl
          have q2 := Rt.cell (j := 2) s1 rfl
          have q3 := Rt.cell (j := 3) s1 rfl
          have q4 := Rt.cell (j := 4) s1 rfl
          have u0 := Rt.cell (j := 0) s2 rfl
          have u1 := Rt.cell (j := 1) s2 rfl
          have u2 := Rt.cell (j := 2) s2 rfl
          have u3 := Rt.cell (j := 3) s2 rfl
          go_simp
        try simp only [Act.put, List.setIfInBounds_toArray, List.set_cons_zero, List.set_cons_succ]
        refine tkH 17 (.int .i64 sy) rfl (fun w hSw => ?_) ?_
        · (try dsimp only at hSw)
          obtain ⟨s1, s2⟩ := hSw
          have q0 := Rt.cell (j := 0) s1 rfl
          have q1 := Rt.cell (j := 1) s1 rfl
          have q2 := Rt.cell (j := 2) s1 rfl
          have q3 := Rt.cell (j := 3) s1 rfl
          have q4 := Rt.cell (j := 4) s1 rfl
          have u0 := Rt.cell (j := 0) s2 rfl
          have u1 := Rt.cell (j := 1) s2 rfl
          have u2 := Rt.cell (j := 2) s2 rfl
          have u3 := Rt.cell (j := 3) s2 rfl
          go_simp
        try simp only [Act.put, List.setIfInBounds_toArray, List.set_cons_zero, List.set_cons_succ]
        refine stH 18 rfl (fun K hK => ?_)
        go_simp
        go_at_call 20
        refine (HT.out _ hB).mono ?_
        rintro e k9 ⟨rfl, h'⟩
        replace hR := hR.below h'
        replace hS := hS.below h'
        replace hZ := hZ.below h'
        replace hB := hB.trans (h'.mono hB.size)
        clear h'
        refine hK.out _ _ ?_ (fun hHeld => ?_)
        · exact ⟨hR, hS⟩
        clear hK K
        try simp only [Act.put, List.setIfInBounds_toArray, List.set_cons_zero, List.set_cons_succ]
        refine tkH 19 (.bool (!false)) rfl (fun w hSw => ?_) ?_
        · (try dsimp only at hSw)
          obtain ⟨s1, s2⟩ := hSw
          have q0 := Rt.cell (j := 0) s1 rfl
          have q1 := Rt.cell (j := 1) s1 rfl
          have q2 := Rt.cell (j := 2) s1 rfl
          have q3 := Rt.cell (j := 3) s1 rfl
          have q4 := Rt.cell (j := 4) s1 rfl
          have u0 := Rt.cell (j := 0) s2 rfl
          have u1 := Rt.cell (j := 1) s2 rfl
          have u2 := Rt.cell (j := 2) s2 rfl
          have u3 := Rt.cell (j := 3) s2 rfl
          go_simp
        try simp only [Act.put, List.setIfInBounds_toArray, List.set_cons_zero, List.set_cons_succ]
        refine tkH 20 (.bool (!false)) rfl (fun w hSw => ?_) ?_
        · (try dsimp only at hSw)
          obtain ⟨s1, s2⟩ := hSw
          have q0 := Rt.cell (j := 0) s1 rfl
          have q1 := Rt.cell (j := 1) s1 rfl
          have q2 := Rt.cell (j := 2) s1 rfl
          have q3 := Rt.cell (j := 3) s1 rfl
          have q4 := Rt.cell (j := 4) s1 rfl
          have u0 := Rt.cell (j := 0) s2 rfl
          have u1 := Rt.cell (j := 1) s2 rfl
          have u2 := Rt.cell (j := 2) s2 rfl
          have u3 := Rt.cell (j := 3) s2 rfl
          go_simp
        try simp only [Act.put, List.setIfInBounds_toArray, List.set_cons_zero, List.set_cons_succ]
        refine wpAnyH_done (by kernel_rfl) ?_ _
        refine NoPanic.normal ?_
        have d0 := hR.cell (j := 0) rfl
        have d1 := hR.cell (j := 1) rfl
        have d2 := hR.cell (j := 2) rfl
        have d3 := hR.cell (j := 3) rfl
        have d4 := hR.cell (j := 4) rfl
        have z0 := hZ.cell (j := 0) rfl
        have z1 := hZ.cell (j := 1) rfl
        have z2 := hZ.cell (j := 2) rfl
        have z3 := hZ.cell (j := 3) rfl
        have z4 := hZ.cell (j := 4) rfl
        have f0 := hZ.frz 0
        have f1 := hZ.frz 1
        have f2 := hZ.frz 2
        have f3 := hZ.frz 3
        have f4 := hZ.frz 4
        have hB5 := (((((hB.setCell (p := ⟨b0 + 2, 0, none⟩) (by show w.heap.size ≤ b0 + 2; omega) (.int .i64 ix)).setCell (p := ⟨b0 + 2, 1, none⟩) (by show w.heap.size ≤ b0 + 2; omega) (.int .i64 st)).setCell (p := ⟨b0 + 2, 2, none⟩) (by show w.heap.size ≤ b0 + 2; omega) (.string cf)).setCell (p := ⟨b0 + 2, 3, none⟩) (by show w.heap.size ≤ b0 + 2; omega) (.string dt)).setCell (p := ⟨b0 + 2, 4, none⟩) (by show w.heap.size ≤ b0 + 2; omega) (.slice A n c))
        have hZ5 := (((((hZ.set 0 (.int .i64 ix)).set 1 (.int .i64 st)).set 2 (.string cf)).set 3 (.string dt)).set 4 (.slice A n c))
        obtain ⟨W5, hW5⟩ : ∃ W5, (((((k9.setCell ⟨b0 + 2, 0, none⟩ (.int .i64 ix)).setCell ⟨b0 + 2, 1, none⟩ (.int .i64 st)).setCell ⟨b0 + 2, 2, none⟩ (.string cf)).setCell ⟨b0 + 2, 3, none⟩ (.string dt)).setCell ⟨b0 + 2, 4, none⟩ (.slice A n c)) = W5 := ⟨_, rfl⟩
        rw [hW5] at hB5 hZ5
        have g0 := hZ5.cell (j := 0) rfl
        have g1 := hZ5.cell (j := 1) rfl
        have g2 := hZ5.cell (j := 2) rfl
        have g3 := hZ5.cell (j := 3) rfl
        have g4 := hZ5.cell (j := 4) rfl
        have HW5 := Lib.hid hW5
        clear hZ hZ5 hW5
        go_wp2
        rw [HW5.out]
        refine bodyPost_ret (v := .tuple #[.agg #[.int .i64 ix, .int .i64 st, .string cf, .string dt, .slice A n c], .bool false]) ?_ rfl ?_
        · simp [results, Try.results14, go_sem, g0, g1, g2, g3, g4]
        · exact ⟨_, rfl, by simp, hB5⟩
      | true =>
        have hp2 : (⟨⟨sx, sy, sc, sd⟩, L.drop (sx - ix).toNat⟩, true) = (r', b) := by
          rw [← hp]; unfold pck13
          rw [if_pos ⟨by show ix < sx; omega, HFB.out⟩]
        injection hp2 with e1 e2
        subst e1; subst e2
        obtain ⟨q, hq⟩ : ∃ q : Nat, sx - ix = (q : Int) := ⟨(sx - ix).toNat, by omega⟩
        have hqn : q ≤ n := by omega
        go_enter Try.func14, Try.ntmps14
        go_wp2_with fail
        replace hR : Rt W0.drew b0 32 [.int .i64 ix, .int .i64 st, .string cf, .string dt, .slice A n c] := hR
        replace hS : Rt W0.drew (b0 + 1) 23 [.int .i64 sx, .int .i64 sy, .string sc, .string sd] := hS
        replace hZ : Rt W0.drew (b0 + 2) 32 [.int .i64 0, .int .i64 0, .string ⟨#[]⟩, .string ⟨#[]⟩, .slice none 0 0] := hZ
        replace hB := hB.drew
        refine wp_region_noPanic ?_
        refine wp_region_held_drew (S := fun W => Rt W b0 32 [.int .i64 ix, .int .i64 st, .string cf, .string dt, .slice A n c] ∧ Rt W (b0 + 1) 23 [.int .i64 sx, .int .i64 sy, .string sc, .string sd]) (by kernel_rfl) ?_ (fun hHeld => ?_)
        · exact ⟨hR, hS⟩
        generalize W0.drew = kz at *
        refine tkH 0 (.pointer (some ⟨b0 + 1, 0, none⟩)) rfl (fun w hSw => ?_) ?_
        · (try dsimp only at hSw)
          obtain ⟨s1, s2⟩ := hSw
          have q0 := Rt.cell (j := 0) s1 rfl
          have q1 := Rt.cell (j := 1) s1 rfl
          have q2 := Rt.cell (j := 2) s1 rfl
          have q3 := Rt.cell (j := 3) s1 rfl
          have q4 := Rt.cell (j := 4) s1 rfl
          have u0 := Rt.cell (j := 0) s2 rfl
          have u1 := Rt.cell (j := 1) s2 rfl
          have u2 := Rt.cell (j := 2) s2 rfl
          have u3 := Rt.cell (j := 3) s2 rfl
          go_simp
        try simp only [Act.put, List.setIfInBounds_toArray, List.set_cons_zero, List.set_cons_succ]
        refine tkH 1 (.int .i64 sx) rfl (fun w hSw => ?_) ?_
        · (try dsimp only at hSw)
          obtain ⟨s1, s2⟩ := hSw
          have q0 := Rt.cell (j := 0) s1 rfl
          have q1 := Rt.cell (j := 1) s1 rfl
          have q2 := Rt.cell (j := 2) s1 rfl
          have q3 := Rt.cell (j := 3) s1 rfl
          have q4 := Rt.cell (j := 4) s1 rfl
          have u0 := Rt.cell (j := 0) s2 rfl
          have u1 := Rt.cell (j := 1) s2 rfl
          have u2 := Rt.cell (j := 2) s2 rfl
          have u3 := Rt.cell (j := 3) s2 rfl
          go_simp
        try simp only [Act.put, List.setIfInBounds_toArray, List.set_cons_zero, List.set_cons_succ]
        refine tkH 2 (.agg #[.int .i64 ix, .int .i64 st, .string cf, .string dt, .slice A n c]) rfl (fun w hSw => ?_) ?_
        · (try dsimp only at hSw)
          obtain ⟨s1, s2⟩ := hSw
          have q0 := Rt.cell (j := 0) s1 rfl
          have q1 := Rt.cell (j := 1) s1 rfl
          have q2 := Rt.cell (j := 2) s1 rfl
          have q3 := Rt.cell (j := 3) s1 rfl
          have q4 := Rt.cell (j := 4) s1 rfl
          have u0 := Rt.cell (j := 0) s2 rfl
          have u1 := Rt.cell (j := 1) s2 rfl
          have u2 := Rt.cell (j := 2) s2 rfl
          have u3 := Rt.cell (j := 3) s2 rfl
          go_simp
        try simp only [Act.put, List.setIfInBounds_toArray, List.set_cons_zero, List.set_cons_succ]
        refine stH 3 rfl (fun K hK => ?_)
        go_simp
        go_at_call 49
        refine (HF.out _).mono ?_
        rintro e k9 ⟨rfl, h'⟩
        replace hR := hR.below h'
        replace hS := hS.below h'
        replace hZ := hZ.below h'
        replace hB := hB.trans (h'.mono hB.size)
        clear h'
        refine hK.out _ _ ?_ (fun hHeld => ?_)
        · exact ⟨hR, hS⟩
        clear hK K
        try simp only [Act.put, List.setIfInBounds_toArray, List.set_cons_zero, List.set_cons_succ]
        refine tkH 4 (.bool false) rfl (fun w hSw => ?_) ?_
        · (try dsimp only at hSw)
          obtain ⟨s1, s2⟩ := hSw
          have q0 := Rt.cell (j := 0) s1 rfl
          have q1 := Rt.cell (j := 1) s1 rfl
          have q2 := Rt.cell (j := 2) s1 rfl
          have q3 := Rt.cell (j := 3) s1 rfl
          have q4 := Rt.cell (j := 4) s1 rfl
          have u0 := Rt.cell (j := 0) s2 rfl
          have u1 := Rt.cell (j := 1) s2 rfl
          have u2 := Rt.cell (j := 2) s2 rfl
          have u3 := Rt.cell (j := 3) s2 rfl
          go_simp
        try simp only [Act.put, List.setIfInBounds_toArray, List.set_cons_zero, List.set_cons_succ]
        refine tkH 5 (.bool false) rfl (fun w hSw => ?_) ?_
        · (try dsimp only at hSw)
          obtain ⟨s1, s2⟩ := hSw
          have q0 := Rt.cell (j := 0) s1 rfl
          have q1 := Rt.cell (j := 1) s1 rfl
          have q2 := Rt.cell (j := 2) s1 rfl
          have q3 := Rt.cell (j := 3) s1 rfl
          have q4 := Rt.cell (j := 4) s1 rfl
          have u0 := Rt.cell (j := 0) s2 rfl
          have u1 := Rt.cell (j := 1) s2 rfl
          have u2 := Rt.cell (j := 2) s2 rfl
          have u3 := Rt.cell (j := 3) s2 rfl
          go_simp
        try simp only [Act.put, List.setIfInBounds_toArray, List.set_cons_zero, List.set_cons_succ]
        refine tkH 6 (.pointer (some ⟨b0 + 1, 0, none⟩)) rfl (fun w hSw => ?_) ?_
        · (try dsimp only at hSw)
          obtain ⟨s1, s2⟩ := hSw
          have q0 := Rt.cell (j := 0) s1 rfl
          have q1 := Rt.cell (j := 1) s1 rfl
          have q2 := Rt.cell (j := 2) s1 rfl
          have q3 := Rt.cell (j := 3) s1 rfl
          have q4 := Rt.cell (j := 4) s1 rfl
          have u0 := Rt.cell (j := 0) s2 rfl
          have u1 := Rt.cell (j := 1) s2 rfl
          have u2 := Rt.cell (j := 2) s2 rfl
          have u3 := Rt.cell (j := 3) s2 rfl
          go_simp
        try simp only [Act.put, List.setIfInBounds_toArray, List.set_cons_zero, List.set_cons_succ]
        refine tkH 7 (.int .i64 sx) rfl (fun w hSw => ?_) ?_
        · (try dsimp only at hSw)
          obtain ⟨s1, s2⟩ := hSw
          have q0 := Rt.cell (j := 0) s1 rfl
          have q1 := Rt.cell (j := 1) s1 rfl
          have q2 := Rt.cell (j := 2) s1 rfl
          have q3 := Rt.cell (j := 3) s1 rfl
          have q4 := Rt.cell (j := 4) s1 rfl
          have u0 := Rt.cell (j := 0) s2 rfl
          have u1 := Rt.cell (j := 1) s2 rfl
          have u2 := Rt.cell (j := 2) s2 rfl
          have u3 := Rt.cell (j := 3) s2 rfl
          go_simp
        try simp only [Act.put, List.setIfInBounds_toArray, List.set_cons_zero, List.set_cons_succ]
        refine tkH 8 (.agg #[.int .i64 ix, .int .i64 st, .string cf, .string dt, .slice A n c]) rfl (fun w hSw => ?_) ?_
        · (try dsimp only at hSw)
          obtain ⟨s1, s2⟩ := hSw
          have q0 := Rt.cell (j := 0) s1 rfl
          have q1 := Rt.cell (j := 1) s1 rfl
          have q2 := Rt.cell (j := 2) s1 rfl
          have q3 := Rt.cell (j := 3) s1 rfl
          have q4 := Rt.cell (j := 4) s1 rfl
          have u0 := Rt.cell (j := 0) s2 rfl
          have u1 := Rt.cell (j := 1) s2 rfl
          have u2 := Rt.cell (j := 2) s2 rfl
          have u3 := Rt.cell (j := 3) s2 rfl
          go_simp
        try simp only [Act.put, List.setIfInBounds_toArray, List.set_cons_zero, List.set_cons_succ]
        refine stH 9 rfl (fun K hK => ?_)
        go_simp
        go_at_call 48
        refine (HL.out _).mono ?_
        rintro e k9 ⟨rfl, h'⟩
        replace hR := hR.below h'
        replace hS := hS.below h'
        replace hZ := hZ.below h'
        replace hB := hB.trans (h'.mono hB.size)
        clear h'
        refine hK.out _ _ ?_ (fun hHeld => ?_)
        · exact ⟨hR, hS⟩
        clear hK K
        try simp only [Act.put, List.setIfInBounds_toArray, List.set_cons_zero, List.set_cons_succ]
        refine tkH 10 (.bool false) rfl (fun w hSw => ?_) ?_
        · (try dsimp only at hSw)
          obtain ⟨s1, s2⟩ := hSw
          have q0 := Rt.cell (j := 0) s1 rfl
          have q1 := Rt.cell (j := 1) s1 rfl
          have q2 := Rt.cell (j := 2) s1 rfl
          have q3 := Rt.cell (j := 3) s1 rfl
          have q4 := Rt.cell (j := 4) s1 rfl
          have u0 := Rt.cell (j := 0) s2 rfl
          have u1 := Rt.cell (j := 1) s2 rfl
          have u2 := Rt.cell (j := 2) s2 rfl
          have u3 := Rt.cell (j := 3) s2 rfl
          go_simp
        try simp only [Act.put, List.setIfInBounds_toArray, List.set_cons_zero, List.set_cons_succ]
        refine tkH 11 (.bool false) rfl (fun w hSw => ?_) ?_
        · (try dsimp only at hSw)
          obtain ⟨s1, s2⟩ := hSw
          have q0 := Rt.cell (j := 0) s1 rfl
          have q1 := Rt.cell (j := 1) s1 rfl
          have q2 := Rt.cell (j := 2) s1 rfl
          have q3 := Rt.cell (j := 3) s1 rfl
          have q4 := Rt.cell (j := 4) s1 rfl
          have u0 := Rt.cell (j := 0) s2 rfl
          have u1 := Rt.cell (j := 1) s2 rfl
          have u2 := Rt.cell (j := 2) s2 rfl
          have u3 := Rt.cell (j := 3) s2 rfl
          go_simp
        try simp only [Act.put, List.setIfInBounds_toArray, List.set_cons_zero, List.set_cons_succ]
        refine tkH 12 (.bool false) rfl (fun w hSw => ?_) ?_
        · (try dsimp only at hSw)
          obtain ⟨s1, s2⟩ := hSw
          have q0 := Rt.cell (j := 0) s1 rfl
          have q1 := Rt.cell (j := 1) s1 rfl
          have q2 := Rt.cell (j := 2) s1 rfl
          have q3 := Rt.cell (j := 3) s1 rfl
          have q4 := Rt.cell (j := 4) s1 rfl
          have u0 := Rt.cell (j := 0) s2 rfl
          have u1 := Rt.cell (j := 1) s2 rfl
          have u2 := Rt.cell (j := 2) s2 rfl
          have u3 := Rt.cell (j := 3) s2 rfl
          go_simp
        try simp only [Act.put, List.setIfInBounds_toArray, List.set_cons_zero, List.set_cons_succ]
        refine tkH 13 (.agg #[.int .i64 ix, .int .i64 st, .string cf, .string dt, .slice A n c]) rfl (fun w hSw => ?_) ?_
        · (try dsimp only at hSw)
          obtain ⟨s1, s2⟩ := hSw
          have q0 := Rt.cell (j := 0) s1 rfl
          have q1 := Rt.cell (j := 1) s1 rfl
          have q2 := Rt.cell (j := 2) s1 rfl
          have q3 := Rt.cell (j := 3) s1 rfl
          have q4 := Rt.cell (j := 4) s1 rfl
          have u0 := Rt.cell (j := 0) s2 rfl
          have u1 := Rt.cell (j := 1) s2 rfl
          have u2 := Rt.cell (j := 2) s2 rfl
          have u3 := Rt.cell (j := 3) s2 rfl
          go_simp
        try simp only [Act.put, List.setIfInBounds_toArray, List.set_cons_zero, List.set_cons_succ]
        refine tkH 14 (.pointer (some ⟨b0 + 1, 0, none⟩)) rfl (fun w hSw => ?_) ?_
        · (try dsimp only at hSw)
          obtain ⟨s1, s2⟩ := hSw
          have q0 := Rt.cell (j := 0) s1 rfl
          have q1 := Rt.cell (j := 1) s1 rfl
          have q2 := Rt.cell (j := 2) s1 rfl
          have q3 := Rt.cell (j := 3) s1 rfl
          have q4 := Rt.cell (j := 4) s1 rfl
          have u0 := Rt.cell (j := 0) s2 rfl
          have u1 := Rt.cell (j := 1) s2 rfl
          have u2 := Rt.cell (j := 2) s2 rfl
          have u3 := Rt.cell (j := 3) s2 rfl
          go_simp
        try simp only [Act.put, List.setIfInBounds_toArray, List.set_cons_zero, List.set_cons_succ]
        refine tkH 15 (.int .i64 sx) rfl (fun w hSw => ?_) ?_
        · (try dsimp only at hSw)
          obtain ⟨s1, s2⟩ := hSw
          have q0 := Rt.cell (j := 0) s1 rfl
          have q1 := Rt.cell (j := 1) s1 rfl
          have q2 := Rt.cell (j := 2) s1 rfl
          have q3 := Rt.cell (j := 3) s1 rfl
          have q4 := Rt.cell (j := 4) s1 rfl
          have u0 := Rt.cell (j := 0) s2 rfl
          have u1 := Rt.cell (j := 1) s2 rfl
          have u2 := Rt.cell (j := 2) s2 rfl
          have u3 := Rt.cell (j := 3) s2 rfl
          go_simp
        try simp only [Act.put, List.setIfInBounds_toArray, List.set_cons_zero, List.set_cons_succ]
        refine tkH 16 (.pointer (some ⟨b0 + 1, 1, none⟩)) rfl (fun w hSw => ?_) ?_
        · (try dsimp only at hSw)
          obtain ⟨s1, s2⟩ := hSw
          have q0 := Rt.cell (j := 0) s1 rfl
          have q1 := Rt.cell (j := 1) s1 rfl
          have q2 := Rt.cell (j := 2) s1 rfl
          have q3 := Rt.cell (j := 3) s1 rfl
          have q4 := Rt.cell (j := 4) s1 rfl
          have u0 := Rt.cell (j := 0) s2 rfl
          have u1 := Rt.cell (j := 1) s2 rfl
          have u2 := Rt.cell (j := 2) s2 rfl
          have u3 := Rt.cell (j := 3) s2 rfl
          go_simp
        try simp only [Act.put, List.setIfInBounds_toArray, List.set_cons_zero, List.set_cons_succ]
        refine tkH 17 (.int .i64 sy) rfl (fun w hSw => ?_) ?_
        · (try dsimp only at hSw)
          obtain ⟨s1, s2⟩ := hSw
          have q0 := Rt.cell (j := 0) s1 rfl
          have q1 := Rt.cell (j := 1) s1 rfl
          have q2 := Rt.cell (j := 2) s1 rfl
          have q3 := Rt.cell (j := 3) s1 rfl
          have q4 := Rt.cell (j := 4) s1 rfl
          have u0 := Rt.cell (j := 0) s2 rfl
          have u1 := Rt.cell (j := 1) s2 rfl
          have u2 := Rt.cell (j := 2) s2 rfl
          have u3 := Rt.cell (j := 3) s2 rfl
          go_simp
        try simp only [Act.put, List.setIfInBounds_toArray, List.set_cons_zero, List.set_cons_succ]
        refine stH 18 rfl (fun K hK => ?_)
        go_simp
        go_at_call 20
        refine (HT.out _ hB).mono ?_
        rintro e k9 ⟨rfl, h'⟩
        replace hR := hR.below h'
        replace hS := hS.below h'
        replace hZ := hZ.below h'
        replace hB := hB.trans (h'.mono hB.size)
        clear h'
        refine hK.out _ _ ?_ (fun hHeld => ?_)
        · exact ⟨hR, hS⟩
        clear hK K
        try simp only [Act.put, List.setIfInBounds_toArray, List.set_cons_zero, List.set_cons_succ]
        refine tkH 19 (.bool (!true)) rfl (fun w hSw => ?_) ?_
        · (try dsimp only at hSw)
          obtain ⟨s1, s2⟩ := hSw
          have q0 := Rt.cell (j := 0) s1 rfl
          have q1 := Rt.cell (j := 1) s1 rfl
          have q2 := Rt.cell (j := 2) s1 rfl
          have q3 := Rt.cell (j := 3) s1 rfl
          have q4 := Rt.cell (j := 4) s1 rfl
          have u0 := Rt.cell (j := 0) s2 rfl
          have u1 := Rt.cell (j := 1) s2 rfl
          have u2 := Rt.cell (j := 2) s2 rfl
          have u3 := Rt.cell (j := 3) s2 rfl
          go_simp
        try simp only [Act.put, List.setIfInBounds_toArray, List.set_cons_zero, List.set_cons_succ]
        refine tkH 20 (.bool (!true)) rfl (fun w hSw => ?_) ?_
        · (try dsimp only at hSw)
          obtain ⟨s1, s2⟩ := hSw
          have q0 := Rt.cell (j := 0) s1 rfl
          have q1 := Rt.cell (j := 1) s1 rfl
          have q2 := Rt.cell (j := 2) s1 rfl
          have q3 := Rt.cell (j := 3) s1 rfl
          have q4 := Rt.cell (j := 4) s1 rfl
          have u0 := Rt.cell (j := 0) s2 rfl
          have u1 := Rt.cell (j := 1) s2 rfl
          have u2 := Rt.cell (j := 2) s2 rfl
          have u3 := Rt.cell (j := 3) s2 rfl
          go_simp
        try simp only [Act.put, List.setIfInBounds_toArray, List.set_cons_zero, List.set_cons_succ]
        refine wpAnyH_done (by kernel_rfl) ?_ _
        refine NoPanic.normal ?_
        have hq1 : 1 ≤ q := by omega
        have hwq : IntKind.i64.wrap (q : Int) = (q : Int) := by rw [IntKind.wrap_i64]; omega
        obtain ⟨a, o, hA, _, _, _⟩ := HE.out.at_ 0 (by rw [HN.out]; omega)
        subst hA
        have hdl : (L.drop q).length = n - q := by rw [List.length_drop, HN.out]
        have HDL := Lib.hid hdl
        have hl2 : ([] : List Ent).length + (L.drop q).length ≤ 1050000 := by rw [hdl]; simp; omega
        have hqi : (q : Int) ≤ (n : Int) := by omega
        have hq0 : ¬ (q : Int) < 0 := by omega
        clear hdl
        go_wp2_with fail
        by_cases hcq : c = q
        · subst hcq
          have hnc : n = c := by omega
          subst hnc
          replace hR : Rt k9.drew b0 32 [.int .i64 ix, .int .i64 st, .string cf, .string dt, .slice (some ⟨a, o, none⟩) n n] := hR
          replace hS : Rt k9.drew (b0 + 1) 23 [.int .i64 sx, .int .i64 sy, .string sc, .string sd] := hS
          replace hZ : Rt k9.drew (b0 + 2) 32 [.int .i64 0, .int .i64 0, .string ⟨#[]⟩, .string ⟨#[]⟩, .slice none 0 0] := hZ
          replace hB := hB.drew
          have hd := (HE.out.below hB).drop n (by rw [HN.out]; exact hqn)
          rw [if_pos rfl, HN.out, Nat.sub_self] at hd
          have HD := Lib.hid hd
          have HSZ := Lib.hid hB.size
          have HZ := Lib.hid hZ
          have HBq := Lib.hid hB
          clear hZ hB hd
          refine wp_region_noPanic ?_
          refine wp_region_held_drew (S := fun W => Rt W b0 32 [.int .i64 ix, .int .i64 st, .string cf, .string dt, .slice (some ⟨a, o, none⟩) n n] ∧ Rt W (b0 + 1) 23 [.int .i64 sx, .int .i64 sy, .string sc, .string sd]) (by kernel_rfl) ?_ (fun hHeld => ?_)
          · exact ⟨hR, hS⟩
          generalize k9.drew = kx at *
          refine tkH 0 (.agg #[.int .i64 sx, .int .i64 sy, .string sc, .string sd]) rfl (fun w hSw => ?_) ?_
          · (try dsimp only at hSw)
            obtain ⟨s1, s2⟩ := hSw
            have q0 := Rt.cell (j := 0) s1 rfl
            have q1 := Rt.cell (j := 1) s1 rfl
            have q2 := Rt.cell (j := 2) s1 rfl
            have q3 := Rt.cell (j := 3) s1 rfl
            have q4 := Rt.cell (j := 4) s1 rfl
            have u0 := Rt.cell (j := 0) s2 rfl
            have u1 := Rt.cell (j := 1) s2 rfl
            have u2 := Rt.cell (j := 2) s2 rfl
            have u3 := Rt.cell (j := 3) s2 rfl
            go_simp
          try simp only [Act.put, List.setIfInBounds_toArray, List.set_cons_zero, List.set_cons_succ]
          refine tkH 1 (.pointer (some ⟨b0, 4, none⟩)) rfl (fun w hSw => ?_) ?_
          · (try dsimp only at hSw)
            obtain ⟨s1, s2⟩ := hSw
            have q0 := Rt.cell (j := 0) s1 rfl
            have q1 := Rt.cell (j := 1) s1 rfl
            have q2 := Rt.cell (j := 2) s1 rfl
            have q3 := Rt.cell (j := 3) s1 rfl
            have q4 := Rt.cell (j := 4) s1 rfl
            have u0 := Rt.cell (j := 0) s2 rfl
            have u1 := Rt.cell (j := 1) s2 rfl
            have u2 := Rt.cell (j := 2) s2 rfl
            have u3 := Rt.cell (j := 3) s2 rfl
            go_simp
          try simp only [Act.put, List.setIfInBounds_toArray, List.set_cons_zero, List.set_cons_succ]
          refine tkH 2 (.slice (some ⟨a, o, none⟩) n n) rfl (fun w hSw => ?_) ?_
          · (try dsimp only at hSw)
            obtain ⟨s1, s2⟩ := hSw
            have q0 := Rt.cell (j := 0) s1 rfl
            have q1 := Rt.cell (j := 1) s1 rfl
            have q2 := Rt.cell (j := 2) s1 rfl
            have q3 := Rt.cell (j := 3) s1 rfl
            have q4 := Rt.cell (j := 4) s1 rfl
            have u0 := Rt.cell (j := 0) s2 rfl
            have u1 := Rt.cell (j := 1) s2 rfl
            have u2 := Rt.cell (j := 2) s2 rfl
            have u3 := Rt.cell (j := 3) s2 rfl
            go_simp
          try simp only [Act.put, List.setIfInBounds_toArray, List.set_cons_zero, List.set_cons_succ]
          refine tkH 3 (.pointer (some ⟨b0 + 1, 0, none⟩)) rfl (fun w hSw => ?_) ?_
          · (try dsimp only at hSw)
            obtain ⟨s1, s2⟩ := hSw
            have q0 := Rt.cell (j := 0) s1 rfl
            have q1 := Rt.cell (j := 1) s1 rfl
            have q2 := Rt.cell (j := 2) s1 rfl
            have q3 := Rt.cell (j := 3) s1 rfl
            have q4 := Rt.cell (j := 4) s1 rfl
            have u0 := Rt.cell (j := 0) s2 rfl
            have u1 := Rt.cell (j := 1) s2 rfl
            have u2 := Rt.cell (j := 2) s2 rfl
            have u3 := Rt.cell (j := 3) s2 rfl
            go_simp
          try simp only [Act.put, List.setIfInBounds_toArray, List.set_cons_zero, List.set_cons_succ]
          refine tkH 4 (.int .i64 sx) rfl (fun w hSw => ?_) ?_
          · (try dsimp only at hSw)
            obtain ⟨s1, s2⟩ := hSw
            have q0 := Rt.cell (j := 0) s1 rfl
            have q1 := Rt.cell (j := 1) s1 rfl
            have q2 := Rt.cell (j := 2) s1 rfl
            have q3 := Rt.cell (j := 3) s1 rfl
            have q4 := Rt.cell (j := 4) s1 rfl
            have u0 := Rt.cell (j := 0) s2 rfl
            have u1 := Rt.cell (j := 1) s2 rfl
            have u2 := Rt.cell (j := 2) s2 rfl
            have u3 := Rt.cell (j := 3) s2 rfl
            go_simp
          try simp only [Act.put, List.setIfInBounds_toArray, List.set_cons_zero, List.set_cons_succ]
          refine tkH 5 (.pointer (some ⟨b0, 0, none⟩)) rfl (fun w hSw => ?_) ?_
          · (try dsimp only at hSw)
            obtain ⟨s1, s2⟩ := hSw
            have q0 := Rt.cell (j := 0) s1 rfl
            have q1 := Rt.cell (j := 1) s1 rfl
            have q2 := Rt.cell (j := 2) s1 rfl
            have q3 := Rt.cell (j := 3) s1 rfl
            have q4 := Rt.cell (j := 4) s1 rfl
            have u0 := Rt.cell (j := 0) s2 rfl
            have u1 := Rt.cell (j := 1) s2 rfl
            have u2 := Rt.cell (j := 2) s2 rfl
            have u3 := Rt.cell (j := 3) s2 rfl
            go_simp
          try simp only [Act.put, List.setIfInBounds_toArray, List.set_cons_zero, List.set_cons_succ]
          refine tkH 6 (.pointer (some ⟨b0, 0, none⟩)) rfl (fun w hSw => ?_) ?_
          · (try dsimp only at hSw)
            obtain ⟨s1, s2⟩ := hSw
            have q0 := Rt.cell (j := 0) s1 rfl
            have q1 := Rt.cell (j := 1) s1 rfl
            have q2 := Rt.cell (j := 2) s1 rfl
            have q3 := Rt.cell (j := 3) s1 rfl
            have q4 := Rt.cell (j := 4) s1 rfl
            have u0 := Rt.cell (j := 0) s2 rfl
            have u1 := Rt.cell (j := 1) s2 rfl
            have u2 := Rt.cell (j := 2) s2 rfl
            have u3 := Rt.cell (j := 3) s2 rfl
            go_simp
          try simp only [Act.put, List.setIfInBounds_toArray, List.set_cons_zero, List.set_cons_succ]
          refine tkH 7 (.int .i64 ix) rfl (fun w hSw => ?_) ?_
          · (try dsimp only at hSw)
            obtain ⟨s1, s2⟩ := hSw
            have q0 := Rt.cell (j := 0) s1 rfl
            have q1 := Rt.cell (j := 1) s1 rfl
            have q2 := Rt.cell (j := 2) s1 rfl
            have q3 := Rt.cell (j := 3) s1 rfl
            have q4 := Rt.cell (j := 4) s1 rfl
            have u0 := Rt.cell (j := 0) s2 rfl
            have u1 := Rt.cell (j := 1) s2 rfl
            have u2 := Rt.cell (j := 2) s2 rfl
            have u3 := Rt.cell (j := 3) s2 rfl
            go_simp
          try simp only [Act.put, List.setIfInBounds_toArray, List.set_cons_zero, List.set_cons_succ]
          refine tkH 8 (.int .i64 (n : Int)) rfl (fun w hSw => ?_) ?_
          · (try dsimp only at hSw)
            obtain ⟨s1, s2⟩ := hSw
            have q0 := Rt.cell (j := 0) s1 rfl
            have q1 := Rt.cell (j := 1) s1 rfl
            have q2 := Rt.cell (j := 2) s1 rfl
            have q3 := Rt.cell (j := 3) s1 rfl
            have q4 := Rt.cell (j := 4) s1 rfl
            have u0 := Rt.cell (j := 0) s2 rfl
            have u1 := Rt.cell (j := 1) s2 rfl
            have u2 := Rt.cell (j := 2) s2 rfl
            have u3 := Rt.cell (j := 3) s2 rfl
            go_simp
          try simp only [Act.put, List.setIfInBounds_toArray, List.set_cons_zero, List.set_cons_succ]
          refine tkH 9 (.slice (some ⟨a, o, none⟩) 0 0) rfl (fun w hSw => ?_) ?_
          · (try dsimp only at hSw)
            obtain ⟨s1, s2⟩ := hSw
            have q0 := Rt.cell (j := 0) s1 rfl
            have q1 := Rt.cell (j := 1) s1 rfl
            have q2 := Rt.cell (j := 2) s1 rfl
            have q3 := Rt.cell (j := 3) s1 rfl
            have q4 := Rt.cell (j := 4) s1 rfl
            have u0 := Rt.cell (j := 0) s2 rfl
            have u1 := Rt.cell (j := 1) s2 rfl
            have u2 := Rt.cell (j := 2) s2 rfl
            have u3 := Rt.cell (j := 3) s2 rfl
            go_simp
          try simp only [Act.put, List.setIfInBounds_toArray, List.set_cons_zero, List.set_cons_succ]
          refine stH 10 rfl (fun K hK => ?_)
          refine wp_append_en _ _ rfl kx.heap.size N (.slice none 0 0) _ [] (L.drop n) rfl (OwnEn.nil _ _) rfl HD.out hl2 (Nat.le_refl _) ?_
          intro v' w' g1 g2 g3
          rw [List.nil_append] at g1
          obtain ⟨A3, c3, hv3⟩ := g1.slice
          rw [HDL.out, Nat.sub_self] at hv3
          subst hv3
          replace hR := hR.below g2
          replace hS := hS.below g2
          have hZ := HZ.out.below g2
          have hB := HBq.out.trans (g2.mono HSZ.out)
          have HG1 := Lib.hid g1
          clear g1 g2 g3
          refine hK.out _ _ ?_ (fun hHeld => ?_)
          · exact ⟨hR, hS⟩
          clear hK K
          try simp only [Act.put, List.setIfInBounds_toArray, List.set_cons_zero, List.set_cons_succ]
          refine tkH 11 (.agg #[.int .i64 sx, .int .i64 sy, .string sc, .string sd, .slice A3 0 c3]) rfl (fun w hSw => ?_) ?_
          · (try dsimp only at hSw)
            obtain ⟨s1, s2⟩ := hSw
            have q0 := Rt.cell (j := 0) s1 rfl
            have q1 := Rt.cell (j := 1) s1 rfl
            have q2 := Rt.cell (j := 2) s1 rfl
            have q3 := Rt.cell (j := 3) s1 rfl
            have q4 := Rt.cell (j := 4) s1 rfl
            have u0 := Rt.cell (j := 0) s2 rfl
            have u1 := Rt.cell (j := 1) s2 rfl
            have u2 := Rt.cell (j := 2) s2 rfl
            have u3 := Rt.cell (j := 3) s2 rfl
            go_simp
          try simp only [Act.put, List.setIfInBounds_toArray, List.set_cons_zero, List.set_cons_succ]
          refine stH 12 rfl (fun K hK => ?_)
          have z0 := hZ.cell (j := 0) rfl
          have z1 := hZ.cell (j := 1) rfl
          have z2 := hZ.cell (j := 2) rfl
          have z3 := hZ.cell (j := 3) rfl
          have z4 := hZ.cell (j := 4) rfl
          have f0 := hZ.frz 0
          have f1 := hZ.frz 1
          have f2 := hZ.frz 2
          have f3 := hZ.frz 3
          have f4 := hZ.frz 4
          have hB5 := (((((hB.setCell (p := ⟨b0 + 2, 0, none⟩) (by show w.heap.size ≤ b0 + 2; omega) (.int .i64 sx)).setCell (p := ⟨b0 + 2, 1, none⟩) (by show w.heap.size ≤ b0 + 2; omega) (.int .i64 sy)).setCell (p := ⟨b0 + 2, 2, none⟩) (by show w.heap.size ≤ b0 + 2; omega) (.string sc)).setCell (p := ⟨b0 + 2, 3, none⟩) (by show w.heap.size ≤ b0 + 2; omega) (.string sd)).setCell (p := ⟨b0 + 2, 4, none⟩) (by show w.heap.size ≤ b0 + 2; omega) (.slice A3 0 c3))
          have hZ5 := (((((hZ.set 0 (.int .i64 sx)).set 1 (.int .i64 sy)).set 2 (.string sc)).set 3 (.string sd)).set 4 (.slice A3 0 c3))
          obtain ⟨W5, hW5⟩ : ∃ W5, (((((w'.setCell ⟨b0 + 2, 0, none⟩ (.int .i64 sx)).setCell ⟨b0 + 2, 1, none⟩ (.int .i64 sy)).setCell ⟨b0 + 2, 2, none⟩ (.string sc)).setCell ⟨b0 + 2, 3, none⟩ (.string sd)).setCell ⟨b0 + 2, 4, none⟩ (.slice A3 0 c3)) = W5 := ⟨_, rfl⟩
          rw [hW5] at hB5 hZ5
          have g0 := hZ5.cell (j := 0) rfl
          have g1 := hZ5.cell (j := 1) rfl
          have g2 := hZ5.cell (j := 2) rfl
          have g3 := hZ5.cell (j := 3) rfl
          have g4 := hZ5.cell (j := 4) rfl
          have hR5 := (Rt.other (Rt.other (Rt.other (Rt.other (Rt.other hR 0 (.int .i64 sx) (show b0 ≠ b0 + 2 by omega)) 1 (.int .i64 sy) (show b0 ≠ b0 + 2 by omega)) 2 (.string sc) (show b0 ≠ b0 + 2 by omega)) 3 (.string sd) (show b0 ≠ b0 + 2 by omega)) 4 (.slice A3 0 c3) (show b0 ≠ b0 + 2 by omega))
          have hS5 := (Rt.other (Rt.other (Rt.other (Rt.other (Rt.other hS 0 (.int .i64 sx) (show b0 + 1 ≠ b0 + 2 by omega)) 1 (.int .i64 sy) (show b0 + 1 ≠ b0 + 2 by omega)) 2 (.string sc) (show b0 + 1 ≠ b0 + 2 by omega)) 3 (.string sd) (show b0 + 1 ≠ b0 + 2 by omega)) 4 (.slice A3 0 c3) (show b0 + 1 ≠ b0 + 2 by omega))
          rw [hW5] at hR5 hS5
          have HO5 := Lib.hid (HG1.out.off (S := fun j => j = b0 + 2) (show Off (fun j => j = b0 + 2) w' W5 from by rw [← hW5]; exact Off.set (Off.set (Off.set (Off.set (Off.set (Off.refl _ w') (.inl rfl)) (.inl rfl)) (.inl rfl)) (.inl rfl)) (.inl rfl)) (fun j hj e => by subst e; have h8 := (HG1.out.lt _ hj).1; have h9 := HZ.out.lt; omega))
          have HB5 := Lib.hid hB5
          clear hB5
          go_simp
          try rw [hW5]
          clear hZ hZ5 hW5 hB
          refine hK.out _ _ ?_ (fun hHeld => ?_)
          · exact ⟨hR5, hS5⟩
          clear hK K
          try simp only [Act.put, List.setIfInBounds_toArray, List.set_cons_zero, List.set_cons_succ]
          refine stH 13 rfl (fun K hK => ?_)
          go_simp
          refine hK.out _ _ ?_ (fun hHeld => ?_)
          · exact ⟨hR5, hS5⟩
          clear hK K
          try simp only [Act.put, List.setIfInBounds_toArray, List.set_cons_zero, List.set_cons_succ]
          refine wpAnyH_done (by kernel_rfl) ?_ _
          refine NoPanic.normal ?_
          go_wp2
          refine bodyPost_ret (v := .tuple #[.agg #[.int .i64 sx, .int .i64 sy, .string sc, .string sd, .slice A3 0 c3], .bool true]) ?_ rfl ?_
          · simp [results, Try.results14, go_sem, g0, g1, g2, g3, g4]
          · exact ⟨_, rfl, .inr ⟨by simp, by
              show OwnEn _ _ (L.drop (sx - ix).toNat) _
              rw [show (sx - ix).toNat = n by omega]
              exact HO5.out.down HSZ.out⟩, HB5.out⟩
        · replace hR : Rt k9.drew b0 32 [.int .i64 ix, .int .i64 st, .string cf, .string dt, .slice (some ⟨a, o, none⟩) n c] := hR
          replace hS : Rt k9.drew (b0 + 1) 23 [.int .i64 sx, .int .i64 sy, .string sc, .string sd] := hS
          replace hZ : Rt k9.drew (b0 + 2) 32 [.int .i64 0, .int .i64 0, .string ⟨#[]⟩, .string ⟨#[]⟩, .slice none 0 0] := hZ
          replace hB := hB.drew
          have hd := (HE.out.below hB).drop q (by rw [HN.out]; exact hqn)
          rw [if_neg hcq, HN.out, add_lit_10] at hd
          have HD := Lib.hid hd
          have HSZ := Lib.hid hB.size
          have HZ := Lib.hid hZ
          have HBq := Lib.hid hB
          clear hZ hB hd
          refine wp_region_noPanic ?_
          refine wp_region_held_drew (S := fun W => Rt W b0 32 [.int .i64 ix, .int .i64 st, .string cf, .string dt, .slice (some ⟨a, o, none⟩) n c] ∧ Rt W (b0 + 1) 23 [.int .i64 sx, .int .i64 sy, .string sc, .string sd]) (by kernel_rfl) ?_ (fun hHeld => ?_)
          · exact ⟨hR, hS⟩
          generalize k9.drew = kx at *
          refine tkH 0 (.agg #[.int .i64 sx, .int .i64 sy, .string sc, .string sd]) rfl (fun w hSw => ?_) ?_
          · (try dsimp only at hSw)
            obtain ⟨s1, s2⟩ := hSw
            have q0 := Rt.cell (j := 0) s1 rfl
            have q1 := Rt.cell (j := 1) s1 rfl
            have q2 := Rt.cell (j := 2) s1 rfl
            have q3 := Rt.cell (j := 3) s1 rfl
            have q4 := Rt.cell (j := 4) s1 rfl
            have u0 := Rt.cell (j := 0) s2 rfl
            have u1 := Rt.cell (j := 1) s2 rfl
            have u2 := Rt.cell (j := 2) s2 rfl
            have u3 := Rt.cell (j := 3) s2 rfl
            go_simp
          try simp only [Act.put, List.setIfInBounds_toArray, List.set_cons_zero, List.set_cons_succ]
          refine tkH 1 (.pointer (some ⟨b0, 4, none⟩)) rfl (fun w hSw => ?_) ?_
          · (try dsimp only at hSw)
            obtain ⟨s1, s2⟩ := hSw
            have q0 := Rt.cell (j := 0) s1 rfl
            have q1 := Rt.cell (j := 1) s1 rfl
            have q2 := Rt.cell (j := 2) s1 rfl
            have q3 := Rt.cell (j := 3) s1 rfl
            have q4 := Rt.cell (j := 4) s1 rfl
            have u0 := Rt.cell (j := 0) s2 rfl
            have u1 := Rt.cell (j := 1) s2 rfl
            have u2 := Rt.cell (j := 2) s2 rfl
            have u3 := Rt.cell (j := 3) s2 rfl
            go_simp
          try simp only [Act.put, List.setIfInBounds_toArray, List.set_cons_zero, List.set_cons_succ]
          refine tkH 2 (.slice (some ⟨a, o, none⟩) n c) rfl (fun w hSw => ?_) ?_
          · (try dsimp only at hSw)
            obtain ⟨s1, s2⟩ := hSw
            have q0 := Rt.cell (j := 0) s1 rfl
            have q1 := Rt.cell (j := 1) s1 rfl
            have q2 := Rt.cell (j := 2) s1 rfl
            have q3 := Rt.cell (j := 3) s1 rfl
            have q4 := Rt.cell (j := 4) s1 rfl
            have u0 := Rt.cell (j := 0) s2 rfl
            have u1 := Rt.cell (j := 1) s2 rfl
            have u2 := Rt.cell (j := 2) s2 rfl
            have u3 := Rt.cell (j := 3) s2 rfl
            go_simp
          try simp only [Act.put, List.setIfInBounds_toArray, List.set_cons_zero, List.set_cons_succ]
          refine tkH 3 (.pointer (some ⟨b0 + 1, 0, none⟩)) rfl (fun w hSw => ?_) ?_
          · (try dsimp only at hSw)
            obtain ⟨s1, s2⟩ := hSw
            have q0 := Rt.cell (j := 0) s1 rfl
            have q1 := Rt.cell (j := 1) s1 rfl
            have q2 := Rt.cell (j := 2) s1 rfl
            have q3 := Rt.cell (j := 3) s1 rfl
            have q4 := Rt.cell (j := 4) s1 rfl
            have u0 := Rt.cell (j := 0) s2 rfl
            have u1 := Rt.cell (j := 1) s2 rfl
            have u2 := Rt.cell (j := 2) s2 rfl
            have u3 := Rt.cell (j := 3) s2 rfl
            go_simp
          try simp only [Act.put, List.setIfInBounds_toArray, List.set_cons_zero, List.set_cons_succ]
          refine tkH 4 (.int .i64 sx) rfl (fun w hSw => ?_) ?_
          · (try dsimp only at hSw)
            obtain ⟨s1, s2⟩ := hSw
            have q0 := Rt.cell (j := 0) s1 rfl
            have q1 := Rt.cell (j := 1) s1 rfl
            have q2 := Rt.cell (j := 2) s1 rfl
            have q3 := Rt.cell (j := 3) s1 rfl
            have q4 := Rt.cell (j := 4) s1 rfl
            have u0 := Rt.cell (j := 0) s2 rfl
            have u1 := Rt.cell (j := 1) s2 rfl
            have u2 := Rt.cell (j := 2) s2 rfl
            have u3 := Rt.cell (j := 3) s2 rfl
            go_simp
          try simp only [Act.put, List.setIfInBounds_toArray, List.set_cons_zero, List.set_cons_succ]
          refine tkH 5 (.pointer (some ⟨b0, 0, none⟩)) rfl (fun w hSw => ?_) ?_
          · (try dsimp only at hSw)
            obtain ⟨s1, s2⟩ := hSw
            have q0 := Rt.cell (j := 0) s1 rfl
            have q1 := Rt.cell (j := 1) s1 rfl
            have q2 := Rt.cell (j := 2) s1 rfl
            have q3 := Rt.cell (j := 3) s1 rfl
            have q4 := Rt.cell (j := 4) s1 rfl
            have u0 := Rt.cell (j := 0) s2 rfl
            have u1 := Rt.cell (j := 1) s2 rfl
            have u2 := Rt.cell (j := 2) s2 rfl
            have u3 := Rt.cell (j := 3) s2 rfl
            go_simp
          try simp only [Act.put, List.setIfInBounds_toArray, List.set_cons_zero, List.set_cons_succ]
          refine tkH 6 (.pointer (some ⟨b0, 0, none⟩)) rfl (fun w hSw => ?_) ?_
          · (try dsimp only at hSw)
            obtain ⟨s1, s2⟩ := hSw
            have q0 := Rt.cell (j := 0) s1 rfl
            have q1 := Rt.cell (j := 1) s1 rfl
            have q2 := Rt.cell (j := 2) s1 rfl
            have q3 := Rt.cell (j := 3) s1 rfl
            have q4 := Rt.cell (j := 4) s1 rfl
            have u0 := Rt.cell (j := 0) s2 rfl
            have u1 := Rt.cell (j := 1) s2 rfl
            have u2 := Rt.cell (j := 2) s2 rfl
            have u3 := Rt.cell (j := 3) s2 rfl
            go_simp
          try simp only [Act.put, List.setIfInBounds_toArray, List.set_cons_zero, List.set_cons_succ]
          refine tkH 7 (.int .i64 ix) rfl (fun w hSw => ?_) ?_
          · (try dsimp only at hSw)
            obtain ⟨s1, s2⟩ := hSw
            have q0 := Rt.cell (j := 0) s1 rfl
            have q1 := Rt.cell (j := 1) s1 rfl
            have q2 := Rt.cell (j := 2) s1 rfl
            have q3 := Rt.cell (j := 3) s1 rfl
            have q4 := Rt.cell (j := 4) s1 rfl
            have u0 := Rt.cell (j := 0) s2 rfl
            have u1 := Rt.cell (j := 1) s2 rfl
            have u2 := Rt.cell (j := 2) s2 rfl
            have u3 := Rt.cell (j := 3) s2 rfl
            go_simp
          try simp only [Act.put, List.setIfInBounds_toArray, List.set_cons_zero, List.set_cons_succ]
          refine tkH 8 (.int .i64 (q : Int)) rfl (fun w hSw => ?_) ?_
          · (try dsimp only at hSw)
            obtain ⟨s1, s2⟩ := hSw
            have q0 := Rt.cell (j := 0) s1 rfl
            have q1 := Rt.cell (j := 1) s1 rfl
            have q2 := Rt.cell (j := 2) s1 rfl
            have q3 := Rt.cell (j := 3) s1 rfl
            have q4 := Rt.cell (j := 4) s1 rfl
            have u0 := Rt.cell (j := 0) s2 rfl
            have u1 := Rt.cell (j := 1) s2 rfl
            have u2 := Rt.cell (j := 2) s2 rfl
            have u3 := Rt.cell (j := 3) s2 rfl
            go_simp
          try simp only [Act.put, List.setIfInBounds_toArray, List.set_cons_zero, List.set_cons_succ]
          refine tkH 9 (.slice (some ⟨a, o + q * 4, none⟩) (n - q) (c - q)) rfl (fun w hSw => ?_) ?_
          · (try dsimp only at hSw)
            obtain ⟨s1, s2⟩ := hSw
            have q0 := Rt.cell (j := 0) s1 rfl
            have q1 := Rt.cell (j := 1) s1 rfl
            have q2 := Rt.cell (j := 2) s1 rfl
            have q3 := Rt.cell (j := 3) s1 rfl
            have q4 := Rt.cell (j := 4) s1 rfl
            have u0 := Rt.cell (j := 0) s2 rfl
            have u1 := Rt.cell (j := 1) s2 rfl
            have u2 := Rt.cell (j := 2) s2 rfl
            have u3 := Rt.cell (j := 3) s2 rfl
            go_simp
          try simp only [Act.put, List.setIfInBounds_toArray, List.set_cons_zero, List.set_cons_succ]
          refine stH 10 rfl (fun K hK => ?_)
          refine wp_append_en _ _ rfl kx.heap.size N (.slice none 0 0) _ [] (L.drop q) rfl (OwnEn.nil _ _) rfl HD.out hl2 (Nat.le_refl _) ?_
          intro v' w' g1 g2 g3
          rw [List.nil_append] at g1
          obtain ⟨A3, c3, hv3⟩ := g1.slice
          rw [HDL.out] at hv3
          subst hv3
          replace hR := hR.below g2
          replace hS := hS.below g2
          have hZ := HZ.out.below g2
          have hB := HBq.out.trans (g2.mono HSZ.out)
          have HG1 := Lib.hid g1
          clear g1 g2 g3
          refine hK.out _ _ ?_ (fun hHeld => ?_)
          · exact ⟨hR, hS⟩
          clear hK K
          try simp only [Act.put, List.setIfInBounds_toArray, List.set_cons_zero, List.set_cons_succ]
          refine tkH 11 (.agg #[.int .i64 sx, .int .i64 sy, .string sc, .string sd, .slice A3 (n - q) c3]) rfl (fun w hSw => ?_) ?_
          · (try dsimp only at hSw)
            obtain ⟨s1, s2⟩ := hSw
            have q0 := Rt.cell (j := 0) s1 rfl
            have q1 := Rt.cell (j := 1) s1 rfl
            have q2 := Rt.cell (j := 2) s1 rfl
            have q3 := Rt.cell (j := 3) s1 rfl
            have q4 := Rt.cell (j := 4) s1 rfl
            have u0 := Rt.cell (j := 0) s2 rfl
            have u1 := Rt.cell (j := 1) s2 rfl
            have u2 := Rt.cell (j := 2) s2 rfl
            have u3 := Rt.cell (j := 3) s2 rfl
            go_simp
          try simp only [Act.put, List.setIfInBounds_toArray, List.set_cons_zero, List.set_cons_succ]
          refine stH 12 rfl (fun K hK => ?_)
          have z0 := hZ.cell (j := 0) rfl
          have z1 := hZ.cell (j := 1) rfl
          have z2 := hZ.cell (j := 2) rfl
          have z3 := hZ.cell (j := 3) rfl
          have z4 := hZ.cell (j := 4) rfl
          have f0 := hZ.frz 0
          have f1 := hZ.frz 1
          have f2 := hZ.frz 2
          have f3 := hZ.frz 3
          have f4 := hZ.frz 4
          have hB5 := (((((hB.setCell (p := ⟨b0 + 2, 0, none⟩) (by show w.heap.size ≤ b0 + 2; omega) (.int .i64 sx)).setCell (p := ⟨b0 + 2, 1, none⟩) (by show w.heap.size ≤ b0 + 2; omega) (.int .i64 sy)).setCell (p := ⟨b0 + 2, 2, none⟩) (by show w.heap.size ≤ b0 + 2; omega) (.string sc)).setCell (p := ⟨b0 + 2, 3, none⟩) (by show w.heap.size ≤ b0 + 2; omega) (.string sd)).setCell (p := ⟨b0 + 2, 4, none⟩) (by show w.heap.size ≤ b0 + 2; omega) (.slice A3 (n - q) c3))
          have hZ5 := (((((hZ.set 0 (.int .i64 sx)).set 1 (.int .i64 sy)).set 2 (.string sc)).set 3 (.string sd)).set 4 (.slice A3 (n - q) c3))
          obtain ⟨W5, hW5⟩ : ∃ W5, (((((w'.setCell ⟨b0 + 2, 0, none⟩ (.int .i64 sx)).setCell ⟨b0 + 2, 1, none⟩ (.int .i64 sy)).setCell ⟨b0 + 2, 2, none⟩ (.string sc)).setCell ⟨b0 + 2, 3, none⟩ (.string sd)).setCell ⟨b0 + 2, 4, none⟩ (.slice A3 (n - q) c3)) = W5 := ⟨_, rfl⟩
          rw [hW5] at hB5 hZ5
          have g0 := hZ5.cell (j := 0) rfl
          have g1 := hZ5.cell (j := 1) rfl
          have g2 := hZ5.cell (j := 2) rfl
          have g3 := hZ5.cell (j := 3) rfl
          have g4 := hZ5.cell (j := 4) rfl
          have hR5 := (Rt.other (Rt.other (Rt.other (Rt.other (Rt.other hR 0 (.int .i64 sx) (show b0 ≠ b0 + 2 by omega)) 1 (.int .i64 sy) (show b0 ≠ b0 + 2 by omega)) 2 (.string sc) (show b0 ≠ b0 + 2 by omega)) 3 (.string sd) (show b0 ≠ b0 + 2 by omega)) 4 (.slice A3 (n - q) c3) (show b0 ≠ b0 + 2 by omega))
          have hS5 := (Rt.other (Rt.other (Rt.other (Rt.other (Rt.other hS 0 (.int .i64 sx) (show b0 + 1 ≠ b0 + 2 by omega)) 1 (.int .i64 sy) (show b0 + 1 ≠ b0 + 2 by omega)) 2 (.string sc) (show b0 + 1 ≠ b0 + 2 by omega)) 3 (.string sd) (show b0 + 1 ≠ b0 + 2 by omega)) 4 (.slice A3 (n - q) c3) (show b0 + 1 ≠ b0 + 2 by omega))
          rw [hW5] at hR5 hS5
          have HO5 := Lib.hid (HG1.out.off (S := fun j => j = b0 + 2) (show Off (fun j => j = b0 + 2) w' W5 from by rw [← hW5]; exact Off.set (Off.set (Off.set (Off.set (Off.set (Off.refl _ w') (.inl rfl)) (.inl rfl)) (.inl rfl)) (.inl rfl)) (.inl rfl)) (fun j hj e => by subst e; have h8 := (HG1.out.lt _ hj).1; have h9 := HZ.out.lt; omega))
          have HB5 := Lib.hid hB5
          clear hB5
          go_simp
          try rw [hW5]
          clear hZ hZ5 hW5 hB
          refine hK.out _ _ ?_ (fun hHeld => ?_)
          · exact ⟨hR5, hS5⟩
          clear hK K
          try simp only [Act.put, List.setIfInBounds_toArray, List.set_cons_zero, List.set_cons_succ]
          refine stH 13 rfl (fun K hK => ?_)
          go_simp
          refine hK.out _ _ ?_ (fun hHeld => ?_)
          · exact ⟨hR5, hS5⟩
          clear hK K
          try simp only [Act.put, List.setIfInBounds_toArray, List.set_cons_zero, List.set_cons_succ]
          refine wpAnyH_done (by kernel_rfl) ?_ _
          refine NoPanic.normal ?_
          go_wp2
          refine bodyPost_ret (v := .tuple #[.agg #[.int .i64 sx, .int .i64 sy, .string sc, .string sd, .slice A3 (n - q) c3], .bool true]) ?_ rfl ?_
          · simp [results, Try.results14, go_sem, g0, g1, g2, g3, g4]
          · exact ⟨_, rfl, .inr ⟨by simp, by
              show OwnEn _ _ (L.drop (sx - ix).toNat) _
              rw [show (sx - ix).toNat = q by omega]
              exact HO5.out.down HSZ.out⟩, HB5.out⟩
end Go.Proofs.Ytoekiencnbgmhaa
/-
  slices.Backward of entries: what its iterator hands to a loop's body: the entries, the last one first.
  The row has at most 1,000 entries.
-/
set_option linter.unusedSimpArgs false
set_option linter.unusedVariables false
namespace Go.Proofs.Ytoekiencnbgmhaa
open Go.RowKit Go.Shelf
attribute [local go_sem] Oper.semAt_some
set_option maxRecDepth 100000

/-- the entries with their places, the last one first -/
def revs (L : List Ent) : List (Ent × Nat) := L.zipIdx.reverse
theorem revs_len (L : List Ent) : (revs L).length = L.length := by unfold revs; rw [List.length_reverse, List.length_zipIdx]
theorem revs_at {L : List Ent} {k : Nat} (h : k < L.length) : (revs L)[k]'(by rw [revs_len]; exact h) = (L[L.length - 1 - k]'(by omega), L.length - 1 - k) := by
  unfold revs
  rw [List.getElem_reverse]
  simp [List.getElem_zipIdx]
theorem revs_take {L : List Ent} {k : Nat} (h : k < L.length) : (revs L).take (k + 1) = (revs L).take k ++ [(L[L.length - 1 - k]'(by omega), L.length - 1 - k)] := by
  rw [List.take_succ_eq_append_getElem (by rw [revs_len]; exact h), revs_at h]
def encR13 (p : Ent × Nat) : Array Value := #[.int .i64 (p.2 : Int), p.1.val]
set_option maxHeartbeats 2000000 in
theorem backward1_in (F : Fence) (n : Nat) (hf : F.fn 78) (hro : F.round = none) (hn : 1 ≤ n) (l Bs n₀ : Nat) (A : Option Addr) (c : Nat) (L : List Ent) (hL : L.length ≤ 1000) (J Jx : List (Ent × Nat) → World → Prop)
    (hY : ∀ pre x W, J pre W → pre.length < L.length → YieldAt F (n - 1) Try.prog l (encR13 x) W fun e W' =>
      (e = .returned (.bool true) ∧ J (pre ++ [x]) W' ∧ Below n₀ W W') ∨ (e = .returned (.bool false) ∧ Jx (pre ++ [x]) W'))
    (W : World) (hBs : W.cell? ⟨Bs, 0, none⟩ = some (.slice A L.length c)) (hBn : Bs < n₀) (hI : Ens (fun j => j < n₀) W (.slice A L.length c) L) (h0 : J [] W) :
    CallsIn F n Try.prog 78 #[.func (.yield l) #[] #[], .pointer (some ⟨Bs, 0, none⟩)] W fun e W' => (∃ v, e = .returned v) ∧
      ((∃ ys, ys = revs L ∧ J ys W') ∨ (∃ pre, pre <+: revs L ∧ Jx pre W')) := by
  obtain ⟨len, hlen⟩ : ∃ len, L.length = len := ⟨_, rfl⟩
  rw [hlen] at hBs hI hL
  have HI := Lib.hid hI
  have HL := Lib.hid hlen
  clear hI
  refine callsIn_of_wp Try.func78 rfl hf ?_ hro
  simp only [Try.ntmps78, List.size_toArray, List.length_cons, List.length_nil, Nat.reduceAdd, Nat.reduceSub, Array.replicate_succ, Array.replicate_zero, List.push_toArray, List.append_toArray, List.nil_append, List.cons_append]
  clear hlen
  gi_wp2
  gi_loopw [3] (fun i wr => ∃ k : Nat, k ≤ len ∧ i = .int .i64 ((len : Int) - 1 - (k : Int)) ∧ J ((revs L).take k) wr ∧ Below n₀ W wr) (fun i _ => ((intOf i) + 1).toNat)
  case atStart => exact ⟨0, Nat.zero_le _, by simp, h0, Below.refl _ _⟩
  case round =>
    obtain ⟨k, hk, rfl, hJs, hnx⟩ := hrel
    have hbs := (hnx.cell (p := ⟨Bs, 0, none⟩) hBn).trans hBs
    by_cases hlt : k < len
    · have hkl : k < L.length := by rw [HL.out]; exact hlt
      obtain ⟨q, hq⟩ : ∃ q, len - 1 - k = q := ⟨_, rfl⟩
      have hqi : (len : Int) - 1 - (k : Int) = (q : Int) := by omega
      have hqL : q < L.length := by rw [HL.out]; omega
      have hqn : q < len := by omega
      have hqn2 : (q : Int) < (len : Int) := by omega
      have hq0 : (0 : Int) ≤ (q : Int) := by omega
      rw [hqi]
      obtain ⟨⟨xk, yk, zk, dk⟩, hxk⟩ : ∃ x, L[q] = x := ⟨_, rfl⟩
      obtain ⟨g, o, hA, hg, b0, b1, b2, b3⟩ := (HI.out.under hnx (Nat.le_refl _)).four q hqL hxk
      subst hA
      have hts := revs_take hkl
      rw [show L[L.length - 1 - k]'(by omega) = ⟨xk, yk, zk, dk⟩ by rw [← hxk]; congr 1; rw [HL.out]; omega, show L.length - 1 - k = q by rw [HL.out]; exact hq] at hts
      obtain ⟨fn, tmps, assign, body, hy, hR⟩ := hY _ (⟨xk, yk, zk, dk⟩, q) wr hJs (by rw [List.length_take, revs_len]; omega)
      rw [← hts] at hR
      have HTS := Lib.hid hts
      have HQI := Lib.hid hqi
      have hwq : IntKind.i64.wrap ((q : Int) - 1) = (q : Int) - 1 := by rw [IntKind.wrap_i64]; omega
      replace hy : (Instr.yield l #[.int .i64 (q : Int), .agg #[.int .i64 xk, .int .i64 yk, .int .i64 zk, .string dk]]).run Try.prog wr = _ := hy
      clear hts hxk hqi
      gi_wp2
      refine hR.mono ?_
      rintro e W3 (⟨rfl, hJ3, hk3⟩ | ⟨rfl, hJx3⟩)
      · gi_wp2
        go_roundw
        case rel => exact ⟨k + 1, by omega, by congr 1; have := HQI.out; push_cast; omega, hJ3, hnx.trans hk3⟩
        case measure => first | (simp [intOf]; omega) | (simp [intOf]; done)
      · gi_wp2
        refine bodyPost_ret (results_none rfl _ _ _) rfl ?_
        exact ⟨⟨_, rfl⟩, .inr ⟨_, List.take_prefix _ _, hJx3⟩⟩
    · obtain rfl : k = len := by omega
      have hfin : (revs L).take k = revs L := List.take_of_length_le (by rw [revs_len, HL.out]; exact Nat.le_refl _)
      rw [hfin] at hJs
      have hneg : (k : Int) - 1 - (k : Int) = -1 := by omega
      rw [hneg]
      clear hfin
      gi_wp2
      go_end0
      exact ⟨⟨_, rfl⟩, .inl ⟨_, rfl, hJs⟩⟩
set_option maxHeartbeats 1000000 in
theorem backward_in (F : Fence) (n : Nat) (hf : F.fn 66) (hro : F.round = none) (A : Option Addr) (len cap : Nat) (w : World) :
    CallsIn F n Try.prog 66 #[.slice A len cap] w fun e w' => e = .returned (.func (.func 78) #[] #[.pointer (some ⟨w.heap.size, 0, none⟩)]) ∧ w' = w.alloc (.cells #[.slice A len cap] 24) := by
  refine callsIn_of_wp Try.func66 rfl hf ?_ hro
  simp only [Try.ntmps66, List.size_toArray, List.length_cons, List.length_nil, Nat.reduceAdd, Nat.reduceSub, Array.replicate_succ, Array.replicate_zero, List.push_toArray, List.append_toArray, List.nil_append, List.cons_append]
  gi_wp2
  go_ret
  exact ⟨rfl, rfl⟩
theorem backward_stops (F : Fence) (n : Nat) (hf : F.fn 78) (hro : F.round = none) (hn : 1 ≤ n) (Bs n₀ : Nat) (A : Option Addr) (c : Nat) (L : List Ent) (hL : L.length ≤ 1000) (w : World) (hBs : Bs < n₀) (hn₀ : n₀ ≤ w.heap.size)
    (hc : w.cell? ⟨Bs, 0, none⟩ = some (.slice A L.length c)) (hI : Ens (fun j => j < n₀) w (.slice A L.length c) L) :
    SeqStopsK F n Try.prog 78 #[.pointer (some ⟨Bs, 0, none⟩)] encR13 (Below n₀) (fun ys => ys = revs L) (fun pre => pre <+: revs L) L.length w := fun l J Jx W hW _ _ hY h0 =>
  backward1_in F n hf hro hn l Bs n₀ A c L hL J Jx hY W ((hW.cell (p := ⟨Bs, 0, none⟩) (Nat.lt_of_lt_of_le hBs hn₀)).trans hc) hBs (hI.under hW hn₀) h0
end Go.Proofs.Ytoekiencnbgmhaa
/-
  Rows of ints: slices that read as ints, their parts, rows of one's own, appends onto these.
  The rows are shorter than the model's bound on what append makes.
-/
set_option linter.unusedSimpArgs false
set_option linter.unusedVariables false
namespace Go.Proofs.Ytoekiencnbgmhaa
open Go.RowKit Go.Deep
set_option maxRecDepth 100000

def intCells (l : List Int) : List Value := l.map (Value.int .i64)
theorem intCells_len (l : List Int) : (intCells l).length = l.length := by simp [intCells]
theorem intCells_append (l m : List Int) : intCells (l ++ m) = intCells l ++ intCells m := by simp [intCells]
theorem intCells_one (l : List Int) : ∀ v ∈ intCells l, v.oneCell' = true := by
  intro v hv
  obtain ⟨x, _, rfl⟩ := List.mem_map.1 hv
  rfl
theorem Try.infoInt : (Try.prog.info? 3).map (fun i => (i.zero, i.size, i.bytes)) = some (some (.int .i64 0), 1, 8) := by kernel_rfl
/-- a row of ints of one's own -/
def OwnZ (B : Nat) (v : Value) (l : List Int) (w : World) : Prop := w.ownsRow B 3 1 v l.length (intCells l)
theorem OwnZ.nil (B : Nat) (w : World) : OwnZ B (.slice none 0 0) [] w := World.ownsRow_nil _ _ _ _
theorem OwnZ.below {B : Nat} {v : Value} {l : List Int} {w w' : World} (h : OwnZ B v l w) (hb : Below w.heap.size w w') : OwnZ B v l w' := ownsRow_below h hb
theorem OwnZ.down {B C : Nat} {v : Value} {l : List Int} {w : World} (h : OwnZ C v l w) (hB : B ≤ C) : OwnZ B v l w := ownsRow_down h hB
theorem OwnZ.slice {B : Nat} {v : Value} {l : List Int} {w : World} (h : OwnZ B v l w) : ∃ A c, v = .slice A l.length c := own_slice h
theorem Ints.of_own {B : Nat} {v : Value} {l : List Int} {w : World} (h : OwnZ B v l w) : Ints w w.heap.size v l := by
  have hlt := World.ownsRow.lt h
  obtain ⟨A, c, rfl⟩ := h.slice
  have hc := fun (g : Nat) (hg : (Value.slice A l.length c).ownBlock = some g) => World.ownsRow.cells h hg
  rcases h.2 with ⟨hv, h0⟩ | ⟨g, c', cur, hv, hB, _, hnc, _⟩
  · injection hv with e1 e2 e3
    subst e1
    exact ⟨none, c, rfl, by omega, fun h => absurd h (by omega)⟩
  · injection hv with e1 _ e3
    subst e1; subst e3
    refine ⟨_, _, rfl, hnc, fun _ => ⟨g, 0, rfl, (hlt g rfl).2, fun k hk => ?_⟩⟩
    have h3 := hc g rfl k (.int .i64 l[k]) (by unfold intCells; rw [List.getElem?_map, List.getElem?_eq_getElem hk]; rfl)
    rw [add7] at h3
    exact h3
theorem Ints.more {w : World} {B C : Nat} {v : Value} {l : List Int} (h : Ints w B v l) (hC : B ≤ C) : Ints w C v l := by
  obtain ⟨A, c, h1, h2, h3⟩ := h
  exact ⟨A, c, h1, h2, fun h0 => by obtain ⟨g, o, hA, hg, hc⟩ := h3 h0; exact ⟨g, o, hA, by omega, hc⟩⟩
theorem Ints.nil (w : World) (B : Nat) : Ints w B (.slice none 0 0) [] := ⟨none, 0, rfl, Nat.le_refl _, fun h => absurd h (by simp)⟩
theorem Ints.cap {w : World} {B n c : Nat} {A : Option Addr} {l : List Int} (h : Ints w B (.slice A n c) l) : n = l.length ∧ n ≤ c := by
  obtain ⟨A', c', h1, h2, _⟩ := h
  injection h1 with e1 e2 e3
  subst e2; subst e3
  exact ⟨rfl, h2⟩
theorem Ints.take {w : World} {B n c : Nat} {A : Option Addr} {l : List Int} (h : Ints w B (.slice A n c) l) (j : Nat) (hj : j ≤ l.length) : Ints w B (.slice A j c) (l.take j) := by
  obtain ⟨A', c', h1, h2, h3⟩ := h
  injection h1 with e1 e2 e3
  subst e1; subst e3
  have hl : (l.take j).length = j := by rw [List.length_take]; omega
  refine ⟨A, c, by rw [hl], by omega, fun h0 => ?_⟩
  rw [hl] at h0
  obtain ⟨g, o, hA, hg, hc⟩ := h3 (by omega)
  refine ⟨g, o, hA, hg, fun k hk => ?_⟩
  rw [hl] at hk
  rw [List.getElem_take]
  exact hc k (by omega)
theorem Ints.drop {w : World} {B n c : Nat} {A : Option Addr} {l : List Int} (h : Ints w B (.slice A n c) l) (j : Nat) (hj : j ≤ l.length) : Ints w B (.slice (if c = j then A else A.map (·.add j)) (l.length - j) (c - j)) (l.drop j) := by
  obtain ⟨A', c', h1, h2, h3⟩ := h
  injection h1 with e1 e2 e3
  subst e1; subst e3
  have hl : (l.drop j).length = l.length - j := List.length_drop
  refine ⟨_, _, by rw [hl], by omega, fun h0 => ?_⟩
  rw [hl] at h0
  obtain ⟨g, o, hA, hg, hc⟩ := h3 (by omega)
  subst hA
  rw [if_neg (by omega)]
  refine ⟨g, o + j, by simp [add7], hg, fun k hk => ?_⟩
  rw [hl] at hk
  rw [List.getElem_drop, show o + j + k = o + (j + k) by omega]
  exact hc (j + k) (by omega)
/-- ints that have just been laid in a block of their own -/
theorem ints_new (w : World) (C : Array Value) (t : TypeId) (l : List Int) (hC : C = (intCells l).toArray) : Ints (w.alloc (.cells C t)) (w.heap.size + 1) (.slice (some ⟨w.heap.size, 0, Option.none⟩) l.length l.length) l := by
  refine ⟨_, _, rfl, Nat.le_refl _, fun _ => ⟨w.heap.size, 0, rfl, by omega, fun k hk => ?_⟩⟩
  rw [World.cell?_alloc_mark, hC]
  simp [intCells, hk]
theorem append_nil12 {w : World} {B n c : Nat} {v : Value} {xs : List Value} (ty : TypeId) (hown : w.ownsRow B 3 1 v n xs) :
    (Builtin.append_ #[50, 50] ty #[v, .slice none 0 c]).run Try.prog w = .ok v w := by
  obtain ⟨iR, hiR, _, _, _⟩ := info_parts Try.infoInt
  rcases hown.2 with ⟨rfl, rfl⟩ | ⟨g, cap, cur, rfl, _, _, hnc, _⟩
  · simp [Builtin.append_, run_underlying Try.underlying50, sizeOf, typeInfo, hiR, Builtin.lenOf, Builtin.firstCells]
  · simp [Builtin.append_, run_underlying Try.underlying50, sizeOf, typeInfo, hiR, Builtin.lenOf, Builtin.firstCells, hnc, storeCells]
/-- what stands in a slice is put behind a row of one's own -/
theorem wp_append_ints {w : World} {o : Oper} {a : Act} {K : Act → World → Prop} {Q : Exit → Act → World → Prop} (s x : Operand)
    (ho : o.op = .call { callee := .builtin .append, args := #[s, x], argTypes := #[50, 50] })
    (B C : Nat) (v u : Value) (l m : List Int) (hs : a.eval s = v) (hown : OwnZ B v l w) (hx : a.eval x = u) (hu : Ints w C u m) (hlm : l.length + m.length ≤ 1000000) (hB : B ≤ w.heap.size)
    (h : ∀ v' w', OwnZ B v' (l ++ m) w' → Below B w w' → w.grownBy w' v.ownBlock → (v'.ownBlock = v.ownBlock ∨ v'.ownBlock = some w.heap.size) → K (a.put o.dst v') w') : o.wp Try.prog a w K Q := by
  obtain ⟨iR, hiR, hzR0, hzR1, hzR2⟩ := info_parts Try.infoInt
  obtain ⟨A, c, rfl, hc, hcell⟩ := hu
  have hgr := fun (w' : World) (hg : w.grownBy w' v.ownBlock) => (Below.refl B w).grown hg hB (fun g hg => (World.ownsRow.lt hown g hg).1)
  unfold OwnZ at hown
  cases A with
  | some ad =>
    obtain ⟨v', w', hr, h2, h3, _, h5⟩ := run_append_own_at (P := Try.prog) w B 50 o.type 3 iR (.int .i64 0) 1 8 Try.underlying50 hiR hzR0 hzR1 hzR2 rfl (by decide) v l.length _ hown ad m.length c (intCells m) (by rw [intCells_len]; omega)
      (by
        intro j z hj
        have hjm : j < m.length := by
          have := (List.getElem?_eq_some_iff.1 hj).1; rwa [intCells_len] at this
        obtain ⟨g, oo, hA, _, hcs⟩ := hcell (by omega)
        injection hA with hA; subst hA
        rw [add7, hcs j hjm]
        unfold intCells at hj; rw [List.getElem?_map, List.getElem?_eq_getElem hjm] at hj; simpa using hj) (intCells_one m) (by unfold maxLen; omega) (by omega) hB
    unfold Oper.wp execOp
    simp only [ho, resolve, invoke, builtin, Sem.run_bind, Sem.run_pure, Result.andThen_ok, List.map_toArray, List.map_cons, List.map_nil, hs, hx, hr]
    refine h v' w' ?_ (hgr w' h3) h3 h5
    unfold OwnZ; rw [intCells_append, List.length_append]; exact h2
  | none =>
    have hm : m = [] := by
      cases m with
      | nil => rfl
      | cons y t => obtain ⟨g, oo, hA, _⟩ := hcell (by simp); cases hA
    subst hm
    have hrun := append_nil12 (c := c) o.type hown
    unfold Oper.wp
    simp [execOp, ho, resolve, invoke, builtin, hs, hx, hrun, Result.andThen]
    refine h v w ?_ (Below.refl _ _) (grownBy_refl _ _) (.inl rfl)
    unfold OwnZ; rw [List.append_nil]; exact hown
theorem wpList_append_ints {w : World} {ops : Array Oper} {rest : List Oper} {o : Oper} {a : Act} {Q : Exit → Act → World → Prop} (hgd : o.guard = none) (s x : Operand)
    (ho : o.op = .call { callee := .builtin .append, args := #[s, x], argTypes := #[50, 50] })
    (B C : Nat) (v u : Value) (l m : List Int) (hs : a.eval s = v) (hown : OwnZ B v l w) (hx : a.eval x = u) (hu : Ints w C u m) (hlm : l.length + m.length ≤ 1000000) (hB : B ≤ w.heap.size)
    (h : ∀ v' w', OwnZ B v' (l ++ m) w' → Below B w w' → wpList Try.prog ops Q rest (a.put o.dst v') w') : wpList Try.prog ops Q (o :: rest) a w :=
  wpList_plain hgd fun _ hK => wp_append_ints s x ho B C v u l m hs hown hx hu hlm hB fun v' w' h1 h2 _ _ => hK _ _ (h v' w' h1 h2)
/-- an empty row with room, that has just been made -/
theorem own_room12 (w : World) (n : Nat) (hn : n ≤ 1000000) (B : Nat) (hB : B ≤ w.heap.size) :
    OwnZ B (.slice (some ⟨w.heap.size, 0, none⟩) 0 (grownCap w n 0 3)) [] (w.drew.alloc (.cells (Builtin.zeroCells #[.int .i64 0] n ++ Builtin.zeroCells #[.int .i64 0] (grownCap w n 0 3 - n)) 3)) := by
  have h1 := grownCap_ge w n 0 3
  have h2 := grownCap_le_maxLen w n 0 3 (by unfold maxLen; omega)
  exact World.ownsRow_made (base := B) (e := 3) (size := 1) w.drew _ _ hB h2 (by
    have hz : ∀ k, (Builtin.zeroCells #[.int .i64 0] k).size = k := fun k => by simp [Builtin.zeroCells]
    rw [Array.size_append, hz, hz]; omega)
end Go.Proofs.Ytoekiencnbgmhaa
/-
  Package conf's May, Has, missing and Near say what the plain functions say.
  Lists have at most 1,000 servers.
-/
set_option linter.unusedSimpArgs false
set_option linter.unusedVariables false
namespace Go.Proofs.Ytoekiencnbgmhaa
open Go.RowKit Go.Deep
set_option maxRecDepth 100000

theorem bool_ret {a b : Bool} (h : a = b) : Ending.returned (.bool a) = .returned (.bool b) := by rw [h]
theorem drop_cons12 {L : List Int} {k : Nat} (h : k < L.length) : L.drop k = L[k] :: L.drop (k + 1) := List.drop_eq_getElem_cons h
set_option maxHeartbeats 1000000 in
theorem may12_w (A : Option Addr) (c B : Nat) (L : List Int) (w : World) (h : Ints w B (.slice A L.length c) L) (hl : L.length ≤ 1000) :
    Calls Try.prog 58 #[.slice A L.length c] w fun e w' => e = .returned (.bool (may12 L)) ∧ w = w' := by
  obtain ⟨n, hn⟩ : ∃ n, L.length = n := ⟨_, rfl⟩
  rw [hn] at h hl ⊢
  have HI := Lib.hid h
  have HN := Lib.hid hn
  clear h hn
  go_enter Try.func58, Try.ntmps58
  go_wp2
  go_loop [3, 8] (fun last i => ∃ (k : Nat) (p : Int), k ≤ n ∧ i = .int .i64 k ∧ last = .int .i64 p ∧ mayF 0 L = mayF p (L.drop k)) (fun _ i => n - (intOf i).toNat)
  case atStart => exact ⟨0, 0, Nat.zero_le _, rfl, rfl, rfl⟩
  case round =>
    obtain ⟨k, p, hk, rfl, rfl, hrec⟩ := hrel
    have HR := Lib.hid hrec
    clear hrec
    by_cases hlt : k < n
    · have hkl : k < L.length := by rw [HN.out]; exact hlt
      obtain ⟨g, o, hA, _, hcell⟩ := HI.out.at_ k hkl
      subst hA
      have hd := drop_cons12 hkl
      obtain ⟨x, hx⟩ : ∃ x, L[k] = x := ⟨_, rfl⟩
      rw [hx] at hcell hd
      have HD := Lib.hid hd
      clear hd hx hkl
      by_cases h1 : x ≤ p
      · go_wp2
        go_ret
        refine ⟨bool_ret ?_, rfl⟩
        unfold may12
        rw [HR.out, HD.out]
        simp [mayF]; omega
      · by_cases h2 : 7 < x
        · go_wp2
          go_ret
          refine ⟨bool_ret ?_, rfl⟩
          unfold may12
          rw [HR.out, HD.out]
          simp [mayF]; omega
        · go_wp2
          go_round
          case rel => exact ⟨k + 1, x, by omega, by go_num, rfl, by rw [HR.out, HD.out]; simp [mayF]; omega⟩
          case measure => simp [intOf]; omega
    · have hkn : k = n := by omega
      have hf : mayF 0 L = true := by rw [HR.out, List.drop_of_length_le (by rw [HN.out]; omega)]; rfl
      have HF := Lib.hid hf
      clear hf
      by_cases h0 : 0 < n
      · go_wp2
        go_ret
        refine ⟨bool_ret ?_, rfl⟩
        unfold may12
        rw [HF.out, HN.out]; simp; omega
      · go_wp2
        go_ret
        refine ⟨bool_ret ?_, rfl⟩
        unfold may12
        rw [HF.out, HN.out]; simp; omega
/-- slices.Contains at any slice -/
theorem contains12_w (A : Option Addr) (c B : Nat) (L : List Int) (x : Int) (w : World) (h : Ints w B (.slice A L.length c) L) (hl : L.length ≤ 1000) :
    Calls Try.prog 80 #[.slice A L.length c, .int .i64 x] w fun e w' => e = .returned (.bool (L.contains x)) ∧ w = w' := by
  by_cases h0 : 0 < L.length
  · obtain ⟨g, o, rfl, _, _⟩ := h.at_ 0 h0
    refine (Try.slices_Contains_int g o L.length c L x w (Nat.le_refl _) (by omega) (fun j hj => ?_)).mono ?_
    · obtain ⟨g', o', e, _, hc⟩ := h.at_ j hj
      injection e with e; injection e with e1 e2; subst e1; subst e2
      rw [hc]; simp [hj]
    · rintro e w' ⟨rfl, rfl⟩
      rw [List.take_length]
      exact ⟨rfl, rfl⟩
  · have h1 : L = [] := List.eq_nil_of_length_eq_zero (by omega)
    subst h1
    refine (Try.slices_Contains_int_empty A c x w).mono ?_
    rintro e w' ⟨rfl, rfl⟩
    exact ⟨rfl, rfl⟩
set_option maxHeartbeats 1000000 in
theorem has12_w (A : Option Addr) (c B : Nat) (L : List Int) (x : Int) (w : World) (h : Ints w B (.slice A L.length c) L) (hl : L.length ≤ 1000) :
    Calls Try.prog 69 #[.slice A L.length c, .int .i64 x] w fun e w' => e = .returned (.bool (L.contains x)) ∧ w = w' := by
  have hc := contains12_w A c B L x w h hl
  obtain ⟨b, hb⟩ : ∃ b, L.contains x = b := ⟨_, rfl⟩
  rw [hb] at hc ⊢
  clear h hb
  go_enter Try.func69, Try.ntmps69
  go_wp2_with fail
  refine hc.mono ?_
  rintro e w' ⟨rfl, rfl⟩
  go_wp2
  go_ret
  exact ⟨rfl, rfl⟩
theorem countP_take12 (L : List Int) (q : Int → Bool) (k : Nat) (h : k < L.length) : (L.take (k + 1)).countP q = (L.take k).countP q + (if q L[k] = true then 1 else 0) := by
  rw [List.take_succ_eq_append_getElem h, List.countP_append, List.countP_singleton]
theorem countP_take_le12 (L : List Int) (q : Int → Bool) (k : Nat) : (L.take k).countP q ≤ k := Nat.le_trans List.countP_le_length (List.length_take_le _ _)
theorem near12_no {a b : List Int} (h : may12 a = false) : near12 a b = false := by unfold near12; rw [h]; rfl
theorem near12_no2 {a b : List Int} (h : may12 b = false) : near12 a b = false := by unfold near12; rw [h]; simp
theorem near12_yes {a b : List Int} (h : may12 a = true) (h2 : may12 b = true) : near12 a b = decide (miss12 a b + miss12 b a ≤ 1) := by unfold near12; rw [h, h2]; rfl
theorem miss12_le (a b : List Int) : miss12 a b ≤ a.length := List.countP_le_length
end Go.Proofs.Ytoekiencnbgmhaa
/-
  The reference's Open reads a frame as the plain function says.
  The bytes are there in memory, at most 1,000,000.
-/
set_option linter.unusedSimpArgs false
set_option linter.unusedVariables false
namespace Go.Proofs.Ytoekiencnbgmhaa
open Go.RowKit
set_option maxRecDepth 100000

/-- a frame at the beginning of bytes: its kind, its body, how many bytes, the error -/
def openB (l : List UInt8) : Nat × List UInt8 × Nat × Nat :=
  if l.length = 0 then (0, [], 0, 2)
  else if (l.headD 0).toNat = 0 then (0, [], 0, 3)
  else if (Nu.get (l.drop 1)).2.2 = 2 ∧ 2 < l.length then (0, [], 0, 3)
  else if (Nu.get (l.drop 1)).2.2 = 2 then (0, [], 0, 2)
  else if (Nu.get (l.drop 1)).2.2 ≠ 0 ∨ (Nu.get (l.drop 1)).1 < 0 ∨ 4000 < (Nu.get (l.drop 1)).1 then (0, [], 0, 3)
  else if (l.length : Int) < 5 + (Nu.get (l.drop 1)).2.1 + (Nu.get (l.drop 1)).1 then (0, [], 0, 2)
  else if sealB (l.headD 0).toNat ((l.drop (5 + (Nu.get (l.drop 1)).2.1)).take (Nu.get (l.drop 1)).1.toNat) ≠ l.take (5 + (Nu.get (l.drop 1)).2.1 + (Nu.get (l.drop 1)).1.toNat) then (0, [], 0, 3)
  else ((l.headD 0).toNat, (l.drop (5 + (Nu.get (l.drop 1)).2.1)).take (Nu.get (l.drop 1)).1.toNat, 5 + (Nu.get (l.drop 1)).2.1 + (Nu.get (l.drop 1)).1.toNat, 0)
def GotF (B : Nat) (r : Nat × List UInt8 × Nat × Nat) (w : World) (e : Ending) (w' : World) : Prop := ∃ v, e = .returned (.tuple #[.int .i64 r.1, v, .int .i64 r.2.2.1, .int .i64 r.2.2.2]) ∧ Byt w' B v r.2.1 ∧ Below w.heap.size w w'
/-- a slice of bytes whose cells are there, turned into a text -/
theorem conv_cells (w : World) (g o cap : Nat) (l : List UInt8) (n : Nat) (hn : n ≤ l.length) (hcell : ∀ j (h : j < l.length), w.cell? ⟨g, o + j, Option.none⟩ = some (.int .u8 (l[j].toNat : Int))) :
    (convert 109 9 (.slice (some ⟨g, o, Option.none⟩) n cap)).run Try.prog w = .ok (.string ⟨(l.take n).toArray⟩) w := by
  have := conv_part w g o l 0 n cap (by omega) hcell
  simpa using this
theorem conv_own {w : World} {B : Nat} {v : Value} {l : List UInt8} (h : OwnB B v l w) (hl : 1 ≤ l.length) : (convert 109 9 v).run Try.prog w = .ok (.string ⟨l.toArray⟩) w := by
  obtain ⟨g, c, rfl, _, hcs⟩ := h.at_ hl
  have := conv_cells w g 0 c l l.length (Nat.le_refl _) (fun j hj => by
    have := hcs j (.int .u8 (l[j].toNat : Int)) (by simp [Lib.byteCells, hj])
    rw [Addr.add_mid] at this; exact this)
  rw [List.take_length] at this; exact this
theorem list_ne {a b : List UInt8} (h : a ≠ b) : ((ByteArray.mk a.toArray).toList == (ByteArray.mk b.toArray).toList) = false := by
  rw [ByteArray.toList_eq, ByteArray.toList_eq, beq_eq_false_iff_ne]; simpa using h
theorem list_same {a b : List UInt8} (h : a = b) : ((ByteArray.mk a.toArray).toList == (ByteArray.mk b.toArray).toList) = true := by rw [h]; simp
theorem byt_nil (w : World) (B : Nat) : Byt w B (.slice none 0 0) [] := ⟨none, 0, rfl, Nat.le_refl _, fun h => absurd h (by simp)⟩
end Go.Proofs.Ytoekiencnbgmhaa
/-
  Rows that a call has made, cell by cell: a store into them, what they read as.
  There are no conditions beyond those that each lemma names.
-/
set_option linter.unusedSimpArgs false
set_option linter.unusedVariables false
namespace Go.Proofs.Ytoekiencnbgmhaa
open Go.RowKit Go.Deep
set_option maxRecDepth 100000

/-- a block's cells, which may be written -/
def RowC (w : World) (g : Nat) (M : List Value) : Prop := g < w.heap.size ∧ ∀ j (h : j < M.length), w.cell? ⟨g, j, Option.none⟩ = some M[j] ∧ w.frozen? ⟨g, j, Option.none⟩ = false
theorem RowC.set {w : World} {g : Nat} {M : List Value} (h : RowC w g M) (k : Nat) (v : Value) : RowC (w.setCell ⟨g, k, Option.none⟩ v) g (M.set k v) := by
  refine ⟨by simp [World.setCell]; exact h.1, fun j hj => ?_⟩
  rw [List.length_set] at hj
  obtain ⟨h1, h2⟩ := h.2 j hj
  refine ⟨?_, (World.frozen?_setCell _ _ _ _).trans h2⟩
  by_cases e : j = k
  · subst e
    rw [List.getElem_set_self]
    exact World.cell?_setCell_same _ _ _ h1
  · rw [List.getElem_set_ne (fun e' => e e'.symm)]
    exact (World.cell?_setCell_other _ _ _ _ (by first | (simp; done) | (simp; omega))).trans h1
theorem RowC.below {w w' : World} {g : Nat} {M : List Value} (h : RowC w g M) (hb : Below w.heap.size w w') : RowC w' g M :=
  ⟨Nat.lt_of_lt_of_le h.1 hb.size, fun j hj => ⟨(hb.cell (p := ⟨g, j, Option.none⟩) h.1).trans (h.2 j hj).1, (hb.frozen (p := ⟨g, j, Option.none⟩) h.1).trans (h.2 j hj).2⟩⟩
theorem madeCells_one (z : Value) (n : Nat) : (madeCells #[z] n).toList = List.replicate n z := by
  unfold madeCells
  apply List.ext_getElem
  · simp
  · intro i h1 h2
    simp [Nat.mod_one]
theorem RowC.made (w : World) (z : Value) (n : Nat) (t : TypeId) : RowC (w.alloc (.cells (madeCells #[z] n) t)) w.heap.size (List.replicate n z) := by
  refine ⟨by simp, fun j hj => ?_⟩
  have hs : (madeCells #[z] n).size = n := by rw [← Array.length_toList, madeCells_one]; simp
  have hj' : j < (madeCells #[z] n).size := by rw [hs]; simpa using hj
  constructor
  · rw [World.cell?_alloc_mark]
    have : (madeCells #[z] n)[j]? = some z := by
      rw [← Array.getElem?_toList, madeCells_one, List.getElem?_replicate, if_pos (by simpa using hj)]
    simp [this]
  · exact World.frozen?_alloc_at _ _ _ _ rfl
/-- the ints that a block's cells read as -/
theorem RowC.ints {w : World} {g : Nat} {l : List Int} {n : Nat} (h : RowC w g (intCells l)) (hn : l.length = n) (c : Nat) (hc : n ≤ c) : Ints w (g + 1) (.slice (some ⟨g, 0, Option.none⟩) n c) l := by
  subst hn
  refine ⟨_, c, rfl, hc, fun _ => ⟨g, 0, rfl, by omega, fun k hk => ?_⟩⟩
  have := (h.2 k (by rw [intCells_len]; exact hk)).1
  rw [Nat.zero_add, this]
  simp [intCells]
theorem set_snoc12 {α β : Type} (f : α → β) (L : List α) (z : β) (k : Nat) (h : k < L.length) : ((L.take k).map f ++ List.replicate (L.length - k) z).set k (f L[k]) = (L.take (k + 1)).map f ++ List.replicate (L.length - (k + 1)) z := by
  have hl : ((L.take k).map f).length = k := by simp; omega
  rw [List.set_append_right _ _ (by omega), hl, Nat.sub_self, List.take_succ_eq_append_getElem h, List.map_append]
  have : L.length - k = (L.length - (k + 1)) + 1 := by omega
  rw [this, List.replicate_succ, List.set_cons_zero]
  simp
end Go.Proofs.Ytoekiencnbgmhaa
/-
  Package conf's Encode and Decode make what the plain functions say.
  Lists have at most 1,000 servers, texts at most 1,000,000 bytes.
-/
set_option linter.unusedSimpArgs false
set_option linter.unusedVariables false
namespace Go.Proofs.Ytoekiencnbgmhaa
open Go.RowKit Go.Deep
set_option maxRecDepth 100000

def digit12 (x : Int) : UInt8 := UInt8.ofNat (48 + x.toNat)
def encL (l : List Int) : List UInt8 := l.map digit12
def enc12 (l : List Int) : ByteArray := if may12 l = true then ⟨(encL l).toArray⟩ else ⟨#[]⟩
def decL (s : ByteArray) : List Int := s.data.toList.map fun c => (c.toNat : Int) - 48
def dec12 (s : ByteArray) : Option (List Int) := if may12 (decL s) = true then some (decL s) else none
theorem digit12_is {x : Int} (h0 : 1 ≤ x) (h1 : x ≤ 7) : ((digit12 x).toNat : Int) = 48 + x := by
  unfold digit12
  rw [UInt8.toNat_ofNat']
  omega
theorem decL_len (s : ByteArray) : (decL s).length = s.size := by unfold decL; simp
theorem dec12_long {s : ByteArray} (h : 7 < s.size) : dec12 s = none := by
  unfold dec12
  rw [if_neg]
  intro h2
  have := may12_len h2
  rw [decL_len] at this; omega
theorem make_bytes12 (n : Nat) (hn : n ≤ 1000) (w : World) : (Instr.makeSlice 109 (.int .i64 (n : Int)) (.int .i64 (n : Int))).run Try.prog w = .ok (.slice (some ⟨w.heap.size, 0, none⟩) n n) (w.alloc (.cells (madeCells #[.int .u8 0] n) 5)) :=
  run_make_row' _ _ _ 1 Try.underlying109 Try.infoU8 rfl .i64 .i64 n (by omega) (by omega) w
theorem make_ints12 (n : Nat) (hn : n ≤ 1000) (w : World) : (Instr.makeSlice 50 (.int .i64 (n : Int)) (.int .i64 (n : Int))).run Try.prog w = .ok (.slice (some ⟨w.heap.size, 0, none⟩) n n) (w.alloc (.cells (madeCells #[.int .i64 0] n) 3)) :=
  run_make_row' _ _ _ 8 Try.underlying50 Try.infoInt rfl .i64 .i64 n (by omega) (by omega) w
theorem below_new12 (w : World) (o : Obj) : Below w.heap.size w (w.alloc o) := (Below.refl _ w).alloc (Nat.le_refl _) o
def encV (x : Int) : Value := .int .u8 (48 + x)
theorem encV_bytes {l : List Int} (h : ∀ x ∈ l, 1 ≤ x ∧ x ≤ 7) (j : Nat) (hj : j < l.length) : encV l[j] = .int .u8 (((encL l)[j]'(by unfold encL; simpa using hj)).toNat : Int) := by
  unfold encV encL
  have := h l[j] (List.getElem_mem hj)
  rw [List.getElem_map, digit12_is this.1 this.2]
theorem decL_at (s : ByteArray) (k : Nat) (h : k < s.size) : (decL s)[k]'(by rw [decL_len]; exact h) = (s[k].toNat : Int) - 48 := by unfold decL; simp; rfl
/-- what came of Decode -/
def Dec12 (r : Option (List Int)) (w : World) (e : Ending) (w' : World) : Prop := Below w.heap.size w w' ∧ match r with
  | none => e = .returned (.tuple #[.slice none 0 0, .bool false])
  | some l => ∃ A c, e = .returned (.tuple #[.slice A l.length c, .bool true]) ∧ Ints w' w'.heap.size (.slice A l.length c) l
set_option maxHeartbeats 2000000 in
theorem decode12_w (s : ByteArray) (w : World) (hs : s.size ≤ 1000000) :
    Calls Try.prog 67 #[.string s] w (Dec12 (dec12 s) w) := by
  by_cases h7 : 7 < s.size
  · have hd := dec12_long h7
    have h7' : (7 : Int) < s.size := by omega
    have HD := Lib.hid hd
    clear hd
    go_enter Try.func67, Try.ntmps67
    go_wp2
    go_ret2
    rw [HD.out]
    exact ⟨Below.refl _ _, rfl⟩
  · obtain ⟨n, hn⟩ : ∃ n, s.size = n := ⟨_, rfl⟩
    have hn7 : n ≤ 7 := by omega
    have hmk := make_ints12 n (by omega) w
    obtain ⟨W1, hW1⟩ : ∃ W1, w.alloc (.cells (madeCells #[.int .i64 0] n) 3) = W1 := ⟨_, rfl⟩
    have hr1 : RowC W1 w.heap.size (List.replicate n (.int .i64 0)) := by rw [← hW1]; exact RowC.made w _ n _
    have hb1 : Below w.heap.size w W1 := by rw [← hW1]; exact below_new12 w _
    rw [hW1] at hmk
    have HN := Lib.hid hn
    have HR1 := Lib.hid hr1
    have HB1 := Lib.hid hb1
    rw [← hn] at hmk
    have h7i : ¬ (7 : Int) < s.size := by omega
    clear hn hr1 hb1 hW1 h7
    go_enter Try.func67, Try.ntmps67
    go_wp2
    go_loopw [14] (fun i wr => ∃ k : Nat, k ≤ s.size ∧ i = .int .i64 k ∧ RowC wr w.heap.size (((decL s).take k).map (Value.int .i64) ++ List.replicate ((decL s).length - k) (.int .i64 0)) ∧ Below w.heap.size w wr) (fun i _ => s.size - (intOf i).toNat)
    case atStart => exact ⟨0, Nat.zero_le _, rfl, by rw [decL_len, HN.out]; exact HR1.out, HB1.out⟩
    case round =>
      obtain ⟨k, hk, rfl, hrow, hbw⟩ := hrel
      have HRW := Lib.hid hrow
      have HBW := Lib.hid hbw
      clear hrow hbw HR1 HB1
      by_cases hlt : k < s.size
      · have hkl : k < (decL s).length := by rw [decL_len]; exact hlt
        have hsn := set_snoc12 (Value.int .i64) (decL s) (Value.int .i64 0) k hkl
        have hrl : (((decL s).take k).map (Value.int .i64) ++ List.replicate ((decL s).length - k) (Value.int .i64 0)).length = s.size := by simp; have := decL_len s; omega
        obtain ⟨hold, hfr⟩ := HRW.out.2 k (by rw [hrl]; exact hlt)
        have hrs := HRW.out.set k (.int .i64 (decL s)[k])
        rw [hsn, decL_at s k hlt] at hrs
        generalize (((decL s).take k).map (Value.int .i64) ++ List.replicate ((decL s).length - k) (Value.int .i64 0))[k]'(by rw [hrl]; exact hlt) = old at hold
        have HRS := Lib.hid hrs
        have hx9 : (s[k].toNat : Int) ≤ 255 := by have := s[k].toNat_lt; omega
        clear hsn hrl hrs hkl
        go_wp2
        go_roundw
        case rel => exact ⟨k + 1, by omega, by go_num, HRS.out, HBW.out.setCell (Nat.le_refl _) _⟩
        case measure => simp [intOf]; omega
      · have hkn : k = s.size := by omega
        have hrow := HRW.out
        rw [hkn, ← decL_len s, List.take_length, Nat.sub_self, List.replicate_zero, List.append_nil] at hrow
        have hin := RowC.ints (l := decL s) hrow (decL_len s) s.size (Nat.le_refl _)
        have hin' := hin
        rw [← decL_len s] at hin'
        have hmy := may12_w _ _ _ _ _ hin' (by rw [decL_len]; omega)
        rw [decL_len] at hmy
        have HIN := Lib.hid hin'
        cases hb : may12 (decL s) with
        | false =>
          rw [hb] at hmy
          have hd : dec12 s = none := by unfold dec12; rw [if_neg (by rw [hb]; decide)]
          have HD := Lib.hid hd
          clear hrow hin hin' hb hd
          go_wp2_with fail
          refine hmy.mono ?_
          rintro e w' ⟨rfl, rfl⟩
          go_wp2
          go_ret2
          rw [HD.out]
          exact ⟨HBW.out, rfl⟩
        | true =>
          rw [hb] at hmy
          have hd : dec12 s = some (decL s) := by unfold dec12; rw [if_pos hb]
          have HD := Lib.hid hd
          clear hin hin' hb hd
          have hlt9 := hrow.1
          clear hrow
          go_wp2_with fail
          refine hmy.mono ?_
          rintro e w' ⟨rfl, rfl⟩
          go_wp2
          go_ret2
          rw [HD.out]
          refine ⟨HBW.out, _, _, ?_, HIN.out.more (by omega)⟩
          rw [decL_len]
          rfl
end Go.Proofs.Ytoekiencnbgmhaa
/-
  Package rlog's Conf.
  The conditions: those of its log.
-/
set_option linter.unusedSimpArgs false
set_option linter.unusedVariables false
namespace Go.Proofs.Ytoekiencnbgmhaa
open Go.RowKit Go.Shelf
attribute [local go_sem] Oper.semAt_some
set_option maxRecDepth 100000

/-- the servers that an entry names, and its place -/
def cnfE (e : Ent) : Option (List Int × Int) := if e.kd = 3 then (dec12 e.data).map fun l => (l, e.ix) else none
def cnf13 (r : Lg) : Option (List Int × Int) := match r.L.reverse.findSome? cnfE with
  | some p => some p
  | none => (dec12 r.s.conf).map fun l => (l, r.s.ix)
/-- what Conf answers -/
def CnfR (q : Option (List Int × Int)) (w : World) (e : Ending) (w' : World) : Prop := Below w.heap.size w w' ∧ match q with
  | none => e = .returned (.tuple #[.slice none 0 0, .int .i64 0])
  | some p => ∃ A c, e = .returned (.tuple #[.slice A p.1.length c, .int .i64 p.2]) ∧ Ints w' w'.heap.size (.slice A p.1.length c) p.1
theorem rt_ownFrom {β : Type} (B be : Nat) (t : TypeId) (cs : List Value) : OwnFrom B (fun (_ : β) W => Rt W be t cs) := fun _ X Y row hs hg hr => by
  refine (hg.block be hs.lt (fun e => ?_)).trans hs
  obtain ⟨_, o, ho, hc⟩ := hr be e.symm
  rw [show X.heap[be]? = _ from hs] at ho
  cases ho
  cases hc
theorem ints_ownFrom {β : Type} (B : Nat) (v : Value) (L : List Int) : OwnFrom B (fun (_ : β) W => ∃ n, n ≤ W.heap.size ∧ Ints W n v L) := fun _ X Y row hs hg hr => by
  obtain ⟨n, hn, A, c, h1, h2, h3⟩ := hs
  refine ⟨n, Nat.le_trans hn hg.size, A, c, h1, h2, fun h => ?_⟩
  obtain ⟨g, o, hA, hlt, hc⟩ := h3 h
  refine ⟨g, o, hA, hlt, fun k hk => ?_⟩
  exact cell_kept (hc k hk) hg (fun r e => (hr r e).2)
/-- Decode of any text -/
theorem decode13_any (s : ByteArray) (w : World) : Calls Try.prog 67 #[.string s] w (Dec12 (dec12 s) w) := by
  by_cases h7 : 7 < s.size
  · have hd := dec12_long h7
    have h7' : (7 : Int) < s.size := by omega
    have HD := Lib.hid hd
    clear hd
    go_enter Try.func67, Try.ntmps67
    go_wp2
    go_ret2
    rw [HD.out]
    exact ⟨Below.refl _ _, rfl⟩
  · exact decode12_w s w (by omega)
theorem keeps_below {B : Nat} {W W' : World} (h : Below W.heap.size W W') : KeepsFrom B W W' := ⟨h.size, fun k _ _ hk _ => (h.block k (Array.getElem?_eq_some_iff.1 hk).1).trans hk⟩
theorem cnfE_no {e : Ent} (h : ¬ e.kd = 3) : cnfE e = none := by unfold cnfE; rw [if_neg h]
theorem cnfE_bad {e : Ent} (h : dec12 e.data = none) : cnfE e = none := by unfold cnfE; split <;> simp [h]
theorem cnfE_yes {e : Ent} {l : List Int} (h : e.kd = 3) (h2 : dec12 e.data = some l) : cnfE e = some (l, e.ix) := by unfold cnfE; rw [if_pos h, h2]; rfl
theorem find_none {pre : List (Ent × Nat)} {x : Ent × Nat} (h : pre.findSome? (fun p => cnfE p.1) = none) (hx : cnfE x.1 = none) : (pre ++ [x]).findSome? (fun p => cnfE p.1) = none := by
  rw [List.findSome?_append, h]
  simp [hx]
theorem find_some {pre : List (Ent × Nat)} {x : Ent × Nat} {q : List Int × Int} (h : pre.findSome? (fun p => cnfE p.1) = none) (hx : cnfE x.1 = some q) : (pre ++ [x]).findSome? (fun p => cnfE p.1) = some q := by
  rw [List.findSome?_append, h]
  simp [hx]
/-- a row of servers lies in no box of one value that is none of them; what is written into such a box leaves it alone -/
theorem ints_box {W : World} {b n m c : Nat} {t : TypeId} {u z : Value} {A : Option Addr} {L : List Int} (hb : Boxed W b t u) (hI : Ints W n (.slice A m c) L) (h0 : ∀ x ∈ L, Value.int .i64 x ≠ u) : Ints (W.setCell ⟨b, 0, none⟩ z) n (.slice A m c) L := by
  obtain ⟨A', c', h1, h2, h3⟩ := hI
  refine ⟨A', c', h1, h2, fun h => ?_⟩
  obtain ⟨g, o, hA, hlt, hc⟩ := h3 h
  have hne : g ≠ b := by
    intro e
    subst e
    have hc0 := hc 0 h
    have hB : W.heap[g]? = some (.cells #[u] t (0, 0)) := hb
    rw [cell_of_row W g _ _ t (0, 0) hB] at hc0
    have ho : o + 0 = 0 := by
      rcases Nat.eq_zero_or_pos (o + 0) with e | e
      · exact e
      · rw [Array.getElem?_eq_none (by simp; omega)] at hc0; cases hc0
    rw [ho] at hc0
    have : u = .int .i64 L[0] := by simpa using hc0
    exact h0 _ (List.getElem_mem h) this.symm
  exact ⟨g, o, hA, hlt, fun k hk => ((Off.refl (S := fun j => j = b) W).set (j := 0) (u := z) (.inl rfl)).cell (p := ⟨g, o + k, none⟩) (cell_lt (hc k hk)) hne |>.trans (hc k hk)⟩
theorem dec12_pos {s : ByteArray} {l : List Int} (h : dec12 s = some l) : ∀ x ∈ l, 1 ≤ x := by
  unfold dec12 at h
  split at h
  · rename_i hm
    injection h with h
    subst h
    intro x hx
    have := mayF_mem (may12_F hm) x hx
    omega
  · cases h
/-- at the function's end: both boxes are told, the block of the rounds' deferred calls is turned -/
theorem conf_boxes {W : World} {b D : Nat} {v : Value} {i : Int} (hD : b + 3 ≤ D) (bx : Boxed W b 50 v) (yx : Boxed W (b + 1) 2 (.int .i64 i)) : (W.putObj D (.deferred none)).cell? ⟨b, 0, none⟩ = some v ∧ (W.putObj D (.deferred none)).cell? ⟨b + 1, 0, none⟩ = some (.int .i64 i) :=
  ⟨(bx.kept (grownBy_putObj' W D _) (fun e => by cases e; omega)).cell, (yx.kept (grownBy_putObj' W D _) (fun e => by cases e; omega)).cell⟩
theorem conf_below {w W : World} {b D : Nat} {L : Option (List Deferred)} (hb : w.heap.size = b) (hD : b ≤ D) (h : Below b w W) (hK : W.heap[D]? = some (.deferred L)) : Below w.heap.size w (W.putObj D (.deferred none)) := by
  rw [hb]
  exact h.trans (belowK_b (w := w) (by omega) W D _ _ (by omega) hK rfl rfl)
theorem conf_ints {W : World} {D n : Nat} {v : Value} {l : List Int} {L : Option (List Deferred)} (hn : n ≤ W.heap.size) (hI : Ints W n v l) (hK : W.heap[D]? = some (.deferred L)) : Ints (W.putObj D (.deferred none)) (W.putObj D (.deferred none)).heap.size v l := by
  obtain ⟨m, hm, h⟩ := ints_ownFrom (β := Unit) D v l () W (W.putObj D (.deferred none)) (some D) ⟨n, hn, hI⟩ (grownBy_putObj' W D _) (fun r e => by cases e; exact ⟨Nat.le_refl _, _, hK, rfl⟩)
  exact h.more hm
def Meet13 (b : Act) (R : World → Prop) : Exit → Act → World → Prop
  | .normal, a, W => a = b ∧ R W
  | _, _, _ => False
theorem wpIn_meet13 {F : Fence} {n : Nat} {P : Program} {c : Code} {Q : Exit → Act → World → Prop} {a b : Act} {w : World} {R : World → Prop} (h1 : c.wpIn F n P (Meet13 b R) a w) (h2 : ∀ W, R W → Q .normal b W) : c.wpIn F n P Q a w :=
  Code.wpIn_mono (fun e a' w' h => by
    cases e <;> first | exact h.elim | skip
    obtain ⟨rfl, h⟩ := h
    exact h2 _ h) h1
/-- between two rounds -/
def CnfI (b : Nat) (w0 : World) (pre : List (Ent × Nat)) (W : World) : Prop :=
  pre.findSome? (fun p => cnfE p.1) = none ∧ Boxed W b 50 (.slice none 0 0) ∧ Boxed W (b + 1) 2 (.int .i64 0) ∧ Below (b + 3) w0 W
theorem cnfI_own {b B : Nat} {w0 : World} (h : b + 3 ≤ B ∧ b + 3 ≤ w0.heap.size) : OwnFrom B (CnfI b w0) :=
  OwnFrom.and (ownFrom_pure B _) (OwnFrom.and (Own.from (boxed_own b 50 (fun _ => .slice none 0 0)) _) (OwnFrom.and (Own.from (boxed_own (b + 1) 2 (fun _ => .int .i64 0)) _) (ownFrom_below h.2 h.1)))
/-- where the body has answered -/
def CnfX (b : Nat) (w0 : World) (c : Code) (pre : List (Ent × Nat)) (W : World) : Prop :=
  ∃ (q : List Int × Int) (v : Value), (c = .ret ∧ pre.findSome? (fun p => cnfE p.1) = some q ∧ ∃ A c', v = .slice A q.1.length c') ∧ Boxed W b 50 v ∧ Boxed W (b + 1) 2 (.int .i64 q.2) ∧ (∃ n, n ≤ W.heap.size ∧ Ints W n v q.1) ∧ Below b w0 W
theorem cnfX_own {b B : Nat} {w0 : World} (c : Code) (h : b ≤ B ∧ b ≤ w0.heap.size) : OwnFrom B (CnfX b w0 c) := fun s X Y row hs hg hr => by
  obtain ⟨q, v, h1, h2, h3, h4, h5⟩ := hs
  exact ⟨q, v, h1, Own.from (boxed_own b 50 (fun _ : Unit => v)) B () X Y row h2 hg hr, Own.from (boxed_own (b + 1) 2 (fun _ : Unit => .int .i64 q.2)) B () X Y row h3 hg hr, ints_ownFrom B v q.1 () X Y row h4 hg hr, ownFrom_below h.2 h.1 () X Y row h5 hg hr⟩
theorem findSome_prefix {pre L : List (Ent × Nat)} {f : Ent × Nat → Option (List Int × Int)} {q : List Int × Int} (h : pre <+: L) (hq : pre.findSome? f = some q) : L.findSome? f = some q := by
  obtain ⟨r, rfl⟩ := h
  rw [List.findSome?_append, hq]; rfl
theorem revs_find (L : List Ent) : (revs L).findSome? (fun p => cnfE p.1) = L.reverse.findSome? cnfE := by
  unfold revs
  have h : L.reverse = L.zipIdx.reverse.map (fun p => p.1) := by
    rw [List.map_reverse, List.zipIdx_map_fst]
  rw [h, List.findSome?_map]
  rfl
set_option maxHeartbeats 4000000 in
theorem lconf_any {w : World} {g : Nat} {v : Value} {r : Lg} (h : LB w g v r) (hk : Lok 1000000 r) :
    Calls Try.prog 56 #[.pointer (some ⟨g, 0, none⟩)] w (CnfR (cnf13 r) w) := by
  have hE := Ens.of_own h.own
  have hlt := h.own.lt
  have hbx := h.box
  obtain ⟨A, c, rfl, hc, c0, c1, c2, c3, c4⟩ := h.parts
  have hsz := hk.2.2.2.1
  have hcz := hk.2.2.2.2.1
  have hl2 := hk.2.2.1
  have hgl := hbx.lt
  obtain ⟨b, hb⟩ : ∃ b, w.heap.size = b := ⟨_, rfl⟩
  obtain ⟨W0, hW0⟩ : ∃ W0, (w.alloc (.cells #[.slice none 0 0] 50)).alloc (.cells #[.int .i64 0] 2) = W0 := ⟨_, rfl⟩
  have hB0 : Below b w W0 := by rw [← hW0, ← hb]; exact below_two _ _ _
  have bx : Boxed W0 b 50 (.slice none 0 0) := by rw [← hW0, ← hb]; exact Rt.below (Rt.new w _ [.slice none 0 0]) (below_new _ _)
  have by1 : Boxed W0 (b + 1) 2 (.int .i64 0) := by rw [← hW0, ← hb]; exact Rt.new_at _ _ _ [.int .i64 0] (by simp)
  have hz0 : W0.heap.size = b + 2 := by rw [← hW0, ← hb]; simp
  rw [hb] at hgl
  have d4 := (hB0.cell (p := ⟨g, 4, none⟩) hgl).trans c4
  obtain ⟨n, hn⟩ : ∃ n, r.L.length = n := ⟨_, rfl⟩
  rw [hn] at d4 hE hc hl2
  have HE := Lib.hid hE
  have HN := Lib.hid hn
  have HSZ := Lib.hid hsz
  have HBX := Lib.hid hbx
  have HLT := Lib.hid hlt
  have HB0 := Lib.hid hB0
  clear hE hsz hbx hlt h c0 c1 c2 c3 c4 hk hB0
  refine (callsIn_wide (n := 4)).1 ?_
  refine callsIn_of_wp_marks Try.func56 rfl trivial ?_ rfl
  simp only [Try.ntmps56, List.size_toArray, List.length_cons, List.length_nil, Nat.reduceAdd, Nat.reduceSub, Array.replicate_succ, Array.replicate_zero, List.push_toArray, List.append_toArray, List.nil_append, List.cons_append]
  gi_wp2
  refine ⟨trivial, (backward_in Fence.wide 3 trivial rfl _ _ _ _).mono ?_⟩
  rintro e w5 ⟨rfl, hw5⟩
  have hW5 : w5 = W0.alloc (.cells #[.slice A n c] 24) := hw5
  have hb5 : Below W0.heap.size W0 w5 := by rw [hW5]; exact below_new _ _
  have hz5 : w5.heap.size = b + 3 := by rw [hW5, World.size_alloc, hz0]
  have hs5 : w5.cell? ⟨b + 2, 0, none⟩ = some (.slice A n c) := by
    have := Rt.new_at W0 (b + 2) 24 [.slice A n c] hz0
    rw [hW5]; exact this.cell rfl
  have hBw : Below b w w5 := HB0.out.trans (hb5.mono (by omega))
  have bx5 : Boxed w5 b 50 (.slice none 0 0) := (hb5.block b (by omega)).trans bx
  have by5 : Boxed w5 (b + 1) 2 (.int .i64 0) := (hb5.block (b + 1) (by omega)).trans by1
  have hE5 : Ens (fun j => j < b + 3) w5 (.slice A n c) r.L := (HE.out.below (by rw [hb]; exact hBw)).mono fun j hj hl => by omega
  have hst := backward_stops Fence.wide 3 trivial rfl (by omega) (b + 2) (b + 3) A c r.L (by rw [HN.out]; omega) w5 (by omega) (by omega) (by rw [HN.out]; exact hs5) (by rw [HN.out]; exact hE5)
  have HST := Lib.hid hst
  have HX5 := Lib.hid (And.intro bx5 by5)
  have HBW := Lib.hid hBw
  rw [hz0]
  clear hw5 hW5 hb5 hs5 bx5 by5 hE5 hst bx by1 hBw d4
  gi_wp2
  refine wpIn_rangeFunc_ownH rfl (by omega) (gf := 78) (lb := #[.pointer (some ⟨b + 2, 0, none⟩)]) rfl trivial (enters_of Try.func78 (by kernel_rfl) rfl)
    HST.out belowK_t (belowK_b (by omega)) (Below.refl _ _) (fun _ => rfl)
    (CnfI b w5) (CnfX b w) (cnfI_own ⟨by omega, by omega⟩) (fun c => cnfX_own c ⟨by omega, by omega⟩)
    ⟨rfl, HX5.out.1, HX5.out.2, Below.refl _ _⟩
    (fun x a' W => ∃ be, w5.heap.size ≤ be ∧ Rt W be 65 x.1.cs ∧ a' = { tmps := #[.pointer (some ⟨g, 0, none⟩), undef, .pointer (some ⟨b, 0, none⟩), .pointer (some ⟨b + 1, 0, none⟩), undef, .pointer (some ⟨be, 0, none⟩), undef, undef, undef, undef, .pointer (some ⟨g, 0, none⟩), .bool false, .pointer (some ⟨g, 0, none⟩), .pointer (some ⟨g, 0, none⟩), .pointer (some ⟨g, 4, none⟩), .slice A n c, .func (.func 78) #[] #[.pointer (some ⟨b + 2, 0, none⟩)], .int .i64 (x.2 : Int), x.1.val, undef, undef, undef, undef, undef, undef, undef, undef, undef, undef, undef, undef, undef, undef, undef, undef, undef, undef, undef, undef, undef, undef, undef, undef, undef, undef, undef, undef, undef], defers := [] })
    (fun x a' => by
      intro s X Y row hs hg hr
      obtain ⟨be, h1, h2, h3⟩ := hs
      exact ⟨be, h1, rt_ownFrom w5.heap.size be _ _ () X Y row h2 hg hr, h3⟩)
    ?assign ?body ?done ?stop
  case assign =>
    rintro l pre ⟨⟨xk, yk, zk, dk⟩, q⟩ W K hI hK
    simp only [encR13, Ent.val]
    gi_wp2
    obtain ⟨hno, bxW, byW, hBW⟩ := hI
    have hsz := hBW.size
    have hn := below_new W (.cells #[.int .i64 xk, .int .i64 yk, .int .i64 zk, .string dk] 65)
    exact hK _ _ (keeps_below hn) (hn.mono (by omega)) ⟨hno, (hn.block b (by omega)).trans bxW, (hn.block (b + 1) (by omega)).trans byW, hBW.trans (hn.mono (by omega))⟩ ⟨W.heap.size, by omega, Rt.new W _ [.int .i64 xk, .int .i64 yk, .int .i64 zk, .string dk], rfl⟩
  case body =>
    rintro l pre ⟨⟨xk, yk, zk, dk⟩, q⟩ a' W hl hrec ⟨hno, bxW, byW, hBW⟩ ⟨be, hbe, hR, rfl⟩ hlt
    simp only [Ent.val]
    have hsz := hBW.size
    have e0 := hR.cell (j := 0) (v := .int .i64 xk) rfl
    have e2 := hR.cell (j := 2) (v := .int .i64 zk) rfl
    have e3 := hR.cell (j := 3) (v := .string dk) rfl
    have HNO := Lib.hid hno
    by_cases hz3 : zk = 3
    · subst hz3
      have HDEC := Lib.hid (decode13_any dk W)
      cases hd : dec12 dk with
      | none =>
        rw [hd] at HDEC
        gi_wp2
        refine ⟨trivial, (CallsIn.inRound l (callsIn_wide.2 HDEC.out)).mono ?_⟩
        rintro e W6 ⟨h6, rfl⟩
        gi_wp2
        have hn := h6
        have hc := cnfE_bad (e := ⟨xk, yk, 3, dk⟩) hd
        exact ⟨keeps_below hn, hn.mono (by omega), find_none HNO.out hc, (hn.block b (by omega)).trans bxW, (hn.block (b + 1) (by omega)).trans byW, hBW.trans (hn.mono (by omega))⟩
      | some cs =>
        rw [hd] at HDEC
        gi_wp2
        refine ⟨trivial, (CallsIn.inRound l (callsIn_wide.2 HDEC.out)).mono ?_⟩
        rintro e W6 ⟨h6, A6, c6, rfl, hI6⟩
        have hbl := hR.lt
        have e06 := (h6.cell (p := ⟨be, 0, none⟩) hbl).trans e0
        have bx6 : Boxed W6 b 50 (.slice none 0 0) := (h6.block b (by omega)).trans bxW
        have by6 : Boxed W6 (b + 1) 2 (.int .i64 0) := (h6.block (b + 1) (by omega)).trans byW
        have x6 := bx6.cell
        have y6 := by6.cell
        have fx6 := bx6.frozen
        have fy6 := by6.frozen
        have hbe2 : be ≠ b := by omega
        have hbe3 : be ≠ b + 1 := by omega
        obtain ⟨ln, hln⟩ : ∃ ln, cs.length = ln := ⟨_, rfl⟩
        rw [hln] at hI6 ⊢
        have HLN := Lib.hid hln
        have HI6 := Lib.hid hI6
        have H6 := Lib.hid h6
        have hBW6 : Below b w W6 := HBW.out.trans ((hBW.mono (by omega)).trans (h6.mono (by omega)))
        have HBW6 := Lib.hid hBW6
        clear hln hI6 h6 hBW6 e0 e2 e3
        gi_wp2
        apply wpIn_meet13 (R := fun Wz => Wz = (W6.drew.setCell ⟨b, 0, none⟩ (.slice A6 ln c6)).setCell ⟨b + 1, 0, none⟩ (.int .i64 xk))
        · gi_region
          all_goals exact ⟨rfl, rfl⟩
        rintro W8 rfl
        gi_wp2
        have hpos := dec12_pos hd
        have bd : Boxed W6.drew b 50 (.slice none 0 0) := bx6
        have yd : Boxed W6.drew (b + 1) 2 (.int .i64 0) := by6
        have b7 : Boxed (W6.drew.setCell ⟨b, 0, none⟩ (.slice A6 ln c6)) b 50 (.slice A6 ln c6) := (show Rt W6.drew b _ [_] from bd).set 0 _
        have y7 : Boxed (W6.drew.setCell ⟨b, 0, none⟩ (.slice A6 ln c6)) (b + 1) 2 (.int .i64 0) := yd.other (by omega) _
        have b8 := b7.other (B' := b + 1) (by omega) (.int .i64 xk)
        have y8 : Boxed ((W6.drew.setCell ⟨b, 0, none⟩ (.slice A6 ln c6)).setCell ⟨b + 1, 0, none⟩ (.int .i64 xk)) (b + 1) 2 (.int .i64 xk) := (show Rt _ (b + 1) _ [_] from y7).set 0 _
        have i7 := ints_box (z := .slice A6 ln c6) bd (show Ints W6.drew W6.heap.size (.slice A6 ln c6) cs from HI6.out) (fun x _ e => by cases e)
        have i8 := ints_box (z := .int .i64 xk) y7 i7 (fun x hx e => by injection e with _ e; have := hpos x hx; omega)
        refine ⟨KeepsFrom.trans (Y := W6.drew) (keeps_below H6.out.drew) (KeepsFrom.trans (Y := W6.drew.setCell ⟨b, 0, none⟩ (.slice A6 ln c6)) ((KeepsOthers.setCell _ _ _).from _) ((KeepsOthers.setCell _ _ _).from _)), (cs, xk), _, ⟨rfl, find_some HNO.out (cnfE_yes rfl hd), A6, c6, by rw [HLN.out]⟩, b8, y8, ⟨W6.heap.size, by simp [World.setCell], i8⟩, ?_⟩
        exact (HBW6.out.drew.setCell (p := ⟨b, 0, none⟩) (Nat.le_refl b) _).setCell (p := ⟨b + 1, 0, none⟩) (Nat.le_succ b) _
    · have hzb : (zk != 3) = true := by simpa using hz3
      have hc := cnfE_no (e := ⟨xk, yk, zk, dk⟩) hz3
      gi_wp2
      exact ⟨KeepsFrom.refl _ _, Below.refl _ _, find_none HNO.out hc, bxW, byW, hBW⟩
  case done =>
    rintro D ys W hD rfl ⟨hno, bxW, byW, hBW⟩ hKD
    have hBwW : Below b w W := HBW.out.trans (hBW.mono (by omega))
    have hRg := HBX.out.below (show Below w.heap.size w W by rw [hb]; exact hBwW)
    have g2 := hRg.cell (j := 2) (v := .string r.s.conf) rfl
    have g0 := hRg.cell (j := 0) (v := .int .i64 r.s.ix) rfl
    have hno2 : cnf13 r = (dec12 r.s.conf).map fun l => (l, r.s.ix) := by
      unfold cnf13
      rw [revs_find] at hno
      rw [hno]
    obtain ⟨cf, hcf⟩ : ∃ cf, r.s.conf = cf := ⟨_, rfl⟩
    obtain ⟨ix, hix⟩ : ∃ ix, r.s.ix = ix := ⟨_, rfl⟩
    rw [hcf] at g2 hno2
    rw [hix] at g0 hno2
    have HDEC := Lib.hid (decode13_any cf W)
    have HNO := Lib.hid hno2
    have hgW := hRg.lt
    have hsz := hBW.size
    clear hno hno2 hRg
    cases hd : dec12 cf with
    | none =>
      rw [hd] at HDEC HNO
      gi_wp2
      refine ⟨trivial, (callsIn_wide.2 HDEC.out).mono ?_⟩
      rintro e W6 ⟨h6, rfl⟩
      have bx6 : Boxed W6 b 50 (.slice none 0 0) := (h6.block b (by omega)).trans bxW
      have by6 : Boxed W6 (b + 1) 2 (.int .i64 0) := (h6.block (b + 1) (by omega)).trans byW
      have hK6 : W6.heap[D]? = some (.deferred (some [])) := (h6.block D (Array.getElem?_eq_some_iff.1 hKD).1).trans hKD
      have x6 := bx6.cell
      have y6 := by6.cell
      have fx6 := bx6.frozen
      have fy6 := by6.frozen
      have HN6 := Lib.hid (And.intro (hBwW.trans (h6.mono (by omega))) hK6)
      clear h6 hK6
      gi_wp2
      have b7 : Boxed (W6.setCell ⟨b, 0, none⟩ (.slice none 0 0)) b 50 (.slice none 0 0) := (show Rt W6 b _ [_] from bx6).set 0 _
      have y7 : Boxed (W6.setCell ⟨b, 0, none⟩ (.slice none 0 0)) (b + 1) 2 (.int .i64 0) := by6.other (by omega) _
      have b8 := b7.other (B' := b + 1) (by omega) (.int .i64 0)
      have y8 : Boxed ((W6.setCell ⟨b, 0, none⟩ (.slice none 0 0)).setCell ⟨b + 1, 0, none⟩ (.int .i64 0)) (b + 1) 2 (.int .i64 0) := (show Rt _ (b + 1) _ [_] from y7).set 0 _
      have hK8 : ((W6.setCell ⟨b, 0, none⟩ (.slice none 0 0)).setCell ⟨b + 1, 0, none⟩ (.int .i64 0)).heap[D]? = some (.deferred (some [])) := (Below.heap_setCell _ _ _ _ (by simp only; omega)).trans ((Below.heap_setCell _ _ _ _ (by simp only; omega)).trans HN6.out.2)
      have hB8 : Below b w ((W6.setCell ⟨b, 0, none⟩ (.slice none 0 0)).setCell ⟨b + 1, 0, none⟩ (.int .i64 0)) := (HN6.out.1.setCell (p := ⟨b, 0, none⟩) (Nat.le_refl _) _).setCell (p := ⟨b + 1, 0, none⟩) (Nat.le_succ _) _
      refine ⟨by simp, .inl ⟨_, _, rfl, run_takeDeferred hK8, ?_⟩⟩
      have hcc := conf_boxes (D := D) (by omega) b8 y8
      have hz := HNO.out
      refine ⟨.tuple #[.slice none 0 0, .int .i64 0], by simp [results, Try.results56, go_sem, hcc.1, hcc.2], conf_below hb (by omega) hB8 hK8, ?_⟩
      rw [hz]
      rfl
    | some cs =>
      rw [hd] at HDEC HNO
      gi_wp2
      refine ⟨trivial, (callsIn_wide.2 HDEC.out).mono ?_⟩
      rintro e W6 ⟨h6, A6, c6, rfl, hI6⟩
      have bx6 : Boxed W6 b 50 (.slice none 0 0) := (h6.block b (by omega)).trans bxW
      have by6 : Boxed W6 (b + 1) 2 (.int .i64 0) := (h6.block (b + 1) (by omega)).trans byW
      have hK6 : W6.heap[D]? = some (.deferred (some [])) := (h6.block D (Array.getElem?_eq_some_iff.1 hKD).1).trans hKD
      have e06 := (h6.cell (p := ⟨g, 0, none⟩) hgW).trans g0
      have x6 := bx6.cell
      have y6 := by6.cell
      have fx6 := bx6.frozen
      have fy6 := by6.frozen
      have hgb : g ≠ b := by omega
      have hgb2 : g ≠ b + 1 := by omega
      obtain ⟨ln, hln⟩ : ∃ ln, cs.length = ln := ⟨_, rfl⟩
      rw [hln] at hI6 ⊢
      have HLN := Lib.hid hln
      have HI6 := Lib.hid hI6
      have HN6 := Lib.hid (And.intro (hBwW.trans (h6.mono (by omega))) hK6)
      clear h6 hK6 hln hI6 g0 g2
      gi_wp2
      apply wpIn_meet13 (R := fun Wz => Wz = (W6.drew.setCell ⟨b, 0, none⟩ (.slice A6 ln c6)).setCell ⟨b + 1, 0, none⟩ (.int .i64 ix))
      · gi_region
        all_goals exact ⟨rfl, rfl⟩
      intro W8 hW8
      gi_wp2
      have hpos := dec12_pos hd
      have bd : Boxed W6.drew b 50 (.slice none 0 0) := bx6
      have yd : Boxed W6.drew (b + 1) 2 (.int .i64 0) := by6
      have b7 : Boxed (W6.drew.setCell ⟨b, 0, none⟩ (.slice A6 ln c6)) b 50 (.slice A6 ln c6) := (show Rt W6.drew b _ [_] from bd).set 0 _
      have y7 : Boxed (W6.drew.setCell ⟨b, 0, none⟩ (.slice A6 ln c6)) (b + 1) 2 (.int .i64 0) := yd.other (by omega) _
      have b8 := b7.other (B' := b + 1) (by omega) (.int .i64 ix)
      have y8 : Boxed ((W6.drew.setCell ⟨b, 0, none⟩ (.slice A6 ln c6)).setCell ⟨b + 1, 0, none⟩ (.int .i64 ix)) (b + 1) 2 (.int .i64 ix) := (show Rt _ (b + 1) _ [_] from y7).set 0 _
      have i7 := ints_box (z := .slice A6 ln c6) bd (show Ints W6.drew W6.heap.size (.slice A6 ln c6) cs from HI6.out) (fun x _ e => by cases e)
      have i8 := ints_box (z := .int .i64 ix) y7 i7 (fun x hx e => by injection e with _ e; have := hpos x hx; omega)
      have hK8 : ((W6.drew.setCell ⟨b, 0, none⟩ (.slice A6 ln c6)).setCell ⟨b + 1, 0, none⟩ (.int .i64 ix)).heap[D]? = some (.deferred (some [])) := (Below.heap_setCell _ _ _ _ (by simp only; omega)).trans ((Below.heap_setCell _ _ _ _ (by simp only; omega)).trans HN6.out.2)
      have hB8 : Below b w ((W6.drew.setCell ⟨b, 0, none⟩ (.slice A6 ln c6)).setCell ⟨b + 1, 0, none⟩ (.int .i64 ix)) := (HN6.out.1.drew.setCell (p := ⟨b, 0, none⟩) (Nat.le_refl _) _).setCell (p := ⟨b + 1, 0, none⟩) (Nat.le_succ _) _
      have hs8 : W6.heap.size ≤ W8.heap.size := by rw [hW8]; simp [World.setCell]
      rw [← hW8] at b8 y8 i8 hK8 hB8
      refine ⟨by simp, .inl ⟨_, _, rfl, run_takeDeferred hK8, ?_⟩⟩
      have hcc := conf_boxes (D := D) (by omega) b8 y8
      clear hW8 b7 y7 i7
      have hz := HNO.out
      refine ⟨.tuple #[.slice A6 ln c6, .int .i64 ix], by simp [results, Try.results56, go_sem, hcc.1, hcc.2], conf_below hb (by omega) hB8 hK8, ?_⟩
      rw [hz]
      refine ⟨A6, c6, by rw [HLN.out], ?_⟩
      rw [HLN.out]
      exact conf_ints (n := W6.heap.size) hs8 i8 hK8
  case stop =>
    rintro D c pre W hD hpre ⟨q, v, ⟨rfl, hq, A', c', rfl⟩, bxW, byW, ⟨nn, hnn, hIn⟩, hBW⟩ hKD
    have x0 := bxW.cell
    have y0 := byW.cell
    have hcn : cnf13 r = some q := by
      have := findSome_prefix hpre hq
      rw [revs_find] at this
      unfold cnf13
      rw [this]
    rw [hcn]
    gi_wp2
    refine ⟨by simp, .inl ⟨_, _, rfl, run_takeDeferred hKD, ?_⟩⟩
    have hcc := conf_boxes (D := D) (by omega) bxW byW
    refine ⟨.tuple #[.slice A' q.1.length c', .int .i64 q.2], by simp [results, Try.results56, go_sem, hcc.1, hcc.2], conf_below hb (by omega) hBW hKD, A', c', rfl, conf_ints hnn hIn hKD⟩
end Go.Proofs.Ytoekiencnbgmhaa
/-
  slices.Concat of ints, and package conf's Add and Remove, make what the plain functions say.
  Lists have at most 1,000 servers.
-/
set_option linter.unusedSimpArgs false
set_option linter.unusedVariables false
namespace Go.Proofs.Ytoekiencnbgmhaa
open Go.RowKit Go.Deep
set_option maxRecDepth 100000

/-- a slice of slices -/
def Sls (w : World) (B : Nat) (v : Value) (Vs : List Value) : Prop :=
  ∃ A c, v = .slice A Vs.length c ∧ Vs.length ≤ c ∧ (0 < Vs.length → ∃ g o, A = some ⟨g, o, Option.none⟩ ∧ g < B ∧ ∀ k (h : k < Vs.length), w.cell? ⟨g, o + k, Option.none⟩ = some Vs[k])
theorem Sls.at_ {w : World} {B n c : Nat} {A : Option Addr} {Vs : List Value} (h : Sls w B (.slice A n c) Vs) (k : Nat) (hk : k < Vs.length) :
    ∃ g o, A = some ⟨g, o, Option.none⟩ ∧ g < B ∧ w.cell? ⟨g, o + k, Option.none⟩ = some Vs[k] := by
  obtain ⟨A', c', hv, _, h⟩ := h
  injection hv with e1 e2 e3
  subst e1
  obtain ⟨g, o, rfl, hg, hcs⟩ := h (by omega)
  exact ⟨g, o, rfl, hg, hcs k hk⟩
theorem sls_new (w : World) (C : Array Value) (t : TypeId) : Sls (w.alloc (.cells C t)) (w.heap.size + 1) (.slice (some ⟨w.heap.size, 0, Option.none⟩) C.toList.length C.toList.length) C.toList := by
  refine ⟨_, _, rfl, Nat.le_refl _, fun _ => ⟨w.heap.size, 0, rfl, by omega, fun k hk => ?_⟩⟩
  rw [World.cell?_alloc_mark]
  have hk' : k < C.size := by simpa using hk
  simp [hk']
/-- the slices read so -/
def Ilss (w : World) (B : Nat) (Vs : List Value) (Ls : List (List Int)) : Prop := Vs.length = Ls.length ∧ ∀ k (h : k < Vs.length) (h2 : k < Ls.length), Ints w B Vs[k] Ls[k]
theorem flat_take12 (Ls : List (List Int)) (k : Nat) (h : k < Ls.length) : (Ls.take (k + 1)).flatten = (Ls.take k).flatten ++ Ls[k] := by
  rw [List.take_succ_eq_append_getElem h, List.flatten_append]; simp
theorem flat_take_le12 (Ls : List (List Int)) (k : Nat) : (Ls.take k).flatten.length ≤ Ls.flatten.length := by
  have h : (Ls.take k).flatten ++ (Ls.drop k).flatten = Ls.flatten := by rw [← List.flatten_append, List.take_append_drop]
  rw [← h, List.length_append]; omega
end Go.Proofs.Ytoekiencnbgmhaa
/-
  Package conf's Add and Remove make what the plain functions say.
  Lists have at most 1,000 servers.
-/
set_option linter.unusedSimpArgs false
set_option linter.unusedVariables false
namespace Go.Proofs.Ytoekiencnbgmhaa
open Go.RowKit Go.Deep
set_option maxRecDepth 100000

/-- slices.BinarySearch at a list that may be -/
theorem bsearch12_w (A : Option Addr) (c B : Nat) (L : List Int) (x : Int) (w : World) (h : Ints w B (.slice A L.length c) L) (hl : L.length ≤ 1000) (hs : L.Pairwise (· ≤ ·)) :
    Calls Try.prog 72 #[.slice A L.length c, .int .i64 x] w fun e w' => e = .returned (.tuple #[.int .i64 (L.countP (· < x) : Nat), .bool (L.contains x)]) ∧ ∃ q, w' = w.drewN q := by
  by_cases h0 : 0 < L.length
  · obtain ⟨g, o, rfl, _, _⟩ := h.at_ 0 h0
    have := Try.slices_BinarySearch_int g o L.length c L x w (Nat.le_refl _) (by omega) (fun j hj => by
      obtain ⟨g', o', e, _, hc⟩ := h.at_ j hj
      injection e with e; injection e with e1 e2; subst e1; subst e2
      rw [hc]; simp [hj]) (by rw [List.take_length]; exact hs)
    rw [List.take_length] at this
    exact this
  · have h1 : L = [] := List.eq_nil_of_length_eq_zero (by omega)
    subst h1
    refine (Try.slices_BinarySearch_int_empty A c x w).mono ?_
    rintro e w' ⟨rfl, rfl⟩
    exact ⟨rfl, 0, rfl⟩
theorem below_drewN12 (w : World) (q : Nat) : Below w.heap.size w (w.drewN q) := Go.below_drewN (Below.refl _ w) q
theorem Ints.len12 {w : World} {B n c : Nat} {A : Option Addr} {l : List Int} (h : Ints w B (.slice A n c) l) : n = l.length := h.cap.1
theorem countP_contains12 {L : List Int} {x : Int} (h : L.contains x = true) : L.countP (· < x) + 1 ≤ L.length := by
  have h1 : 0 < L.countP (fun y => !decide (y < x)) := List.countP_pos_iff.2 ⟨x, by simpa using h, by simp⟩
  have h2 := List.length_eq_countP_add_countP (fun y => decide (y < x)) (l := L)
  have h3 : L.countP (fun y => !decide (y < x)) = L.countP (fun y => decide ¬ decide (y < x) = true) := by
    congr 1; funext y; by_cases h : y < x <;> simp [h]
  omega
end Go.Proofs.Ytoekiencnbgmhaa
/-
  Package conf's Add and Remove at any list and any number.
  Lists have at most 1,000 servers.
-/
set_option linter.unusedSimpArgs false
set_option linter.unusedVariables false
namespace Go.Proofs.Ytoekiencnbgmhaa
open Go.RowKit Go.Deep
set_option maxRecDepth 100000

theorem add12_none1 {L : List Int} {x : Int} (h : may12 L = false) : add12 L x = none := by unfold add12; rw [if_neg (fun e => by rw [h] at e; exact absurd e.1 (by decide))]
theorem add12_none2 {L : List Int} {x : Int} (h : may12 [x] = false) : add12 L x = none := by unfold add12; rw [if_neg (fun e => by rw [h] at e; exact absurd e.2.1 (by decide))]
theorem add12_none3 {L : List Int} {x : Int} (h : L.contains x = true) : add12 L x = none := by unfold add12; rw [if_neg (fun e => by rw [h] at e; exact absurd e.2.2 (by decide))]
theorem add12_some {L : List Int} {x : Int} (h : may12 L = true) (h2 : may12 [x] = true) (h3 : L.contains x = false) : add12 L x = some (ins12 L x) := by unfold add12; rw [if_pos ⟨h, h2, h3⟩]
theorem rem12_none1 {L : List Int} {x : Int} (h : may12 L = false) : rem12 L x = none := by unfold rem12; rw [if_neg (fun e => by rw [h] at e; exact absurd e.1 (by decide))]
theorem rem12_none2 {L : List Int} {x : Int} (h : L.length = 1) : rem12 L x = none := by unfold rem12; rw [if_neg (fun e => e.2.1 h)]
theorem rem12_none3 {L : List Int} {x : Int} (h : L.contains x = false) : rem12 L x = none := by unfold rem12; rw [if_neg (fun e => by rw [h] at e; exact absurd e.2.2 (by decide))]
theorem rem12_some {L : List Int} {x : Int} (h : may12 L = true) (h2 : ¬ L.length = 1) (h3 : L.contains x = true) : rem12 L x = some (del12 L x) := by unfold rem12; rw [if_pos ⟨h, h2, h3⟩]
end Go.Proofs.Ytoekiencnbgmhaa
/-
  The laws' helpers set, eq and cut, and the reference's functions on lists of servers.
  Lists have at most 1,000 servers, texts at most 1,000 bytes.
-/
set_option linter.unusedSimpArgs false
set_option linter.unusedVariables false
namespace Go.Proofs.Ytoekiencnbgmhaa
open Go.RowKit Go.Deep
set_option maxRecDepth 100000

def bitF (bits : Int) (k : Nat) : Bool := (bits / 2 ^ k).tmod 2 != 0
def setF12 (f : Nat → Bool) : List Int := ((List.range 7).filter f).map fun k : Nat => ((k : Int) + 1)
def setN (f : Nat → Bool) (n : Nat) : List Int := ((List.range n).filter f).map fun k : Nat => ((k : Int) + 1)
theorem setN_succ (f : Nat → Bool) (n : Nat) : setN f (n + 1) = setN f n ++ (if f n = true then [(n : Int) + 1] else []) := by
  unfold setN
  rw [List.range_succ, List.filter_append, List.map_append]
  congr 1
  cases h : f n <;> simp [h]
theorem setN_len (f : Nat → Bool) (n : Nat) : (setN f n).length ≤ n := by
  unfold setN
  rw [List.length_map]
  exact Nat.le_trans (List.length_filter_le _ _) (by simp)
theorem setF12_may (f : Nat → Bool) : mayF 0 (setF12 f) = true := by
  have h : ∀ a b c d e g i : Bool, mayF 0 ((if a then [1] else []) ++ (if b then [2] else []) ++ (if c then [3] else []) ++ (if d then [4] else []) ++ (if e then [5] else []) ++ (if g then [6] else []) ++ (if i then [7] else [])) = true := by decide +kernel
  have := h (f 0) (f 1) (f 2) (f 3) (f 4) (f 5) (f 6)
  have e : setF12 f = setN f 7 := rfl
  rw [e, setN_succ, setN_succ, setN_succ, setN_succ, setN_succ, setN_succ, setN_succ]
  have e0 : setN f 0 = [] := rfl
  rw [e0, List.nil_append]
  exact this
theorem setF12_len (f : Nat → Bool) : (setF12 f).length ≤ 7 := setN_len f 7
theorem OwnZ.new12 {B : Nat} {v : Value} {l : List Int} {w : World} (h : OwnZ B v l w) (o : Obj) : OwnZ B v l (w.alloc o) := h.below (below_new12 w o)
def eqL (a b : List Int) : Bool := decide (a = b)
theorem eqL_len {a b : List Int} (h : a.length ≠ b.length) : eqL a b = false := decide_eq_false (fun e => h (by rw [e]))
theorem eqL_at {a b : List Int} (k : Nat) (h1 : k < a.length) (h2 : k < b.length) (h : a[k] ≠ b[k]) : eqL a b = false := decide_eq_false (fun e => h (by subst e; rfl))
theorem take_more12 {a b : List Int} {k : Nat} (h : a.take k = b.take k) (h1 : k < a.length) (h2 : k < b.length) (e : a[k] = b[k]) : a.take (k + 1) = b.take (k + 1) := by
  rw [List.take_succ_eq_append_getElem h1, List.take_succ_eq_append_getElem h2, h, e]
end Go.Proofs.Ytoekiencnbgmhaa
/-
  The reference's MayConf, Has, EncodeConf, DecodeConf and Change say what the plain functions say.
  Lists have at most 1,000 servers, texts at most 1,000 bytes.
-/
namespace Go.Proofs.Ytoekiencnbgmhaa
open Go.RowKit Go.Deep
set_option maxRecDepth 100000

set_option maxHeartbeats 1000000 in
theorem rhas12_w (A : Option Addr) (c B : Nat) (L : List Int) (x : Int) (w : World) (h : Ints w B (.slice A L.length c) L) (hl : L.length ≤ 1000) :
    Calls Try.prog 30 #[.slice A L.length c, .int .i64 x] w fun e w' => e = .returned (.bool (L.contains x)) ∧ w = w' := by
  obtain ⟨n, hn⟩ : ∃ n, L.length = n := ⟨_, rfl⟩
  rw [hn] at h hl ⊢
  have HI := Lib.hid h
  have HN := Lib.hid hn
  obtain ⟨b, hb⟩ : ∃ b, L.contains x = b := ⟨_, rfl⟩
  rw [hb]
  have HBB := Lib.hid hb
  clear h hn hb
  go_enter Try.func30, Try.ntmps30
  go_wp2
  go_loop [5] (fun i => ∃ k : Nat, k ≤ n ∧ i = .int .i64 k ∧ ∀ y ∈ L.take k, y ≠ x) (fun i => n - (intOf i).toNat)
  case atStart => exact ⟨0, Nat.zero_le _, rfl, by simp⟩
  case round =>
    obtain ⟨k, hk, rfl, hrec⟩ := hrel
    have HR := Lib.hid hrec
    clear hrec
    by_cases hlt : k < n
    · have hkl : k < L.length := by rw [HN.out]; exact hlt
      obtain ⟨g, o, hA, _, hcell⟩ := HI.out.at_ k hkl
      subst hA
      have hts : L.take (k + 1) = L.take k ++ [L[k]] := List.take_succ_eq_append_getElem hkl
      have hm := List.getElem_mem hkl
      obtain ⟨y, hy⟩ : ∃ y, L[k] = y := ⟨_, rfl⟩
      rw [hy] at hcell hts hm
      by_cases he : y = x
      · subst he
        have hc : L.contains y = true := by simpa using hm
        have HC := Lib.hid hc
        clear hts hm hy hkl hc
        go_wp2
        go_ret
        exact ⟨bool_ret (by rw [← HBB.out, HC.out]), rfl⟩
      · have hT : ∀ z ∈ L.take (k + 1), z ≠ x := by
          rw [hts]
          intro z hz
          rcases List.mem_append.1 hz with h | h
          · exact HR.out z h
          · rw [List.mem_singleton.1 h]; exact he
        have HT := Lib.hid hT
        have hb : (y == x) = false := by simpa using he
        clear hts hm hy hkl hT
        go_wp2
        go_round
        case rel => exact ⟨k + 1, by omega, by go_num, HT.out⟩
        case measure => simp [intOf]; omega
    · have hkn : k = n := by omega
      have hc : L.contains x = false := by
        have h := HR.out
        rw [List.take_of_length_le (by rw [HN.out]; omega)] at h
        cases hb : L.contains x with
        | false => rfl
        | true => exact absurd rfl (h x (by simpa using hb))
      have HC := Lib.hid hc
      clear hc
      go_wp2
      go_ret
      exact ⟨bool_ret (by rw [← HBB.out, HC.out]), rfl⟩
theorem may12_false {L : List Int} (h : mayF 0 L = false) : may12 L = false := by unfold may12; rw [h]; rfl
set_option maxHeartbeats 600000 in
theorem rmay12_w (A : Option Addr) (c B : Nat) (L : List Int) (w : World) (h : Ints w B (.slice A L.length c) L) (hl : L.length ≤ 1000) :
    Calls Try.prog 29 #[.slice A L.length c] w fun e w' => e = .returned (.bool (may12 L)) ∧ Below w.heap.size w w' := by
  obtain ⟨n, hn⟩ : ∃ n, L.length = n := ⟨_, rfl⟩
  rw [hn] at h hl ⊢
  have HI := Lib.hid h
  have HN := Lib.hid hn
  clear h hn
  go_enter Try.func29, Try.ntmps29
  go_wp2
  go_loopw [3] (fun i wr => ∃ (k : Nat) (p : Int), k ≤ n ∧ i = .int .i64 k ∧ 0 ≤ p ∧ (0 < k → ∃ h : k - 1 < L.length, L[k - 1] = p) ∧ (k = 0 → p = 0) ∧ mayF 0 L = mayF p (L.drop k) ∧ Below w.heap.size w wr) (fun i _ => n - (intOf i).toNat)
  case atStart => exact ⟨0, 0, Nat.zero_le _, rfl, Int.le_refl _, fun h => absurd h (by decide), fun _ => rfl, rfl, Below.refl _ _⟩
  case round =>
    obtain ⟨k, p, hk, rfl, hp0, hpk, hpz, hrec, hb⟩ := hrel
    have HR := Lib.hid hrec
    have HB := Lib.hid hb
    have HPK := Lib.hid hpk
    have HPZ := Lib.hid hpz
    clear hrec hb hpk hpz
    by_cases hlt : k < n
    · have hkl : k < L.length := by rw [HN.out]; exact hlt
      obtain ⟨g, o, hA, _, hcell⟩ := HI.out.at_ k hkl
      subst hA
      have hd := drop_cons12 hkl
      have hc1 : wr.cell? ⟨g, o + k, none⟩ = some (.int .i64 L[k]) := (HB.out.cell (p := ⟨g, o + k, none⟩) (cell_in hcell)).trans hcell
      obtain ⟨x, hx⟩ : ∃ x, L[k] = x := ⟨_, rfl⟩
      rw [hx] at hc1 hd
      have HX := Lib.hid hx
      have HD := Lib.hid hd
      clear hcell hd hx
      have hki : (0 : Int) ≤ k := by omega
      by_cases h1 : x < 1
      · have hf : may12 L = false := may12_false (by rw [HR.out, HD.out]; simp [mayF]; omega)
        have HF := Lib.hid hf
        clear hf HX hkl
        go_wp2_with fail
        go_quiet (fail)
        go_wp2
        go_ret
        exact ⟨bool_ret HF.out.symm, Go.below_drewN HB.out _⟩
      · have hd1 : decide (x < 1) = false := by simpa using h1
        by_cases h2 : 7 < x
        · have hd2 : decide (7 < x) = true := by simpa using h2
          have hf : may12 L = false := may12_false (by rw [HR.out, HD.out]; simp [mayF]; omega)
          have HF := Lib.hid hf
          clear hf HX hkl
          go_wp2_with fail
          go_quiet (fail)
          go_wp2
          go_ret
          exact ⟨bool_ret HF.out.symm, Go.below_drewN HB.out _⟩
        · have hd2 : decide (7 < x) = false := by simpa using h2
          by_cases h3 : k = 0
          · have hp : p = 0 := HPZ.out h3
            have HM := Lib.hid (show mayF 0 L = mayF x (L.drop (k + 1)) by rw [HR.out, HD.out, hp]; simp [mayF]; omega)
            have HQ := Lib.hid (show ∃ h : k + 1 - 1 < L.length, L[k + 1 - 1] = x from ⟨hkl, HX.out⟩)
            subst h3
            rw [Nat.add_zero] at hc1
            clear hp HX hkl hki HPK HPZ
            go_wp2_with fail
            go_quiet (fail)
            go_wp2
            go_roundw
            case rel => exact ⟨1, x, by omega, by go_num, by omega, fun _ => HQ.out, fun h => absurd h (by omega), HM.out, Go.below_drewN HB.out _⟩
            case measure => simp [intOf]; omega
          · obtain ⟨hj9, hpj⟩ := HPK.out (by omega)
            obtain ⟨j, hj⟩ : ∃ j, k - 1 = j := ⟨_, rfl⟩
            have hjl : j < L.length := by omega
            obtain ⟨g2, o2, hA2, _, hcell2⟩ := HI.out.at_ j hjl
            injection hA2 with hA2
            injection hA2 with e1 e2
            subst e1; subst e2
            have hc2 : wr.cell? ⟨g, o + j, none⟩ = some (.int .i64 p) := by
              rw [(HB.out.cell (p := ⟨g, o + j, none⟩) (cell_in hcell2)).trans hcell2, ← hpj]
              simp only [hj]
            have hw1 : IntKind.i64.wrap ((k : Int) - 1) = (k : Int) - 1 := by rw [IntKind.wrap_i64]; omega
            have hw2 : ((k : Int) - 1).toNat = j := by omega
            have hw3 : (0 : Int) ≤ (k : Int) - 1 := by omega
            have hw3' : (1 : Int) ≤ (k : Int) := by omega
            have hw4 : (k : Int) - 1 < n := by omega
            have h3i : (0 : Int) < k := by omega
            have h3d : decide (0 < k) = true := decide_eq_true (by omega)
            by_cases h4 : x ≤ p
            · have hd4 : decide (x ≤ p) = true := by simpa using h4
              have hf : may12 L = false := may12_false (by rw [HR.out, HD.out]; simp [mayF]; omega)
              have HF := Lib.hid hf
              clear hf HX hkl hcell2 hjl hpj hj9 hj h3
              go_wp2_with fail
              go_quiet (fail)
              go_wp2
              go_ret
              exact ⟨bool_ret HF.out.symm, Go.below_drewN HB.out _⟩
            · have hd4 : decide (x ≤ p) = false := by simpa using h4
              have HM := Lib.hid (show mayF 0 L = mayF x (L.drop (k + 1)) by rw [HR.out, HD.out]; simp [mayF]; omega)
              have HQ := Lib.hid (show ∃ h : k + 1 - 1 < L.length, L[k + 1 - 1] = x from ⟨hkl, HX.out⟩)
              clear HX hkl hcell2 hjl hpj hj9 hj h3
              go_wp2_with fail
              go_quiet (fail)
              clear hw1 hw2 hw3 hw4
              go_wp2
              go_roundw
              case rel => exact ⟨k + 1, x, by omega, by go_num, by omega, fun _ => HQ.out, fun h => absurd h (by omega), HM.out, Go.below_drewN HB.out _⟩
              case measure => simp [intOf]; omega
    · have hkn : k = n := by omega
      have hf : mayF 0 L = true := by rw [HR.out, List.drop_of_length_le (by rw [HN.out]; omega)]; rfl
      have HF := Lib.hid hf
      clear hf
      by_cases h0 : 0 < n
      · go_wp2
        go_ret
        refine ⟨bool_ret ?_, HB.out⟩
        unfold may12
        rw [HF.out, HN.out]; simp; omega
      · go_wp2
        go_ret
        refine ⟨bool_ret ?_, HB.out⟩
        unfold may12
        rw [HF.out, HN.out]; simp; omega
end Go.Proofs.Ytoekiencnbgmhaa
/-
  The reference's EncodeConf, DecodeConf and Change say what the plain functions say.
  Lists have at most 1,000 servers, texts at most 1,000 bytes.
-/
set_option linter.unusedSimpArgs false
set_option linter.unusedVariables false
namespace Go.Proofs.Ytoekiencnbgmhaa
open Go.RowKit Go.Deep
set_option maxRecDepth 100000

theorem OwnB.nil12 (B : Nat) (w : World) : OwnB B (.slice none 0 0) [] w := World.ownsRow_nil _ _ _ _
theorem encL_take (L : List Int) (k : Nat) (h : k < L.length) : encL (L.take (k + 1)) = encL (L.take k) ++ [digit12 L[k]] := by
  unfold encL
  rw [List.take_succ_eq_append_getElem h, List.map_append]; rfl
theorem encL_len (L : List Int) : (encL L).length = L.length := by unfold encL; simp
theorem decL_take (s : ByteArray) (k : Nat) (h : k < s.size) : (decL s).take (k + 1) = (decL s).take k ++ [(s[k].toNat : Int) - 48] := by
  rw [List.take_succ_eq_append_getElem (by rw [decL_len]; exact h), decL_at s k h]
set_option maxHeartbeats 1000000 in
theorem rdecode12_w (s : ByteArray) (w : World) (hs : s.size ≤ 1000) :
    Calls Try.prog 79 #[.string s] w (Dec12 (dec12 s) w) := by
  go_enter Try.func79, Try.ntmps79
  go_wp2
  go_loopw [4, 5] (fun v i wr => ∃ k : Nat, k ≤ s.size ∧ i = .int .i64 k ∧ OwnZ w.heap.size v ((decL s).take k) wr ∧ Below w.heap.size w wr) (fun _ i _ => s.size - (intOf i).toNat)
  case atStart => exact ⟨0, Nat.zero_le _, rfl, OwnZ.nil _ _, Below.refl _ _⟩
  case round =>
    obtain ⟨k, hk, rfl, ho, hb⟩ := hrel
    have HO := Lib.hid ho
    have HB := Lib.hid hb
    obtain ⟨Ao, co, hvo⟩ := ho.slice
    have hml : ((decL s).take k).length ≤ k := List.length_take_le _ _
    obtain ⟨m, hm⟩ : ∃ m, ((decL s).take k).length = m := ⟨_, rfl⟩
    rw [hm] at hvo hml
    subst hvo
    have HMM := Lib.hid hm
    clear ho hb hm
    by_cases hlt : k < s.size
    · have hdt := decL_take s k hlt
      obtain ⟨x, hx⟩ : ∃ x : Int, (s[k].toNat : Int) - 48 = x := ⟨_, rfl⟩
      have hx9 : (s[k].toNat : Int) ≤ 255 := by have := s[k].toNat_lt; omega
      have HDT := Lib.hid hdt
      have how := HO.out.new12 (.cells #[.int .i64 ((s[k].toNat : Int) - 48)] 3)
      have hin := ints_new wr #[.int .i64 ((s[k].toNat : Int) - 48)] 3 [(s[k].toNat : Int) - 48] rfl
      have HOW := Lib.hid how
      have HIN := Lib.hid hin
      have HB2 := Lib.hid (HB.out.trans ((below_new12 wr (.cells #[.int .i64 ((s[k].toNat : Int) - 48)] 3)).mono HB.out.size))
      clear hdt hx how hin
      go_wp2_with (at_builtin; refine wpList_append_ints rfl _ _ rfl w.heap.size (wr.heap.size + 1) _ _ _ [(s[k].toNat : Int) - 48] rfl HOW.out rfl HIN.out ?x1 ?x2 ?_)
      case x1 => rw [HMM.out]; show _ + 1 ≤ _; omega
      case x2 => exact HB2.out.size
      intro v' w2 hown' hb2
      rw [← HDT.out] at hown'
      have HO2 := Lib.hid hown'
      have HB3 := Lib.hid (HB2.out.trans hb2)
      clear hown' hb2
      go_wp2
      go_roundw
      case rel => exact ⟨k + 1, by omega, by go_num, HO2.out, HB3.out⟩
      case measure => simp [intOf]; omega
    · have hkn : k = s.size := by omega
      have hfin : (decL s).take k = decL s := List.take_of_length_le (by rw [decL_len]; omega)
      have ho9 := HO.out
      rw [hfin] at ho9
      have hlm : (decL s).length = m := by rw [← hfin]; exact HMM.out
      have hin := Ints.of_own ho9
      rw [← hlm] at hin
      have hmy := rmay12_w _ _ _ _ _ hin (by rw [decL_len]; exact hs)
      rw [hlm] at hmy
      have HIN := Lib.hid hin
      have HLM := Lib.hid hlm
      cases hb : may12 (decL s) with
      | false =>
        rw [hb] at hmy
        have HD := Lib.hid (show dec12 s = none by unfold dec12; rw [if_neg (by rw [hb]; decide)])
        clear hin hb hlm ho9 hfin
        go_wp2_with fail
        refine hmy.mono ?_
        rintro e w3 ⟨rfl, h3⟩
        have H3 := Lib.hid (HB.out.trans (h3.mono HB.out.size))
        clear h3
        go_wp2
        go_ret2
        rw [HD.out]
        exact ⟨H3.out, rfl⟩
      | true =>
        rw [hb] at hmy
        have HD := Lib.hid (show dec12 s = some (decL s) by unfold dec12; rw [if_pos hb])
        clear hin hb hlm ho9 hfin
        go_wp2_with fail
        refine hmy.mono ?_
        rintro e w3 ⟨rfl, h3⟩
        have H3 := Lib.hid (HB.out.trans (h3.mono HB.out.size))
        have HIN3 := Lib.hid ((HIN.out.keep h3 (Nat.le_refl _)).more h3.size)
        clear h3
        go_wp2
        go_ret2
        rw [HD.out]
        refine ⟨H3.out, _, _, ?_, HIN3.out⟩
        rw [HLM.out]
        rfl
def chgB (l : List Int) (x : Int) (add : Bool) (i : Int) : Bool := (decide (i = x) && add) || (!decide (i = x) && l.contains i)
theorem chg_setN (l : List Int) (x : Int) (add : Bool) : chg12 l x add = setN (fun k => chgB l x add ((k : Int) + 1)) 7 := by
  have h : ids = (List.range 7).map fun k : Nat => ((k : Int) + 1) := by decide
  unfold chg12
  rw [h, List.filter_map]
  rfl
/-- what came of Change -/
def Chg12 (r : List Int × Bool) (w : World) (e : Ending) (w' : World) : Prop := Below w.heap.size w w' ∧ ∃ A c, e = .returned (.tuple #[.slice A r.1.length c, .bool r.2]) ∧ Ints w' w'.heap.size (.slice A r.1.length c) r.1
theorem Chg12.none12 {w w' : World} (h : Below w.heap.size w w') : Chg12 ([], false) w (.returned (.tuple #[.slice none 0 0, .bool false])) w' := ⟨h, none, 0, rfl, Ints.nil _ _⟩
theorem change12_no1 {l : List Int} {x : Int} {add : Bool} (h : may12 l = false) : change12 l x add = ([], false) := by unfold change12; rw [if_neg (fun e => by rw [h] at e; exact absurd e.1 (by decide))]
theorem change12_no2 {l : List Int} {x : Int} {add : Bool} (h : ¬ (1 ≤ x ∧ x ≤ 7)) : change12 l x add = ([], false) := by unfold change12; rw [if_neg (fun e => h ⟨e.2.1, e.2.2.1⟩)]
theorem change12_no3 {l : List Int} {x : Int} {add : Bool} (h : l.contains x = add) : change12 l x add = ([], false) := by unfold change12; rw [if_neg (fun e => by rw [h] at e; simp at e)]
theorem change12_yes {l : List Int} {x : Int} {add : Bool} (h : may12 l = true) (h1 : 1 ≤ x) (h2 : x ≤ 7) (h3 : l.contains x ≠ add) : change12 l x add = (chg12 l x add, decide (0 < (chg12 l x add).length)) := by unfold change12; rw [if_pos ⟨h, h1, h2, by simpa using h3⟩]
end Go.Proofs.Ytoekiencnbgmhaa
/-
  The reference's ConfAt and Conf.
  The conditions: those of its log, and texts of at most 1,000 bytes.
-/
set_option linter.unusedSimpArgs false
set_option linter.unusedVariables false
namespace Go.Proofs.Ytoekiencnbgmhaa
open Go.RowKit Go.Deep
set_option maxRecDepth 100000

/-- the servers that an entry names, where it is not behind a -/
def cnfA (a : Int) (e : Ent) : Option (List Int × Int) := if e.ix ≤ a then cnfE e else none
def cat13 (r : Lg) (a : Int) : Option (List Int × Int) := match r.L.reverse.findSome? (cnfA a) with
  | some p => some p
  | none => (dec12 r.s.conf).map fun l => (l, r.s.ix)
theorem cat13_all {r : Lg} {a : Int} (h : ∀ e ∈ r.L, e.ix ≤ a) : cat13 r a = cnf13 r := by
  unfold cat13 cnf13
  have h2 : ∀ l : List Ent, (∀ e ∈ l, e.ix ≤ a) → l.findSome? (cnfA a) = l.findSome? cnfE := by
    intro l
    induction l with
    | nil => intro _; rfl
    | cons x t ih =>
      intro h
      rw [List.findSome?_cons, List.findSome?_cons, ih (fun e he => h e (List.mem_cons_of_mem _ he))]
      unfold cnfA
      rw [if_pos (h x (List.mem_cons_self ..))]
  rw [h2 _ (fun e he => h e (List.mem_reverse.1 he))]
  all_goals (cases List.findSome? cnfE r.L.reverse <;> rfl)
theorem rev_take13 {L : List Ent} {q k n : Nat} (hn : L.length = n) (hk : k < n) (hq : q = n - 1 - k) (hqL : q < L.length) (a : Int) : (L.reverse.take (k + 1)).findSome? (cnfA a) = ((L.reverse.take k).findSome? (cnfA a)).or (cnfA a L[q]) := by
  subst hq
  rw [List.take_succ_eq_append_getElem (by rw [List.length_reverse, hn]; exact hk), List.findSome?_append, List.getElem_reverse]
  simp [hn]
theorem rev_some13 {L : List Ent} {k : Nat} {a : Int} {p : List Int × Int} (h : (L.reverse.take k).findSome? (cnfA a) = some p) : L.reverse.findSome? (cnfA a) = some p := by
  rw [← List.take_append_drop k L.reverse, List.findSome?_append, h]; rfl
theorem cnfA_yes {a : Int} {e : Ent} (h : e.ix ≤ a) : cnfA a e = cnfE e := by unfold cnfA; rw [if_pos h]
theorem cnfA_no {a : Int} {e : Ent} (h : ¬ e.ix ≤ a) : cnfA a e = none := by unfold cnfA; rw [if_neg h]
theorem cnfA_kd {a : Int} {e : Ent} (h : ¬ e.kd = 3) : cnfA a e = none := by unfold cnfA; rw [cnfE_no h]; split <;> rfl
set_option maxHeartbeats 1000000 in
theorem rconfat_x {N : Nat → Prop} {w : World} {ix st : Int} {cf dt : ByteArray} {L : List Ent} {A : Option Addr} {n c : Nat} (h : RL N w ix st cf dt L A n c) (hcf : cf.size ≤ 1000) (hdt : ∀ e ∈ L, e.data.size ≤ 1000) (a : Int) :
    Calls Try.prog 68 #[.agg #[.int .i64 ix, .int .i64 st, .string cf, .string dt, .slice A n c], .int .i64 a] w (CnfR (cat13 ⟨⟨ix, st, cf, dt⟩, L⟩ a) w) := by
  have HE := Lib.hid h.row
  have HN := Lib.hid h.len
  have HDT := Lib.hid hdt
  obtain ⟨h0, h1, h2, h3⟩ := h.bds
  obtain ⟨res, hres⟩ : ∃ res, cat13 ⟨⟨ix, st, cf, dt⟩, L⟩ a = res := ⟨_, rfl⟩
  have HRES := Lib.hid hres
  rw [hres]
  obtain ⟨b0, hb0⟩ : ∃ b0, w.heap.size = b0 := ⟨_, rfl⟩
  obtain ⟨W0, hW0⟩ : ∃ W0, w.alloc (.cells #[.int .i64 ix, .int .i64 st, .string cf, .string dt, .slice A n c] 32) = W0 := ⟨_, rfl⟩
  have hR : Rt W0 b0 32 [.int .i64 ix, .int .i64 st, .string cf, .string dt, .slice A n c] := by rw [← hW0, ← hb0]; exact Rt.new _ _ _
  have hB : Below b0 w W0 := by rw [← hW0, ← hb0]; exact below_new _ _
  have d4 := hR.cell (j := 4) rfl
  have HB0 := Lib.hid hb0
  clear h hdt hres
  go_enter Try.func68, Try.ntmps68
  go_wp2_with fail
  go_loopw [6] (fun i wr => ∃ k : Nat, k ≤ n ∧ i = .int .i64 ((n : Int) - 1 - (k : Int)) ∧ (L.reverse.take k).findSome? (cnfA a) = none ∧ Rt wr b0 32 [.int .i64 ix, .int .i64 st, .string cf, .string dt, .slice A n c] ∧ Below b0 w wr) (fun i _ => ((intOf i) + 1).toNat)
  case atStart => exact ⟨0, Nat.zero_le _, by simp, by simp, hR, hB⟩
  case round =>
    clear hR hB d4
    obtain ⟨k, hk, rfl, hno, hR, hB⟩ := hrel
    have d4 := hR.cell (j := 4) rfl
    have HNO := Lib.hid hno
    clear hno
    by_cases hlt : k < n
    · obtain ⟨q, hq⟩ : ∃ q, n - 1 - k = q := ⟨_, rfl⟩
      have hqi : (n : Int) - 1 - (k : Int) = (q : Int) := by omega
      have hqL : q < L.length := by rw [HN.out]; omega
      have hqn : q < n := by omega
      have hqn2 : (q : Int) < (n : Int) := by omega
      have hqz : (0 : Int) ≤ (q : Int) := by omega
      have HRT := Lib.hid (rev_take13 HN.out hlt hq.symm hqL a)
      obtain ⟨⟨xk, yk, zk, dk⟩, hxk⟩ : ∃ x, L[q] = x := ⟨_, rfl⟩
      have hdk : dk.size ≤ 1000 := by have := HDT.out _ (List.getElem_mem hqL); rw [hxk] at this; exact this
      rw [hxk, HNO.out] at HRT
      obtain ⟨g, o, rfl, hg, e0, e1, e2, e3⟩ := (HE.out.below (by rw [HB0.out]; exact hB)).four q hqL hxk
      rw [hqi]
      clear hxk hq
      have hwm : IntKind.i64.wrap ((q : Int) - 1) = (q : Int) - 1 := by rw [IntKind.wrap_i64]; omega
      have hqk : (q : Int) - 1 = (n : Int) - 1 - ((k + 1 : Nat) : Int) := by omega
      have HQK := Lib.hid hqk
      clear hqk hqi
      by_cases hz3 : zk = 3
      · by_cases hxa : xk ≤ a
        · have HDEC := Lib.hid (rdecode12_w dk wr hdk)
          rw [cnfA_yes hxa] at HRT
          subst hz3
          cases hd : dec12 dk with
          | none =>
            rw [hd] at HDEC
            have HNX := Lib.hid (HRT.out.trans (show _ = none by rw [cnfE_bad hd]; rfl))
            clear hd HRT
            go_wp2_with fail
            refine HDEC.out.mono ?_
            rintro e w6 ⟨h6, rfl⟩
            have hR6 := hR.below h6
            have hB6 := hB.trans (h6.mono (by rw [← HB0.out]; have := hB.size; omega))
            clear hR hB d4 e0 e1 e2 e3 h6
            go_wp2
            go_roundw
            case rel => exact ⟨k + 1, by omega, by rw [← HQK.out], HNX.out, hR6, hB6⟩
            case measure => first | (simp [intOf]; omega) | (simp [intOf]; done)
          | some l =>
            rw [hd] at HDEC
            have HYS := Lib.hid (rev_some13 (HRT.out.trans (show _ = some (l, xk) by rw [cnfE_yes rfl hd]; rfl)))
            clear hd HRT
            go_wp2_with fail
            refine HDEC.out.mono ?_
            rintro e w6 ⟨h6, A6, c6, rfl, hI6⟩
            have d46 := (h6.cell (p := ⟨b0, 4, none⟩) hR.lt).trans d4
            have e06 := (h6.cell (p := ⟨g, o + q * 4, none⟩) hg).trans e0
            have hB6 := hB.trans (h6.mono (by rw [← HB0.out]; have := hB.size; omega))
            have HI6 := Lib.hid hI6
            have hres : res = some (l, xk) := by
              rw [← HRES.out]; unfold cat13; rw [HYS.out]
            have HR6 := Lib.hid hres
            clear hR hB d4 e0 e1 e2 e3 h6 hI6 hres
            go_wp2_with fail
            replace d46 : w6.drew.cell? ⟨b0, 4, none⟩ = some (.slice (some ⟨g, o, none⟩) n c) := d46
            replace e06 : w6.drew.cell? ⟨g, o + q * 4, none⟩ = some (.int .i64 xk) := e06
            replace hB6 := hB6.drew
            have hI7 : Ints w6.drew w6.drew.heap.size (.slice A6 l.length c6) l := HI6.out
            clear HI6
            have HI6 := Lib.hid hI7
            clear hI7
            refine wp_region_noPanic ?_
            refine wp_region_held_drew (S := fun W => W.cell? ⟨b0, 4, none⟩ = some (.slice (some ⟨g, o, none⟩) n c) ∧ W.cell? ⟨g, o + q * 4, none⟩ = some (.int .i64 xk)) (by kernel_rfl) ?_ (fun hHeld => ?_)
            · exact ⟨d46, e06⟩
            generalize w6.drew = kx at *
            refine tkH 0 (.slice A6 l.length c6) rfl (fun w hSw => ?_) ?_
            · (try dsimp only at hSw)
              obtain ⟨q0, q1⟩ := hSw
              go_simp
            try simp only [Act.put, List.setIfInBounds_toArray, List.set_cons_zero, List.set_cons_succ]
            refine tkH 1 (.pointer (some ⟨b0, 4, none⟩)) rfl (fun w hSw => ?_) ?_
            · (try dsimp only at hSw)
              obtain ⟨q0, q1⟩ := hSw
              go_simp
            try simp only [Act.put, List.setIfInBounds_toArray, List.set_cons_zero, List.set_cons_succ]
            refine tkH 2 (.slice (some ⟨g, o, none⟩) n c) rfl (fun w hSw => ?_) ?_
            · (try dsimp only at hSw)
              obtain ⟨q0, q1⟩ := hSw
              go_simp
            try simp only [Act.put, List.setIfInBounds_toArray, List.set_cons_zero, List.set_cons_succ]
            refine tkH 3 (.int .i64 (q : Int)) rfl (fun w hSw => ?_) ?_
            · (try dsimp only at hSw)
              obtain ⟨q0, q1⟩ := hSw
              go_simp
            try simp only [Act.put, List.setIfInBounds_toArray, List.set_cons_zero, List.set_cons_succ]
            refine tkH 4 (.pointer (some ⟨g, o + q * 4, none⟩)) rfl (fun w hSw => ?_) ?_
            · (try dsimp only at hSw)
              obtain ⟨q0, q1⟩ := hSw
              go_simp
            try simp only [Act.put, List.setIfInBounds_toArray, List.set_cons_zero, List.set_cons_succ]
            refine tkH 5 (.pointer (some ⟨g, o + q * 4, none⟩)) rfl (fun w hSw => ?_) ?_
            · (try dsimp only at hSw)
              obtain ⟨q0, q1⟩ := hSw
              go_simp
            try simp only [Act.put, List.setIfInBounds_toArray, List.set_cons_zero, List.set_cons_succ]
            refine tkH 6 (.int .i64 xk) rfl (fun w hSw => ?_) ?_
            · (try dsimp only at hSw)
              obtain ⟨q0, q1⟩ := hSw
              go_simp
            try simp only [Act.put, List.setIfInBounds_toArray, List.set_cons_zero, List.set_cons_succ]
            refine tkH 7 (.slice A6 l.length c6) rfl (fun w hSw => ?_) ?_
            · (try dsimp only at hSw)
              obtain ⟨q0, q1⟩ := hSw
              go_simp
            try simp only [Act.put, List.setIfInBounds_toArray, List.set_cons_zero, List.set_cons_succ]
            refine tkH 8 (.int .i64 xk) rfl (fun w hSw => ?_) ?_
            · (try dsimp only at hSw)
              obtain ⟨q0, q1⟩ := hSw
              go_simp
            try simp only [Act.put, List.setIfInBounds_toArray, List.set_cons_zero, List.set_cons_succ]
            refine wpAnyH_done (by kernel_rfl) ?_ _
            refine NoPanic.normal ?_
            go_wp2
            go_ret2
            rw [HR6.out]
            exact ⟨by rw [HB0.out]; exact hB6, A6, c6, rfl, HI6.out⟩
        · have HNX := Lib.hid (HRT.out.trans (show _ = none by rw [cnfA_no hxa]; rfl))
          clear HRT
          go_wp2
          go_roundw
          case rel => exact ⟨k + 1, by omega, by rw [← HQK.out], HNX.out, hR, hB⟩
          case measure => first | (simp [intOf]; omega) | (simp [intOf]; done)
      · have HNX := Lib.hid (HRT.out.trans (show _ = none by rw [cnfA_kd hz3]; rfl))
        clear HRT
        go_wp2
        go_roundw
        case rel => exact ⟨k + 1, by omega, by rw [← HQK.out], HNX.out, hR, hB⟩
        case measure => first | (simp [intOf]; omega) | (simp [intOf]; done)
    · have hkn : k = n := by omega
      subst hkn
      have hm1 : (k : Int) - 1 - (k : Int) = -1 := by omega
      rw [hm1]
      have d2 := hR.cell (j := 2) rfl
      have HDEC := Lib.hid (rdecode12_w cf wr hcf)
      have hcat : res = (dec12 cf).map fun l => (l, ix) := by
        have h9 := HNO.out
        rw [List.take_of_length_le (by rw [List.length_reverse, HN.out]; exact Nat.le_refl _)] at h9
        rw [← HRES.out]; unfold cat13; rw [h9]
      cases hd : dec12 cf with
      | none =>
        rw [hd] at HDEC hcat
        have HCAT := Lib.hid hcat
        clear hd hcat
        go_wp2_with fail
        refine HDEC.out.mono ?_
        rintro e w6 ⟨h6, rfl⟩
        have hB6 := hB.trans (h6.mono (by rw [← HB0.out]; have := hB.size; omega))
        clear hR hB d4 d2 h6
        go_wp2
        go_ret2
        rw [HCAT.out]
        exact ⟨by rw [HB0.out]; exact hB6, rfl⟩
      | some l =>
        rw [hd] at HDEC hcat
        have HCAT := Lib.hid hcat
        clear hd hcat
        go_wp2_with fail
        refine HDEC.out.mono ?_
        rintro e w6 ⟨h6, A6, c6, rfl, hI6⟩
        have d06 := (hR.below h6).cell (j := 0) rfl
        have hB6 := hB.trans (h6.mono (by rw [← HB0.out]; have := hB.size; omega))
        have HI6 := Lib.hid hI6
        clear hR hB d4 d2 h6 hI6
        go_wp2_with fail
        replace d06 : w6.drew.cell? ⟨b0, 0, none⟩ = some (.int .i64 ix) := d06
        replace hB6 := hB6.drew
        have hI7 : Ints w6.drew w6.drew.heap.size (.slice A6 l.length c6) l := HI6.out
        clear HI6
        have HI6 := Lib.hid hI7
        clear hI7
        refine wp_region_noPanic ?_
        refine wp_region_held_drew (S := fun W => W.cell? ⟨b0, 0, none⟩ = some (.int .i64 ix)) (by kernel_rfl) ?_ (fun hHeld => ?_)
        · exact d06
        generalize w6.drew = kx at *
        refine tkH 0 (.slice A6 l.length c6) rfl (fun w hSw => ?_) ?_
        · (try dsimp only at hSw)
          have q0 := hSw
          go_simp
        try simp only [Act.put, List.setIfInBounds_toArray, List.set_cons_zero, List.set_cons_succ]
        refine tkH 1 (.pointer (some ⟨b0, 0, none⟩)) rfl (fun w hSw => ?_) ?_
        · (try dsimp only at hSw)
          have q0 := hSw
          go_simp
        try simp only [Act.put, List.setIfInBounds_toArray, List.set_cons_zero, List.set_cons_succ]
        refine tkH 2 (.pointer (some ⟨b0, 0, none⟩)) rfl (fun w hSw => ?_) ?_
        · (try dsimp only at hSw)
          have q0 := hSw
          go_simp
        try simp only [Act.put, List.setIfInBounds_toArray, List.set_cons_zero, List.set_cons_succ]
        refine tkH 3 (.int .i64 ix) rfl (fun w hSw => ?_) ?_
        · (try dsimp only at hSw)
          have q0 := hSw
          go_simp
        try simp only [Act.put, List.setIfInBounds_toArray, List.set_cons_zero, List.set_cons_succ]
        refine tkH 4 (.slice A6 l.length c6) rfl (fun w hSw => ?_) ?_
        · (try dsimp only at hSw)
          have q0 := hSw
          go_simp
        try simp only [Act.put, List.setIfInBounds_toArray, List.set_cons_zero, List.set_cons_succ]
        refine tkH 5 (.int .i64 ix) rfl (fun w hSw => ?_) ?_
        · (try dsimp only at hSw)
          have q0 := hSw
          go_simp
        try simp only [Act.put, List.setIfInBounds_toArray, List.set_cons_zero, List.set_cons_succ]
        refine wpAnyH_done (by kernel_rfl) ?_ _
        refine NoPanic.normal ?_
        go_wp2
        go_ret2
        rw [HCAT.out]
        exact ⟨by rw [HB0.out]; exact hB6, A6, c6, rfl, HI6.out⟩
end Go.Proofs.Ytoekiencnbgmhaa
/-
  The reference's Conf.
  The conditions: those of ConfAt; no entry's place is behind the last one.
-/
set_option linter.unusedSimpArgs false
set_option linter.unusedVariables false
namespace Go.Proofs.Ytoekiencnbgmhaa
open Go.RowKit Go.Deep
set_option maxRecDepth 100000

set_option maxHeartbeats 1000000 in
theorem rconf_x {N : Nat → Prop} {w : World} {ix st : Int} {cf dt : ByteArray} {L : List Ent} {A : Option Addr} {n c : Nat} (h : RL N w ix st cf dt L A n c) (hcf : cf.size ≤ 1000) (hdt : ∀ e ∈ L, e.data.size ≤ 1000) (hix : ∀ e ∈ L, e.ix ≤ ix + (n : Int)) :
    Calls Try.prog 57 #[.agg #[.int .i64 ix, .int .i64 st, .string cf, .string dt, .slice A n c]] w (CnfR (cnf13 ⟨⟨ix, st, cf, dt⟩, L⟩) w) := by
  rw [← cat13_all (r := ⟨⟨ix, st, cf, dt⟩, L⟩) (a := ix + (n : Int)) hix]
  obtain ⟨res, hres⟩ : ∃ res, cat13 ⟨⟨ix, st, cf, dt⟩, L⟩ (ix + (n : Int)) = res := ⟨_, rfl⟩
  have HC := Lib.hid fun W (hb : Below w.heap.size w W) => rconfat_x (h.below hb) hcf hdt (ix + (n : Int))
  have HL := Lib.hid fun W => rlast_x h W
  rw [hres] at HC ⊢
  obtain ⟨b0, hb0⟩ : ∃ b0, w.heap.size = b0 := ⟨_, rfl⟩
  obtain ⟨W0, hW0⟩ : ∃ W0, w.alloc (.cells #[.int .i64 ix, .int .i64 st, .string cf, .string dt, .slice A n c] 32) = W0 := ⟨_, rfl⟩
  have hR : Rt W0 b0 32 [.int .i64 ix, .int .i64 st, .string cf, .string dt, .slice A n c] := by rw [← hW0, ← hb0]; exact Rt.new _ _ _
  have hB : Below w.heap.size w W0 := by rw [← hW0]; exact below_new _ _
  have d0 := hR.cell (j := 0) rfl
  have d1 := hR.cell (j := 1) rfl
  have d2 := hR.cell (j := 2) rfl
  have d3 := hR.cell (j := 3) rfl
  have d4 := hR.cell (j := 4) rfl
  clear h hdt hres hix
  go_enter Try.func57, Try.ntmps57
  go_wp2_with fail
  clear d0 d1 d2 d3 d4
  cases res with
  | none =>
    replace hR : Rt W0.drew b0 32 [.int .i64 ix, .int .i64 st, .string cf, .string dt, .slice A n c] := hR
    replace hB := hB.drew
    refine wp_region_noPanic ?_
    refine wp_region_held_drew (S := fun W => Rt W b0 32 [.int .i64 ix, .int .i64 st, .string cf, .string dt, .slice A n c]) (by kernel_rfl) ?_ (fun hHeld => ?_)
    · exact hR
    generalize W0.drew = kz at *
    refine tkH 0 (.agg #[.int .i64 ix, .int .i64 st, .string cf, .string dt, .slice A n c]) rfl (fun w hSw => ?_) ?_
    · (try dsimp only at hSw)
      have q0 := Rt.cell (j := 0) hSw rfl
      have q1 := Rt.cell (j := 1) hSw rfl
      have q2 := Rt.cell (j := 2) hSw rfl
      have q3 := Rt.cell (j := 3) hSw rfl
      have q4 := Rt.cell (j := 4) hSw rfl
      go_simp
    try simp only [Act.put, List.setIfInBounds_toArray, List.set_cons_zero, List.set_cons_succ]
    refine tkH 1 (.agg #[.int .i64 ix, .int .i64 st, .string cf, .string dt, .slice A n c]) rfl (fun w hSw => ?_) ?_
    · (try dsimp only at hSw)
      have q0 := Rt.cell (j := 0) hSw rfl
      have q1 := Rt.cell (j := 1) hSw rfl
      have q2 := Rt.cell (j := 2) hSw rfl
      have q3 := Rt.cell (j := 3) hSw rfl
      have q4 := Rt.cell (j := 4) hSw rfl
      go_simp
    try simp only [Act.put, List.setIfInBounds_toArray, List.set_cons_zero, List.set_cons_succ]
    refine stH 2 rfl (fun K hK => ?_)
    go_simp
    go_at_call 48
    refine (HL.out _).mono ?_
    rintro e k9 ⟨rfl, h⟩
    replace hR := hR.below h
    replace hB := hB.trans (h.mono hB.size)
    clear h
    refine hK.out _ _ ?_ (fun hHeld => ?_)
    · exact hR
    clear hK K
    try simp only [Act.put, List.setIfInBounds_toArray, List.set_cons_zero, List.set_cons_succ]
    refine stH 3 rfl (fun K hK => ?_)
    go_simp
    go_at_call 68
    refine (HC.out _ hB).mono ?_
    rintro e k10 ⟨h, rfl⟩
    replace hR := hR.below h
    replace hB := hB.trans (h.mono hB.size)
    clear h
    refine hK.out _ _ ?_ (fun hHeld => ?_)
    · exact hR
    clear hK K
    try simp only [Act.put, List.setIfInBounds_toArray, List.set_cons_zero, List.set_cons_succ]
    refine tkH 4 (.slice none 0 0) rfl (fun w hSw => ?_) ?_
    · (try dsimp only at hSw)
      have q0 := Rt.cell (j := 0) hSw rfl
      have q1 := Rt.cell (j := 1) hSw rfl
      have q2 := Rt.cell (j := 2) hSw rfl
      have q3 := Rt.cell (j := 3) hSw rfl
      have q4 := Rt.cell (j := 4) hSw rfl
      go_simp
    try simp only [Act.put, List.setIfInBounds_toArray, List.set_cons_zero, List.set_cons_succ]
    refine tkH 5 (.int .i64 0) rfl (fun w hSw => ?_) ?_
    · (try dsimp only at hSw)
      have q0 := Rt.cell (j := 0) hSw rfl
      have q1 := Rt.cell (j := 1) hSw rfl
      have q2 := Rt.cell (j := 2) hSw rfl
      have q3 := Rt.cell (j := 3) hSw rfl
      have q4 := Rt.cell (j := 4) hSw rfl
      go_simp
    try simp only [Act.put, List.setIfInBounds_toArray, List.set_cons_zero, List.set_cons_succ]
    refine tkH 6 (.slice none 0 0) rfl (fun w hSw => ?_) ?_
    · (try dsimp only at hSw)
      have q0 := Rt.cell (j := 0) hSw rfl
      have q1 := Rt.cell (j := 1) hSw rfl
      have q2 := Rt.cell (j := 2) hSw rfl
      have q3 := Rt.cell (j := 3) hSw rfl
      have q4 := Rt.cell (j := 4) hSw rfl
      go_simp
    try simp only [Act.put, List.setIfInBounds_toArray, List.set_cons_zero, List.set_cons_succ]
    refine tkH 7 (.int .i64 0) rfl (fun w hSw => ?_) ?_
    · (try dsimp only at hSw)
      have q0 := Rt.cell (j := 0) hSw rfl
      have q1 := Rt.cell (j := 1) hSw rfl
      have q2 := Rt.cell (j := 2) hSw rfl
      have q3 := Rt.cell (j := 3) hSw rfl
      have q4 := Rt.cell (j := 4) hSw rfl
      go_simp
    try simp only [Act.put, List.setIfInBounds_toArray, List.set_cons_zero, List.set_cons_succ]
    refine wpAnyH_done (by kernel_rfl) ?_ _
    refine NoPanic.normal ?_
    go_wp2
    go_ret2
    exact ⟨by first | exact hB | (rw [hb0]; exact hB) | (rw [← hb0]; exact hB), rfl⟩
  | some p =>
    replace hR : Rt W0.drew b0 32 [.int .i64 ix, .int .i64 st, .string cf, .string dt, .slice A n c] := hR
    replace hB := hB.drew
    refine wp_region_noPanic ?_
    refine wp_region_held_drew (S := fun W => Rt W b0 32 [.int .i64 ix, .int .i64 st, .string cf, .string dt, .slice A n c]) (by kernel_rfl) ?_ (fun hHeld => ?_)
    · exact hR
    generalize W0.drew = kz at *
    refine tkH 0 (.agg #[.int .i64 ix, .int .i64 st, .string cf, .string dt, .slice A n c]) rfl (fun w hSw => ?_) ?_
    · (try dsimp only at hSw)
      have q0 := Rt.cell (j := 0) hSw rfl
      have q1 := Rt.cell (j := 1) hSw rfl
      have q2 := Rt.cell (j := 2) hSw rfl
      have q3 := Rt.cell (j := 3) hSw rfl
      have q4 := Rt.cell (j := 4) hSw rfl
      go_simp
    try simp only [Act.put, List.setIfInBounds_toArray, List.set_cons_zero, List.set_cons_succ]
    refine tkH 1 (.agg #[.int .i64 ix, .int .i64 st, .string cf, .string dt, .slice A n c]) rfl (fun w hSw => ?_) ?_
    · (try dsimp only at hSw)
      have q0 := Rt.cell (j := 0) hSw rfl
      have q1 := Rt.cell (j := 1) hSw rfl
      have q2 := Rt.cell (j := 2) hSw rfl
      have q3 := Rt.cell (j := 3) hSw rfl
      have q4 := Rt.cell (j := 4) hSw rfl
      go_simp
    try simp only [Act.put, List.setIfInBounds_toArray, List.set_cons_zero, List.set_cons_succ]
    refine stH 2 rfl (fun K hK => ?_)
    go_simp
    go_at_call 48
    refine (HL.out _).mono ?_
    rintro e k9 ⟨rfl, h⟩
    replace hR := hR.below h
    replace hB := hB.trans (h.mono hB.size)
    clear h
    refine hK.out _ _ ?_ (fun hHeld => ?_)
    · exact hR
    clear hK K
    try simp only [Act.put, List.setIfInBounds_toArray, List.set_cons_zero, List.set_cons_succ]
    refine stH 3 rfl (fun K hK => ?_)
    go_simp
    go_at_call 68
    refine (HC.out _ hB).mono ?_
    rintro e k10 ⟨h, A6, c6, rfl, hI6⟩
    replace hR := hR.below h
    replace hB := hB.trans (h.mono hB.size)
    clear h
    have HI6 := Lib.hid hI6
    clear hI6
    refine hK.out _ _ ?_ (fun hHeld => ?_)
    · exact hR
    clear hK K
    try simp only [Act.put, List.setIfInBounds_toArray, List.set_cons_zero, List.set_cons_succ]
    refine tkH 4 (.slice A6 p.1.length c6) rfl (fun w hSw => ?_) ?_
    · (try dsimp only at hSw)
      have q0 := Rt.cell (j := 0) hSw rfl
      have q1 := Rt.cell (j := 1) hSw rfl
      have q2 := Rt.cell (j := 2) hSw rfl
      have q3 := Rt.cell (j := 3) hSw rfl
      have q4 := Rt.cell (j := 4) hSw rfl
      go_simp
    try simp only [Act.put, List.setIfInBounds_toArray, List.set_cons_zero, List.set_cons_succ]
    refine tkH 5 (.int .i64 p.2) rfl (fun w hSw => ?_) ?_
    · (try dsimp only at hSw)
      have q0 := Rt.cell (j := 0) hSw rfl
      have q1 := Rt.cell (j := 1) hSw rfl
      have q2 := Rt.cell (j := 2) hSw rfl
      have q3 := Rt.cell (j := 3) hSw rfl
      have q4 := Rt.cell (j := 4) hSw rfl
      go_simp
    try simp only [Act.put, List.setIfInBounds_toArray, List.set_cons_zero, List.set_cons_succ]
    refine tkH 6 (.slice A6 p.1.length c6) rfl (fun w hSw => ?_) ?_
    · (try dsimp only at hSw)
      have q0 := Rt.cell (j := 0) hSw rfl
      have q1 := Rt.cell (j := 1) hSw rfl
      have q2 := Rt.cell (j := 2) hSw rfl
      have q3 := Rt.cell (j := 3) hSw rfl
      have q4 := Rt.cell (j := 4) hSw rfl
      go_simp
    try simp only [Act.put, List.setIfInBounds_toArray, List.set_cons_zero, List.set_cons_succ]
    refine tkH 7 (.int .i64 p.2) rfl (fun w hSw => ?_) ?_
    · (try dsimp only at hSw)
      have q0 := Rt.cell (j := 0) hSw rfl
      have q1 := Rt.cell (j := 1) hSw rfl
      have q2 := Rt.cell (j := 2) hSw rfl
      have q3 := Rt.cell (j := 3) hSw rfl
      have q4 := Rt.cell (j := 4) hSw rfl
      go_simp
    try simp only [Act.put, List.setIfInBounds_toArray, List.set_cons_zero, List.set_cons_succ]
    refine wpAnyH_done (by kernel_rfl) ?_ _
    refine NoPanic.normal ?_
    go_wp2
    go_ret2
    exact ⟨by first | exact hB | (rw [hb0]; exact hB) | (rw [← hb0]; exact hB), A6, c6, rfl, HI6.out⟩
end Go.Proofs.Ytoekiencnbgmhaa
/-
  The law's Same of a log and the reference's log that have just the same.
  The conditions: the entries lie one behind the other, no text is long.
-/
namespace Go.Proofs.Ytoekiencnbgmhaa
open Go.RowKit Go.Deep
set_option maxRecDepth 100000

theorem eqSnp10_self (a : Snp) : eqSnp10 a a = true := by simp [eqSnp10]
theorem reqSnap_is (a : Snp) (w : World) : Calls Try.prog 54 #[a.val, a.val] w fun e w' => e = .returned (.bool true) ∧ Below w.heap.size w w' := by
  have h := reqSnap_any a a w
  rw [eqSnp10_self] at h
  exact h
def cl13 (q : Option (List Int × Int)) : List Int := match q with | none => [] | some p => p.1
def cx13 (q : Option (List Int × Int)) : Int := match q with | none => 0 | some p => p.2
theorem CnfR.out13 {q : Option (List Int × Int)} {w : World} {e : Ending} {w' : World} (h : CnfR q w e w') : ∃ A c, e = .returned (.tuple #[.slice A (cl13 q).length c, .int .i64 (cx13 q)]) ∧ Ints w' w'.heap.size (.slice A (cl13 q).length c) (cl13 q) ∧ Below w.heap.size w w' := by
  obtain ⟨hb, h⟩ := h
  cases q with
  | none => exact ⟨none, 0, h, Ints.nil _ _, hb⟩
  | some p => obtain ⟨A, c, h1, h2⟩ := h; exact ⟨A, c, h1, h2, hb⟩
theorem dec12_len {s : ByteArray} {l : List Int} (h : dec12 s = some l) : l.length ≤ 7 := by
  unfold dec12 at h
  split at h
  · injection h with h; subst h; exact may12_len (by assumption)
  · cases h
theorem cnfE_len {e : Ent} {p : List Int × Int} (h : cnfE e = some p) : p.1.length ≤ 7 := by
  unfold cnfE at h
  split at h
  · cases hd : dec12 e.data with
    | none => rw [hd] at h; cases h
    | some l => rw [hd] at h; injection h with h; subst h; exact dec12_len hd
  · cases h
theorem cnf13_len (r : Lg) : (cl13 (cnf13 r)).length ≤ 7 := by
  unfold cnf13
  cases hf : r.L.reverse.findSome? cnfE with
  | some p =>
    obtain ⟨e, _, he⟩ := List.exists_of_findSome?_eq_some hf
    exact cnfE_len he
  | none =>
    cases hd : dec12 r.s.conf with
    | none => simp [cl13]
    | some l => exact dec12_len hd
theorem lconf_lk {N : Nat → Prop} {m : Nat} {w : World} {g : Nat} {r : Lg} (h : LK N m w g r) (hm : m ≤ 900000) {C : List Int} {x : Int} {n : Nat} (hC : cl13 (cnf13 r) = C) (hx : cx13 (cnf13 r) = x) (hn : C.length = n) :
    Calls Try.prog 56 #[.pointer (some ⟨g, 0, none⟩)] w fun e w' => ∃ A c, e = .returned (.tuple #[.slice A n c, .int .i64 x]) ∧ Ints w' w'.heap.size (.slice A n c) C ∧ Below w.heap.size w w' := by
  obtain ⟨v, hL, hk⟩ := h.get (by omega)
  subst hn; subst hC; subst hx
  exact (lconf_any hL hk).mono fun _ _ h => h.out13
theorem rconf_n {N : Nat → Prop} {w : World} {ix st : Int} {cf dt : ByteArray} {L : List Ent} {A : Option Addr} {n c : Nat} (h : RL N w ix st cf dt L A n c) (hf : Fol13 ⟨⟨ix, st, cf, dt⟩, L⟩) (hd : Dat13 ⟨⟨ix, st, cf, dt⟩, L⟩) {C : List Int} {x : Int} {q : Nat} (hC : cl13 (cnf13 ⟨⟨ix, st, cf, dt⟩, L⟩) = C) (hx : cx13 (cnf13 ⟨⟨ix, st, cf, dt⟩, L⟩) = x) (hn : C.length = q) :
    Calls Try.prog 57 #[.agg #[.int .i64 ix, .int .i64 st, .string cf, .string dt, .slice A n c]] w fun e w' => ∃ A c, e = .returned (.tuple #[.slice A q c, .int .i64 x]) ∧ Ints w' w'.heap.size (.slice A q c) C ∧ Below w.heap.size w w' := by
  subst hn; subst hC; subst hx
  exact (rconf_x h hd.2.1 hd.1 (fun e he => by have := hf.le e he; rw [h.len] at this; exact this)).mono fun _ _ h => h.out13
theorem reqEnts_is {A C : Option Addr} {n c d : Nat} {a : List Ent} {w : World} {B1 B2 : Nat} (hn : a.length = n) (ha : OwnEn B1 (.slice A n c) a w) (hb : OwnEn B2 (.slice C n d) a w) (hl : n ≤ 1000) :
    Calls Try.prog 23 #[.slice A n c, .slice C n d] w fun e w' => e = .returned (.bool true) ∧ Below w.heap.size w w' := by
  subst hn
  have h := reqEnts_any _ _ A C c d a a w (Ens.of_own ha) (Ens.of_own hb) hl
  rw [eqEs11_self] at h
  exact h
set_option maxHeartbeats 2000000 in
theorem lsame13_any {N M : Nat → Prop} {m : Nat} {w : World} {g : Nat} {ix st : Int} {cf dt : ByteArray} {L : List Ent} {A : Option Addr} {n c : Nat} (h : LK N m w g ⟨⟨ix, st, cf, dt⟩, L⟩) (hm : m ≤ 900000) (hR : RL M w ix st cf dt L A n c) (hf : Fol13 ⟨⟨ix, st, cf, dt⟩, L⟩) (hd : Dat13 ⟨⟨ix, st, cf, dt⟩, L⟩) :
    Calls Try.prog 26 #[.pointer (some ⟨g, 0, none⟩), .agg #[.int .i64 ix, .int .i64 st, .string cf, .string dt, .slice A n c]] w fun e w' => e = .returned (.bool true) ∧ Below w.heap.size w w' := by
  obtain ⟨h0, h1, h2, h3⟩ := hR.bds
  have hn := hR.len
  obtain ⟨b0, hb0⟩ : ∃ b, w.heap.size = b := ⟨_, rfl⟩
  obtain ⟨W0, hW0⟩ : ∃ W0, w.alloc (.cells #[.int .i64 ix, .int .i64 st, .string cf, .string dt, .slice A n c] 32) = W0 := ⟨_, rfl⟩
  have hS : Rt W0 b0 32 [.int .i64 ix, .int .i64 st, .string cf, .string dt, .slice A n c] := by rw [← hW0]; exact Rt.new_at w b0 _ _ hb0
  have hB : Below w.heap.size w W0 := by rw [← hW0]; exact below_new _ _
  have hLK := h.below hB
  have hRL := hR.below hB
  have HF := Lib.hid hf
  have HD := Lib.hid hd
  have HN := Lib.hid hn
  have hlst : lst13 ⟨⟨ix, st, cf, dt⟩, L⟩ = ix + (n : Int) := by unfold lst13; simp only; rw [hn]
  have HLS := Lib.hid hlst
  have HW0 := Lib.hid hW0
  clear h hR hf hd hn hlst
  go_enter Try.func26, Try.ntmps26
  go_wp2_with fail
  try rw [hW0]
  replace hS : Rt W0.drew b0 32 [.int .i64 ix, .int .i64 st, .string cf, .string dt, .slice A n c] := hS
  have hdr : Below W0.heap.size W0 W0.drew := (Below.refl _ _).drew
  replace hLK := hLK.below hdr
  replace hRL := hRL.below hdr
  replace hB := hB.drew
  clear hdr
  refine wp_region_noPanic ?_
  refine wp_region_held_drew (S := fun W => Rt W b0 32 [.int .i64 ix, .int .i64 st, .string cf, .string dt, .slice A n c]) (by kernel_rfl) ?_ (fun hHeld => ?_)
  · exact hS
  generalize W0.drew = kz at *
  refine tkH 0 (.pointer (some ⟨g, 0, none⟩)) rfl (fun w hSw => ?_) ?_
  · (try dsimp only at hSw)
    have q0 := Rt.cell (j := 0) hSw rfl
    have q1 := Rt.cell (j := 1) hSw rfl
    have q2 := Rt.cell (j := 2) hSw rfl
    have q3 := Rt.cell (j := 3) hSw rfl
    have q4 := Rt.cell (j := 4) hSw rfl
    go_simp
  try simp only [Act.put, List.setIfInBounds_toArray, List.set_cons_zero, List.set_cons_succ]
  refine tkH 1 (.bool false) rfl (fun w hSw => ?_) ?_
  · (try dsimp only at hSw)
    have q0 := Rt.cell (j := 0) hSw rfl
    have q1 := Rt.cell (j := 1) hSw rfl
    have q2 := Rt.cell (j := 2) hSw rfl
    have q3 := Rt.cell (j := 3) hSw rfl
    have q4 := Rt.cell (j := 4) hSw rfl
    go_simp
  try simp only [Act.put, List.setIfInBounds_toArray, List.set_cons_zero, List.set_cons_succ]
  refine tkH 2 (.bool false) rfl (fun w hSw => ?_) ?_
  · (try dsimp only at hSw)
    have q0 := Rt.cell (j := 0) hSw rfl
    have q1 := Rt.cell (j := 1) hSw rfl
    have q2 := Rt.cell (j := 2) hSw rfl
    have q3 := Rt.cell (j := 3) hSw rfl
    have q4 := Rt.cell (j := 4) hSw rfl
    go_simp
  try simp only [Act.put, List.setIfInBounds_toArray, List.set_cons_zero, List.set_cons_succ]
  refine tkH 3 (.pointer (some ⟨g, 0, none⟩)) rfl (fun w hSw => ?_) ?_
  · (try dsimp only at hSw)
    have q0 := Rt.cell (j := 0) hSw rfl
    have q1 := Rt.cell (j := 1) hSw rfl
    have q2 := Rt.cell (j := 2) hSw rfl
    have q3 := Rt.cell (j := 3) hSw rfl
    have q4 := Rt.cell (j := 4) hSw rfl
    go_simp
  try simp only [Act.put, List.setIfInBounds_toArray, List.set_cons_zero, List.set_cons_succ]
  refine tkH 5 (.agg #[.int .i64 ix, .int .i64 st, .string cf, .string dt, .slice A n c]) rfl (fun w hSw => ?_) ?_
  · (try dsimp only at hSw)
    have q0 := Rt.cell (j := 0) hSw rfl
    have q1 := Rt.cell (j := 1) hSw rfl
    have q2 := Rt.cell (j := 2) hSw rfl
    have q3 := Rt.cell (j := 3) hSw rfl
    have q4 := Rt.cell (j := 4) hSw rfl
    go_simp
  try simp only [Act.put, List.setIfInBounds_toArray, List.set_cons_zero, List.set_cons_succ]
  refine stH 4 rfl (fun K hK => ?_)
  go_simp
  go_at_call 37
  refine (first_lk hLK hm (ix + 1) rfl).mono ?_
  rintro e k4 ⟨rfl, h⟩
  replace hS := hS.below h
  replace hLK := hLK.below h
  replace hRL := hRL.below h
  replace hB := hB.trans (h.mono hB.size)
  clear h
  refine hK.out _ _ ?_ (fun hHeld => ?_)
  · exact hS
  clear hK K
  try simp only [Act.put, List.setIfInBounds_toArray, List.set_cons_zero, List.set_cons_succ]
  refine stH 6 rfl (fun K hK => ?_)
  go_simp
  go_at_call 49
  refine (rfirst_x hRL _).mono ?_
  rintro e k6 ⟨rfl, h⟩
  replace hS := hS.below h
  replace hLK := hLK.below h
  replace hRL := hRL.below h
  replace hB := hB.trans (h.mono hB.size)
  clear h
  refine hK.out _ _ ?_ (fun hHeld => ?_)
  · exact hS
  clear hK K
  try simp only [Act.put, List.setIfInBounds_toArray, List.set_cons_zero, List.set_cons_succ]
  refine tkH 7 (.bool false) rfl (fun w hSw => ?_) ?_
  · (try dsimp only at hSw)
    have q0 := Rt.cell (j := 0) hSw rfl
    have q1 := Rt.cell (j := 1) hSw rfl
    have q2 := Rt.cell (j := 2) hSw rfl
    have q3 := Rt.cell (j := 3) hSw rfl
    have q4 := Rt.cell (j := 4) hSw rfl
    go_simp
  try simp only [Act.put, List.setIfInBounds_toArray, List.set_cons_zero, List.set_cons_succ]
  refine tkH 8 (.bool false) rfl (fun w hSw => ?_) ?_
  · (try dsimp only at hSw)
    have q0 := Rt.cell (j := 0) hSw rfl
    have q1 := Rt.cell (j := 1) hSw rfl
    have q2 := Rt.cell (j := 2) hSw rfl
    have q3 := Rt.cell (j := 3) hSw rfl
    have q4 := Rt.cell (j := 4) hSw rfl
    go_simp
  try simp only [Act.put, List.setIfInBounds_toArray, List.set_cons_zero, List.set_cons_succ]
  refine tkH 9 (.bool false) rfl (fun w hSw => ?_) ?_
  · (try dsimp only at hSw)
    have q0 := Rt.cell (j := 0) hSw rfl
    have q1 := Rt.cell (j := 1) hSw rfl
    have q2 := Rt.cell (j := 2) hSw rfl
    have q3 := Rt.cell (j := 3) hSw rfl
    have q4 := Rt.cell (j := 4) hSw rfl
    go_simp
  try simp only [Act.put, List.setIfInBounds_toArray, List.set_cons_zero, List.set_cons_succ]
  refine tkH 10 (.pointer (some ⟨g, 0, none⟩)) rfl (fun w hSw => ?_) ?_
  · (try dsimp only at hSw)
    have q0 := Rt.cell (j := 0) hSw rfl
    have q1 := Rt.cell (j := 1) hSw rfl
    have q2 := Rt.cell (j := 2) hSw rfl
    have q3 := Rt.cell (j := 3) hSw rfl
    have q4 := Rt.cell (j := 4) hSw rfl
    go_simp
  try simp only [Act.put, List.setIfInBounds_toArray, List.set_cons_zero, List.set_cons_succ]
  refine tkH 12 (.agg #[.int .i64 ix, .int .i64 st, .string cf, .string dt, .slice A n c]) rfl (fun w hSw => ?_) ?_
  · (try dsimp only at hSw)
    have q0 := Rt.cell (j := 0) hSw rfl
    have q1 := Rt.cell (j := 1) hSw rfl
    have q2 := Rt.cell (j := 2) hSw rfl
    have q3 := Rt.cell (j := 3) hSw rfl
    have q4 := Rt.cell (j := 4) hSw rfl
    go_simp
  try simp only [Act.put, List.setIfInBounds_toArray, List.set_cons_zero, List.set_cons_succ]
  refine stH 11 rfl (fun K hK => ?_)
  go_simp
  go_at_call 38
  refine (last_lk hLK hm (ix + (n : Int)) HLS.out).mono ?_
  rintro e k11 ⟨rfl, h⟩
  replace hS := hS.below h
  replace hLK := hLK.below h
  replace hRL := hRL.below h
  replace hB := hB.trans (h.mono hB.size)
  clear h
  refine hK.out _ _ ?_ (fun hHeld => ?_)
  · exact hS
  clear hK K
  try simp only [Act.put, List.setIfInBounds_toArray, List.set_cons_zero, List.set_cons_succ]
  refine stH 13 rfl (fun K hK => ?_)
  go_simp
  go_at_call 48
  refine (rlast_x hRL _).mono ?_
  rintro e k13 ⟨rfl, h⟩
  replace hS := hS.below h
  replace hLK := hLK.below h
  replace hRL := hRL.below h
  replace hB := hB.trans (h.mono hB.size)
  clear h
  refine hK.out _ _ ?_ (fun hHeld => ?_)
  · exact hS
  clear hK K
  try simp only [Act.put, List.setIfInBounds_toArray, List.set_cons_zero, List.set_cons_succ]
  refine tkH 14 (.bool false) rfl (fun w hSw => ?_) ?_
  · (try dsimp only at hSw)
    have q0 := Rt.cell (j := 0) hSw rfl
    have q1 := Rt.cell (j := 1) hSw rfl
    have q2 := Rt.cell (j := 2) hSw rfl
    have q3 := Rt.cell (j := 3) hSw rfl
    have q4 := Rt.cell (j := 4) hSw rfl
    go_simp
  try simp only [Act.put, List.setIfInBounds_toArray, List.set_cons_zero, List.set_cons_succ]
  refine tkH 15 (.bool false) rfl (fun w hSw => ?_) ?_
  · (try dsimp only at hSw)
    have q0 := Rt.cell (j := 0) hSw rfl
    have q1 := Rt.cell (j := 1) hSw rfl
    have q2 := Rt.cell (j := 2) hSw rfl
    have q3 := Rt.cell (j := 3) hSw rfl
    have q4 := Rt.cell (j := 4) hSw rfl
    go_simp
  try simp only [Act.put, List.setIfInBounds_toArray, List.set_cons_zero, List.set_cons_succ]
  refine tkH 16 (.bool false) rfl (fun w hSw => ?_) ?_
  · (try dsimp only at hSw)
    have q0 := Rt.cell (j := 0) hSw rfl
    have q1 := Rt.cell (j := 1) hSw rfl
    have q2 := Rt.cell (j := 2) hSw rfl
    have q3 := Rt.cell (j := 3) hSw rfl
    have q4 := Rt.cell (j := 4) hSw rfl
    go_simp
  try simp only [Act.put, List.setIfInBounds_toArray, List.set_cons_zero, List.set_cons_succ]
  refine tkH 17 (.pointer (some ⟨g, 0, none⟩)) rfl (fun w hSw => ?_) ?_
  · (try dsimp only at hSw)
    have q0 := Rt.cell (j := 0) hSw rfl
    have q1 := Rt.cell (j := 1) hSw rfl
    have q2 := Rt.cell (j := 2) hSw rfl
    have q3 := Rt.cell (j := 3) hSw rfl
    have q4 := Rt.cell (j := 4) hSw rfl
    go_simp
  try simp only [Act.put, List.setIfInBounds_toArray, List.set_cons_zero, List.set_cons_succ]
  refine tkH 19 (.pointer (some ⟨b0, 0, none⟩)) rfl (fun w hSw => ?_) ?_
  · (try dsimp only at hSw)
    have q0 := Rt.cell (j := 0) hSw rfl
    have q1 := Rt.cell (j := 1) hSw rfl
    have q2 := Rt.cell (j := 2) hSw rfl
    have q3 := Rt.cell (j := 3) hSw rfl
    have q4 := Rt.cell (j := 4) hSw rfl
    go_simp
  try simp only [Act.put, List.setIfInBounds_toArray, List.set_cons_zero, List.set_cons_succ]
  refine tkH 20 (.agg #[.int .i64 ix, .int .i64 st, .string cf, .string dt]) rfl (fun w hSw => ?_) ?_
  · (try dsimp only at hSw)
    have q0 := Rt.cell (j := 0) hSw rfl
    have q1 := Rt.cell (j := 1) hSw rfl
    have q2 := Rt.cell (j := 2) hSw rfl
    have q3 := Rt.cell (j := 3) hSw rfl
    have q4 := Rt.cell (j := 4) hSw rfl
    go_simp
  try simp only [Act.put, List.setIfInBounds_toArray, List.set_cons_zero, List.set_cons_succ]
  refine stH 18 rfl (fun K hK => ?_)
  go_simp
  go_at_call 55
  refine (snap_lk hLK hm).mono ?_
  rintro e k18 ⟨rfl, h⟩
  replace hS := hS.below h
  replace hLK := hLK.below h
  replace hRL := hRL.below h
  replace hB := hB.trans (h.mono hB.size)
  clear h
  refine hK.out _ _ ?_ (fun hHeld => ?_)
  · exact hS
  clear hK K
  try simp only [Act.put, List.setIfInBounds_toArray, List.set_cons_zero, List.set_cons_succ]
  refine stH 21 rfl (fun K hK => ?_)
  go_simp
  go_at_call 54
  refine (reqSnap_is ⟨ix, st, cf, dt⟩ _).mono ?_
  rintro e k21 ⟨rfl, h⟩
  replace hS := hS.below h
  replace hLK := hLK.below h
  replace hRL := hRL.below h
  replace hB := hB.trans (h.mono hB.size)
  clear h
  refine hK.out _ _ ?_ (fun hHeld => ?_)
  · exact hS
  clear hK K
  try simp only [Act.put, List.setIfInBounds_toArray, List.set_cons_zero, List.set_cons_succ]
  refine tkH 22 (.bool false) rfl (fun w hSw => ?_) ?_
  · (try dsimp only at hSw)
    have q0 := Rt.cell (j := 0) hSw rfl
    have q1 := Rt.cell (j := 1) hSw rfl
    have q2 := Rt.cell (j := 2) hSw rfl
    have q3 := Rt.cell (j := 3) hSw rfl
    have q4 := Rt.cell (j := 4) hSw rfl
    go_simp
  try simp only [Act.put, List.setIfInBounds_toArray, List.set_cons_zero, List.set_cons_succ]
  refine tkH 23 (.bool false) rfl (fun w hSw => ?_) ?_
  · (try dsimp only at hSw)
    have q0 := Rt.cell (j := 0) hSw rfl
    have q1 := Rt.cell (j := 1) hSw rfl
    have q2 := Rt.cell (j := 2) hSw rfl
    have q3 := Rt.cell (j := 3) hSw rfl
    have q4 := Rt.cell (j := 4) hSw rfl
    go_simp
  try simp only [Act.put, List.setIfInBounds_toArray, List.set_cons_zero, List.set_cons_succ]
  refine wpAnyH_done (by kernel_rfl) ?_ _
  refine NoPanic.normal ?_
  have d0 := hS.cell (j := 0) rfl
  have d1 := hS.cell (j := 1) rfl
  have d2 := hS.cell (j := 2) rfl
  have d3 := hS.cell (j := 3) rfl
  have d4 := hS.cell (j := 4) rfl
  obtain ⟨C, hC⟩ : ∃ C, cl13 (cnf13 ⟨⟨ix, st, cf, dt⟩, L⟩) = C := ⟨_, rfl⟩
  obtain ⟨x, hx⟩ : ∃ C, cx13 (cnf13 ⟨⟨ix, st, cf, dt⟩, L⟩) = C := ⟨_, rfl⟩
  have hq7 := cnf13_len ⟨⟨ix, st, cf, dt⟩, L⟩
  rw [hC] at hq7
  obtain ⟨q, hq⟩ : ∃ q, C.length = q := ⟨_, rfl⟩
  rw [hq] at hq7
  have HC := Lib.hid hC
  have HX := Lib.hid hx
  have HQ := Lib.hid hq
  clear hC hx hq
  go_wp2_with fail
  refine (lconf_lk hLK hm HC.out HX.out HQ.out).mono ?_
  rintro e k1 ⟨Ac, cc, rfl, hI, h⟩
  have HI := Lib.hid hI
  clear d0 d1 d2 d3 d4 hI
  replace hS := hS.below h
  replace hLK := hLK.below h
  replace hRL := hRL.below h
  replace hB := hB.trans (h.mono hB.size)
  have HB1 := Lib.hid h
  clear h
  have d0 := hS.cell (j := 0) rfl
  have d1 := hS.cell (j := 1) rfl
  have d2 := hS.cell (j := 2) rfl
  have d3 := hS.cell (j := 3) rfl
  have d4 := hS.cell (j := 4) rfl
  go_wp2_with fail
  refine (rconf_n hRL HF.out HD.out HC.out HX.out HQ.out).mono ?_
  rintro e k2 ⟨Ad, cd, rfl, hI, h⟩
  have HJ := Lib.hid hI
  replace HI := Lib.hid ((HI.out.keep h (Nat.le_refl _)).more h.size)
  clear d0 d1 d2 d3 d4 hI HB1
  replace hS := hS.below h
  replace hLK := hLK.below h
  replace hRL := hRL.below h
  replace hB := hB.trans (h.mono hB.size)
  clear h
  have d0 := hS.cell (j := 0) rfl
  have d1 := hS.cell (j := 1) rfl
  have d2 := hS.cell (j := 2) rfl
  have d3 := hS.cell (j := 3) rfl
  have d4 := hS.cell (j := 4) rfl
  clear d0 d1 d2 d3 d4
  have HS2 := Lib.hid hS
  have HK2 := Lib.hid hLK
  have HRL2 := Lib.hid hRL
  have HB2 := Lib.hid hB
  clear hS hLK hRL hB
  go_wp2_with fail
  go_loopw [9] (fun i wr => ∃ k : Nat, k ≤ q ∧ i = .int .i64 (k : Int) ∧ Below k2.heap.size k2 wr) (fun i _ => q - (intOf i).toNat)
  case atStart => exact ⟨0, Nat.zero_le _, rfl, Below.refl _ _⟩
  case round =>
    obtain ⟨k, hk, rfl, hbw⟩ := hrel
    by_cases hlt : k < q
    · have hki : (k : Int) < (q : Int) := by omega
      obtain ⟨ga, oa, hA, _, ha⟩ := HI.out.at_ k (by rw [HQ.out]; exact hlt)
      subst hA
      obtain ⟨gb, ob, hA, _, hb⟩ := HJ.out.at_ k (by rw [HQ.out]; exact hlt)
      subst hA
      replace ha := (hbw.cell (p := ⟨ga, oa + k, none⟩) (cell_in ha)).trans ha
      replace hb := (hbw.cell (p := ⟨gb, ob + k, none⟩) (cell_in hb)).trans hb
      obtain ⟨y, hy⟩ : ∃ y, C[k]'(by rw [HQ.out]; exact hlt) = y := ⟨_, rfl⟩
      rw [hy] at ha hb
      have HBW := Lib.hid hbw
      clear hbw hy
      go_wp2_with fail
      go_quiet (fail)
      go_wp2
      go_roundw
      case rel => exact ⟨k + 1, by omega, by go_num, HBW.out.trans (below_drewN13 _ _ _)⟩
      case measure => simp [intOf]; omega
    · have hki : ¬ (k : Int) < (q : Int) := by omega
      have hS := HS2.out.below hbw
      have hLK := HK2.out.below hbw
      have hRL := HRL2.out.below hbw
      have hB := HB2.out.trans (hbw.mono HB2.out.size)
      obtain ⟨G, hG⟩ : ∃ G, get13 ⟨⟨ix, st, cf, dt⟩, L⟩ (ix + 1) 300 = G := ⟨_, rfl⟩
      obtain ⟨z, hz⟩ : ∃ z, G.length = z := ⟨_, rfl⟩
      have hz3 : z ≤ 300 := by
        rw [← hz, ← hG]
        unfold get13
        exact List.length_take_le _ _
      have HG := Lib.hid hG
      have HZ := Lib.hid hz
      clear hG hz
      go_wp2_with fail
      replace hS : Rt wr.drew b0 32 [.int .i64 ix, .int .i64 st, .string cf, .string dt, .slice A n c] := hS
      have hdr : Below wr.heap.size wr wr.drew := (Below.refl _ _).drew
      replace hLK := hLK.below hdr
      replace hRL := hRL.below hdr
      replace hB := hB.drew
      clear hdr
      refine wp_region_noPanic ?_
      refine wp_region_held_drew (S := fun W => Rt W b0 32 [.int .i64 ix, .int .i64 st, .string cf, .string dt, .slice A n c]) (by kernel_rfl) ?_ (fun hHeld => ?_)
      · exact hS
      generalize wr.drew = kz at *
      refine tkH 0 (.pointer (some ⟨g, 0, none⟩)) rfl (fun w hSw => ?_) ?_
      · (try dsimp only at hSw)
        have q0 := Rt.cell (j := 0) hSw rfl
        have q1 := Rt.cell (j := 1) hSw rfl
        have q2 := Rt.cell (j := 2) hSw rfl
        have q3 := Rt.cell (j := 3) hSw rfl
        have q4 := Rt.cell (j := 4) hSw rfl
        go_simp
      try simp only [Act.put, List.setIfInBounds_toArray, List.set_cons_zero, List.set_cons_succ]
      refine tkH 1 (.agg #[.int .i64 ix, .int .i64 st, .string cf, .string dt, .slice A n c]) rfl (fun w hSw => ?_) ?_
      · (try dsimp only at hSw)
        have q0 := Rt.cell (j := 0) hSw rfl
        have q1 := Rt.cell (j := 1) hSw rfl
        have q2 := Rt.cell (j := 2) hSw rfl
        have q3 := Rt.cell (j := 3) hSw rfl
        have q4 := Rt.cell (j := 4) hSw rfl
        go_simp
      try simp only [Act.put, List.setIfInBounds_toArray, List.set_cons_zero, List.set_cons_succ]
      refine tkH 4 (.agg #[.int .i64 ix, .int .i64 st, .string cf, .string dt, .slice A n c]) rfl (fun w hSw => ?_) ?_
      · (try dsimp only at hSw)
        have q0 := Rt.cell (j := 0) hSw rfl
        have q1 := Rt.cell (j := 1) hSw rfl
        have q2 := Rt.cell (j := 2) hSw rfl
        have q3 := Rt.cell (j := 3) hSw rfl
        have q4 := Rt.cell (j := 4) hSw rfl
        go_simp
      try simp only [Act.put, List.setIfInBounds_toArray, List.set_cons_zero, List.set_cons_succ]
      refine tkH 5 (.agg #[.int .i64 ix, .int .i64 st, .string cf, .string dt, .slice A n c]) rfl (fun w hSw => ?_) ?_
      · (try dsimp only at hSw)
        have q0 := Rt.cell (j := 0) hSw rfl
        have q1 := Rt.cell (j := 1) hSw rfl
        have q2 := Rt.cell (j := 2) hSw rfl
        have q3 := Rt.cell (j := 3) hSw rfl
        have q4 := Rt.cell (j := 4) hSw rfl
        go_simp
      try simp only [Act.put, List.setIfInBounds_toArray, List.set_cons_zero, List.set_cons_succ]
      refine stH 2 rfl (fun K hK => ?_)
      go_simp
      go_at_call 49
      refine (rfirst_x hRL _).mono ?_
      rintro e m2 ⟨rfl, h⟩
      replace hS := hS.below h
      replace hLK := hLK.below h
      replace hRL := hRL.below h
      replace hB := hB.trans (h.mono hB.size)
      clear h
      refine hK.out _ _ ?_ (fun hHeld => ?_)
      · exact hS
      clear hK K
      try simp only [Act.put, List.setIfInBounds_toArray, List.set_cons_zero, List.set_cons_succ]
      refine stH 3 rfl (fun K hK => ?_)
      go_simp
      go_at_call 24
      refine (get_lk hLK hm (ix + 1) 300 (by omega) G HG.out).mono ?_
      rintro e m3 ⟨A1, c1, rfl, ho, h⟩
      replace hS := hS.below h
      replace hLK := hLK.below h
      replace hRL := hRL.below h
      replace hB := hB.trans (h.mono hB.size)
      rw [HZ.out] at ho ⊢
      have HO := Lib.hid ho
      clear ho
      clear h
      refine hK.out _ _ ?_ (fun hHeld => ?_)
      · exact hS
      clear hK K
      try simp only [Act.put, List.setIfInBounds_toArray, List.set_cons_zero, List.set_cons_succ]
      refine stH 6 rfl (fun K hK => ?_)
      go_simp
      go_at_call 49
      refine (rfirst_x hRL _).mono ?_
      rintro e m6 ⟨rfl, h⟩
      replace hS := hS.below h
      replace hLK := hLK.below h
      replace hRL := hRL.below h
      replace hB := hB.trans (h.mono hB.size)
      replace HO := Lib.hid (HO.out.below h)
      clear h
      refine hK.out _ _ ?_ (fun hHeld => ?_)
      · exact hS
      clear hK K
      try simp only [Act.put, List.setIfInBounds_toArray, List.set_cons_zero, List.set_cons_succ]
      refine stH 7 rfl (fun K hK => ?_)
      go_simp
      go_at_call 25
      refine (rget_x hRL (ix + 1) 300 (by omega)).mono ?_
      rintro e m7 ⟨v, rfl, ho, h⟩
      replace hS := hS.below h
      replace hLK := hLK.below h
      replace hRL := hRL.below h
      replace hB := hB.trans (h.mono hB.size)
      rw [HG.out] at ho
      obtain ⟨A2, c2, rfl⟩ := ho.slice
      rw [HZ.out] at ho ⊢
      replace HO := Lib.hid (HO.out.below h)
      have HP := Lib.hid ho
      clear ho
      clear h
      refine hK.out _ _ ?_ (fun hHeld => ?_)
      · exact hS
      clear hK K
      try simp only [Act.put, List.setIfInBounds_toArray, List.set_cons_zero, List.set_cons_succ]
      refine stH 8 rfl (fun K hK => ?_)
      go_simp
      go_at_call 23
      refine (reqEnts_is HZ.out HO.out HP.out (by omega)).mono ?_
      rintro e m8 ⟨rfl, h⟩
      replace hS := hS.below h
      replace hLK := hLK.below h
      replace hRL := hRL.below h
      replace hB := hB.trans (h.mono hB.size)
      clear h
      refine hK.out _ _ ?_ (fun hHeld => ?_)
      · exact hS
      clear hK K
      try simp only [Act.put, List.setIfInBounds_toArray, List.set_cons_zero, List.set_cons_succ]
      refine tkH 9 (.bool true) rfl (fun w hSw => ?_) ?_
      · (try dsimp only at hSw)
        have q0 := Rt.cell (j := 0) hSw rfl
        have q1 := Rt.cell (j := 1) hSw rfl
        have q2 := Rt.cell (j := 2) hSw rfl
        have q3 := Rt.cell (j := 3) hSw rfl
        have q4 := Rt.cell (j := 4) hSw rfl
        go_simp
      try simp only [Act.put, List.setIfInBounds_toArray, List.set_cons_zero, List.set_cons_succ]
      refine wpAnyH_done (by kernel_rfl) ?_ _
      refine NoPanic.normal ?_
      go_wp2
      go_ret
      exact ⟨rfl, hB⟩
end Go.Proofs.Ytoekiencnbgmhaa
