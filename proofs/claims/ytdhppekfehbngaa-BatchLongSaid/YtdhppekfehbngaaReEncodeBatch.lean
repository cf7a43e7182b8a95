/-
  The reference's MayBatch says which batches may be, as the plain function does.
  The batch lies in memory; its integers are in their ranges; it has at most 1,000 operations, whose texts have at most 1,000,000 bytes.
-/
import Derived.Test.YtdhppekfehbngaaReBytesOf
set_option linter.unusedSimpArgs false
set_option linter.unusedVariables false
namespace Go.Proofs.Ytdhppekfehbngaa
open Go.RowKit
set_option maxRecDepth 100000

def mayB (b : Bat) : Bool := decide (1 ≤ b.client) && decide (b.client ≤ 5) && decide (1 ≤ b.seq) && decide (b.seq ≤ 1099511627776) && mayOs b.ops && decide ((bytesB b).length ≤ 1200)
theorem Bat.small {b : Bat} (h : b.ok) : ∀ x ∈ b.ops, x.small := fun x hx => by
  obtain ⟨_, h2, h3, h4, _⟩ := h.2.2 x hx
  exact ⟨h2, h3.2.2, h4.2.2⟩
theorem rmayOps_is (B : Nat) (v : Value) (l : List Opn) (x : Bool) (w : World) (h : Ops w B v l) (hB : B ≤ w.heap.size) (hsm : ∀ x ∈ l, x.small) (hx : mayOs l = x) : Calls Try.prog 30 #[v] w (Bl x w) := by
  rw [← hx]; exact rmayOps_any B v l w h hB hsm
theorem rbytesOf_is (B : Nat) (v : Value) (b : Bat) (m : List UInt8) (w : World) (h : BatV w B v b) (hB : B ≤ w.heap.size) (hok : b.ok) (hl : b.ops.length ≤ 1000) (hm : bytesB b = m) : Calls Try.prog 31 #[v] w (Made m w) := by
  rw [← hm]; exact rbytesOf_any B v b w h hB hok hl
theorem Ops.keep {w w' : World} {B C : Nat} {v : Value} {l : List Opn} (h : Ops w B v l) (hb : Below C w w') (hC : B ≤ C) : Ops w' B v l := by
  obtain ⟨A, c, hv, hc, h⟩ := h
  refine ⟨A, c, hv, hc, fun hn => ?_⟩
  obtain ⟨g, o, hA, hg, hcs⟩ := h hn
  exact ⟨g, o, hA, hg, fun k hk => range_below (hcs k hk) hb (Nat.lt_of_lt_of_le hg hC)⟩
theorem BatV.keep {w w' : World} {B C : Nat} {v : Value} {b : Bat} (h : BatV w B v b) (hb : Below C w w') (hC : B ≤ C) : BatV w' B v b := by
  obtain ⟨s, hv, h⟩ := h
  exact ⟨s, hv, h.keep hb hC⟩
set_option maxRecDepth 100000 in
set_option maxHeartbeats 2000000 in
theorem rmayBatch_any (B : Nat) (v : Value) (b : Bat) (w : World) (h : BatV w B v b) (hB : B ≤ w.heap.size) (hok : b.ok) (hl : b.ops.length ≤ 1000) : Calls Try.prog 15 #[v] w (Bl (mayB b) w) := by
  have hsm := b.small hok
  obtain ⟨s, rfl, hops⟩ := id h
  obtain ⟨m, hm⟩ : ∃ m, bytesB b = m := ⟨_, rfl⟩
  obtain ⟨mo, hmo⟩ : ∃ x, mayOs b.ops = x := ⟨_, rfl⟩
  have hM : mayB b = (decide (1 ≤ b.client) && decide (b.client ≤ 5) && decide (1 ≤ b.seq) && decide (b.seq ≤ 1099511627776) && mo && decide (m.length ≤ 1200)) := by unfold mayB; rw [hm, hmo]
  have HM := Lib.hid hM; have HB := Lib.hid h; have HO := Lib.hid hops; have HMM := Lib.hid hm; have HMO := Lib.hid hmo
  clear hM h hops hm hmo
  by_cases hin : 1 ≤ b.client ∧ b.client ≤ 5 ∧ 1 ≤ b.seq ∧ b.seq ≤ 1099511627776
  · obtain ⟨i1, i2, i3, i4⟩ := hin
    obtain ⟨W0, hW0⟩ : ∃ W0, w.alloc (Obj.cells #[Value.int IntKind.i64 b.client, Value.int IntKind.i64 b.seq, s] 31) = W0 := ⟨_, rfl⟩
    have hb0 : Below w.heap.size w W0 := by rw [← hW0]; exact below_one w _
    have hlt : w.heap.size < W0.heap.size := by rw [← hW0]; simp
    have q0 : W0.cell? ⟨w.heap.size, 0, none⟩ = some (.int .i64 b.client) := by rw [← hW0]; exact World.cell?_alloc_mark w _ _ _ 0
    have q1 : W0.cell? ⟨w.heap.size, 1, none⟩ = some (.int .i64 b.seq) := by rw [← hW0]; exact World.cell?_alloc_mark w _ _ _ 1
    have q2 : W0.cell? ⟨w.heap.size, 2, none⟩ = some s := by rw [← hW0]; exact World.cell?_alloc_mark w _ _ _ 2
    have HW := Lib.hid hW0; clear hW0
    go_enter Try.func15, Try.ntmps15
    go_wp2_with fail
    rw [HW.out]
    refine (rmayOps_is B s b.ops mo W0 (HO.out.keep hb0 hB) (Nat.le_trans hB hb0.size) hsm HMO.out).mono ?_
    rintro e w1 ⟨rfl, hb1⟩
    have hbw1 := hb0.trans (hb1.mono (Nat.le_of_lt hlt))
    have r0 : w1.cell? ⟨w.heap.size, 0, none⟩ = some (.int .i64 b.client) := (hb1.cell (p := ⟨w.heap.size, 0, none⟩) hlt).trans q0
    have r1 : w1.cell? ⟨w.heap.size, 1, none⟩ = some (.int .i64 b.seq) := (hb1.cell (p := ⟨w.heap.size, 1, none⟩) hlt).trans q1
    have r2 : w1.cell? ⟨w.heap.size, 2, none⟩ = some s := (hb1.cell (p := ⟨w.heap.size, 2, none⟩) hlt).trans q2
    clear q0 q1 q2 hb1
    cases mo
    · have hf : mayB b = false := by rw [HM.out]; simp
      have HF := Lib.hid hf; clear hf
      go_wp2
      go_ret
      exact ⟨ret_bool HF.out.symm, hbw1⟩
    · have hf : mayB b = decide (m.length ≤ 1200) := by rw [HM.out, decide_eq_true i1, decide_eq_true i2, decide_eq_true i3, decide_eq_true i4]; rfl
      have HF := Lib.hid hf; clear hf
      go_wp2_with fail
      refine (rbytesOf_is B _ b m _ (HB.out.keep hbw1 hB) (Nat.le_trans hB hbw1.size) hok hl HMM.out).mono ?_
      rintro e w2 ⟨v2, rfl, hown2, hb2⟩
      have hbw2 := hbw1.trans (hb2.mono hbw1.size)
      obtain ⟨A2, c2, rfl, -⟩ := Byt.of_own hown2
      clear hown2 hb2 r0 r1 r2
      go_wp2
      go_ret
      exact ⟨ret_bool (by rw [HF.out]; first | rfl | (simp; omega) | (rw [decide_eq_decide]; omega)), hbw2⟩
  · have hf : mayB b = false := by
      rw [HM.out]
      by_cases a1 : 1 ≤ b.client
      · by_cases a2 : b.client ≤ 5
        · by_cases a3 : 1 ≤ b.seq
          · rw [decide_eq_false (p := b.seq ≤ 1099511627776) (fun a4 => hin ⟨a1, a2, a3, a4⟩)]; simp
          · rw [decide_eq_false a3]; simp
        · rw [decide_eq_false a2]; simp
      · rw [decide_eq_false a1]; simp
    have HF := Lib.hid hf; clear hf
    have hc : b.client < 1 ∨ (1 ≤ b.client ∧ 5 < b.client) ∨ (1 ≤ b.client ∧ b.client ≤ 5 ∧ b.seq < 1) ∨ (1 ≤ b.client ∧ b.client ≤ 5 ∧ 1 ≤ b.seq ∧ 1099511627776 < b.seq) := by omega
    clear hin
    rcases hc with h1 | ⟨h1, h2⟩ | ⟨h1, h2, h3⟩ | ⟨h1, h2, h3, h4⟩
    all_goals
      go_enter Try.func15, Try.ntmps15
      go_wp2
      go_ret
      exact ⟨ret_bool HF.out.symm, below_one _ _⟩
end Go.Proofs.Ytdhppekfehbngaa
/-
  The reference's EncodeBatch writes a batch that may be, and nothing of another one.
  The batch lies in memory; its integers are in their ranges; it has at most 1,000 operations, whose texts have at most 1,000,000 bytes.
-/
namespace Go.Proofs.Ytdhppekfehbngaa
open Go.RowKit
set_option maxRecDepth 100000

def encB (b : Bat) : List UInt8 := if mayB b then bytesB b else []
theorem rmayBatch_is (B : Nat) (v : Value) (b : Bat) (x : Bool) (w : World) (h : BatV w B v b) (hB : B ≤ w.heap.size) (hok : b.ok) (hl : b.ops.length ≤ 1000) (hx : mayB b = x) : Calls Try.prog 15 #[v] w (Bl x w) := by
  rw [← hx]; exact rmayBatch_any B v b w h hB hok hl
set_option maxRecDepth 100000 in
set_option maxHeartbeats 2000000 in
theorem rencodeBatch_any (B : Nat) (v : Value) (b : Bat) (w : World) (h : BatV w B v b) (hB : B ≤ w.heap.size) (hok : b.ok) (hl : b.ops.length ≤ 1000) : Calls Try.prog 18 #[v] w (Made (encB b) w) := by
  obtain ⟨x, hx⟩ : ∃ x, mayB b = x := ⟨_, rfl⟩
  have he : encB b = if x then bytesB b else [] := by unfold encB; rw [hx]
  have HE := Lib.hid he; clear he
  have HX := Lib.hid hx; clear hx
  have HB := Lib.hid h
  obtain ⟨s, rfl, -⟩ := h
  obtain ⟨W0, hW0⟩ : ∃ W0, w.alloc (Obj.cells #[Value.int IntKind.i64 b.client, Value.int IntKind.i64 b.seq, s] 31) = W0 := ⟨_, rfl⟩
  have hb0 : Below w.heap.size w W0 := by rw [← hW0]; exact below_one w _
  have hlt : w.heap.size < W0.heap.size := by rw [← hW0]; simp
  have q0 : W0.cell? ⟨w.heap.size, 0, none⟩ = some (.int .i64 b.client) := by rw [← hW0]; exact World.cell?_alloc_mark w _ _ _ 0
  have q1 : W0.cell? ⟨w.heap.size, 1, none⟩ = some (.int .i64 b.seq) := by rw [← hW0]; exact World.cell?_alloc_mark w _ _ _ 1
  have q2 : W0.cell? ⟨w.heap.size, 2, none⟩ = some s := by rw [← hW0]; exact World.cell?_alloc_mark w _ _ _ 2
  have HW := Lib.hid hW0; clear hW0
  go_enter Try.func18, Try.ntmps18
  go_wp2_with fail
  rw [HW.out]
  refine (rmayBatch_is B _ b x _ (HB.out.keep hb0 hB) (Nat.le_trans hB hb0.size) hok hl HX.out).mono ?_
  rintro e w1 ⟨rfl, hb1⟩
  have hbw1 := hb0.trans (hb1.mono (Nat.le_of_lt hlt))
  have r0 : w1.cell? ⟨w.heap.size, 0, none⟩ = some (.int .i64 b.client) := (hb1.cell (p := ⟨w.heap.size, 0, none⟩) hlt).trans q0
  have r1 : w1.cell? ⟨w.heap.size, 1, none⟩ = some (.int .i64 b.seq) := (hb1.cell (p := ⟨w.heap.size, 1, none⟩) hlt).trans q1
  have r2 : w1.cell? ⟨w.heap.size, 2, none⟩ = some s := (hb1.cell (p := ⟨w.heap.size, 2, none⟩) hlt).trans q2
  clear q0 q1 q2 hb1
  cases x
  · go_wp2
    go_ret
    exact ⟨_, rfl, by rw [HE.out]; exact ownB_nil _ _, hbw1⟩
  · go_wp2_with fail
    refine (rbytesOf_any B _ b _ (HB.out.keep hbw1 hB) (Nat.le_trans hB hbw1.size) hok hl).mono ?_
    rintro e w2 ⟨v2, rfl, hown2, hb2⟩
    clear r0 r1 r2
    go_wp2
    go_ret
    exact ⟨_, rfl, by rw [HE.out]; exact hown2.down hbw1.size, hbw1.trans (hb2.mono hbw1.size)⟩
end Go.Proofs.Ytdhppekfehbngaa
