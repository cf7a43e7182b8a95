/-
  The reference's Eq and May on values as data say what the plain functions say.
  Integers are in their ranges; a text has at most 1,000,000 bytes.
-/
import Derived.Test.YtdhppekfehbngaaReRunes
set_option linter.unusedSimpArgs false
set_option linter.unusedVariables false
namespace Go.Proofs.Ytdhppekfehbngaa
open Go.RowKit
set_option maxRecDepth 100000

/-- a value as data -/
structure Raw where
  kind : Int
  n : Int
  s : ByteArray
def Raw.val (r : Raw) : Value := .agg #[.int .i64 r.kind, .int .i64 r.n, .string r.s]
def eqR (a b : Raw) : Bool := a.kind == b.kind && a.n == b.n && a.s.data.toList == b.s.data.toList
def mayR (r : Raw) : Bool := if r.kind = 0 then r.n == 0 && r.s.data.toList.isEmpty else if r.kind = 1 then r.s.data.toList.isEmpty else if r.kind = 2 then r.n == 0 && Ru.vld r.s.data.toList && decide (r.s.size ≤ 200) else false
def Bl (b : Bool) (w : World) (e : Ending) (w' : World) : Prop := e = .returned (.bool b) ∧ Below w.heap.size w w'
theorem below_two (w : World) (o p : Obj) : Below w.heap.size w ((w.alloc o).alloc p) := ((Below.refl _ _).alloc (Nat.le_refl _) _).alloc (by simp) _
set_option maxRecDepth 100000 in
set_option maxHeartbeats 4000000 in
theorem req_any (a b : Raw) (w : World) : Calls Try.prog 29 #[a.val, b.val] w (Bl (eqR a b) w) := by
  obtain ⟨ak, an, at1⟩ := a
  obtain ⟨bk, bn, bt1⟩ := b
  unfold Raw.val
  go_enter Try.func29, Try.ntmps29
  go_wp2
  all_goals (go_ret; refine ⟨ret_bool ?_, below_two _ _ _⟩)
  · unfold eqR; simp_all [ByteArray.toList_eq]
  · unfold eqR; simp_all
  · unfold eqR; simp_all
theorem below_one (w : World) (o : Obj) : Below w.heap.size w (w.alloc o) := (Below.refl _ _).alloc (Nat.le_refl _) _

set_option maxRecDepth 100000 in
set_option maxHeartbeats 4000000 in
theorem rmay_any (r : Raw) (w : World) (hs : r.s.size ≤ 1000000) : Calls Try.prog 28 #[r.val] w (Bl (mayR r) w) := by
  obtain ⟨k, n, t⟩ := r
  simp only at hs
  unfold Raw.val
  have htl := ByteArray.toList_eq t
  by_cases h0 : k = 0
  · subst h0
    by_cases hn : n = 0
    · subst hn
      go_enter Try.func28, Try.ntmps28
      go_wp2
      go_ret
      exact ⟨ret_bool (by unfold mayR; simp), below_one _ _⟩
    · have hn2 : (n == 0) = false := by rw [beq_eq_false_iff_ne]; exact hn
      have HN := Lib.hid hn; clear hn
      go_enter Try.func28, Try.ntmps28
      go_wp2
      go_ret
      exact ⟨ret_bool (by unfold mayR; simp [HN.out]), below_one _ _⟩
  · by_cases h1 : k = 1
    · subst h1
      go_enter Try.func28, Try.ntmps28
      go_wp2
      go_ret
      exact ⟨ret_bool (by unfold mayR; simp), below_one _ _⟩
    · by_cases h2 : k = 2
      · subst h2
        obtain ⟨vd, hvd⟩ : ∃ v, Ru.vld t.data.toList = v := ⟨_, rfl⟩
        have hm : mayR ⟨2, n, t⟩ = (n == 0 && vd && decide (t.size ≤ 200)) := by unfold mayR; simp [hvd]
        have HM := Lib.hid hm; clear hm
        have HV := Lib.hid hvd; clear hvd htl
        go_enter Try.func28, Try.ntmps28
        go_wp2_with fail
        refine (runes_is t vd _ hs HV.out).mono ?_
        rintro e w1 ⟨vl, va, rfl, hl, -, hb⟩
        have c1 : w1.cell? ⟨w.heap.size, 1, none⟩ = some (.int .i64 n) := (hb.cell (p := ⟨w.heap.size, 1, none⟩) (by simp)).trans (World.cell?_alloc_mark w _ _ _ 1)
        have c2 : w1.cell? ⟨w.heap.size, 2, none⟩ = some (.string t) := (hb.cell (p := ⟨w.heap.size, 2, none⟩) (by simp)).trans (World.cell?_alloc_mark w _ _ _ 2)
        have hbw : Below w.heap.size w w1 := (below_one w _).trans (hb.mono (by simp))
        clear hb hl
        by_cases hn : n = 0
        · subst hn
          cases vd
          · go_wp2
            go_ret
            exact ⟨ret_bool (by rw [HM.out]; simp), hbw⟩
          · go_wp2
            go_ret
            exact ⟨ret_bool (by rw [HM.out]; simp; omega), hbw⟩
        · have hn2 : (n == 0) = false := by rw [beq_eq_false_iff_ne]; exact hn
          have HN := Lib.hid hn; clear hn
          go_wp2
          go_ret
          exact ⟨ret_bool (by rw [HM.out]; simp [HN.out]), hbw⟩
      · have k0 : (k == 0) = false := by rw [beq_eq_false_iff_ne]; exact h0
        have k1 : (k == 1) = false := by rw [beq_eq_false_iff_ne]; exact h1
        have k2 : (k == 2) = false := by rw [beq_eq_false_iff_ne]; exact h2
        have hm : mayR ⟨k, n, t⟩ = false := by unfold mayR; simp [h0, h1, h2]
        have HM := Lib.hid hm; clear hm h0 h1 h2
        go_enter Try.func28, Try.ntmps28
        go_wp2
        go_ret
        exact ⟨ret_bool HM.out.symm, below_one _ _⟩
end Go.Proofs.Ytdhppekfehbngaa
