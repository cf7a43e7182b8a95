/-
  A function returns what the plain functions say: SClone.
-/
import Derived.Test.YtegkhkcnoahhdaaShelf
import Derived.Test.YtegkhkcnoahhdaaProg
import Derived.Test.YtegkhkcnoahhdaaWBase
import Derived.Test.YtegkhkcnoahhdaaReMayOp
import Derived.Test.YtegkhkcnoahhdaaRuValid
set_option linter.unusedSimpArgs false
set_option linter.unusedVariables false
namespace Go.Proofs.Ytegkhkcnoahhdaa
open Go.RowKit
set_option maxRecDepth 100000

theorem clone_any (s : ByteArray) (w : World) (hs : s.size ≤ 281474976710656) : Calls Try.prog 34 #[.string s] w fun e w' => e = .returned (.string s) ∧ Below w.heap.size w w' := by
  go_enter Try.func34, Try.ntmps34
  go_wp2_with (go_at_call 53; refine (Try.stringslite_Clone s w hs).mono ?_; rintro e w' ⟨rfl, hb⟩)
  go_ret
  exact ⟨rfl, hb⟩
end Go.Proofs.Ytegkhkcnoahhdaa
/-
  Package value's may says which raw values may be.
  A text has at most 1,000,000 bytes.
-/
namespace Go.Proofs.Ytegkhkcnoahhdaa
open Go.RowKit
set_option maxRecDepth 100000

set_option maxHeartbeats 4000000 in
theorem vmay_any (r : Raw) (w : World) (hs : r.s.size ≤ 1000000) : Calls Try.prog 69 #[r.val] w (Bl (mayR r) w) := by
  obtain ⟨k, n, t⟩ := r
  simp only at hs
  unfold Raw.val
  have htl := ByteArray.toList_eq t
  by_cases h0 : k = 0
  · subst h0
    by_cases hn : n = 0
    · subst hn
      go_enter Try.func69, Try.ntmps69
      go_wp2
      go_ret
      exact ⟨ret_bool (by unfold mayR; simp), below_one _ _⟩
    · have hn2 : (n == 0) = false := by rw [beq_eq_false_iff_ne]; exact hn
      have HN := Lib.hid hn; clear hn
      go_enter Try.func69, Try.ntmps69
      go_wp2
      go_ret
      exact ⟨ret_bool (by unfold mayR; simp [HN.out]), below_one _ _⟩
  · by_cases h1 : k = 1
    · subst h1
      go_enter Try.func69, Try.ntmps69
      go_wp2
      go_ret
      exact ⟨ret_bool (by unfold mayR; simp), below_one _ _⟩
    · by_cases h2 : k = 2
      · subst h2
        obtain ⟨vd, hvd⟩ : ∃ v, Ru.vld t.data.toList = v := ⟨_, rfl⟩
        have hm : mayR ⟨2, n, t⟩ = (n == 0 && vd && decide (t.size ≤ 200)) := by unfold mayR; simp [hvd]
        have hval := fun W => valid_is t W vd hvd
        have HM := Lib.hid hm; clear hm
        have HV := Lib.hid hval; clear hval hvd htl
        by_cases hn : n = 0
        · subst hn
          by_cases hl : t.size ≤ 200
          · go_enter Try.func69, Try.ntmps69
            go_wp2_with fail
            refine (HV.out _).mono ?_
            rintro e w1 ⟨rfl, hb⟩
            have hbw : Below w.heap.size w w1 := (below_one w _).trans (hb.mono (by simp))
            clear hb
            go_wp2
            go_ret
            exact ⟨ret_bool (by rw [HM.out]; simp [hl]), hbw⟩
          · go_enter Try.func69, Try.ntmps69
            go_wp2
            go_ret
            exact ⟨ret_bool (by rw [HM.out]; simp [hl]), below_one _ _⟩
        · have hn2 : (n == 0) = false := by rw [beq_eq_false_iff_ne]; exact hn
          have HN := Lib.hid hn; clear hn
          go_enter Try.func69, Try.ntmps69
          go_wp2
          go_ret
          exact ⟨ret_bool (by rw [HM.out]; simp [HN.out]), below_one _ _⟩
      · have k0 : (k == 0) = false := by rw [beq_eq_false_iff_ne]; exact h0
        have k1 : (k == 1) = false := by rw [beq_eq_false_iff_ne]; exact h1
        have k2 : (k == 2) = false := by rw [beq_eq_false_iff_ne]; exact h2
        have hm : mayR ⟨k, n, t⟩ = false := by unfold mayR; simp [h0, h1, h2]
        have HM := Lib.hid hm; clear hm h0 h1 h2
        go_enter Try.func69, Try.ntmps69
        go_wp2
        go_ret
        exact ⟨ret_bool HM.out.symm, below_one _ _⟩
end Go.Proofs.Ytegkhkcnoahhdaa
/-
  Package value's Of makes the value that a raw one tells of, or says that there is none.
  A text has at most 1,000,000 bytes.
-/
namespace Go.Proofs.Ytegkhkcnoahhdaa
open Go.RowKit
set_option maxRecDepth 100000

/-- a value: none, a number, a text -/
inductive Va where
  | none : Va
  | num : Int → Va
  | txt : ByteArray → Va
  deriving DecidableEq
def Va.val : Va → Value
  | .none => .agg #[.nilIface]
  | .num n => .agg #[.iface 97 (.int .i64 n)]
  | .txt s => .agg #[.iface 99 (.string s)]
def Va.raw : Va → Raw
  | .none => ⟨0, 0, ⟨#[]⟩⟩
  | .num n => ⟨1, n, ⟨#[]⟩⟩
  | .txt s => ⟨2, 0, s⟩
/-- the value that r tells of -/
def vaOf (r : Raw) : Va := if mayR r then (if r.kind = 1 then .num r.n else if r.kind = 2 then .txt r.s else .none) else .none
def okE (b : Bool) : Int := if b then 0 else 1
def VaE (v : Va) (x : Int) (w : World) (e : Ending) (w' : World) : Prop := e = .returned (.tuple #[v.val, .int .i64 x]) ∧ Below w.heap.size w w'

set_option maxHeartbeats 400000 in
theorem vof_no (k : Int) (n : Int) (t : ByteArray) (w : World) (hs : t.size ≤ 1000000) (hm : mayR ⟨k, n, t⟩ = false) : Calls Try.prog 55 #[(Raw.mk k n t).val] w (VaE Va.none 1 w) := by
  have hmay := fun W => vmay_any ⟨k, n, t⟩ W hs
  rw [hm] at hmay
  unfold Raw.val at hmay
  unfold Raw.val
  have HM := Lib.hid hmay; clear hmay hm
  go_enter Try.func55, Try.ntmps55
  go_wp2_with fail
  refine (HM.out _).mono ?_
  rintro e w1 ⟨rfl, hb⟩
  have c0 : w1.cell? ⟨w.heap.size, 0, none⟩ = some (.int .i64 k) := (hb.cell (p := ⟨w.heap.size, 0, none⟩) (by simp; omega)).trans (by go_simp)
  have c1 : w1.cell? ⟨w.heap.size, 1, none⟩ = some (.int .i64 n) := (hb.cell (p := ⟨w.heap.size, 1, none⟩) (by simp; omega)).trans (by go_simp)
  have c2 : w1.cell? ⟨w.heap.size, 2, none⟩ = some (.string t) := (hb.cell (p := ⟨w.heap.size, 2, none⟩) (by simp; omega)).trans (by go_simp)
  have q0 : w1.cell? ⟨w.heap.size + 1, 0, none⟩ = some .nilIface := (hb.cell (p := ⟨w.heap.size + 1, 0, none⟩) (by simp)).trans (by go_simp)
  have fq : w1.frozen? ⟨w.heap.size + 1, 0, none⟩ = false := (hb.frozen (p := ⟨w.heap.size + 1, 0, none⟩) (by simp)).trans (by go_simp)
  have hbw1 : w.heap.size + 1 < w1.heap.size := by have := hb.size; simp at this; omega
  have hbw : Below w.heap.size w w1 := (below_two w _ _).trans (hb.mono (by simp; omega))
  clear hb
  go_wp2
  exact bodyPost_ret (v := .tuple #[Va.none.val, .int .i64 1]) (by simp [results, Try.results55, go_sem, Va.val, q0]) rfl ⟨rfl, hbw.setCell (by simp) _⟩
set_option maxHeartbeats 400000 in
theorem vof_num (n : Int) (t : ByteArray) (w : World) (hs : t.size ≤ 1000000) (hm : mayR ⟨1, n, t⟩ = true) : Calls Try.prog 55 #[(Raw.mk 1 n t).val] w (VaE (Va.num n) 0 w) := by
  have hmay := fun W => vmay_any ⟨1, n, t⟩ W hs
  rw [hm] at hmay
  unfold Raw.val at hmay
  unfold Raw.val
  have HM := Lib.hid hmay; clear hmay hm
  go_enter Try.func55, Try.ntmps55
  go_wp2_with fail
  refine (HM.out _).mono ?_
  rintro e w1 ⟨rfl, hb⟩
  have c0 : w1.cell? ⟨w.heap.size, 0, none⟩ = some (.int .i64 1) := (hb.cell (p := ⟨w.heap.size, 0, none⟩) (by simp; omega)).trans (by go_simp)
  have c1 : w1.cell? ⟨w.heap.size, 1, none⟩ = some (.int .i64 n) := (hb.cell (p := ⟨w.heap.size, 1, none⟩) (by simp; omega)).trans (by go_simp)
  have c2 : w1.cell? ⟨w.heap.size, 2, none⟩ = some (.string t) := (hb.cell (p := ⟨w.heap.size, 2, none⟩) (by simp; omega)).trans (by go_simp)
  have q0 : w1.cell? ⟨w.heap.size + 1, 0, none⟩ = some .nilIface := (hb.cell (p := ⟨w.heap.size + 1, 0, none⟩) (by simp)).trans (by go_simp)
  have fq : w1.frozen? ⟨w.heap.size + 1, 0, none⟩ = false := (hb.frozen (p := ⟨w.heap.size + 1, 0, none⟩) (by simp)).trans (by go_simp)
  have hbw1 : w.heap.size + 1 < w1.heap.size := by have := hb.size; simp at this; omega
  have hbw : Below w.heap.size w w1 := (below_two w _ _).trans (hb.mono (by simp; omega))
  clear hb
  go_wp2

  exact bodyPost_ret (v := .tuple #[(Va.num n).val, .int .i64 0]) (by simp [results, Try.results55, go_sem, Va.val, q0]) rfl ⟨rfl, hbw.setCell (by simp) _⟩
set_option maxHeartbeats 400000 in
theorem vof_txt (n : Int) (t : ByteArray) (w : World) (hs : t.size ≤ 1000000) (hm : mayR ⟨2, n, t⟩ = true) : Calls Try.prog 55 #[(Raw.mk 2 n t).val] w (VaE (Va.txt t) 0 w) := by
  have hmay := fun W => vmay_any ⟨2, n, t⟩ W hs
  rw [hm] at hmay
  unfold Raw.val at hmay
  unfold Raw.val
  have HM := Lib.hid hmay; clear hmay hm
  go_enter Try.func55, Try.ntmps55
  go_wp2_with fail
  refine (HM.out _).mono ?_
  rintro e w1 ⟨rfl, hb⟩
  have c0 : w1.cell? ⟨w.heap.size, 0, none⟩ = some (.int .i64 2) := (hb.cell (p := ⟨w.heap.size, 0, none⟩) (by simp; omega)).trans (by go_simp)
  have c1 : w1.cell? ⟨w.heap.size, 1, none⟩ = some (.int .i64 n) := (hb.cell (p := ⟨w.heap.size, 1, none⟩) (by simp; omega)).trans (by go_simp)
  have c2 : w1.cell? ⟨w.heap.size, 2, none⟩ = some (.string t) := (hb.cell (p := ⟨w.heap.size, 2, none⟩) (by simp; omega)).trans (by go_simp)
  have q0 : w1.cell? ⟨w.heap.size + 1, 0, none⟩ = some .nilIface := (hb.cell (p := ⟨w.heap.size + 1, 0, none⟩) (by simp)).trans (by go_simp)
  have fq : w1.frozen? ⟨w.heap.size + 1, 0, none⟩ = false := (hb.frozen (p := ⟨w.heap.size + 1, 0, none⟩) (by simp)).trans (by go_simp)
  have hbw1 : w.heap.size + 1 < w1.heap.size := by have := hb.size; simp at this; omega
  have hbw : Below w.heap.size w w1 := (below_two w _ _).trans (hb.mono (by simp; omega))
  clear hb
  go_wp2_with fail
  refine (clone_any t _ (by omega)).mono ?_
  rintro e w2 ⟨rfl, hb⟩
  have q0 := (hb.cell (p := ⟨w.heap.size + 1, 0, none⟩) hbw1).trans q0
  have fq := (hb.frozen (p := ⟨w.heap.size + 1, 0, none⟩) hbw1).trans fq
  have hbw := hbw.trans (hb.mono hbw.size)
  clear hb c0 c1 c2
  go_wp2
  exact bodyPost_ret (v := .tuple #[(Va.txt t).val, .int .i64 0]) (by simp [results, Try.results55, go_sem, Va.val, q0]) rfl ⟨rfl, hbw.setCell (by simp) _⟩
set_option maxHeartbeats 400000 in
theorem vof_none (k : Int) (n : Int) (t : ByteArray) (w : World) (k1 : (k == 1) = false) (k2 : (k == 2) = false) (hs : t.size ≤ 1000000) (hm : mayR ⟨k, n, t⟩ = true) : Calls Try.prog 55 #[(Raw.mk k n t).val] w (VaE Va.none 0 w) := by
  have hmay := fun W => vmay_any ⟨k, n, t⟩ W hs
  rw [hm] at hmay
  unfold Raw.val at hmay
  unfold Raw.val
  have HM := Lib.hid hmay; clear hmay hm
  go_enter Try.func55, Try.ntmps55
  go_wp2_with fail
  refine (HM.out _).mono ?_
  rintro e w1 ⟨rfl, hb⟩
  have c0 : w1.cell? ⟨w.heap.size, 0, none⟩ = some (.int .i64 k) := (hb.cell (p := ⟨w.heap.size, 0, none⟩) (by simp; omega)).trans (by go_simp)
  have c1 : w1.cell? ⟨w.heap.size, 1, none⟩ = some (.int .i64 n) := (hb.cell (p := ⟨w.heap.size, 1, none⟩) (by simp; omega)).trans (by go_simp)
  have c2 : w1.cell? ⟨w.heap.size, 2, none⟩ = some (.string t) := (hb.cell (p := ⟨w.heap.size, 2, none⟩) (by simp; omega)).trans (by go_simp)
  have q0 : w1.cell? ⟨w.heap.size + 1, 0, none⟩ = some .nilIface := (hb.cell (p := ⟨w.heap.size + 1, 0, none⟩) (by simp)).trans (by go_simp)
  have fq : w1.frozen? ⟨w.heap.size + 1, 0, none⟩ = false := (hb.frozen (p := ⟨w.heap.size + 1, 0, none⟩) (by simp)).trans (by go_simp)
  have hbw1 : w.heap.size + 1 < w1.heap.size := by have := hb.size; simp at this; omega
  have hbw : Below w.heap.size w w1 := (below_two w _ _).trans (hb.mono (by simp; omega))
  clear hb
  go_wp2
  exact bodyPost_ret (v := .tuple #[Va.none.val, .int .i64 0]) (by simp [results, Try.results55, go_sem, Va.val, q0]) rfl ⟨rfl, hbw.setCell (by simp) _⟩
theorem vof_any (r : Raw) (w : World) (hs : r.s.size ≤ 1000000) : Calls Try.prog 55 #[r.val] w (VaE (vaOf r) (okE (mayR r)) w) := by
  obtain ⟨k, n, t⟩ := r
  simp only at hs
  unfold vaOf
  cases hm : mayR ⟨k, n, t⟩
  · exact vof_no k n t w hs hm
  · simp only [if_true]
    by_cases h1 : k = 1
    · subst h1; exact vof_num n t w hs hm
    · by_cases h2 : k = 2
      · subst h2; exact vof_txt n t w hs hm
      · rw [if_neg h1, if_neg h2]; exact vof_none k n t w (by rw [beq_eq_false_iff_ne]; exact h1) (by rw [beq_eq_false_iff_ne]; exact h2) hs hm
end Go.Proofs.Ytegkhkcnoahhdaa
