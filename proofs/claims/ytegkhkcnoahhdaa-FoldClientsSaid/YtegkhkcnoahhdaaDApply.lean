/-
  A document's New and Copy: an empty document in new memory; one with the same rows in new memory.
  The document copied is a good one.
-/
import Derived.Test.YtegkhkcnoahhdaaDSet
import Derived.Test.YtegkhkcnoahhdaaDOps
import Derived.Deep.MidRow
set_option linter.unusedSimpArgs false
set_option linter.unusedVariables false
namespace Go.Proofs.Ytegkhkcnoahhdaa
open Go.RowKit Go.Lib
set_option maxRecDepth 100000

theorem dnew_any (w : World) : Calls Try.prog 81 #[] w fun e w' => e = .returned (.pointer (some ⟨w.heap.size, 0, none⟩)) ∧ w' = w.alloc (.cells #[.slice none 0 0] 59) := by
  go_enter Try.func81, Try.ntmps81
  go_wp2
  go_ret
  exact ⟨rfl, rfl⟩
set_option maxHeartbeats 1000000 in
theorem dcopy_any (B g : Nat) (l : List Par) (w : World) (h : DocR w B g l) (hB : B ≤ w.heap.size) (hl : l.length ≤ 1000) :
    Calls Try.prog 27 #[.pointer (some ⟨g, 0, none⟩)] w fun e w' => ∃ g' v', e = .returned (.pointer (some ⟨g', 0, none⟩)) ∧ DocO w' w.heap.size g' v' l ∧ Below w.heap.size w w' := by
  obtain ⟨hgB, v, hv, hr⟩ := h
  have hb := Below.refl w.heap.size w
  have HR := Lib.hid hr; clear hr
  go_enter Try.func27, Try.ntmps27
  go_wp2_with fail
  refine (dclone_any B v l w HR.out hB hl).mono ?_
  rintro e k1 ⟨v', rfl, hown, hb1⟩
  obtain ⟨A, m, c, rfl⟩ := own_slice3 hown
  have OWN := Lib.hid hown; clear hown
  go_wp2
  go_ret
  exact ⟨k1.heap.size, _, rfl, ⟨hb1.size, heap_alloc_new _ _, OWN.out.alloc _⟩, hb1.alloc hb1.size _⟩
theorem dcopy_nil (w : World) : Calls Try.prog 27 #[.pointer none] w fun e w' => e = .returned (.pointer none) ∧ w' = w := by
  go_enter Try.func27, Try.ntmps27
  go_wp2
  go_ret
  exact ⟨rfl, rfl⟩
end Go.Proofs.Ytegkhkcnoahhdaa
/-
  Package doc's add: a number that is so much more, within its range, or an error.
  The value may be; what is added is at most 2^40 from 0.
-/
namespace Go.Proofs.Ytegkhkcnoahhdaa
open Go.RowKit
set_option maxRecDepth 100000

theorem dinRange_any (n : Int) (w : World) : Calls Try.prog 75 #[.int .i64 n] w (Bl (!farB n) w) := by
  by_cases h1 : -4611686018427387904 ≤ n
  · by_cases h2 : n ≤ 4611686018427387904
    · go_enter Try.func75, Try.ntmps75
      go_wp2
      go_ret
      exact ⟨ret_bool (by unfold farB; rw [decide_eq_false (by omega), decide_eq_false (by omega)]; simp), Below.refl _ _⟩
    · go_enter Try.func75, Try.ntmps75
      go_wp2
      go_ret
      exact ⟨ret_bool (by unfold farB; rw [decide_eq_false (by omega), decide_eq_true (p := 4611686018427387904 < n) (by omega)]; simp), Below.refl _ _⟩
  · go_enter Try.func75, Try.ntmps75
    go_wp2
    go_ret
    exact ⟨ret_bool (by unfold farB; rw [decide_eq_true (p := n < -4611686018427387904) (by omega)]; simp), Below.refl _ _⟩
theorem dinRange_is (n : Int) (b : Bool) (w : World) (h : (!farB n) = b) : Calls Try.prog 75 #[.int .i64 n] w (Bl b w) := by
  rw [← h]; exact dinRange_any n w
def addErr (r : Raw) (n : Int) : Nat := if r.kind = 2 then 7 else if farB r.n = true ∨ farB (r.n + n) = true then 4 else 0
def addVal (r : Raw) (n : Int) : Value := if addErr r n = 0 then (vaOf ⟨1, r.n + n, ⟨#[]⟩⟩).ins else .nilIface
def AddR (r : Raw) (n : Int) (w : World) (e : Ending) (w' : World) : Prop := e = .returned (.tuple #[.agg #[addVal r n], .int .i64 (addErr r n : Nat)]) ∧ Below w.heap.size w w'
set_option maxHeartbeats 1000000 in
theorem dadd_any (r : Raw) (x : Value) (n : Int) (w : World) (hx : (vaOf r).ins = x) (hm : mayR r = true) (h1 : -1099511627776 ≤ n) (h2 : n ≤ 1099511627776) :
    Calls Try.prog 56 #[.agg #[x], .int .i64 n] w (AddR r n w) := by
  obtain ⟨rk, rn, rs⟩ := r
  obtain ⟨v, x', b, hv, hx', hr, hi, hb1, hk1, hl⟩ := va_good rk rn rs hm
  rw [hv] at hx
  rw [hx] at hx'
  subst hx'
  have HKD := Lib.hid (fun W => vkind_is (.agg #[x]) v rk W (by rw [hx]) (by rw [hr]))
  have HAI := Lib.hid (fun W => vasInt_is (.agg #[x]) v rn b W (by rw [hx]) hi hb1)
  have hst := fun a m W => ins_store v x hx a m W
  have hb := Below.refl w.heap.size w
  clear hm hv hx hr hi hb1 hk1 hl
  by_cases hk2 : rk = 2
  · subst hk2
    have HE : Hid (addErr ⟨2, rn, rs⟩ n = 7) := Lib.hid (by unfold addErr; simp)
    go_enter Try.func56, Try.ntmps56
    go_wp2_with fail
    refine (HKD.out _).mono ?_
    rintro e k1 ⟨rfl, h⟩
    have hk : Below w.heap.size w k1 := by
      refine Below.trans ?_ (h.mono (by first | (simp; done) | (simp; omega) | omega))
      repeat' (first | with_reducible exact Below.refl _ _ | (with_reducible refine Below.alloc ?_ ?_ _) | (with_reducible refine Below.setCell ?_ ?_ _) | exact (by first | (simp; done) | (simp; omega) | omega))
    have hz := h.size
    try simp at hz
    have q0 : k1.cell? ⟨w.heap.size, 0, none⟩ = some (x) := (h.cell (p := ⟨w.heap.size, 0, none⟩) (by first | (simp; done) | (simp; omega) | omega)).trans (by go_simp)
    have q1 : k1.cell? ⟨w.heap.size + 1, 0, none⟩ = some (.nilIface) := (h.cell (p := ⟨w.heap.size + 1, 0, none⟩) (by first | (simp; done) | (simp; omega) | omega)).trans (by go_simp)
    have f1 : k1.frozen? ⟨w.heap.size + 1, 0, none⟩ = false := (h.frozen (p := ⟨w.heap.size + 1, 0, none⟩) (by first | (simp; done) | (simp; omega) | omega)).trans (by go_simp)
    replace hb : Below w.heap.size w k1 := hb.trans (hk.mono hb.size)
    have lt0 : w.heap.size < k1.heap.size := (by first | (simp; done) | (simp; omega) | omega)
    have lt1 : w.heap.size + 1 < k1.heap.size := (by first | (simp; done) | (simp; omega) | omega)
    clear h hk
    go_wp2
    refine bodyPost_ret (v := .tuple #[.agg #[.nilIface], .int .i64 7]) (by simp [results, Try.results56, go_sem, q1, q0]) rfl ⟨?_, ?_⟩
    · unfold addVal; rw [HE.out]; rfl
    · repeat' (first | with_reducible exact hb | (with_reducible refine Below.alloc ?_ ?_ _) | (with_reducible refine Below.setCell ?_ ?_ _) | exact (by first | (simp; done) | (simp; omega) | omega))
  · have hk2b : (rk == 2) = false := by rw [beq_eq_false_iff_ne]; exact hk2
    have HK2 := Lib.hid hk2
    clear hk2
    go_enter Try.func56, Try.ntmps56
    go_wp2_with fail
    refine (HKD.out _).mono ?_
    rintro e k1 ⟨rfl, h⟩
    have hk : Below w.heap.size w k1 := by
      refine Below.trans ?_ (h.mono (by first | (simp; done) | (simp; omega) | omega))
      repeat' (first | with_reducible exact Below.refl _ _ | (with_reducible refine Below.alloc ?_ ?_ _) | (with_reducible refine Below.setCell ?_ ?_ _) | exact (by first | (simp; done) | (simp; omega) | omega))
    have hz := h.size
    try simp at hz
    have q0 : k1.cell? ⟨w.heap.size, 0, none⟩ = some (x) := (h.cell (p := ⟨w.heap.size, 0, none⟩) (by first | (simp; done) | (simp; omega) | omega)).trans (by go_simp)
    have q1 : k1.cell? ⟨w.heap.size + 1, 0, none⟩ = some (.nilIface) := (h.cell (p := ⟨w.heap.size + 1, 0, none⟩) (by first | (simp; done) | (simp; omega) | omega)).trans (by go_simp)
    have f1 : k1.frozen? ⟨w.heap.size + 1, 0, none⟩ = false := (h.frozen (p := ⟨w.heap.size + 1, 0, none⟩) (by first | (simp; done) | (simp; omega) | omega)).trans (by go_simp)
    replace hb : Below w.heap.size w k1 := hb.trans (hk.mono hb.size)
    have lt0 : w.heap.size < k1.heap.size := (by first | (simp; done) | (simp; omega) | omega)
    have lt1 : w.heap.size + 1 < k1.heap.size := (by first | (simp; done) | (simp; omega) | omega)
    clear h hk
    go_wp2_with fail
    refine (HAI.out _).mono ?_
    rintro e k2 ⟨rfl, h⟩
    have hk : Below k1.heap.size k1 k2 := by
      refine Below.trans ?_ (h.mono (by first | (simp; done) | (simp; omega) | omega))
      repeat' (first | with_reducible exact Below.refl _ _ | (with_reducible refine Below.alloc ?_ ?_ _) | (with_reducible refine Below.setCell ?_ ?_ _) | exact (by first | (simp; done) | (simp; omega) | omega))
    have hz := h.size
    try simp at hz
    replace q0 : k2.cell? ⟨w.heap.size, 0, none⟩ = some (x) := (hk.cell (p := ⟨w.heap.size, 0, none⟩) (by first | (simp; done) | (simp; omega) | omega)).trans q0
    replace q1 : k2.cell? ⟨w.heap.size + 1, 0, none⟩ = some (.nilIface) := (hk.cell (p := ⟨w.heap.size + 1, 0, none⟩) (by first | (simp; done) | (simp; omega) | omega)).trans q1
    replace f1 : k2.frozen? ⟨w.heap.size + 1, 0, none⟩ = false := (hk.frozen (p := ⟨w.heap.size + 1, 0, none⟩) (by first | (simp; done) | (simp; omega) | omega)).trans f1
    replace hb : Below w.heap.size w k2 := hb.trans (hk.mono hb.size)
    have lt0 : w.heap.size < k2.heap.size := (by first | (simp; done) | (simp; omega) | omega)
    have lt1 : w.heap.size + 1 < k2.heap.size := (by first | (simp; done) | (simp; omega) | omega)
    clear h hk
    cases hfa : farB rn with
    | true =>
      have HE : Hid (addErr ⟨rk, rn, rs⟩ n = 4) := Lib.hid (by unfold addErr; simp [HK2.out, hfa])
      have HFA := Lib.hid hfa; clear hfa
      go_wp2_with fail
      refine (dinRange_is rn false _ (by rw [HFA.out]; rfl)).mono ?_
      rintro e k3 ⟨rfl, h⟩
      have hk : Below k2.heap.size k2 k3 := by
        refine Below.trans ?_ (h.mono (by first | (simp; done) | (simp; omega) | omega))
        repeat' (first | with_reducible exact Below.refl _ _ | (with_reducible refine Below.alloc ?_ ?_ _) | (with_reducible refine Below.setCell ?_ ?_ _) | exact (by first | (simp; done) | (simp; omega) | omega))
      have hz := h.size
      try simp at hz
      replace q0 : k3.cell? ⟨w.heap.size, 0, none⟩ = some (x) := (hk.cell (p := ⟨w.heap.size, 0, none⟩) (by first | (simp; done) | (simp; omega) | omega)).trans q0
      replace q1 : k3.cell? ⟨w.heap.size + 1, 0, none⟩ = some (.nilIface) := (hk.cell (p := ⟨w.heap.size + 1, 0, none⟩) (by first | (simp; done) | (simp; omega) | omega)).trans q1
      replace f1 : k3.frozen? ⟨w.heap.size + 1, 0, none⟩ = false := (hk.frozen (p := ⟨w.heap.size + 1, 0, none⟩) (by first | (simp; done) | (simp; omega) | omega)).trans f1
      replace hb : Below w.heap.size w k3 := hb.trans (hk.mono hb.size)
      have lt0 : w.heap.size < k3.heap.size := (by first | (simp; done) | (simp; omega) | omega)
      have lt1 : w.heap.size + 1 < k3.heap.size := (by first | (simp; done) | (simp; omega) | omega)
      clear h hk
      go_wp2
      refine bodyPost_ret (v := .tuple #[.agg #[.nilIface], .int .i64 4]) (by simp [results, Try.results56, go_sem, q1, q0]) rfl ⟨?_, ?_⟩
      · unfold addVal; rw [HE.out]; rfl
      · repeat' (first | with_reducible exact hb | (with_reducible refine Below.alloc ?_ ?_ _) | (with_reducible refine Below.setCell ?_ ?_ _) | exact (by first | (simp; done) | (simp; omega) | omega))
    | false =>
      have hin := farB_in hfa
      have hw1 : IntKind.i64.wrap (rn + n) = rn + n := by rw [IntKind.wrap_i64]; omega
      have HFA := Lib.hid hfa; clear hfa
      go_wp2_with fail
      refine (dinRange_is rn true _ (by rw [HFA.out]; rfl)).mono ?_
      rintro e k3 ⟨rfl, h⟩
      have hk : Below k2.heap.size k2 k3 := by
        refine Below.trans ?_ (h.mono (by first | (simp; done) | (simp; omega) | omega))
        repeat' (first | with_reducible exact Below.refl _ _ | (with_reducible refine Below.alloc ?_ ?_ _) | (with_reducible refine Below.setCell ?_ ?_ _) | exact (by first | (simp; done) | (simp; omega) | omega))
      have hz := h.size
      try simp at hz
      replace q0 : k3.cell? ⟨w.heap.size, 0, none⟩ = some (x) := (hk.cell (p := ⟨w.heap.size, 0, none⟩) (by first | (simp; done) | (simp; omega) | omega)).trans q0
      replace q1 : k3.cell? ⟨w.heap.size + 1, 0, none⟩ = some (.nilIface) := (hk.cell (p := ⟨w.heap.size + 1, 0, none⟩) (by first | (simp; done) | (simp; omega) | omega)).trans q1
      replace f1 : k3.frozen? ⟨w.heap.size + 1, 0, none⟩ = false := (hk.frozen (p := ⟨w.heap.size + 1, 0, none⟩) (by first | (simp; done) | (simp; omega) | omega)).trans f1
      replace hb : Below w.heap.size w k3 := hb.trans (hk.mono hb.size)
      have lt0 : w.heap.size < k3.heap.size := (by first | (simp; done) | (simp; omega) | omega)
      have lt1 : w.heap.size + 1 < k3.heap.size := (by first | (simp; done) | (simp; omega) | omega)
      clear h hk
      cases hfb : farB (rn + n) with
      | true =>
        have HE : Hid (addErr ⟨rk, rn, rs⟩ n = 4) := Lib.hid (by unfold addErr; simp [HK2.out, hfb])
        have HFB := Lib.hid hfb; clear hfb
        go_wp2_with fail
        refine (dinRange_is (rn + n) false _ (by rw [HFB.out]; rfl)).mono ?_
        rintro e k4 ⟨rfl, h⟩
        have hk : Below k3.heap.size k3 k4 := by
          refine Below.trans ?_ (h.mono (by first | (simp; done) | (simp; omega) | omega))
          repeat' (first | with_reducible exact Below.refl _ _ | (with_reducible refine Below.alloc ?_ ?_ _) | (with_reducible refine Below.setCell ?_ ?_ _) | exact (by first | (simp; done) | (simp; omega) | omega))
        have hz := h.size
        try simp at hz
        replace q0 : k4.cell? ⟨w.heap.size, 0, none⟩ = some (x) := (hk.cell (p := ⟨w.heap.size, 0, none⟩) (by first | (simp; done) | (simp; omega) | omega)).trans q0
        replace q1 : k4.cell? ⟨w.heap.size + 1, 0, none⟩ = some (.nilIface) := (hk.cell (p := ⟨w.heap.size + 1, 0, none⟩) (by first | (simp; done) | (simp; omega) | omega)).trans q1
        replace f1 : k4.frozen? ⟨w.heap.size + 1, 0, none⟩ = false := (hk.frozen (p := ⟨w.heap.size + 1, 0, none⟩) (by first | (simp; done) | (simp; omega) | omega)).trans f1
        replace hb : Below w.heap.size w k4 := hb.trans (hk.mono hb.size)
        have lt0 : w.heap.size < k4.heap.size := (by first | (simp; done) | (simp; omega) | omega)
        have lt1 : w.heap.size + 1 < k4.heap.size := (by first | (simp; done) | (simp; omega) | omega)
        clear h hk
        go_wp2
        refine bodyPost_ret (v := .tuple #[.agg #[.nilIface], .int .i64 4]) (by simp [results, Try.results56, go_sem, q1, q0]) rfl ⟨?_, ?_⟩
        · unfold addVal; rw [HE.out]; rfl
        · repeat' (first | with_reducible exact hb | (with_reducible refine Below.alloc ?_ ?_ _) | (with_reducible refine Below.setCell ?_ ?_ _) | exact (by first | (simp; done) | (simp; omega) | omega))
      | false =>
        have HE : Hid (addErr ⟨rk, rn, rs⟩ n = 0) := Lib.hid (by unfold addErr; simp [HK2.out, HFA.out, hfb])
        have HFB := Lib.hid hfb; clear hfb
        obtain ⟨Y, hY⟩ : ∃ Y, (vaOf ⟨1, rn + n, ⟨#[]⟩⟩).ins = Y := ⟨_, rfl⟩
        have hst2 := fun a m W => ins_store _ Y hY a m W
        have HY := Lib.hid hY; clear hY
        go_wp2_with fail
        refine (dinRange_is (rn + n) true _ (by rw [HFB.out]; rfl)).mono ?_
        rintro e k4 ⟨rfl, h⟩
        have hk : Below k3.heap.size k3 k4 := by
          refine Below.trans ?_ (h.mono (by first | (simp; done) | (simp; omega) | omega))
          repeat' (first | with_reducible exact Below.refl _ _ | (with_reducible refine Below.alloc ?_ ?_ _) | (with_reducible refine Below.setCell ?_ ?_ _) | exact (by first | (simp; done) | (simp; omega) | omega))
        have hz := h.size
        try simp at hz
        replace q0 : k4.cell? ⟨w.heap.size, 0, none⟩ = some (x) := (hk.cell (p := ⟨w.heap.size, 0, none⟩) (by first | (simp; done) | (simp; omega) | omega)).trans q0
        replace q1 : k4.cell? ⟨w.heap.size + 1, 0, none⟩ = some (.nilIface) := (hk.cell (p := ⟨w.heap.size + 1, 0, none⟩) (by first | (simp; done) | (simp; omega) | omega)).trans q1
        replace f1 : k4.frozen? ⟨w.heap.size + 1, 0, none⟩ = false := (hk.frozen (p := ⟨w.heap.size + 1, 0, none⟩) (by first | (simp; done) | (simp; omega) | omega)).trans f1
        replace hb : Below w.heap.size w k4 := hb.trans (hk.mono hb.size)
        have lt0 : w.heap.size < k4.heap.size := (by first | (simp; done) | (simp; omega) | omega)
        have lt1 : w.heap.size + 1 < k4.heap.size := (by first | (simp; done) | (simp; omega) | omega)
        clear h hk
        go_wp2_with fail
        refine (vof_is _ ⟨1, rn + n, ⟨#[]⟩⟩ _ Y 0 _ rfl (by show (⟨#[]⟩ : ByteArray).size ≤ 1000000; decide) rfl HY.out (by rfl)).mono ?_
        rintro e k5 ⟨rfl, h⟩
        have hk : Below k4.heap.size k4 k5 := by
          refine Below.trans ?_ (h.mono (by first | (simp; done) | (simp; omega) | omega))
          repeat' (first | with_reducible exact Below.refl _ _ | (with_reducible refine Below.alloc ?_ ?_ _) | (with_reducible refine Below.setCell ?_ ?_ _) | exact (by first | (simp; done) | (simp; omega) | omega))
        have hz := h.size
        try simp at hz
        replace q0 : k5.cell? ⟨w.heap.size, 0, none⟩ = some (x) := (hk.cell (p := ⟨w.heap.size, 0, none⟩) (by first | (simp; done) | (simp; omega) | omega)).trans q0
        replace q1 : k5.cell? ⟨w.heap.size + 1, 0, none⟩ = some (.nilIface) := (hk.cell (p := ⟨w.heap.size + 1, 0, none⟩) (by first | (simp; done) | (simp; omega) | omega)).trans q1
        replace f1 : k5.frozen? ⟨w.heap.size + 1, 0, none⟩ = false := (hk.frozen (p := ⟨w.heap.size + 1, 0, none⟩) (by first | (simp; done) | (simp; omega) | omega)).trans f1
        replace hb : Below w.heap.size w k5 := hb.trans (hk.mono hb.size)
        have lt0 : w.heap.size < k5.heap.size := (by first | (simp; done) | (simp; omega) | omega)
        have lt1 : w.heap.size + 1 < k5.heap.size := (by first | (simp; done) | (simp; omega) | omega)
        clear h hk
        go_wp2
        refine bodyPost_ret (v := .tuple #[.agg #[Y], .int .i64 0]) (by simp [results, Try.results56, go_sem, q1, q0]) rfl ⟨?_, ?_⟩
        · unfold addVal; rw [HE.out, ← HY.out]; rfl
        · repeat' (first | with_reducible exact hb | (with_reducible refine Below.alloc ?_ ?_ _) | (with_reducible refine Below.setCell ?_ ?_ _) | exact (by first | (simp; done) | (simp; omega) | omega))
end Go.Proofs.Ytegkhkcnoahhdaa
/-
  A document's do: one operation, as the plain function says, or its error.
  The document is a good one, in memory of its own; the operation's integers are in their ranges.
-/
namespace Go.Proofs.Ytegkhkcnoahhdaa
open Go.RowKit Go.Lib
set_option maxRecDepth 100000

theorem eqV_eq {a b : Va} (h : eqV a b = true) : a = b := by
  cases a <;> cases b <;> simp only [eqV, Bool.false_eq_true] at h
  · rfl
  · rw [eq_of_beq h]
  · rename_i t u
    by_cases hh : t = u
    · rw [hh]
    · have h2 := eqV_txt hh
      exact absurd (h2.symm.trans (show eqV (.txt t) (.txt u) = true from h)) (by decide)
theorem eqV_of {a b : Raw} (ha : mayR a = true) (hb : mayR b = true) : eqV (vaOf a) (vaOf b) = eqR a b := by
  cases h : eqR a b with
  | true => rw [eqR_eq h]; exact eqV_self _
  | false =>
    cases h2 : eqV (vaOf a) (vaOf b) with
    | false => rfl
    | true =>
      have h3 := (va_back ha).1
      rw [eqV_eq h2, (va_back hb).1] at h3
      rw [h3, eqR_rfl] at h; cases h
/-- what do answers, and what is there behind it -/
def DoR (B g : Nat) (l : List Par) (o : Opn) (w : World) (e : Ending) (w' : World) : Prop :=
  e = .returned (.int .i64 (opErr l o : Nat)) ∧ (opErr l o = 0 → ∃ v', DocO w' B g v' (opDo l o)) ∧ Below B w w'
theorem set_do {B g : Nat} {l : List Par} {o : Opn} {w k : World} {e : Ending} {w' : World} (h : SetR B g l o.key (apV (dGet l o.key).1 o) k e w') (hb : Below w.heap.size w k) (hB : B ≤ w.heap.size)
    (hs : Srt l) (h1 : mayO o = true) (h3 : ¬ (o.kind = 3 ∧ eqR (dGet l o.key).1 o.old = false)) (h7 : ¬ (o.kind = 4 ∧ (dGet l o.key).2 = true ∧ (dGet l o.key).1.kind ≠ 1))
    (h4 : ¬ (o.kind = 4 ∧ (farB (dGet l o.key).1.n = true ∨ farB ((dGet l o.key).1.n + o.n) = true))) : DoR B g l o w e w' := by
  obtain ⟨c, v', rfl, hc, hb2⟩ := h
  have hth := dGet_there hs o.key
  have he : opErr l o = if (apV (dGet l o.key).1 o).kind ≠ 0 ∧ hasK l o.key = false ∧ 50 ≤ l.length then 6 else 0 := by
    unfold opErr
    rw [if_neg (by rw [h1]; decide), if_neg h3, if_neg h7, if_neg h4, hth]
  rcases hc with ⟨rfl, hc⟩ | ⟨rfl, hc, hd⟩
  · rw [if_pos hc] at he
    exact ⟨by rw [he], fun h => by omega, (hb.mono hB).trans hb2⟩
  · rw [if_neg hc] at he
    exact ⟨by rw [he], fun _ => ⟨v', hd⟩, (hb.mono hB).trans hb2⟩
set_option maxHeartbeats 1000000 in
theorem ddo_any (B g : Nat) (v : Value) (l : List Par) (o : Opn) (w : World) (h : DocO w B g v l) (hg : Gd l) (hok : o.ok) :
    Calls Try.prog 37 #[.pointer (some ⟨g, 0, none⟩), .agg o.cs.toArray] w (DoR B g l o w) := by
  have hgot := hg.got o.key
  obtain ⟨gr, hgr⟩ : ∃ gr, dGet l o.key = gr := ⟨_, rfl⟩
  have hset := fun x vi k W hb hx hm hk hks => dset_any B g v l o.key x vi k W (h.below hb) hg hks hx hm hk
  have hsd := fun (k : World) (e : Ending) (w' : World) h1 h2 => @set_do B g l o w k e w' h1 h2 (Nat.le_trans h.lo (Nat.le_of_lt h.lt)) hg.srt
  have hBw : B ≤ w.heap.size := Nat.le_trans h.lo (Nat.le_of_lt h.lt)
  have hval := fun W (hb : Below w.heap.size w W) hks x hx => dvalue_any w.heap.size g l o.key x W (h.docR.keep hb (Nat.le_refl _)) hb.size hg hks hx
  have hdo : ∀ k w', opErr l o = k → k ≠ 0 → Below w.heap.size w w' → DoR B g l o w (.returned (.int .i64 (k : Nat))) w' := fun k w' h1 h2 h3 => ⟨by rw [h1], fun h => absurd (h1.symm.trans h) h2, h3.mono hBw⟩
  have herr : opErr l o = opErr l o := rfl
  unfold opErr at herr
  rw [hgr] at hgot hval
  obtain ⟨⟨gk, gn, gs⟩, gb⟩ := gr
  obtain ⟨hgm, hgk, hgok⟩ := hgot
  simp only at hgm hgk hgok hval
  obtain ⟨va, xa, ba, hva, hxa, hra, hia, hba, hka, hla⟩ := va_good gk gn gs hgm
  obtain ⟨k, key, ⟨vk, vn, vs⟩, ⟨ok, on, os⟩, n⟩ := o
  obtain ⟨hok1, hok2, hok3, hok4, hok5⟩ := hok
  simp only at hok1 hok2 hok3 hok4 hok5 hgr
  have hb := Below.refl w.heap.size w
  have hstA := fun a m W => ins_store va xa hxa a m W
  have HS := Lib.hid hset; clear hset
  have HSD := Lib.hid hsd; clear hsd
  have HV := Lib.hid (hval · · (Nat.le_trans hok2 (by decide)) xa (by rw [hva]; exact hxa)); clear hval
  have HD := Lib.hid hdo; clear hdo
  have HG := Lib.hid hg; clear hg
  have HH := Lib.hid h; clear h
  have HGR := Lib.hid hgr; clear hgr
  clear herr
  show Calls Try.prog 37 #[.pointer (some ⟨g, 0, none⟩), .agg #[.int .i64 k, .string key, .int .i64 vk, .int .i64 vn, .string vs, .int .i64 ok, .int .i64 on, .string os, .int .i64 n]] w _
  cases hm : mayO ⟨k, key, ⟨vk, vn, vs⟩, ⟨ok, on, os⟩, n⟩ with
  | false =>
    have HM := Lib.hid hm; clear hm
    go_enter Try.func37, Try.ntmps37
    go_wp2_with fail
    refine (omay_is _ ⟨k, key, ⟨vk, vn, vs⟩, ⟨ok, on, os⟩, n⟩ false _ rfl ⟨hok2, hok3.2.2, hok4.2.2⟩ HM.out).mono ?_
    rintro e k1 ⟨rfl, h⟩
    have hk : Below w.heap.size w k1 := by
      refine Below.trans ?_ (h.mono (by first | (simp; done) | (simp; omega) | omega))
      repeat' (first | with_reducible exact Below.refl _ _ | (with_reducible refine Below.alloc ?_ ?_ _) | (with_reducible refine Below.setCell ?_ ?_ _) | exact (by first | (simp; done) | (simp; omega) | omega))
    have hz := h.size
    try simp at hz
    have o0 : k1.cell? ⟨w.heap.size, 0, none⟩ = some (.int .i64 k) := (h.cell (p := ⟨w.heap.size, 0, none⟩) (by first | (simp; done) | (simp; omega) | omega)).trans (by go_simp)
    have o1 : k1.cell? ⟨w.heap.size, 1, none⟩ = some (.string key) := (h.cell (p := ⟨w.heap.size, 1, none⟩) (by first | (simp; done) | (simp; omega) | omega)).trans (by go_simp)
    have o2 : k1.cell? ⟨w.heap.size, 2, none⟩ = some (.int .i64 vk) := (h.cell (p := ⟨w.heap.size, 2, none⟩) (by first | (simp; done) | (simp; omega) | omega)).trans (by go_simp)
    have o3 : k1.cell? ⟨w.heap.size, 3, none⟩ = some (.int .i64 vn) := (h.cell (p := ⟨w.heap.size, 3, none⟩) (by first | (simp; done) | (simp; omega) | omega)).trans (by go_simp)
    have o4 : k1.cell? ⟨w.heap.size, 4, none⟩ = some (.string vs) := (h.cell (p := ⟨w.heap.size, 4, none⟩) (by first | (simp; done) | (simp; omega) | omega)).trans (by go_simp)
    have o5 : k1.cell? ⟨w.heap.size, 5, none⟩ = some (.int .i64 ok) := (h.cell (p := ⟨w.heap.size, 5, none⟩) (by first | (simp; done) | (simp; omega) | omega)).trans (by go_simp)
    have o6 : k1.cell? ⟨w.heap.size, 6, none⟩ = some (.int .i64 on) := (h.cell (p := ⟨w.heap.size, 6, none⟩) (by first | (simp; done) | (simp; omega) | omega)).trans (by go_simp)
    have o7 : k1.cell? ⟨w.heap.size, 7, none⟩ = some (.string os) := (h.cell (p := ⟨w.heap.size, 7, none⟩) (by first | (simp; done) | (simp; omega) | omega)).trans (by go_simp)
    have o8 : k1.cell? ⟨w.heap.size, 8, none⟩ = some (.int .i64 n) := (h.cell (p := ⟨w.heap.size, 8, none⟩) (by first | (simp; done) | (simp; omega) | omega)).trans (by go_simp)
    replace hb : Below w.heap.size w k1 := hb.trans (hk.mono hb.size)
    have lt0 : w.heap.size < k1.heap.size := (by first | (simp; done) | (simp; omega) | omega)
    clear h hk
    go_wp2
    go_ret
    exact HD.out 1 _ (by unfold opErr; rw [HM.out]; rfl) (by decide) (by first | exact hb | exact hb.alloc hb.size _)
  | true =>
    obtain ⟨hkey, hmv, hmo, h4n, hkk⟩ := mayO_val hm
    simp only at hkey hmv hmo h4n hkk
    obtain ⟨vv, xv, bv, hvv, hxv, hrv, hiv, hbv, hkv, hlv⟩ := va_good vk vn vs hmv
    obtain ⟨vo, xo, bo, hvo, hxo, hro, hio, hbo, hko, hlo⟩ := va_good ok on os hmo
    have hstV := fun a m W => ins_store vv xv hxv a m W
    have hstO := fun a m W => ins_store vo xo hxo a m W
    have HOV := Lib.hid (fun W => vof_is (.agg #[.int .i64 vk, .int .i64 vn, .string vs]) ⟨vk, vn, vs⟩ vv xv 0 W rfl hok3.2.2 hvv hxv (by rw [hmv]; rfl))
    have HOO := Lib.hid (fun W => vof_is (.agg #[.int .i64 ok, .int .i64 on, .string os]) ⟨ok, on, os⟩ vo xo 0 W rfl hok4.2.2 hvo hxo (by rw [hmo]; rfl))
    by_cases kk3 : k = 3
    · subst kk3
      obtain ⟨q, hq⟩ : ∃ q, eqV va vo = q := ⟨_, rfl⟩
      have hqr : eqR ⟨gk, gn, gs⟩ ⟨ok, on, os⟩ = q := by rw [← hq, ← hva, ← hvo]; exact (eqV_of hgm hmo).symm
      have HQ := Lib.hid hq; clear hq
      have HQR := Lib.hid hqr; clear hqr
      cases q with
      | false =>
        have HM := Lib.hid hm; clear hm
        go_enter Try.func37, Try.ntmps37
        go_wp2_with fail
        refine (omay_is _ ⟨3, key, ⟨vk, vn, vs⟩, ⟨ok, on, os⟩, n⟩ true _ rfl ⟨hok2, hok3.2.2, hok4.2.2⟩ HM.out).mono ?_
        rintro e k1 ⟨rfl, h⟩
        have hk : Below w.heap.size w k1 := by
          refine Below.trans ?_ (h.mono (by first | (simp; done) | (simp; omega) | omega))
          repeat' (first | with_reducible exact Below.refl _ _ | (with_reducible refine Below.alloc ?_ ?_ _) | (with_reducible refine Below.setCell ?_ ?_ _) | exact (by first | (simp; done) | (simp; omega) | omega))
        have hz := h.size
        try simp at hz
        have o0 : k1.cell? ⟨w.heap.size, 0, none⟩ = some (.int .i64 3) := (h.cell (p := ⟨w.heap.size, 0, none⟩) (by first | (simp; done) | (simp; omega) | omega)).trans (by go_simp)
        have o1 : k1.cell? ⟨w.heap.size, 1, none⟩ = some (.string key) := (h.cell (p := ⟨w.heap.size, 1, none⟩) (by first | (simp; done) | (simp; omega) | omega)).trans (by go_simp)
        have o2 : k1.cell? ⟨w.heap.size, 2, none⟩ = some (.int .i64 vk) := (h.cell (p := ⟨w.heap.size, 2, none⟩) (by first | (simp; done) | (simp; omega) | omega)).trans (by go_simp)
        have o3 : k1.cell? ⟨w.heap.size, 3, none⟩ = some (.int .i64 vn) := (h.cell (p := ⟨w.heap.size, 3, none⟩) (by first | (simp; done) | (simp; omega) | omega)).trans (by go_simp)
        have o4 : k1.cell? ⟨w.heap.size, 4, none⟩ = some (.string vs) := (h.cell (p := ⟨w.heap.size, 4, none⟩) (by first | (simp; done) | (simp; omega) | omega)).trans (by go_simp)
        have o5 : k1.cell? ⟨w.heap.size, 5, none⟩ = some (.int .i64 ok) := (h.cell (p := ⟨w.heap.size, 5, none⟩) (by first | (simp; done) | (simp; omega) | omega)).trans (by go_simp)
        have o6 : k1.cell? ⟨w.heap.size, 6, none⟩ = some (.int .i64 on) := (h.cell (p := ⟨w.heap.size, 6, none⟩) (by first | (simp; done) | (simp; omega) | omega)).trans (by go_simp)
        have o7 : k1.cell? ⟨w.heap.size, 7, none⟩ = some (.string os) := (h.cell (p := ⟨w.heap.size, 7, none⟩) (by first | (simp; done) | (simp; omega) | omega)).trans (by go_simp)
        have o8 : k1.cell? ⟨w.heap.size, 8, none⟩ = some (.int .i64 n) := (h.cell (p := ⟨w.heap.size, 8, none⟩) (by first | (simp; done) | (simp; omega) | omega)).trans (by go_simp)
        replace hb : Below w.heap.size w k1 := hb.trans (hk.mono hb.size)
        have lt0 : w.heap.size < k1.heap.size := (by first | (simp; done) | (simp; omega) | omega)
        clear h hk
        go_wp2_with fail
        refine (HV.out _ hb).mono ?_
        rintro e k2 ⟨rfl, h⟩
        have hk : Below k1.heap.size k1 k2 := by
          refine Below.trans ?_ (h.mono (by first | (simp; done) | (simp; omega) | omega))
          repeat' (first | with_reducible exact Below.refl _ _ | (with_reducible refine Below.alloc ?_ ?_ _) | (with_reducible refine Below.setCell ?_ ?_ _) | exact (by first | (simp; done) | (simp; omega) | omega))
        have hz := h.size
        try simp at hz
        replace o0 : k2.cell? ⟨w.heap.size, 0, none⟩ = some (.int .i64 3) := (hk.cell (p := ⟨w.heap.size, 0, none⟩) (by first | (simp; done) | (simp; omega) | omega)).trans o0
        replace o1 : k2.cell? ⟨w.heap.size, 1, none⟩ = some (.string key) := (hk.cell (p := ⟨w.heap.size, 1, none⟩) (by first | (simp; done) | (simp; omega) | omega)).trans o1
        replace o2 : k2.cell? ⟨w.heap.size, 2, none⟩ = some (.int .i64 vk) := (hk.cell (p := ⟨w.heap.size, 2, none⟩) (by first | (simp; done) | (simp; omega) | omega)).trans o2
        replace o3 : k2.cell? ⟨w.heap.size, 3, none⟩ = some (.int .i64 vn) := (hk.cell (p := ⟨w.heap.size, 3, none⟩) (by first | (simp; done) | (simp; omega) | omega)).trans o3
        replace o4 : k2.cell? ⟨w.heap.size, 4, none⟩ = some (.string vs) := (hk.cell (p := ⟨w.heap.size, 4, none⟩) (by first | (simp; done) | (simp; omega) | omega)).trans o4
        replace o5 : k2.cell? ⟨w.heap.size, 5, none⟩ = some (.int .i64 ok) := (hk.cell (p := ⟨w.heap.size, 5, none⟩) (by first | (simp; done) | (simp; omega) | omega)).trans o5
        replace o6 : k2.cell? ⟨w.heap.size, 6, none⟩ = some (.int .i64 on) := (hk.cell (p := ⟨w.heap.size, 6, none⟩) (by first | (simp; done) | (simp; omega) | omega)).trans o6
        replace o7 : k2.cell? ⟨w.heap.size, 7, none⟩ = some (.string os) := (hk.cell (p := ⟨w.heap.size, 7, none⟩) (by first | (simp; done) | (simp; omega) | omega)).trans o7
        replace o8 : k2.cell? ⟨w.heap.size, 8, none⟩ = some (.int .i64 n) := (hk.cell (p := ⟨w.heap.size, 8, none⟩) (by first | (simp; done) | (simp; omega) | omega)).trans o8
        replace hb : Below w.heap.size w k2 := hb.trans (hk.mono hb.size)
        have lt0 : w.heap.size < k2.heap.size := (by first | (simp; done) | (simp; omega) | omega)
        clear h hk
        go_wp2_with fail
        refine (HOV.out _).mono ?_
        rintro e k3 ⟨rfl, h⟩
        have hk : Below k2.heap.size k2 k3 := by
          refine Below.trans ?_ (h.mono (by first | (simp; done) | (simp; omega) | omega))
          repeat' (first | with_reducible exact Below.refl _ _ | (with_reducible refine Below.alloc ?_ ?_ _) | (with_reducible refine Below.setCell ?_ ?_ _) | exact (by first | (simp; done) | (simp; omega) | omega))
        have hz := h.size
        try simp at hz
        replace o0 : k3.cell? ⟨w.heap.size, 0, none⟩ = some (.int .i64 3) := (hk.cell (p := ⟨w.heap.size, 0, none⟩) (by first | (simp; done) | (simp; omega) | omega)).trans o0
        replace o1 : k3.cell? ⟨w.heap.size, 1, none⟩ = some (.string key) := (hk.cell (p := ⟨w.heap.size, 1, none⟩) (by first | (simp; done) | (simp; omega) | omega)).trans o1
        replace o2 : k3.cell? ⟨w.heap.size, 2, none⟩ = some (.int .i64 vk) := (hk.cell (p := ⟨w.heap.size, 2, none⟩) (by first | (simp; done) | (simp; omega) | omega)).trans o2
        replace o3 : k3.cell? ⟨w.heap.size, 3, none⟩ = some (.int .i64 vn) := (hk.cell (p := ⟨w.heap.size, 3, none⟩) (by first | (simp; done) | (simp; omega) | omega)).trans o3
        replace o4 : k3.cell? ⟨w.heap.size, 4, none⟩ = some (.string vs) := (hk.cell (p := ⟨w.heap.size, 4, none⟩) (by first | (simp; done) | (simp; omega) | omega)).trans o4
        replace o5 : k3.cell? ⟨w.heap.size, 5, none⟩ = some (.int .i64 ok) := (hk.cell (p := ⟨w.heap.size, 5, none⟩) (by first | (simp; done) | (simp; omega) | omega)).trans o5
        replace o6 : k3.cell? ⟨w.heap.size, 6, none⟩ = some (.int .i64 on) := (hk.cell (p := ⟨w.heap.size, 6, none⟩) (by first | (simp; done) | (simp; omega) | omega)).trans o6
        replace o7 : k3.cell? ⟨w.heap.size, 7, none⟩ = some (.string os) := (hk.cell (p := ⟨w.heap.size, 7, none⟩) (by first | (simp; done) | (simp; omega) | omega)).trans o7
        replace o8 : k3.cell? ⟨w.heap.size, 8, none⟩ = some (.int .i64 n) := (hk.cell (p := ⟨w.heap.size, 8, none⟩) (by first | (simp; done) | (simp; omega) | omega)).trans o8
        have h0 : k3.cell? ⟨k2.heap.size, 0, none⟩ = some (xa) := (h.cell (p := ⟨k2.heap.size, 0, none⟩) (by first | (simp; done) | (simp; omega) | omega)).trans (by go_simp)
        replace hb : Below w.heap.size w k3 := hb.trans (hk.mono hb.size)
        have lt0 : w.heap.size < k3.heap.size := (by first | (simp; done) | (simp; omega) | omega)
        have lt1 : k2.heap.size < k3.heap.size := (by first | (simp; done) | (simp; omega) | omega)
        clear h hk
        go_wp2_with fail
        refine (HOO.out _).mono ?_
        rintro e k4 ⟨rfl, h⟩
        have hk : Below k3.heap.size k3 k4 := by
          refine Below.trans ?_ (h.mono (by first | (simp; done) | (simp; omega) | omega))
          repeat' (first | with_reducible exact Below.refl _ _ | (with_reducible refine Below.alloc ?_ ?_ _) | (with_reducible refine Below.setCell ?_ ?_ _) | exact (by first | (simp; done) | (simp; omega) | omega))
        have hz := h.size
        try simp at hz
        replace o0 : k4.cell? ⟨w.heap.size, 0, none⟩ = some (.int .i64 3) := (hk.cell (p := ⟨w.heap.size, 0, none⟩) (by first | (simp; done) | (simp; omega) | omega)).trans o0
        replace o1 : k4.cell? ⟨w.heap.size, 1, none⟩ = some (.string key) := (hk.cell (p := ⟨w.heap.size, 1, none⟩) (by first | (simp; done) | (simp; omega) | omega)).trans o1
        replace o2 : k4.cell? ⟨w.heap.size, 2, none⟩ = some (.int .i64 vk) := (hk.cell (p := ⟨w.heap.size, 2, none⟩) (by first | (simp; done) | (simp; omega) | omega)).trans o2
        replace o3 : k4.cell? ⟨w.heap.size, 3, none⟩ = some (.int .i64 vn) := (hk.cell (p := ⟨w.heap.size, 3, none⟩) (by first | (simp; done) | (simp; omega) | omega)).trans o3
        replace o4 : k4.cell? ⟨w.heap.size, 4, none⟩ = some (.string vs) := (hk.cell (p := ⟨w.heap.size, 4, none⟩) (by first | (simp; done) | (simp; omega) | omega)).trans o4
        replace o5 : k4.cell? ⟨w.heap.size, 5, none⟩ = some (.int .i64 ok) := (hk.cell (p := ⟨w.heap.size, 5, none⟩) (by first | (simp; done) | (simp; omega) | omega)).trans o5
        replace o6 : k4.cell? ⟨w.heap.size, 6, none⟩ = some (.int .i64 on) := (hk.cell (p := ⟨w.heap.size, 6, none⟩) (by first | (simp; done) | (simp; omega) | omega)).trans o6
        replace o7 : k4.cell? ⟨w.heap.size, 7, none⟩ = some (.string os) := (hk.cell (p := ⟨w.heap.size, 7, none⟩) (by first | (simp; done) | (simp; omega) | omega)).trans o7
        replace o8 : k4.cell? ⟨w.heap.size, 8, none⟩ = some (.int .i64 n) := (hk.cell (p := ⟨w.heap.size, 8, none⟩) (by first | (simp; done) | (simp; omega) | omega)).trans o8
        replace h0 : k4.cell? ⟨k2.heap.size, 0, none⟩ = some (xa) := (hk.cell (p := ⟨k2.heap.size, 0, none⟩) (by first | (simp; done) | (simp; omega) | omega)).trans h0
        have n0 : k4.cell? ⟨k3.heap.size, 0, none⟩ = some (xv) := (h.cell (p := ⟨k3.heap.size, 0, none⟩) (by first | (simp; done) | (simp; omega) | omega)).trans (by go_simp)
        have nf : k4.frozen? ⟨k3.heap.size, 0, none⟩ = false := (h.frozen (p := ⟨k3.heap.size, 0, none⟩) (by first | (simp; done) | (simp; omega) | omega)).trans (by go_simp)
        replace hb : Below w.heap.size w k4 := hb.trans (hk.mono hb.size)
        have lt0 : w.heap.size < k4.heap.size := (by first | (simp; done) | (simp; omega) | omega)
        have lt1 : k2.heap.size < k4.heap.size := (by first | (simp; done) | (simp; omega) | omega)
        have lt2 : k3.heap.size < k4.heap.size := (by first | (simp; done) | (simp; omega) | omega)
        clear h hk
        go_wp2_with fail
        refine (veq_is (.agg #[xa]) (.agg #[xo]) va vo false _ (by rw [hxa]) (by rw [hxo]) HQ.out).mono ?_
        rintro e k5 ⟨rfl, h⟩
        have hk : Below k4.heap.size k4 k5 := by
          refine Below.trans ?_ (h.mono (by first | (simp; done) | (simp; omega) | omega))
          repeat' (first | with_reducible exact Below.refl _ _ | (with_reducible refine Below.alloc ?_ ?_ _) | (with_reducible refine Below.setCell ?_ ?_ _) | exact (by first | (simp; done) | (simp; omega) | omega))
        have hz := h.size
        try simp at hz
        replace o0 : k5.cell? ⟨w.heap.size, 0, none⟩ = some (.int .i64 3) := (hk.cell (p := ⟨w.heap.size, 0, none⟩) (by first | (simp; done) | (simp; omega) | omega)).trans o0
        replace o1 : k5.cell? ⟨w.heap.size, 1, none⟩ = some (.string key) := (hk.cell (p := ⟨w.heap.size, 1, none⟩) (by first | (simp; done) | (simp; omega) | omega)).trans o1
        replace o2 : k5.cell? ⟨w.heap.size, 2, none⟩ = some (.int .i64 vk) := (hk.cell (p := ⟨w.heap.size, 2, none⟩) (by first | (simp; done) | (simp; omega) | omega)).trans o2
        replace o3 : k5.cell? ⟨w.heap.size, 3, none⟩ = some (.int .i64 vn) := (hk.cell (p := ⟨w.heap.size, 3, none⟩) (by first | (simp; done) | (simp; omega) | omega)).trans o3
        replace o4 : k5.cell? ⟨w.heap.size, 4, none⟩ = some (.string vs) := (hk.cell (p := ⟨w.heap.size, 4, none⟩) (by first | (simp; done) | (simp; omega) | omega)).trans o4
        replace o5 : k5.cell? ⟨w.heap.size, 5, none⟩ = some (.int .i64 ok) := (hk.cell (p := ⟨w.heap.size, 5, none⟩) (by first | (simp; done) | (simp; omega) | omega)).trans o5
        replace o6 : k5.cell? ⟨w.heap.size, 6, none⟩ = some (.int .i64 on) := (hk.cell (p := ⟨w.heap.size, 6, none⟩) (by first | (simp; done) | (simp; omega) | omega)).trans o6
        replace o7 : k5.cell? ⟨w.heap.size, 7, none⟩ = some (.string os) := (hk.cell (p := ⟨w.heap.size, 7, none⟩) (by first | (simp; done) | (simp; omega) | omega)).trans o7
        replace o8 : k5.cell? ⟨w.heap.size, 8, none⟩ = some (.int .i64 n) := (hk.cell (p := ⟨w.heap.size, 8, none⟩) (by first | (simp; done) | (simp; omega) | omega)).trans o8
        replace h0 : k5.cell? ⟨k2.heap.size, 0, none⟩ = some (xa) := (hk.cell (p := ⟨k2.heap.size, 0, none⟩) (by first | (simp; done) | (simp; omega) | omega)).trans h0
        replace n0 : k5.cell? ⟨k3.heap.size, 0, none⟩ = some (xv) := (hk.cell (p := ⟨k3.heap.size, 0, none⟩) (by first | (simp; done) | (simp; omega) | omega)).trans n0
        replace nf : k5.frozen? ⟨k3.heap.size, 0, none⟩ = false := (hk.frozen (p := ⟨k3.heap.size, 0, none⟩) (by first | (simp; done) | (simp; omega) | omega)).trans nf
        replace hb : Below w.heap.size w k5 := hb.trans (hk.mono hb.size)
        have lt0 : w.heap.size < k5.heap.size := (by first | (simp; done) | (simp; omega) | omega)
        have lt1 : k2.heap.size < k5.heap.size := (by first | (simp; done) | (simp; omega) | omega)
        have lt2 : k3.heap.size < k5.heap.size := (by first | (simp; done) | (simp; omega) | omega)
        clear h hk
        go_wp2
        go_ret
        exact HD.out 8 _ (by unfold opErr; rw [HM.out, HGR.out]; simp [HQR.out]) (by decide) (by first | exact hb | exact hb.alloc hb.size _)
      | true =>
        have HM := Lib.hid hm; clear hm
        go_enter Try.func37, Try.ntmps37
        go_wp2_with fail
        refine (omay_is _ ⟨3, key, ⟨vk, vn, vs⟩, ⟨ok, on, os⟩, n⟩ true _ rfl ⟨hok2, hok3.2.2, hok4.2.2⟩ HM.out).mono ?_
        rintro e k1 ⟨rfl, h⟩
        have hk : Below w.heap.size w k1 := by
          refine Below.trans ?_ (h.mono (by first | (simp; done) | (simp; omega) | omega))
          repeat' (first | with_reducible exact Below.refl _ _ | (with_reducible refine Below.alloc ?_ ?_ _) | (with_reducible refine Below.setCell ?_ ?_ _) | exact (by first | (simp; done) | (simp; omega) | omega))
        have hz := h.size
        try simp at hz
        have o0 : k1.cell? ⟨w.heap.size, 0, none⟩ = some (.int .i64 3) := (h.cell (p := ⟨w.heap.size, 0, none⟩) (by first | (simp; done) | (simp; omega) | omega)).trans (by go_simp)
        have o1 : k1.cell? ⟨w.heap.size, 1, none⟩ = some (.string key) := (h.cell (p := ⟨w.heap.size, 1, none⟩) (by first | (simp; done) | (simp; omega) | omega)).trans (by go_simp)
        have o2 : k1.cell? ⟨w.heap.size, 2, none⟩ = some (.int .i64 vk) := (h.cell (p := ⟨w.heap.size, 2, none⟩) (by first | (simp; done) | (simp; omega) | omega)).trans (by go_simp)
        have o3 : k1.cell? ⟨w.heap.size, 3, none⟩ = some (.int .i64 vn) := (h.cell (p := ⟨w.heap.size, 3, none⟩) (by first | (simp; done) | (simp; omega) | omega)).trans (by go_simp)
        have o4 : k1.cell? ⟨w.heap.size, 4, none⟩ = some (.string vs) := (h.cell (p := ⟨w.heap.size, 4, none⟩) (by first | (simp; done) | (simp; omega) | omega)).trans (by go_simp)
        have o5 : k1.cell? ⟨w.heap.size, 5, none⟩ = some (.int .i64 ok) := (h.cell (p := ⟨w.heap.size, 5, none⟩) (by first | (simp; done) | (simp; omega) | omega)).trans (by go_simp)
        have o6 : k1.cell? ⟨w.heap.size, 6, none⟩ = some (.int .i64 on) := (h.cell (p := ⟨w.heap.size, 6, none⟩) (by first | (simp; done) | (simp; omega) | omega)).trans (by go_simp)
        have o7 : k1.cell? ⟨w.heap.size, 7, none⟩ = some (.string os) := (h.cell (p := ⟨w.heap.size, 7, none⟩) (by first | (simp; done) | (simp; omega) | omega)).trans (by go_simp)
        have o8 : k1.cell? ⟨w.heap.size, 8, none⟩ = some (.int .i64 n) := (h.cell (p := ⟨w.heap.size, 8, none⟩) (by first | (simp; done) | (simp; omega) | omega)).trans (by go_simp)
        replace hb : Below w.heap.size w k1 := hb.trans (hk.mono hb.size)
        have lt0 : w.heap.size < k1.heap.size := (by first | (simp; done) | (simp; omega) | omega)
        clear h hk
        go_wp2_with fail
        refine (HV.out _ hb).mono ?_
        rintro e k2 ⟨rfl, h⟩
        have hk : Below k1.heap.size k1 k2 := by
          refine Below.trans ?_ (h.mono (by first | (simp; done) | (simp; omega) | omega))
          repeat' (first | with_reducible exact Below.refl _ _ | (with_reducible refine Below.alloc ?_ ?_ _) | (with_reducible refine Below.setCell ?_ ?_ _) | exact (by first | (simp; done) | (simp; omega) | omega))
        have hz := h.size
        try simp at hz
        replace o0 : k2.cell? ⟨w.heap.size, 0, none⟩ = some (.int .i64 3) := (hk.cell (p := ⟨w.heap.size, 0, none⟩) (by first | (simp; done) | (simp; omega) | omega)).trans o0
        replace o1 : k2.cell? ⟨w.heap.size, 1, none⟩ = some (.string key) := (hk.cell (p := ⟨w.heap.size, 1, none⟩) (by first | (simp; done) | (simp; omega) | omega)).trans o1
        replace o2 : k2.cell? ⟨w.heap.size, 2, none⟩ = some (.int .i64 vk) := (hk.cell (p := ⟨w.heap.size, 2, none⟩) (by first | (simp; done) | (simp; omega) | omega)).trans o2
        replace o3 : k2.cell? ⟨w.heap.size, 3, none⟩ = some (.int .i64 vn) := (hk.cell (p := ⟨w.heap.size, 3, none⟩) (by first | (simp; done) | (simp; omega) | omega)).trans o3
        replace o4 : k2.cell? ⟨w.heap.size, 4, none⟩ = some (.string vs) := (hk.cell (p := ⟨w.heap.size, 4, none⟩) (by first | (simp; done) | (simp; omega) | omega)).trans o4
        replace o5 : k2.cell? ⟨w.heap.size, 5, none⟩ = some (.int .i64 ok) := (hk.cell (p := ⟨w.heap.size, 5, none⟩) (by first | (simp; done) | (simp; omega) | omega)).trans o5
        replace o6 : k2.cell? ⟨w.heap.size, 6, none⟩ = some (.int .i64 on) := (hk.cell (p := ⟨w.heap.size, 6, none⟩) (by first | (simp; done) | (simp; omega) | omega)).trans o6
        replace o7 : k2.cell? ⟨w.heap.size, 7, none⟩ = some (.string os) := (hk.cell (p := ⟨w.heap.size, 7, none⟩) (by first | (simp; done) | (simp; omega) | omega)).trans o7
        replace o8 : k2.cell? ⟨w.heap.size, 8, none⟩ = some (.int .i64 n) := (hk.cell (p := ⟨w.heap.size, 8, none⟩) (by first | (simp; done) | (simp; omega) | omega)).trans o8
        replace hb : Below w.heap.size w k2 := hb.trans (hk.mono hb.size)
        have lt0 : w.heap.size < k2.heap.size := (by first | (simp; done) | (simp; omega) | omega)
        clear h hk
        go_wp2_with fail
        refine (HOV.out _).mono ?_
        rintro e k3 ⟨rfl, h⟩
        have hk : Below k2.heap.size k2 k3 := by
          refine Below.trans ?_ (h.mono (by first | (simp; done) | (simp; omega) | omega))
          repeat' (first | with_reducible exact Below.refl _ _ | (with_reducible refine Below.alloc ?_ ?_ _) | (with_reducible refine Below.setCell ?_ ?_ _) | exact (by first | (simp; done) | (simp; omega) | omega))
        have hz := h.size
        try simp at hz
        replace o0 : k3.cell? ⟨w.heap.size, 0, none⟩ = some (.int .i64 3) := (hk.cell (p := ⟨w.heap.size, 0, none⟩) (by first | (simp; done) | (simp; omega) | omega)).trans o0
        replace o1 : k3.cell? ⟨w.heap.size, 1, none⟩ = some (.string key) := (hk.cell (p := ⟨w.heap.size, 1, none⟩) (by first | (simp; done) | (simp; omega) | omega)).trans o1
        replace o2 : k3.cell? ⟨w.heap.size, 2, none⟩ = some (.int .i64 vk) := (hk.cell (p := ⟨w.heap.size, 2, none⟩) (by first | (simp; done) | (simp; omega) | omega)).trans o2
        replace o3 : k3.cell? ⟨w.heap.size, 3, none⟩ = some (.int .i64 vn) := (hk.cell (p := ⟨w.heap.size, 3, none⟩) (by first | (simp; done) | (simp; omega) | omega)).trans o3
        replace o4 : k3.cell? ⟨w.heap.size, 4, none⟩ = some (.string vs) := (hk.cell (p := ⟨w.heap.size, 4, none⟩) (by first | (simp; done) | (simp; omega) | omega)).trans o4
        replace o5 : k3.cell? ⟨w.heap.size, 5, none⟩ = some (.int .i64 ok) := (hk.cell (p := ⟨w.heap.size, 5, none⟩) (by first | (simp; done) | (simp; omega) | omega)).trans o5
        replace o6 : k3.cell? ⟨w.heap.size, 6, none⟩ = some (.int .i64 on) := (hk.cell (p := ⟨w.heap.size, 6, none⟩) (by first | (simp; done) | (simp; omega) | omega)).trans o6
        replace o7 : k3.cell? ⟨w.heap.size, 7, none⟩ = some (.string os) := (hk.cell (p := ⟨w.heap.size, 7, none⟩) (by first | (simp; done) | (simp; omega) | omega)).trans o7
        replace o8 : k3.cell? ⟨w.heap.size, 8, none⟩ = some (.int .i64 n) := (hk.cell (p := ⟨w.heap.size, 8, none⟩) (by first | (simp; done) | (simp; omega) | omega)).trans o8
        have h0 : k3.cell? ⟨k2.heap.size, 0, none⟩ = some (xa) := (h.cell (p := ⟨k2.heap.size, 0, none⟩) (by first | (simp; done) | (simp; omega) | omega)).trans (by go_simp)
        replace hb : Below w.heap.size w k3 := hb.trans (hk.mono hb.size)
        have lt0 : w.heap.size < k3.heap.size := (by first | (simp; done) | (simp; omega) | omega)
        have lt1 : k2.heap.size < k3.heap.size := (by first | (simp; done) | (simp; omega) | omega)
        clear h hk
        go_wp2_with fail
        refine (HOO.out _).mono ?_
        rintro e k4 ⟨rfl, h⟩
        have hk : Below k3.heap.size k3 k4 := by
          refine Below.trans ?_ (h.mono (by first | (simp; done) | (simp; omega) | omega))
          repeat' (first | with_reducible exact Below.refl _ _ | (with_reducible refine Below.alloc ?_ ?_ _) | (with_reducible refine Below.setCell ?_ ?_ _) | exact (by first | (simp; done) | (simp; omega) | omega))
        have hz := h.size
        try simp at hz
        replace o0 : k4.cell? ⟨w.heap.size, 0, none⟩ = some (.int .i64 3) := (hk.cell (p := ⟨w.heap.size, 0, none⟩) (by first | (simp; done) | (simp; omega) | omega)).trans o0
        replace o1 : k4.cell? ⟨w.heap.size, 1, none⟩ = some (.string key) := (hk.cell (p := ⟨w.heap.size, 1, none⟩) (by first | (simp; done) | (simp; omega) | omega)).trans o1
        replace o2 : k4.cell? ⟨w.heap.size, 2, none⟩ = some (.int .i64 vk) := (hk.cell (p := ⟨w.heap.size, 2, none⟩) (by first | (simp; done) | (simp; omega) | omega)).trans o2
        replace o3 : k4.cell? ⟨w.heap.size, 3, none⟩ = some (.int .i64 vn) := (hk.cell (p := ⟨w.heap.size, 3, none⟩) (by first | (simp; done) | (simp; omega) | omega)).trans o3
        replace o4 : k4.cell? ⟨w.heap.size, 4, none⟩ = some (.string vs) := (hk.cell (p := ⟨w.heap.size, 4, none⟩) (by first | (simp; done) | (simp; omega) | omega)).trans o4
        replace o5 : k4.cell? ⟨w.heap.size, 5, none⟩ = some (.int .i64 ok) := (hk.cell (p := ⟨w.heap.size, 5, none⟩) (by first | (simp; done) | (simp; omega) | omega)).trans o5
        replace o6 : k4.cell? ⟨w.heap.size, 6, none⟩ = some (.int .i64 on) := (hk.cell (p := ⟨w.heap.size, 6, none⟩) (by first | (simp; done) | (simp; omega) | omega)).trans o6
        replace o7 : k4.cell? ⟨w.heap.size, 7, none⟩ = some (.string os) := (hk.cell (p := ⟨w.heap.size, 7, none⟩) (by first | (simp; done) | (simp; omega) | omega)).trans o7
        replace o8 : k4.cell? ⟨w.heap.size, 8, none⟩ = some (.int .i64 n) := (hk.cell (p := ⟨w.heap.size, 8, none⟩) (by first | (simp; done) | (simp; omega) | omega)).trans o8
        replace h0 : k4.cell? ⟨k2.heap.size, 0, none⟩ = some (xa) := (hk.cell (p := ⟨k2.heap.size, 0, none⟩) (by first | (simp; done) | (simp; omega) | omega)).trans h0
        have n0 : k4.cell? ⟨k3.heap.size, 0, none⟩ = some (xv) := (h.cell (p := ⟨k3.heap.size, 0, none⟩) (by first | (simp; done) | (simp; omega) | omega)).trans (by go_simp)
        have nf : k4.frozen? ⟨k3.heap.size, 0, none⟩ = false := (h.frozen (p := ⟨k3.heap.size, 0, none⟩) (by first | (simp; done) | (simp; omega) | omega)).trans (by go_simp)
        replace hb : Below w.heap.size w k4 := hb.trans (hk.mono hb.size)
        have lt0 : w.heap.size < k4.heap.size := (by first | (simp; done) | (simp; omega) | omega)
        have lt1 : k2.heap.size < k4.heap.size := (by first | (simp; done) | (simp; omega) | omega)
        have lt2 : k3.heap.size < k4.heap.size := (by first | (simp; done) | (simp; omega) | omega)
        clear h hk
        go_wp2_with fail
        refine (veq_is (.agg #[xa]) (.agg #[xo]) va vo true _ (by rw [hxa]) (by rw [hxo]) HQ.out).mono ?_
        rintro e k5 ⟨rfl, h⟩
        have hk : Below k4.heap.size k4 k5 := by
          refine Below.trans ?_ (h.mono (by first | (simp; done) | (simp; omega) | omega))
          repeat' (first | with_reducible exact Below.refl _ _ | (with_reducible refine Below.alloc ?_ ?_ _) | (with_reducible refine Below.setCell ?_ ?_ _) | exact (by first | (simp; done) | (simp; omega) | omega))
        have hz := h.size
        try simp at hz
        replace o0 : k5.cell? ⟨w.heap.size, 0, none⟩ = some (.int .i64 3) := (hk.cell (p := ⟨w.heap.size, 0, none⟩) (by first | (simp; done) | (simp; omega) | omega)).trans o0
        replace o1 : k5.cell? ⟨w.heap.size, 1, none⟩ = some (.string key) := (hk.cell (p := ⟨w.heap.size, 1, none⟩) (by first | (simp; done) | (simp; omega) | omega)).trans o1
        replace o2 : k5.cell? ⟨w.heap.size, 2, none⟩ = some (.int .i64 vk) := (hk.cell (p := ⟨w.heap.size, 2, none⟩) (by first | (simp; done) | (simp; omega) | omega)).trans o2
        replace o3 : k5.cell? ⟨w.heap.size, 3, none⟩ = some (.int .i64 vn) := (hk.cell (p := ⟨w.heap.size, 3, none⟩) (by first | (simp; done) | (simp; omega) | omega)).trans o3
        replace o4 : k5.cell? ⟨w.heap.size, 4, none⟩ = some (.string vs) := (hk.cell (p := ⟨w.heap.size, 4, none⟩) (by first | (simp; done) | (simp; omega) | omega)).trans o4
        replace o5 : k5.cell? ⟨w.heap.size, 5, none⟩ = some (.int .i64 ok) := (hk.cell (p := ⟨w.heap.size, 5, none⟩) (by first | (simp; done) | (simp; omega) | omega)).trans o5
        replace o6 : k5.cell? ⟨w.heap.size, 6, none⟩ = some (.int .i64 on) := (hk.cell (p := ⟨w.heap.size, 6, none⟩) (by first | (simp; done) | (simp; omega) | omega)).trans o6
        replace o7 : k5.cell? ⟨w.heap.size, 7, none⟩ = some (.string os) := (hk.cell (p := ⟨w.heap.size, 7, none⟩) (by first | (simp; done) | (simp; omega) | omega)).trans o7
        replace o8 : k5.cell? ⟨w.heap.size, 8, none⟩ = some (.int .i64 n) := (hk.cell (p := ⟨w.heap.size, 8, none⟩) (by first | (simp; done) | (simp; omega) | omega)).trans o8
        replace h0 : k5.cell? ⟨k2.heap.size, 0, none⟩ = some (xa) := (hk.cell (p := ⟨k2.heap.size, 0, none⟩) (by first | (simp; done) | (simp; omega) | omega)).trans h0
        replace n0 : k5.cell? ⟨k3.heap.size, 0, none⟩ = some (xv) := (hk.cell (p := ⟨k3.heap.size, 0, none⟩) (by first | (simp; done) | (simp; omega) | omega)).trans n0
        replace nf : k5.frozen? ⟨k3.heap.size, 0, none⟩ = false := (hk.frozen (p := ⟨k3.heap.size, 0, none⟩) (by first | (simp; done) | (simp; omega) | omega)).trans nf
        replace hb : Below w.heap.size w k5 := hb.trans (hk.mono hb.size)
        have lt0 : w.heap.size < k5.heap.size := (by first | (simp; done) | (simp; omega) | omega)
        have lt1 : k2.heap.size < k5.heap.size := (by first | (simp; done) | (simp; omega) | omega)
        have lt2 : k3.heap.size < k5.heap.size := (by first | (simp; done) | (simp; omega) | omega)
        clear h hk
        have hap : apV (dGet l key).1 ⟨3, key, ⟨vk, vn, vs⟩, ⟨ok, on, os⟩, n⟩ = ⟨vk, vn, vs⟩ := by unfold apV; rw [if_neg (by show ¬ (3 : Int) = 4; decide)]
        have HAP := Lib.hid hap; clear hap
        go_wp2_with fail
        refine (HS.out (apV (dGet l key).1 ⟨3, key, ⟨vk, vn, vs⟩, ⟨ok, on, os⟩, n⟩) _ _ _ (by repeat' (first | with_reducible exact hb | (with_reducible refine Below.alloc ?_ ?_ _) | (with_reducible refine Below.setCell ?_ ?_ _) | exact (by first | (simp; done) | (simp; omega) | omega))) (by rw [HAP.out]; exact (by rw [hvv]; exact hxv)) (by rw [HAP.out]; exact hmv) rfl hok2).mono ?_
        rintro e kx hs
        have hs4 := HSD.out _ _ _ hs (by repeat' (first | with_reducible exact hb | (with_reducible refine Below.alloc ?_ ?_ _) | (with_reducible refine Below.setCell ?_ ?_ _) | exact (by first | (simp; done) | (simp; omega) | omega))) HM.out (fun h => by have h2 := h.2; rw [HGR.out] at h2; exact absurd (HQR.out.symm.trans h2) (by decide)) (fun h => absurd h.1 (by show ¬ (3 : Int) = 4; decide)) (fun h => absurd h.1 (by show ¬ (3 : Int) = 4; decide))
        obtain ⟨c, v9, rfl, hs2⟩ := hs
        clear hs2
        have HS4 := Lib.hid hs4; clear hs4
        go_wp2
        go_ret
        exact HS4.out
    · have hk3 : (k == 3) = false := by rw [beq_eq_false_iff_ne]; exact kk3
      by_cases kk4 : k = 4
      · subst kk4
        obtain ⟨h41, h42, h43⟩ := h4n rfl
        have hadd := fun W => dadd_any ⟨gk, gn, gs⟩ xa n W (by rw [hva]; exact hxa) hgm h41 h42
        have hk02 : gk = 0 ∨ gk = 1 ∨ gk = 2 := by
          unfold mayR at hgm; simp only at hgm
          by_cases e0 : gk = 0
          · exact .inl e0
          · by_cases e1 : gk = 1
            · exact .inr (.inl e1)
            · by_cases e2 : gk = 2
              · exact .inr (.inr e2)
              · rw [if_neg e0, if_neg e1, if_neg e2] at hgm; cases hgm
        have hgt : gb = true ↔ gk ≠ 0 := by rw [← hgk]; simp
        have H02 := Lib.hid hk02; clear hk02
        have HGT := Lib.hid hgt; clear hgt
        by_cases ha7 : gk = 2
        · have HE9 : Hid (addErr ⟨gk, gn, gs⟩ n = 7) := Lib.hid (by unfold addErr; rw [if_pos ha7])
          have HV9 : Hid (addVal ⟨gk, gn, gs⟩ n = .nilIface) := Lib.hid (by unfold addVal; rw [HE9.out]; rfl)
          have HOE : Hid (mayO ⟨4, key, ⟨vk, vn, vs⟩, ⟨ok, on, os⟩, n⟩ = true → opErr l ⟨4, key, ⟨vk, vn, vs⟩, ⟨ok, on, os⟩, n⟩ = 7) := Lib.hid (fun hmm => by unfold opErr; rw [if_neg (by rw [hmm]; decide), if_neg (fun h => absurd h.1 (by show ¬ (4 : Int) = 3; decide)), HGR.out]; rw [if_pos ⟨rfl, HGT.out.2 (by omega), by show gk ≠ 1; omega⟩])
          have HADD : Hid (∀ W, Calls Try.prog 56 #[.agg #[xa], .int .i64 n] W fun e w' => e = .returned (.tuple #[.agg #[.nilIface], .int .i64 7]) ∧ Below W.heap.size W w') := Lib.hid (fun W => by
            refine (hadd W).mono ?_
            rintro e w' ⟨h1, h2⟩
            rw [HV9.out, HE9.out] at h1
            exact ⟨h1, h2⟩)
          clear hadd
          have HM := Lib.hid hm; clear hm
          go_enter Try.func37, Try.ntmps37
          go_wp2_with fail
          refine (omay_is _ ⟨4, key, ⟨vk, vn, vs⟩, ⟨ok, on, os⟩, n⟩ true _ rfl ⟨hok2, hok3.2.2, hok4.2.2⟩ HM.out).mono ?_
          rintro e k1 ⟨rfl, h⟩
          have hk : Below w.heap.size w k1 := by
            refine Below.trans ?_ (h.mono (by first | (simp; done) | (simp; omega) | omega))
            repeat' (first | with_reducible exact Below.refl _ _ | (with_reducible refine Below.alloc ?_ ?_ _) | (with_reducible refine Below.setCell ?_ ?_ _) | exact (by first | (simp; done) | (simp; omega) | omega))
          have hz := h.size
          try simp at hz
          have o0 : k1.cell? ⟨w.heap.size, 0, none⟩ = some (.int .i64 4) := (h.cell (p := ⟨w.heap.size, 0, none⟩) (by first | (simp; done) | (simp; omega) | omega)).trans (by go_simp)
          have o1 : k1.cell? ⟨w.heap.size, 1, none⟩ = some (.string key) := (h.cell (p := ⟨w.heap.size, 1, none⟩) (by first | (simp; done) | (simp; omega) | omega)).trans (by go_simp)
          have o2 : k1.cell? ⟨w.heap.size, 2, none⟩ = some (.int .i64 vk) := (h.cell (p := ⟨w.heap.size, 2, none⟩) (by first | (simp; done) | (simp; omega) | omega)).trans (by go_simp)
          have o3 : k1.cell? ⟨w.heap.size, 3, none⟩ = some (.int .i64 vn) := (h.cell (p := ⟨w.heap.size, 3, none⟩) (by first | (simp; done) | (simp; omega) | omega)).trans (by go_simp)
          have o4 : k1.cell? ⟨w.heap.size, 4, none⟩ = some (.string vs) := (h.cell (p := ⟨w.heap.size, 4, none⟩) (by first | (simp; done) | (simp; omega) | omega)).trans (by go_simp)
          have o5 : k1.cell? ⟨w.heap.size, 5, none⟩ = some (.int .i64 ok) := (h.cell (p := ⟨w.heap.size, 5, none⟩) (by first | (simp; done) | (simp; omega) | omega)).trans (by go_simp)
          have o6 : k1.cell? ⟨w.heap.size, 6, none⟩ = some (.int .i64 on) := (h.cell (p := ⟨w.heap.size, 6, none⟩) (by first | (simp; done) | (simp; omega) | omega)).trans (by go_simp)
          have o7 : k1.cell? ⟨w.heap.size, 7, none⟩ = some (.string os) := (h.cell (p := ⟨w.heap.size, 7, none⟩) (by first | (simp; done) | (simp; omega) | omega)).trans (by go_simp)
          have o8 : k1.cell? ⟨w.heap.size, 8, none⟩ = some (.int .i64 n) := (h.cell (p := ⟨w.heap.size, 8, none⟩) (by first | (simp; done) | (simp; omega) | omega)).trans (by go_simp)
          replace hb : Below w.heap.size w k1 := hb.trans (hk.mono hb.size)
          have lt0 : w.heap.size < k1.heap.size := (by first | (simp; done) | (simp; omega) | omega)
          clear h hk
          go_wp2_with fail
          refine (HV.out _ hb).mono ?_
          rintro e k2 ⟨rfl, h⟩
          have hk : Below k1.heap.size k1 k2 := by
            refine Below.trans ?_ (h.mono (by first | (simp; done) | (simp; omega) | omega))
            repeat' (first | with_reducible exact Below.refl _ _ | (with_reducible refine Below.alloc ?_ ?_ _) | (with_reducible refine Below.setCell ?_ ?_ _) | exact (by first | (simp; done) | (simp; omega) | omega))
          have hz := h.size
          try simp at hz
          replace o0 : k2.cell? ⟨w.heap.size, 0, none⟩ = some (.int .i64 4) := (hk.cell (p := ⟨w.heap.size, 0, none⟩) (by first | (simp; done) | (simp; omega) | omega)).trans o0
          replace o1 : k2.cell? ⟨w.heap.size, 1, none⟩ = some (.string key) := (hk.cell (p := ⟨w.heap.size, 1, none⟩) (by first | (simp; done) | (simp; omega) | omega)).trans o1
          replace o2 : k2.cell? ⟨w.heap.size, 2, none⟩ = some (.int .i64 vk) := (hk.cell (p := ⟨w.heap.size, 2, none⟩) (by first | (simp; done) | (simp; omega) | omega)).trans o2
          replace o3 : k2.cell? ⟨w.heap.size, 3, none⟩ = some (.int .i64 vn) := (hk.cell (p := ⟨w.heap.size, 3, none⟩) (by first | (simp; done) | (simp; omega) | omega)).trans o3
          replace o4 : k2.cell? ⟨w.heap.size, 4, none⟩ = some (.string vs) := (hk.cell (p := ⟨w.heap.size, 4, none⟩) (by first | (simp; done) | (simp; omega) | omega)).trans o4
          replace o5 : k2.cell? ⟨w.heap.size, 5, none⟩ = some (.int .i64 ok) := (hk.cell (p := ⟨w.heap.size, 5, none⟩) (by first | (simp; done) | (simp; omega) | omega)).trans o5
          replace o6 : k2.cell? ⟨w.heap.size, 6, none⟩ = some (.int .i64 on) := (hk.cell (p := ⟨w.heap.size, 6, none⟩) (by first | (simp; done) | (simp; omega) | omega)).trans o6
          replace o7 : k2.cell? ⟨w.heap.size, 7, none⟩ = some (.string os) := (hk.cell (p := ⟨w.heap.size, 7, none⟩) (by first | (simp; done) | (simp; omega) | omega)).trans o7
          replace o8 : k2.cell? ⟨w.heap.size, 8, none⟩ = some (.int .i64 n) := (hk.cell (p := ⟨w.heap.size, 8, none⟩) (by first | (simp; done) | (simp; omega) | omega)).trans o8
          replace hb : Below w.heap.size w k2 := hb.trans (hk.mono hb.size)
          have lt0 : w.heap.size < k2.heap.size := (by first | (simp; done) | (simp; omega) | omega)
          clear h hk
          go_wp2_with fail
          refine (HOV.out _).mono ?_
          rintro e k3 ⟨rfl, h⟩
          have hk : Below k2.heap.size k2 k3 := by
            refine Below.trans ?_ (h.mono (by first | (simp; done) | (simp; omega) | omega))
            repeat' (first | with_reducible exact Below.refl _ _ | (with_reducible refine Below.alloc ?_ ?_ _) | (with_reducible refine Below.setCell ?_ ?_ _) | exact (by first | (simp; done) | (simp; omega) | omega))
          have hz := h.size
          try simp at hz
          replace o0 : k3.cell? ⟨w.heap.size, 0, none⟩ = some (.int .i64 4) := (hk.cell (p := ⟨w.heap.size, 0, none⟩) (by first | (simp; done) | (simp; omega) | omega)).trans o0
          replace o1 : k3.cell? ⟨w.heap.size, 1, none⟩ = some (.string key) := (hk.cell (p := ⟨w.heap.size, 1, none⟩) (by first | (simp; done) | (simp; omega) | omega)).trans o1
          replace o2 : k3.cell? ⟨w.heap.size, 2, none⟩ = some (.int .i64 vk) := (hk.cell (p := ⟨w.heap.size, 2, none⟩) (by first | (simp; done) | (simp; omega) | omega)).trans o2
          replace o3 : k3.cell? ⟨w.heap.size, 3, none⟩ = some (.int .i64 vn) := (hk.cell (p := ⟨w.heap.size, 3, none⟩) (by first | (simp; done) | (simp; omega) | omega)).trans o3
          replace o4 : k3.cell? ⟨w.heap.size, 4, none⟩ = some (.string vs) := (hk.cell (p := ⟨w.heap.size, 4, none⟩) (by first | (simp; done) | (simp; omega) | omega)).trans o4
          replace o5 : k3.cell? ⟨w.heap.size, 5, none⟩ = some (.int .i64 ok) := (hk.cell (p := ⟨w.heap.size, 5, none⟩) (by first | (simp; done) | (simp; omega) | omega)).trans o5
          replace o6 : k3.cell? ⟨w.heap.size, 6, none⟩ = some (.int .i64 on) := (hk.cell (p := ⟨w.heap.size, 6, none⟩) (by first | (simp; done) | (simp; omega) | omega)).trans o6
          replace o7 : k3.cell? ⟨w.heap.size, 7, none⟩ = some (.string os) := (hk.cell (p := ⟨w.heap.size, 7, none⟩) (by first | (simp; done) | (simp; omega) | omega)).trans o7
          replace o8 : k3.cell? ⟨w.heap.size, 8, none⟩ = some (.int .i64 n) := (hk.cell (p := ⟨w.heap.size, 8, none⟩) (by first | (simp; done) | (simp; omega) | omega)).trans o8
          have h0 : k3.cell? ⟨k2.heap.size, 0, none⟩ = some (xa) := (h.cell (p := ⟨k2.heap.size, 0, none⟩) (by first | (simp; done) | (simp; omega) | omega)).trans (by go_simp)
          replace hb : Below w.heap.size w k3 := hb.trans (hk.mono hb.size)
          have lt0 : w.heap.size < k3.heap.size := (by first | (simp; done) | (simp; omega) | omega)
          have lt1 : k2.heap.size < k3.heap.size := (by first | (simp; done) | (simp; omega) | omega)
          clear h hk
          go_wp2_with fail
          refine (HOO.out _).mono ?_
          rintro e k4 ⟨rfl, h⟩
          have hk : Below k3.heap.size k3 k4 := by
            refine Below.trans ?_ (h.mono (by first | (simp; done) | (simp; omega) | omega))
            repeat' (first | with_reducible exact Below.refl _ _ | (with_reducible refine Below.alloc ?_ ?_ _) | (with_reducible refine Below.setCell ?_ ?_ _) | exact (by first | (simp; done) | (simp; omega) | omega))
          have hz := h.size
          try simp at hz
          replace o0 : k4.cell? ⟨w.heap.size, 0, none⟩ = some (.int .i64 4) := (hk.cell (p := ⟨w.heap.size, 0, none⟩) (by first | (simp; done) | (simp; omega) | omega)).trans o0
          replace o1 : k4.cell? ⟨w.heap.size, 1, none⟩ = some (.string key) := (hk.cell (p := ⟨w.heap.size, 1, none⟩) (by first | (simp; done) | (simp; omega) | omega)).trans o1
          replace o2 : k4.cell? ⟨w.heap.size, 2, none⟩ = some (.int .i64 vk) := (hk.cell (p := ⟨w.heap.size, 2, none⟩) (by first | (simp; done) | (simp; omega) | omega)).trans o2
          replace o3 : k4.cell? ⟨w.heap.size, 3, none⟩ = some (.int .i64 vn) := (hk.cell (p := ⟨w.heap.size, 3, none⟩) (by first | (simp; done) | (simp; omega) | omega)).trans o3
          replace o4 : k4.cell? ⟨w.heap.size, 4, none⟩ = some (.string vs) := (hk.cell (p := ⟨w.heap.size, 4, none⟩) (by first | (simp; done) | (simp; omega) | omega)).trans o4
          replace o5 : k4.cell? ⟨w.heap.size, 5, none⟩ = some (.int .i64 ok) := (hk.cell (p := ⟨w.heap.size, 5, none⟩) (by first | (simp; done) | (simp; omega) | omega)).trans o5
          replace o6 : k4.cell? ⟨w.heap.size, 6, none⟩ = some (.int .i64 on) := (hk.cell (p := ⟨w.heap.size, 6, none⟩) (by first | (simp; done) | (simp; omega) | omega)).trans o6
          replace o7 : k4.cell? ⟨w.heap.size, 7, none⟩ = some (.string os) := (hk.cell (p := ⟨w.heap.size, 7, none⟩) (by first | (simp; done) | (simp; omega) | omega)).trans o7
          replace o8 : k4.cell? ⟨w.heap.size, 8, none⟩ = some (.int .i64 n) := (hk.cell (p := ⟨w.heap.size, 8, none⟩) (by first | (simp; done) | (simp; omega) | omega)).trans o8
          replace h0 : k4.cell? ⟨k2.heap.size, 0, none⟩ = some (xa) := (hk.cell (p := ⟨k2.heap.size, 0, none⟩) (by first | (simp; done) | (simp; omega) | omega)).trans h0
          have n0 : k4.cell? ⟨k3.heap.size, 0, none⟩ = some (xv) := (h.cell (p := ⟨k3.heap.size, 0, none⟩) (by first | (simp; done) | (simp; omega) | omega)).trans (by go_simp)
          have nf : k4.frozen? ⟨k3.heap.size, 0, none⟩ = false := (h.frozen (p := ⟨k3.heap.size, 0, none⟩) (by first | (simp; done) | (simp; omega) | omega)).trans (by go_simp)
          replace hb : Below w.heap.size w k4 := hb.trans (hk.mono hb.size)
          have lt0 : w.heap.size < k4.heap.size := (by first | (simp; done) | (simp; omega) | omega)
          have lt1 : k2.heap.size < k4.heap.size := (by first | (simp; done) | (simp; omega) | omega)
          have lt2 : k3.heap.size < k4.heap.size := (by first | (simp; done) | (simp; omega) | omega)
          clear h hk
          go_wp2_with fail
          refine (HADD.out _).mono ?_
          rintro e k5 ⟨rfl, h⟩
          have hk : Below k4.heap.size k4 k5 := by
            refine Below.trans ?_ (h.mono (by first | (simp; done) | (simp; omega) | omega))
            repeat' (first | with_reducible exact Below.refl _ _ | (with_reducible refine Below.alloc ?_ ?_ _) | (with_reducible refine Below.setCell ?_ ?_ _) | exact (by first | (simp; done) | (simp; omega) | omega))
          have hz := h.size
          try simp at hz
          replace o0 : k5.cell? ⟨w.heap.size, 0, none⟩ = some (.int .i64 4) := (hk.cell (p := ⟨w.heap.size, 0, none⟩) (by first | (simp; done) | (simp; omega) | omega)).trans o0
          replace o1 : k5.cell? ⟨w.heap.size, 1, none⟩ = some (.string key) := (hk.cell (p := ⟨w.heap.size, 1, none⟩) (by first | (simp; done) | (simp; omega) | omega)).trans o1
          replace o2 : k5.cell? ⟨w.heap.size, 2, none⟩ = some (.int .i64 vk) := (hk.cell (p := ⟨w.heap.size, 2, none⟩) (by first | (simp; done) | (simp; omega) | omega)).trans o2
          replace o3 : k5.cell? ⟨w.heap.size, 3, none⟩ = some (.int .i64 vn) := (hk.cell (p := ⟨w.heap.size, 3, none⟩) (by first | (simp; done) | (simp; omega) | omega)).trans o3
          replace o4 : k5.cell? ⟨w.heap.size, 4, none⟩ = some (.string vs) := (hk.cell (p := ⟨w.heap.size, 4, none⟩) (by first | (simp; done) | (simp; omega) | omega)).trans o4
          replace o5 : k5.cell? ⟨w.heap.size, 5, none⟩ = some (.int .i64 ok) := (hk.cell (p := ⟨w.heap.size, 5, none⟩) (by first | (simp; done) | (simp; omega) | omega)).trans o5
          replace o6 : k5.cell? ⟨w.heap.size, 6, none⟩ = some (.int .i64 on) := (hk.cell (p := ⟨w.heap.size, 6, none⟩) (by first | (simp; done) | (simp; omega) | omega)).trans o6
          replace o7 : k5.cell? ⟨w.heap.size, 7, none⟩ = some (.string os) := (hk.cell (p := ⟨w.heap.size, 7, none⟩) (by first | (simp; done) | (simp; omega) | omega)).trans o7
          replace o8 : k5.cell? ⟨w.heap.size, 8, none⟩ = some (.int .i64 n) := (hk.cell (p := ⟨w.heap.size, 8, none⟩) (by first | (simp; done) | (simp; omega) | omega)).trans o8
          replace h0 : k5.cell? ⟨k2.heap.size, 0, none⟩ = some (xa) := (hk.cell (p := ⟨k2.heap.size, 0, none⟩) (by first | (simp; done) | (simp; omega) | omega)).trans h0
          replace n0 : k5.cell? ⟨k3.heap.size, 0, none⟩ = some (xv) := (hk.cell (p := ⟨k3.heap.size, 0, none⟩) (by first | (simp; done) | (simp; omega) | omega)).trans n0
          replace nf : k5.frozen? ⟨k3.heap.size, 0, none⟩ = false := (hk.frozen (p := ⟨k3.heap.size, 0, none⟩) (by first | (simp; done) | (simp; omega) | omega)).trans nf
          replace hb : Below w.heap.size w k5 := hb.trans (hk.mono hb.size)
          have lt0 : w.heap.size < k5.heap.size := (by first | (simp; done) | (simp; omega) | omega)
          have lt1 : k2.heap.size < k5.heap.size := (by first | (simp; done) | (simp; omega) | omega)
          have lt2 : k3.heap.size < k5.heap.size := (by first | (simp; done) | (simp; omega) | omega)
          clear h hk
          go_wp2
          go_ret
          exact HD.out 7 _ (HOE.out HM.out) (by decide) (by repeat' (first | with_reducible exact hb | (with_reducible refine Below.alloc ?_ ?_ _) | (with_reducible refine Below.setCell ?_ ?_ _) | exact (by first | (simp; done) | (simp; omega) | omega)))
        · by_cases ha4 : farB gn = true ∨ farB (gn + n) = true
          · have HE9 : Hid (addErr ⟨gk, gn, gs⟩ n = 4) := Lib.hid (by unfold addErr; rw [if_neg ha7, if_pos ha4])
            have HV9 : Hid (addVal ⟨gk, gn, gs⟩ n = .nilIface) := Lib.hid (by unfold addVal; rw [HE9.out]; rfl)
            have HOE : Hid (mayO ⟨4, key, ⟨vk, vn, vs⟩, ⟨ok, on, os⟩, n⟩ = true → opErr l ⟨4, key, ⟨vk, vn, vs⟩, ⟨ok, on, os⟩, n⟩ = 4) := Lib.hid (fun hmm => by unfold opErr; rw [if_neg (by rw [hmm]; decide), if_neg (fun h => absurd h.1 (by show ¬ (4 : Int) = 3; decide)), HGR.out]; rw [if_neg (fun h => by have h1 := HGT.out.1 h.2.1; have h2 : gk ≠ 1 := h.2.2; have := H02.out; omega), if_pos ⟨rfl, ha4⟩])
            have HADD : Hid (∀ W, Calls Try.prog 56 #[.agg #[xa], .int .i64 n] W fun e w' => e = .returned (.tuple #[.agg #[.nilIface], .int .i64 4]) ∧ Below W.heap.size W w') := Lib.hid (fun W => by
              refine (hadd W).mono ?_
              rintro e w' ⟨h1, h2⟩
              rw [HV9.out, HE9.out] at h1
              exact ⟨h1, h2⟩)
            clear hadd
            have HM := Lib.hid hm; clear hm
            go_enter Try.func37, Try.ntmps37
            go_wp2_with fail
            refine (omay_is _ ⟨4, key, ⟨vk, vn, vs⟩, ⟨ok, on, os⟩, n⟩ true _ rfl ⟨hok2, hok3.2.2, hok4.2.2⟩ HM.out).mono ?_
            rintro e k1 ⟨rfl, h⟩
            have hk : Below w.heap.size w k1 := by
              refine Below.trans ?_ (h.mono (by first | (simp; done) | (simp; omega) | omega))
              repeat' (first | with_reducible exact Below.refl _ _ | (with_reducible refine Below.alloc ?_ ?_ _) | (with_reducible refine Below.setCell ?_ ?_ _) | exact (by first | (simp; done) | (simp; omega) | omega))
            have hz := h.size
            try simp at hz
            have o0 : k1.cell? ⟨w.heap.size, 0, none⟩ = some (.int .i64 4) := (h.cell (p := ⟨w.heap.size, 0, none⟩) (by first | (simp; done) | (simp; omega) | omega)).trans (by go_simp)
            have o1 : k1.cell? ⟨w.heap.size, 1, none⟩ = some (.string key) := (h.cell (p := ⟨w.heap.size, 1, none⟩) (by first | (simp; done) | (simp; omega) | omega)).trans (by go_simp)
            have o2 : k1.cell? ⟨w.heap.size, 2, none⟩ = some (.int .i64 vk) := (h.cell (p := ⟨w.heap.size, 2, none⟩) (by first | (simp; done) | (simp; omega) | omega)).trans (by go_simp)
            have o3 : k1.cell? ⟨w.heap.size, 3, none⟩ = some (.int .i64 vn) := (h.cell (p := ⟨w.heap.size, 3, none⟩) (by first | (simp; done) | (simp; omega) | omega)).trans (by go_simp)
            have o4 : k1.cell? ⟨w.heap.size, 4, none⟩ = some (.string vs) := (h.cell (p := ⟨w.heap.size, 4, none⟩) (by first | (simp; done) | (simp; omega) | omega)).trans (by go_simp)
            have o5 : k1.cell? ⟨w.heap.size, 5, none⟩ = some (.int .i64 ok) := (h.cell (p := ⟨w.heap.size, 5, none⟩) (by first | (simp; done) | (simp; omega) | omega)).trans (by go_simp)
            have o6 : k1.cell? ⟨w.heap.size, 6, none⟩ = some (.int .i64 on) := (h.cell (p := ⟨w.heap.size, 6, none⟩) (by first | (simp; done) | (simp; omega) | omega)).trans (by go_simp)
            have o7 : k1.cell? ⟨w.heap.size, 7, none⟩ = some (.string os) := (h.cell (p := ⟨w.heap.size, 7, none⟩) (by first | (simp; done) | (simp; omega) | omega)).trans (by go_simp)
            have o8 : k1.cell? ⟨w.heap.size, 8, none⟩ = some (.int .i64 n) := (h.cell (p := ⟨w.heap.size, 8, none⟩) (by first | (simp; done) | (simp; omega) | omega)).trans (by go_simp)
            replace hb : Below w.heap.size w k1 := hb.trans (hk.mono hb.size)
            have lt0 : w.heap.size < k1.heap.size := (by first | (simp; done) | (simp; omega) | omega)
            clear h hk
            go_wp2_with fail
            refine (HV.out _ hb).mono ?_
            rintro e k2 ⟨rfl, h⟩
            have hk : Below k1.heap.size k1 k2 := by
              refine Below.trans ?_ (h.mono (by first | (simp; done) | (simp; omega) | omega))
              repeat' (first | with_reducible exact Below.refl _ _ | (with_reducible refine Below.alloc ?_ ?_ _) | (with_reducible refine Below.setCell ?_ ?_ _) | exact (by first | (simp; done) | (simp; omega) | omega))
            have hz := h.size
            try simp at hz
            replace o0 : k2.cell? ⟨w.heap.size, 0, none⟩ = some (.int .i64 4) := (hk.cell (p := ⟨w.heap.size, 0, none⟩) (by first | (simp; done) | (simp; omega) | omega)).trans o0
            replace o1 : k2.cell? ⟨w.heap.size, 1, none⟩ = some (.string key) := (hk.cell (p := ⟨w.heap.size, 1, none⟩) (by first | (simp; done) | (simp; omega) | omega)).trans o1
            replace o2 : k2.cell? ⟨w.heap.size, 2, none⟩ = some (.int .i64 vk) := (hk.cell (p := ⟨w.heap.size, 2, none⟩) (by first | (simp; done) | (simp; omega) | omega)).trans o2
            replace o3 : k2.cell? ⟨w.heap.size, 3, none⟩ = some (.int .i64 vn) := (hk.cell (p := ⟨w.heap.size, 3, none⟩) (by first | (simp; done) | (simp; omega) | omega)).trans o3
            replace o4 : k2.cell? ⟨w.heap.size, 4, none⟩ = some (.string vs) := (hk.cell (p := ⟨w.heap.size, 4, none⟩) (by first | (simp; done) | (simp; omega) | omega)).trans o4
            replace o5 : k2.cell? ⟨w.heap.size, 5, none⟩ = some (.int .i64 ok) := (hk.cell (p := ⟨w.heap.size, 5, none⟩) (by first | (simp; done) | (simp; omega) | omega)).trans o5
            replace o6 : k2.cell? ⟨w.heap.size, 6, none⟩ = some (.int .i64 on) := (hk.cell (p := ⟨w.heap.size, 6, none⟩) (by first | (simp; done) | (simp; omega) | omega)).trans o6
            replace o7 : k2.cell? ⟨w.heap.size, 7, none⟩ = some (.string os) := (hk.cell (p := ⟨w.heap.size, 7, none⟩) (by first | (simp; done) | (simp; omega) | omega)).trans o7
            replace o8 : k2.cell? ⟨w.heap.size, 8, none⟩ = some (.int .i64 n) := (hk.cell (p := ⟨w.heap.size, 8, none⟩) (by first | (simp; done) | (simp; omega) | omega)).trans o8
            replace hb : Below w.heap.size w k2 := hb.trans (hk.mono hb.size)
            have lt0 : w.heap.size < k2.heap.size := (by first | (simp; done) | (simp; omega) | omega)
            clear h hk
            go_wp2_with fail
            refine (HOV.out _).mono ?_
            rintro e k3 ⟨rfl, h⟩
            have hk : Below k2.heap.size k2 k3 := by
              refine Below.trans ?_ (h.mono (by first | (simp; done) | (simp; omega) | omega))
              repeat' (first | with_reducible exact Below.refl _ _ | (with_reducible refine Below.alloc ?_ ?_ _) | (with_reducible refine Below.setCell ?_ ?_ _) | exact (by first | (simp; done) | (simp; omega) | omega))
            have hz := h.size
            try simp at hz
            replace o0 : k3.cell? ⟨w.heap.size, 0, none⟩ = some (.int .i64 4) := (hk.cell (p := ⟨w.heap.size, 0, none⟩) (by first | (simp; done) | (simp; omega) | omega)).trans o0
            replace o1 : k3.cell? ⟨w.heap.size, 1, none⟩ = some (.string key) := (hk.cell (p := ⟨w.heap.size, 1, none⟩) (by first | (simp; done) | (simp; omega) | omega)).trans o1
            replace o2 : k3.cell? ⟨w.heap.size, 2, none⟩ = some (.int .i64 vk) := (hk.cell (p := ⟨w.heap.size, 2, none⟩) (by first | (simp; done) | (simp; omega) | omega)).trans o2
            replace o3 : k3.cell? ⟨w.heap.size, 3, none⟩ = some (.int .i64 vn) := (hk.cell (p := ⟨w.heap.size, 3, none⟩) (by first | (simp; done) | (simp; omega) | omega)).trans o3
            replace o4 : k3.cell? ⟨w.heap.size, 4, none⟩ = some (.string vs) := (hk.cell (p := ⟨w.heap.size, 4, none⟩) (by first | (simp; done) | (simp; omega) | omega)).trans o4
            replace o5 : k3.cell? ⟨w.heap.size, 5, none⟩ = some (.int .i64 ok) := (hk.cell (p := ⟨w.heap.size, 5, none⟩) (by first | (simp; done) | (simp; omega) | omega)).trans o5
            replace o6 : k3.cell? ⟨w.heap.size, 6, none⟩ = some (.int .i64 on) := (hk.cell (p := ⟨w.heap.size, 6, none⟩) (by first | (simp; done) | (simp; omega) | omega)).trans o6
            replace o7 : k3.cell? ⟨w.heap.size, 7, none⟩ = some (.string os) := (hk.cell (p := ⟨w.heap.size, 7, none⟩) (by first | (simp; done) | (simp; omega) | omega)).trans o7
            replace o8 : k3.cell? ⟨w.heap.size, 8, none⟩ = some (.int .i64 n) := (hk.cell (p := ⟨w.heap.size, 8, none⟩) (by first | (simp; done) | (simp; omega) | omega)).trans o8
            have h0 : k3.cell? ⟨k2.heap.size, 0, none⟩ = some (xa) := (h.cell (p := ⟨k2.heap.size, 0, none⟩) (by first | (simp; done) | (simp; omega) | omega)).trans (by go_simp)
            replace hb : Below w.heap.size w k3 := hb.trans (hk.mono hb.size)
            have lt0 : w.heap.size < k3.heap.size := (by first | (simp; done) | (simp; omega) | omega)
            have lt1 : k2.heap.size < k3.heap.size := (by first | (simp; done) | (simp; omega) | omega)
            clear h hk
            go_wp2_with fail
            refine (HOO.out _).mono ?_
            rintro e k4 ⟨rfl, h⟩
            have hk : Below k3.heap.size k3 k4 := by
              refine Below.trans ?_ (h.mono (by first | (simp; done) | (simp; omega) | omega))
              repeat' (first | with_reducible exact Below.refl _ _ | (with_reducible refine Below.alloc ?_ ?_ _) | (with_reducible refine Below.setCell ?_ ?_ _) | exact (by first | (simp; done) | (simp; omega) | omega))
            have hz := h.size
            try simp at hz
            replace o0 : k4.cell? ⟨w.heap.size, 0, none⟩ = some (.int .i64 4) := (hk.cell (p := ⟨w.heap.size, 0, none⟩) (by first | (simp; done) | (simp; omega) | omega)).trans o0
            replace o1 : k4.cell? ⟨w.heap.size, 1, none⟩ = some (.string key) := (hk.cell (p := ⟨w.heap.size, 1, none⟩) (by first | (simp; done) | (simp; omega) | omega)).trans o1
            replace o2 : k4.cell? ⟨w.heap.size, 2, none⟩ = some (.int .i64 vk) := (hk.cell (p := ⟨w.heap.size, 2, none⟩) (by first | (simp; done) | (simp; omega) | omega)).trans o2
            replace o3 : k4.cell? ⟨w.heap.size, 3, none⟩ = some (.int .i64 vn) := (hk.cell (p := ⟨w.heap.size, 3, none⟩) (by first | (simp; done) | (simp; omega) | omega)).trans o3
            replace o4 : k4.cell? ⟨w.heap.size, 4, none⟩ = some (.string vs) := (hk.cell (p := ⟨w.heap.size, 4, none⟩) (by first | (simp; done) | (simp; omega) | omega)).trans o4
            replace o5 : k4.cell? ⟨w.heap.size, 5, none⟩ = some (.int .i64 ok) := (hk.cell (p := ⟨w.heap.size, 5, none⟩) (by first | (simp; done) | (simp; omega) | omega)).trans o5
            replace o6 : k4.cell? ⟨w.heap.size, 6, none⟩ = some (.int .i64 on) := (hk.cell (p := ⟨w.heap.size, 6, none⟩) (by first | (simp; done) | (simp; omega) | omega)).trans o6
            replace o7 : k4.cell? ⟨w.heap.size, 7, none⟩ = some (.string os) := (hk.cell (p := ⟨w.heap.size, 7, none⟩) (by first | (simp; done) | (simp; omega) | omega)).trans o7
            replace o8 : k4.cell? ⟨w.heap.size, 8, none⟩ = some (.int .i64 n) := (hk.cell (p := ⟨w.heap.size, 8, none⟩) (by first | (simp; done) | (simp; omega) | omega)).trans o8
            replace h0 : k4.cell? ⟨k2.heap.size, 0, none⟩ = some (xa) := (hk.cell (p := ⟨k2.heap.size, 0, none⟩) (by first | (simp; done) | (simp; omega) | omega)).trans h0
            have n0 : k4.cell? ⟨k3.heap.size, 0, none⟩ = some (xv) := (h.cell (p := ⟨k3.heap.size, 0, none⟩) (by first | (simp; done) | (simp; omega) | omega)).trans (by go_simp)
            have nf : k4.frozen? ⟨k3.heap.size, 0, none⟩ = false := (h.frozen (p := ⟨k3.heap.size, 0, none⟩) (by first | (simp; done) | (simp; omega) | omega)).trans (by go_simp)
            replace hb : Below w.heap.size w k4 := hb.trans (hk.mono hb.size)
            have lt0 : w.heap.size < k4.heap.size := (by first | (simp; done) | (simp; omega) | omega)
            have lt1 : k2.heap.size < k4.heap.size := (by first | (simp; done) | (simp; omega) | omega)
            have lt2 : k3.heap.size < k4.heap.size := (by first | (simp; done) | (simp; omega) | omega)
            clear h hk
            go_wp2_with fail
            refine (HADD.out _).mono ?_
            rintro e k5 ⟨rfl, h⟩
            have hk : Below k4.heap.size k4 k5 := by
              refine Below.trans ?_ (h.mono (by first | (simp; done) | (simp; omega) | omega))
              repeat' (first | with_reducible exact Below.refl _ _ | (with_reducible refine Below.alloc ?_ ?_ _) | (with_reducible refine Below.setCell ?_ ?_ _) | exact (by first | (simp; done) | (simp; omega) | omega))
            have hz := h.size
            try simp at hz
            replace o0 : k5.cell? ⟨w.heap.size, 0, none⟩ = some (.int .i64 4) := (hk.cell (p := ⟨w.heap.size, 0, none⟩) (by first | (simp; done) | (simp; omega) | omega)).trans o0
            replace o1 : k5.cell? ⟨w.heap.size, 1, none⟩ = some (.string key) := (hk.cell (p := ⟨w.heap.size, 1, none⟩) (by first | (simp; done) | (simp; omega) | omega)).trans o1
            replace o2 : k5.cell? ⟨w.heap.size, 2, none⟩ = some (.int .i64 vk) := (hk.cell (p := ⟨w.heap.size, 2, none⟩) (by first | (simp; done) | (simp; omega) | omega)).trans o2
            replace o3 : k5.cell? ⟨w.heap.size, 3, none⟩ = some (.int .i64 vn) := (hk.cell (p := ⟨w.heap.size, 3, none⟩) (by first | (simp; done) | (simp; omega) | omega)).trans o3
            replace o4 : k5.cell? ⟨w.heap.size, 4, none⟩ = some (.string vs) := (hk.cell (p := ⟨w.heap.size, 4, none⟩) (by first | (simp; done) | (simp; omega) | omega)).trans o4
            replace o5 : k5.cell? ⟨w.heap.size, 5, none⟩ = some (.int .i64 ok) := (hk.cell (p := ⟨w.heap.size, 5, none⟩) (by first | (simp; done) | (simp; omega) | omega)).trans o5
            replace o6 : k5.cell? ⟨w.heap.size, 6, none⟩ = some (.int .i64 on) := (hk.cell (p := ⟨w.heap.size, 6, none⟩) (by first | (simp; done) | (simp; omega) | omega)).trans o6
            replace o7 : k5.cell? ⟨w.heap.size, 7, none⟩ = some (.string os) := (hk.cell (p := ⟨w.heap.size, 7, none⟩) (by first | (simp; done) | (simp; omega) | omega)).trans o7
            replace o8 : k5.cell? ⟨w.heap.size, 8, none⟩ = some (.int .i64 n) := (hk.cell (p := ⟨w.heap.size, 8, none⟩) (by first | (simp; done) | (simp; omega) | omega)).trans o8
            replace h0 : k5.cell? ⟨k2.heap.size, 0, none⟩ = some (xa) := (hk.cell (p := ⟨k2.heap.size, 0, none⟩) (by first | (simp; done) | (simp; omega) | omega)).trans h0
            replace n0 : k5.cell? ⟨k3.heap.size, 0, none⟩ = some (xv) := (hk.cell (p := ⟨k3.heap.size, 0, none⟩) (by first | (simp; done) | (simp; omega) | omega)).trans n0
            replace nf : k5.frozen? ⟨k3.heap.size, 0, none⟩ = false := (hk.frozen (p := ⟨k3.heap.size, 0, none⟩) (by first | (simp; done) | (simp; omega) | omega)).trans nf
            replace hb : Below w.heap.size w k5 := hb.trans (hk.mono hb.size)
            have lt0 : w.heap.size < k5.heap.size := (by first | (simp; done) | (simp; omega) | omega)
            have lt1 : k2.heap.size < k5.heap.size := (by first | (simp; done) | (simp; omega) | omega)
            have lt2 : k3.heap.size < k5.heap.size := (by first | (simp; done) | (simp; omega) | omega)
            clear h hk
            go_wp2
            go_ret
            exact HD.out 4 _ (HOE.out HM.out) (by decide) (by repeat' (first | with_reducible exact hb | (with_reducible refine Below.alloc ?_ ?_ _) | (with_reducible refine Below.setCell ?_ ?_ _) | exact (by first | (simp; done) | (simp; omega) | omega)))
          · have HE9 : Hid (addErr ⟨gk, gn, gs⟩ n = 0) := Lib.hid (by unfold addErr; rw [if_neg ha7, if_neg ha4])
            obtain ⟨Y, hY⟩ : ∃ Y, (vaOf ⟨1, gn + n, ⟨#[]⟩⟩).ins = Y := ⟨_, rfl⟩
            have hstY := fun a m W => ins_store _ Y hY a m W
            have HY := Lib.hid hY; clear hY
            have HV9 : Hid (addVal ⟨gk, gn, gs⟩ n = Y) := Lib.hid (by unfold addVal; rw [HE9.out, if_pos rfl]; exact HY.out)
            have HA7 := Lib.hid ha7; clear ha7
            have HA4 := Lib.hid ha4; clear ha4
            have HADD : Hid (∀ W, Calls Try.prog 56 #[.agg #[xa], .int .i64 n] W fun e w' => e = .returned (.tuple #[.agg #[Y], .int .i64 0]) ∧ Below W.heap.size W w') := Lib.hid (fun W => by
              refine (hadd W).mono ?_
              rintro e w' ⟨h1, h2⟩
              rw [HV9.out, HE9.out] at h1
              exact ⟨h1, h2⟩)
            clear hadd
            have HM := Lib.hid hm; clear hm
            go_enter Try.func37, Try.ntmps37
            go_wp2_with fail
            refine (omay_is _ ⟨4, key, ⟨vk, vn, vs⟩, ⟨ok, on, os⟩, n⟩ true _ rfl ⟨hok2, hok3.2.2, hok4.2.2⟩ HM.out).mono ?_
            rintro e k1 ⟨rfl, h⟩
            have hk : Below w.heap.size w k1 := by
              refine Below.trans ?_ (h.mono (by first | (simp; done) | (simp; omega) | omega))
              repeat' (first | with_reducible exact Below.refl _ _ | (with_reducible refine Below.alloc ?_ ?_ _) | (with_reducible refine Below.setCell ?_ ?_ _) | exact (by first | (simp; done) | (simp; omega) | omega))
            have hz := h.size
            try simp at hz
            have o0 : k1.cell? ⟨w.heap.size, 0, none⟩ = some (.int .i64 4) := (h.cell (p := ⟨w.heap.size, 0, none⟩) (by first | (simp; done) | (simp; omega) | omega)).trans (by go_simp)
            have o1 : k1.cell? ⟨w.heap.size, 1, none⟩ = some (.string key) := (h.cell (p := ⟨w.heap.size, 1, none⟩) (by first | (simp; done) | (simp; omega) | omega)).trans (by go_simp)
            have o2 : k1.cell? ⟨w.heap.size, 2, none⟩ = some (.int .i64 vk) := (h.cell (p := ⟨w.heap.size, 2, none⟩) (by first | (simp; done) | (simp; omega) | omega)).trans (by go_simp)
            have o3 : k1.cell? ⟨w.heap.size, 3, none⟩ = some (.int .i64 vn) := (h.cell (p := ⟨w.heap.size, 3, none⟩) (by first | (simp; done) | (simp; omega) | omega)).trans (by go_simp)
            have o4 : k1.cell? ⟨w.heap.size, 4, none⟩ = some (.string vs) := (h.cell (p := ⟨w.heap.size, 4, none⟩) (by first | (simp; done) | (simp; omega) | omega)).trans (by go_simp)
            have o5 : k1.cell? ⟨w.heap.size, 5, none⟩ = some (.int .i64 ok) := (h.cell (p := ⟨w.heap.size, 5, none⟩) (by first | (simp; done) | (simp; omega) | omega)).trans (by go_simp)
            have o6 : k1.cell? ⟨w.heap.size, 6, none⟩ = some (.int .i64 on) := (h.cell (p := ⟨w.heap.size, 6, none⟩) (by first | (simp; done) | (simp; omega) | omega)).trans (by go_simp)
            have o7 : k1.cell? ⟨w.heap.size, 7, none⟩ = some (.string os) := (h.cell (p := ⟨w.heap.size, 7, none⟩) (by first | (simp; done) | (simp; omega) | omega)).trans (by go_simp)
            have o8 : k1.cell? ⟨w.heap.size, 8, none⟩ = some (.int .i64 n) := (h.cell (p := ⟨w.heap.size, 8, none⟩) (by first | (simp; done) | (simp; omega) | omega)).trans (by go_simp)
            replace hb : Below w.heap.size w k1 := hb.trans (hk.mono hb.size)
            have lt0 : w.heap.size < k1.heap.size := (by first | (simp; done) | (simp; omega) | omega)
            clear h hk
            go_wp2_with fail
            refine (HV.out _ hb).mono ?_
            rintro e k2 ⟨rfl, h⟩
            have hk : Below k1.heap.size k1 k2 := by
              refine Below.trans ?_ (h.mono (by first | (simp; done) | (simp; omega) | omega))
              repeat' (first | with_reducible exact Below.refl _ _ | (with_reducible refine Below.alloc ?_ ?_ _) | (with_reducible refine Below.setCell ?_ ?_ _) | exact (by first | (simp; done) | (simp; omega) | omega))
            have hz := h.size
            try simp at hz
            replace o0 : k2.cell? ⟨w.heap.size, 0, none⟩ = some (.int .i64 4) := (hk.cell (p := ⟨w.heap.size, 0, none⟩) (by first | (simp; done) | (simp; omega) | omega)).trans o0
            replace o1 : k2.cell? ⟨w.heap.size, 1, none⟩ = some (.string key) := (hk.cell (p := ⟨w.heap.size, 1, none⟩) (by first | (simp; done) | (simp; omega) | omega)).trans o1
            replace o2 : k2.cell? ⟨w.heap.size, 2, none⟩ = some (.int .i64 vk) := (hk.cell (p := ⟨w.heap.size, 2, none⟩) (by first | (simp; done) | (simp; omega) | omega)).trans o2
            replace o3 : k2.cell? ⟨w.heap.size, 3, none⟩ = some (.int .i64 vn) := (hk.cell (p := ⟨w.heap.size, 3, none⟩) (by first | (simp; done) | (simp; omega) | omega)).trans o3
            replace o4 : k2.cell? ⟨w.heap.size, 4, none⟩ = some (.string vs) := (hk.cell (p := ⟨w.heap.size, 4, none⟩) (by first | (simp; done) | (simp; omega) | omega)).trans o4
            replace o5 : k2.cell? ⟨w.heap.size, 5, none⟩ = some (.int .i64 ok) := (hk.cell (p := ⟨w.heap.size, 5, none⟩) (by first | (simp; done) | (simp; omega) | omega)).trans o5
            replace o6 : k2.cell? ⟨w.heap.size, 6, none⟩ = some (.int .i64 on) := (hk.cell (p := ⟨w.heap.size, 6, none⟩) (by first | (simp; done) | (simp; omega) | omega)).trans o6
            replace o7 : k2.cell? ⟨w.heap.size, 7, none⟩ = some (.string os) := (hk.cell (p := ⟨w.heap.size, 7, none⟩) (by first | (simp; done) | (simp; omega) | omega)).trans o7
            replace o8 : k2.cell? ⟨w.heap.size, 8, none⟩ = some (.int .i64 n) := (hk.cell (p := ⟨w.heap.size, 8, none⟩) (by first | (simp; done) | (simp; omega) | omega)).trans o8
            replace hb : Below w.heap.size w k2 := hb.trans (hk.mono hb.size)
            have lt0 : w.heap.size < k2.heap.size := (by first | (simp; done) | (simp; omega) | omega)
            clear h hk
            go_wp2_with fail
            refine (HOV.out _).mono ?_
            rintro e k3 ⟨rfl, h⟩
            have hk : Below k2.heap.size k2 k3 := by
              refine Below.trans ?_ (h.mono (by first | (simp; done) | (simp; omega) | omega))
              repeat' (first | with_reducible exact Below.refl _ _ | (with_reducible refine Below.alloc ?_ ?_ _) | (with_reducible refine Below.setCell ?_ ?_ _) | exact (by first | (simp; done) | (simp; omega) | omega))
            have hz := h.size
            try simp at hz
            replace o0 : k3.cell? ⟨w.heap.size, 0, none⟩ = some (.int .i64 4) := (hk.cell (p := ⟨w.heap.size, 0, none⟩) (by first | (simp; done) | (simp; omega) | omega)).trans o0
            replace o1 : k3.cell? ⟨w.heap.size, 1, none⟩ = some (.string key) := (hk.cell (p := ⟨w.heap.size, 1, none⟩) (by first | (simp; done) | (simp; omega) | omega)).trans o1
            replace o2 : k3.cell? ⟨w.heap.size, 2, none⟩ = some (.int .i64 vk) := (hk.cell (p := ⟨w.heap.size, 2, none⟩) (by first | (simp; done) | (simp; omega) | omega)).trans o2
            replace o3 : k3.cell? ⟨w.heap.size, 3, none⟩ = some (.int .i64 vn) := (hk.cell (p := ⟨w.heap.size, 3, none⟩) (by first | (simp; done) | (simp; omega) | omega)).trans o3
            replace o4 : k3.cell? ⟨w.heap.size, 4, none⟩ = some (.string vs) := (hk.cell (p := ⟨w.heap.size, 4, none⟩) (by first | (simp; done) | (simp; omega) | omega)).trans o4
            replace o5 : k3.cell? ⟨w.heap.size, 5, none⟩ = some (.int .i64 ok) := (hk.cell (p := ⟨w.heap.size, 5, none⟩) (by first | (simp; done) | (simp; omega) | omega)).trans o5
            replace o6 : k3.cell? ⟨w.heap.size, 6, none⟩ = some (.int .i64 on) := (hk.cell (p := ⟨w.heap.size, 6, none⟩) (by first | (simp; done) | (simp; omega) | omega)).trans o6
            replace o7 : k3.cell? ⟨w.heap.size, 7, none⟩ = some (.string os) := (hk.cell (p := ⟨w.heap.size, 7, none⟩) (by first | (simp; done) | (simp; omega) | omega)).trans o7
            replace o8 : k3.cell? ⟨w.heap.size, 8, none⟩ = some (.int .i64 n) := (hk.cell (p := ⟨w.heap.size, 8, none⟩) (by first | (simp; done) | (simp; omega) | omega)).trans o8
            have h0 : k3.cell? ⟨k2.heap.size, 0, none⟩ = some (xa) := (h.cell (p := ⟨k2.heap.size, 0, none⟩) (by first | (simp; done) | (simp; omega) | omega)).trans (by go_simp)
            replace hb : Below w.heap.size w k3 := hb.trans (hk.mono hb.size)
            have lt0 : w.heap.size < k3.heap.size := (by first | (simp; done) | (simp; omega) | omega)
            have lt1 : k2.heap.size < k3.heap.size := (by first | (simp; done) | (simp; omega) | omega)
            clear h hk
            go_wp2_with fail
            refine (HOO.out _).mono ?_
            rintro e k4 ⟨rfl, h⟩
            have hk : Below k3.heap.size k3 k4 := by
              refine Below.trans ?_ (h.mono (by first | (simp; done) | (simp; omega) | omega))
              repeat' (first | with_reducible exact Below.refl _ _ | (with_reducible refine Below.alloc ?_ ?_ _) | (with_reducible refine Below.setCell ?_ ?_ _) | exact (by first | (simp; done) | (simp; omega) | omega))
            have hz := h.size
            try simp at hz
            replace o0 : k4.cell? ⟨w.heap.size, 0, none⟩ = some (.int .i64 4) := (hk.cell (p := ⟨w.heap.size, 0, none⟩) (by first | (simp; done) | (simp; omega) | omega)).trans o0
            replace o1 : k4.cell? ⟨w.heap.size, 1, none⟩ = some (.string key) := (hk.cell (p := ⟨w.heap.size, 1, none⟩) (by first | (simp; done) | (simp; omega) | omega)).trans o1
            replace o2 : k4.cell? ⟨w.heap.size, 2, none⟩ = some (.int .i64 vk) := (hk.cell (p := ⟨w.heap.size, 2, none⟩) (by first | (simp; done) | (simp; omega) | omega)).trans o2
            replace o3 : k4.cell? ⟨w.heap.size, 3, none⟩ = some (.int .i64 vn) := (hk.cell (p := ⟨w.heap.size, 3, none⟩) (by first | (simp; done) | (simp; omega) | omega)).trans o3
            replace o4 : k4.cell? ⟨w.heap.size, 4, none⟩ = some (.string vs) := (hk.cell (p := ⟨w.heap.size, 4, none⟩) (by first | (simp; done) | (simp; omega) | omega)).trans o4
            replace o5 : k4.cell? ⟨w.heap.size, 5, none⟩ = some (.int .i64 ok) := (hk.cell (p := ⟨w.heap.size, 5, none⟩) (by first | (simp; done) | (simp; omega) | omega)).trans o5
            replace o6 : k4.cell? ⟨w.heap.size, 6, none⟩ = some (.int .i64 on) := (hk.cell (p := ⟨w.heap.size, 6, none⟩) (by first | (simp; done) | (simp; omega) | omega)).trans o6
            replace o7 : k4.cell? ⟨w.heap.size, 7, none⟩ = some (.string os) := (hk.cell (p := ⟨w.heap.size, 7, none⟩) (by first | (simp; done) | (simp; omega) | omega)).trans o7
            replace o8 : k4.cell? ⟨w.heap.size, 8, none⟩ = some (.int .i64 n) := (hk.cell (p := ⟨w.heap.size, 8, none⟩) (by first | (simp; done) | (simp; omega) | omega)).trans o8
            replace h0 : k4.cell? ⟨k2.heap.size, 0, none⟩ = some (xa) := (hk.cell (p := ⟨k2.heap.size, 0, none⟩) (by first | (simp; done) | (simp; omega) | omega)).trans h0
            have n0 : k4.cell? ⟨k3.heap.size, 0, none⟩ = some (xv) := (h.cell (p := ⟨k3.heap.size, 0, none⟩) (by first | (simp; done) | (simp; omega) | omega)).trans (by go_simp)
            have nf : k4.frozen? ⟨k3.heap.size, 0, none⟩ = false := (h.frozen (p := ⟨k3.heap.size, 0, none⟩) (by first | (simp; done) | (simp; omega) | omega)).trans (by go_simp)
            replace hb : Below w.heap.size w k4 := hb.trans (hk.mono hb.size)
            have lt0 : w.heap.size < k4.heap.size := (by first | (simp; done) | (simp; omega) | omega)
            have lt1 : k2.heap.size < k4.heap.size := (by first | (simp; done) | (simp; omega) | omega)
            have lt2 : k3.heap.size < k4.heap.size := (by first | (simp; done) | (simp; omega) | omega)
            clear h hk
            go_wp2_with fail
            refine (HADD.out _).mono ?_
            rintro e k5 ⟨rfl, h⟩
            have hk : Below k4.heap.size k4 k5 := by
              refine Below.trans ?_ (h.mono (by first | (simp; done) | (simp; omega) | omega))
              repeat' (first | with_reducible exact Below.refl _ _ | (with_reducible refine Below.alloc ?_ ?_ _) | (with_reducible refine Below.setCell ?_ ?_ _) | exact (by first | (simp; done) | (simp; omega) | omega))
            have hz := h.size
            try simp at hz
            replace o0 : k5.cell? ⟨w.heap.size, 0, none⟩ = some (.int .i64 4) := (hk.cell (p := ⟨w.heap.size, 0, none⟩) (by first | (simp; done) | (simp; omega) | omega)).trans o0
            replace o1 : k5.cell? ⟨w.heap.size, 1, none⟩ = some (.string key) := (hk.cell (p := ⟨w.heap.size, 1, none⟩) (by first | (simp; done) | (simp; omega) | omega)).trans o1
            replace o2 : k5.cell? ⟨w.heap.size, 2, none⟩ = some (.int .i64 vk) := (hk.cell (p := ⟨w.heap.size, 2, none⟩) (by first | (simp; done) | (simp; omega) | omega)).trans o2
            replace o3 : k5.cell? ⟨w.heap.size, 3, none⟩ = some (.int .i64 vn) := (hk.cell (p := ⟨w.heap.size, 3, none⟩) (by first | (simp; done) | (simp; omega) | omega)).trans o3
            replace o4 : k5.cell? ⟨w.heap.size, 4, none⟩ = some (.string vs) := (hk.cell (p := ⟨w.heap.size, 4, none⟩) (by first | (simp; done) | (simp; omega) | omega)).trans o4
            replace o5 : k5.cell? ⟨w.heap.size, 5, none⟩ = some (.int .i64 ok) := (hk.cell (p := ⟨w.heap.size, 5, none⟩) (by first | (simp; done) | (simp; omega) | omega)).trans o5
            replace o6 : k5.cell? ⟨w.heap.size, 6, none⟩ = some (.int .i64 on) := (hk.cell (p := ⟨w.heap.size, 6, none⟩) (by first | (simp; done) | (simp; omega) | omega)).trans o6
            replace o7 : k5.cell? ⟨w.heap.size, 7, none⟩ = some (.string os) := (hk.cell (p := ⟨w.heap.size, 7, none⟩) (by first | (simp; done) | (simp; omega) | omega)).trans o7
            replace o8 : k5.cell? ⟨w.heap.size, 8, none⟩ = some (.int .i64 n) := (hk.cell (p := ⟨w.heap.size, 8, none⟩) (by first | (simp; done) | (simp; omega) | omega)).trans o8
            replace h0 : k5.cell? ⟨k2.heap.size, 0, none⟩ = some (xa) := (hk.cell (p := ⟨k2.heap.size, 0, none⟩) (by first | (simp; done) | (simp; omega) | omega)).trans h0
            replace n0 : k5.cell? ⟨k3.heap.size, 0, none⟩ = some (xv) := (hk.cell (p := ⟨k3.heap.size, 0, none⟩) (by first | (simp; done) | (simp; omega) | omega)).trans n0
            replace nf : k5.frozen? ⟨k3.heap.size, 0, none⟩ = false := (hk.frozen (p := ⟨k3.heap.size, 0, none⟩) (by first | (simp; done) | (simp; omega) | omega)).trans nf
            replace hb : Below w.heap.size w k5 := hb.trans (hk.mono hb.size)
            have lt0 : w.heap.size < k5.heap.size := (by first | (simp; done) | (simp; omega) | omega)
            have lt1 : k2.heap.size < k5.heap.size := (by first | (simp; done) | (simp; omega) | omega)
            have lt2 : k3.heap.size < k5.heap.size := (by first | (simp; done) | (simp; omega) | omega)
            clear h hk
            have hap : apV (dGet l key).1 ⟨4, key, ⟨vk, vn, vs⟩, ⟨ok, on, os⟩, n⟩ = ⟨1, gn + n, ⟨#[]⟩⟩ := by rw [HGR.out]; rfl
            have HAP := Lib.hid hap; clear hap
            go_wp2_with fail
            refine (HS.out (apV (dGet l key).1 ⟨4, key, ⟨vk, vn, vs⟩, ⟨ok, on, os⟩, n⟩) _ _ _ (by repeat' (first | with_reducible exact hb | (with_reducible refine Below.alloc ?_ ?_ _) | (with_reducible refine Below.setCell ?_ ?_ _) | exact (by first | (simp; done) | (simp; omega) | omega))) (by rw [HAP.out]; exact HY.out) (by rw [HAP.out]; exact rfl) rfl hok2).mono ?_
            rintro e kx hs
            have hs4 := HSD.out _ _ _ hs (by repeat' (first | with_reducible exact hb | (with_reducible refine Below.alloc ?_ ?_ _) | (with_reducible refine Below.setCell ?_ ?_ _) | exact (by first | (simp; done) | (simp; omega) | omega))) HM.out (fun h => absurd h.1 (by show ¬ (4 : Int) = 3; decide)) (fun h => by have h0 := h.2; rw [HGR.out] at h0; have h1 := HGT.out.1 h0.1; have h2 : gk ≠ 1 := h0.2; have := H02.out; have := HA7.out; omega) (fun h => by have h0 := h.2; rw [HGR.out] at h0; exact HA4.out h0)
            obtain ⟨c, v9, rfl, hs2⟩ := hs
            clear hs2
            have HS4 := Lib.hid hs4; clear hs4
            go_wp2
            go_ret
            exact HS4.out
      · have hk4 : (k == 4) = false := by rw [beq_eq_false_iff_ne]; exact kk4
        have HM := Lib.hid hm; clear hm
        go_enter Try.func37, Try.ntmps37
        go_wp2_with fail
        refine (omay_is _ ⟨k, key, ⟨vk, vn, vs⟩, ⟨ok, on, os⟩, n⟩ true _ rfl ⟨hok2, hok3.2.2, hok4.2.2⟩ HM.out).mono ?_
        rintro e k1 ⟨rfl, h⟩
        have hk : Below w.heap.size w k1 := by
          refine Below.trans ?_ (h.mono (by first | (simp; done) | (simp; omega) | omega))
          repeat' (first | with_reducible exact Below.refl _ _ | (with_reducible refine Below.alloc ?_ ?_ _) | (with_reducible refine Below.setCell ?_ ?_ _) | exact (by first | (simp; done) | (simp; omega) | omega))
        have hz := h.size
        try simp at hz
        have o0 : k1.cell? ⟨w.heap.size, 0, none⟩ = some (.int .i64 k) := (h.cell (p := ⟨w.heap.size, 0, none⟩) (by first | (simp; done) | (simp; omega) | omega)).trans (by go_simp)
        have o1 : k1.cell? ⟨w.heap.size, 1, none⟩ = some (.string key) := (h.cell (p := ⟨w.heap.size, 1, none⟩) (by first | (simp; done) | (simp; omega) | omega)).trans (by go_simp)
        have o2 : k1.cell? ⟨w.heap.size, 2, none⟩ = some (.int .i64 vk) := (h.cell (p := ⟨w.heap.size, 2, none⟩) (by first | (simp; done) | (simp; omega) | omega)).trans (by go_simp)
        have o3 : k1.cell? ⟨w.heap.size, 3, none⟩ = some (.int .i64 vn) := (h.cell (p := ⟨w.heap.size, 3, none⟩) (by first | (simp; done) | (simp; omega) | omega)).trans (by go_simp)
        have o4 : k1.cell? ⟨w.heap.size, 4, none⟩ = some (.string vs) := (h.cell (p := ⟨w.heap.size, 4, none⟩) (by first | (simp; done) | (simp; omega) | omega)).trans (by go_simp)
        have o5 : k1.cell? ⟨w.heap.size, 5, none⟩ = some (.int .i64 ok) := (h.cell (p := ⟨w.heap.size, 5, none⟩) (by first | (simp; done) | (simp; omega) | omega)).trans (by go_simp)
        have o6 : k1.cell? ⟨w.heap.size, 6, none⟩ = some (.int .i64 on) := (h.cell (p := ⟨w.heap.size, 6, none⟩) (by first | (simp; done) | (simp; omega) | omega)).trans (by go_simp)
        have o7 : k1.cell? ⟨w.heap.size, 7, none⟩ = some (.string os) := (h.cell (p := ⟨w.heap.size, 7, none⟩) (by first | (simp; done) | (simp; omega) | omega)).trans (by go_simp)
        have o8 : k1.cell? ⟨w.heap.size, 8, none⟩ = some (.int .i64 n) := (h.cell (p := ⟨w.heap.size, 8, none⟩) (by first | (simp; done) | (simp; omega) | omega)).trans (by go_simp)
        replace hb : Below w.heap.size w k1 := hb.trans (hk.mono hb.size)
        have lt0 : w.heap.size < k1.heap.size := (by first | (simp; done) | (simp; omega) | omega)
        clear h hk
        go_wp2_with fail
        refine (HV.out _ hb).mono ?_
        rintro e k2 ⟨rfl, h⟩
        have hk : Below k1.heap.size k1 k2 := by
          refine Below.trans ?_ (h.mono (by first | (simp; done) | (simp; omega) | omega))
          repeat' (first | with_reducible exact Below.refl _ _ | (with_reducible refine Below.alloc ?_ ?_ _) | (with_reducible refine Below.setCell ?_ ?_ _) | exact (by first | (simp; done) | (simp; omega) | omega))
        have hz := h.size
        try simp at hz
        replace o0 : k2.cell? ⟨w.heap.size, 0, none⟩ = some (.int .i64 k) := (hk.cell (p := ⟨w.heap.size, 0, none⟩) (by first | (simp; done) | (simp; omega) | omega)).trans o0
        replace o1 : k2.cell? ⟨w.heap.size, 1, none⟩ = some (.string key) := (hk.cell (p := ⟨w.heap.size, 1, none⟩) (by first | (simp; done) | (simp; omega) | omega)).trans o1
        replace o2 : k2.cell? ⟨w.heap.size, 2, none⟩ = some (.int .i64 vk) := (hk.cell (p := ⟨w.heap.size, 2, none⟩) (by first | (simp; done) | (simp; omega) | omega)).trans o2
        replace o3 : k2.cell? ⟨w.heap.size, 3, none⟩ = some (.int .i64 vn) := (hk.cell (p := ⟨w.heap.size, 3, none⟩) (by first | (simp; done) | (simp; omega) | omega)).trans o3
        replace o4 : k2.cell? ⟨w.heap.size, 4, none⟩ = some (.string vs) := (hk.cell (p := ⟨w.heap.size, 4, none⟩) (by first | (simp; done) | (simp; omega) | omega)).trans o4
        replace o5 : k2.cell? ⟨w.heap.size, 5, none⟩ = some (.int .i64 ok) := (hk.cell (p := ⟨w.heap.size, 5, none⟩) (by first | (simp; done) | (simp; omega) | omega)).trans o5
        replace o6 : k2.cell? ⟨w.heap.size, 6, none⟩ = some (.int .i64 on) := (hk.cell (p := ⟨w.heap.size, 6, none⟩) (by first | (simp; done) | (simp; omega) | omega)).trans o6
        replace o7 : k2.cell? ⟨w.heap.size, 7, none⟩ = some (.string os) := (hk.cell (p := ⟨w.heap.size, 7, none⟩) (by first | (simp; done) | (simp; omega) | omega)).trans o7
        replace o8 : k2.cell? ⟨w.heap.size, 8, none⟩ = some (.int .i64 n) := (hk.cell (p := ⟨w.heap.size, 8, none⟩) (by first | (simp; done) | (simp; omega) | omega)).trans o8
        replace hb : Below w.heap.size w k2 := hb.trans (hk.mono hb.size)
        have lt0 : w.heap.size < k2.heap.size := (by first | (simp; done) | (simp; omega) | omega)
        clear h hk
        go_wp2_with fail
        refine (HOV.out _).mono ?_
        rintro e k3 ⟨rfl, h⟩
        have hk : Below k2.heap.size k2 k3 := by
          refine Below.trans ?_ (h.mono (by first | (simp; done) | (simp; omega) | omega))
          repeat' (first | with_reducible exact Below.refl _ _ | (with_reducible refine Below.alloc ?_ ?_ _) | (with_reducible refine Below.setCell ?_ ?_ _) | exact (by first | (simp; done) | (simp; omega) | omega))
        have hz := h.size
        try simp at hz
        replace o0 : k3.cell? ⟨w.heap.size, 0, none⟩ = some (.int .i64 k) := (hk.cell (p := ⟨w.heap.size, 0, none⟩) (by first | (simp; done) | (simp; omega) | omega)).trans o0
        replace o1 : k3.cell? ⟨w.heap.size, 1, none⟩ = some (.string key) := (hk.cell (p := ⟨w.heap.size, 1, none⟩) (by first | (simp; done) | (simp; omega) | omega)).trans o1
        replace o2 : k3.cell? ⟨w.heap.size, 2, none⟩ = some (.int .i64 vk) := (hk.cell (p := ⟨w.heap.size, 2, none⟩) (by first | (simp; done) | (simp; omega) | omega)).trans o2
        replace o3 : k3.cell? ⟨w.heap.size, 3, none⟩ = some (.int .i64 vn) := (hk.cell (p := ⟨w.heap.size, 3, none⟩) (by first | (simp; done) | (simp; omega) | omega)).trans o3
        replace o4 : k3.cell? ⟨w.heap.size, 4, none⟩ = some (.string vs) := (hk.cell (p := ⟨w.heap.size, 4, none⟩) (by first | (simp; done) | (simp; omega) | omega)).trans o4
        replace o5 : k3.cell? ⟨w.heap.size, 5, none⟩ = some (.int .i64 ok) := (hk.cell (p := ⟨w.heap.size, 5, none⟩) (by first | (simp; done) | (simp; omega) | omega)).trans o5
        replace o6 : k3.cell? ⟨w.heap.size, 6, none⟩ = some (.int .i64 on) := (hk.cell (p := ⟨w.heap.size, 6, none⟩) (by first | (simp; done) | (simp; omega) | omega)).trans o6
        replace o7 : k3.cell? ⟨w.heap.size, 7, none⟩ = some (.string os) := (hk.cell (p := ⟨w.heap.size, 7, none⟩) (by first | (simp; done) | (simp; omega) | omega)).trans o7
        replace o8 : k3.cell? ⟨w.heap.size, 8, none⟩ = some (.int .i64 n) := (hk.cell (p := ⟨w.heap.size, 8, none⟩) (by first | (simp; done) | (simp; omega) | omega)).trans o8
        have h0 : k3.cell? ⟨k2.heap.size, 0, none⟩ = some (xa) := (h.cell (p := ⟨k2.heap.size, 0, none⟩) (by first | (simp; done) | (simp; omega) | omega)).trans (by go_simp)
        replace hb : Below w.heap.size w k3 := hb.trans (hk.mono hb.size)
        have lt0 : w.heap.size < k3.heap.size := (by first | (simp; done) | (simp; omega) | omega)
        have lt1 : k2.heap.size < k3.heap.size := (by first | (simp; done) | (simp; omega) | omega)
        clear h hk
        go_wp2_with fail
        refine (HOO.out _).mono ?_
        rintro e k4 ⟨rfl, h⟩
        have hk : Below k3.heap.size k3 k4 := by
          refine Below.trans ?_ (h.mono (by first | (simp; done) | (simp; omega) | omega))
          repeat' (first | with_reducible exact Below.refl _ _ | (with_reducible refine Below.alloc ?_ ?_ _) | (with_reducible refine Below.setCell ?_ ?_ _) | exact (by first | (simp; done) | (simp; omega) | omega))
        have hz := h.size
        try simp at hz
        replace o0 : k4.cell? ⟨w.heap.size, 0, none⟩ = some (.int .i64 k) := (hk.cell (p := ⟨w.heap.size, 0, none⟩) (by first | (simp; done) | (simp; omega) | omega)).trans o0
        replace o1 : k4.cell? ⟨w.heap.size, 1, none⟩ = some (.string key) := (hk.cell (p := ⟨w.heap.size, 1, none⟩) (by first | (simp; done) | (simp; omega) | omega)).trans o1
        replace o2 : k4.cell? ⟨w.heap.size, 2, none⟩ = some (.int .i64 vk) := (hk.cell (p := ⟨w.heap.size, 2, none⟩) (by first | (simp; done) | (simp; omega) | omega)).trans o2
        replace o3 : k4.cell? ⟨w.heap.size, 3, none⟩ = some (.int .i64 vn) := (hk.cell (p := ⟨w.heap.size, 3, none⟩) (by first | (simp; done) | (simp; omega) | omega)).trans o3
        replace o4 : k4.cell? ⟨w.heap.size, 4, none⟩ = some (.string vs) := (hk.cell (p := ⟨w.heap.size, 4, none⟩) (by first | (simp; done) | (simp; omega) | omega)).trans o4
        replace o5 : k4.cell? ⟨w.heap.size, 5, none⟩ = some (.int .i64 ok) := (hk.cell (p := ⟨w.heap.size, 5, none⟩) (by first | (simp; done) | (simp; omega) | omega)).trans o5
        replace o6 : k4.cell? ⟨w.heap.size, 6, none⟩ = some (.int .i64 on) := (hk.cell (p := ⟨w.heap.size, 6, none⟩) (by first | (simp; done) | (simp; omega) | omega)).trans o6
        replace o7 : k4.cell? ⟨w.heap.size, 7, none⟩ = some (.string os) := (hk.cell (p := ⟨w.heap.size, 7, none⟩) (by first | (simp; done) | (simp; omega) | omega)).trans o7
        replace o8 : k4.cell? ⟨w.heap.size, 8, none⟩ = some (.int .i64 n) := (hk.cell (p := ⟨w.heap.size, 8, none⟩) (by first | (simp; done) | (simp; omega) | omega)).trans o8
        replace h0 : k4.cell? ⟨k2.heap.size, 0, none⟩ = some (xa) := (hk.cell (p := ⟨k2.heap.size, 0, none⟩) (by first | (simp; done) | (simp; omega) | omega)).trans h0
        have n0 : k4.cell? ⟨k3.heap.size, 0, none⟩ = some (xv) := (h.cell (p := ⟨k3.heap.size, 0, none⟩) (by first | (simp; done) | (simp; omega) | omega)).trans (by go_simp)
        have nf : k4.frozen? ⟨k3.heap.size, 0, none⟩ = false := (h.frozen (p := ⟨k3.heap.size, 0, none⟩) (by first | (simp; done) | (simp; omega) | omega)).trans (by go_simp)
        replace hb : Below w.heap.size w k4 := hb.trans (hk.mono hb.size)
        have lt0 : w.heap.size < k4.heap.size := (by first | (simp; done) | (simp; omega) | omega)
        have lt1 : k2.heap.size < k4.heap.size := (by first | (simp; done) | (simp; omega) | omega)
        have lt2 : k3.heap.size < k4.heap.size := (by first | (simp; done) | (simp; omega) | omega)
        clear h hk
        have hap : apV (dGet l key).1 ⟨k, key, ⟨vk, vn, vs⟩, ⟨ok, on, os⟩, n⟩ = ⟨vk, vn, vs⟩ := by unfold apV; rw [if_neg (by exact kk4)]
        have HAP := Lib.hid hap; clear hap
        go_wp2_with fail
        refine (HS.out (apV (dGet l key).1 ⟨k, key, ⟨vk, vn, vs⟩, ⟨ok, on, os⟩, n⟩) _ _ _ (by repeat' (first | with_reducible exact hb | (with_reducible refine Below.alloc ?_ ?_ _) | (with_reducible refine Below.setCell ?_ ?_ _) | exact (by first | (simp; done) | (simp; omega) | omega))) (by rw [HAP.out]; exact (by rw [hvv]; exact hxv)) (by rw [HAP.out]; exact hmv) rfl hok2).mono ?_
        rintro e kx hs
        have hs4 := HSD.out _ _ _ hs (by repeat' (first | with_reducible exact hb | (with_reducible refine Below.alloc ?_ ?_ _) | (with_reducible refine Below.setCell ?_ ?_ _) | exact (by first | (simp; done) | (simp; omega) | omega))) HM.out (fun h => absurd h.1 (by exact kk3)) (fun h => absurd h.1 (by exact kk4)) (fun h => absurd h.1 (by exact kk4))
        obtain ⟨c, v9, rfl, hs2⟩ := hs
        clear hs2
        have HS4 := Lib.hid hs4; clear hs4
        go_wp2
        go_ret
        exact HS4.out
end Go.Proofs.Ytegkhkcnoahhdaa
/-
  A document's Apply does a group of operations as the plain function says, or leaves the document, with the first error.
  The document is a good one, its rows its own; the operations lie in memory, their integers are in their ranges.
-/
namespace Go.Proofs.Ytegkhkcnoahhdaa
open Go.RowKit
set_option maxRecDepth 100000

/-- what Apply answers, and what is there behind it -/
def ApR (B g : Nat) (l : List Par) (os : List Opn) (w : World) (e : Ending) (w' : World) : Prop :=
  e = .returned (.int .i64 ((dApply l os).2 : Nat)) ∧ (∃ v', DocO w' B g v' (dApply l os).1) ∧ w.grownBy w' (some g)
theorem Below.by_ {w w' : World} {row : Option Nat} (h : Below w.heap.size w w') : w.grownBy w' row := ⟨h.os, h.tape, h.output, h.size, fun k hk _ => h.block k hk⟩
theorem grownBy_trans {a b c : World} {row : Option Nat} (h : a.grownBy b row) (k : b.grownBy c row) : a.grownBy c row :=
  ⟨k.os.trans h.os, k.tape.trans h.tape, k.output.trans h.output, Nat.le_trans h.size k.size, fun j hj hn => (k.block j (Nat.lt_of_lt_of_le hj h.size) hn).trans (h.block j hj hn)⟩
theorem apR_same {B g : Nat} {v : Value} {l : List Par} {os : List Opn} {w w' : World} {k : Nat} (h : DocO w B g v l) (hb : Below w.heap.size w w') (hd : dApply l os = (l, k)) : ApR B g l os w (.returned (.int .i64 k)) w' :=
  ⟨by rw [hd], ⟨v, by rw [hd]; exact h.below hb⟩, Below.by_ hb⟩
set_option maxHeartbeats 1000000 in
theorem dapply_any (B g Bo : Nat) (v u : Value) (l : List Par) (os : List Opn) (w : World) (h : DocO w B g v l) (hg : Gd l) (ho : Ops w Bo u os) (hBo : Bo ≤ w.heap.size) (hok : ∀ o ∈ os, o.ok) :
    Calls Try.prog 21 #[.pointer (some ⟨g, 0, none⟩), u] w (ApR B g l os w) := by
  obtain ⟨A, c, rfl, hc, hcell⟩ := ho
  have HH := Lib.hid h
  by_cases h18 : os.length < 1 ∨ 8 < os.length
  · have hd : dApply l os = (l, 1) := by unfold dApply; rw [if_pos h18]
    have HD := Lib.hid hd
    clear hd h
    rcases h18 with h1 | h1
    · go_enter Try.func21, Try.ntmps21
      go_wp2
      go_ret
      exact apR_same HH.out (Below.refl _ _) HD.out
    · go_enter Try.func21, Try.ntmps21
      go_wp2
      go_ret
      exact apR_same HH.out (Below.refl _ _) HD.out
  · have hd : dApply l os = apGo l l os := by unfold dApply; rw [if_neg h18]
    have hn1 : ¬ os.length < 1 := fun e => h18 (.inl e)
    have hn8 : ¬ 8 < os.length := fun e => h18 (.inr e)
    obtain ⟨go, oo, rfl, hgo, hcs⟩ := hcell (by omega)
    have hdocR := h.docR
    have hgw := h.lt
    have HC := Lib.hid hcs
    have HD := Lib.hid hd
    have HG := Lib.hid hg
    have HO := Lib.hid hok
    clear hcs hcell hd h18 hg hok
    go_enter Try.func21, Try.ntmps21
    go_wp2_with fail
    refine (dcopy_any w.heap.size g l w hdocR (Nat.le_refl _) (Nat.le_trans HG.out.len (by decide))).mono ?_
    rintro e k1 ⟨g2, v2, rfl, hnew, hb⟩
    have hg2 := hnew.lo
    have HN := Lib.hid hnew
    clear hnew h hdocR
    have hokN := HN.out.lt
    go_wp2
    go_loopw [25] (fun i wr => ∃ (k : Nat) (x : List Par) (v3 : Value), i = .int .i64 k ∧ k ≤ os.length ∧ DocO wr w.heap.size g2 v3 x ∧ Gd x ∧ apGo l x (os.drop k) = apGo l l os ∧ Below w.heap.size w wr) (fun i _ => os.length - (intOf i).toNat)
    case atStart => exact ⟨0, l, v2, rfl, by omega, HN.out, HG.out, by simp, hb⟩
    case round =>
      obtain ⟨k, x, v3, rfl, hk, hdo, hgx, hap, hbw⟩ := hrel
      have HDO := Lib.hid hdo
      have HGX := Lib.hid hgx
      have hgr := HDO.out.lt
      clear hdo hgx
      by_cases hkl : k < os.length
      · obtain ⟨y, hy⟩ : ∃ y, os[k] = y := ⟨_, rfl⟩
        have hr := HC.out k hkl
        have hyok := HO.out os[k] (List.getElem_mem ..)
        rw [hy] at hr hyok
        rw [List.drop_eq_getElem_cons hkl, hy, apGo_cons] at hap
        have hr2 := range_below hr hbw (Nat.lt_of_lt_of_le hgo hBo)
        clear hr hy
        have HX := Lib.hid hyok; clear hyok
        have HAP := Lib.hid hap; clear hap
        obtain ⟨q, hq⟩ : ∃ q, opErr x y = q := ⟨_, rfl⟩
        have HQ := Lib.hid hq; clear hq
        have hdo := fun W (hb : Below wr.heap.size wr W) => ddo_any w.heap.size g2 v3 x y W (HDO.out.below hb) HGX.out HX.out
        obtain ⟨xk, xkey, ⟨xvk, xvn, xvs⟩, ⟨xok, xon, xos⟩, xn⟩ := y
        have HDD := Lib.hid hdo; clear hdo
        unfold Opn.cs at hr2
        simp only at hr2
        go_wp2_with (refine wpList_load_mid rfl 38 _ rfl go (oo + k * 9) rfl _ _ hr2 Try.underlying38 rfl Try.infoOp ?_)
        refine (HDD.out _ (below_one wr _)).mono ?_
        rintro e w1 ⟨rfl, hdo2, hb1⟩
        rw [HQ.out] at hdo2
        rw [HQ.out]
        have hbw1 : Below w.heap.size w w1 := (hbw.alloc hbw.size _).trans hb1
        have HD2 := Lib.hid hdo2
        clear hr2 hb1 hdo2
        by_cases hq0 : q = 0
        · subst hq0
          obtain ⟨v4, hd4⟩ := HD2.out rfl
          have HF := Lib.hid hd4; clear hd4
          go_wp2
          go_roundw
          case rel => exact ⟨k + 1, _, v4, by go_num, by omega, HF.out, HGX.out.op HX.out HQ.out, by have := HAP.out; rw [if_pos HQ.out] at this; exact this, hbw1⟩
          case measure => simp [intOf]; omega
        · have hqb : ((q : Int) != 0) = true := by simp; omega
          have hqc : ¬ ((q : Int) = 0) := by omega
          go_wp2
          go_ret
          exact apR_same HH.out hbw1 (by rw [HD.out, ← HAP.out, if_neg (by rw [HQ.out]; exact hq0), HQ.out])
      · have hkn : os.length ≤ k := by omega
        rw [List.drop_of_length_le hkn] at hap
        have hap2 : apGo l l os = (x, 0) := by rw [← hap]; rfl
        have HAP := Lib.hid hap2; clear hap hap2
        obtain ⟨A3, m3, c3, rfl⟩ := own_slice3 HDO.out.own
        have r2 := cell_one HDO.out.here
        have hgb : g < wr.heap.size := Nat.lt_of_lt_of_le hgw hbw.size
        have hh := (HH.out.below hbw).here
        have r1 := cell_one hh
        have f1 := frozen_one hh
        have hne : g2 ≠ g := by omega
        have HHH := Lib.hid hh; clear hh
        go_wp2
        go_ret
        refine ⟨by rw [HD.out, HAP.out]; rfl, ⟨.slice A3 m3 c3, ?_⟩, grownBy_trans (Below.by_ hbw) (setCell_grown wr _ _)⟩
        rw [HD.out, HAP.out]
        exact docO_store HHH.out (ownsRow_down HDO.out.own (Nat.le_trans HH.out.lo (Nat.le_of_lt hgw))) HH.out.lo
end Go.Proofs.Ytegkhkcnoahhdaa
