/-
  Who asks for an int and has none panics; who has one does not. There are no conditions.
-/
import Derived.Test.YtffklbkdmfeimaaRows
import Derived.Test.YtffklbkdmfeimaaL4Begun
import Derived.Test.YtffklbkdmfeimaaL4Cut
import Derived.Test.YtffklbkdmfeimaaVaPlain
import Derived.Test.YtffklbkdmfeimaaLawKit
import Derived.WalkKit
import Derived.ProofKit
import Derived.OpenShut
import Derived.ShutString
namespace Go.Proofs.Ytffklbkdmfeimaa.valueMust
open Go.ChangeShapes Go.WideShapes Go.ChangeAt Go.RowKit
open Go.ChangeMaps (open_string shut_string)
set_option linter.unusedVariables false

theorem own : ownKnob Try.prog.godebug = none := by kernel_rfl

set_option maxRecDepth 100000 in
set_option maxHeartbeats 8000000 in
theorem walk (w : World) (a0 : Raw) (w0 : a0.fits) :
    Calls Try.prog 6 #[a0.val] w fun e w' => e = .returned (.bool true) ∧ Below w.heap.size w w' := by
  obtain ⟨rk, rn, rs⟩ := a0
  obtain ⟨⟨r0, r1⟩, ⟨r2, r3⟩, r4⟩ := w0
  simp only at r0 r1 r2 r3 r4
  unfold Raw.val
  have hb := Below.refl w.heap.size w
  go_enter Try.func6, Try.ntmps6
  go_wp2_with fail
  refine (begun4_any _).mono ?_
  rintro e k1 ⟨rfl, h⟩
  have hk : Below w.heap.size w k1 := by
    refine Below.trans ?_ (h.mono (by first | (simp; done) | (simp; omega) | omega))
    repeat' (first | exact Below.refl _ _ | refine Below.alloc ?_ (by first | (simp; done) | (simp; omega) | omega) _ | refine Below.setCell ?_ (by first | (simp; done) | (simp; omega) | omega) _)
  have hz := h.size
  try simp at hz
  have rf0 : k1.frozen? ⟨w.heap.size, 0, none⟩ = false := (h.frozen (p := ⟨w.heap.size, 0, none⟩) (by first | (simp; done) | (simp; omega) | omega)).trans (by go_simp)
  have rf1 : k1.frozen? ⟨w.heap.size, 1, none⟩ = false := (h.frozen (p := ⟨w.heap.size, 1, none⟩) (by first | (simp; done) | (simp; omega) | omega)).trans (by go_simp)
  have rf2 : k1.frozen? ⟨w.heap.size, 2, none⟩ = false := (h.frozen (p := ⟨w.heap.size, 2, none⟩) (by first | (simp; done) | (simp; omega) | omega)).trans (by go_simp)
  have rc0 : k1.cell? ⟨w.heap.size, 0, none⟩ = some (.int .i64 rk) := (h.cell (p := ⟨w.heap.size, 0, none⟩) (by first | (simp; done) | (simp; omega) | omega)).trans (by go_simp)
  have rc1 : k1.cell? ⟨w.heap.size, 1, none⟩ = some (.int .i64 rn) := (h.cell (p := ⟨w.heap.size, 1, none⟩) (by first | (simp; done) | (simp; omega) | omega)).trans (by go_simp)
  have rc2 : k1.cell? ⟨w.heap.size, 2, none⟩ = some (.string rs) := (h.cell (p := ⟨w.heap.size, 2, none⟩) (by first | (simp; done) | (simp; omega) | omega)).trans (by go_simp)
  have : w.heap.size < k1.heap.size := by omega
  have hb : Below w.heap.size w k1 := hb.trans (hk.mono hb.size)
  clear h hk
  go_wp2_with fail
  refine (l4cut_is _ rk rn rs _ rfl).mono ?_
  rintro e k2 ⟨t, ht, rfl, h⟩
  rcases va_cases rk rn t with ⟨hm, hv⟩ | ⟨rfl, rfl, rfl⟩ | ⟨rfl, rfl⟩ | ⟨rfl, rfl, hm, hv⟩
  · have HM := Lib.hid hm; clear hm
    have HV := Lib.hid hv; clear hv
    have hk : Below k1.heap.size k1 k2 := by
      refine Below.trans ?_ (h.mono (by first | (simp; done) | (simp; omega) | omega))
      repeat' (first | exact Below.refl _ _ | refine Below.alloc ?_ (by first | (simp; done) | (simp; omega) | omega) _ | refine Below.setCell ?_ (by first | (simp; done) | (simp; omega) | omega) _)
    have rf0 : k2.frozen? ⟨w.heap.size, 0, none⟩ = false := (hk.frozen (p := ⟨w.heap.size, 0, none⟩) (by first | (simp; done) | (simp; omega) | omega)).trans rf0
    have rf1 : k2.frozen? ⟨w.heap.size, 1, none⟩ = false := (hk.frozen (p := ⟨w.heap.size, 1, none⟩) (by first | (simp; done) | (simp; omega) | omega)).trans rf1
    have rf2 : k2.frozen? ⟨w.heap.size, 2, none⟩ = false := (hk.frozen (p := ⟨w.heap.size, 2, none⟩) (by first | (simp; done) | (simp; omega) | omega)).trans rf2
    have rc0 : k2.cell? ⟨w.heap.size, 0, none⟩ = some (.int .i64 rk) := (hk.cell (p := ⟨w.heap.size, 0, none⟩) (by first | (simp; done) | (simp; omega) | omega)).trans rc0
    have rc1 : k2.cell? ⟨w.heap.size, 1, none⟩ = some (.int .i64 rn) := (hk.cell (p := ⟨w.heap.size, 1, none⟩) (by first | (simp; done) | (simp; omega) | omega)).trans rc1
    have rc2 : k2.cell? ⟨w.heap.size, 2, none⟩ = some (.string rs) := (hk.cell (p := ⟨w.heap.size, 2, none⟩) (by first | (simp; done) | (simp; omega) | omega)).trans rc2
    have hz := h.size
    try simp at hz
    have : w.heap.size < k2.heap.size := by omega
    have hb : Below w.heap.size w k2 := hb.trans (hk.mono hb.size)
    clear h hk
    go_wp2_with fail
    refine (vof_is _ ⟨rk, rn, t⟩ .none .nilIface 1 _ rfl (by show t.size ≤ 1000000; omega) HV.out rfl (by rw [HM.out]; rfl)).mono ?_
    rintro e k3 ⟨rfl, h⟩
    have rf0_new := (by exact ((h.frozen (p := ⟨w.heap.size, 0, none⟩) (by first | (simp; done) | (simp; omega) | omega)).trans (by go_simp)) : k3.frozen? ⟨w.heap.size, 0, none⟩ = false)
    have rf1_new := (by exact ((h.frozen (p := ⟨w.heap.size, 1, none⟩) (by first | (simp; done) | (simp; omega) | omega)).trans (by go_simp)) : k3.frozen? ⟨w.heap.size, 1, none⟩ = false)
    have rf2_new := (by exact ((h.frozen (p := ⟨w.heap.size, 2, none⟩) (by first | (simp; done) | (simp; omega) | omega)).trans (by go_simp)) : k3.frozen? ⟨w.heap.size, 2, none⟩ = false)
    have rc0_new := (by exact ((h.cell (p := ⟨w.heap.size, 0, none⟩) (by first | (simp; done) | (simp; omega) | omega)).trans (by go_simp)) : k3.cell? ⟨w.heap.size, 0, none⟩ = some (.int .i64 rk))
    have rc1_new := (by exact ((h.cell (p := ⟨w.heap.size, 1, none⟩) (by first | (simp; done) | (simp; omega) | omega)).trans (by go_simp)) : k3.cell? ⟨w.heap.size, 1, none⟩ = some (.int .i64 rn))
    have rc2_new := (by exact ((h.cell (p := ⟨w.heap.size, 2, none⟩) (by first | (simp; done) | (simp; omega) | omega)).trans (by go_simp)) : k3.cell? ⟨w.heap.size, 2, none⟩ = some (.string t))
    have hb : Below w.heap.size w k3 := by
      refine Below.trans ?_ (h.mono (by first | (simp; done) | (simp; omega) | omega))
      repeat' (first | exact hb | refine Below.alloc ?_ (by first | (simp; done) | (simp; omega) | omega) _ | refine Below.setCell ?_ (by first | (simp; done) | (simp; omega) | omega) _)
    have hz := h.size
    try simp at hz
    clear rf0
    clear rf1
    clear rf2
    clear rc0
    clear rc1
    clear rc2
    have rf0 := rf0_new; clear rf0_new
    have rf1 := rf1_new; clear rf1_new
    have rf2 := rf2_new; clear rf2_new
    have rc0 := rc0_new; clear rc0_new
    have rc1 := rc1_new; clear rc1_new
    have rc2 := rc2_new; clear rc2_new
    have : w.heap.size < k3.heap.size := by omega
    clear h
    go_wp2_with fail
    refine (must_is _ .none 0 false _ rfl rfl rfl).mono ?_
    rintro e k4 ⟨rfl, h⟩
    have hk : Below k3.heap.size k3 k4 := by
      refine Below.trans ?_ (h.mono (by first | (simp; done) | (simp; omega) | omega))
      repeat' (first | exact Below.refl _ _ | refine Below.alloc ?_ (by first | (simp; done) | (simp; omega) | omega) _ | refine Below.setCell ?_ (by first | (simp; done) | (simp; omega) | omega) _)
    have rf0 : k4.frozen? ⟨w.heap.size, 0, none⟩ = false := (hk.frozen (p := ⟨w.heap.size, 0, none⟩) (by first | (simp; done) | (simp; omega) | omega)).trans rf0
    have rf1 : k4.frozen? ⟨w.heap.size, 1, none⟩ = false := (hk.frozen (p := ⟨w.heap.size, 1, none⟩) (by first | (simp; done) | (simp; omega) | omega)).trans rf1
    have rf2 : k4.frozen? ⟨w.heap.size, 2, none⟩ = false := (hk.frozen (p := ⟨w.heap.size, 2, none⟩) (by first | (simp; done) | (simp; omega) | omega)).trans rf2
    have rc0 : k4.cell? ⟨w.heap.size, 0, none⟩ = some (.int .i64 rk) := (hk.cell (p := ⟨w.heap.size, 0, none⟩) (by first | (simp; done) | (simp; omega) | omega)).trans rc0
    have rc1 : k4.cell? ⟨w.heap.size, 1, none⟩ = some (.int .i64 rn) := (hk.cell (p := ⟨w.heap.size, 1, none⟩) (by first | (simp; done) | (simp; omega) | omega)).trans rc1
    have rc2 : k4.cell? ⟨w.heap.size, 2, none⟩ = some (.string t) := (hk.cell (p := ⟨w.heap.size, 2, none⟩) (by first | (simp; done) | (simp; omega) | omega)).trans rc2
    have hz := h.size
    try simp at hz
    have : w.heap.size < k4.heap.size := by omega
    have hb : Below w.heap.size w k4 := hb.trans (hk.mono hb.size)
    clear h hk
    go_wp2
    go_ret
    exact ⟨rfl, hb⟩
  · clear ht
    have hk : Below k1.heap.size k1 k2 := by
      refine Below.trans ?_ (h.mono (by first | (simp; done) | (simp; omega) | omega))
      repeat' (first | exact Below.refl _ _ | refine Below.alloc ?_ (by first | (simp; done) | (simp; omega) | omega) _ | refine Below.setCell ?_ (by first | (simp; done) | (simp; omega) | omega) _)
    have rf0 : k2.frozen? ⟨w.heap.size, 0, none⟩ = false := (hk.frozen (p := ⟨w.heap.size, 0, none⟩) (by first | (simp; done) | (simp; omega) | omega)).trans rf0
    have rf1 : k2.frozen? ⟨w.heap.size, 1, none⟩ = false := (hk.frozen (p := ⟨w.heap.size, 1, none⟩) (by first | (simp; done) | (simp; omega) | omega)).trans rf1
    have rf2 : k2.frozen? ⟨w.heap.size, 2, none⟩ = false := (hk.frozen (p := ⟨w.heap.size, 2, none⟩) (by first | (simp; done) | (simp; omega) | omega)).trans rf2
    have rc0 : k2.cell? ⟨w.heap.size, 0, none⟩ = some (.int .i64 0) := (hk.cell (p := ⟨w.heap.size, 0, none⟩) (by first | (simp; done) | (simp; omega) | omega)).trans rc0
    have rc1 : k2.cell? ⟨w.heap.size, 1, none⟩ = some (.int .i64 0) := (hk.cell (p := ⟨w.heap.size, 1, none⟩) (by first | (simp; done) | (simp; omega) | omega)).trans rc1
    have rc2 : k2.cell? ⟨w.heap.size, 2, none⟩ = some (.string rs) := (hk.cell (p := ⟨w.heap.size, 2, none⟩) (by first | (simp; done) | (simp; omega) | omega)).trans rc2
    have hz := h.size
    try simp at hz
    have : w.heap.size < k2.heap.size := by omega
    have hb : Below w.heap.size w k2 := hb.trans (hk.mono hb.size)
    clear h hk
    go_wp2_with fail
    refine (vof_is _ ⟨0, 0, ⟨#[]⟩⟩ .none .nilIface 0 _ rfl (Nat.zero_le _) (by decide) rfl (by decide)).mono ?_
    rintro e k3 ⟨rfl, h⟩
    have rf0_new := (by exact ((h.frozen (p := ⟨w.heap.size, 0, none⟩) (by first | (simp; done) | (simp; omega) | omega)).trans (by go_simp)) : k3.frozen? ⟨w.heap.size, 0, none⟩ = false)
    have rf1_new := (by exact ((h.frozen (p := ⟨w.heap.size, 1, none⟩) (by first | (simp; done) | (simp; omega) | omega)).trans (by go_simp)) : k3.frozen? ⟨w.heap.size, 1, none⟩ = false)
    have rf2_new := (by exact ((h.frozen (p := ⟨w.heap.size, 2, none⟩) (by first | (simp; done) | (simp; omega) | omega)).trans (by go_simp)) : k3.frozen? ⟨w.heap.size, 2, none⟩ = false)
    have rc0_new := (by exact ((h.cell (p := ⟨w.heap.size, 0, none⟩) (by first | (simp; done) | (simp; omega) | omega)).trans (by go_simp)) : k3.cell? ⟨w.heap.size, 0, none⟩ = some (.int .i64 0))
    have rc1_new := (by exact ((h.cell (p := ⟨w.heap.size, 1, none⟩) (by first | (simp; done) | (simp; omega) | omega)).trans (by go_simp)) : k3.cell? ⟨w.heap.size, 1, none⟩ = some (.int .i64 0))
    have rc2_new := (by exact ((h.cell (p := ⟨w.heap.size, 2, none⟩) (by first | (simp; done) | (simp; omega) | omega)).trans (by go_simp)) : k3.cell? ⟨w.heap.size, 2, none⟩ = some (.string ⟨#[]⟩))
    have hb : Below w.heap.size w k3 := by
      refine Below.trans ?_ (h.mono (by first | (simp; done) | (simp; omega) | omega))
      repeat' (first | exact hb | refine Below.alloc ?_ (by first | (simp; done) | (simp; omega) | omega) _ | refine Below.setCell ?_ (by first | (simp; done) | (simp; omega) | omega) _)
    have hz := h.size
    try simp at hz
    clear rf0
    clear rf1
    clear rf2
    clear rc0
    clear rc1
    clear rc2
    have rf0 := rf0_new; clear rf0_new
    have rf1 := rf1_new; clear rf1_new
    have rf2 := rf2_new; clear rf2_new
    have rc0 := rc0_new; clear rc0_new
    have rc1 := rc1_new; clear rc1_new
    have rc2 := rc2_new; clear rc2_new
    have : w.heap.size < k3.heap.size := by omega
    clear h
    go_wp2_with fail
    refine (must_is _ .none 0 false _ rfl rfl rfl).mono ?_
    rintro e k4 ⟨rfl, h⟩
    have hk : Below k3.heap.size k3 k4 := by
      refine Below.trans ?_ (h.mono (by first | (simp; done) | (simp; omega) | omega))
      repeat' (first | exact Below.refl _ _ | refine Below.alloc ?_ (by first | (simp; done) | (simp; omega) | omega) _ | refine Below.setCell ?_ (by first | (simp; done) | (simp; omega) | omega) _)
    have rf0 : k4.frozen? ⟨w.heap.size, 0, none⟩ = false := (hk.frozen (p := ⟨w.heap.size, 0, none⟩) (by first | (simp; done) | (simp; omega) | omega)).trans rf0
    have rf1 : k4.frozen? ⟨w.heap.size, 1, none⟩ = false := (hk.frozen (p := ⟨w.heap.size, 1, none⟩) (by first | (simp; done) | (simp; omega) | omega)).trans rf1
    have rf2 : k4.frozen? ⟨w.heap.size, 2, none⟩ = false := (hk.frozen (p := ⟨w.heap.size, 2, none⟩) (by first | (simp; done) | (simp; omega) | omega)).trans rf2
    have rc0 : k4.cell? ⟨w.heap.size, 0, none⟩ = some (.int .i64 0) := (hk.cell (p := ⟨w.heap.size, 0, none⟩) (by first | (simp; done) | (simp; omega) | omega)).trans rc0
    have rc1 : k4.cell? ⟨w.heap.size, 1, none⟩ = some (.int .i64 0) := (hk.cell (p := ⟨w.heap.size, 1, none⟩) (by first | (simp; done) | (simp; omega) | omega)).trans rc1
    have rc2 : k4.cell? ⟨w.heap.size, 2, none⟩ = some (.string ⟨#[]⟩) := (hk.cell (p := ⟨w.heap.size, 2, none⟩) (by first | (simp; done) | (simp; omega) | omega)).trans rc2
    have hz := h.size
    try simp at hz
    have : w.heap.size < k4.heap.size := by omega
    have hb : Below w.heap.size w k4 := hb.trans (hk.mono hb.size)
    clear h hk
    go_wp2
    go_ret
    exact ⟨rfl, hb⟩
  · clear ht
    have hk : Below k1.heap.size k1 k2 := by
      refine Below.trans ?_ (h.mono (by first | (simp; done) | (simp; omega) | omega))
      repeat' (first | exact Below.refl _ _ | refine Below.alloc ?_ (by first | (simp; done) | (simp; omega) | omega) _ | refine Below.setCell ?_ (by first | (simp; done) | (simp; omega) | omega) _)
    have rf0 : k2.frozen? ⟨w.heap.size, 0, none⟩ = false := (hk.frozen (p := ⟨w.heap.size, 0, none⟩) (by first | (simp; done) | (simp; omega) | omega)).trans rf0
    have rf1 : k2.frozen? ⟨w.heap.size, 1, none⟩ = false := (hk.frozen (p := ⟨w.heap.size, 1, none⟩) (by first | (simp; done) | (simp; omega) | omega)).trans rf1
    have rf2 : k2.frozen? ⟨w.heap.size, 2, none⟩ = false := (hk.frozen (p := ⟨w.heap.size, 2, none⟩) (by first | (simp; done) | (simp; omega) | omega)).trans rf2
    have rc0 : k2.cell? ⟨w.heap.size, 0, none⟩ = some (.int .i64 1) := (hk.cell (p := ⟨w.heap.size, 0, none⟩) (by first | (simp; done) | (simp; omega) | omega)).trans rc0
    have rc1 : k2.cell? ⟨w.heap.size, 1, none⟩ = some (.int .i64 rn) := (hk.cell (p := ⟨w.heap.size, 1, none⟩) (by first | (simp; done) | (simp; omega) | omega)).trans rc1
    have rc2 : k2.cell? ⟨w.heap.size, 2, none⟩ = some (.string rs) := (hk.cell (p := ⟨w.heap.size, 2, none⟩) (by first | (simp; done) | (simp; omega) | omega)).trans rc2
    have hz := h.size
    try simp at hz
    have : w.heap.size < k2.heap.size := by omega
    have hb : Below w.heap.size w k2 := hb.trans (hk.mono hb.size)
    clear h hk
    go_wp2_with fail
    refine (vof_is _ ⟨1, rn, ⟨#[]⟩⟩ (.num rn) (.iface 51 (.int .i64 rn)) 0 _ rfl (Nat.zero_le _) (of_num rn) rfl (okE_num rn)).mono ?_
    rintro e k3 ⟨rfl, h⟩
    have rf0_new := (by exact ((h.frozen (p := ⟨w.heap.size, 0, none⟩) (by first | (simp; done) | (simp; omega) | omega)).trans (by go_simp)) : k3.frozen? ⟨w.heap.size, 0, none⟩ = false)
    have rf1_new := (by exact ((h.frozen (p := ⟨w.heap.size, 1, none⟩) (by first | (simp; done) | (simp; omega) | omega)).trans (by go_simp)) : k3.frozen? ⟨w.heap.size, 1, none⟩ = false)
    have rf2_new := (by exact ((h.frozen (p := ⟨w.heap.size, 2, none⟩) (by first | (simp; done) | (simp; omega) | omega)).trans (by go_simp)) : k3.frozen? ⟨w.heap.size, 2, none⟩ = false)
    have rc0_new := (by exact ((h.cell (p := ⟨w.heap.size, 0, none⟩) (by first | (simp; done) | (simp; omega) | omega)).trans (by go_simp)) : k3.cell? ⟨w.heap.size, 0, none⟩ = some (.int .i64 1))
    have rc1_new := (by exact ((h.cell (p := ⟨w.heap.size, 1, none⟩) (by first | (simp; done) | (simp; omega) | omega)).trans (by go_simp)) : k3.cell? ⟨w.heap.size, 1, none⟩ = some (.int .i64 rn))
    have rc2_new := (by exact ((h.cell (p := ⟨w.heap.size, 2, none⟩) (by first | (simp; done) | (simp; omega) | omega)).trans (by go_simp)) : k3.cell? ⟨w.heap.size, 2, none⟩ = some (.string ⟨#[]⟩))
    have hb : Below w.heap.size w k3 := by
      refine Below.trans ?_ (h.mono (by first | (simp; done) | (simp; omega) | omega))
      repeat' (first | exact hb | refine Below.alloc ?_ (by first | (simp; done) | (simp; omega) | omega) _ | refine Below.setCell ?_ (by first | (simp; done) | (simp; omega) | omega) _)
    have hz := h.size
    try simp at hz
    clear rf0
    clear rf1
    clear rf2
    clear rc0
    clear rc1
    clear rc2
    have rf0 := rf0_new; clear rf0_new
    have rf1 := rf1_new; clear rf1_new
    have rf2 := rf2_new; clear rf2_new
    have rc0 := rc0_new; clear rc0_new
    have rc1 := rc1_new; clear rc1_new
    have rc2 := rc2_new; clear rc2_new
    have : w.heap.size < k3.heap.size := by omega
    clear h
    go_wp2_with fail
    refine (must_is _ (.num rn) rn true _ rfl rfl rfl).mono ?_
    rintro e k4 ⟨rfl, h⟩
    have hk : Below k3.heap.size k3 k4 := by
      refine Below.trans ?_ (h.mono (by first | (simp; done) | (simp; omega) | omega))
      repeat' (first | exact Below.refl _ _ | refine Below.alloc ?_ (by first | (simp; done) | (simp; omega) | omega) _ | refine Below.setCell ?_ (by first | (simp; done) | (simp; omega) | omega) _)
    have rf0 : k4.frozen? ⟨w.heap.size, 0, none⟩ = false := (hk.frozen (p := ⟨w.heap.size, 0, none⟩) (by first | (simp; done) | (simp; omega) | omega)).trans rf0
    have rf1 : k4.frozen? ⟨w.heap.size, 1, none⟩ = false := (hk.frozen (p := ⟨w.heap.size, 1, none⟩) (by first | (simp; done) | (simp; omega) | omega)).trans rf1
    have rf2 : k4.frozen? ⟨w.heap.size, 2, none⟩ = false := (hk.frozen (p := ⟨w.heap.size, 2, none⟩) (by first | (simp; done) | (simp; omega) | omega)).trans rf2
    have rc0 : k4.cell? ⟨w.heap.size, 0, none⟩ = some (.int .i64 1) := (hk.cell (p := ⟨w.heap.size, 0, none⟩) (by first | (simp; done) | (simp; omega) | omega)).trans rc0
    have rc1 : k4.cell? ⟨w.heap.size, 1, none⟩ = some (.int .i64 rn) := (hk.cell (p := ⟨w.heap.size, 1, none⟩) (by first | (simp; done) | (simp; omega) | omega)).trans rc1
    have rc2 : k4.cell? ⟨w.heap.size, 2, none⟩ = some (.string ⟨#[]⟩) := (hk.cell (p := ⟨w.heap.size, 2, none⟩) (by first | (simp; done) | (simp; omega) | omega)).trans rc2
    have hz := h.size
    try simp at hz
    have : w.heap.size < k4.heap.size := by omega
    have hb : Below w.heap.size w k4 := hb.trans (hk.mono hb.size)
    clear h hk
    go_wp2
    go_ret
    exact ⟨rfl, hb⟩
  · have HM := Lib.hid hm; clear hm
    have HV := Lib.hid hv; clear hv
    have hk : Below k1.heap.size k1 k2 := by
      refine Below.trans ?_ (h.mono (by first | (simp; done) | (simp; omega) | omega))
      repeat' (first | exact Below.refl _ _ | refine Below.alloc ?_ (by first | (simp; done) | (simp; omega) | omega) _ | refine Below.setCell ?_ (by first | (simp; done) | (simp; omega) | omega) _)
    have rf0 : k2.frozen? ⟨w.heap.size, 0, none⟩ = false := (hk.frozen (p := ⟨w.heap.size, 0, none⟩) (by first | (simp; done) | (simp; omega) | omega)).trans rf0
    have rf1 : k2.frozen? ⟨w.heap.size, 1, none⟩ = false := (hk.frozen (p := ⟨w.heap.size, 1, none⟩) (by first | (simp; done) | (simp; omega) | omega)).trans rf1
    have rf2 : k2.frozen? ⟨w.heap.size, 2, none⟩ = false := (hk.frozen (p := ⟨w.heap.size, 2, none⟩) (by first | (simp; done) | (simp; omega) | omega)).trans rf2
    have rc0 : k2.cell? ⟨w.heap.size, 0, none⟩ = some (.int .i64 2) := (hk.cell (p := ⟨w.heap.size, 0, none⟩) (by first | (simp; done) | (simp; omega) | omega)).trans rc0
    have rc1 : k2.cell? ⟨w.heap.size, 1, none⟩ = some (.int .i64 0) := (hk.cell (p := ⟨w.heap.size, 1, none⟩) (by first | (simp; done) | (simp; omega) | omega)).trans rc1
    have rc2 : k2.cell? ⟨w.heap.size, 2, none⟩ = some (.string rs) := (hk.cell (p := ⟨w.heap.size, 2, none⟩) (by first | (simp; done) | (simp; omega) | omega)).trans rc2
    have hz := h.size
    try simp at hz
    have : w.heap.size < k2.heap.size := by omega
    have hb : Below w.heap.size w k2 := hb.trans (hk.mono hb.size)
    clear h hk
    go_wp2_with fail
    refine (vof_is _ ⟨2, 0, t⟩ (.txt t) (.iface 52 (.string t)) 0 _ rfl (by show t.size ≤ 1000000; omega) HV.out rfl (by rw [HM.out]; rfl)).mono ?_
    rintro e k3 ⟨rfl, h⟩
    have rf0_new := (by exact ((h.frozen (p := ⟨w.heap.size, 0, none⟩) (by first | (simp; done) | (simp; omega) | omega)).trans (by go_simp)) : k3.frozen? ⟨w.heap.size, 0, none⟩ = false)
    have rf1_new := (by exact ((h.frozen (p := ⟨w.heap.size, 1, none⟩) (by first | (simp; done) | (simp; omega) | omega)).trans (by go_simp)) : k3.frozen? ⟨w.heap.size, 1, none⟩ = false)
    have rf2_new := (by exact ((h.frozen (p := ⟨w.heap.size, 2, none⟩) (by first | (simp; done) | (simp; omega) | omega)).trans (by go_simp)) : k3.frozen? ⟨w.heap.size, 2, none⟩ = false)
    have rc0_new := (by exact ((h.cell (p := ⟨w.heap.size, 0, none⟩) (by first | (simp; done) | (simp; omega) | omega)).trans (by go_simp)) : k3.cell? ⟨w.heap.size, 0, none⟩ = some (.int .i64 2))
    have rc1_new := (by exact ((h.cell (p := ⟨w.heap.size, 1, none⟩) (by first | (simp; done) | (simp; omega) | omega)).trans (by go_simp)) : k3.cell? ⟨w.heap.size, 1, none⟩ = some (.int .i64 0))
    have rc2_new := (by exact ((h.cell (p := ⟨w.heap.size, 2, none⟩) (by first | (simp; done) | (simp; omega) | omega)).trans (by go_simp)) : k3.cell? ⟨w.heap.size, 2, none⟩ = some (.string t))
    have hb : Below w.heap.size w k3 := by
      refine Below.trans ?_ (h.mono (by first | (simp; done) | (simp; omega) | omega))
      repeat' (first | exact hb | refine Below.alloc ?_ (by first | (simp; done) | (simp; omega) | omega) _ | refine Below.setCell ?_ (by first | (simp; done) | (simp; omega) | omega) _)
    have hz := h.size
    try simp at hz
    clear rf0
    clear rf1
    clear rf2
    clear rc0
    clear rc1
    clear rc2
    have rf0 := rf0_new; clear rf0_new
    have rf1 := rf1_new; clear rf1_new
    have rf2 := rf2_new; clear rf2_new
    have rc0 := rc0_new; clear rc0_new
    have rc1 := rc1_new; clear rc1_new
    have rc2 := rc2_new; clear rc2_new
    have : w.heap.size < k3.heap.size := by omega
    clear h
    go_wp2_with fail
    refine (must_is _ (.txt t) 0 false _ rfl rfl rfl).mono ?_
    rintro e k4 ⟨rfl, h⟩
    have hk : Below k3.heap.size k3 k4 := by
      refine Below.trans ?_ (h.mono (by first | (simp; done) | (simp; omega) | omega))
      repeat' (first | exact Below.refl _ _ | refine Below.alloc ?_ (by first | (simp; done) | (simp; omega) | omega) _ | refine Below.setCell ?_ (by first | (simp; done) | (simp; omega) | omega) _)
    have rf0 : k4.frozen? ⟨w.heap.size, 0, none⟩ = false := (hk.frozen (p := ⟨w.heap.size, 0, none⟩) (by first | (simp; done) | (simp; omega) | omega)).trans rf0
    have rf1 : k4.frozen? ⟨w.heap.size, 1, none⟩ = false := (hk.frozen (p := ⟨w.heap.size, 1, none⟩) (by first | (simp; done) | (simp; omega) | omega)).trans rf1
    have rf2 : k4.frozen? ⟨w.heap.size, 2, none⟩ = false := (hk.frozen (p := ⟨w.heap.size, 2, none⟩) (by first | (simp; done) | (simp; omega) | omega)).trans rf2
    have rc0 : k4.cell? ⟨w.heap.size, 0, none⟩ = some (.int .i64 2) := (hk.cell (p := ⟨w.heap.size, 0, none⟩) (by first | (simp; done) | (simp; omega) | omega)).trans rc0
    have rc1 : k4.cell? ⟨w.heap.size, 1, none⟩ = some (.int .i64 0) := (hk.cell (p := ⟨w.heap.size, 1, none⟩) (by first | (simp; done) | (simp; omega) | omega)).trans rc1
    have rc2 : k4.cell? ⟨w.heap.size, 2, none⟩ = some (.string t) := (hk.cell (p := ⟨w.heap.size, 2, none⟩) (by first | (simp; done) | (simp; omega) | omega)).trans rc2
    have hz := h.size
    try simp at hz
    have : w.heap.size < k4.heap.size := by omega
    have hb : Below w.heap.size w k4 := hb.trans (hk.mono hb.size)
    clear h hk
    go_wp2
    go_ret
    exact ⟨rfl, hb⟩

set_option maxRecDepth 100000 in
theorem lifted (os : Os) (started : os.Started) (H : Type) (enc : TypeId × Value → H) :
    ReturnsInHanded {} Try.checked os 6 .any (Rows.valueMustSpec.pre6 enc Try.prog Try.f6 Rows.valueMustRow.domain false) (Rows.valueMustSpec.post enc Try.prog Try.f6 false true false false) := by
  refine returnsInHanded_of_change (C := Try.checked) own started (by kernel_rfl) Try.func6
    (ChangeSpec.witness6 (enc := enc) (C := Try.checked) false ⟨#[], #[.agg #[.int .i64 0, .int .i64 0, .string ByteArray.empty]], []⟩ 8 (by kernel_rfl) (by kernel_rfl) (by kernel_rfl) (by kernel_rfl)) ?_
  intro W base args ds gs before hval0 hW hcnd _
  have hval : ∀ (j : Nat) t v, Try.f6.params[j]? = some t → args[j]? = some v → Value.okWide Try.prog W .any base t v := hval0
  have hW' := hW
  obtain ⟨p, q, hA0, hV, rfl, hfz, hnd⟩ := hW
  have hA : DataW.TrodAll enc Try.prog W 0 (fun _ => true) true Try.f6.params.toList args.toList ds p := hA0
  have hA1 := hA
  rw [Try.params6] at hA hval
  obtain ⟨v0, vs0, d0, ds0, p0, q0, hargs, rfl, rfl, h0, r0⟩ := trodAll_cons hA
  obtain ⟨rfl, rfl, rfl⟩ := trodAll_nil r0
  obtain rfl : args = #[v0] := by cases args; simp_all
  obtain ⟨rfl, rfl⟩ := trodVars_none hV
  obtain ⟨a0, rfl, w0⟩ := open_raw (hval 0 23 v0 rfl rfl) h0
  clear hA0 hval0
  simp only [List.append_nil] at hW'
  try simp only [List.append_nil] at hA1
  refine (walk W a0 w0).mono fun e W' ⟨he, hg⟩ => ?_
  subst he
  exact ⟨_, rfl, law_end Try.laidOut (by kernel_rfl) hW' hA1 hg rfl rfl rfl (trodAll_mk1 (shut_bool Try.underlying4 _))⟩

theorem over : Rows.valueMustRow.holds Try.pinned (OpenSpec.ofChange Rows.valueMustSpec) :=
  OpenClaim.holds_of_wide 6 Try.f6 rfl rfl rfl rfl rfl rfl rfl ⟨rfl, rfl, rfl, rfl, rfl⟩ rfl rfl rfl rfl rfl (by kernel_rfl) Try.func6 (by kernel_rfl)
    (of_decide_eq_true (by kernel_rfl)) (by unfold Func.isWrapper; first | (rw [if_pos (by decide +kernel)]; kernel_rfl) | (rw [if_neg (by decide +kernel)]; exact ⟨rfl, rfl⟩))
    (fun os started H enc _ => lifted os started H enc)

/-- the statement -/
theorem proved : Rows.ValueMustSaid := over
#print axioms proved
end Go.Proofs.Ytffklbkdmfeimaa.valueMust
