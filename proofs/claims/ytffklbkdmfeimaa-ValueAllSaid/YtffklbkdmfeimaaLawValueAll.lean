/-
  Any raw value is one, or none; what is one is told again, and written. There are no conditions.
-/
import Derived.Test.YtffklbkdmfeimaaRows
import Derived.Test.YtffklbkdmfeimaaL4Begun
import Derived.Test.YtffklbkdmfeimaaL4Cut
import Derived.Test.YtffklbkdmfeimaaVaPlain
import Derived.Test.YtffklbkdmfeimaaL4Bytes
import Derived.Test.YtffklbkdmfeimaaLawKit
import Derived.WalkKit
import Derived.ProofKit
import Derived.OpenShut
import Derived.ShutString
namespace Go.Proofs.Ytffklbkdmfeimaa.valueAll
open Go.ChangeShapes Go.WideShapes Go.ChangeAt Go.RowKit
open Go.ChangeMaps (open_string shut_string)
set_option linter.unusedVariables false

theorem own : ownKnob Try.prog.godebug = none := by kernel_rfl
set_option maxRecDepth 100000 in
set_option maxHeartbeats 8000000 in
theorem walk_bad (w : World) (rk rn : Int) (rs t : ByteArray) (htl : t.size ≤ 220) (r0 : -9223372036854775808 ≤ rk) (r1 : rk ≤ 9223372036854775807) (r2 : -9223372036854775808 ≤ rn) (r3 : rn ≤ 9223372036854775807) (HT : Hid (cutS rs 220 = t)) (A1 : Option Addr) (c1 : Nat) (a1 : List UInt8) (w1 : Byt w w.heap.size (.slice A1 a1.length c1) a1) (hm : mayR ⟨rk, rn, t⟩ = false) (hv : vaOf ⟨rk, rn, t⟩ = .none) :
    Calls Try.prog 3 #[(Raw.mk rk rn rs).val, .slice A1 a1.length c1] w fun e w' => e = .returned (.bool true) ∧ Below w.heap.size w w' := by
  unfold Raw.val
  have HM := Lib.hid hm; clear hm
  have HV := Lib.hid hv; clear hv
  have HR := Lib.hid w1; clear w1
  have hb := Below.refl w.heap.size w
  go_enter Try.func3, Try.ntmps3
  go_wp2_with fail
  refine (begun4_any _).mono ?_
  rintro e k1 ⟨rfl, h⟩
  have hk : Below w.heap.size w k1 := by
    refine Below.trans ?_ (h.mono (by first | (simp; done) | (simp; omega) | omega))
    repeat' (first | exact Below.refl _ _ | refine Below.alloc ?_ (by first | (simp; done) | (simp; omega) | omega) _ | refine Below.setCell ?_ (by first | (simp; done) | (simp; omega) | omega) _)
  have hz := h.size
  try simp at hz
  have rf0 : k1.frozen? ⟨w.heap.size, 0, none⟩ = false := (h.frozen (p := ⟨w.heap.size, 0, none⟩) (by first | (simp; done) | (simp; omega) | omega)).trans (by go_simp)
  have rf1 : k1.frozen? ⟨w.heap.size, 1, none⟩ = false := (h.frozen (p := ⟨w.heap.size, 1, none⟩) (by first | (simp; done) | (simp; omega) | omega)).trans (by go_simp)
  have rf2 : k1.frozen? ⟨w.heap.size, 2, none⟩ = false := (h.frozen (p := ⟨w.heap.size, 2, none⟩) (by first | (simp; done) | (simp; omega) | omega)).trans (by go_simp)
  have rc0 : k1.cell? ⟨w.heap.size, 0, none⟩ = some (.int .i64 rk) := (h.cell (p := ⟨w.heap.size, 0, none⟩) (by first | (simp; done) | (simp; omega) | omega)).trans (by go_simp)
  have rc1 : k1.cell? ⟨w.heap.size, 1, none⟩ = some (.int .i64 rn) := (h.cell (p := ⟨w.heap.size, 1, none⟩) (by first | (simp; done) | (simp; omega) | omega)).trans (by go_simp)
  have rc2 : k1.cell? ⟨w.heap.size, 2, none⟩ = some (.string rs) := (h.cell (p := ⟨w.heap.size, 2, none⟩) (by first | (simp; done) | (simp; omega) | omega)).trans (by go_simp)
  have : w.heap.size < k1.heap.size := by omega
  replace hb : Below w.heap.size w k1 := hb.trans (hk.mono hb.size)
  clear h hk
  go_wp2_with fail
  refine (l4cut_to _ rk rn rs t _ rfl HT.out).mono ?_
  rintro e k2 ⟨rfl, h⟩
  have hk : Below k1.heap.size k1 k2 := by
    refine Below.trans ?_ (h.mono (by first | (simp; done) | (simp; omega) | omega))
    repeat' (first | exact Below.refl _ _ | refine Below.alloc ?_ (by first | (simp; done) | (simp; omega) | omega) _ | refine Below.setCell ?_ (by first | (simp; done) | (simp; omega) | omega) _)
  replace rf0 : k2.frozen? ⟨w.heap.size, 0, none⟩ = false := (hk.frozen (p := ⟨w.heap.size, 0, none⟩) (by first | (simp; done) | (simp; omega) | omega)).trans rf0
  replace rf1 : k2.frozen? ⟨w.heap.size, 1, none⟩ = false := (hk.frozen (p := ⟨w.heap.size, 1, none⟩) (by first | (simp; done) | (simp; omega) | omega)).trans rf1
  replace rf2 : k2.frozen? ⟨w.heap.size, 2, none⟩ = false := (hk.frozen (p := ⟨w.heap.size, 2, none⟩) (by first | (simp; done) | (simp; omega) | omega)).trans rf2
  replace rc0 : k2.cell? ⟨w.heap.size, 0, none⟩ = some (.int .i64 rk) := (hk.cell (p := ⟨w.heap.size, 0, none⟩) (by first | (simp; done) | (simp; omega) | omega)).trans rc0
  replace rc1 : k2.cell? ⟨w.heap.size, 1, none⟩ = some (.int .i64 rn) := (hk.cell (p := ⟨w.heap.size, 1, none⟩) (by first | (simp; done) | (simp; omega) | omega)).trans rc1
  replace rc2 : k2.cell? ⟨w.heap.size, 2, none⟩ = some (.string rs) := (hk.cell (p := ⟨w.heap.size, 2, none⟩) (by first | (simp; done) | (simp; omega) | omega)).trans rc2
  have hz := h.size
  try simp at hz
  have : w.heap.size < k2.heap.size := by omega
  replace hb : Below w.heap.size w k2 := hb.trans (hk.mono hb.size)
  clear h hk
  go_wp2_with fail
  refine (short_any A1 a1.length c1 w.heap.size 20 a1 _ (HR.out.below hb (Nat.le_refl _)) (by decide)).mono ?_
  rintro e k ⟨A2, c2, rfl, hrest, rfl⟩
  obtain ⟨rest, hr⟩ : ∃ rest, a1.take 20 = rest := ⟨_, rfl⟩
  rw [hr] at hrest
  have hrl : rest.length ≤ 20 := by rw [← hr, List.length_take]; omega
  rw [hr]
  clear hr
  replace hrest := Lib.hid (hrest.keep fun p hp => (hb.cell hp).symm)
  go_wp2_with fail
  refine (vof_is _ ⟨rk, rn, t⟩ .none .nilIface 1 _ rfl (by show t.size ≤ 1000000; omega) HV.out rfl (by rw [HM.out]; rfl)).mono ?_
  rintro e k3 ⟨rfl, h⟩
  have rf0_new := (by exact ((h.frozen (p := ⟨w.heap.size, 0, none⟩) (by first | (simp; done) | (simp; omega) | omega)).trans (by go_simp)) : k3.frozen? ⟨w.heap.size, 0, none⟩ = false)
  have rf1_new := (by exact ((h.frozen (p := ⟨w.heap.size, 1, none⟩) (by first | (simp; done) | (simp; omega) | omega)).trans (by go_simp)) : k3.frozen? ⟨w.heap.size, 1, none⟩ = false)
  have rf2_new := (by exact ((h.frozen (p := ⟨w.heap.size, 2, none⟩) (by first | (simp; done) | (simp; omega) | omega)).trans (by go_simp)) : k3.frozen? ⟨w.heap.size, 2, none⟩ = false)
  have rc0_new := (by exact ((h.cell (p := ⟨w.heap.size, 0, none⟩) (by first | (simp; done) | (simp; omega) | omega)).trans (by go_simp)) : k3.cell? ⟨w.heap.size, 0, none⟩ = some (.int .i64 rk))
  have rc1_new := (by exact ((h.cell (p := ⟨w.heap.size, 1, none⟩) (by first | (simp; done) | (simp; omega) | omega)).trans (by go_simp)) : k3.cell? ⟨w.heap.size, 1, none⟩ = some (.int .i64 rn))
  have rc2_new := (by exact ((h.cell (p := ⟨w.heap.size, 2, none⟩) (by first | (simp; done) | (simp; omega) | omega)).trans (by go_simp)) : k3.cell? ⟨w.heap.size, 2, none⟩ = some (.string t))
  replace hb : Below w.heap.size w k3 := by
    refine Below.trans ?_ (h.mono (by first | (simp; done) | (simp; omega) | omega))
    repeat' (first | exact hb | refine Below.alloc ?_ (by first | (simp; done) | (simp; omega) | omega) _ | refine Below.setCell ?_ (by first | (simp; done) | (simp; omega) | omega) _)
  have hz := h.size
  try simp at hz
  clear rf0
  clear rf1
  clear rf2
  clear rc0
  clear rc1
  clear rc2
  have rf0 := rf0_new; clear rf0_new
  have rf1 := rf1_new; clear rf1_new
  have rf2 := rf2_new; clear rf2_new
  have rc0 := rc0_new; clear rc0_new
  have rc1 := rc1_new; clear rc1_new
  have rc2 := rc2_new; clear rc2_new
  have : w.heap.size < k3.heap.size := by omega
  clear h
  go_wp2_with fail
  refine (rmay_to _ ⟨rk, rn, t⟩ false _ rfl (by show t.size ≤ 1000000; omega) HM.out).mono ?_
  rintro e k4 ⟨rfl, h⟩
  have hk : Below k3.heap.size k3 k4 := by
    refine Below.trans ?_ (h.mono (by first | (simp; done) | (simp; omega) | omega))
    repeat' (first | exact Below.refl _ _ | refine Below.alloc ?_ (by first | (simp; done) | (simp; omega) | omega) _ | refine Below.setCell ?_ (by first | (simp; done) | (simp; omega) | omega) _)
  replace rf0 : k4.frozen? ⟨w.heap.size, 0, none⟩ = false := (hk.frozen (p := ⟨w.heap.size, 0, none⟩) (by first | (simp; done) | (simp; omega) | omega)).trans rf0
  replace rf1 : k4.frozen? ⟨w.heap.size, 1, none⟩ = false := (hk.frozen (p := ⟨w.heap.size, 1, none⟩) (by first | (simp; done) | (simp; omega) | omega)).trans rf1
  replace rf2 : k4.frozen? ⟨w.heap.size, 2, none⟩ = false := (hk.frozen (p := ⟨w.heap.size, 2, none⟩) (by first | (simp; done) | (simp; omega) | omega)).trans rf2
  replace rc0 : k4.cell? ⟨w.heap.size, 0, none⟩ = some (.int .i64 rk) := (hk.cell (p := ⟨w.heap.size, 0, none⟩) (by first | (simp; done) | (simp; omega) | omega)).trans rc0
  replace rc1 : k4.cell? ⟨w.heap.size, 1, none⟩ = some (.int .i64 rn) := (hk.cell (p := ⟨w.heap.size, 1, none⟩) (by first | (simp; done) | (simp; omega) | omega)).trans rc1
  replace rc2 : k4.cell? ⟨w.heap.size, 2, none⟩ = some (.string t) := (hk.cell (p := ⟨w.heap.size, 2, none⟩) (by first | (simp; done) | (simp; omega) | omega)).trans rc2
  have hz := h.size
  try simp at hz
  have v : k4.cell? ⟨k3.heap.size, 0, none⟩ = some (.nilIface) := (h.cell (p := ⟨k3.heap.size, 0, none⟩) (by first | (simp; done) | (simp; omega) | omega)).trans (by go_simp)
  have : w.heap.size < k4.heap.size := by omega
  have : k3.heap.size < k4.heap.size := by omega
  replace hb : Below w.heap.size w k4 := hb.trans (hk.mono hb.size)
  clear h hk
  go_wp2_with fail
  refine (vkind_is _ .none 0 _ rfl rfl).mono ?_
  rintro e k5 ⟨rfl, h⟩
  have hk : Below k4.heap.size k4 k5 := by
    refine Below.trans ?_ (h.mono (by first | (simp; done) | (simp; omega) | omega))
    repeat' (first | exact Below.refl _ _ | refine Below.alloc ?_ (by first | (simp; done) | (simp; omega) | omega) _ | refine Below.setCell ?_ (by first | (simp; done) | (simp; omega) | omega) _)
  replace rf0 : k5.frozen? ⟨w.heap.size, 0, none⟩ = false := (hk.frozen (p := ⟨w.heap.size, 0, none⟩) (by first | (simp; done) | (simp; omega) | omega)).trans rf0
  replace rf1 : k5.frozen? ⟨w.heap.size, 1, none⟩ = false := (hk.frozen (p := ⟨w.heap.size, 1, none⟩) (by first | (simp; done) | (simp; omega) | omega)).trans rf1
  replace rf2 : k5.frozen? ⟨w.heap.size, 2, none⟩ = false := (hk.frozen (p := ⟨w.heap.size, 2, none⟩) (by first | (simp; done) | (simp; omega) | omega)).trans rf2
  replace rc0 : k5.cell? ⟨w.heap.size, 0, none⟩ = some (.int .i64 rk) := (hk.cell (p := ⟨w.heap.size, 0, none⟩) (by first | (simp; done) | (simp; omega) | omega)).trans rc0
  replace rc1 : k5.cell? ⟨w.heap.size, 1, none⟩ = some (.int .i64 rn) := (hk.cell (p := ⟨w.heap.size, 1, none⟩) (by first | (simp; done) | (simp; omega) | omega)).trans rc1
  replace rc2 : k5.cell? ⟨w.heap.size, 2, none⟩ = some (.string t) := (hk.cell (p := ⟨w.heap.size, 2, none⟩) (by first | (simp; done) | (simp; omega) | omega)).trans rc2
  replace v : k5.cell? ⟨k3.heap.size, 0, none⟩ = some (.nilIface) := (hk.cell (p := ⟨k3.heap.size, 0, none⟩) (by first | (simp; done) | (simp; omega) | omega)).trans v
  have hz := h.size
  try simp at hz
  have : w.heap.size < k5.heap.size := by omega
  have : k3.heap.size < k5.heap.size := by omega
  replace hb : Below w.heap.size w k5 := hb.trans (hk.mono hb.size)
  clear h hk
  go_wp2
  go_ret
  exact ⟨rfl, by first | exact hb | exact hb.alloc hb.size _⟩
set_option maxRecDepth 100000 in
set_option maxHeartbeats 8000000 in
theorem walk_good (w : World) (rk rn : Int) (rs t : ByteArray) (htl : t.size ≤ 220) (r0 : -9223372036854775808 ≤ rk) (r1 : rk ≤ 9223372036854775807) (r2 : -9223372036854775808 ≤ rn) (r3 : rn ≤ 9223372036854775807) (HT : Hid (cutS rs 220 = t)) (A1 : Option Addr) (c1 : Nat) (a1 : List UInt8) (w1 : Byt w w.heap.size (.slice A1 a1.length c1) a1) (hm : mayR ⟨rk, rn, t⟩ = true) :
    Calls Try.prog 3 #[(Raw.mk rk rn rs).val, .slice A1 a1.length c1] w fun e w' => e = .returned (.bool true) ∧ Below w.heap.size w w' := by
  unfold Raw.val
  have fk := Try.raw_kind
  have fn := Try.raw_n
  have fs := Try.raw_s
  have hok : Raw.ok ⟨rk, rn, t⟩ := ⟨⟨r0, r1⟩, ⟨r2, r3⟩, (by show t.size ≤ 1000000; omega)⟩
  obtain ⟨v, x, b, hv, hx, hr, hi, hbi, hkb, hvl⟩ := va_good rk rn t hm
  have hst := ins_store v x hx
  obtain ⟨L, hL⟩ : ∃ L, putR ⟨rk, rn, t⟩ = L := ⟨_, rfl⟩
  have hLn : 1 ≤ L.length := by rw [← hL]; exact putR_ne _
  have hLl : L.length ≤ 260 := by rw [← hL]; exact putR_len220 ⟨rk, rn, t⟩ htl
  have hget : getR (L ++ a1.take 20) = (⟨rk, rn, t⟩, L.length, 0) := by rw [← hL]; exact getR_putR _ _ hm hok
  obtain ⟨S, hS⟩ : ∃ S : ByteArray, (⟨L.toArray⟩ : ByteArray) = S := ⟨_, rfl⟩
  have hss := beq_bytes S
  have HL := Lib.hid hL; clear hL
  have HG := Lib.hid hget; clear hget
  have HS := Lib.hid hS; clear hS
  have HO := Lib.hid hok; clear hok
  have HM := Lib.hid hm; clear hm
  have HV := Lib.hid hv; clear hv
  have HX := Lib.hid hx; clear hx
  have HRA := Lib.hid hr; clear hr
  have HI := Lib.hid hi; clear hi
  have HBI := Lib.hid hbi; clear hbi
  have HR := Lib.hid w1; clear w1
  have hb := Below.refl w.heap.size w
  go_enter Try.func3, Try.ntmps3
  go_wp2_with fail
  refine (begun4_any _).mono ?_
  rintro e k1 ⟨rfl, h⟩
  have hk : Below w.heap.size w k1 := by
    refine Below.trans ?_ (h.mono (by first | (simp; done) | (simp; omega) | omega))
    repeat' (first | exact Below.refl _ _ | refine Below.alloc ?_ (by first | (simp; done) | (simp; omega) | omega) _ | refine Below.setCell ?_ (by first | (simp; done) | (simp; omega) | omega) _)
  have hz := h.size
  try simp at hz
  have rf0 : k1.frozen? ⟨w.heap.size, 0, none⟩ = false := (h.frozen (p := ⟨w.heap.size, 0, none⟩) (by first | (simp; done) | (simp; omega) | omega)).trans (by go_simp)
  have rf1 : k1.frozen? ⟨w.heap.size, 1, none⟩ = false := (h.frozen (p := ⟨w.heap.size, 1, none⟩) (by first | (simp; done) | (simp; omega) | omega)).trans (by go_simp)
  have rf2 : k1.frozen? ⟨w.heap.size, 2, none⟩ = false := (h.frozen (p := ⟨w.heap.size, 2, none⟩) (by first | (simp; done) | (simp; omega) | omega)).trans (by go_simp)
  have rc0 : k1.cell? ⟨w.heap.size, 0, none⟩ = some (.int .i64 rk) := (h.cell (p := ⟨w.heap.size, 0, none⟩) (by first | (simp; done) | (simp; omega) | omega)).trans (by go_simp)
  have rc1 : k1.cell? ⟨w.heap.size, 1, none⟩ = some (.int .i64 rn) := (h.cell (p := ⟨w.heap.size, 1, none⟩) (by first | (simp; done) | (simp; omega) | omega)).trans (by go_simp)
  have rc2 : k1.cell? ⟨w.heap.size, 2, none⟩ = some (.string rs) := (h.cell (p := ⟨w.heap.size, 2, none⟩) (by first | (simp; done) | (simp; omega) | omega)).trans (by go_simp)
  have : w.heap.size < k1.heap.size := by omega
  replace hb : Below w.heap.size w k1 := hb.trans (hk.mono hb.size)
  clear h hk
  go_wp2_with fail
  refine (l4cut_to _ rk rn rs t _ rfl HT.out).mono ?_
  rintro e k2 ⟨rfl, h⟩
  have hk : Below k1.heap.size k1 k2 := by
    refine Below.trans ?_ (h.mono (by first | (simp; done) | (simp; omega) | omega))
    repeat' (first | exact Below.refl _ _ | refine Below.alloc ?_ (by first | (simp; done) | (simp; omega) | omega) _ | refine Below.setCell ?_ (by first | (simp; done) | (simp; omega) | omega) _)
  replace rf0 : k2.frozen? ⟨w.heap.size, 0, none⟩ = false := (hk.frozen (p := ⟨w.heap.size, 0, none⟩) (by first | (simp; done) | (simp; omega) | omega)).trans rf0
  replace rf1 : k2.frozen? ⟨w.heap.size, 1, none⟩ = false := (hk.frozen (p := ⟨w.heap.size, 1, none⟩) (by first | (simp; done) | (simp; omega) | omega)).trans rf1
  replace rf2 : k2.frozen? ⟨w.heap.size, 2, none⟩ = false := (hk.frozen (p := ⟨w.heap.size, 2, none⟩) (by first | (simp; done) | (simp; omega) | omega)).trans rf2
  replace rc0 : k2.cell? ⟨w.heap.size, 0, none⟩ = some (.int .i64 rk) := (hk.cell (p := ⟨w.heap.size, 0, none⟩) (by first | (simp; done) | (simp; omega) | omega)).trans rc0
  replace rc1 : k2.cell? ⟨w.heap.size, 1, none⟩ = some (.int .i64 rn) := (hk.cell (p := ⟨w.heap.size, 1, none⟩) (by first | (simp; done) | (simp; omega) | omega)).trans rc1
  replace rc2 : k2.cell? ⟨w.heap.size, 2, none⟩ = some (.string rs) := (hk.cell (p := ⟨w.heap.size, 2, none⟩) (by first | (simp; done) | (simp; omega) | omega)).trans rc2
  have hz := h.size
  try simp at hz
  have : w.heap.size < k2.heap.size := by omega
  replace hb : Below w.heap.size w k2 := hb.trans (hk.mono hb.size)
  clear h hk
  go_wp2_with fail
  refine (short_any A1 a1.length c1 w.heap.size 20 a1 _ (HR.out.below hb (Nat.le_refl _)) (by decide)).mono ?_
  rintro e k ⟨A2, c2, rfl, hrest, rfl⟩
  obtain ⟨rest, hr⟩ : ∃ rest, a1.take 20 = rest := ⟨_, rfl⟩
  rw [hr] at hrest
  have hrl : rest.length ≤ 20 := by rw [← hr, List.length_take]; omega
  rw [hr]
  replace HG := HG.out
  rw [hr] at HG
  replace HG := Lib.hid HG
  clear hr
  replace hrest := Lib.hid (hrest.keep fun p hp => (hb.cell hp).symm)
  go_wp2_with fail
  refine (vof_is _ ⟨rk, rn, t⟩ v x 0 _ rfl (by show t.size ≤ 1000000; omega) HV.out HX.out (by rw [HM.out]; rfl)).mono ?_
  rintro e k3 ⟨rfl, h⟩
  have rf0_new := (by exact ((h.frozen (p := ⟨w.heap.size, 0, none⟩) (by first | (simp; done) | (simp; omega) | omega)).trans (by go_simp)) : k3.frozen? ⟨w.heap.size, 0, none⟩ = false)
  have rf1_new := (by exact ((h.frozen (p := ⟨w.heap.size, 1, none⟩) (by first | (simp; done) | (simp; omega) | omega)).trans (by go_simp)) : k3.frozen? ⟨w.heap.size, 1, none⟩ = false)
  have rf2_new := (by exact ((h.frozen (p := ⟨w.heap.size, 2, none⟩) (by first | (simp; done) | (simp; omega) | omega)).trans (by go_simp)) : k3.frozen? ⟨w.heap.size, 2, none⟩ = false)
  have rc0_new := (by exact ((h.cell (p := ⟨w.heap.size, 0, none⟩) (by first | (simp; done) | (simp; omega) | omega)).trans (by go_simp)) : k3.cell? ⟨w.heap.size, 0, none⟩ = some (.int .i64 rk))
  have rc1_new := (by exact ((h.cell (p := ⟨w.heap.size, 1, none⟩) (by first | (simp; done) | (simp; omega) | omega)).trans (by go_simp)) : k3.cell? ⟨w.heap.size, 1, none⟩ = some (.int .i64 rn))
  have rc2_new := (by exact ((h.cell (p := ⟨w.heap.size, 2, none⟩) (by first | (simp; done) | (simp; omega) | omega)).trans (by go_simp)) : k3.cell? ⟨w.heap.size, 2, none⟩ = some (.string t))
  replace hb : Below w.heap.size w k3 := by
    refine Below.trans ?_ (h.mono (by first | (simp; done) | (simp; omega) | omega))
    repeat' (first | exact hb | refine Below.alloc ?_ (by first | (simp; done) | (simp; omega) | omega) _ | refine Below.setCell ?_ (by first | (simp; done) | (simp; omega) | omega) _)
  have hz := h.size
  try simp at hz
  clear rf0
  clear rf1
  clear rf2
  clear rc0
  clear rc1
  clear rc2
  have rf0 := rf0_new; clear rf0_new
  have rf1 := rf1_new; clear rf1_new
  have rf2 := rf2_new; clear rf2_new
  have rc0 := rc0_new; clear rc0_new
  have rc1 := rc1_new; clear rc1_new
  have rc2 := rc2_new; clear rc2_new
  have : w.heap.size < k3.heap.size := by omega
  clear h
  go_wp2_with fail
  refine (rmay_to _ ⟨rk, rn, t⟩ true _ rfl (by show t.size ≤ 1000000; omega) HM.out).mono ?_
  rintro e k4 ⟨rfl, h⟩
  have hk : Below k3.heap.size k3 k4 := by
    refine Below.trans ?_ (h.mono (by first | (simp; done) | (simp; omega) | omega))
    repeat' (first | exact Below.refl _ _ | refine Below.alloc ?_ (by first | (simp; done) | (simp; omega) | omega) _ | refine Below.setCell ?_ (by first | (simp; done) | (simp; omega) | omega) _)
  replace rf0 : k4.frozen? ⟨w.heap.size, 0, none⟩ = false := (hk.frozen (p := ⟨w.heap.size, 0, none⟩) (by first | (simp; done) | (simp; omega) | omega)).trans rf0
  replace rf1 : k4.frozen? ⟨w.heap.size, 1, none⟩ = false := (hk.frozen (p := ⟨w.heap.size, 1, none⟩) (by first | (simp; done) | (simp; omega) | omega)).trans rf1
  replace rf2 : k4.frozen? ⟨w.heap.size, 2, none⟩ = false := (hk.frozen (p := ⟨w.heap.size, 2, none⟩) (by first | (simp; done) | (simp; omega) | omega)).trans rf2
  replace rc0 : k4.cell? ⟨w.heap.size, 0, none⟩ = some (.int .i64 rk) := (hk.cell (p := ⟨w.heap.size, 0, none⟩) (by first | (simp; done) | (simp; omega) | omega)).trans rc0
  replace rc1 : k4.cell? ⟨w.heap.size, 1, none⟩ = some (.int .i64 rn) := (hk.cell (p := ⟨w.heap.size, 1, none⟩) (by first | (simp; done) | (simp; omega) | omega)).trans rc1
  replace rc2 : k4.cell? ⟨w.heap.size, 2, none⟩ = some (.string t) := (hk.cell (p := ⟨w.heap.size, 2, none⟩) (by first | (simp; done) | (simp; omega) | omega)).trans rc2
  have hz := h.size
  try simp at hz
  have hv0 : k4.cell? ⟨k3.heap.size, 0, none⟩ = some (x) := (h.cell (p := ⟨k3.heap.size, 0, none⟩) (by first | (simp; done) | (simp; omega) | omega)).trans (by go_simp)
  have : w.heap.size < k4.heap.size := by omega
  have : k3.heap.size < k4.heap.size := by omega
  replace hb : Below w.heap.size w k4 := hb.trans (hk.mono hb.size)
  clear h hk
  go_wp2_with fail
  have sz0 : w.heap.size < k4.heap.size := by omega
  have sz1 : k3.heap.size < k4.heap.size := by omega
  go_region_held3 (fun W => W.cell? ⟨w.heap.size, 0, none⟩ = some (.int .i64 rk) ∧ W.cell? ⟨w.heap.size, 1, none⟩ = some (.int .i64 rn) ∧ W.cell? ⟨w.heap.size, 2, none⟩ = some (.string t) ∧ W.cell? ⟨k3.heap.size, 0, none⟩ = some (x)) (first | exact ⟨rc0, rc1, rc2, hv0⟩ | assumption) (first | (go_at_call 17; refine (vraw_is _ v rk rn t _ (by rw [HX.out]) HRA.out (by omega)).mono ?_; rintro e k5 ⟨rfl, h⟩; replace rf0 := (h.frozen (p := ⟨w.heap.size, 0, none⟩) sz0).trans rf0; replace rf1 := (h.frozen (p := ⟨w.heap.size, 1, none⟩) sz0).trans rf1; replace rf2 := (h.frozen (p := ⟨w.heap.size, 2, none⟩) sz0).trans rf2; replace rc0 := (h.cell (p := ⟨w.heap.size, 0, none⟩) sz0).trans rc0; replace rc1 := (h.cell (p := ⟨w.heap.size, 1, none⟩) sz0).trans rc1; replace rc2 := (h.cell (p := ⟨w.heap.size, 2, none⟩) sz0).trans rc2; replace hv0 := (h.cell (p := ⟨k3.heap.size, 0, none⟩) sz1).trans hv0; replace sz0 := Nat.lt_of_lt_of_le sz0 h.size; replace sz1 := Nat.lt_of_lt_of_le sz1 h.size; replace hb : Below w.heap.size w k5 := Below.trans (by first | exact hb | exact hb.drew) (h.mono (by first | exact hb.size | exact hb.drew.size)); clear h) | (go_at_call 16; refine (req_is _ _ ⟨rk, rn, t⟩ ⟨rk, rn, t⟩ true _ rfl rfl (eqR_self _)).mono ?_; rintro e k5 ⟨rfl, h⟩; replace rf0 := (h.frozen (p := ⟨w.heap.size, 0, none⟩) sz0).trans rf0; replace rf1 := (h.frozen (p := ⟨w.heap.size, 1, none⟩) sz0).trans rf1; replace rf2 := (h.frozen (p := ⟨w.heap.size, 2, none⟩) sz0).trans rf2; replace rc0 := (h.cell (p := ⟨w.heap.size, 0, none⟩) sz0).trans rc0; replace rc1 := (h.cell (p := ⟨w.heap.size, 1, none⟩) sz0).trans rc1; replace rc2 := (h.cell (p := ⟨w.heap.size, 2, none⟩) sz0).trans rc2; replace hv0 := (h.cell (p := ⟨k3.heap.size, 0, none⟩) sz1).trans hv0; replace sz0 := Nat.lt_of_lt_of_le sz0 h.size; replace sz1 := Nat.lt_of_lt_of_le sz1 h.size; replace hb : Below w.heap.size w k5 := Below.trans (by first | exact hb | exact hb.drew) (h.mono (by first | exact hb.size | exact hb.drew.size)); clear h) | (go_at_call 15; refine (vkind_is _ v rk _ (by rw [HX.out]) (by rw [HRA.out])).mono ?_; rintro e k5 ⟨rfl, h⟩; replace rf0 := (h.frozen (p := ⟨w.heap.size, 0, none⟩) sz0).trans rf0; replace rf1 := (h.frozen (p := ⟨w.heap.size, 1, none⟩) sz0).trans rf1; replace rf2 := (h.frozen (p := ⟨w.heap.size, 2, none⟩) sz0).trans rf2; replace rc0 := (h.cell (p := ⟨w.heap.size, 0, none⟩) sz0).trans rc0; replace rc1 := (h.cell (p := ⟨w.heap.size, 1, none⟩) sz0).trans rc1; replace rc2 := (h.cell (p := ⟨w.heap.size, 2, none⟩) sz0).trans rc2; replace hv0 := (h.cell (p := ⟨k3.heap.size, 0, none⟩) sz1).trans hv0; replace sz0 := Nat.lt_of_lt_of_le sz0 h.size; replace sz1 := Nat.lt_of_lt_of_le sz1 h.size; replace hb : Below w.heap.size w k5 := Below.trans (by first | exact hb | exact hb.drew) (h.mono (by first | exact hb.size | exact hb.drew.size)); clear h))
  go_wp2_with fail
  refine (vasInt_is _ v rn b _ (by rw [HX.out]) HI.out HBI.out).mono ?_
  rintro e k6 ⟨rfl, h⟩
  have hk : Below k5.heap.size k5 k6 := by
    refine Below.trans ?_ (h.mono (by first | (simp; done) | (simp; omega) | omega))
    repeat' (first | exact Below.refl _ _ | refine Below.alloc ?_ (by first | (simp; done) | (simp; omega) | omega) _ | refine Below.setCell ?_ (by first | (simp; done) | (simp; omega) | omega) _)
  replace rf0 : k6.frozen? ⟨w.heap.size, 0, none⟩ = false := (hk.frozen (p := ⟨w.heap.size, 0, none⟩) (by first | (simp; done) | (simp; omega) | omega)).trans rf0
  replace rf1 : k6.frozen? ⟨w.heap.size, 1, none⟩ = false := (hk.frozen (p := ⟨w.heap.size, 1, none⟩) (by first | (simp; done) | (simp; omega) | omega)).trans rf1
  replace rf2 : k6.frozen? ⟨w.heap.size, 2, none⟩ = false := (hk.frozen (p := ⟨w.heap.size, 2, none⟩) (by first | (simp; done) | (simp; omega) | omega)).trans rf2
  replace rc0 : k6.cell? ⟨w.heap.size, 0, none⟩ = some (.int .i64 rk) := (hk.cell (p := ⟨w.heap.size, 0, none⟩) (by first | (simp; done) | (simp; omega) | omega)).trans rc0
  replace rc1 : k6.cell? ⟨w.heap.size, 1, none⟩ = some (.int .i64 rn) := (hk.cell (p := ⟨w.heap.size, 1, none⟩) (by first | (simp; done) | (simp; omega) | omega)).trans rc1
  replace rc2 : k6.cell? ⟨w.heap.size, 2, none⟩ = some (.string t) := (hk.cell (p := ⟨w.heap.size, 2, none⟩) (by first | (simp; done) | (simp; omega) | omega)).trans rc2
  replace hv0 : k6.cell? ⟨k3.heap.size, 0, none⟩ = some (x) := (hk.cell (p := ⟨k3.heap.size, 0, none⟩) (by first | (simp; done) | (simp; omega) | omega)).trans hv0
  have hz := h.size
  try simp at hz
  have : w.heap.size < k6.heap.size := by omega
  have : k3.heap.size < k6.heap.size := by omega
  replace hb : Below w.heap.size w k6 := hb.trans (hk.mono hb.size)
  clear h hk
  go_wp2_with fail
  refine (vput_to _ ⟨rk, rn, t⟩ L _ rfl HO.out HM.out HL.out).mono ?_
  rintro e k7 ⟨g, cg, rfl, hh, h⟩
  have hk : Below k6.heap.size k6 k7 := by
    refine Below.trans ?_ (h.mono (by first | (simp; done) | (simp; omega) | omega))
    repeat' (first | exact Below.refl _ _ | refine Below.alloc ?_ (by first | (simp; done) | (simp; omega) | omega) _ | refine Below.setCell ?_ (by first | (simp; done) | (simp; omega) | omega) _)
  replace rf0 : k7.frozen? ⟨w.heap.size, 0, none⟩ = false := (hk.frozen (p := ⟨w.heap.size, 0, none⟩) (by first | (simp; done) | (simp; omega) | omega)).trans rf0
  replace rf1 : k7.frozen? ⟨w.heap.size, 1, none⟩ = false := (hk.frozen (p := ⟨w.heap.size, 1, none⟩) (by first | (simp; done) | (simp; omega) | omega)).trans rf1
  replace rf2 : k7.frozen? ⟨w.heap.size, 2, none⟩ = false := (hk.frozen (p := ⟨w.heap.size, 2, none⟩) (by first | (simp; done) | (simp; omega) | omega)).trans rf2
  replace rc0 : k7.cell? ⟨w.heap.size, 0, none⟩ = some (.int .i64 rk) := (hk.cell (p := ⟨w.heap.size, 0, none⟩) (by first | (simp; done) | (simp; omega) | omega)).trans rc0
  replace rc1 : k7.cell? ⟨w.heap.size, 1, none⟩ = some (.int .i64 rn) := (hk.cell (p := ⟨w.heap.size, 1, none⟩) (by first | (simp; done) | (simp; omega) | omega)).trans rc1
  replace rc2 : k7.cell? ⟨w.heap.size, 2, none⟩ = some (.string t) := (hk.cell (p := ⟨w.heap.size, 2, none⟩) (by first | (simp; done) | (simp; omega) | omega)).trans rc2
  replace hv0 : k7.cell? ⟨k3.heap.size, 0, none⟩ = some (x) := (hk.cell (p := ⟨k3.heap.size, 0, none⟩) (by first | (simp; done) | (simp; omega) | omega)).trans hv0
  have hz := h.size
  try simp at hz
  have : w.heap.size < k7.heap.size := by omega
  have : k3.heap.size < k7.heap.size := by omega
  replace hb : Below w.heap.size w k7 := hb.trans (hk.mono hb.size)
  clear h hk
  go_wp2_with (at_builtin; refine wpList_append_byt rfl _ _ rfl k7.heap.size _ _ _ [] _ rfl (ownB_nil _ _) rfl hh.2 ?c2 (Nat.le_refl _) ?_)
  case c2 => first | omega | (simp; omega)
  intro va ka howna hba
  have hresta := hrest.out.below (hb.trans (hba.mono hb.size)) (Nat.le_refl _)
  go_wp2_with (at_builtin; refine wpList_append_byt rfl _ _ rfl k7.heap.size _ _ _ _ _ rfl howna rfl hresta ?c3 hba.size ?_)
  case c3 => first | omega | (simp; omega)
  intro vb k8 hownb hbb
  have hk := hba.trans hbb
  obtain ⟨g2, cb, rfl, hh2⟩ := hownb.head (by simp; omega)
  have hby2 := hh2.2
  have hlt2 := hh2.1
  rw [List.length_append] at hby2
  clear hh2
  clear howna hownb hresta
  replace hh := hh.below hk
  have hz : k7.heap.size ≤ k8.heap.size := hk.size
  replace rf0 := (hk.frozen (p := ⟨w.heap.size, 0, none⟩) (by first | (simp; done) | (simp; omega) | omega)).trans rf0
  replace rf1 := (hk.frozen (p := ⟨w.heap.size, 1, none⟩) (by first | (simp; done) | (simp; omega) | omega)).trans rf1
  replace rf2 := (hk.frozen (p := ⟨w.heap.size, 2, none⟩) (by first | (simp; done) | (simp; omega) | omega)).trans rf2
  replace rc0 := (hk.cell (p := ⟨w.heap.size, 0, none⟩) (by first | (simp; done) | (simp; omega) | omega)).trans rc0
  replace rc1 := (hk.cell (p := ⟨w.heap.size, 1, none⟩) (by first | (simp; done) | (simp; omega) | omega)).trans rc1
  replace rc2 := (hk.cell (p := ⟨w.heap.size, 2, none⟩) (by first | (simp; done) | (simp; omega) | omega)).trans rc2
  replace hv0 := (hk.cell (p := ⟨k3.heap.size, 0, none⟩) (by first | (simp; done) | (simp; omega) | omega)).trans hv0
  have : w.heap.size < k8.heap.size := by omega
  have : k3.heap.size < k8.heap.size := by omega
  replace hb : Below w.heap.size w k8 := hb.trans (hk.mono hb.size)
  clear hk hba hbb
  go_wp2_with fail
  refine (vget_is _ _ _ (g2 + 1) (L ++ rest) rk rn t L.length 0 _ hby2 hlt2 (by rw [List.length_append]; omega) HG.out).mono ?_
  rintro e k9 ⟨rfl, h⟩
  have hk : Below k8.heap.size k8 k9 := by
    refine Below.trans ?_ (h.mono (by first | (simp; done) | (simp; omega) | omega))
    repeat' (first | exact Below.refl _ _ | refine Below.alloc ?_ (by first | (simp; done) | (simp; omega) | omega) _ | refine Below.setCell ?_ (by first | (simp; done) | (simp; omega) | omega) _)
  replace rf0 : k9.frozen? ⟨w.heap.size, 0, none⟩ = false := (hk.frozen (p := ⟨w.heap.size, 0, none⟩) (by first | (simp; done) | (simp; omega) | omega)).trans rf0
  replace rf1 : k9.frozen? ⟨w.heap.size, 1, none⟩ = false := (hk.frozen (p := ⟨w.heap.size, 1, none⟩) (by first | (simp; done) | (simp; omega) | omega)).trans rf1
  replace rf2 : k9.frozen? ⟨w.heap.size, 2, none⟩ = false := (hk.frozen (p := ⟨w.heap.size, 2, none⟩) (by first | (simp; done) | (simp; omega) | omega)).trans rf2
  replace rc0 : k9.cell? ⟨w.heap.size, 0, none⟩ = some (.int .i64 rk) := (hk.cell (p := ⟨w.heap.size, 0, none⟩) (by first | (simp; done) | (simp; omega) | omega)).trans rc0
  replace rc1 : k9.cell? ⟨w.heap.size, 1, none⟩ = some (.int .i64 rn) := (hk.cell (p := ⟨w.heap.size, 1, none⟩) (by first | (simp; done) | (simp; omega) | omega)).trans rc1
  replace rc2 : k9.cell? ⟨w.heap.size, 2, none⟩ = some (.string t) := (hk.cell (p := ⟨w.heap.size, 2, none⟩) (by first | (simp; done) | (simp; omega) | omega)).trans rc2
  replace hv0 : k9.cell? ⟨k3.heap.size, 0, none⟩ = some (x) := (hk.cell (p := ⟨k3.heap.size, 0, none⟩) (by first | (simp; done) | (simp; omega) | omega)).trans hv0
  have hz := h.size
  try simp at hz
  have : w.heap.size < k9.heap.size := by omega
  have : k3.heap.size < k9.heap.size := by omega
  replace hh := hh.below hk
  replace hb : Below w.heap.size w k9 := hb.trans (hk.mono hb.size)
  clear h hk
  clear hv0 HG HM HV HX HRA HI HBI hst hrest hkb
  go_wp2_with fail
  refine wp_world (fun W => W.frozen? ⟨w.heap.size, 0, none⟩ = false ∧ W.frozen? ⟨w.heap.size, 1, none⟩ = false ∧ W.frozen? ⟨w.heap.size, 2, none⟩ = false ∧ W.cell? ⟨w.heap.size, 0, none⟩ = some (.int .i64 rk) ∧ W.cell? ⟨w.heap.size, 1, none⟩ = some (.int .i64 rn) ∧ W.cell? ⟨w.heap.size, 2, none⟩ = some (.string t) ∧ W.cell? ⟨k9.heap.size, 0, none⟩ = some (.int .i64 rk) ∧ W.cell? ⟨k9.heap.size, 1, none⟩ = some (.int .i64 rn) ∧ W.cell? ⟨k9.heap.size, 2, none⟩ = some (.string t) ∧ Head g cg L W ∧ Below w.heap.size w W ∧ k9.heap.size + 1 ≤ W.heap.size) ⟨(by first | exact rf0 | exact ((below_new _ _).frozen (p := ⟨w.heap.size, 0, none⟩) (by first | (simp; done) | (simp; omega) | omega)).trans rf0 | exact ((below_new _ _).frozen (p := ⟨w.heap.size, 0, none⟩) (by first | (simp; done) | (simp; omega) | omega)).trans (((below_new _ _).frozen (p := ⟨w.heap.size, 0, none⟩) (by first | (simp; done) | (simp; omega) | omega)).trans rf0) | exact ((below_new _ _).frozen (p := ⟨w.heap.size, 0, none⟩) (by first | (simp; done) | (simp; omega) | omega)).trans (((below_new _ _).frozen (p := ⟨w.heap.size, 0, none⟩) (by first | (simp; done) | (simp; omega) | omega)).trans (((below_new _ _).frozen (p := ⟨w.heap.size, 0, none⟩) (by first | (simp; done) | (simp; omega) | omega)).trans rf0)) | go_simp), (by first | exact rf1 | exact ((below_new _ _).frozen (p := ⟨w.heap.size, 1, none⟩) (by first | (simp; done) | (simp; omega) | omega)).trans rf1 | exact ((below_new _ _).frozen (p := ⟨w.heap.size, 1, none⟩) (by first | (simp; done) | (simp; omega) | omega)).trans (((below_new _ _).frozen (p := ⟨w.heap.size, 1, none⟩) (by first | (simp; done) | (simp; omega) | omega)).trans rf1) | exact ((below_new _ _).frozen (p := ⟨w.heap.size, 1, none⟩) (by first | (simp; done) | (simp; omega) | omega)).trans (((below_new _ _).frozen (p := ⟨w.heap.size, 1, none⟩) (by first | (simp; done) | (simp; omega) | omega)).trans (((below_new _ _).frozen (p := ⟨w.heap.size, 1, none⟩) (by first | (simp; done) | (simp; omega) | omega)).trans rf1)) | go_simp), (by first | exact rf2 | exact ((below_new _ _).frozen (p := ⟨w.heap.size, 2, none⟩) (by first | (simp; done) | (simp; omega) | omega)).trans rf2 | exact ((below_new _ _).frozen (p := ⟨w.heap.size, 2, none⟩) (by first | (simp; done) | (simp; omega) | omega)).trans (((below_new _ _).frozen (p := ⟨w.heap.size, 2, none⟩) (by first | (simp; done) | (simp; omega) | omega)).trans rf2) | exact ((below_new _ _).frozen (p := ⟨w.heap.size, 2, none⟩) (by first | (simp; done) | (simp; omega) | omega)).trans (((below_new _ _).frozen (p := ⟨w.heap.size, 2, none⟩) (by first | (simp; done) | (simp; omega) | omega)).trans (((below_new _ _).frozen (p := ⟨w.heap.size, 2, none⟩) (by first | (simp; done) | (simp; omega) | omega)).trans rf2)) | go_simp), (by first | exact rc0 | exact ((below_new _ _).cell (p := ⟨w.heap.size, 0, none⟩) (by first | (simp; done) | (simp; omega) | omega)).trans rc0 | exact ((below_new _ _).cell (p := ⟨w.heap.size, 0, none⟩) (by first | (simp; done) | (simp; omega) | omega)).trans (((below_new _ _).cell (p := ⟨w.heap.size, 0, none⟩) (by first | (simp; done) | (simp; omega) | omega)).trans rc0) | exact ((below_new _ _).cell (p := ⟨w.heap.size, 0, none⟩) (by first | (simp; done) | (simp; omega) | omega)).trans (((below_new _ _).cell (p := ⟨w.heap.size, 0, none⟩) (by first | (simp; done) | (simp; omega) | omega)).trans (((below_new _ _).cell (p := ⟨w.heap.size, 0, none⟩) (by first | (simp; done) | (simp; omega) | omega)).trans rc0)) | go_simp), (by first | exact rc1 | exact ((below_new _ _).cell (p := ⟨w.heap.size, 1, none⟩) (by first | (simp; done) | (simp; omega) | omega)).trans rc1 | exact ((below_new _ _).cell (p := ⟨w.heap.size, 1, none⟩) (by first | (simp; done) | (simp; omega) | omega)).trans (((below_new _ _).cell (p := ⟨w.heap.size, 1, none⟩) (by first | (simp; done) | (simp; omega) | omega)).trans rc1) | exact ((below_new _ _).cell (p := ⟨w.heap.size, 1, none⟩) (by first | (simp; done) | (simp; omega) | omega)).trans (((below_new _ _).cell (p := ⟨w.heap.size, 1, none⟩) (by first | (simp; done) | (simp; omega) | omega)).trans (((below_new _ _).cell (p := ⟨w.heap.size, 1, none⟩) (by first | (simp; done) | (simp; omega) | omega)).trans rc1)) | go_simp), (by first | exact rc2 | exact ((below_new _ _).cell (p := ⟨w.heap.size, 2, none⟩) (by first | (simp; done) | (simp; omega) | omega)).trans rc2 | exact ((below_new _ _).cell (p := ⟨w.heap.size, 2, none⟩) (by first | (simp; done) | (simp; omega) | omega)).trans (((below_new _ _).cell (p := ⟨w.heap.size, 2, none⟩) (by first | (simp; done) | (simp; omega) | omega)).trans rc2) | exact ((below_new _ _).cell (p := ⟨w.heap.size, 2, none⟩) (by first | (simp; done) | (simp; omega) | omega)).trans (((below_new _ _).cell (p := ⟨w.heap.size, 2, none⟩) (by first | (simp; done) | (simp; omega) | omega)).trans (((below_new _ _).cell (p := ⟨w.heap.size, 2, none⟩) (by first | (simp; done) | (simp; omega) | omega)).trans rc2)) | go_simp), (by go_simp), (by go_simp), (by go_simp), (hh.below (below_new _ _)), (by repeat' (first | exact hb | refine Below.alloc ?_ (by first | (simp; done) | (simp; omega) | omega) _ | refine Below.setCell ?_ (by first | (simp; done) | (simp; omega) | omega) _)), (by first | (simp; done) | (simp; omega) | omega)⟩ ?_
  clear rf0 rf1 rf2 rc0 rc1 rc2 hh hb
  rintro k10 ⟨rf0, rf1, rf2, rc0, rc1, rc2, q0, q1, q2, hh, hb, hz⟩
  have : w.heap.size < k10.heap.size := by omega
  have : k9.heap.size < k10.heap.size := by omega
  replace hh : Head g cg L k10.drew := ⟨hh.1, hh.2⟩
  have hcb := conv_to hh hLn HS.out
  clear rf0 rf1 rf2
  have sz0 : w.heap.size < k10.heap.size := by omega
  have sz1 : k9.heap.size < k10.heap.size := by omega
  refine wp_region_noPanic ?_
  refine wp_region_held_drew (S := fun W => W.cell? ⟨w.heap.size, 0, none⟩ = some (.int .i64 rk) ∧ W.cell? ⟨w.heap.size, 1, none⟩ = some (.int .i64 rn) ∧ W.cell? ⟨w.heap.size, 2, none⟩ = some (.string t) ∧ W.cell? ⟨k9.heap.size, 0, none⟩ = some (.int .i64 rk) ∧ W.cell? ⟨k9.heap.size, 1, none⟩ = some (.int .i64 rn) ∧ W.cell? ⟨k9.heap.size, 2, none⟩ = some (.string t) ∧ (convert 24 9 (.slice (some ⟨g, 0, none⟩) L.length cg)).run Try.prog W = .ok (.string S) W) (by kernel_rfl) ?_ (fun hHeld => ?_)
  · exact ⟨rc0, rc1, rc2, q0, q1, q2, hcb⟩
  refine wpAnyH_take (i := 0) (oi := { dst := some 78, op := Op.move (Operand.tmp 10), type := 24, pos := "law.go:46", after := #[], guard := none }) (v := .slice (some ⟨g, 0, none⟩) L.length cg) rfl (by kernel_rfl) (by kernel_rfl) (by kernel_rfl) (fun _ _ _ h => h) (Or.inl ⟨by rfl, fun w hSw => ?_⟩) (by assumption) ?_
  · (try dsimp only at hSw)
    go_simp
  try simp only [Act.put, List.setIfInBounds_toArray, List.set_cons_zero, List.set_cons_succ]
  refine wpAnyH_take (i := 1) (oi := { dst := some 79, op := Op.convert 24 9 (Operand.tmp 78), type := 9, pos := "law.go:46", after := #[{ on := 0, ground := Ground.data }], guard := none }) (v := .string S) rfl (by kernel_rfl) (by kernel_rfl) (by kernel_rfl) (fun _ _ _ h => h) (Or.inl ⟨by rfl, fun w hSw => ?_⟩) (by assumption) ?_
  · (try dsimp only at hSw)
    go_simp
  try simp only [Act.put, List.setIfInBounds_toArray, List.set_cons_zero, List.set_cons_succ]
  refine wpAnyH_take (i := 2) (oi := { dst := some 80, op := Op.load 23 (Operand.tmp 2), type := 23, pos := "law.go:46", after := #[], guard := none }) (v := .agg #[.int .i64 rk, .int .i64 rn, .string t]) rfl (by kernel_rfl) (by kernel_rfl) (by kernel_rfl) (fun _ _ _ h => h) (Or.inl ⟨by rfl, fun w hSw => ?_⟩) (by assumption) ?_
  · (try dsimp only at hSw)
    go_simp
  try simp only [Act.put, List.setIfInBounds_toArray, List.set_cons_zero, List.set_cons_succ]
  refine wpAnyH_ready (rs := [3]) (by kernel_rfl) (by simp) ?_
  refine AllReadyH.cons (o := { dst := some 81, op := Op.call { callee := Callee.value (Operand.func 21), args := #[Operand.tmp 80], argTypes := #[23] }, type := 24, pos := "law.go:46", after := #[{ on := 2, ground := Ground.data }], guard := none }) rfl (fun K hK => ?_) AllReadyH.nil
  go_simp
  go_at_call 21
  refine (rputRaw_to _ ⟨rk, rn, t⟩ L _ rfl HO.out HL.out).mono ?_
  rintro e k11 ⟨g3, c3, rfl, hh3, h⟩
  replace rc0 := (h.cell (p := ⟨w.heap.size, 0, none⟩) sz0).trans rc0
  replace rc1 := (h.cell (p := ⟨w.heap.size, 1, none⟩) sz0).trans rc1
  replace rc2 := (h.cell (p := ⟨w.heap.size, 2, none⟩) sz0).trans rc2
  replace q0 := (h.cell (p := ⟨k9.heap.size, 0, none⟩) sz1).trans q0
  replace q1 := (h.cell (p := ⟨k9.heap.size, 1, none⟩) sz1).trans q1
  replace q2 := (h.cell (p := ⟨k9.heap.size, 2, none⟩) sz1).trans q2
  replace sz0 := Nat.lt_of_lt_of_le sz0 h.size
  replace sz1 := Nat.lt_of_lt_of_le sz1 h.size
  replace hb : Below w.heap.size w k11 := Below.trans (by first | exact hb | exact hb.drew) (h.mono (by first | exact hb.size | exact hb.drew.size))
  replace hh := hh.below h
  replace hcb := conv_to hh hLn HS.out
  have hc3 := conv_to hh3 hLn HS.out
  clear h
  try dsimp only
  refine hK.out _ _ ?_ (fun hHeld => ?_)
  · exact ⟨rc0, rc1, rc2, q0, q1, q2, hcb⟩
  clear hK K
  try simp only [Act.put, List.setIfInBounds_toArray, List.set_cons_zero, List.set_cons_succ]
  refine wpAnyH_ready (rs := [4]) (by kernel_rfl) (by simp) ?_
  refine AllReadyH.cons (o := { dst := some 82, op := Op.convert 24 9 (Operand.tmp 81), type := 9, pos := "law.go:46", after := #[{ on := 3, ground := Ground.data }], guard := none }) rfl (fun K hK => ?_) AllReadyH.nil
  go_simp
  refine hK.out _ _ ?_ (fun hHeld => ?_)
  · exact ⟨rc0, rc1, rc2, q0, q1, q2, hcb⟩
  clear hK K
  try simp only [Act.put, List.setIfInBounds_toArray, List.set_cons_zero, List.set_cons_succ]
  refine wpAnyH_take (i := 5) (oi := { dst := some 83, op := Op.binOp BinOp.eql 9 (Operand.tmp 79) (Operand.tmp 82) 9, type := 4, pos := "law.go:46", after := #[{ on := 1, ground := Ground.data }, { on := 4, ground := Ground.data }], guard := none }) (v := .bool true) rfl (by kernel_rfl) (by kernel_rfl) (by kernel_rfl) (fun _ _ _ h => h) (Or.inl ⟨by rfl, fun w hSw => ?_⟩) (by assumption) ?_
  · (try dsimp only at hSw)
    go_simp
  try simp only [Act.put, List.setIfInBounds_toArray, List.set_cons_zero, List.set_cons_succ]
  refine wpAnyH_take (i := 6) (oi := { dst := some 84, op := Op.move (Operand.tmp 83), type := 4, pos := "law.go:46", after := #[{ on := 5, ground := Ground.data }, { on := 3, ground := Ground.chain }], guard := none }) (v := .bool true) rfl (by kernel_rfl) (by kernel_rfl) (by kernel_rfl) (fun _ _ _ h => h) (Or.inl ⟨by rfl, fun w hSw => ?_⟩) (by assumption) ?_
  · (try dsimp only at hSw)
    go_simp
  try simp only [Act.put, List.setIfInBounds_toArray, List.set_cons_zero, List.set_cons_succ]
  refine wpAnyH_take (i := 7) (oi := { dst := some 85, op := Op.move (Operand.tmp 7), type := 30, pos := "law.go:46", after := #[{ on := 6, ground := Ground.guard }], guard := some (6, true) }) (v := .int .i64 0) rfl (by kernel_rfl) (by kernel_rfl) (by kernel_rfl) (fun _ _ _ h => h) (Or.inl ⟨by rfl, fun w hSw => ?_⟩) (by assumption) ?_
  · (try dsimp only at hSw)
    go_simp
  try simp only [Act.put, List.setIfInBounds_toArray, List.set_cons_zero, List.set_cons_succ]
  refine wpAnyH_take (i := 8) (oi := { dst := some 86, op := Op.binOp BinOp.eql 30 (Operand.tmp 85) (Operand.const (Value.int IntKind.i64 0)) 30, type := 4, pos := "law.go:46", after := #[{ on := 7, ground := Ground.data }, { on := 6, ground := Ground.guard }], guard := some (6, true) }) (v := .bool true) rfl (by kernel_rfl) (by kernel_rfl) (by kernel_rfl) (fun _ _ _ h => h) (Or.inl ⟨by rfl, fun w hSw => ?_⟩) (by assumption) ?_
  · (try dsimp only at hSw)
    go_simp
  try simp only [Act.put, List.setIfInBounds_toArray, List.set_cons_zero, List.set_cons_succ]
  refine wpAnyH_take (i := 9) (oi := { dst := some 87, op := Op.pick (Operand.tmp 84) (Operand.tmp 86) (Operand.const (Value.bool false)), type := 4, pos := "law.go:46", after := #[{ on := 6, ground := Ground.data }, { on := 8, ground := Ground.data }], guard := none }) (v := .bool true) rfl (by kernel_rfl) (by kernel_rfl) (by kernel_rfl) (fun _ _ _ h => h) (Or.inl ⟨by rfl, fun w hSw => ?_⟩) (by assumption) ?_
  · (try dsimp only at hSw)
    go_simp
  try simp only [Act.put, List.setIfInBounds_toArray, List.set_cons_zero, List.set_cons_succ]
  refine wpAnyH_take (i := 10) (oi := { dst := some 88, op := Op.move (Operand.tmp 87), type := 4, pos := "law.go:46", after := #[{ on := 9, ground := Ground.data }, { on := 6, ground := Ground.chain }], guard := none }) (v := .bool true) rfl (by kernel_rfl) (by kernel_rfl) (by kernel_rfl) (fun _ _ _ h => h) (Or.inl ⟨by rfl, fun w hSw => ?_⟩) (by assumption) ?_
  · (try dsimp only at hSw)
    go_simp
  try simp only [Act.put, List.setIfInBounds_toArray, List.set_cons_zero, List.set_cons_succ]
  refine wpAnyH_take (i := 11) (oi := { dst := some 89, op := Op.move (Operand.tmp 12), type := 3, pos := "law.go:46", after := #[{ on := 10, ground := Ground.guard }], guard := some (10, true) }) (v := .int .i64 L.length) rfl (by kernel_rfl) (by kernel_rfl) (by kernel_rfl) (fun _ _ _ h => h) (Or.inl ⟨by rfl, fun w hSw => ?_⟩) (by assumption) ?_
  · (try dsimp only at hSw)
    go_simp
  try simp only [Act.put, List.setIfInBounds_toArray, List.set_cons_zero, List.set_cons_succ]
  refine wpAnyH_take (i := 12) (oi := { dst := some 90, op := Op.move (Operand.tmp 10), type := 24, pos := "law.go:46", after := #[{ on := 10, ground := Ground.guard }], guard := some (10, true) }) (v := .slice (some ⟨g, 0, none⟩) L.length cg) rfl (by kernel_rfl) (by kernel_rfl) (by kernel_rfl) (fun _ _ _ h => h) (Or.inl ⟨by rfl, fun w hSw => ?_⟩) (by assumption) ?_
  · (try dsimp only at hSw)
    go_simp
  try simp only [Act.put, List.setIfInBounds_toArray, List.set_cons_zero, List.set_cons_succ]
  refine wpAnyH_take (i := 13) (oi := { dst := some 91, op := Op.call { callee := Callee.builtin Builtin.len, args := #[Operand.tmp 90], argTypes := #[24] }, type := 3, pos := "law.go:46", after := #[{ on := 12, ground := Ground.data }, { on := 10, ground := Ground.guard }], guard := some (10, true) }) (v := .int .i64 L.length) rfl (by kernel_rfl) (by kernel_rfl) (by kernel_rfl) (fun _ _ _ h => h) (Or.inl ⟨by rfl, fun w hSw => ?_⟩) (by assumption) ?_
  · (try dsimp only at hSw)
    go_simp
  try simp only [Act.put, List.setIfInBounds_toArray, List.set_cons_zero, List.set_cons_succ]
  refine wpAnyH_take (i := 14) (oi := { dst := some 92, op := Op.binOp BinOp.eql 3 (Operand.tmp 89) (Operand.tmp 91) 3, type := 4, pos := "law.go:46", after := #[{ on := 11, ground := Ground.data }, { on := 13, ground := Ground.data }, { on := 10, ground := Ground.guard }], guard := some (10, true) }) (v := .bool true) rfl (by kernel_rfl) (by kernel_rfl) (by kernel_rfl) (fun _ _ _ h => h) (Or.inl ⟨by rfl, fun w hSw => ?_⟩) (by assumption) ?_
  · (try dsimp only at hSw)
    go_simp
  try simp only [Act.put, List.setIfInBounds_toArray, List.set_cons_zero, List.set_cons_succ]
  refine wpAnyH_take (i := 15) (oi := { dst := some 93, op := Op.pick (Operand.tmp 88) (Operand.tmp 92) (Operand.const (Value.bool false)), type := 4, pos := "law.go:46", after := #[{ on := 10, ground := Ground.data }, { on := 14, ground := Ground.data }], guard := none }) (v := .bool true) rfl (by kernel_rfl) (by kernel_rfl) (by kernel_rfl) (fun _ _ _ h => h) (Or.inl ⟨by rfl, fun w hSw => ?_⟩) (by assumption) ?_
  · (try dsimp only at hSw)
    go_simp
  try simp only [Act.put, List.setIfInBounds_toArray, List.set_cons_zero, List.set_cons_succ]
  refine wpAnyH_take (i := 16) (oi := { dst := some 94, op := Op.move (Operand.tmp 93), type := 4, pos := "law.go:46", after := #[{ on := 15, ground := Ground.data }, { on := 10, ground := Ground.chain }], guard := none }) (v := .bool true) rfl (by kernel_rfl) (by kernel_rfl) (by kernel_rfl) (fun _ _ _ h => h) (Or.inl ⟨by rfl, fun w hSw => ?_⟩) (by assumption) ?_
  · (try dsimp only at hSw)
    go_simp
  try simp only [Act.put, List.setIfInBounds_toArray, List.set_cons_zero, List.set_cons_succ]
  refine wpAnyH_take (i := 17) (oi := { dst := some 95, op := Op.load 23 (Operand.tmp 11), type := 23, pos := "law.go:46", after := #[{ on := 16, ground := Ground.guard }], guard := some (16, true) }) (v := .agg #[.int .i64 rk, .int .i64 rn, .string t]) rfl (by kernel_rfl) (by kernel_rfl) (by kernel_rfl) (fun _ _ _ h => h) (Or.inl ⟨by rfl, fun w hSw => ?_⟩) (by assumption) ?_
  · (try dsimp only at hSw)
    go_simp
  try simp only [Act.put, List.setIfInBounds_toArray, List.set_cons_zero, List.set_cons_succ]
  refine wpAnyH_take (i := 18) (oi := { dst := some 96, op := Op.load 23 (Operand.tmp 2), type := 23, pos := "law.go:46", after := #[{ on := 16, ground := Ground.guard }], guard := some (16, true) }) (v := .agg #[.int .i64 rk, .int .i64 rn, .string t]) rfl (by kernel_rfl) (by kernel_rfl) (by kernel_rfl) (fun _ _ _ h => h) (Or.inl ⟨by rfl, fun w hSw => ?_⟩) (by assumption) ?_
  · (try dsimp only at hSw)
    go_simp
  try simp only [Act.put, List.setIfInBounds_toArray, List.set_cons_zero, List.set_cons_succ]
  refine wpAnyH_ready (rs := [19]) (by kernel_rfl) (by simp) ?_
  refine AllReadyH.cons (o := { dst := some 97, op := Op.call { callee := Callee.value (Operand.func 16), args := #[Operand.tmp 95, Operand.tmp 96], argTypes := #[23, 23] }, type := 4, pos := "law.go:46", after := #[{ on := 17, ground := Ground.data }, { on := 18, ground := Ground.data }, { on := 16, ground := Ground.chain }, { on := 16, ground := Ground.guard }], guard := some (16, true) }) rfl (fun K hK => ?_) AllReadyH.nil
  go_simp
  go_at_call 16
  refine (req_is _ _ ⟨rk, rn, t⟩ ⟨rk, rn, t⟩ true _ rfl rfl (eqR_self _)).mono ?_
  rintro e k12 ⟨rfl, h⟩
  replace rc0 := (h.cell (p := ⟨w.heap.size, 0, none⟩) sz0).trans rc0
  replace rc1 := (h.cell (p := ⟨w.heap.size, 1, none⟩) sz0).trans rc1
  replace rc2 := (h.cell (p := ⟨w.heap.size, 2, none⟩) sz0).trans rc2
  replace q0 := (h.cell (p := ⟨k9.heap.size, 0, none⟩) sz1).trans q0
  replace q1 := (h.cell (p := ⟨k9.heap.size, 1, none⟩) sz1).trans q1
  replace q2 := (h.cell (p := ⟨k9.heap.size, 2, none⟩) sz1).trans q2
  replace sz0 := Nat.lt_of_lt_of_le sz0 h.size
  replace sz1 := Nat.lt_of_lt_of_le sz1 h.size
  replace hb : Below w.heap.size w k12 := Below.trans (by first | exact hb | exact hb.drew) (h.mono (by first | exact hb.size | exact hb.drew.size))
  replace hh := hh.below h
  replace hcb := conv_to hh hLn HS.out
  clear h
  try dsimp only
  refine hK.out _ _ ?_ (fun hHeld => ?_)
  · exact ⟨rc0, rc1, rc2, q0, q1, q2, hcb⟩
  clear hK K
  try simp only [Act.put, List.setIfInBounds_toArray, List.set_cons_zero, List.set_cons_succ]
  refine wpAnyH_take (i := 20) (oi := { dst := some 98, op := Op.pick (Operand.tmp 94) (Operand.tmp 97) (Operand.const (Value.bool false)), type := 4, pos := "law.go:46", after := #[{ on := 16, ground := Ground.data }, { on := 19, ground := Ground.data }], guard := none }) (v := .bool true) rfl (by kernel_rfl) (by kernel_rfl) (by kernel_rfl) (fun _ _ _ h => h) (Or.inl ⟨by rfl, fun w hSw => ?_⟩) (by assumption) ?_
  · (try dsimp only at hSw)
    go_simp
  try simp only [Act.put, List.setIfInBounds_toArray, List.set_cons_zero, List.set_cons_succ]
  refine wpAnyH_take (i := 21) (oi := { dst := some 4, op := Op.assign (Operand.tmp 98), type := 4, pos := "law.go:46", after := #[{ on := 20, ground := Ground.data }, { on := 19, ground := Ground.chain }, { on := 0, ground := Ground.phase }, { on := 1, ground := Ground.phase }, { on := 2, ground := Ground.phase }, { on := 3, ground := Ground.phase }, { on := 4, ground := Ground.phase }, { on := 5, ground := Ground.phase }, { on := 6, ground := Ground.phase }, { on := 7, ground := Ground.phase }, { on := 8, ground := Ground.phase }, { on := 9, ground := Ground.phase }, { on := 10, ground := Ground.phase }, { on := 11, ground := Ground.phase }, { on := 12, ground := Ground.phase }, { on := 13, ground := Ground.phase }, { on := 14, ground := Ground.phase }, { on := 15, ground := Ground.phase }, { on := 16, ground := Ground.phase }, { on := 17, ground := Ground.phase }, { on := 18, ground := Ground.phase }, { on := 19, ground := Ground.phase }, { on := 20, ground := Ground.phase }], guard := none }) (v := .bool true) rfl (by kernel_rfl) (by kernel_rfl) (by kernel_rfl) (fun _ _ _ h => h) (Or.inl ⟨by rfl, fun w hSw => ?_⟩) (by assumption) ?_
  · (try dsimp only at hSw)
    go_simp
  try simp only [Act.put, List.setIfInBounds_toArray, List.set_cons_zero, List.set_cons_succ]
  refine wpAnyH_done (by kernel_rfl) ?_ _
  refine NoPanic.normal ?_
  go_wp2
  go_ret
  exact ⟨rfl, hb⟩

set_option maxRecDepth 100000 in
set_option maxHeartbeats 8000000 in
theorem walk (w : World) (a0 : Raw) (w0 : a0.fits) (A1 : Option Addr) (c1 : Nat) (a1 : List UInt8) (w1 : Byt w w.heap.size (.slice A1 a1.length c1) a1) (x1 : a1.length ≤ maxLen) :
    Calls Try.prog 3 #[a0.val, .slice A1 a1.length c1] w fun e w' => e = .returned (.bool true) ∧ Below w.heap.size w w' := by
  obtain ⟨rk, rn, rs⟩ := a0
  obtain ⟨⟨r0, r1⟩, ⟨r2, r3⟩, r4⟩ := w0
  simp only at r0 r1 r2 r3 r4
  obtain ⟨t, ht⟩ : ∃ t, cutS rs 220 = t := ⟨_, rfl⟩
  have htl : t.size ≤ 220 := by rw [← ht]; exact cutS_size _ _
  have HT := Lib.hid ht; clear ht
  cases hm : mayR ⟨rk, rn, t⟩
  · exact walk_bad w rk rn rs t htl r0 r1 r2 r3 HT A1 c1 a1 w1 hm (by unfold vaOf; rw [hm]; rfl)
  · exact walk_good w rk rn rs t htl r0 r1 r2 r3 HT A1 c1 a1 w1 hm

set_option maxRecDepth 100000 in
theorem lifted (os : Os) (started : os.Started) (H : Type) (enc : TypeId × Value → H) :
    ReturnsInHanded {} Try.checked os 3 .any (Rows.valueAllSpec.pre6 enc Try.prog Try.f3 Rows.valueAllRow.domain false) (Rows.valueAllSpec.post enc Try.prog Try.f3 false true false false) := by
  refine returnsInHanded_of_change (C := Try.checked) own started (by kernel_rfl) Try.func3
    (ChangeSpec.witness6 (enc := enc) (C := Try.checked) false ⟨#[], #[.agg #[.int .i64 0, .int .i64 0, .string ByteArray.empty], .slice none 0 0], []⟩ 8 (by kernel_rfl) (by kernel_rfl) (by kernel_rfl) (by kernel_rfl)) ?_
  intro W base args ds gs before hval0 hW hcnd _
  have hval : ∀ (j : Nat) t v, Try.f3.params[j]? = some t → args[j]? = some v → Value.okWide Try.prog W .any base t v := hval0
  have hW' := hW
  obtain ⟨p, q, hA0, hV, rfl, hfz, hnd⟩ := hW
  have hA : DataW.TrodAll enc Try.prog W 0 (fun _ => true) true Try.f3.params.toList args.toList ds p := hA0
  have hA1 := hA
  rw [Try.params3] at hA hval
  obtain ⟨v0, vs0, d0, ds0, p0, q0, hargs, rfl, rfl, h0, r0⟩ := trodAll_cons hA
  obtain ⟨v1, vs1, d1, ds1, p1, q1, rfl, rfl, rfl, h1, r1⟩ := trodAll_cons r0
  obtain ⟨rfl, rfl, rfl⟩ := trodAll_nil r1
  obtain rfl : args = #[v0, v1] := by cases args; simp_all
  obtain ⟨rfl, rfl⟩ := trodVars_none hV
  obtain ⟨a0, rfl, w0⟩ := open_raw (hval 0 23 v0 rfl rfl) h0
  obtain ⟨A1, c1, a1, rfl, w1, x1⟩ := open_bytes (hval 1 24 v1 rfl rfl) h1
  clear hA0 hval0
  simp only [List.append_nil] at hW'
  try simp only [List.append_nil] at hA1
  refine (walk W a0 w0 A1 c1 a1 w1 x1).mono fun e W' ⟨he, hg⟩ => ?_
  subst he
  exact ⟨_, rfl, law_end Try.laidOut (by kernel_rfl) hW' hA1 hg rfl rfl rfl (trodAll_mk1 (shut_bool Try.underlying4 _))⟩

theorem over : Rows.valueAllRow.holds Try.pinned (OpenSpec.ofChange Rows.valueAllSpec) :=
  OpenClaim.holds_of_wide 3 Try.f3 rfl rfl rfl rfl rfl rfl rfl ⟨rfl, rfl, rfl, rfl, rfl⟩ rfl rfl rfl rfl rfl (by kernel_rfl) Try.func3 (by kernel_rfl)
    (of_decide_eq_true (by kernel_rfl)) (by unfold Func.isWrapper; first | (rw [if_pos (by decide +kernel)]; kernel_rfl) | (rw [if_neg (by decide +kernel)]; exact ⟨rfl, rfl⟩))
    (fun os started H enc _ => lifted os started H enc)

/-- the statement -/
theorem proved : Rows.ValueAllSaid := over
#print axioms proved
end Go.Proofs.Ytffklbkdmfeimaa.valueAll
