/-
  Package op's mayValue and mayCas say which raw values may be, and which two of them a key may be changed from and to.
  A text has at most 1,000,000 bytes.
-/
import Derived.Test.YtegkhkcnoahhdaaVaPlain
import Derived.Test.YtegkhkcnoahhdaaReDocSet
import Derived.Test.YtegkhkcnoahhdaaRuLess
import Derived.Test.YtegkhkcnoahhdaaOpPlain
set_option linter.unusedSimpArgs false
set_option linter.unusedVariables false
namespace Go.Proofs.Ytegkhkcnoahhdaa
open Go.RowKit
set_option maxRecDepth 100000

theorem okE_eq (b : Bool) : ((okE b : Int) == 0) = b := by cases b <;> rfl
set_option maxHeartbeats 1000000 in
theorem omayV_is (u : Value) (r : Raw) (b : Bool) (w : World) (hu : u = r.val) (hs : r.s.size ≤ 1000000) (hb : mayR r = b) : Calls Try.prog 71 #[u] w (Bl b w) := by
  subst hu
  obtain ⟨v, hv⟩ : ∃ v, vaOf r = v := ⟨_, rfl⟩
  obtain ⟨x, hx⟩ : ∃ x, v.ins = x := ⟨_, rfl⟩
  obtain ⟨k, hk⟩ : ∃ k, okE (mayR r) = k := ⟨_, rfl⟩
  have hof := fun W => vof_is _ r v x k W rfl hs hv hx hk
  have hst := ins_store v x hx
  have hkb : (k == 0) = b := by rw [← hk, okE_eq, hb]
  obtain ⟨rk, rn, t⟩ := r
  unfold Raw.val at hof
  unfold Raw.val
  have HOF := Lib.hid hof; clear hof hv hx hk hs hb
  go_enter Try.func71, Try.ntmps71
  go_wp2_with fail
  refine (HOF.out _).mono ?_
  rintro e w1 ⟨rfl, h⟩
  have hbw : Below w.heap.size w w1 := (below_one w _).trans (h.mono (by simp))
  clear h
  go_wp2
  go_ret
  exact ⟨ret_bool (by simp [hkb]), by first | exact hbw | exact hbw.alloc hbw.size _⟩
set_option maxHeartbeats 1000000 in
theorem omayC_00 (vk vn ok on : Int) (vs os : ByteArray) (a b : Bool) (w : World) (hs : vs.size ≤ 1000000) (ho : os.size ≤ 1000000) (ha : mayR ⟨vk, vn, vs⟩ = a) (hbb : mayR ⟨ok, on, os⟩ = b) (hk : (vk == 0) = true) (hk2 : (ok == 0) = true) :
    Calls Try.prog 72 #[.agg #[.int .i64 vk, .int .i64 vn, .string vs], .agg #[.int .i64 ok, .int .i64 on, .string os]] w (Bl (false) w) := by
  have hb := Below.refl w.heap.size w
  have HA := Lib.hid ha; clear ha
  have HB := Lib.hid hbb; clear hbb
  go_enter Try.func72, Try.ntmps72
  go_wp2
  go_ret
  exact ⟨rfl, below_two _ _ _⟩
set_option maxHeartbeats 1000000 in
theorem omayC_1 (vk vn ok on : Int) (vs os : ByteArray) (a b : Bool) (w : World) (hs : vs.size ≤ 1000000) (ho : os.size ≤ 1000000) (ha : mayR ⟨vk, vn, vs⟩ = a) (hbb : mayR ⟨ok, on, os⟩ = b) (hk : (vk == 0) = false) :
    Calls Try.prog 72 #[.agg #[.int .i64 vk, .int .i64 vn, .string vs], .agg #[.int .i64 ok, .int .i64 on, .string os]] w (Bl (a && b) w) := by
  have hb := Below.refl w.heap.size w
  have HA := Lib.hid ha; clear ha
  have HB := Lib.hid hbb; clear hbb
  go_enter Try.func72, Try.ntmps72
  go_wp2_with fail
  refine (omayV_is _ ⟨vk, vn, vs⟩ a _ rfl hs HA.out).mono ?_
  rintro e k1 ⟨rfl, h⟩
  have hk : Below w.heap.size w k1 := by
    refine Below.trans ?_ (h.mono (by first | (simp; done) | (simp; omega) | omega))
    repeat' (first | exact Below.refl _ _ | refine Below.alloc ?_ (by first | (simp; done) | (simp; omega) | omega) _ | refine Below.setCell ?_ (by first | (simp; done) | (simp; omega) | omega) _)
  have hz := h.size
  try simp at hz
  have c0 : k1.cell? ⟨w.heap.size, 0, none⟩ = some (.int .i64 vk) := (h.cell (p := ⟨w.heap.size, 0, none⟩) (by first | (simp; done) | (simp; omega) | omega)).trans (by go_simp)
  have c1 : k1.cell? ⟨w.heap.size, 1, none⟩ = some (.int .i64 vn) := (h.cell (p := ⟨w.heap.size, 1, none⟩) (by first | (simp; done) | (simp; omega) | omega)).trans (by go_simp)
  have c2 : k1.cell? ⟨w.heap.size, 2, none⟩ = some (.string vs) := (h.cell (p := ⟨w.heap.size, 2, none⟩) (by first | (simp; done) | (simp; omega) | omega)).trans (by go_simp)
  have d0 : k1.cell? ⟨w.heap.size + 1, 0, none⟩ = some (.int .i64 ok) := (h.cell (p := ⟨w.heap.size + 1, 0, none⟩) (by first | (simp; done) | (simp; omega) | omega)).trans (by go_simp)
  have d1 : k1.cell? ⟨w.heap.size + 1, 1, none⟩ = some (.int .i64 on) := (h.cell (p := ⟨w.heap.size + 1, 1, none⟩) (by first | (simp; done) | (simp; omega) | omega)).trans (by go_simp)
  have d2 : k1.cell? ⟨w.heap.size + 1, 2, none⟩ = some (.string os) := (h.cell (p := ⟨w.heap.size + 1, 2, none⟩) (by first | (simp; done) | (simp; omega) | omega)).trans (by go_simp)
  have : w.heap.size < k1.heap.size := by omega
  have : w.heap.size + 1 < k1.heap.size := by omega
  replace hb : Below w.heap.size w k1 := hb.trans (hk.mono hb.size)
  clear h hk
  cases a
  · go_wp2
    go_ret
    exact ⟨rfl, hb⟩
  · go_wp2_with fail
    refine (omayV_is _ ⟨ok, on, os⟩ b _ rfl ho HB.out).mono ?_
    rintro e k2 ⟨rfl, h⟩
    have hk : Below k1.heap.size k1 k2 := by
      refine Below.trans ?_ (h.mono (by first | (simp; done) | (simp; omega) | omega))
      repeat' (first | exact Below.refl _ _ | refine Below.alloc ?_ (by first | (simp; done) | (simp; omega) | omega) _ | refine Below.setCell ?_ (by first | (simp; done) | (simp; omega) | omega) _)
    replace c0 : k2.cell? ⟨w.heap.size, 0, none⟩ = some (.int .i64 vk) := (hk.cell (p := ⟨w.heap.size, 0, none⟩) (by first | (simp; done) | (simp; omega) | omega)).trans c0
    replace c1 : k2.cell? ⟨w.heap.size, 1, none⟩ = some (.int .i64 vn) := (hk.cell (p := ⟨w.heap.size, 1, none⟩) (by first | (simp; done) | (simp; omega) | omega)).trans c1
    replace c2 : k2.cell? ⟨w.heap.size, 2, none⟩ = some (.string vs) := (hk.cell (p := ⟨w.heap.size, 2, none⟩) (by first | (simp; done) | (simp; omega) | omega)).trans c2
    replace d0 : k2.cell? ⟨w.heap.size + 1, 0, none⟩ = some (.int .i64 ok) := (hk.cell (p := ⟨w.heap.size + 1, 0, none⟩) (by first | (simp; done) | (simp; omega) | omega)).trans d0
    replace d1 : k2.cell? ⟨w.heap.size + 1, 1, none⟩ = some (.int .i64 on) := (hk.cell (p := ⟨w.heap.size + 1, 1, none⟩) (by first | (simp; done) | (simp; omega) | omega)).trans d1
    replace d2 : k2.cell? ⟨w.heap.size + 1, 2, none⟩ = some (.string os) := (hk.cell (p := ⟨w.heap.size + 1, 2, none⟩) (by first | (simp; done) | (simp; omega) | omega)).trans d2
    have hz := h.size
    try simp at hz
    have : w.heap.size < k2.heap.size := by omega
    have : w.heap.size + 1 < k2.heap.size := by omega
    replace hb : Below w.heap.size w k2 := hb.trans (hk.mono hb.size)
    clear h hk
    go_wp2
    go_ret
    exact ⟨ret_bool (by simp), hb⟩
set_option maxHeartbeats 1000000 in
theorem omayC_01 (vk vn ok on : Int) (vs os : ByteArray) (a b : Bool) (w : World) (hs : vs.size ≤ 1000000) (ho : os.size ≤ 1000000) (ha : mayR ⟨vk, vn, vs⟩ = a) (hbb : mayR ⟨ok, on, os⟩ = b) (hk : (vk == 0) = true) (hk2 : (ok == 0) = false) :
    Calls Try.prog 72 #[.agg #[.int .i64 vk, .int .i64 vn, .string vs], .agg #[.int .i64 ok, .int .i64 on, .string os]] w (Bl (a && b) w) := by
  have hb := Below.refl w.heap.size w
  have HA := Lib.hid ha; clear ha
  have HB := Lib.hid hbb; clear hbb
  go_enter Try.func72, Try.ntmps72
  go_wp2_with fail
  refine (omayV_is _ ⟨vk, vn, vs⟩ a _ rfl hs HA.out).mono ?_
  rintro e k1 ⟨rfl, h⟩
  have hk : Below w.heap.size w k1 := by
    refine Below.trans ?_ (h.mono (by first | (simp; done) | (simp; omega) | omega))
    repeat' (first | exact Below.refl _ _ | refine Below.alloc ?_ (by first | (simp; done) | (simp; omega) | omega) _ | refine Below.setCell ?_ (by first | (simp; done) | (simp; omega) | omega) _)
  have hz := h.size
  try simp at hz
  have c0 : k1.cell? ⟨w.heap.size, 0, none⟩ = some (.int .i64 vk) := (h.cell (p := ⟨w.heap.size, 0, none⟩) (by first | (simp; done) | (simp; omega) | omega)).trans (by go_simp)
  have c1 : k1.cell? ⟨w.heap.size, 1, none⟩ = some (.int .i64 vn) := (h.cell (p := ⟨w.heap.size, 1, none⟩) (by first | (simp; done) | (simp; omega) | omega)).trans (by go_simp)
  have c2 : k1.cell? ⟨w.heap.size, 2, none⟩ = some (.string vs) := (h.cell (p := ⟨w.heap.size, 2, none⟩) (by first | (simp; done) | (simp; omega) | omega)).trans (by go_simp)
  have d0 : k1.cell? ⟨w.heap.size + 1, 0, none⟩ = some (.int .i64 ok) := (h.cell (p := ⟨w.heap.size + 1, 0, none⟩) (by first | (simp; done) | (simp; omega) | omega)).trans (by go_simp)
  have d1 : k1.cell? ⟨w.heap.size + 1, 1, none⟩ = some (.int .i64 on) := (h.cell (p := ⟨w.heap.size + 1, 1, none⟩) (by first | (simp; done) | (simp; omega) | omega)).trans (by go_simp)
  have d2 : k1.cell? ⟨w.heap.size + 1, 2, none⟩ = some (.string os) := (h.cell (p := ⟨w.heap.size + 1, 2, none⟩) (by first | (simp; done) | (simp; omega) | omega)).trans (by go_simp)
  have : w.heap.size < k1.heap.size := by omega
  have : w.heap.size + 1 < k1.heap.size := by omega
  replace hb : Below w.heap.size w k1 := hb.trans (hk.mono hb.size)
  clear h hk
  cases a
  · go_wp2
    go_ret
    exact ⟨rfl, hb⟩
  · go_wp2_with fail
    refine (omayV_is _ ⟨ok, on, os⟩ b _ rfl ho HB.out).mono ?_
    rintro e k2 ⟨rfl, h⟩
    have hk : Below k1.heap.size k1 k2 := by
      refine Below.trans ?_ (h.mono (by first | (simp; done) | (simp; omega) | omega))
      repeat' (first | exact Below.refl _ _ | refine Below.alloc ?_ (by first | (simp; done) | (simp; omega) | omega) _ | refine Below.setCell ?_ (by first | (simp; done) | (simp; omega) | omega) _)
    replace c0 : k2.cell? ⟨w.heap.size, 0, none⟩ = some (.int .i64 vk) := (hk.cell (p := ⟨w.heap.size, 0, none⟩) (by first | (simp; done) | (simp; omega) | omega)).trans c0
    replace c1 : k2.cell? ⟨w.heap.size, 1, none⟩ = some (.int .i64 vn) := (hk.cell (p := ⟨w.heap.size, 1, none⟩) (by first | (simp; done) | (simp; omega) | omega)).trans c1
    replace c2 : k2.cell? ⟨w.heap.size, 2, none⟩ = some (.string vs) := (hk.cell (p := ⟨w.heap.size, 2, none⟩) (by first | (simp; done) | (simp; omega) | omega)).trans c2
    replace d0 : k2.cell? ⟨w.heap.size + 1, 0, none⟩ = some (.int .i64 ok) := (hk.cell (p := ⟨w.heap.size + 1, 0, none⟩) (by first | (simp; done) | (simp; omega) | omega)).trans d0
    replace d1 : k2.cell? ⟨w.heap.size + 1, 1, none⟩ = some (.int .i64 on) := (hk.cell (p := ⟨w.heap.size + 1, 1, none⟩) (by first | (simp; done) | (simp; omega) | omega)).trans d1
    replace d2 : k2.cell? ⟨w.heap.size + 1, 2, none⟩ = some (.string os) := (hk.cell (p := ⟨w.heap.size + 1, 2, none⟩) (by first | (simp; done) | (simp; omega) | omega)).trans d2
    have hz := h.size
    try simp at hz
    have : w.heap.size < k2.heap.size := by omega
    have : w.heap.size + 1 < k2.heap.size := by omega
    replace hb : Below w.heap.size w k2 := hb.trans (hk.mono hb.size)
    clear h hk
    go_wp2
    go_ret
    exact ⟨ret_bool (by simp), hb⟩
theorem omayC_is (u v : Value) (x y : Raw) (b : Bool) (w : World) (hu : u = x.val) (hv : v = y.val) (hx : x.s.size ≤ 1000000) (hy : y.s.size ≤ 1000000) (hb : (mayR x && mayR y && (x.kind != 0 || y.kind != 0)) = b) :
    Calls Try.prog 72 #[u, v] w (Bl b w) := by
  subst hu; subst hv; subst hb
  obtain ⟨vk, vn, vs⟩ := x
  obtain ⟨ok, on, os⟩ := y
  unfold Raw.val
  simp only
  cases hk : (vk == 0)
  · rw [show (vk != 0) = true by unfold bne; rw [hk]; rfl, Bool.true_or, Bool.and_true]
    exact omayC_1 vk vn ok on vs os _ _ w hx hy rfl rfl hk
  · cases hk2 : (ok == 0)
    · rw [show (ok != 0) = true by unfold bne; rw [hk2]; rfl, Bool.or_true, Bool.and_true]
      exact omayC_01 vk vn ok on vs os _ _ w hx hy rfl rfl hk hk2
    · rw [show (ok != 0) = false by unfold bne; rw [hk2]; rfl, show (vk != 0) = false by unfold bne; rw [hk]; rfl, Bool.or_false, Bool.and_false]
      exact omayC_00 vk vn ok on vs os _ _ w hx hy rfl rfl hk hk2
end Go.Proofs.Ytegkhkcnoahhdaa
/-
  Package op's May says which operations may be, as the plain function does.
  Texts have at most 1,000,000 bytes.
-/
namespace Go.Proofs.Ytegkhkcnoahhdaa
open Go.RowKit
set_option maxRecDepth 100000

set_option maxHeartbeats 2000000 in
theorem om_nokey (k : Int) (vk vn ok on n : Int) (key vs os : ByteArray) (w : World) (hk : key.size ≤ 1000000) (hs : vs.size ≤ 1000000) (ho : os.size ≤ 1000000) (hkey : Ru.key key.data.toList = false) :
    Calls Try.prog 54 #[.agg #[.int .i64 k, .string key, .int .i64 vk, .int .i64 vn, .string vs, .int .i64 ok, .int .i64 on, .string os, .int .i64 n]] w (Bl (false) w) := by
  have hb := Below.refl w.heap.size w
  have HK := Lib.hid hkey; clear hkey
  go_enter Try.func54, Try.ntmps54
  go_wp2_with fail
  refine (key_is key _ false HK.out).mono ?_
  rintro e k1 ⟨rfl, h⟩
  have hk : Below w.heap.size w k1 := by
    refine Below.trans ?_ (h.mono (by first | (simp; done) | (simp; omega) | omega))
    repeat' (first | exact Below.refl _ _ | refine Below.alloc ?_ (by first | (simp; done) | (simp; omega) | omega) _ | refine Below.setCell ?_ (by first | (simp; done) | (simp; omega) | omega) _)
  have hz := h.size
  try simp at hz
  have c0 : k1.cell? ⟨w.heap.size, 0, none⟩ = some (.int .i64 k) := (h.cell (p := ⟨w.heap.size, 0, none⟩) (by first | (simp; done) | (simp; omega) | omega)).trans (by go_simp)
  have c1 : k1.cell? ⟨w.heap.size, 1, none⟩ = some (.string key) := (h.cell (p := ⟨w.heap.size, 1, none⟩) (by first | (simp; done) | (simp; omega) | omega)).trans (by go_simp)
  have c2 : k1.cell? ⟨w.heap.size, 2, none⟩ = some (.int .i64 vk) := (h.cell (p := ⟨w.heap.size, 2, none⟩) (by first | (simp; done) | (simp; omega) | omega)).trans (by go_simp)
  have c3 : k1.cell? ⟨w.heap.size, 3, none⟩ = some (.int .i64 vn) := (h.cell (p := ⟨w.heap.size, 3, none⟩) (by first | (simp; done) | (simp; omega) | omega)).trans (by go_simp)
  have c4 : k1.cell? ⟨w.heap.size, 4, none⟩ = some (.string vs) := (h.cell (p := ⟨w.heap.size, 4, none⟩) (by first | (simp; done) | (simp; omega) | omega)).trans (by go_simp)
  have c5 : k1.cell? ⟨w.heap.size, 5, none⟩ = some (.int .i64 ok) := (h.cell (p := ⟨w.heap.size, 5, none⟩) (by first | (simp; done) | (simp; omega) | omega)).trans (by go_simp)
  have c6 : k1.cell? ⟨w.heap.size, 6, none⟩ = some (.int .i64 on) := (h.cell (p := ⟨w.heap.size, 6, none⟩) (by first | (simp; done) | (simp; omega) | omega)).trans (by go_simp)
  have c7 : k1.cell? ⟨w.heap.size, 7, none⟩ = some (.string os) := (h.cell (p := ⟨w.heap.size, 7, none⟩) (by first | (simp; done) | (simp; omega) | omega)).trans (by go_simp)
  have c8 : k1.cell? ⟨w.heap.size, 8, none⟩ = some (.int .i64 n) := (h.cell (p := ⟨w.heap.size, 8, none⟩) (by first | (simp; done) | (simp; omega) | omega)).trans (by go_simp)
  have : w.heap.size < k1.heap.size := by omega
  replace hb : Below w.heap.size w k1 := hb.trans (hk.mono hb.size)
  clear h hk
  go_wp2
  go_ret
  exact ⟨rfl, hb⟩

set_option maxHeartbeats 2000000 in
theorem om_2 (vk vn ok on n : Int) (key vs os : ByteArray) (w : World) (hk : key.size ≤ 1000000) (hs : vs.size ≤ 1000000) (ho : os.size ≤ 1000000) (hkey : Ru.key key.data.toList = true) :
    Calls Try.prog 54 #[.agg #[.int .i64 2, .string key, .int .i64 vk, .int .i64 vn, .string vs, .int .i64 ok, .int .i64 on, .string os, .int .i64 n]] w (Bl (eqR ⟨vk, vn, vs⟩ zR && eqR ⟨ok, on, os⟩ zR && n == 0) w) := by
  have hb := Below.refl w.heap.size w
  have HK := Lib.hid hkey; clear hkey
  go_enter Try.func54, Try.ntmps54
  go_wp2_with fail
  refine (key_is key _ true HK.out).mono ?_
  rintro e k1 ⟨rfl, h⟩
  have hk : Below w.heap.size w k1 := by
    refine Below.trans ?_ (h.mono (by first | (simp; done) | (simp; omega) | omega))
    repeat' (first | exact Below.refl _ _ | refine Below.alloc ?_ (by first | (simp; done) | (simp; omega) | omega) _ | refine Below.setCell ?_ (by first | (simp; done) | (simp; omega) | omega) _)
  have hz := h.size
  try simp at hz
  have c0 : k1.cell? ⟨w.heap.size, 0, none⟩ = some (.int .i64 2) := (h.cell (p := ⟨w.heap.size, 0, none⟩) (by first | (simp; done) | (simp; omega) | omega)).trans (by go_simp)
  have c1 : k1.cell? ⟨w.heap.size, 1, none⟩ = some (.string key) := (h.cell (p := ⟨w.heap.size, 1, none⟩) (by first | (simp; done) | (simp; omega) | omega)).trans (by go_simp)
  have c2 : k1.cell? ⟨w.heap.size, 2, none⟩ = some (.int .i64 vk) := (h.cell (p := ⟨w.heap.size, 2, none⟩) (by first | (simp; done) | (simp; omega) | omega)).trans (by go_simp)
  have c3 : k1.cell? ⟨w.heap.size, 3, none⟩ = some (.int .i64 vn) := (h.cell (p := ⟨w.heap.size, 3, none⟩) (by first | (simp; done) | (simp; omega) | omega)).trans (by go_simp)
  have c4 : k1.cell? ⟨w.heap.size, 4, none⟩ = some (.string vs) := (h.cell (p := ⟨w.heap.size, 4, none⟩) (by first | (simp; done) | (simp; omega) | omega)).trans (by go_simp)
  have c5 : k1.cell? ⟨w.heap.size, 5, none⟩ = some (.int .i64 ok) := (h.cell (p := ⟨w.heap.size, 5, none⟩) (by first | (simp; done) | (simp; omega) | omega)).trans (by go_simp)
  have c6 : k1.cell? ⟨w.heap.size, 6, none⟩ = some (.int .i64 on) := (h.cell (p := ⟨w.heap.size, 6, none⟩) (by first | (simp; done) | (simp; omega) | omega)).trans (by go_simp)
  have c7 : k1.cell? ⟨w.heap.size, 7, none⟩ = some (.string os) := (h.cell (p := ⟨w.heap.size, 7, none⟩) (by first | (simp; done) | (simp; omega) | omega)).trans (by go_simp)
  have c8 : k1.cell? ⟨w.heap.size, 8, none⟩ = some (.int .i64 n) := (h.cell (p := ⟨w.heap.size, 8, none⟩) (by first | (simp; done) | (simp; omega) | omega)).trans (by go_simp)
  have : w.heap.size < k1.heap.size := by omega
  replace hb : Below w.heap.size w k1 := hb.trans (hk.mono hb.size)
  clear h hk
  go_wp2
  all_goals
    go_ret
    exact ⟨ret_bool (by (try unfold eqR zR); simp_all [ByteArray.toList_eq] <;> omega), hb.alloc hb.size _⟩

set_option maxHeartbeats 2000000 in
theorem om_4 (vk vn ok on n : Int) (key vs os : ByteArray) (w : World) (hk : key.size ≤ 1000000) (hs : vs.size ≤ 1000000) (ho : os.size ≤ 1000000) (hkey : Ru.key key.data.toList = true) :
    Calls Try.prog 54 #[.agg #[.int .i64 4, .string key, .int .i64 vk, .int .i64 vn, .string vs, .int .i64 ok, .int .i64 on, .string os, .int .i64 n]] w (Bl (eqR ⟨vk, vn, vs⟩ zR && eqR ⟨ok, on, os⟩ zR && decide (-1099511627776 ≤ n) && decide (n ≤ 1099511627776)) w) := by
  have hb := Below.refl w.heap.size w
  have HK := Lib.hid hkey; clear hkey
  go_enter Try.func54, Try.ntmps54
  go_wp2_with fail
  refine (key_is key _ true HK.out).mono ?_
  rintro e k1 ⟨rfl, h⟩
  have hk : Below w.heap.size w k1 := by
    refine Below.trans ?_ (h.mono (by first | (simp; done) | (simp; omega) | omega))
    repeat' (first | exact Below.refl _ _ | refine Below.alloc ?_ (by first | (simp; done) | (simp; omega) | omega) _ | refine Below.setCell ?_ (by first | (simp; done) | (simp; omega) | omega) _)
  have hz := h.size
  try simp at hz
  have c0 : k1.cell? ⟨w.heap.size, 0, none⟩ = some (.int .i64 4) := (h.cell (p := ⟨w.heap.size, 0, none⟩) (by first | (simp; done) | (simp; omega) | omega)).trans (by go_simp)
  have c1 : k1.cell? ⟨w.heap.size, 1, none⟩ = some (.string key) := (h.cell (p := ⟨w.heap.size, 1, none⟩) (by first | (simp; done) | (simp; omega) | omega)).trans (by go_simp)
  have c2 : k1.cell? ⟨w.heap.size, 2, none⟩ = some (.int .i64 vk) := (h.cell (p := ⟨w.heap.size, 2, none⟩) (by first | (simp; done) | (simp; omega) | omega)).trans (by go_simp)
  have c3 : k1.cell? ⟨w.heap.size, 3, none⟩ = some (.int .i64 vn) := (h.cell (p := ⟨w.heap.size, 3, none⟩) (by first | (simp; done) | (simp; omega) | omega)).trans (by go_simp)
  have c4 : k1.cell? ⟨w.heap.size, 4, none⟩ = some (.string vs) := (h.cell (p := ⟨w.heap.size, 4, none⟩) (by first | (simp; done) | (simp; omega) | omega)).trans (by go_simp)
  have c5 : k1.cell? ⟨w.heap.size, 5, none⟩ = some (.int .i64 ok) := (h.cell (p := ⟨w.heap.size, 5, none⟩) (by first | (simp; done) | (simp; omega) | omega)).trans (by go_simp)
  have c6 : k1.cell? ⟨w.heap.size, 6, none⟩ = some (.int .i64 on) := (h.cell (p := ⟨w.heap.size, 6, none⟩) (by first | (simp; done) | (simp; omega) | omega)).trans (by go_simp)
  have c7 : k1.cell? ⟨w.heap.size, 7, none⟩ = some (.string os) := (h.cell (p := ⟨w.heap.size, 7, none⟩) (by first | (simp; done) | (simp; omega) | omega)).trans (by go_simp)
  have c8 : k1.cell? ⟨w.heap.size, 8, none⟩ = some (.int .i64 n) := (h.cell (p := ⟨w.heap.size, 8, none⟩) (by first | (simp; done) | (simp; omega) | omega)).trans (by go_simp)
  have : w.heap.size < k1.heap.size := by omega
  replace hb : Below w.heap.size w k1 := hb.trans (hk.mono hb.size)
  clear h hk
  go_wp2
  all_goals
    go_ret
    exact ⟨ret_bool (by (try unfold eqR zR); simp_all [ByteArray.toList_eq] <;> omega), hb.alloc hb.size _⟩

set_option maxHeartbeats 2000000 in
theorem om_x (k : Int) (vk vn ok on n : Int) (key vs os : ByteArray) (w : World) (hk : key.size ≤ 1000000) (hs : vs.size ≤ 1000000) (ho : os.size ≤ 1000000) (hkey : Ru.key key.data.toList = true) (h1 : ¬ k = 1) (h2 : ¬ k = 2) (h3 : ¬ k = 3) (h4 : ¬ k = 4) :
    Calls Try.prog 54 #[.agg #[.int .i64 k, .string key, .int .i64 vk, .int .i64 vn, .string vs, .int .i64 ok, .int .i64 on, .string os, .int .i64 n]] w (Bl (false) w) := by
  have hb := Below.refl w.heap.size w
  have HK := Lib.hid hkey; clear hkey
  go_enter Try.func54, Try.ntmps54
  go_wp2_with fail
  refine (key_is key _ true HK.out).mono ?_
  rintro e k1 ⟨rfl, h⟩
  have hk : Below w.heap.size w k1 := by
    refine Below.trans ?_ (h.mono (by first | (simp; done) | (simp; omega) | omega))
    repeat' (first | exact Below.refl _ _ | refine Below.alloc ?_ (by first | (simp; done) | (simp; omega) | omega) _ | refine Below.setCell ?_ (by first | (simp; done) | (simp; omega) | omega) _)
  have hz := h.size
  try simp at hz
  have c0 : k1.cell? ⟨w.heap.size, 0, none⟩ = some (.int .i64 k) := (h.cell (p := ⟨w.heap.size, 0, none⟩) (by first | (simp; done) | (simp; omega) | omega)).trans (by go_simp)
  have c1 : k1.cell? ⟨w.heap.size, 1, none⟩ = some (.string key) := (h.cell (p := ⟨w.heap.size, 1, none⟩) (by first | (simp; done) | (simp; omega) | omega)).trans (by go_simp)
  have c2 : k1.cell? ⟨w.heap.size, 2, none⟩ = some (.int .i64 vk) := (h.cell (p := ⟨w.heap.size, 2, none⟩) (by first | (simp; done) | (simp; omega) | omega)).trans (by go_simp)
  have c3 : k1.cell? ⟨w.heap.size, 3, none⟩ = some (.int .i64 vn) := (h.cell (p := ⟨w.heap.size, 3, none⟩) (by first | (simp; done) | (simp; omega) | omega)).trans (by go_simp)
  have c4 : k1.cell? ⟨w.heap.size, 4, none⟩ = some (.string vs) := (h.cell (p := ⟨w.heap.size, 4, none⟩) (by first | (simp; done) | (simp; omega) | omega)).trans (by go_simp)
  have c5 : k1.cell? ⟨w.heap.size, 5, none⟩ = some (.int .i64 ok) := (h.cell (p := ⟨w.heap.size, 5, none⟩) (by first | (simp; done) | (simp; omega) | omega)).trans (by go_simp)
  have c6 : k1.cell? ⟨w.heap.size, 6, none⟩ = some (.int .i64 on) := (h.cell (p := ⟨w.heap.size, 6, none⟩) (by first | (simp; done) | (simp; omega) | omega)).trans (by go_simp)
  have c7 : k1.cell? ⟨w.heap.size, 7, none⟩ = some (.string os) := (h.cell (p := ⟨w.heap.size, 7, none⟩) (by first | (simp; done) | (simp; omega) | omega)).trans (by go_simp)
  have c8 : k1.cell? ⟨w.heap.size, 8, none⟩ = some (.int .i64 n) := (h.cell (p := ⟨w.heap.size, 8, none⟩) (by first | (simp; done) | (simp; omega) | omega)).trans (by go_simp)
  have : w.heap.size < k1.heap.size := by omega
  replace hb : Below w.heap.size w k1 := hb.trans (hk.mono hb.size)
  clear h hk
  go_wp2
  go_ret
  exact ⟨rfl, hb.alloc hb.size _⟩

set_option maxHeartbeats 2000000 in
theorem om_10 (vk vn ok on n : Int) (key vs os : ByteArray) (w : World) (hk : key.size ≤ 1000000) (hs : vs.size ≤ 1000000) (ho : os.size ≤ 1000000) (hkey : Ru.key key.data.toList = true) (hv : (vk != 0) = false) :
    Calls Try.prog 54 #[.agg #[.int .i64 1, .string key, .int .i64 vk, .int .i64 vn, .string vs, .int .i64 ok, .int .i64 on, .string os, .int .i64 n]] w (Bl (false) w) := by
  have hb := Below.refl w.heap.size w
  have HK := Lib.hid hkey; clear hkey
  go_enter Try.func54, Try.ntmps54
  go_wp2_with fail
  refine (key_is key _ true HK.out).mono ?_
  rintro e k1 ⟨rfl, h⟩
  have hk : Below w.heap.size w k1 := by
    refine Below.trans ?_ (h.mono (by first | (simp; done) | (simp; omega) | omega))
    repeat' (first | exact Below.refl _ _ | refine Below.alloc ?_ (by first | (simp; done) | (simp; omega) | omega) _ | refine Below.setCell ?_ (by first | (simp; done) | (simp; omega) | omega) _)
  have hz := h.size
  try simp at hz
  have c0 : k1.cell? ⟨w.heap.size, 0, none⟩ = some (.int .i64 1) := (h.cell (p := ⟨w.heap.size, 0, none⟩) (by first | (simp; done) | (simp; omega) | omega)).trans (by go_simp)
  have c1 : k1.cell? ⟨w.heap.size, 1, none⟩ = some (.string key) := (h.cell (p := ⟨w.heap.size, 1, none⟩) (by first | (simp; done) | (simp; omega) | omega)).trans (by go_simp)
  have c2 : k1.cell? ⟨w.heap.size, 2, none⟩ = some (.int .i64 vk) := (h.cell (p := ⟨w.heap.size, 2, none⟩) (by first | (simp; done) | (simp; omega) | omega)).trans (by go_simp)
  have c3 : k1.cell? ⟨w.heap.size, 3, none⟩ = some (.int .i64 vn) := (h.cell (p := ⟨w.heap.size, 3, none⟩) (by first | (simp; done) | (simp; omega) | omega)).trans (by go_simp)
  have c4 : k1.cell? ⟨w.heap.size, 4, none⟩ = some (.string vs) := (h.cell (p := ⟨w.heap.size, 4, none⟩) (by first | (simp; done) | (simp; omega) | omega)).trans (by go_simp)
  have c5 : k1.cell? ⟨w.heap.size, 5, none⟩ = some (.int .i64 ok) := (h.cell (p := ⟨w.heap.size, 5, none⟩) (by first | (simp; done) | (simp; omega) | omega)).trans (by go_simp)
  have c6 : k1.cell? ⟨w.heap.size, 6, none⟩ = some (.int .i64 on) := (h.cell (p := ⟨w.heap.size, 6, none⟩) (by first | (simp; done) | (simp; omega) | omega)).trans (by go_simp)
  have c7 : k1.cell? ⟨w.heap.size, 7, none⟩ = some (.string os) := (h.cell (p := ⟨w.heap.size, 7, none⟩) (by first | (simp; done) | (simp; omega) | omega)).trans (by go_simp)
  have c8 : k1.cell? ⟨w.heap.size, 8, none⟩ = some (.int .i64 n) := (h.cell (p := ⟨w.heap.size, 8, none⟩) (by first | (simp; done) | (simp; omega) | omega)).trans (by go_simp)
  have : w.heap.size < k1.heap.size := by omega
  replace hb : Below w.heap.size w k1 := hb.trans (hk.mono hb.size)
  clear h hk
  go_wp2
  go_ret
  exact ⟨rfl, hb.alloc hb.size _⟩

set_option maxHeartbeats 2000000 in
theorem om_1 (vk vn ok on n : Int) (key vs os : ByteArray) (w : World) (hk : key.size ≤ 1000000) (hs : vs.size ≤ 1000000) (ho : os.size ≤ 1000000) (hkey : Ru.key key.data.toList = true) (hv : (vk != 0) = true) (m : Bool) (hm : mayR ⟨vk, vn, vs⟩ = m) :
    Calls Try.prog 54 #[.agg #[.int .i64 1, .string key, .int .i64 vk, .int .i64 vn, .string vs, .int .i64 ok, .int .i64 on, .string os, .int .i64 n]] w (Bl (m && eqR ⟨ok, on, os⟩ zR && n == 0) w) := by
  have hb := Below.refl w.heap.size w
  have HK := Lib.hid hkey; clear hkey
  go_enter Try.func54, Try.ntmps54
  go_wp2_with fail
  refine (key_is key _ true HK.out).mono ?_
  rintro e k1 ⟨rfl, h⟩
  have hk : Below w.heap.size w k1 := by
    refine Below.trans ?_ (h.mono (by first | (simp; done) | (simp; omega) | omega))
    repeat' (first | exact Below.refl _ _ | refine Below.alloc ?_ (by first | (simp; done) | (simp; omega) | omega) _ | refine Below.setCell ?_ (by first | (simp; done) | (simp; omega) | omega) _)
  have hz := h.size
  try simp at hz
  have c0 : k1.cell? ⟨w.heap.size, 0, none⟩ = some (.int .i64 1) := (h.cell (p := ⟨w.heap.size, 0, none⟩) (by first | (simp; done) | (simp; omega) | omega)).trans (by go_simp)
  have c1 : k1.cell? ⟨w.heap.size, 1, none⟩ = some (.string key) := (h.cell (p := ⟨w.heap.size, 1, none⟩) (by first | (simp; done) | (simp; omega) | omega)).trans (by go_simp)
  have c2 : k1.cell? ⟨w.heap.size, 2, none⟩ = some (.int .i64 vk) := (h.cell (p := ⟨w.heap.size, 2, none⟩) (by first | (simp; done) | (simp; omega) | omega)).trans (by go_simp)
  have c3 : k1.cell? ⟨w.heap.size, 3, none⟩ = some (.int .i64 vn) := (h.cell (p := ⟨w.heap.size, 3, none⟩) (by first | (simp; done) | (simp; omega) | omega)).trans (by go_simp)
  have c4 : k1.cell? ⟨w.heap.size, 4, none⟩ = some (.string vs) := (h.cell (p := ⟨w.heap.size, 4, none⟩) (by first | (simp; done) | (simp; omega) | omega)).trans (by go_simp)
  have c5 : k1.cell? ⟨w.heap.size, 5, none⟩ = some (.int .i64 ok) := (h.cell (p := ⟨w.heap.size, 5, none⟩) (by first | (simp; done) | (simp; omega) | omega)).trans (by go_simp)
  have c6 : k1.cell? ⟨w.heap.size, 6, none⟩ = some (.int .i64 on) := (h.cell (p := ⟨w.heap.size, 6, none⟩) (by first | (simp; done) | (simp; omega) | omega)).trans (by go_simp)
  have c7 : k1.cell? ⟨w.heap.size, 7, none⟩ = some (.string os) := (h.cell (p := ⟨w.heap.size, 7, none⟩) (by first | (simp; done) | (simp; omega) | omega)).trans (by go_simp)
  have c8 : k1.cell? ⟨w.heap.size, 8, none⟩ = some (.int .i64 n) := (h.cell (p := ⟨w.heap.size, 8, none⟩) (by first | (simp; done) | (simp; omega) | omega)).trans (by go_simp)
  have : w.heap.size < k1.heap.size := by omega
  replace hb : Below w.heap.size w k1 := hb.trans (hk.mono hb.size)
  clear h hk
  have HM := Lib.hid hm; clear hm
  go_wp2_with fail
  refine (omayV_is _ ⟨vk, vn, vs⟩ m _ rfl hs HM.out).mono ?_
  rintro e k2 ⟨rfl, h⟩
  have hk : Below k1.heap.size k1 k2 := by
    refine Below.trans ?_ (h.mono (by first | (simp; done) | (simp; omega) | omega))
    repeat' (first | exact Below.refl _ _ | refine Below.alloc ?_ (by first | (simp; done) | (simp; omega) | omega) _ | refine Below.setCell ?_ (by first | (simp; done) | (simp; omega) | omega) _)
  replace c0 : k2.cell? ⟨w.heap.size, 0, none⟩ = some (.int .i64 1) := (hk.cell (p := ⟨w.heap.size, 0, none⟩) (by first | (simp; done) | (simp; omega) | omega)).trans c0
  replace c1 : k2.cell? ⟨w.heap.size, 1, none⟩ = some (.string key) := (hk.cell (p := ⟨w.heap.size, 1, none⟩) (by first | (simp; done) | (simp; omega) | omega)).trans c1
  replace c2 : k2.cell? ⟨w.heap.size, 2, none⟩ = some (.int .i64 vk) := (hk.cell (p := ⟨w.heap.size, 2, none⟩) (by first | (simp; done) | (simp; omega) | omega)).trans c2
  replace c3 : k2.cell? ⟨w.heap.size, 3, none⟩ = some (.int .i64 vn) := (hk.cell (p := ⟨w.heap.size, 3, none⟩) (by first | (simp; done) | (simp; omega) | omega)).trans c3
  replace c4 : k2.cell? ⟨w.heap.size, 4, none⟩ = some (.string vs) := (hk.cell (p := ⟨w.heap.size, 4, none⟩) (by first | (simp; done) | (simp; omega) | omega)).trans c4
  replace c5 : k2.cell? ⟨w.heap.size, 5, none⟩ = some (.int .i64 ok) := (hk.cell (p := ⟨w.heap.size, 5, none⟩) (by first | (simp; done) | (simp; omega) | omega)).trans c5
  replace c6 : k2.cell? ⟨w.heap.size, 6, none⟩ = some (.int .i64 on) := (hk.cell (p := ⟨w.heap.size, 6, none⟩) (by first | (simp; done) | (simp; omega) | omega)).trans c6
  replace c7 : k2.cell? ⟨w.heap.size, 7, none⟩ = some (.string os) := (hk.cell (p := ⟨w.heap.size, 7, none⟩) (by first | (simp; done) | (simp; omega) | omega)).trans c7
  replace c8 : k2.cell? ⟨w.heap.size, 8, none⟩ = some (.int .i64 n) := (hk.cell (p := ⟨w.heap.size, 8, none⟩) (by first | (simp; done) | (simp; omega) | omega)).trans c8
  have hz := h.size
  try simp at hz
  have z0 : k2.cell? ⟨k1.heap.size, 0, none⟩ = some (.int .i64 0) := (h.cell (p := ⟨k1.heap.size, 0, none⟩) (by first | (simp; done) | (simp; omega) | omega)).trans (by go_simp)
  have z1 : k2.cell? ⟨k1.heap.size, 1, none⟩ = some (.int .i64 0) := (h.cell (p := ⟨k1.heap.size, 1, none⟩) (by first | (simp; done) | (simp; omega) | omega)).trans (by go_simp)
  have z2 : k2.cell? ⟨k1.heap.size, 2, none⟩ = some (.string ⟨#[]⟩) := (h.cell (p := ⟨k1.heap.size, 2, none⟩) (by first | (simp; done) | (simp; omega) | omega)).trans (by go_simp)
  have : w.heap.size < k2.heap.size := by omega
  have : k1.heap.size < k2.heap.size := by omega
  replace hb : Below w.heap.size w k2 := hb.trans (hk.mono hb.size)
  clear h hk
  go_wp2
  all_goals
    go_ret
    exact ⟨ret_bool (by (try unfold eqR zR); simp_all [ByteArray.toList_eq] <;> omega), hb⟩

set_option maxHeartbeats 2000000 in
theorem om_3 (vk vn ok on n : Int) (key vs os : ByteArray) (w : World) (hk : key.size ≤ 1000000) (hs : vs.size ≤ 1000000) (ho : os.size ≤ 1000000) (hkey : Ru.key key.data.toList = true) (m : Bool) (hm : (mayR ⟨vk, vn, vs⟩ && mayR ⟨ok, on, os⟩ && (vk != 0 || ok != 0)) = m) :
    Calls Try.prog 54 #[.agg #[.int .i64 3, .string key, .int .i64 vk, .int .i64 vn, .string vs, .int .i64 ok, .int .i64 on, .string os, .int .i64 n]] w (Bl (m && n == 0) w) := by
  have hb := Below.refl w.heap.size w
  have HK := Lib.hid hkey; clear hkey
  go_enter Try.func54, Try.ntmps54
  go_wp2_with fail
  refine (key_is key _ true HK.out).mono ?_
  rintro e k1 ⟨rfl, h⟩
  have hk : Below w.heap.size w k1 := by
    refine Below.trans ?_ (h.mono (by first | (simp; done) | (simp; omega) | omega))
    repeat' (first | exact Below.refl _ _ | refine Below.alloc ?_ (by first | (simp; done) | (simp; omega) | omega) _ | refine Below.setCell ?_ (by first | (simp; done) | (simp; omega) | omega) _)
  have hz := h.size
  try simp at hz
  have c0 : k1.cell? ⟨w.heap.size, 0, none⟩ = some (.int .i64 3) := (h.cell (p := ⟨w.heap.size, 0, none⟩) (by first | (simp; done) | (simp; omega) | omega)).trans (by go_simp)
  have c1 : k1.cell? ⟨w.heap.size, 1, none⟩ = some (.string key) := (h.cell (p := ⟨w.heap.size, 1, none⟩) (by first | (simp; done) | (simp; omega) | omega)).trans (by go_simp)
  have c2 : k1.cell? ⟨w.heap.size, 2, none⟩ = some (.int .i64 vk) := (h.cell (p := ⟨w.heap.size, 2, none⟩) (by first | (simp; done) | (simp; omega) | omega)).trans (by go_simp)
  have c3 : k1.cell? ⟨w.heap.size, 3, none⟩ = some (.int .i64 vn) := (h.cell (p := ⟨w.heap.size, 3, none⟩) (by first | (simp; done) | (simp; omega) | omega)).trans (by go_simp)
  have c4 : k1.cell? ⟨w.heap.size, 4, none⟩ = some (.string vs) := (h.cell (p := ⟨w.heap.size, 4, none⟩) (by first | (simp; done) | (simp; omega) | omega)).trans (by go_simp)
  have c5 : k1.cell? ⟨w.heap.size, 5, none⟩ = some (.int .i64 ok) := (h.cell (p := ⟨w.heap.size, 5, none⟩) (by first | (simp; done) | (simp; omega) | omega)).trans (by go_simp)
  have c6 : k1.cell? ⟨w.heap.size, 6, none⟩ = some (.int .i64 on) := (h.cell (p := ⟨w.heap.size, 6, none⟩) (by first | (simp; done) | (simp; omega) | omega)).trans (by go_simp)
  have c7 : k1.cell? ⟨w.heap.size, 7, none⟩ = some (.string os) := (h.cell (p := ⟨w.heap.size, 7, none⟩) (by first | (simp; done) | (simp; omega) | omega)).trans (by go_simp)
  have c8 : k1.cell? ⟨w.heap.size, 8, none⟩ = some (.int .i64 n) := (h.cell (p := ⟨w.heap.size, 8, none⟩) (by first | (simp; done) | (simp; omega) | omega)).trans (by go_simp)
  have : w.heap.size < k1.heap.size := by omega
  replace hb : Below w.heap.size w k1 := hb.trans (hk.mono hb.size)
  clear h hk
  have HM := Lib.hid hm; clear hm
  go_wp2_with fail
  refine (omayC_is _ _ ⟨vk, vn, vs⟩ ⟨ok, on, os⟩ m _ rfl rfl hs ho HM.out).mono ?_
  rintro e k2 ⟨rfl, h⟩
  have hk : Below k1.heap.size k1 k2 := by
    refine Below.trans ?_ (h.mono (by first | (simp; done) | (simp; omega) | omega))
    repeat' (first | exact Below.refl _ _ | refine Below.alloc ?_ (by first | (simp; done) | (simp; omega) | omega) _ | refine Below.setCell ?_ (by first | (simp; done) | (simp; omega) | omega) _)
  replace c0 : k2.cell? ⟨w.heap.size, 0, none⟩ = some (.int .i64 3) := (hk.cell (p := ⟨w.heap.size, 0, none⟩) (by first | (simp; done) | (simp; omega) | omega)).trans c0
  replace c1 : k2.cell? ⟨w.heap.size, 1, none⟩ = some (.string key) := (hk.cell (p := ⟨w.heap.size, 1, none⟩) (by first | (simp; done) | (simp; omega) | omega)).trans c1
  replace c2 : k2.cell? ⟨w.heap.size, 2, none⟩ = some (.int .i64 vk) := (hk.cell (p := ⟨w.heap.size, 2, none⟩) (by first | (simp; done) | (simp; omega) | omega)).trans c2
  replace c3 : k2.cell? ⟨w.heap.size, 3, none⟩ = some (.int .i64 vn) := (hk.cell (p := ⟨w.heap.size, 3, none⟩) (by first | (simp; done) | (simp; omega) | omega)).trans c3
  replace c4 : k2.cell? ⟨w.heap.size, 4, none⟩ = some (.string vs) := (hk.cell (p := ⟨w.heap.size, 4, none⟩) (by first | (simp; done) | (simp; omega) | omega)).trans c4
  replace c5 : k2.cell? ⟨w.heap.size, 5, none⟩ = some (.int .i64 ok) := (hk.cell (p := ⟨w.heap.size, 5, none⟩) (by first | (simp; done) | (simp; omega) | omega)).trans c5
  replace c6 : k2.cell? ⟨w.heap.size, 6, none⟩ = some (.int .i64 on) := (hk.cell (p := ⟨w.heap.size, 6, none⟩) (by first | (simp; done) | (simp; omega) | omega)).trans c6
  replace c7 : k2.cell? ⟨w.heap.size, 7, none⟩ = some (.string os) := (hk.cell (p := ⟨w.heap.size, 7, none⟩) (by first | (simp; done) | (simp; omega) | omega)).trans c7
  replace c8 : k2.cell? ⟨w.heap.size, 8, none⟩ = some (.int .i64 n) := (hk.cell (p := ⟨w.heap.size, 8, none⟩) (by first | (simp; done) | (simp; omega) | omega)).trans c8
  have hz := h.size
  try simp at hz
  have z0 : k2.cell? ⟨k1.heap.size, 0, none⟩ = some (.int .i64 0) := (h.cell (p := ⟨k1.heap.size, 0, none⟩) (by first | (simp; done) | (simp; omega) | omega)).trans (by go_simp)
  have z1 : k2.cell? ⟨k1.heap.size, 1, none⟩ = some (.int .i64 0) := (h.cell (p := ⟨k1.heap.size, 1, none⟩) (by first | (simp; done) | (simp; omega) | omega)).trans (by go_simp)
  have z2 : k2.cell? ⟨k1.heap.size, 2, none⟩ = some (.string ⟨#[]⟩) := (h.cell (p := ⟨k1.heap.size, 2, none⟩) (by first | (simp; done) | (simp; omega) | omega)).trans (by go_simp)
  have : w.heap.size < k2.heap.size := by omega
  have : k1.heap.size < k2.heap.size := by omega
  replace hb : Below w.heap.size w k2 := hb.trans (hk.mono hb.size)
  clear h hk
  go_wp2
  all_goals
    go_ret
    exact ⟨ret_bool (by (try unfold eqR zR); simp_all [ByteArray.toList_eq] <;> omega), hb⟩

theorem omay_is (v : Value) (o : Opn) (b : Bool) (w : World) (hv : v = .agg o.cs.toArray) (hs : o.small) (h : mayO o = b) : Calls Try.prog 54 #[v] w (Bl b w) := by
  subst hv; subst h
  obtain ⟨k, key, ⟨vk, vn, vs⟩, ⟨ok, on, os⟩, n⟩ := o
  obtain ⟨h1, h2, h3⟩ := hs
  simp only at h1 h2 h3
  unfold mayO
  cases hkey : Ru.key key.data.toList
  · exact om_nokey k vk vn ok on n key vs os w h1 h2 h3 hkey
  · simp only [Bool.true_and]
    unfold mayKind
    by_cases e1 : k = 1
    · subst e1
      cases hv : (vk != 0)
      · simp only [if_true, hv, Bool.false_and]; exact om_10 vk vn ok on n key vs os w h1 h2 h3 hkey hv
      · simp only [if_true, hv, Bool.true_and]; exact om_1 vk vn ok on n key vs os w h1 h2 h3 hkey hv _ rfl
    · by_cases e2 : k = 2
      · subst e2; exact om_2 vk vn ok on n key vs os w h1 h2 h3 hkey
      · by_cases e3 : k = 3
        · subst e3; exact om_3 vk vn ok on n key vs os w h1 h2 h3 hkey _ rfl
        · by_cases e4 : k = 4
          · subst e4; exact om_4 vk vn ok on n key vs os w h1 h2 h3 hkey
          · simp only [if_neg e1, if_neg e2, if_neg e3, if_neg e4]
            exact om_x k vk vn ok on n key vs os w h1 h2 h3 hkey e1 e2 e3 e4
end Go.Proofs.Ytegkhkcnoahhdaa
/-
  Package op's putOp writes an operation that may be behind the bytes that come in, in new memory.
  The bytes are there in memory, at most 100,000; the operation may be, and its integers are in their ranges.
-/
namespace Go.Proofs.Ytegkhkcnoahhdaa
open Go.RowKit
set_option maxRecDepth 100000

theorem Ru.rns4 (l : List UInt8) : l.length ≤ 4 * (Ru.rns l).length := by
  induction l using Ru.rns_ind with
  | h0 => simp
  | h1 l h ih => rw [Ru.rns_cons l h, List.length_cons]; have := Ru.dcl_w l h; rw [List.length_drop] at ih; omega
theorem Ru.key_len {l : List UInt8} (h : Ru.key l = true) : l.length ≤ 160 := by
  have := Ru.rns4 l
  unfold Ru.key at h
  simp only [Bool.and_eq_true, decide_eq_true_eq] at h
  omega
theorem size_list (s : ByteArray) : s.data.toList.length = s.size := by rw [Array.length_toList]; rfl
theorem nput_to (u : Value) (B : Nat) (l m : List UInt8) (n : Int) (w : World) (h : Byt w B u l) (hl : l.length ≤ 1000000) (hB : B ≤ w.heap.size) (hn : i64 n) (hm : l ++ Nu.put n = m) :
    Calls Try.prog 30 #[u, .int .i64 n] w (Made m w) := by
  rw [← hm]; exact nput_any u B l n w h (by omega) hB hn.1 hn.2
theorem nputT_to (u : Value) (B : Nat) (l m : List UInt8) (s : ByteArray) (w : World) (h : Byt w B u l) (hl : l.length ≤ 1000000) (hs : s.size ≤ 1000000) (hB : B ≤ w.heap.size) (hm : l ++ Nu.putT s.data.toList = m) :
    Calls Try.prog 31 #[u, .string s] w (Made m w) := by
  rw [← hm]; exact nputText_any u B l s w h (by omega) (by omega) hB
theorem vput_on (u v : Value) (r : Raw) (B : Nat) (l m : List UInt8) (w : World) (hv : v = r.val) (h : Byt w B u l) (hl : l.length ≤ 1000000) (hB : B ≤ w.heap.size) (hr : r.ok) (hmay : mayR r = true) (hm : l ++ putR r = m) :
    Calls Try.prog 52 #[u, v] w (Made m w) := by
  rw [← hm, hv]; exact vput_any r u B l w h hl hB hr hmay
/-- a value that may be is short -/
theorem mayR_size {r : Raw} (h : mayR r = true) : r.s.size ≤ 200 := by
  obtain ⟨k, n, s⟩ := r
  have h4 := size_list s
  unfold mayR at h
  simp only at h ⊢
  have hz : s.data.toList.isEmpty = true → s.size ≤ 200 := fun e => by rw [List.isEmpty_iff] at e; rw [e] at h4; simp at h4; omega
  split at h
  · rw [Bool.and_eq_true] at h; exact hz h.2
  · split at h
    · exact hz h
    · split at h
      · simp only [Bool.and_eq_true, decide_eq_true_eq] at h; exact h.2
      · cases h
theorem putR_short {r : Raw} (h : mayR r = true) : (putR r).length ≤ 220 := by
  have hs := mayR_size h
  obtain ⟨k, n, s⟩ := r
  simp only at hs
  have h1 := Nu.put_len k
  have h2 := Nu.put_len n
  have h3 := Nu.put_len (s.data.toList.length : Int)
  have h4 := size_list s
  unfold putR
  simp only
  rw [List.length_append]
  split
  · omega
  · split
    · unfold Nu.putT; rw [List.length_append]; omega
    · simp; omega
theorem bytesO_short {o : Opn} (h : mayO o = true) : (bytesO o).length ≤ 640 := by
  obtain ⟨k, key, v, q, n⟩ := o
  unfold mayO mayKind at h
  simp only [Bool.and_eq_true] at h
  have hk := Ru.key_len h.1
  have h1 := Nu.put_len k
  have h2 := Nu.put_len n
  have h3 := Nu.put_len (key.data.toList.length : Int)
  unfold bytesO
  simp only [List.length_append, Nu.putT]
  by_cases k1 : k = 1
  · subst k1; simp only [if_true] at h ⊢; have := putR_short (r := v) (by have := h.2; simp only [Bool.and_eq_true] at this; exact this.1.1.2); omega
  · by_cases k3 : k = 3
    · subst k3; have h := h.2; simp only [show ¬ (3 : Int) = 1 by decide, show ¬ (3 : Int) = 2 by decide, if_false, if_true, Bool.and_eq_true] at h ⊢; have := putR_short h.1.1.1; have := putR_short h.1.1.2; rw [List.length_append]; omega
    · by_cases k4 : k = 4
      · subst k4; simp only [show ¬ (4 : Int) = 1 by decide, show ¬ (4 : Int) = 3 by decide, if_false, if_true]; omega
      · simp only [k1, k3, k4, if_false, List.length_nil]; omega
set_option maxHeartbeats 2000000 in
theorem op_2 (vk vn ok on n : Int) (key vs os : ByteArray) (u : Value) (B : Nat) (l l1 l2 : List UInt8) (w : World) (hby : Byt w B u l) (hl : l.length ≤ 100000) (hB : B ≤ w.heap.size) (hk : key.size ≤ 200) (h1 : l ++ Nu.put 2 = l1) (h2 : l1 ++ Nu.putT key.data.toList = l2) :
    Calls Try.prog 36 #[u, .agg #[.int .i64 2, .string key, .int .i64 vk, .int .i64 vn, .string vs, .int .i64 ok, .int .i64 on, .string os, .int .i64 n]] w (Made (l2) w) := by
  have hb := Below.refl w.heap.size w
  have hl1 : l1.length ≤ 100010 := by have := Nu.put_len (2 : Int); rw [← h1, List.length_append]; omega
  have hl2 : l2.length ≤ 100300 := by have := Nu.put_len (key.data.toList.length : Int); rw [← h2, List.length_append]; unfold Nu.putT; rw [List.length_append, size_list] at *; omega
  have H1 := Lib.hid h1; clear h1
  have H2 := Lib.hid h2; clear h2
  have HBY := Lib.hid hby; clear hby
  go_enter Try.func36, Try.ntmps36
  go_wp2_with fail
  refine (nput_to u B l l1 2 _ (HBY.out.below (below_one w _) hB) (by omega) (Nat.le_trans hB (by simp)) ⟨by decide, by decide⟩ H1.out).mono ?_
  rintro e k1 ⟨v1, rfl, ho1, h⟩
  have hk : Below w.heap.size w k1 := by
    refine Below.trans ?_ (h.mono (by first | (simp; done) | (simp; omega) | omega))
    repeat' (first | exact Below.refl _ _ | refine Below.alloc ?_ (by first | (simp; done) | (simp; omega) | omega) _ | refine Below.setCell ?_ (by first | (simp; done) | (simp; omega) | omega) _)
  have hz := h.size
  try simp at hz
  have c0 : k1.cell? ⟨w.heap.size, 0, none⟩ = some (.int .i64 2) := (h.cell (p := ⟨w.heap.size, 0, none⟩) (by first | (simp; done) | (simp; omega) | omega)).trans (by go_simp)
  have c1 : k1.cell? ⟨w.heap.size, 1, none⟩ = some (.string key) := (h.cell (p := ⟨w.heap.size, 1, none⟩) (by first | (simp; done) | (simp; omega) | omega)).trans (by go_simp)
  have c2 : k1.cell? ⟨w.heap.size, 2, none⟩ = some (.int .i64 vk) := (h.cell (p := ⟨w.heap.size, 2, none⟩) (by first | (simp; done) | (simp; omega) | omega)).trans (by go_simp)
  have c3 : k1.cell? ⟨w.heap.size, 3, none⟩ = some (.int .i64 vn) := (h.cell (p := ⟨w.heap.size, 3, none⟩) (by first | (simp; done) | (simp; omega) | omega)).trans (by go_simp)
  have c4 : k1.cell? ⟨w.heap.size, 4, none⟩ = some (.string vs) := (h.cell (p := ⟨w.heap.size, 4, none⟩) (by first | (simp; done) | (simp; omega) | omega)).trans (by go_simp)
  have c5 : k1.cell? ⟨w.heap.size, 5, none⟩ = some (.int .i64 ok) := (h.cell (p := ⟨w.heap.size, 5, none⟩) (by first | (simp; done) | (simp; omega) | omega)).trans (by go_simp)
  have c6 : k1.cell? ⟨w.heap.size, 6, none⟩ = some (.int .i64 on) := (h.cell (p := ⟨w.heap.size, 6, none⟩) (by first | (simp; done) | (simp; omega) | omega)).trans (by go_simp)
  have c7 : k1.cell? ⟨w.heap.size, 7, none⟩ = some (.string os) := (h.cell (p := ⟨w.heap.size, 7, none⟩) (by first | (simp; done) | (simp; omega) | omega)).trans (by go_simp)
  have c8 : k1.cell? ⟨w.heap.size, 8, none⟩ = some (.int .i64 n) := (h.cell (p := ⟨w.heap.size, 8, none⟩) (by first | (simp; done) | (simp; omega) | omega)).trans (by go_simp)
  have : w.heap.size < k1.heap.size := by omega
  replace hb : Below w.heap.size w k1 := hb.trans (hk.mono hb.size)
  clear h hk
  replace ho1 := Lib.hid ho1
  go_wp2_with fail
  refine (nputT_to v1 _ l1 l2 key _ (Byt.of_own ho1.out) (by omega) (by omega) (Nat.le_refl _) H2.out).mono ?_
  rintro e k2 ⟨v2, rfl, ho2, h⟩
  have hk : Below k1.heap.size k1 k2 := by
    refine Below.trans ?_ (h.mono (by first | (simp; done) | (simp; omega) | omega))
    repeat' (first | exact Below.refl _ _ | refine Below.alloc ?_ (by first | (simp; done) | (simp; omega) | omega) _ | refine Below.setCell ?_ (by first | (simp; done) | (simp; omega) | omega) _)
  replace c0 : k2.cell? ⟨w.heap.size, 0, none⟩ = some (.int .i64 2) := (hk.cell (p := ⟨w.heap.size, 0, none⟩) (by first | (simp; done) | (simp; omega) | omega)).trans c0
  replace c1 : k2.cell? ⟨w.heap.size, 1, none⟩ = some (.string key) := (hk.cell (p := ⟨w.heap.size, 1, none⟩) (by first | (simp; done) | (simp; omega) | omega)).trans c1
  replace c2 : k2.cell? ⟨w.heap.size, 2, none⟩ = some (.int .i64 vk) := (hk.cell (p := ⟨w.heap.size, 2, none⟩) (by first | (simp; done) | (simp; omega) | omega)).trans c2
  replace c3 : k2.cell? ⟨w.heap.size, 3, none⟩ = some (.int .i64 vn) := (hk.cell (p := ⟨w.heap.size, 3, none⟩) (by first | (simp; done) | (simp; omega) | omega)).trans c3
  replace c4 : k2.cell? ⟨w.heap.size, 4, none⟩ = some (.string vs) := (hk.cell (p := ⟨w.heap.size, 4, none⟩) (by first | (simp; done) | (simp; omega) | omega)).trans c4
  replace c5 : k2.cell? ⟨w.heap.size, 5, none⟩ = some (.int .i64 ok) := (hk.cell (p := ⟨w.heap.size, 5, none⟩) (by first | (simp; done) | (simp; omega) | omega)).trans c5
  replace c6 : k2.cell? ⟨w.heap.size, 6, none⟩ = some (.int .i64 on) := (hk.cell (p := ⟨w.heap.size, 6, none⟩) (by first | (simp; done) | (simp; omega) | omega)).trans c6
  replace c7 : k2.cell? ⟨w.heap.size, 7, none⟩ = some (.string os) := (hk.cell (p := ⟨w.heap.size, 7, none⟩) (by first | (simp; done) | (simp; omega) | omega)).trans c7
  replace c8 : k2.cell? ⟨w.heap.size, 8, none⟩ = some (.int .i64 n) := (hk.cell (p := ⟨w.heap.size, 8, none⟩) (by first | (simp; done) | (simp; omega) | omega)).trans c8
  have hz := h.size
  try simp at hz
  have : w.heap.size < k2.heap.size := by omega
  replace hb : Below w.heap.size w k2 := hb.trans (hk.mono hb.size)
  clear h hk
  clear ho1
  replace ho2 := Lib.hid ho2
  go_wp2
  go_ret
  exact ⟨_, rfl, ho2.out.down (by first | exact hb.size | exact Nat.le_refl _ | (have := hb.size; omega)), hb⟩

set_option maxHeartbeats 2000000 in
theorem op_4 (vk vn ok on n : Int) (key vs os : ByteArray) (u : Value) (B : Nat) (l l1 l2 : List UInt8) (w : World) (hby : Byt w B u l) (hl : l.length ≤ 100000) (hB : B ≤ w.heap.size) (hk : key.size ≤ 200) (h1 : l ++ Nu.put 4 = l1) (h2 : l1 ++ Nu.putT key.data.toList = l2) (l3 : List UInt8) (hn : i64 n) (h3 : RowKit.Hid (l2 ++ Nu.put n = l3)) :
    Calls Try.prog 36 #[u, .agg #[.int .i64 4, .string key, .int .i64 vk, .int .i64 vn, .string vs, .int .i64 ok, .int .i64 on, .string os, .int .i64 n]] w (Made (l3) w) := by
  have hb := Below.refl w.heap.size w
  have hl1 : l1.length ≤ 100010 := by have := Nu.put_len (4 : Int); rw [← h1, List.length_append]; omega
  have hl2 : l2.length ≤ 100300 := by have := Nu.put_len (key.data.toList.length : Int); rw [← h2, List.length_append]; unfold Nu.putT; rw [List.length_append, size_list] at *; omega
  have H1 := Lib.hid h1; clear h1
  have H2 := Lib.hid h2; clear h2
  have HBY := Lib.hid hby; clear hby
  go_enter Try.func36, Try.ntmps36
  go_wp2_with fail
  refine (nput_to u B l l1 4 _ (HBY.out.below (below_one w _) hB) (by omega) (Nat.le_trans hB (by simp)) ⟨by decide, by decide⟩ H1.out).mono ?_
  rintro e k1 ⟨v1, rfl, ho1, h⟩
  have hk : Below w.heap.size w k1 := by
    refine Below.trans ?_ (h.mono (by first | (simp; done) | (simp; omega) | omega))
    repeat' (first | exact Below.refl _ _ | refine Below.alloc ?_ (by first | (simp; done) | (simp; omega) | omega) _ | refine Below.setCell ?_ (by first | (simp; done) | (simp; omega) | omega) _)
  have hz := h.size
  try simp at hz
  have c0 : k1.cell? ⟨w.heap.size, 0, none⟩ = some (.int .i64 4) := (h.cell (p := ⟨w.heap.size, 0, none⟩) (by first | (simp; done) | (simp; omega) | omega)).trans (by go_simp)
  have c1 : k1.cell? ⟨w.heap.size, 1, none⟩ = some (.string key) := (h.cell (p := ⟨w.heap.size, 1, none⟩) (by first | (simp; done) | (simp; omega) | omega)).trans (by go_simp)
  have c2 : k1.cell? ⟨w.heap.size, 2, none⟩ = some (.int .i64 vk) := (h.cell (p := ⟨w.heap.size, 2, none⟩) (by first | (simp; done) | (simp; omega) | omega)).trans (by go_simp)
  have c3 : k1.cell? ⟨w.heap.size, 3, none⟩ = some (.int .i64 vn) := (h.cell (p := ⟨w.heap.size, 3, none⟩) (by first | (simp; done) | (simp; omega) | omega)).trans (by go_simp)
  have c4 : k1.cell? ⟨w.heap.size, 4, none⟩ = some (.string vs) := (h.cell (p := ⟨w.heap.size, 4, none⟩) (by first | (simp; done) | (simp; omega) | omega)).trans (by go_simp)
  have c5 : k1.cell? ⟨w.heap.size, 5, none⟩ = some (.int .i64 ok) := (h.cell (p := ⟨w.heap.size, 5, none⟩) (by first | (simp; done) | (simp; omega) | omega)).trans (by go_simp)
  have c6 : k1.cell? ⟨w.heap.size, 6, none⟩ = some (.int .i64 on) := (h.cell (p := ⟨w.heap.size, 6, none⟩) (by first | (simp; done) | (simp; omega) | omega)).trans (by go_simp)
  have c7 : k1.cell? ⟨w.heap.size, 7, none⟩ = some (.string os) := (h.cell (p := ⟨w.heap.size, 7, none⟩) (by first | (simp; done) | (simp; omega) | omega)).trans (by go_simp)
  have c8 : k1.cell? ⟨w.heap.size, 8, none⟩ = some (.int .i64 n) := (h.cell (p := ⟨w.heap.size, 8, none⟩) (by first | (simp; done) | (simp; omega) | omega)).trans (by go_simp)
  have : w.heap.size < k1.heap.size := by omega
  replace hb : Below w.heap.size w k1 := hb.trans (hk.mono hb.size)
  clear h hk
  replace ho1 := Lib.hid ho1
  go_wp2_with fail
  refine (nputT_to v1 _ l1 l2 key _ (Byt.of_own ho1.out) (by omega) (by omega) (Nat.le_refl _) H2.out).mono ?_
  rintro e k2 ⟨v2, rfl, ho2, h⟩
  have hk : Below k1.heap.size k1 k2 := by
    refine Below.trans ?_ (h.mono (by first | (simp; done) | (simp; omega) | omega))
    repeat' (first | exact Below.refl _ _ | refine Below.alloc ?_ (by first | (simp; done) | (simp; omega) | omega) _ | refine Below.setCell ?_ (by first | (simp; done) | (simp; omega) | omega) _)
  replace c0 : k2.cell? ⟨w.heap.size, 0, none⟩ = some (.int .i64 4) := (hk.cell (p := ⟨w.heap.size, 0, none⟩) (by first | (simp; done) | (simp; omega) | omega)).trans c0
  replace c1 : k2.cell? ⟨w.heap.size, 1, none⟩ = some (.string key) := (hk.cell (p := ⟨w.heap.size, 1, none⟩) (by first | (simp; done) | (simp; omega) | omega)).trans c1
  replace c2 : k2.cell? ⟨w.heap.size, 2, none⟩ = some (.int .i64 vk) := (hk.cell (p := ⟨w.heap.size, 2, none⟩) (by first | (simp; done) | (simp; omega) | omega)).trans c2
  replace c3 : k2.cell? ⟨w.heap.size, 3, none⟩ = some (.int .i64 vn) := (hk.cell (p := ⟨w.heap.size, 3, none⟩) (by first | (simp; done) | (simp; omega) | omega)).trans c3
  replace c4 : k2.cell? ⟨w.heap.size, 4, none⟩ = some (.string vs) := (hk.cell (p := ⟨w.heap.size, 4, none⟩) (by first | (simp; done) | (simp; omega) | omega)).trans c4
  replace c5 : k2.cell? ⟨w.heap.size, 5, none⟩ = some (.int .i64 ok) := (hk.cell (p := ⟨w.heap.size, 5, none⟩) (by first | (simp; done) | (simp; omega) | omega)).trans c5
  replace c6 : k2.cell? ⟨w.heap.size, 6, none⟩ = some (.int .i64 on) := (hk.cell (p := ⟨w.heap.size, 6, none⟩) (by first | (simp; done) | (simp; omega) | omega)).trans c6
  replace c7 : k2.cell? ⟨w.heap.size, 7, none⟩ = some (.string os) := (hk.cell (p := ⟨w.heap.size, 7, none⟩) (by first | (simp; done) | (simp; omega) | omega)).trans c7
  replace c8 : k2.cell? ⟨w.heap.size, 8, none⟩ = some (.int .i64 n) := (hk.cell (p := ⟨w.heap.size, 8, none⟩) (by first | (simp; done) | (simp; omega) | omega)).trans c8
  have hz := h.size
  try simp at hz
  have : w.heap.size < k2.heap.size := by omega
  replace hb : Below w.heap.size w k2 := hb.trans (hk.mono hb.size)
  clear h hk
  clear ho1
  replace ho2 := Lib.hid ho2
  go_wp2_with fail
  refine (nput_to v2 _ l2 l3 n _ (Byt.of_own ho2.out) (by omega) (Nat.le_refl _) hn h3.out).mono ?_
  rintro e k3 ⟨v3, rfl, ho3, h⟩
  have hk : Below k2.heap.size k2 k3 := by
    refine Below.trans ?_ (h.mono (by first | (simp; done) | (simp; omega) | omega))
    repeat' (first | exact Below.refl _ _ | refine Below.alloc ?_ (by first | (simp; done) | (simp; omega) | omega) _ | refine Below.setCell ?_ (by first | (simp; done) | (simp; omega) | omega) _)
  replace c0 : k3.cell? ⟨w.heap.size, 0, none⟩ = some (.int .i64 4) := (hk.cell (p := ⟨w.heap.size, 0, none⟩) (by first | (simp; done) | (simp; omega) | omega)).trans c0
  replace c1 : k3.cell? ⟨w.heap.size, 1, none⟩ = some (.string key) := (hk.cell (p := ⟨w.heap.size, 1, none⟩) (by first | (simp; done) | (simp; omega) | omega)).trans c1
  replace c2 : k3.cell? ⟨w.heap.size, 2, none⟩ = some (.int .i64 vk) := (hk.cell (p := ⟨w.heap.size, 2, none⟩) (by first | (simp; done) | (simp; omega) | omega)).trans c2
  replace c3 : k3.cell? ⟨w.heap.size, 3, none⟩ = some (.int .i64 vn) := (hk.cell (p := ⟨w.heap.size, 3, none⟩) (by first | (simp; done) | (simp; omega) | omega)).trans c3
  replace c4 : k3.cell? ⟨w.heap.size, 4, none⟩ = some (.string vs) := (hk.cell (p := ⟨w.heap.size, 4, none⟩) (by first | (simp; done) | (simp; omega) | omega)).trans c4
  replace c5 : k3.cell? ⟨w.heap.size, 5, none⟩ = some (.int .i64 ok) := (hk.cell (p := ⟨w.heap.size, 5, none⟩) (by first | (simp; done) | (simp; omega) | omega)).trans c5
  replace c6 : k3.cell? ⟨w.heap.size, 6, none⟩ = some (.int .i64 on) := (hk.cell (p := ⟨w.heap.size, 6, none⟩) (by first | (simp; done) | (simp; omega) | omega)).trans c6
  replace c7 : k3.cell? ⟨w.heap.size, 7, none⟩ = some (.string os) := (hk.cell (p := ⟨w.heap.size, 7, none⟩) (by first | (simp; done) | (simp; omega) | omega)).trans c7
  replace c8 : k3.cell? ⟨w.heap.size, 8, none⟩ = some (.int .i64 n) := (hk.cell (p := ⟨w.heap.size, 8, none⟩) (by first | (simp; done) | (simp; omega) | omega)).trans c8
  have hz := h.size
  try simp at hz
  have : w.heap.size < k3.heap.size := by omega
  replace hb : Below w.heap.size w k3 := hb.trans (hk.mono hb.size)
  clear h hk
  clear ho2
  replace ho3 := Lib.hid ho3
  go_wp2
  go_ret
  exact ⟨_, rfl, ho3.out.down (by first | exact hb.size | exact Nat.le_refl _ | (have := hb.size; omega)), hb⟩

set_option maxHeartbeats 2000000 in
theorem op_1 (vk vn ok on n : Int) (key vs os : ByteArray) (u : Value) (B : Nat) (l l1 l2 : List UInt8) (w : World) (hby : Byt w B u l) (hl : l.length ≤ 100000) (hB : B ≤ w.heap.size) (hk : key.size ≤ 200) (h1 : l ++ Nu.put 1 = l1) (h2 : l1 ++ Nu.putT key.data.toList = l2) (l3 : List UInt8) (hok : RowKit.Hid (Raw.ok ⟨vk, vn, vs⟩)) (hm : RowKit.Hid (mayR ⟨vk, vn, vs⟩ = true)) (h3 : RowKit.Hid (l2 ++ putR ⟨vk, vn, vs⟩ = l3)) :
    Calls Try.prog 36 #[u, .agg #[.int .i64 1, .string key, .int .i64 vk, .int .i64 vn, .string vs, .int .i64 ok, .int .i64 on, .string os, .int .i64 n]] w (Made (l3) w) := by
  have hb := Below.refl w.heap.size w
  have hl1 : l1.length ≤ 100010 := by have := Nu.put_len (1 : Int); rw [← h1, List.length_append]; omega
  have hl2 : l2.length ≤ 100300 := by have := Nu.put_len (key.data.toList.length : Int); rw [← h2, List.length_append]; unfold Nu.putT; rw [List.length_append, size_list] at *; omega
  have H1 := Lib.hid h1; clear h1
  have H2 := Lib.hid h2; clear h2
  have HBY := Lib.hid hby; clear hby
  go_enter Try.func36, Try.ntmps36
  go_wp2_with fail
  refine (nput_to u B l l1 1 _ (HBY.out.below (below_one w _) hB) (by omega) (Nat.le_trans hB (by simp)) ⟨by decide, by decide⟩ H1.out).mono ?_
  rintro e k1 ⟨v1, rfl, ho1, h⟩
  have hk : Below w.heap.size w k1 := by
    refine Below.trans ?_ (h.mono (by first | (simp; done) | (simp; omega) | omega))
    repeat' (first | exact Below.refl _ _ | refine Below.alloc ?_ (by first | (simp; done) | (simp; omega) | omega) _ | refine Below.setCell ?_ (by first | (simp; done) | (simp; omega) | omega) _)
  have hz := h.size
  try simp at hz
  have c0 : k1.cell? ⟨w.heap.size, 0, none⟩ = some (.int .i64 1) := (h.cell (p := ⟨w.heap.size, 0, none⟩) (by first | (simp; done) | (simp; omega) | omega)).trans (by go_simp)
  have c1 : k1.cell? ⟨w.heap.size, 1, none⟩ = some (.string key) := (h.cell (p := ⟨w.heap.size, 1, none⟩) (by first | (simp; done) | (simp; omega) | omega)).trans (by go_simp)
  have c2 : k1.cell? ⟨w.heap.size, 2, none⟩ = some (.int .i64 vk) := (h.cell (p := ⟨w.heap.size, 2, none⟩) (by first | (simp; done) | (simp; omega) | omega)).trans (by go_simp)
  have c3 : k1.cell? ⟨w.heap.size, 3, none⟩ = some (.int .i64 vn) := (h.cell (p := ⟨w.heap.size, 3, none⟩) (by first | (simp; done) | (simp; omega) | omega)).trans (by go_simp)
  have c4 : k1.cell? ⟨w.heap.size, 4, none⟩ = some (.string vs) := (h.cell (p := ⟨w.heap.size, 4, none⟩) (by first | (simp; done) | (simp; omega) | omega)).trans (by go_simp)
  have c5 : k1.cell? ⟨w.heap.size, 5, none⟩ = some (.int .i64 ok) := (h.cell (p := ⟨w.heap.size, 5, none⟩) (by first | (simp; done) | (simp; omega) | omega)).trans (by go_simp)
  have c6 : k1.cell? ⟨w.heap.size, 6, none⟩ = some (.int .i64 on) := (h.cell (p := ⟨w.heap.size, 6, none⟩) (by first | (simp; done) | (simp; omega) | omega)).trans (by go_simp)
  have c7 : k1.cell? ⟨w.heap.size, 7, none⟩ = some (.string os) := (h.cell (p := ⟨w.heap.size, 7, none⟩) (by first | (simp; done) | (simp; omega) | omega)).trans (by go_simp)
  have c8 : k1.cell? ⟨w.heap.size, 8, none⟩ = some (.int .i64 n) := (h.cell (p := ⟨w.heap.size, 8, none⟩) (by first | (simp; done) | (simp; omega) | omega)).trans (by go_simp)
  have : w.heap.size < k1.heap.size := by omega
  replace hb : Below w.heap.size w k1 := hb.trans (hk.mono hb.size)
  clear h hk
  replace ho1 := Lib.hid ho1
  go_wp2_with fail
  refine (nputT_to v1 _ l1 l2 key _ (Byt.of_own ho1.out) (by omega) (by omega) (Nat.le_refl _) H2.out).mono ?_
  rintro e k2 ⟨v2, rfl, ho2, h⟩
  have hk : Below k1.heap.size k1 k2 := by
    refine Below.trans ?_ (h.mono (by first | (simp; done) | (simp; omega) | omega))
    repeat' (first | exact Below.refl _ _ | refine Below.alloc ?_ (by first | (simp; done) | (simp; omega) | omega) _ | refine Below.setCell ?_ (by first | (simp; done) | (simp; omega) | omega) _)
  replace c0 : k2.cell? ⟨w.heap.size, 0, none⟩ = some (.int .i64 1) := (hk.cell (p := ⟨w.heap.size, 0, none⟩) (by first | (simp; done) | (simp; omega) | omega)).trans c0
  replace c1 : k2.cell? ⟨w.heap.size, 1, none⟩ = some (.string key) := (hk.cell (p := ⟨w.heap.size, 1, none⟩) (by first | (simp; done) | (simp; omega) | omega)).trans c1
  replace c2 : k2.cell? ⟨w.heap.size, 2, none⟩ = some (.int .i64 vk) := (hk.cell (p := ⟨w.heap.size, 2, none⟩) (by first | (simp; done) | (simp; omega) | omega)).trans c2
  replace c3 : k2.cell? ⟨w.heap.size, 3, none⟩ = some (.int .i64 vn) := (hk.cell (p := ⟨w.heap.size, 3, none⟩) (by first | (simp; done) | (simp; omega) | omega)).trans c3
  replace c4 : k2.cell? ⟨w.heap.size, 4, none⟩ = some (.string vs) := (hk.cell (p := ⟨w.heap.size, 4, none⟩) (by first | (simp; done) | (simp; omega) | omega)).trans c4
  replace c5 : k2.cell? ⟨w.heap.size, 5, none⟩ = some (.int .i64 ok) := (hk.cell (p := ⟨w.heap.size, 5, none⟩) (by first | (simp; done) | (simp; omega) | omega)).trans c5
  replace c6 : k2.cell? ⟨w.heap.size, 6, none⟩ = some (.int .i64 on) := (hk.cell (p := ⟨w.heap.size, 6, none⟩) (by first | (simp; done) | (simp; omega) | omega)).trans c6
  replace c7 : k2.cell? ⟨w.heap.size, 7, none⟩ = some (.string os) := (hk.cell (p := ⟨w.heap.size, 7, none⟩) (by first | (simp; done) | (simp; omega) | omega)).trans c7
  replace c8 : k2.cell? ⟨w.heap.size, 8, none⟩ = some (.int .i64 n) := (hk.cell (p := ⟨w.heap.size, 8, none⟩) (by first | (simp; done) | (simp; omega) | omega)).trans c8
  have hz := h.size
  try simp at hz
  have : w.heap.size < k2.heap.size := by omega
  replace hb : Below w.heap.size w k2 := hb.trans (hk.mono hb.size)
  clear h hk
  clear ho1
  replace ho2 := Lib.hid ho2
  go_wp2_with fail
  refine (vput_on v2 _ ⟨vk, vn, vs⟩ _ l2 l3 _ rfl (Byt.of_own ho2.out) (by omega) (Nat.le_refl _) hok.out hm.out h3.out).mono ?_
  rintro e k3 ⟨v3, rfl, ho3, h⟩
  have hk : Below k2.heap.size k2 k3 := by
    refine Below.trans ?_ (h.mono (by first | (simp; done) | (simp; omega) | omega))
    repeat' (first | exact Below.refl _ _ | refine Below.alloc ?_ (by first | (simp; done) | (simp; omega) | omega) _ | refine Below.setCell ?_ (by first | (simp; done) | (simp; omega) | omega) _)
  replace c0 : k3.cell? ⟨w.heap.size, 0, none⟩ = some (.int .i64 1) := (hk.cell (p := ⟨w.heap.size, 0, none⟩) (by first | (simp; done) | (simp; omega) | omega)).trans c0
  replace c1 : k3.cell? ⟨w.heap.size, 1, none⟩ = some (.string key) := (hk.cell (p := ⟨w.heap.size, 1, none⟩) (by first | (simp; done) | (simp; omega) | omega)).trans c1
  replace c2 : k3.cell? ⟨w.heap.size, 2, none⟩ = some (.int .i64 vk) := (hk.cell (p := ⟨w.heap.size, 2, none⟩) (by first | (simp; done) | (simp; omega) | omega)).trans c2
  replace c3 : k3.cell? ⟨w.heap.size, 3, none⟩ = some (.int .i64 vn) := (hk.cell (p := ⟨w.heap.size, 3, none⟩) (by first | (simp; done) | (simp; omega) | omega)).trans c3
  replace c4 : k3.cell? ⟨w.heap.size, 4, none⟩ = some (.string vs) := (hk.cell (p := ⟨w.heap.size, 4, none⟩) (by first | (simp; done) | (simp; omega) | omega)).trans c4
  replace c5 : k3.cell? ⟨w.heap.size, 5, none⟩ = some (.int .i64 ok) := (hk.cell (p := ⟨w.heap.size, 5, none⟩) (by first | (simp; done) | (simp; omega) | omega)).trans c5
  replace c6 : k3.cell? ⟨w.heap.size, 6, none⟩ = some (.int .i64 on) := (hk.cell (p := ⟨w.heap.size, 6, none⟩) (by first | (simp; done) | (simp; omega) | omega)).trans c6
  replace c7 : k3.cell? ⟨w.heap.size, 7, none⟩ = some (.string os) := (hk.cell (p := ⟨w.heap.size, 7, none⟩) (by first | (simp; done) | (simp; omega) | omega)).trans c7
  replace c8 : k3.cell? ⟨w.heap.size, 8, none⟩ = some (.int .i64 n) := (hk.cell (p := ⟨w.heap.size, 8, none⟩) (by first | (simp; done) | (simp; omega) | omega)).trans c8
  have hz := h.size
  try simp at hz
  have : w.heap.size < k3.heap.size := by omega
  replace hb : Below w.heap.size w k3 := hb.trans (hk.mono hb.size)
  clear h hk
  clear ho2
  replace ho3 := Lib.hid ho3
  go_wp2
  go_ret
  exact ⟨_, rfl, ho3.out.down (by first | exact hb.size | exact Nat.le_refl _ | (have := hb.size; omega)), hb⟩

set_option maxHeartbeats 2000000 in
theorem op_3 (vk vn ok on n : Int) (key vs os : ByteArray) (u : Value) (B : Nat) (l l1 l2 : List UInt8) (w : World) (hby : Byt w B u l) (hl : l.length ≤ 100000) (hB : B ≤ w.heap.size) (hk : key.size ≤ 200) (h1 : l ++ Nu.put 3 = l1) (h2 : l1 ++ Nu.putT key.data.toList = l2) (l3 l4 : List UInt8) (hok : RowKit.Hid (Raw.ok ⟨vk, vn, vs⟩)) (hm : RowKit.Hid (mayR ⟨vk, vn, vs⟩ = true)) (hok2 : RowKit.Hid (Raw.ok ⟨ok, on, os⟩)) (hm2 : RowKit.Hid (mayR ⟨ok, on, os⟩ = true)) (h3 : RowKit.Hid (l2 ++ putR ⟨vk, vn, vs⟩ = l3)) (hl3 : l3.length ≤ 1000000) (h4 : RowKit.Hid (l3 ++ putR ⟨ok, on, os⟩ = l4)) :
    Calls Try.prog 36 #[u, .agg #[.int .i64 3, .string key, .int .i64 vk, .int .i64 vn, .string vs, .int .i64 ok, .int .i64 on, .string os, .int .i64 n]] w (Made (l4) w) := by
  have hb := Below.refl w.heap.size w
  have hl1 : l1.length ≤ 100010 := by have := Nu.put_len (3 : Int); rw [← h1, List.length_append]; omega
  have hl2 : l2.length ≤ 100300 := by have := Nu.put_len (key.data.toList.length : Int); rw [← h2, List.length_append]; unfold Nu.putT; rw [List.length_append, size_list] at *; omega
  have H1 := Lib.hid h1; clear h1
  have H2 := Lib.hid h2; clear h2
  have HBY := Lib.hid hby; clear hby
  go_enter Try.func36, Try.ntmps36
  go_wp2_with fail
  refine (nput_to u B l l1 3 _ (HBY.out.below (below_one w _) hB) (by omega) (Nat.le_trans hB (by simp)) ⟨by decide, by decide⟩ H1.out).mono ?_
  rintro e k1 ⟨v1, rfl, ho1, h⟩
  have hk : Below w.heap.size w k1 := by
    refine Below.trans ?_ (h.mono (by first | (simp; done) | (simp; omega) | omega))
    repeat' (first | exact Below.refl _ _ | refine Below.alloc ?_ (by first | (simp; done) | (simp; omega) | omega) _ | refine Below.setCell ?_ (by first | (simp; done) | (simp; omega) | omega) _)
  have hz := h.size
  try simp at hz
  have c0 : k1.cell? ⟨w.heap.size, 0, none⟩ = some (.int .i64 3) := (h.cell (p := ⟨w.heap.size, 0, none⟩) (by first | (simp; done) | (simp; omega) | omega)).trans (by go_simp)
  have c1 : k1.cell? ⟨w.heap.size, 1, none⟩ = some (.string key) := (h.cell (p := ⟨w.heap.size, 1, none⟩) (by first | (simp; done) | (simp; omega) | omega)).trans (by go_simp)
  have c2 : k1.cell? ⟨w.heap.size, 2, none⟩ = some (.int .i64 vk) := (h.cell (p := ⟨w.heap.size, 2, none⟩) (by first | (simp; done) | (simp; omega) | omega)).trans (by go_simp)
  have c3 : k1.cell? ⟨w.heap.size, 3, none⟩ = some (.int .i64 vn) := (h.cell (p := ⟨w.heap.size, 3, none⟩) (by first | (simp; done) | (simp; omega) | omega)).trans (by go_simp)
  have c4 : k1.cell? ⟨w.heap.size, 4, none⟩ = some (.string vs) := (h.cell (p := ⟨w.heap.size, 4, none⟩) (by first | (simp; done) | (simp; omega) | omega)).trans (by go_simp)
  have c5 : k1.cell? ⟨w.heap.size, 5, none⟩ = some (.int .i64 ok) := (h.cell (p := ⟨w.heap.size, 5, none⟩) (by first | (simp; done) | (simp; omega) | omega)).trans (by go_simp)
  have c6 : k1.cell? ⟨w.heap.size, 6, none⟩ = some (.int .i64 on) := (h.cell (p := ⟨w.heap.size, 6, none⟩) (by first | (simp; done) | (simp; omega) | omega)).trans (by go_simp)
  have c7 : k1.cell? ⟨w.heap.size, 7, none⟩ = some (.string os) := (h.cell (p := ⟨w.heap.size, 7, none⟩) (by first | (simp; done) | (simp; omega) | omega)).trans (by go_simp)
  have c8 : k1.cell? ⟨w.heap.size, 8, none⟩ = some (.int .i64 n) := (h.cell (p := ⟨w.heap.size, 8, none⟩) (by first | (simp; done) | (simp; omega) | omega)).trans (by go_simp)
  have : w.heap.size < k1.heap.size := by omega
  replace hb : Below w.heap.size w k1 := hb.trans (hk.mono hb.size)
  clear h hk
  replace ho1 := Lib.hid ho1
  go_wp2_with fail
  refine (nputT_to v1 _ l1 l2 key _ (Byt.of_own ho1.out) (by omega) (by omega) (Nat.le_refl _) H2.out).mono ?_
  rintro e k2 ⟨v2, rfl, ho2, h⟩
  have hk : Below k1.heap.size k1 k2 := by
    refine Below.trans ?_ (h.mono (by first | (simp; done) | (simp; omega) | omega))
    repeat' (first | exact Below.refl _ _ | refine Below.alloc ?_ (by first | (simp; done) | (simp; omega) | omega) _ | refine Below.setCell ?_ (by first | (simp; done) | (simp; omega) | omega) _)
  replace c0 : k2.cell? ⟨w.heap.size, 0, none⟩ = some (.int .i64 3) := (hk.cell (p := ⟨w.heap.size, 0, none⟩) (by first | (simp; done) | (simp; omega) | omega)).trans c0
  replace c1 : k2.cell? ⟨w.heap.size, 1, none⟩ = some (.string key) := (hk.cell (p := ⟨w.heap.size, 1, none⟩) (by first | (simp; done) | (simp; omega) | omega)).trans c1
  replace c2 : k2.cell? ⟨w.heap.size, 2, none⟩ = some (.int .i64 vk) := (hk.cell (p := ⟨w.heap.size, 2, none⟩) (by first | (simp; done) | (simp; omega) | omega)).trans c2
  replace c3 : k2.cell? ⟨w.heap.size, 3, none⟩ = some (.int .i64 vn) := (hk.cell (p := ⟨w.heap.size, 3, none⟩) (by first | (simp; done) | (simp; omega) | omega)).trans c3
  replace c4 : k2.cell? ⟨w.heap.size, 4, none⟩ = some (.string vs) := (hk.cell (p := ⟨w.heap.size, 4, none⟩) (by first | (simp; done) | (simp; omega) | omega)).trans c4
  replace c5 : k2.cell? ⟨w.heap.size, 5, none⟩ = some (.int .i64 ok) := (hk.cell (p := ⟨w.heap.size, 5, none⟩) (by first | (simp; done) | (simp; omega) | omega)).trans c5
  replace c6 : k2.cell? ⟨w.heap.size, 6, none⟩ = some (.int .i64 on) := (hk.cell (p := ⟨w.heap.size, 6, none⟩) (by first | (simp; done) | (simp; omega) | omega)).trans c6
  replace c7 : k2.cell? ⟨w.heap.size, 7, none⟩ = some (.string os) := (hk.cell (p := ⟨w.heap.size, 7, none⟩) (by first | (simp; done) | (simp; omega) | omega)).trans c7
  replace c8 : k2.cell? ⟨w.heap.size, 8, none⟩ = some (.int .i64 n) := (hk.cell (p := ⟨w.heap.size, 8, none⟩) (by first | (simp; done) | (simp; omega) | omega)).trans c8
  have hz := h.size
  try simp at hz
  have : w.heap.size < k2.heap.size := by omega
  replace hb : Below w.heap.size w k2 := hb.trans (hk.mono hb.size)
  clear h hk
  clear ho1
  replace ho2 := Lib.hid ho2
  go_wp2
  have sz0 : w.heap.size < k2.heap.size := by omega
  refine wp_region_noPanic ?_
  refine wp_region_held_drew (S := fun W => W.cell? ⟨w.heap.size, 0, none⟩ = some (.int .i64 3) ∧ W.cell? ⟨w.heap.size, 1, none⟩ = some (.string key) ∧ W.cell? ⟨w.heap.size, 2, none⟩ = some (.int .i64 vk) ∧ W.cell? ⟨w.heap.size, 3, none⟩ = some (.int .i64 vn) ∧ W.cell? ⟨w.heap.size, 4, none⟩ = some (.string vs) ∧ W.cell? ⟨w.heap.size, 5, none⟩ = some (.int .i64 ok) ∧ W.cell? ⟨w.heap.size, 6, none⟩ = some (.int .i64 on) ∧ W.cell? ⟨w.heap.size, 7, none⟩ = some (.string os) ∧ W.cell? ⟨w.heap.size, 8, none⟩ = some (.int .i64 n)) (by kernel_rfl) ?_ (fun hHeld => ?_)
  · exact ⟨c0, c1, c2, c3, c4, c5, c6, c7, c8⟩
  refine wpAnyH_take (i := 0) (oi := { dst := some 23, op := Op.move (Operand.tmp 0), type := 22, pos := "op.go:91", after := #[], guard := none }) (v := v2) rfl (by kernel_rfl) (by kernel_rfl) (by kernel_rfl) (fun _ _ _ h => h) (Or.inl ⟨by rfl, fun w hSw => ?_⟩) (by assumption) ?_
  · (try dsimp only at hSw)
    go_simp
  try simp only [Act.put, List.setIfInBounds_toArray, List.set_cons_zero, List.set_cons_succ]
  refine wpAnyH_take (i := 1) (oi := { dst := some 24, op := Op.fieldAddr 38 (Operand.tmp 3) 2, type := 0, pos := "op.go:91", after := #[], guard := none }) (v := .pointer (some ⟨w.heap.size, 2, none⟩)) rfl (by kernel_rfl) (by kernel_rfl) (by kernel_rfl) (fun _ _ _ h => h) (Or.inl ⟨by rfl, fun w hSw => ?_⟩) (by assumption) ?_
  · (try dsimp only at hSw)
    go_simp
  try simp only [Act.put, List.setIfInBounds_toArray, List.set_cons_zero, List.set_cons_succ]
  refine wpAnyH_take (i := 2) (oi := { dst := some 25, op := Op.load 36 (Operand.tmp 24), type := 36, pos := "op.go:91", after := #[{ on := 1, ground := Ground.data }], guard := none }) (v := .agg #[.int .i64 vk, .int .i64 vn, .string vs]) rfl (by kernel_rfl) (by kernel_rfl) (by kernel_rfl) (fun _ _ _ h => h) (Or.inl ⟨by rfl, fun w hSw => ?_⟩) (by assumption) ?_
  · (try dsimp only at hSw)
    go_simp
  try simp only [Act.put, List.setIfInBounds_toArray, List.set_cons_zero, List.set_cons_succ]
  refine wpAnyH_take (i := 4) (oi := { dst := some 27, op := Op.fieldAddr 38 (Operand.tmp 3) 3, type := 0, pos := "op.go:91", after := #[], guard := none }) (v := .pointer (some ⟨w.heap.size, 5, none⟩)) rfl (by kernel_rfl) (by kernel_rfl) (by kernel_rfl) (fun _ _ _ h => h) (Or.inl ⟨by rfl, fun w hSw => ?_⟩) (by assumption) ?_
  · (try dsimp only at hSw)
    go_simp
  try simp only [Act.put, List.setIfInBounds_toArray, List.set_cons_zero, List.set_cons_succ]
  refine wpAnyH_take (i := 5) (oi := { dst := some 28, op := Op.load 36 (Operand.tmp 27), type := 36, pos := "op.go:91", after := #[{ on := 4, ground := Ground.data }], guard := none }) (v := .agg #[.int .i64 ok, .int .i64 on, .string os]) rfl (by kernel_rfl) (by kernel_rfl) (by kernel_rfl) (fun _ _ _ h => h) (Or.inl ⟨by rfl, fun w hSw => ?_⟩) (by assumption) ?_
  · (try dsimp only at hSw)
    go_simp
  try simp only [Act.put, List.setIfInBounds_toArray, List.set_cons_zero, List.set_cons_succ]
  refine wpAnyH_ready (rs := [3]) (by kernel_rfl) (by simp) ?_
  refine AllReadyH.cons (o := { dst := some 26, op := Op.call { callee := Callee.value (Operand.func 52), args := #[Operand.tmp 23, Operand.tmp 25], argTypes := #[22, 36] }, type := 22, pos := "op.go:91", after := #[{ on := 0, ground := Ground.data }, { on := 2, ground := Ground.data }], guard := none }) rfl (fun K hK => ?_) AllReadyH.nil
  go_simp
  go_at_call 52
  refine (vput_on v2 _ ⟨vk, vn, vs⟩ _ l2 l3 _ rfl ((Byt.of_own ho2.out).below (Below.refl _ _).drew (Nat.le_refl _)) (by omega) (Nat.le_refl _) hok.out hm.out h3.out).mono ?_
  rintro e k3 ⟨v3, rfl, ho3, h⟩
  replace c0 := (h.cell (p := ⟨w.heap.size, 0, none⟩) sz0).trans c0
  replace c1 := (h.cell (p := ⟨w.heap.size, 1, none⟩) sz0).trans c1
  replace c2 := (h.cell (p := ⟨w.heap.size, 2, none⟩) sz0).trans c2
  replace c3 := (h.cell (p := ⟨w.heap.size, 3, none⟩) sz0).trans c3
  replace c4 := (h.cell (p := ⟨w.heap.size, 4, none⟩) sz0).trans c4
  replace c5 := (h.cell (p := ⟨w.heap.size, 5, none⟩) sz0).trans c5
  replace c6 := (h.cell (p := ⟨w.heap.size, 6, none⟩) sz0).trans c6
  replace c7 := (h.cell (p := ⟨w.heap.size, 7, none⟩) sz0).trans c7
  replace c8 := (h.cell (p := ⟨w.heap.size, 8, none⟩) sz0).trans c8
  replace sz0 := Nat.lt_of_lt_of_le sz0 h.size
  replace hb : Below w.heap.size w k3 := Below.trans (by first | exact hb | exact hb.drew) (h.mono (by first | exact hb.size | exact hb.drew.size))
  have hz3 := hb.size
  clear h
  try dsimp only
  refine hK.out _ _ ?_ (fun hHeld => ?_)
  · exact ⟨c0, c1, c2, c3, c4, c5, c6, c7, c8⟩
  clear hK K
  try simp only [Act.put, List.setIfInBounds_toArray, List.set_cons_zero, List.set_cons_succ]
  refine wpAnyH_ready (rs := [6]) (by kernel_rfl) (by simp) ?_
  refine AllReadyH.cons (o := { dst := some 29, op := Op.call { callee := Callee.value (Operand.func 52), args := #[Operand.tmp 26, Operand.tmp 28], argTypes := #[22, 36] }, type := 22, pos := "op.go:91", after := #[{ on := 3, ground := Ground.data }, { on := 5, ground := Ground.data }, { on := 3, ground := Ground.chain }], guard := none }) rfl (fun K hK => ?_) AllReadyH.nil
  go_simp
  go_at_call 52
  refine (vput_on v3 _ ⟨ok, on, os⟩ _ l3 l4 _ rfl (Byt.of_own ho3) hl3 (Nat.le_refl _) hok2.out hm2.out h4.out).mono ?_
  rintro e k3 ⟨v4, rfl, ho4, h⟩
  replace c0 := (h.cell (p := ⟨w.heap.size, 0, none⟩) sz0).trans c0
  replace c1 := (h.cell (p := ⟨w.heap.size, 1, none⟩) sz0).trans c1
  replace c2 := (h.cell (p := ⟨w.heap.size, 2, none⟩) sz0).trans c2
  replace c3 := (h.cell (p := ⟨w.heap.size, 3, none⟩) sz0).trans c3
  replace c4 := (h.cell (p := ⟨w.heap.size, 4, none⟩) sz0).trans c4
  replace c5 := (h.cell (p := ⟨w.heap.size, 5, none⟩) sz0).trans c5
  replace c6 := (h.cell (p := ⟨w.heap.size, 6, none⟩) sz0).trans c6
  replace c7 := (h.cell (p := ⟨w.heap.size, 7, none⟩) sz0).trans c7
  replace c8 := (h.cell (p := ⟨w.heap.size, 8, none⟩) sz0).trans c8
  replace sz0 := Nat.lt_of_lt_of_le sz0 h.size
  replace hb : Below w.heap.size w k3 := Below.trans (by first | exact hb | exact hb.drew) (h.mono (by first | exact hb.size | exact hb.drew.size))
  clear h
  try dsimp only
  refine hK.out _ _ ?_ (fun hHeld => ?_)
  · exact ⟨c0, c1, c2, c3, c4, c5, c6, c7, c8⟩
  clear hK K
  try simp only [Act.put, List.setIfInBounds_toArray, List.set_cons_zero, List.set_cons_succ]
  refine wpAnyH_ready (rs := [7]) (by kernel_rfl) (by simp) ?_
  refine AllReadyH.cons (o := { dst := some 4, op := Op.assign (Operand.tmp 29), type := 22, pos := "op.go:91", after := #[{ on := 6, ground := Ground.data }, { on := 6, ground := Ground.chain }, { on := 0, ground := Ground.phase }, { on := 1, ground := Ground.phase }, { on := 2, ground := Ground.phase }, { on := 3, ground := Ground.phase }, { on := 4, ground := Ground.phase }, { on := 5, ground := Ground.phase }, { on := 6, ground := Ground.phase }], guard := none }) rfl (fun K hK => ?_) AllReadyH.nil
  go_simp
  refine hK.out _ _ ?_ (fun hHeld => ?_)
  · exact ⟨c0, c1, c2, c3, c4, c5, c6, c7, c8⟩
  clear hK K
  try simp only [Act.put, List.setIfInBounds_toArray, List.set_cons_zero, List.set_cons_succ]
  refine wpAnyH_done (by kernel_rfl) ?_ _
  refine NoPanic.normal ?_
  replace ho4 := Lib.hid ho4
  go_wp2
  go_ret
  exact ⟨_, rfl, ho4.out.down (by first | exact hb.size | exact Nat.le_refl _ | (have := hb.size; omega)), hb⟩

theorem oputOp_is (u v : Value) (o : Opn) (B : Nat) (l m : List UInt8) (w : World) (hv : v = .agg o.cs.toArray) (hby : Byt w B u l) (hl : l.length ≤ 100000) (hB : B ≤ w.heap.size) (hok : o.ok) (hmay : mayO o = true) (hm : l ++ bytesO o = m) :
    Calls Try.prog 36 #[u, v] w (Made m w) := by
  subst hv; subst hm
  obtain ⟨k, key, ⟨vk, vn, vs⟩, ⟨ok, on, os⟩, n⟩ := o
  obtain ⟨-, -, hv, hq, hn⟩ := hok
  simp only at hv hq hn
  have hmay2 := hmay
  unfold mayO mayKind at hmay
  simp only [Bool.and_eq_true] at hmay
  have hk := Ru.key_len hmay.1
  have hk : key.size ≤ 200 := by rw [size_list] at hk; omega
  have hmay := hmay.2
  have a1 := Nu.put_len k
  have a2 := Nu.put_len (key.data.toList.length : Int)
  have a3 := size_list key
  unfold bytesO
  simp only [← List.append_assoc]
  by_cases e1 : k = 1
  · subst e1
    simp only [if_true, Bool.and_eq_true] at hmay ⊢
    exact op_1 vk vn ok on n key vs os u B l _ _ w hby hl hB hk rfl rfl _ hv hmay.1.1.2 rfl
  · by_cases e2 : k = 2
    · subst e2
      simp only [show ¬ (2 : Int) = 1 by decide, show ¬ (2 : Int) = 3 by decide, show ¬ (2 : Int) = 4 by decide, if_false, List.append_nil]
      exact op_2 vk vn ok on n key vs os u B l _ _ w hby hl hB hk rfl rfl
    · by_cases e3 : k = 3
      · subst e3
        simp only [show ¬ (3 : Int) = 1 by decide, show ¬ (3 : Int) = 2 by decide, if_false, if_true, Bool.and_eq_true] at hmay ⊢
        rw [← List.append_assoc]
        have a4 := putR_short hmay.1.1.1
        exact op_3 vk vn ok on n key vs os u B l _ _ w hby hl hB hk rfl rfl _ _ hv hmay.1.1.1 hq hmay.1.1.2 rfl (by simp only [List.length_append, Nu.putT]; omega) rfl
      · by_cases e4 : k = 4
        · subst e4
          simp only [show ¬ (4 : Int) = 1 by decide, show ¬ (4 : Int) = 3 by decide, if_false, if_true]
          exact op_4 vk vn ok on n key vs os u B l _ _ w hby hl hB hk rfl rfl _ hn rfl
        · simp only [if_neg e1, if_neg e2, if_neg e3, if_neg e4] at hmay; cases hmay
end Go.Proofs.Ytegkhkcnoahhdaa
