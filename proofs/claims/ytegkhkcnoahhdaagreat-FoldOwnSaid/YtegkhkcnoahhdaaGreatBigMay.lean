/- Operations as they came in, whatever the length of their texts: which may be, and what a document's Apply does with them. -/
import Derived.Test.YtegkhkcnoahhdaaGreatL5Open
import Derived.Test.YtegkhkcnoahhdaaGreatL6Begun
set_option linter.unusedSimpArgs false
set_option linter.unusedVariables false
namespace Go.Proofs.YtegkhkcnoahhdaaGreat
open Lib (hid)
open Go.RowKit
set_option maxRecDepth 100000
theorem mayR_len {r : Raw} (h : mayR r = true) : r.s.size ≤ 200 := by
 obtain ⟨k, n, t⟩ := r
 unfold mayR at h
 simp only at h ⊢
 have hsz : t.data = #[] → t.size ≤ 200 := fun e => by
  have : t.size = t.data.size := rfl
  rw [this, e]; decide
 by_cases h0 : k = 0
 ·simp [h0] at h
  exact hsz h.2
 ·by_cases h1 : k = 1
  ·simp [h1] at h
   exact hsz h
  ·simp [h0, h1] at h
   exact h.2.2
set_option maxHeartbeats 4000000 in
theorem vmay_anyG (r : Raw) (w : World) (hs : r.s.size ≤ maxLen) : Calls Tryz.prog 87 #[r.val] w (Bl (mayR r) w) := by
 obtain ⟨k, n, t⟩ := r
 simp only at hs
 unfold Raw.val
 have htl := ByteArray.toList_eq t
 by_cases h0 : k = 0
 ·subst h0
  by_cases hn : n = 0
  ·subst hn
   go_enter Tryz.func87, Tryz.ntmps87
   go_wp2
   go_ret
   exact ⟨ret_bool (by unfold mayR; simp), below_one _ _⟩
  ·have hn2 : (n == 0) = false := by rw [beq_eq_false_iff_ne]; exact hn
   have HN := hid hn; clear hn
   go_enter Tryz.func87, Tryz.ntmps87
   go_wp2
   go_ret
   exact ⟨ret_bool (by unfold mayR; simp [HN.out]), below_one _ _⟩
 ·by_cases h1 : k = 1
  ·subst h1
   go_enter Tryz.func87, Tryz.ntmps87
   go_wp2
   go_ret
   exact ⟨ret_bool (by unfold mayR; simp), below_one _ _⟩
  ·by_cases h2 : k = 2
   ·subst h2
    obtain ⟨vd, hvd⟩ : ∃ v, Ru.vld t.data.toList = v := ⟨_, rfl⟩
    have hm : mayR ⟨2, n, t⟩ = (n == 0 && vd && decide (t.size ≤ 200)) := by unfold mayR; simp [hvd]
    have hval := fun W => valid_is t W vd hvd
    have HM := hid hm; clear hm
    have HV := hid hval; clear hval hvd htl
    by_cases hn : n = 0
    ·subst hn
     by_cases hl : t.size ≤ 200
     ·go_enter Tryz.func87, Tryz.ntmps87
      go_wp2_with fail
      refine (HV.out _).mono ?_
      rintro e w1 ⟨rfl, hb⟩
      have hbw : Below w.heap.size w w1 := (below_one w _).trans (hb.mono (by simp))
      clear hb
      go_wp2
      go_ret
      exact ⟨ret_bool (by rw [HM.out]; simp [hl]), hbw⟩
     ·go_enter Tryz.func87, Tryz.ntmps87
      go_wp2
      go_ret
      exact ⟨ret_bool (by rw [HM.out]; simp [hl]), below_one _ _⟩
    ·have hn2 : (n == 0) = false := by rw [beq_eq_false_iff_ne]; exact hn
     have HN := hid hn; clear hn
     go_enter Tryz.func87, Tryz.ntmps87
     go_wp2
     go_ret
     exact ⟨ret_bool (by rw [HM.out]; simp [HN.out]), below_one _ _⟩
   ·have k0 : (k == 0) = false := by rw [beq_eq_false_iff_ne]; exact h0
    have k1 : (k == 1) = false := by rw [beq_eq_false_iff_ne]; exact h1
    have k2 : (k == 2) = false := by rw [beq_eq_false_iff_ne]; exact h2
    have hm : mayR ⟨k, n, t⟩ = false := by unfold mayR; simp [h0, h1, h2]
    have HM := hid hm; clear hm h0 h1 h2
    go_enter Tryz.func87, Tryz.ntmps87
    go_wp2
    go_ret
    exact ⟨ret_bool HM.out.symm, below_one _ _⟩
set_option maxHeartbeats 400000 in
theorem vof_noG (k : Int) (n : Int) (t : ByteArray) (w : World) (hs : t.size ≤ maxLen) (hm : mayR ⟨k, n, t⟩ = false) : Calls Tryz.prog 75 #[(Raw.mk k n t).val] w (VaE Va.none 1 w) := by
 have hmay := fun W => vmay_anyG ⟨k, n, t⟩ W hs
 rw [hm] at hmay
 unfold Raw.val at hmay
 unfold Raw.val
 have HM := hid hmay; clear hmay hm
 go_enter Tryz.func75, Tryz.ntmps75
 go_wp2_with fail
 refine (HM.out _).mono ?_
 rintro e w1 ⟨rfl, hb⟩
 have c0 : w1.cell? ⟨w.heap.size, 0, none⟩ = some (.int .i64 k) := (hb.cell (p := ⟨w.heap.size, 0, none⟩) (by simp; omega)).trans (by go_simp)
 have c1 : w1.cell? ⟨w.heap.size, 1, none⟩ = some (.int .i64 n) := (hb.cell (p := ⟨w.heap.size, 1, none⟩) (by simp; omega)).trans (by go_simp)
 have c2 : w1.cell? ⟨w.heap.size, 2, none⟩ = some (.string t) := (hb.cell (p := ⟨w.heap.size, 2, none⟩) (by simp; omega)).trans (by go_simp)
 have q0 : w1.cell? ⟨w.heap.size + 1, 0, none⟩ = some .nilIface := (hb.cell (p := ⟨w.heap.size + 1, 0, none⟩) (by simp)).trans (by go_simp)
 have fq : w1.frozen? ⟨w.heap.size + 1, 0, none⟩ = false := (hb.frozen (p := ⟨w.heap.size + 1, 0, none⟩) (by simp)).trans (by go_simp)
 have hbw1 : w.heap.size + 1 < w1.heap.size := by have := hb.size; simp at this; omega
 have hbw : Below w.heap.size w w1 := (below_two w _ _).trans (hb.mono (by simp; omega))
 clear hb
 go_wp2
 exact bodyPost_ret (v := .tuple #[Va.none.val, .int .i64 1]) (by simp [results, Tryz.results75, go_sem, Va.val, q0]) rfl ⟨rfl, hbw.setCell (by simp) _⟩
theorem vof_anyG (r : Raw) (w : World) (hs : r.s.size ≤ maxLen) : Calls Tryz.prog 75 #[r.val] w (VaE (vaOf r) (okE (mayR r)) w) := by
 cases hm : mayR r with
 | true => rw [← hm]; exact vof_any r w (Nat.le_trans (mayR_len hm) (by decide))
 | false =>
  obtain ⟨k, n, t⟩ := r
  have e : vaOf ⟨k, n, t⟩ = Va.none := by unfold vaOf; rw [hm]; rfl
  rw [e]
  exact vof_noG k n t w hs hm
theorem vof_isG (u : Value) (r : Raw) (v : Va) (x : Value) (k : Int) (w : World) (hu : u = r.val) (hs : r.s.size ≤ maxLen) (hv : vaOf r = v) (hx : v.ins = x) (hk : okE (mayR r) = k) :
  Calls Tryz.prog 75 #[u] w fun e w' => e = .returned (.tuple #[.agg #[x], .int .i64 k]) ∧ Below w.heap.size w w' := by
 have h := vof_anyG r w hs
 unfold VaE at h
 rw [hv, Va.val_ins, hx, hk] at h
 rw [hu]; exact h
set_option maxHeartbeats 1000000 in
theorem omayV_isG (u : Value) (r : Raw) (b : Bool) (w : World) (hu : u = r.val) (hs : r.s.size ≤ maxLen) (hb : mayR r = b) : Calls Tryz.prog 94 #[u] w (Bl b w) := by
 subst hu
 obtain ⟨v, hv⟩ : ∃ v, vaOf r = v := ⟨_, rfl⟩
 obtain ⟨x, hx⟩ : ∃ x, v.ins = x := ⟨_, rfl⟩
 obtain ⟨k, hk⟩ : ∃ k, okE (mayR r) = k := ⟨_, rfl⟩
 have hof := fun W => vof_isG _ r v x k W rfl hs hv hx hk
 have hst := ins_store v x hx
 have hkb : (k == 0) = b := by rw [← hk, okE_eq, hb]
 obtain ⟨rk, rn, t⟩ := r
 unfold Raw.val at hof
 unfold Raw.val
 have HOF := hid hof; clear hof hv hx hk hs hb
 go_enter Tryz.func94, Tryz.ntmps94
 go_wp2_with fail
 refine (HOF.out _).mono ?_
 rintro e w1 ⟨rfl, h⟩
 have hbw : Below w.heap.size w w1 := (below_one w _).trans (h.mono (by simp))
 clear h
 go_wp2
 go_ret
 exact ⟨ret_bool (by simp [hkb]), by first | exact hbw | exact hbw.alloc hbw.size _⟩
set_option maxHeartbeats 1000000 in
theorem omayC_00G (vk vn ok on : Int) (vs os : ByteArray) (a b : Bool) (w : World) (hs : vs.size ≤ maxLen) (ho : os.size ≤ maxLen) (ha : mayR ⟨vk, vn, vs⟩ = a) (hbb : mayR ⟨ok, on, os⟩ = b) (hk : (vk == 0) = true) (hk2 : (ok == 0) = true) :
  Calls Tryz.prog 95 #[.agg #[.int .i64 vk, .int .i64 vn, .string vs], .agg #[.int .i64 ok, .int .i64 on, .string os]] w (Bl (false) w) := by
 have hb := Below.refl w.heap.size w
 have HA := hid ha; clear ha
 have HB := hid hbb; clear hbb
 go_enter Tryz.func95, Tryz.ntmps95
 go_wp2
 go_ret
 exact ⟨rfl, below_two _ _ _⟩
set_option maxHeartbeats 1000000 in
theorem omayC_1G (vk vn ok on : Int) (vs os : ByteArray) (a b : Bool) (w : World) (hs : vs.size ≤ maxLen) (ho : os.size ≤ maxLen) (ha : mayR ⟨vk, vn, vs⟩ = a) (hbb : mayR ⟨ok, on, os⟩ = b) (hk : (vk == 0) = false) :
  Calls Tryz.prog 95 #[.agg #[.int .i64 vk, .int .i64 vn, .string vs], .agg #[.int .i64 ok, .int .i64 on, .string os]] w (Bl (a && b) w) := by
 have hb := Below.refl w.heap.size w
 have HA := hid ha; clear ha
 have HB := hid hbb; clear hbb
 go_enter Tryz.func95, Tryz.ntmps95
 go_wp2_with fail
 refine (omayV_isG _ ⟨vk, vn, vs⟩ a _ rfl hs HA.out).mono ?_
 rintro e k1 ⟨rfl, h⟩
 have hk : Below w.heap.size w k1 := by
  refine Below.trans ?_ (h.mono LT9)
  repeat' (first | exact Below.refl _ _ | refine Below.alloc ?_ LT9 _ | refine Below.setCell ?_ LT9 _)
 have hz := h.size
 try simp at hz
 have c0 : k1.cell? ⟨w.heap.size, 0, none⟩ = some (.int .i64 vk) := (h.cell (p := ⟨w.heap.size, 0, none⟩) LT9).trans (by go_simp)
 have c1 : k1.cell? ⟨w.heap.size, 1, none⟩ = some (.int .i64 vn) := (h.cell (p := ⟨w.heap.size, 1, none⟩) LT9).trans (by go_simp)
 have c2 : k1.cell? ⟨w.heap.size, 2, none⟩ = some (.string vs) := (h.cell (p := ⟨w.heap.size, 2, none⟩) LT9).trans (by go_simp)
 have d0 : k1.cell? ⟨w.heap.size + 1, 0, none⟩ = some (.int .i64 ok) := (h.cell (p := ⟨w.heap.size + 1, 0, none⟩) LT9).trans (by go_simp)
 have d1 : k1.cell? ⟨w.heap.size + 1, 1, none⟩ = some (.int .i64 on) := (h.cell (p := ⟨w.heap.size + 1, 1, none⟩) LT9).trans (by go_simp)
 have d2 : k1.cell? ⟨w.heap.size + 1, 2, none⟩ = some (.string os) := (h.cell (p := ⟨w.heap.size + 1, 2, none⟩) LT9).trans (by go_simp)
 have : w.heap.size < k1.heap.size := by omega
 have : w.heap.size + 1 < k1.heap.size := by omega
 replace hb : Below w.heap.size w k1 := hb.trans (hk.mono hb.size)
 clear h hk
 cases a
 ·go_wp2
  go_ret
  exact ⟨rfl, hb⟩
 ·go_wp2_with fail
  refine (omayV_isG _ ⟨ok, on, os⟩ b _ rfl ho HB.out).mono ?_
  rintro e k2 ⟨rfl, h⟩
  have hk : Below k1.heap.size k1 k2 := by
   refine Below.trans ?_ (h.mono LT9)
   repeat' (first | exact Below.refl _ _ | refine Below.alloc ?_ LT9 _ | refine Below.setCell ?_ LT9 _)
  replace c0 := (hk.cell LT9).trans c0
  replace c1 := (hk.cell LT9).trans c1
  replace c2 := (hk.cell LT9).trans c2
  replace d0 := (hk.cell LT9).trans d0
  replace d1 := (hk.cell LT9).trans d1
  replace d2 := (hk.cell LT9).trans d2
  have hz := h.size
  try simp at hz
  have : w.heap.size < k2.heap.size := by omega
  have : w.heap.size + 1 < k2.heap.size := by omega
  replace hb : Below w.heap.size w k2 := hb.trans (hk.mono hb.size)
  clear h hk
  go_wp2
  go_ret
  exact ⟨ret_bool (by simp), hb⟩
set_option maxHeartbeats 1000000 in
theorem omayC_01G (vk vn ok on : Int) (vs os : ByteArray) (a b : Bool) (w : World) (hs : vs.size ≤ maxLen) (ho : os.size ≤ maxLen) (ha : mayR ⟨vk, vn, vs⟩ = a) (hbb : mayR ⟨ok, on, os⟩ = b) (hk : (vk == 0) = true) (hk2 : (ok == 0) = false) :
  Calls Tryz.prog 95 #[.agg #[.int .i64 vk, .int .i64 vn, .string vs], .agg #[.int .i64 ok, .int .i64 on, .string os]] w (Bl (a && b) w) := by
 have hb := Below.refl w.heap.size w
 have HA := hid ha; clear ha
 have HB := hid hbb; clear hbb
 go_enter Tryz.func95, Tryz.ntmps95
 go_wp2_with fail
 refine (omayV_isG _ ⟨vk, vn, vs⟩ a _ rfl hs HA.out).mono ?_
 rintro e k1 ⟨rfl, h⟩
 have hk : Below w.heap.size w k1 := by
  refine Below.trans ?_ (h.mono LT9)
  repeat' (first | exact Below.refl _ _ | refine Below.alloc ?_ LT9 _ | refine Below.setCell ?_ LT9 _)
 have hz := h.size
 try simp at hz
 have c0 : k1.cell? ⟨w.heap.size, 0, none⟩ = some (.int .i64 vk) := (h.cell (p := ⟨w.heap.size, 0, none⟩) LT9).trans (by go_simp)
 have c1 : k1.cell? ⟨w.heap.size, 1, none⟩ = some (.int .i64 vn) := (h.cell (p := ⟨w.heap.size, 1, none⟩) LT9).trans (by go_simp)
 have c2 : k1.cell? ⟨w.heap.size, 2, none⟩ = some (.string vs) := (h.cell (p := ⟨w.heap.size, 2, none⟩) LT9).trans (by go_simp)
 have d0 : k1.cell? ⟨w.heap.size + 1, 0, none⟩ = some (.int .i64 ok) := (h.cell (p := ⟨w.heap.size + 1, 0, none⟩) LT9).trans (by go_simp)
 have d1 : k1.cell? ⟨w.heap.size + 1, 1, none⟩ = some (.int .i64 on) := (h.cell (p := ⟨w.heap.size + 1, 1, none⟩) LT9).trans (by go_simp)
 have d2 : k1.cell? ⟨w.heap.size + 1, 2, none⟩ = some (.string os) := (h.cell (p := ⟨w.heap.size + 1, 2, none⟩) LT9).trans (by go_simp)
 have : w.heap.size < k1.heap.size := by omega
 have : w.heap.size + 1 < k1.heap.size := by omega
 replace hb : Below w.heap.size w k1 := hb.trans (hk.mono hb.size)
 clear h hk
 cases a
 ·go_wp2
  go_ret
  exact ⟨rfl, hb⟩
 ·go_wp2_with fail
  refine (omayV_isG _ ⟨ok, on, os⟩ b _ rfl ho HB.out).mono ?_
  rintro e k2 ⟨rfl, h⟩
  have hk : Below k1.heap.size k1 k2 := by
   refine Below.trans ?_ (h.mono LT9)
   repeat' (first | exact Below.refl _ _ | refine Below.alloc ?_ LT9 _ | refine Below.setCell ?_ LT9 _)
  replace c0 := (hk.cell LT9).trans c0
  replace c1 := (hk.cell LT9).trans c1
  replace c2 := (hk.cell LT9).trans c2
  replace d0 := (hk.cell LT9).trans d0
  replace d1 := (hk.cell LT9).trans d1
  replace d2 := (hk.cell LT9).trans d2
  have hz := h.size
  try simp at hz
  have : w.heap.size < k2.heap.size := by omega
  have : w.heap.size + 1 < k2.heap.size := by omega
  replace hb : Below w.heap.size w k2 := hb.trans (hk.mono hb.size)
  clear h hk
  go_wp2
  go_ret
  exact ⟨ret_bool (by simp), hb⟩
theorem omayC_isG (u v : Value) (x y : Raw) (b : Bool) (w : World) (hu : u = x.val) (hv : v = y.val) (hx : x.s.size ≤ maxLen) (hy : y.s.size ≤ maxLen) (hb : (mayR x && mayR y && (x.kind != 0 || y.kind != 0)) = b) :
  Calls Tryz.prog 95 #[u, v] w (Bl b w) := by
 subst hu; subst hv; subst hb
 obtain ⟨vk, vn, vs⟩ := x
 obtain ⟨ok, on, os⟩ := y
 unfold Raw.val
 simp only
 cases hk : (vk == 0)
 ·rw [show (vk != 0) = true by unfold bne; rw [hk]; rfl, Bool.true_or, Bool.and_true]
  exact omayC_1G vk vn ok on vs os _ _ w hx hy rfl rfl hk
 ·cases hk2 : (ok == 0)
  ·rw [show (ok != 0) = true by unfold bne; rw [hk2]; rfl, Bool.or_true, Bool.and_true]
   exact omayC_01G vk vn ok on vs os _ _ w hx hy rfl rfl hk hk2
  ·rw [show (ok != 0) = false by unfold bne; rw [hk2]; rfl, show (vk != 0) = false by unfold bne; rw [hk]; rfl, Bool.or_false, Bool.and_false]
   exact omayC_00G vk vn ok on vs os _ _ w hx hy rfl rfl hk hk2
set_option maxHeartbeats 2000000 in
theorem om_nokeyG (k : Int) (vk vn ok on n : Int) (key vs os : ByteArray) (w : World) (hk : key.size ≤ maxLen) (hs : vs.size ≤ maxLen) (ho : os.size ≤ maxLen) (hkey : Ru.key key.data.toList = false) :
  Calls Tryz.prog 73 #[.agg #[.int .i64 k, .string key, .int .i64 vk, .int .i64 vn, .string vs, .int .i64 ok, .int .i64 on, .string os, .int .i64 n]] w (Bl (false) w) := by
 have hb := Below.refl w.heap.size w
 have HK := hid hkey; clear hkey
 go_enter Tryz.func73, Tryz.ntmps73
 go_wp2_with fail
 refine (key_is key _ false HK.out).mono ?_
 rintro e k1 ⟨rfl, h⟩
 have hk : Below w.heap.size w k1 := by
  refine Below.trans ?_ (h.mono LT9)
  repeat' (first | exact Below.refl _ _ | refine Below.alloc ?_ LT9 _ | refine Below.setCell ?_ LT9 _)
 have hz := h.size
 try simp at hz
 have c0 : k1.cell? ⟨w.heap.size, 0, none⟩ = some (.int .i64 k) := (h.cell (p := ⟨w.heap.size, 0, none⟩) LT9).trans (by go_simp)
 have c1 : k1.cell? ⟨w.heap.size, 1, none⟩ = some (.string key) := (h.cell (p := ⟨w.heap.size, 1, none⟩) LT9).trans (by go_simp)
 have c2 : k1.cell? ⟨w.heap.size, 2, none⟩ = some (.int .i64 vk) := (h.cell (p := ⟨w.heap.size, 2, none⟩) LT9).trans (by go_simp)
 have c3 : k1.cell? ⟨w.heap.size, 3, none⟩ = some (.int .i64 vn) := (h.cell (p := ⟨w.heap.size, 3, none⟩) LT9).trans (by go_simp)
 have c4 : k1.cell? ⟨w.heap.size, 4, none⟩ = some (.string vs) := (h.cell (p := ⟨w.heap.size, 4, none⟩) LT9).trans (by go_simp)
 have c5 : k1.cell? ⟨w.heap.size, 5, none⟩ = some (.int .i64 ok) := (h.cell (p := ⟨w.heap.size, 5, none⟩) LT9).trans (by go_simp)
 have c6 : k1.cell? ⟨w.heap.size, 6, none⟩ = some (.int .i64 on) := (h.cell (p := ⟨w.heap.size, 6, none⟩) LT9).trans (by go_simp)
 have c7 : k1.cell? ⟨w.heap.size, 7, none⟩ = some (.string os) := (h.cell (p := ⟨w.heap.size, 7, none⟩) LT9).trans (by go_simp)
 have c8 : k1.cell? ⟨w.heap.size, 8, none⟩ = some (.int .i64 n) := (h.cell (p := ⟨w.heap.size, 8, none⟩) LT9).trans (by go_simp)
 have : w.heap.size < k1.heap.size := by omega
 replace hb : Below w.heap.size w k1 := hb.trans (hk.mono hb.size)
 clear h hk
 go_wp2
 go_ret
 exact ⟨rfl, hb⟩
set_option maxHeartbeats 2000000 in
theorem om_2G (vk vn ok on n : Int) (key vs os : ByteArray) (w : World) (hk : key.size ≤ maxLen) (hs : vs.size ≤ maxLen) (ho : os.size ≤ maxLen) (hkey : Ru.key key.data.toList = true) :
  Calls Tryz.prog 73 #[.agg #[.int .i64 2, .string key, .int .i64 vk, .int .i64 vn, .string vs, .int .i64 ok, .int .i64 on, .string os, .int .i64 n]] w (Bl (eqR ⟨vk, vn, vs⟩ zR && eqR ⟨ok, on, os⟩ zR && n == 0) w) := by
 have hb := Below.refl w.heap.size w
 have HK := hid hkey; clear hkey
 go_enter Tryz.func73, Tryz.ntmps73
 go_wp2_with fail
 refine (key_is key _ true HK.out).mono ?_
 rintro e k1 ⟨rfl, h⟩
 have hk : Below w.heap.size w k1 := by
  refine Below.trans ?_ (h.mono LT9)
  repeat' (first | exact Below.refl _ _ | refine Below.alloc ?_ LT9 _ | refine Below.setCell ?_ LT9 _)
 have hz := h.size
 try simp at hz
 have c0 : k1.cell? ⟨w.heap.size, 0, none⟩ = some (.int .i64 2) := (h.cell (p := ⟨w.heap.size, 0, none⟩) LT9).trans (by go_simp)
 have c1 : k1.cell? ⟨w.heap.size, 1, none⟩ = some (.string key) := (h.cell (p := ⟨w.heap.size, 1, none⟩) LT9).trans (by go_simp)
 have c2 : k1.cell? ⟨w.heap.size, 2, none⟩ = some (.int .i64 vk) := (h.cell (p := ⟨w.heap.size, 2, none⟩) LT9).trans (by go_simp)
 have c3 : k1.cell? ⟨w.heap.size, 3, none⟩ = some (.int .i64 vn) := (h.cell (p := ⟨w.heap.size, 3, none⟩) LT9).trans (by go_simp)
 have c4 : k1.cell? ⟨w.heap.size, 4, none⟩ = some (.string vs) := (h.cell (p := ⟨w.heap.size, 4, none⟩) LT9).trans (by go_simp)
 have c5 : k1.cell? ⟨w.heap.size, 5, none⟩ = some (.int .i64 ok) := (h.cell (p := ⟨w.heap.size, 5, none⟩) LT9).trans (by go_simp)
 have c6 : k1.cell? ⟨w.heap.size, 6, none⟩ = some (.int .i64 on) := (h.cell (p := ⟨w.heap.size, 6, none⟩) LT9).trans (by go_simp)
 have c7 : k1.cell? ⟨w.heap.size, 7, none⟩ = some (.string os) := (h.cell (p := ⟨w.heap.size, 7, none⟩) LT9).trans (by go_simp)
 have c8 : k1.cell? ⟨w.heap.size, 8, none⟩ = some (.int .i64 n) := (h.cell (p := ⟨w.heap.size, 8, none⟩) LT9).trans (by go_simp)
 have : w.heap.size < k1.heap.size := by omega
 replace hb : Below w.heap.size w k1 := hb.trans (hk.mono hb.size)
 clear h hk
 go_wp2
 all_goals
  go_ret
  exact ⟨ret_bool (by (try unfold eqR zR); simp_all [ByteArray.toList_eq] <;> omega), hb.alloc hb.size _⟩
set_option maxHeartbeats 2000000 in
theorem om_4G (vk vn ok on n : Int) (key vs os : ByteArray) (w : World) (hk : key.size ≤ maxLen) (hs : vs.size ≤ maxLen) (ho : os.size ≤ maxLen) (hkey : Ru.key key.data.toList = true) :
  Calls Tryz.prog 73 #[.agg #[.int .i64 4, .string key, .int .i64 vk, .int .i64 vn, .string vs, .int .i64 ok, .int .i64 on, .string os, .int .i64 n]] w (Bl (eqR ⟨vk, vn, vs⟩ zR && eqR ⟨ok, on, os⟩ zR && decide (-1099511627776 ≤ n) && decide (n ≤ 1099511627776)) w) := by
 have hb := Below.refl w.heap.size w
 have HK := hid hkey; clear hkey
 go_enter Tryz.func73, Tryz.ntmps73
 go_wp2_with fail
 refine (key_is key _ true HK.out).mono ?_
 rintro e k1 ⟨rfl, h⟩
 have hk : Below w.heap.size w k1 := by
  refine Below.trans ?_ (h.mono LT9)
  repeat' (first | exact Below.refl _ _ | refine Below.alloc ?_ LT9 _ | refine Below.setCell ?_ LT9 _)
 have hz := h.size
 try simp at hz
 have c0 : k1.cell? ⟨w.heap.size, 0, none⟩ = some (.int .i64 4) := (h.cell (p := ⟨w.heap.size, 0, none⟩) LT9).trans (by go_simp)
 have c1 : k1.cell? ⟨w.heap.size, 1, none⟩ = some (.string key) := (h.cell (p := ⟨w.heap.size, 1, none⟩) LT9).trans (by go_simp)
 have c2 : k1.cell? ⟨w.heap.size, 2, none⟩ = some (.int .i64 vk) := (h.cell (p := ⟨w.heap.size, 2, none⟩) LT9).trans (by go_simp)
 have c3 : k1.cell? ⟨w.heap.size, 3, none⟩ = some (.int .i64 vn) := (h.cell (p := ⟨w.heap.size, 3, none⟩) LT9).trans (by go_simp)
 have c4 : k1.cell? ⟨w.heap.size, 4, none⟩ = some (.string vs) := (h.cell (p := ⟨w.heap.size, 4, none⟩) LT9).trans (by go_simp)
 have c5 : k1.cell? ⟨w.heap.size, 5, none⟩ = some (.int .i64 ok) := (h.cell (p := ⟨w.heap.size, 5, none⟩) LT9).trans (by go_simp)
 have c6 : k1.cell? ⟨w.heap.size, 6, none⟩ = some (.int .i64 on) := (h.cell (p := ⟨w.heap.size, 6, none⟩) LT9).trans (by go_simp)
 have c7 : k1.cell? ⟨w.heap.size, 7, none⟩ = some (.string os) := (h.cell (p := ⟨w.heap.size, 7, none⟩) LT9).trans (by go_simp)
 have c8 : k1.cell? ⟨w.heap.size, 8, none⟩ = some (.int .i64 n) := (h.cell (p := ⟨w.heap.size, 8, none⟩) LT9).trans (by go_simp)
 have : w.heap.size < k1.heap.size := by omega
 replace hb : Below w.heap.size w k1 := hb.trans (hk.mono hb.size)
 clear h hk
 go_wp2
 all_goals
  go_ret
  exact ⟨ret_bool (by (try unfold eqR zR); simp_all [ByteArray.toList_eq] <;> omega), hb.alloc hb.size _⟩
set_option maxHeartbeats 2000000 in
theorem om_xG (k : Int) (vk vn ok on n : Int) (key vs os : ByteArray) (w : World) (hk : key.size ≤ maxLen) (hs : vs.size ≤ maxLen) (ho : os.size ≤ maxLen) (hkey : Ru.key key.data.toList = true) (h1 : ¬ k = 1) (h2 : ¬ k = 2) (h3 : ¬ k = 3) (h4 : ¬ k = 4) :
  Calls Tryz.prog 73 #[.agg #[.int .i64 k, .string key, .int .i64 vk, .int .i64 vn, .string vs, .int .i64 ok, .int .i64 on, .string os, .int .i64 n]] w (Bl (false) w) := by
 have hb := Below.refl w.heap.size w
 have HK := hid hkey; clear hkey
 go_enter Tryz.func73, Tryz.ntmps73
 go_wp2_with fail
 refine (key_is key _ true HK.out).mono ?_
 rintro e k1 ⟨rfl, h⟩
 have hk : Below w.heap.size w k1 := by
  refine Below.trans ?_ (h.mono LT9)
  repeat' (first | exact Below.refl _ _ | refine Below.alloc ?_ LT9 _ | refine Below.setCell ?_ LT9 _)
 have hz := h.size
 try simp at hz
 have c0 : k1.cell? ⟨w.heap.size, 0, none⟩ = some (.int .i64 k) := (h.cell (p := ⟨w.heap.size, 0, none⟩) LT9).trans (by go_simp)
 have c1 : k1.cell? ⟨w.heap.size, 1, none⟩ = some (.string key) := (h.cell (p := ⟨w.heap.size, 1, none⟩) LT9).trans (by go_simp)
 have c2 : k1.cell? ⟨w.heap.size, 2, none⟩ = some (.int .i64 vk) := (h.cell (p := ⟨w.heap.size, 2, none⟩) LT9).trans (by go_simp)
 have c3 : k1.cell? ⟨w.heap.size, 3, none⟩ = some (.int .i64 vn) := (h.cell (p := ⟨w.heap.size, 3, none⟩) LT9).trans (by go_simp)
 have c4 : k1.cell? ⟨w.heap.size, 4, none⟩ = some (.string vs) := (h.cell (p := ⟨w.heap.size, 4, none⟩) LT9).trans (by go_simp)
 have c5 : k1.cell? ⟨w.heap.size, 5, none⟩ = some (.int .i64 ok) := (h.cell (p := ⟨w.heap.size, 5, none⟩) LT9).trans (by go_simp)
 have c6 : k1.cell? ⟨w.heap.size, 6, none⟩ = some (.int .i64 on) := (h.cell (p := ⟨w.heap.size, 6, none⟩) LT9).trans (by go_simp)
 have c7 : k1.cell? ⟨w.heap.size, 7, none⟩ = some (.string os) := (h.cell (p := ⟨w.heap.size, 7, none⟩) LT9).trans (by go_simp)
 have c8 : k1.cell? ⟨w.heap.size, 8, none⟩ = some (.int .i64 n) := (h.cell (p := ⟨w.heap.size, 8, none⟩) LT9).trans (by go_simp)
 have : w.heap.size < k1.heap.size := by omega
 replace hb : Below w.heap.size w k1 := hb.trans (hk.mono hb.size)
 clear h hk
 go_wp2
 go_ret
 exact ⟨rfl, hb.alloc hb.size _⟩
set_option maxHeartbeats 2000000 in
theorem om_10G (vk vn ok on n : Int) (key vs os : ByteArray) (w : World) (hk : key.size ≤ maxLen) (hs : vs.size ≤ maxLen) (ho : os.size ≤ maxLen) (hkey : Ru.key key.data.toList = true) (hv : (vk != 0) = false) :
  Calls Tryz.prog 73 #[.agg #[.int .i64 1, .string key, .int .i64 vk, .int .i64 vn, .string vs, .int .i64 ok, .int .i64 on, .string os, .int .i64 n]] w (Bl (false) w) := by
 have hb := Below.refl w.heap.size w
 have HK := hid hkey; clear hkey
 go_enter Tryz.func73, Tryz.ntmps73
 go_wp2_with fail
 refine (key_is key _ true HK.out).mono ?_
 rintro e k1 ⟨rfl, h⟩
 have hk : Below w.heap.size w k1 := by
  refine Below.trans ?_ (h.mono LT9)
  repeat' (first | exact Below.refl _ _ | refine Below.alloc ?_ LT9 _ | refine Below.setCell ?_ LT9 _)
 have hz := h.size
 try simp at hz
 have c0 : k1.cell? ⟨w.heap.size, 0, none⟩ = some (.int .i64 1) := (h.cell (p := ⟨w.heap.size, 0, none⟩) LT9).trans (by go_simp)
 have c1 : k1.cell? ⟨w.heap.size, 1, none⟩ = some (.string key) := (h.cell (p := ⟨w.heap.size, 1, none⟩) LT9).trans (by go_simp)
 have c2 : k1.cell? ⟨w.heap.size, 2, none⟩ = some (.int .i64 vk) := (h.cell (p := ⟨w.heap.size, 2, none⟩) LT9).trans (by go_simp)
 have c3 : k1.cell? ⟨w.heap.size, 3, none⟩ = some (.int .i64 vn) := (h.cell (p := ⟨w.heap.size, 3, none⟩) LT9).trans (by go_simp)
 have c4 : k1.cell? ⟨w.heap.size, 4, none⟩ = some (.string vs) := (h.cell (p := ⟨w.heap.size, 4, none⟩) LT9).trans (by go_simp)
 have c5 : k1.cell? ⟨w.heap.size, 5, none⟩ = some (.int .i64 ok) := (h.cell (p := ⟨w.heap.size, 5, none⟩) LT9).trans (by go_simp)
 have c6 : k1.cell? ⟨w.heap.size, 6, none⟩ = some (.int .i64 on) := (h.cell (p := ⟨w.heap.size, 6, none⟩) LT9).trans (by go_simp)
 have c7 : k1.cell? ⟨w.heap.size, 7, none⟩ = some (.string os) := (h.cell (p := ⟨w.heap.size, 7, none⟩) LT9).trans (by go_simp)
 have c8 : k1.cell? ⟨w.heap.size, 8, none⟩ = some (.int .i64 n) := (h.cell (p := ⟨w.heap.size, 8, none⟩) LT9).trans (by go_simp)
 have : w.heap.size < k1.heap.size := by omega
 replace hb : Below w.heap.size w k1 := hb.trans (hk.mono hb.size)
 clear h hk
 go_wp2
 go_ret
 exact ⟨rfl, hb.alloc hb.size _⟩
set_option maxHeartbeats 2000000 in
theorem om_1G (vk vn ok on n : Int) (key vs os : ByteArray) (w : World) (hk : key.size ≤ maxLen) (hs : vs.size ≤ maxLen) (ho : os.size ≤ maxLen) (hkey : Ru.key key.data.toList = true) (hv : (vk != 0) = true) (m : Bool) (hm : mayR ⟨vk, vn, vs⟩ = m) :
  Calls Tryz.prog 73 #[.agg #[.int .i64 1, .string key, .int .i64 vk, .int .i64 vn, .string vs, .int .i64 ok, .int .i64 on, .string os, .int .i64 n]] w (Bl (m && eqR ⟨ok, on, os⟩ zR && n == 0) w) := by
 have hb := Below.refl w.heap.size w
 have HK := hid hkey; clear hkey
 go_enter Tryz.func73, Tryz.ntmps73
 go_wp2_with fail
 refine (key_is key _ true HK.out).mono ?_
 rintro e k1 ⟨rfl, h⟩
 have hk : Below w.heap.size w k1 := by
  refine Below.trans ?_ (h.mono LT9)
  repeat' (first | exact Below.refl _ _ | refine Below.alloc ?_ LT9 _ | refine Below.setCell ?_ LT9 _)
 have hz := h.size
 try simp at hz
 have c0 : k1.cell? ⟨w.heap.size, 0, none⟩ = some (.int .i64 1) := (h.cell (p := ⟨w.heap.size, 0, none⟩) LT9).trans (by go_simp)
 have c1 : k1.cell? ⟨w.heap.size, 1, none⟩ = some (.string key) := (h.cell (p := ⟨w.heap.size, 1, none⟩) LT9).trans (by go_simp)
 have c2 : k1.cell? ⟨w.heap.size, 2, none⟩ = some (.int .i64 vk) := (h.cell (p := ⟨w.heap.size, 2, none⟩) LT9).trans (by go_simp)
 have c3 : k1.cell? ⟨w.heap.size, 3, none⟩ = some (.int .i64 vn) := (h.cell (p := ⟨w.heap.size, 3, none⟩) LT9).trans (by go_simp)
 have c4 : k1.cell? ⟨w.heap.size, 4, none⟩ = some (.string vs) := (h.cell (p := ⟨w.heap.size, 4, none⟩) LT9).trans (by go_simp)
 have c5 : k1.cell? ⟨w.heap.size, 5, none⟩ = some (.int .i64 ok) := (h.cell (p := ⟨w.heap.size, 5, none⟩) LT9).trans (by go_simp)
 have c6 : k1.cell? ⟨w.heap.size, 6, none⟩ = some (.int .i64 on) := (h.cell (p := ⟨w.heap.size, 6, none⟩) LT9).trans (by go_simp)
 have c7 : k1.cell? ⟨w.heap.size, 7, none⟩ = some (.string os) := (h.cell (p := ⟨w.heap.size, 7, none⟩) LT9).trans (by go_simp)
 have c8 : k1.cell? ⟨w.heap.size, 8, none⟩ = some (.int .i64 n) := (h.cell (p := ⟨w.heap.size, 8, none⟩) LT9).trans (by go_simp)
 have : w.heap.size < k1.heap.size := by omega
 replace hb : Below w.heap.size w k1 := hb.trans (hk.mono hb.size)
 clear h hk
 have HM := hid hm; clear hm
 go_wp2_with fail
 refine (omayV_isG _ ⟨vk, vn, vs⟩ m _ rfl hs HM.out).mono ?_
 rintro e k2 ⟨rfl, h⟩
 have hk : Below k1.heap.size k1 k2 := by
  refine Below.trans ?_ (h.mono LT9)
  repeat' (first | exact Below.refl _ _ | refine Below.alloc ?_ LT9 _ | refine Below.setCell ?_ LT9 _)
 replace c0 := (hk.cell LT9).trans c0
 replace c1 := (hk.cell LT9).trans c1
 replace c2 := (hk.cell LT9).trans c2
 replace c3 := (hk.cell LT9).trans c3
 replace c4 := (hk.cell LT9).trans c4
 replace c5 := (hk.cell LT9).trans c5
 replace c6 := (hk.cell LT9).trans c6
 replace c7 := (hk.cell LT9).trans c7
 replace c8 := (hk.cell LT9).trans c8
 have hz := h.size
 try simp at hz
 have z0 : k2.cell? ⟨k1.heap.size, 0, none⟩ = some (.int .i64 0) := (h.cell (p := ⟨k1.heap.size, 0, none⟩) LT9).trans (by go_simp)
 have z1 : k2.cell? ⟨k1.heap.size, 1, none⟩ = some (.int .i64 0) := (h.cell (p := ⟨k1.heap.size, 1, none⟩) LT9).trans (by go_simp)
 have z2 : k2.cell? ⟨k1.heap.size, 2, none⟩ = some (.string ⟨#[]⟩) := (h.cell (p := ⟨k1.heap.size, 2, none⟩) LT9).trans (by go_simp)
 have : w.heap.size < k2.heap.size := by omega
 have : k1.heap.size < k2.heap.size := by omega
 replace hb : Below w.heap.size w k2 := hb.trans (hk.mono hb.size)
 clear h hk
 go_wp2
 all_goals
  go_ret
  exact ⟨ret_bool (by (try unfold eqR zR); simp_all [ByteArray.toList_eq] <;> omega), hb⟩
set_option maxHeartbeats 2000000 in
theorem om_3G (vk vn ok on n : Int) (key vs os : ByteArray) (w : World) (hk : key.size ≤ maxLen) (hs : vs.size ≤ maxLen) (ho : os.size ≤ maxLen) (hkey : Ru.key key.data.toList = true) (m : Bool) (hm : (mayR ⟨vk, vn, vs⟩ && mayR ⟨ok, on, os⟩ && (vk != 0 || ok != 0)) = m) :
  Calls Tryz.prog 73 #[.agg #[.int .i64 3, .string key, .int .i64 vk, .int .i64 vn, .string vs, .int .i64 ok, .int .i64 on, .string os, .int .i64 n]] w (Bl (m && n == 0) w) := by
 have hb := Below.refl w.heap.size w
 have HK := hid hkey; clear hkey
 go_enter Tryz.func73, Tryz.ntmps73
 go_wp2_with fail
 refine (key_is key _ true HK.out).mono ?_
 rintro e k1 ⟨rfl, h⟩
 have hk : Below w.heap.size w k1 := by
  refine Below.trans ?_ (h.mono LT9)
  repeat' (first | exact Below.refl _ _ | refine Below.alloc ?_ LT9 _ | refine Below.setCell ?_ LT9 _)
 have hz := h.size
 try simp at hz
 have c0 : k1.cell? ⟨w.heap.size, 0, none⟩ = some (.int .i64 3) := (h.cell (p := ⟨w.heap.size, 0, none⟩) LT9).trans (by go_simp)
 have c1 : k1.cell? ⟨w.heap.size, 1, none⟩ = some (.string key) := (h.cell (p := ⟨w.heap.size, 1, none⟩) LT9).trans (by go_simp)
 have c2 : k1.cell? ⟨w.heap.size, 2, none⟩ = some (.int .i64 vk) := (h.cell (p := ⟨w.heap.size, 2, none⟩) LT9).trans (by go_simp)
 have c3 : k1.cell? ⟨w.heap.size, 3, none⟩ = some (.int .i64 vn) := (h.cell (p := ⟨w.heap.size, 3, none⟩) LT9).trans (by go_simp)
 have c4 : k1.cell? ⟨w.heap.size, 4, none⟩ = some (.string vs) := (h.cell (p := ⟨w.heap.size, 4, none⟩) LT9).trans (by go_simp)
 have c5 : k1.cell? ⟨w.heap.size, 5, none⟩ = some (.int .i64 ok) := (h.cell (p := ⟨w.heap.size, 5, none⟩) LT9).trans (by go_simp)
 have c6 : k1.cell? ⟨w.heap.size, 6, none⟩ = some (.int .i64 on) := (h.cell (p := ⟨w.heap.size, 6, none⟩) LT9).trans (by go_simp)
 have c7 : k1.cell? ⟨w.heap.size, 7, none⟩ = some (.string os) := (h.cell (p := ⟨w.heap.size, 7, none⟩) LT9).trans (by go_simp)
 have c8 : k1.cell? ⟨w.heap.size, 8, none⟩ = some (.int .i64 n) := (h.cell (p := ⟨w.heap.size, 8, none⟩) LT9).trans (by go_simp)
 have : w.heap.size < k1.heap.size := by omega
 replace hb : Below w.heap.size w k1 := hb.trans (hk.mono hb.size)
 clear h hk
 have HM := hid hm; clear hm
 go_wp2_with fail
 refine (omayC_isG _ _ ⟨vk, vn, vs⟩ ⟨ok, on, os⟩ m _ rfl rfl hs ho HM.out).mono ?_
 rintro e k2 ⟨rfl, h⟩
 have hk : Below k1.heap.size k1 k2 := by
  refine Below.trans ?_ (h.mono LT9)
  repeat' (first | exact Below.refl _ _ | refine Below.alloc ?_ LT9 _ | refine Below.setCell ?_ LT9 _)
 replace c0 := (hk.cell LT9).trans c0
 replace c1 := (hk.cell LT9).trans c1
 replace c2 := (hk.cell LT9).trans c2
 replace c3 := (hk.cell LT9).trans c3
 replace c4 := (hk.cell LT9).trans c4
 replace c5 := (hk.cell LT9).trans c5
 replace c6 := (hk.cell LT9).trans c6
 replace c7 := (hk.cell LT9).trans c7
 replace c8 := (hk.cell LT9).trans c8
 have hz := h.size
 try simp at hz
 have z0 : k2.cell? ⟨k1.heap.size, 0, none⟩ = some (.int .i64 0) := (h.cell (p := ⟨k1.heap.size, 0, none⟩) LT9).trans (by go_simp)
 have z1 : k2.cell? ⟨k1.heap.size, 1, none⟩ = some (.int .i64 0) := (h.cell (p := ⟨k1.heap.size, 1, none⟩) LT9).trans (by go_simp)
 have z2 : k2.cell? ⟨k1.heap.size, 2, none⟩ = some (.string ⟨#[]⟩) := (h.cell (p := ⟨k1.heap.size, 2, none⟩) LT9).trans (by go_simp)
 have : w.heap.size < k2.heap.size := by omega
 have : k1.heap.size < k2.heap.size := by omega
 replace hb : Below w.heap.size w k2 := hb.trans (hk.mono hb.size)
 clear h hk
 go_wp2
 all_goals
  go_ret
  exact ⟨ret_bool (by (try unfold eqR zR); simp_all [ByteArray.toList_eq] <;> omega), hb⟩
theorem omay_isG (v : Value) (o : Opn) (b : Bool) (w : World) (hv : v = .agg o.cs.toArray) (hs : o.key.size ≤ maxLen ∧ o.val.s.size ≤ maxLen ∧ o.old.s.size ≤ maxLen) (h : mayO o = b) : Calls Tryz.prog 73 #[v] w (Bl b w) := by
 subst hv; subst h
 obtain ⟨k, key, ⟨vk, vn, vs⟩, ⟨ok, on, os⟩, n⟩ := o
 obtain ⟨h1, h2, h3⟩ := hs
 simp only at h1 h2 h3
 unfold mayO
 cases hkey : Ru.key key.data.toList
 ·exact om_nokeyG k vk vn ok on n key vs os w h1 h2 h3 hkey
 ·simp only [Bool.true_and]
  unfold mayKind
  by_cases e1 : k = 1
  ·subst e1
   cases hv : (vk != 0)
   ·simp only [if_true, hv, Bool.false_and]; exact om_10G vk vn ok on n key vs os w h1 h2 h3 hkey hv
   ·simp only [if_true, hv, Bool.true_and]; exact om_1G vk vn ok on n key vs os w h1 h2 h3 hkey hv _ rfl
  ·by_cases e2 : k = 2
   ·subst e2; exact om_2G vk vn ok on n key vs os w h1 h2 h3 hkey
   ·by_cases e3 : k = 3
    ·subst e3; exact om_3G vk vn ok on n key vs os w h1 h2 h3 hkey _ rfl
    ·by_cases e4 : k = 4
     ·subst e4; exact om_4G vk vn ok on n key vs os w h1 h2 h3 hkey
     ·simp only [if_neg e1, if_neg e2, if_neg e3, if_neg e4]
      exact om_xG k vk vn ok on n key vs os w h1 h2 h3 hkey e1 e2 e3 e4
theorem fit_lens {o : Opn} (h : o.fit) : o.key.size ≤ maxLen ∧ o.val.s.size ≤ maxLen ∧ o.old.s.size ≤ maxLen := ⟨h.2.1, h.2.2.1.2.2, h.2.2.2.1.2.2⟩
theorem ddo_no (B g : Nat) (v : Value) (l : List Par) (o : Opn) (w : World) (h : DocO w B g v l) (hs : o.key.size ≤ maxLen ∧ o.val.s.size ≤ maxLen ∧ o.old.s.size ≤ maxLen) (hm : mayO o = false) :
  Calls Tryz.prog 44 #[.pointer (some ⟨g, 0, none⟩), .agg o.cs.toArray] w (DoR B g l o w) := by
 have hBw : B ≤ w.heap.size := Nat.le_trans h.lo (Nat.le_of_lt h.lt)
 have hdo : ∀ k w', opErr l o = k → k ≠ 0 → Below w.heap.size w w' → DoR B g l o w (.returned (.int .i64 (k : Nat))) w' := fun k w' h1 h2 h3 => ⟨by rw [h1], fun h => absurd (h1.symm.trans h) h2, h3.mono hBw⟩
 have herr : opErr l o = 1 := by unfold opErr; rw [if_pos hm]
 obtain ⟨k, key, ⟨vk, vn, vs⟩, ⟨ok, on, os⟩, n⟩ := o
 have hb := Below.refl w.heap.size w
 have HD := hid hdo; clear hdo
 have HE := hid herr; clear herr
 have HM := hid hm; clear hm
 clear h
 show Calls Tryz.prog 44 #[.pointer (some ⟨g, 0, none⟩), .agg #[.int .i64 k, .string key, .int .i64 vk, .int .i64 vn, .string vs, .int .i64 ok, .int .i64 on, .string os, .int .i64 n]] w _
 go_enter Tryz.func44, Tryz.ntmps44
 go_wp2_with fail
 refine (omay_isG _ ⟨k, key, ⟨vk, vn, vs⟩, ⟨ok, on, os⟩, n⟩ false _ rfl hs HM.out).mono ?_
 rintro e k1 ⟨rfl, h⟩
 have hk : Below w.heap.size w k1 := HK9 h
 have hz := h.size
 try simp at hz
 have o0 : k1.cell? ⟨w.heap.size, 0, none⟩ = some (.int .i64 k) := (h.cell (p := ⟨w.heap.size, 0, none⟩) LT9).trans (by go_simp)
 have o1 : k1.cell? ⟨w.heap.size, 1, none⟩ = some (.string key) := (h.cell (p := ⟨w.heap.size, 1, none⟩) LT9).trans (by go_simp)
 have o2 : k1.cell? ⟨w.heap.size, 2, none⟩ = some (.int .i64 vk) := (h.cell (p := ⟨w.heap.size, 2, none⟩) LT9).trans (by go_simp)
 have o3 : k1.cell? ⟨w.heap.size, 3, none⟩ = some (.int .i64 vn) := (h.cell (p := ⟨w.heap.size, 3, none⟩) LT9).trans (by go_simp)
 have o4 : k1.cell? ⟨w.heap.size, 4, none⟩ = some (.string vs) := (h.cell (p := ⟨w.heap.size, 4, none⟩) LT9).trans (by go_simp)
 have o5 : k1.cell? ⟨w.heap.size, 5, none⟩ = some (.int .i64 ok) := (h.cell (p := ⟨w.heap.size, 5, none⟩) LT9).trans (by go_simp)
 have o6 : k1.cell? ⟨w.heap.size, 6, none⟩ = some (.int .i64 on) := (h.cell (p := ⟨w.heap.size, 6, none⟩) LT9).trans (by go_simp)
 have o7 : k1.cell? ⟨w.heap.size, 7, none⟩ = some (.string os) := (h.cell (p := ⟨w.heap.size, 7, none⟩) LT9).trans (by go_simp)
 have o8 : k1.cell? ⟨w.heap.size, 8, none⟩ = some (.int .i64 n) := (h.cell (p := ⟨w.heap.size, 8, none⟩) LT9).trans (by go_simp)
 replace hb : Below w.heap.size w k1 := hb.trans (hk.mono hb.size)
 have lt0 : w.heap.size < k1.heap.size := LT9
 clear h hk
 go_wp2
 go_ret
 exact HD.out 1 _ (by unfold opErr; rw [HM.out]; rfl) (by decide) (by first | exact hb | exact hb.alloc hb.size _)
theorem may_ok {o : Opn} (hf : o.fit) (hm : mayO o = true) : o.ok := by
 have hk : o.key.size ≤ 160 ∧ o.val.s.size ≤ 200 ∧ o.old.s.size ≤ 200 := by
  obtain ⟨hkey, hmv, hmo, _, _⟩ := mayO_val hm
  have h1 := Ru.key_len hkey
  rw [size_list] at h1
  exact ⟨h1, mayR_len hmv, mayR_len hmo⟩
 exact ⟨hf.1, by omega, ⟨hf.2.2.1.1, hf.2.2.1.2.1, by omega⟩, ⟨hf.2.2.2.1.1, hf.2.2.2.1.2.1, by omega⟩, hf.2.2.2.2⟩
theorem ddoG (B g : Nat) (v : Value) (l : List Par) (o : Opn) (w : World) (h : DocO w B g v l) (hg : Gd l) (hf : o.fit) :
  Calls Tryz.prog 44 #[.pointer (some ⟨g, 0, none⟩), .agg o.cs.toArray] w (DoR B g l o w) := by
 cases hm : mayO o with
 | true => exact ddo_any B g v l o w h hg (may_ok hf hm)
 | false => exact ddo_no B g v l o w h (fit_lens hf) hm
theorem ok_of_err {l : List Par} {o : Opn} (hf : o.fit) (h : opErr l o = 0) : o.ok := by
 refine may_ok hf ?_
 cases hm : mayO o with
 | true => rfl
 | false => unfold opErr at h; rw [if_pos hm] at h; cases h
set_option maxHeartbeats 1000000 in
theorem dapplyG (B g Bo : Nat) (v u : Value) (l : List Par) (os : List Opn) (w : World) (h : DocO w B g v l) (hg : Gd l) (ho : Ops w Bo u os) (hBo : Bo ≤ w.heap.size) (hok : ∀ o ∈ os, o.fit) :
  Calls Tryz.prog 21 #[.pointer (some ⟨g, 0, none⟩), u] w (ApR B g l os w) := by
 obtain ⟨A, c, rfl, hc, hcell⟩ := ho
 have HH := hid h
 by_cases h18 : os.length < 1 ∨ 8 < os.length
 ·have hd : dApply l os = (l, 1) := by unfold dApply; rw [if_pos h18]
  have HD := hid hd
  clear hd h
  rcases h18 with h1 | h1
  ·go_enter Tryz.func21, Tryz.ntmps21
   go_wp2
   go_ret
   exact apR_same HH.out (Below.refl _ _) HD.out
  ·go_enter Tryz.func21, Tryz.ntmps21
   go_wp2
   go_ret
   exact apR_same HH.out (Below.refl _ _) HD.out
 ·have hd : dApply l os = apGo l l os := by unfold dApply; rw [if_neg h18]
  have hn1 : ¬ os.length < 1 := fun e => h18 (.inl e)
  have hn8 : ¬ 8 < os.length := fun e => h18 (.inr e)
  obtain ⟨go, oo, rfl, hgo, hcs⟩ := hcell (by omega)
  have hdocR := h.docR
  have hgw := h.lt
  have HC := hid hcs
  have HD := hid hd
  have HG := hid hg
  have HO := hid hok
  clear hcs hcell hd h18 hg hok
  go_enter Tryz.func21, Tryz.ntmps21
  go_wp2_with fail
  refine (dcopy_any w.heap.size g l w hdocR (Nat.le_refl _) (Nat.le_trans HG.out.len (by decide))).mono ?_
  rintro e k1 ⟨g2, v2, rfl, hnew, hb⟩
  have hg2 := hnew.lo
  have HN := hid hnew
  clear hnew h hdocR
  have hokN := HN.out.lt
  go_wp2
  go_loopw [25] (fun i wr => ∃ (k : Nat) (x : List Par) (v3 : Value), i = .int .i64 k ∧ k ≤ os.length ∧ DocO wr w.heap.size g2 v3 x ∧ Gd x ∧ apGo l x (os.drop k) = apGo l l os ∧ Below w.heap.size w wr) (fun i _ => os.length - (intOf i).toNat)
  case atStart => exact ⟨0, l, v2, rfl, by omega, HN.out, HG.out, by simp, hb⟩
  case round =>
   obtain ⟨k, x, v3, rfl, hk, hdo, hgx, hap, hbw⟩ := hrel
   have HDO := hid hdo
   have HGX := hid hgx
   have hgr := HDO.out.lt
   clear hdo hgx
   by_cases hkl : k < os.length
   ·obtain ⟨y, hy⟩ : ∃ y, os[k] = y := ⟨_, rfl⟩
    have hr := HC.out k hkl
    have hyok := HO.out os[k] (List.getElem_mem ..)
    rw [hy] at hr hyok
    rw [List.drop_eq_getElem_cons hkl, hy, apGo_cons] at hap
    have hr2 := range_below hr hbw (Nat.lt_of_lt_of_le hgo hBo)
    clear hr hy
    have HX := hid hyok; clear hyok
    have HAP := hid hap; clear hap
    obtain ⟨q, hq⟩ : ∃ q, opErr x y = q := ⟨_, rfl⟩
    have HQ := hid hq; clear hq
    have hdo := fun W (hb : Below wr.heap.size wr W) => ddoG w.heap.size g2 v3 x y W (HDO.out.below hb) HGX.out HX.out
    obtain ⟨xk, xkey, ⟨xvk, xvn, xvs⟩, ⟨xok, xon, xos⟩, xn⟩ := y
    have HDD := hid hdo; clear hdo
    unfold Opn.cs at hr2
    simp only at hr2
    go_wp2_with (refine wpList_load_mid rfl 64 _ rfl go (oo + k * 9) rfl _ _ hr2 Tryz.underlying64 rfl Tryz.infoOp ?_)
    refine (HDD.out _ (below_one wr _)).mono ?_
    rintro e w1 ⟨rfl, hdo2, hb1⟩
    rw [HQ.out] at hdo2
    rw [HQ.out]
    have hbw1 : Below w.heap.size w w1 := (hbw.alloc hbw.size _).trans hb1
    have HD2 := hid hdo2
    clear hr2 hb1 hdo2
    by_cases hq0 : q = 0
    ·subst hq0
     obtain ⟨v4, hd4⟩ := HD2.out rfl
     have HF := hid hd4; clear hd4
     go_wp2
     go_roundw
     case rel => exact ⟨k + 1, _, v4, by go_num, by omega, HF.out, HGX.out.op (ok_of_err HX.out HQ.out) HQ.out, by have := HAP.out; rw [if_pos HQ.out] at this; exact this, hbw1⟩
     case measure => simp [intOf]; omega
    ·have hqb : ((q : Int) != 0) = true := by simp; omega
     have hqc : ¬ ((q : Int) = 0) := by omega
     go_wp2
     go_ret
     exact apR_same HH.out hbw1 (by rw [HD.out, ← HAP.out, if_neg (by rw [HQ.out]; exact hq0), HQ.out])
   ·have hkn : os.length ≤ k := by omega
    rw [List.drop_of_length_le hkn] at hap
    have hap2 : apGo l l os = (x, 0) := by rw [← hap]; rfl
    have HAP := hid hap2; clear hap hap2
    obtain ⟨A3, m3, c3, rfl⟩ := own_slice3 HDO.out.own
    have r2 := cell_one HDO.out.here
    have hgb : g < wr.heap.size := Nat.lt_of_lt_of_le hgw hbw.size
    have hh := (HH.out.below hbw).here
    have r1 := cell_one hh
    have f1 := frozen_one hh
    have hne : g2 ≠ g := by omega
    have HHH := hid hh; clear hh
    go_wp2
    go_ret
    refine ⟨by rw [HD.out, HAP.out]; rfl, ⟨.slice A3 m3 c3, ?_⟩, grownBy_trans (Below.by_ hbw) (setCell_grown wr _ _)⟩
    rw [HD.out, HAP.out]
    exact docO_store HHH.out (ownsRow_down HDO.out.own (Nat.le_trans HH.out.lo (Nat.le_of_lt hgw))) HH.out.lo
theorem lapplyG (B g Bo : Nat) (u : Value) (l : List Par) (os : List Opn) (w : World) (h : Dc w B g l) (ho : Ops w Bo u os) (hBo : Bo ≤ w.heap.size) (hok : ∀ o ∈ os, o.fit) :
  Calls Tryz.prog 21 #[.pointer (some ⟨g, 0, none⟩), u] w fun e w' => ∃ k : Nat, e = .returned (.int .i64 k) ∧ w.grownBy w' (some g) := by
 obtain ⟨hg, v, hd⟩ := h
 refine (dapplyG B g Bo v u l os w hd hg ho hBo hok).mono ?_
 rintro e w' ⟨h1, h2, h3⟩
 exact ⟨_, h1, h3⟩
end Go.Proofs.YtegkhkcnoahhdaaGreat
