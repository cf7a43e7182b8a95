/- The reference's Eq and May on values as data say what the plain functions say. -/
import Derived.Test.YtegkhkcnoahhdaaGreatReRunes
set_option linter.unusedSimpArgs false
set_option linter.unusedVariables false
namespace Go.Proofs.YtegkhkcnoahhdaaGreat
open Lib (hid)
open Go.RowKit
set_option maxRecDepth 100000
structure Raw where
 kind : Int
 n : Int
 s : ByteArray
def Raw.val (r : Raw) : Value := .agg #[.int .i64 r.kind, .int .i64 r.n, .string r.s]
def eqR (a b : Raw) : Bool := a.kind == b.kind && a.n == b.n && a.s.data.toList == b.s.data.toList
def mayR (r : Raw) : Bool := if r.kind = 0 then r.n == 0 && r.s.data.toList.isEmpty else if r.kind = 1 then r.s.data.toList.isEmpty else if r.kind = 2 then r.n == 0 && Ru.vld r.s.data.toList && decide (r.s.size ≤ 200) else false
def Bl (b : Bool) (w : World) (e : Ending) (w' : World) : Prop := e = .returned (.bool b) ∧ Below w.heap.size w w'
theorem below_two (w : World) (o p : Obj) : Below w.heap.size w ((w.alloc o).alloc p) := ((Below.refl _ _).alloc (Nat.le_refl _) _).alloc (by simp) _
set_option maxRecDepth 100000 in
set_option maxHeartbeats 4000000 in
theorem req_any (a b : Raw) (w : World) : Calls Tryz.prog 55 #[a.val, b.val] w (Bl (eqR a b) w) := by
 obtain ⟨ak, an, at1⟩ := a
 obtain ⟨bk, bn, bt1⟩ := b
 unfold Raw.val
 go_enter Tryz.func55, Tryz.ntmps55
 go_wp2
 all_goals (go_ret; refine ⟨ret_bool ?_, below_two _ _ _⟩)
 ·unfold eqR; simp_all [ByteArray.toList_eq]
 ·unfold eqR; simp_all
 ·unfold eqR; simp_all
theorem below_one (w : World) (o : Obj) : Below w.heap.size w (w.alloc o) := (Below.refl _ _).alloc (Nat.le_refl _) _
set_option maxRecDepth 100000 in
set_option maxHeartbeats 4000000 in
theorem rmay_any (r : Raw) (w : World) (hs : r.s.size ≤ 1000000) : Calls Tryz.prog 84 #[r.val] w (Bl (mayR r) w) := by
 obtain ⟨k, n, t⟩ := r
 simp only at hs
 unfold Raw.val
 have htl := ByteArray.toList_eq t
 by_cases h0 : k = 0
 ·subst h0
  by_cases hn : n = 0
  ·subst hn
   go_enter Tryz.func84, Tryz.ntmps84
   go_wp2
   go_ret
   exact ⟨ret_bool (by unfold mayR; simp), below_one _ _⟩
  ·have hn2 : (n == 0) = false := by rw [beq_eq_false_iff_ne]; exact hn
   have HN := hid hn; clear hn
   go_enter Tryz.func84, Tryz.ntmps84
   go_wp2
   go_ret
   exact ⟨ret_bool (by unfold mayR; simp [HN.out]), below_one _ _⟩
 ·by_cases h1 : k = 1
  ·subst h1
   go_enter Tryz.func84, Tryz.ntmps84
   go_wp2
   go_ret
   exact ⟨ret_bool (by unfold mayR; simp), below_one _ _⟩
  ·by_cases h2 : k = 2
   ·subst h2
    obtain ⟨vd, hvd⟩ : ∃ v, Ru.vld t.data.toList = v := ⟨_, rfl⟩
    have hm : mayR ⟨2, n, t⟩ = (n == 0 && vd && decide (t.size ≤ 200)) := by unfold mayR; simp [hvd]
    have HM := hid hm; clear hm
    have HV := hid hvd; clear hvd htl
    go_enter Tryz.func84, Tryz.ntmps84
    go_wp2_with fail
    refine (runes_is t vd _ hs HV.out).mono ?_
    rintro e w1 ⟨vl, va, rfl, hl, -, hb⟩
    have c1 : w1.cell? ⟨w.heap.size, 1, none⟩ = some (.int .i64 n) := (hb.cell (p := ⟨w.heap.size, 1, none⟩) (by simp)).trans (World.cell?_alloc_mark w _ _ _ 1)
    have c2 : w1.cell? ⟨w.heap.size, 2, none⟩ = some (.string t) := (hb.cell (p := ⟨w.heap.size, 2, none⟩) (by simp)).trans (World.cell?_alloc_mark w _ _ _ 2)
    have hbw : Below w.heap.size w w1 := (below_one w _).trans (hb.mono (by simp))
    clear hb hl
    by_cases hn : n = 0
    ·subst hn
     cases vd
     ·go_wp2
      go_ret
      exact ⟨ret_bool (by rw [HM.out]; simp), hbw⟩
     ·go_wp2
      go_ret
      exact ⟨ret_bool (by rw [HM.out]; simp; omega), hbw⟩
    ·have hn2 : (n == 0) = false := by rw [beq_eq_false_iff_ne]; exact hn
     have HN := hid hn; clear hn
     go_wp2
     go_ret
     exact ⟨ret_bool (by rw [HM.out]; simp [HN.out]), hbw⟩
   ·have k0 : (k == 0) = false := by rw [beq_eq_false_iff_ne]; exact h0
    have k1 : (k == 1) = false := by rw [beq_eq_false_iff_ne]; exact h1
    have k2 : (k == 2) = false := by rw [beq_eq_false_iff_ne]; exact h2
    have hm : mayR ⟨k, n, t⟩ = false := by unfold mayR; simp [h0, h1, h2]
    have HM := hid hm; clear hm h0 h1 h2
    go_enter Tryz.func84, Tryz.ntmps84
    go_wp2
    go_ret
    exact ⟨ret_bool HM.out.symm, below_one _ _⟩
end Go.Proofs.YtegkhkcnoahhdaaGreat
/-
A function returns what the plain functions say: ReKey.
-/
namespace Go.Proofs.YtegkhkcnoahhdaaGreat
open Lib (hid)
open Go.RowKit
set_option maxRecDepth 100000
set_option maxRecDepth 100000 in
set_option maxHeartbeats 4000000 in
theorem rkey_any (s : ByteArray) (w : World) (hs : s.size ≤ 1000000) : Calls Tryz.prog 83 #[.string s] w fun e w' => e = .returned (.bool (Ru.key s.data.toList)) ∧ Below w.heap.size w w' := by
 go_enter Tryz.func83, Tryz.ntmps83
 go_wp2_with fail
 refine (runes_any s _ hs).mono ?_
 rintro e w1 ⟨vl, va, rfl, hl, ha, hb⟩
 have hcn : Ru.cnt s.data.toList = (Ru.rns s.data.toList).length := rfl
 have hk : Ru.key s.data.toList = (decide (1 ≤ (Ru.rns s.data.toList).length) && decide ((Ru.rns s.data.toList).length ≤ 40) && (Ru.rns s.data.toList).all Ru.okr) := rfl
 have hv : Ru.vld s.data.toList = (Ru.rns s.data.toList).all Ru.fine := rfl
 obtain ⟨R, hR⟩ : ∃ R, Ru.rns s.data.toList = R := ⟨_, rfl⟩
 rw [hcn, hR] at hl
 rw [hR] at hk hv
 obtain ⟨A, c, rfl, hA⟩ := own_read hl
 clear hl ha hcn hR
 have HK := hid hk; clear hk
 have HV := hid hv; clear hv
 generalize Ru.vld s.data.toList = good at *
 by_cases h0 : R.length < 1
 ·clear hA
  go_wp2
  go_ret
  refine ⟨ret_bool ?_, hb⟩
  rw [HK.out, decide_eq_false (by omega)]; rfl
 ·obtain ⟨g, rfl, hgl, hcell⟩ := hA (by omega)
  clear hA
  by_cases h40 : 40 < R.length
  ·clear hcell
   go_wp2
   go_ret
   refine ⟨ret_bool ?_, hb⟩
   rw [HK.out, decide_eq_false (show ¬ R.length ≤ 40 by omega), Bool.and_false]; rfl
  ·cases good
   ·clear hcell
    go_wp2
    go_ret
    refine ⟨ret_bool ?_, hb⟩
    rw [HK.out, okr_none _ HV.out.symm, Bool.and_false]
   ·go_wp2
    go_loop [6] (fun v => ∃ k : Nat, v = .int .i64 k ∧ k ≤ R.length ∧ (R.take k).all Ru.okr = true) (fun v => R.length - (intOf v).toNat)
    case atStart => exact ⟨0, rfl, Nat.zero_le _, rfl⟩
    case round =>
     obtain ⟨k, rfl, hkl, hok⟩ := hrel
     have HO := hid hok; clear hok
     by_cases hlt : k < R.length
     ·have hc := hcell k _ (runeVals_at R k hlt)
      have hf : Ru.fine R[k] = true := List.all_eq_true.1 HV.out.symm _ (List.getElem_mem hlt)
      have HF := hid hf; clear hf
      clear hcell
      generalize hx : R[k] = x at *
      have HX := hid hx; clear hx
      have hbad : Ru.okr x = false → Ru.key s.data.toList = false := fun hb => by
       rw [HK.out, List.all_eq_false.2 ⟨x, by rw [← HX.out]; exact List.getElem_mem hlt, by rw [hb]; simp⟩, Bool.and_false]
      have HB := hid hbad; clear hbad
      by_cases h32 : x.1 < 32
      ·go_wp2
       go_ret
       exact ⟨ret_bool (HB.out (okr_low x h32)).symm, hb⟩
      ·by_cases h127 : x.1 = 127
       ·have h2 : ((x.1 : Int) == 127) = true := by rw [h127]; rfl
        have H1 := hid h127; clear h127
        go_wp2
        go_ret
        exact ⟨ret_bool (HB.out (okr_del x H1.out)).symm, hb⟩
       ·have h2 : ((x.1 : Int) == 127) = false := by rw [beq_eq_false_iff_ne]; omega
        have H1 := hid h127; clear h127
        have H3 := hid h32
        go_wp2
        go_round
        case rel =>
         refine ⟨k + 1, by go_num, by omega, ?_⟩
         rw [List.take_succ_eq_append_getElem hlt, List.all_append, HO.out, HX.out]
         simp [okr_ok x HF.out H3.out H1.out]
        case measure => simp [intOf]; omega
     ·go_wp2
      go_ret
      obtain rfl : k = R.length := by omega
      refine ⟨ret_bool ?_, hb⟩
      have := HO.out
      rw [List.take_length] at this
      rw [HK.out, this, decide_eq_true (by omega), decide_eq_true (by omega)]; rfl
end Go.Proofs.YtegkhkcnoahhdaaGreat
/-
The reference's MayOp says which operations may be, as the plain function does.
-/
set_option linter.unusedVariables false
namespace Go.Proofs.YtegkhkcnoahhdaaGreat
open Lib (hid)
open Go.RowKit
set_option maxRecDepth 100000
structure Opn where
 kind : Int
 key : ByteArray
 val : Raw
 old : Raw
 n : Int
def Opn.v (o : Opn) : Value := .agg #[.int .i64 o.kind, .string o.key, .int .i64 o.val.kind, .int .i64 o.val.n, .string o.val.s, .int .i64 o.old.kind, .int .i64 o.old.n, .string o.old.s, .int .i64 o.n]
def zR : Raw := ⟨0, 0, ⟨#[]⟩⟩
def mayKind (o : Opn) : Bool :=
 if o.kind = 1 then o.val.kind != 0 && mayR o.val && eqR o.old zR && o.n == 0
 else if o.kind = 2 then eqR o.val zR && eqR o.old zR && o.n == 0
 else if o.kind = 3 then mayR o.val && mayR o.old && (o.val.kind != 0 || o.old.kind != 0) && o.n == 0
 else if o.kind = 4 then eqR o.val zR && eqR o.old zR && decide (-1099511627776 ≤ o.n) && decide (o.n ≤ 1099511627776)
 else false
def mayO (o : Opn) : Bool := Ru.key o.key.data.toList && mayKind o
theorem rkey_is (s : ByteArray) (b : Bool) (w : World) (hs : s.size ≤ 1000000) (h : Ru.key s.data.toList = b) : Calls Tryz.prog 83 #[.string s] w (Bl b w) := by
 rw [← h]; exact rkey_any s w hs
theorem rmo_eq_is (u v : Value) (a b : Raw) (x : Bool) (w : World) (hu : u = a.val) (hv : v = b.val) (h : eqR a b = x) : Calls Tryz.prog 55 #[u, v] w (Bl x w) := by
 rw [hu, hv, ← h]; exact req_any a b w
theorem rmay_v (v : Value) (r : Raw) (b : Bool) (w : World) (hv : v = r.val) (hs : r.s.size ≤ 1000000) (h : mayR r = b) : Calls Tryz.prog 84 #[v] w (Bl b w) := by
 rw [hv, ← h]; exact rmay_any r w hs
def Box (w : World) (g : Nat) (o : Opn) : Prop := w.cell? ⟨g, 0, Option.none⟩ = some (.int .i64 o.kind) ∧ w.cell? ⟨g, 2, Option.none⟩ = some (.int .i64 o.val.kind) ∧ w.cell? ⟨g, 3, Option.none⟩ = some (.int .i64 o.val.n) ∧ w.cell? ⟨g, 4, Option.none⟩ = some (.string o.val.s) ∧ w.cell? ⟨g, 5, Option.none⟩ = some (.int .i64 o.old.kind) ∧ w.cell? ⟨g, 6, Option.none⟩ = some (.int .i64 o.old.n) ∧ w.cell? ⟨g, 7, Option.none⟩ = some (.string o.old.s) ∧ w.cell? ⟨g, 8, Option.none⟩ = some (.int .i64 o.n)
theorem Box.below {w w' : World} {g B : Nat} {o : Opn} (h : Box w g o) (hb : Below B w w') (hg : g < B) : Box w' g o :=
 ⟨(hb.cell (p := ⟨g, 0, Option.none⟩) hg).trans h.1, (hb.cell (p := ⟨g, 2, Option.none⟩) hg).trans h.2.1, (hb.cell (p := ⟨g, 3, Option.none⟩) hg).trans h.2.2.1, (hb.cell (p := ⟨g, 4, Option.none⟩) hg).trans h.2.2.2.1, (hb.cell (p := ⟨g, 5, Option.none⟩) hg).trans h.2.2.2.2.1, (hb.cell (p := ⟨g, 6, Option.none⟩) hg).trans h.2.2.2.2.2.1, (hb.cell (p := ⟨g, 7, Option.none⟩) hg).trans h.2.2.2.2.2.2.1, (hb.cell (p := ⟨g, 8, Option.none⟩) hg).trans h.2.2.2.2.2.2.2⟩
set_option maxRecDepth 100000 in
set_option maxHeartbeats 1000000 in
theorem mo_nokey (o : Opn) (w : World) (hk : o.key.size ≤ 1000000) (h : Ru.key o.key.data.toList = false) : Calls Tryz.prog 53 #[o.v] w (Bl false w) := by
 obtain ⟨k, key, ⟨vk, vn, vs⟩, ⟨ok, on, os⟩, n⟩ := o
 have H := hid h; clear h
 unfold Opn.v
 go_enter Tryz.func53, Tryz.ntmps53
 go_wp2_with fail
 refine (rkey_is key false _ hk H.out).mono ?_
 rintro e w1 ⟨rfl, hb⟩
 go_wp2
 go_ret
 exact ⟨rfl, (below_one w _).trans (hb.mono (by simp))⟩
set_option maxRecDepth 100000 in
set_option maxHeartbeats 1000000 in
theorem mo_1n (vk vn ok on n : Int) (key vs os : ByteArray) (w : World) (hk : key.size ≤ 1000000) (hv : vs.size ≤ 1000000) (ho : os.size ≤ 1000000) (hkey : Ru.key key.data.toList = true) (hvk : (vk != 0) = false) : Calls Tryz.prog 53 #[Opn.v ⟨1, key, ⟨vk, vn, vs⟩, ⟨ok, on, os⟩, n⟩] w (Bl false w) := by
 have HK := hid hkey; clear hkey
 unfold Opn.v
 go_enter Tryz.func53, Tryz.ntmps53
 go_wp2_with fail
 refine (rkey_is key true _ hk HK.out).mono ?_
 rintro e w1 ⟨rfl, hb⟩
 have hbx : Box w1 w.heap.size ⟨1, key, ⟨vk, vn, vs⟩, ⟨ok, on, os⟩, n⟩ := ⟨(hb.cell (p := ⟨w.heap.size, 0, none⟩) (by simp)).trans (by go_simp), (hb.cell (p := ⟨w.heap.size, 2, none⟩) (by simp)).trans (by go_simp), (hb.cell (p := ⟨w.heap.size, 3, none⟩) (by simp)).trans (by go_simp), (hb.cell (p := ⟨w.heap.size, 4, none⟩) (by simp)).trans (by go_simp), (hb.cell (p := ⟨w.heap.size, 5, none⟩) (by simp)).trans (by go_simp), (hb.cell (p := ⟨w.heap.size, 6, none⟩) (by simp)).trans (by go_simp), (hb.cell (p := ⟨w.heap.size, 7, none⟩) (by simp)).trans (by go_simp), (hb.cell (p := ⟨w.heap.size, 8, none⟩) (by simp)).trans (by go_simp)⟩
 have hbw : Below w.heap.size w w1 := (below_one w _).trans (hb.mono (by simp))
 have hz : w.heap.size < w1.heap.size := by have := hb.size; simp at this; omega
 have HB := hid hbx; clear hbx hb
 obtain ⟨c0, c2, c3, c4, c5, c6, c7, c8⟩ := HB.out
 simp only at c0 c2 c3 c4 c5 c6 c7 c8
 go_wp2_with fail
 go_quiet (fail)
 have hbw := below_drewN hbw nq
 go_wp2
 go_ret
 exact ⟨ret_bool (by simp), hbw⟩
set_option maxRecDepth 100000 in
set_option maxHeartbeats 1000000 in
theorem mo_1 (vk vn ok on n : Int) (key vs os : ByteArray) (w : World) (hk : key.size ≤ 1000000) (hv : vs.size ≤ 1000000) (ho : os.size ≤ 1000000) (hkey : Ru.key key.data.toList = true) (hvk : (vk != 0) = true) (mv eo : Bool) (hmv : mayR ⟨vk, vn, vs⟩ = mv) (heo : eqR ⟨ok, on, os⟩ zR = eo) : Calls Tryz.prog 53 #[Opn.v ⟨1, key, ⟨vk, vn, vs⟩, ⟨ok, on, os⟩, n⟩] w (Bl (mv && eo && n == 0) w) := by
 have HMV := hid hmv; clear hmv
 have HEO := hid heo; clear heo
 have HK := hid hkey; clear hkey
 unfold Opn.v
 go_enter Tryz.func53, Tryz.ntmps53
 go_wp2_with fail
 refine (rkey_is key true _ hk HK.out).mono ?_
 rintro e w1 ⟨rfl, hb⟩
 have hbx : Box w1 w.heap.size ⟨1, key, ⟨vk, vn, vs⟩, ⟨ok, on, os⟩, n⟩ := ⟨(hb.cell (p := ⟨w.heap.size, 0, none⟩) (by simp)).trans (by go_simp), (hb.cell (p := ⟨w.heap.size, 2, none⟩) (by simp)).trans (by go_simp), (hb.cell (p := ⟨w.heap.size, 3, none⟩) (by simp)).trans (by go_simp), (hb.cell (p := ⟨w.heap.size, 4, none⟩) (by simp)).trans (by go_simp), (hb.cell (p := ⟨w.heap.size, 5, none⟩) (by simp)).trans (by go_simp), (hb.cell (p := ⟨w.heap.size, 6, none⟩) (by simp)).trans (by go_simp), (hb.cell (p := ⟨w.heap.size, 7, none⟩) (by simp)).trans (by go_simp), (hb.cell (p := ⟨w.heap.size, 8, none⟩) (by simp)).trans (by go_simp)⟩
 have hbw : Below w.heap.size w w1 := (below_one w _).trans (hb.mono (by simp))
 have hz : w.heap.size < w1.heap.size := by have := hb.size; simp at this; omega
 have HB := hid hbx; clear hbx hb
 obtain ⟨c0, c2, c3, c4, c5, c6, c7, c8⟩ := HB.out
 simp only at c0 c2 c3 c4 c5 c6 c7 c8
 go_wp2_with fail
 go_quiet (fail)
 have hbw := below_drewN hbw nq
 go_wp2_with fail
 refine (rmay_v _ ⟨vk, vn, vs⟩ mv _ rfl hv HMV.out).mono ?_
 rintro e w2 ⟨rfl, hb⟩
 have hbx := Box.below (w := w1.drewN nq) HB.out hb hz
 have hbw := hbw.trans (hb.mono (Nat.le_of_lt hz))
 have hz := Nat.lt_of_lt_of_le hz hb.size
 clear c0 c2 c3 c4 c5 c6 c7 c8 HB hb
 have HB := hid hbx; clear hbx
 obtain ⟨c0, c2, c3, c4, c5, c6, c7, c8⟩ := HB.out
 simp only at c0 c2 c3 c4 c5 c6 c7 c8
 cases mv
 ·go_wp2
  go_ret
  exact ⟨ret_bool (by simp), hbw⟩
 ·go_wp2_with fail
  refine (rmo_eq_is _ _ ⟨ok, on, os⟩ zR eo _ rfl rfl HEO.out).mono ?_
  rintro e w3 ⟨rfl, hb⟩
  have hbx := Box.below (w := w2) HB.out hb hz
  have hbw := hbw.trans (hb.mono (Nat.le_of_lt hz))
  have hz := Nat.lt_of_lt_of_le hz hb.size
  clear c0 c2 c3 c4 c5 c6 c7 c8 HB hb
  have HB := hid hbx; clear hbx
  obtain ⟨c0, c2, c3, c4, c5, c6, c7, c8⟩ := HB.out
  simp only at c0 c2 c3 c4 c5 c6 c7 c8
  cases eo
  ·go_wp2
   go_ret
   exact ⟨ret_bool (by simp), hbw⟩
  ·go_wp2
   go_ret
   exact ⟨ret_bool (by simp), hbw⟩
set_option maxRecDepth 100000 in
set_option maxHeartbeats 1000000 in
theorem mo_2 (vk vn ok on n : Int) (key vs os : ByteArray) (w : World) (hk : key.size ≤ 1000000) (hv : vs.size ≤ 1000000) (ho : os.size ≤ 1000000) (hkey : Ru.key key.data.toList = true) (ev eo : Bool) (hev : eqR ⟨vk, vn, vs⟩ zR = ev) (heo : eqR ⟨ok, on, os⟩ zR = eo) : Calls Tryz.prog 53 #[Opn.v ⟨2, key, ⟨vk, vn, vs⟩, ⟨ok, on, os⟩, n⟩] w (Bl (ev && eo && n == 0) w) := by
 have HEV := hid hev; clear hev
 have HEO := hid heo; clear heo
 have HK := hid hkey; clear hkey
 unfold Opn.v
 go_enter Tryz.func53, Tryz.ntmps53
 go_wp2_with fail
 refine (rkey_is key true _ hk HK.out).mono ?_
 rintro e w1 ⟨rfl, hb⟩
 have hbx : Box w1 w.heap.size ⟨2, key, ⟨vk, vn, vs⟩, ⟨ok, on, os⟩, n⟩ := ⟨(hb.cell (p := ⟨w.heap.size, 0, none⟩) (by simp)).trans (by go_simp), (hb.cell (p := ⟨w.heap.size, 2, none⟩) (by simp)).trans (by go_simp), (hb.cell (p := ⟨w.heap.size, 3, none⟩) (by simp)).trans (by go_simp), (hb.cell (p := ⟨w.heap.size, 4, none⟩) (by simp)).trans (by go_simp), (hb.cell (p := ⟨w.heap.size, 5, none⟩) (by simp)).trans (by go_simp), (hb.cell (p := ⟨w.heap.size, 6, none⟩) (by simp)).trans (by go_simp), (hb.cell (p := ⟨w.heap.size, 7, none⟩) (by simp)).trans (by go_simp), (hb.cell (p := ⟨w.heap.size, 8, none⟩) (by simp)).trans (by go_simp)⟩
 have hbw : Below w.heap.size w w1 := (below_one w _).trans (hb.mono (by simp))
 have hz : w.heap.size < w1.heap.size := by have := hb.size; simp at this; omega
 have HB := hid hbx; clear hbx hb
 obtain ⟨c0, c2, c3, c4, c5, c6, c7, c8⟩ := HB.out
 simp only at c0 c2 c3 c4 c5 c6 c7 c8
 go_wp2_with fail
 go_quiet (fail)
 have hbw := below_drewN hbw nq
 go_wp2_with fail
 refine (rmo_eq_is _ _ ⟨vk, vn, vs⟩ zR ev _ rfl rfl HEV.out).mono ?_
 rintro e w2 ⟨rfl, hb⟩
 have hbx := Box.below (w := w1.drewN nq) HB.out hb hz
 have hbw := hbw.trans (hb.mono (Nat.le_of_lt hz))
 have hz := Nat.lt_of_lt_of_le hz hb.size
 clear c0 c2 c3 c4 c5 c6 c7 c8 HB hb
 have HB := hid hbx; clear hbx
 obtain ⟨c0, c2, c3, c4, c5, c6, c7, c8⟩ := HB.out
 simp only at c0 c2 c3 c4 c5 c6 c7 c8
 cases ev
 ·go_wp2
  go_ret
  exact ⟨ret_bool (by simp), hbw⟩
 ·go_wp2_with fail
  refine (rmo_eq_is _ _ ⟨ok, on, os⟩ zR eo _ rfl rfl HEO.out).mono ?_
  rintro e w3 ⟨rfl, hb⟩
  have hbx := Box.below (w := w2) HB.out hb hz
  have hbw := hbw.trans (hb.mono (Nat.le_of_lt hz))
  have hz := Nat.lt_of_lt_of_le hz hb.size
  clear c0 c2 c3 c4 c5 c6 c7 c8 HB hb
  have HB := hid hbx; clear hbx
  obtain ⟨c0, c2, c3, c4, c5, c6, c7, c8⟩ := HB.out
  simp only at c0 c2 c3 c4 c5 c6 c7 c8
  cases eo
  ·go_wp2
   go_ret
   exact ⟨ret_bool (by simp), hbw⟩
  ·go_wp2
   go_ret
   exact ⟨ret_bool (by simp), hbw⟩
set_option maxRecDepth 100000 in
set_option maxHeartbeats 1000000 in
theorem mo_4 (vk vn ok on n : Int) (key vs os : ByteArray) (w : World) (hk : key.size ≤ 1000000) (hv : vs.size ≤ 1000000) (ho : os.size ≤ 1000000) (hkey : Ru.key key.data.toList = true) (ev eo : Bool) (hev : eqR ⟨vk, vn, vs⟩ zR = ev) (heo : eqR ⟨ok, on, os⟩ zR = eo) : Calls Tryz.prog 53 #[Opn.v ⟨4, key, ⟨vk, vn, vs⟩, ⟨ok, on, os⟩, n⟩] w (Bl (ev && eo && decide (-1099511627776 ≤ n) && decide (n ≤ 1099511627776)) w) := by
 have HEV := hid hev; clear hev
 have HEO := hid heo; clear heo
 have HK := hid hkey; clear hkey
 unfold Opn.v
 go_enter Tryz.func53, Tryz.ntmps53
 go_wp2_with fail
 refine (rkey_is key true _ hk HK.out).mono ?_
 rintro e w1 ⟨rfl, hb⟩
 have hbx : Box w1 w.heap.size ⟨4, key, ⟨vk, vn, vs⟩, ⟨ok, on, os⟩, n⟩ := ⟨(hb.cell (p := ⟨w.heap.size, 0, none⟩) (by simp)).trans (by go_simp), (hb.cell (p := ⟨w.heap.size, 2, none⟩) (by simp)).trans (by go_simp), (hb.cell (p := ⟨w.heap.size, 3, none⟩) (by simp)).trans (by go_simp), (hb.cell (p := ⟨w.heap.size, 4, none⟩) (by simp)).trans (by go_simp), (hb.cell (p := ⟨w.heap.size, 5, none⟩) (by simp)).trans (by go_simp), (hb.cell (p := ⟨w.heap.size, 6, none⟩) (by simp)).trans (by go_simp), (hb.cell (p := ⟨w.heap.size, 7, none⟩) (by simp)).trans (by go_simp), (hb.cell (p := ⟨w.heap.size, 8, none⟩) (by simp)).trans (by go_simp)⟩
 have hbw : Below w.heap.size w w1 := (below_one w _).trans (hb.mono (by simp))
 have hz : w.heap.size < w1.heap.size := by have := hb.size; simp at this; omega
 have HB := hid hbx; clear hbx hb
 obtain ⟨c0, c2, c3, c4, c5, c6, c7, c8⟩ := HB.out
 simp only at c0 c2 c3 c4 c5 c6 c7 c8
 go_wp2_with fail
 go_quiet (fail)
 have hbw := below_drewN hbw nq
 go_wp2_with fail
 refine (rmo_eq_is _ _ ⟨vk, vn, vs⟩ zR ev _ rfl rfl HEV.out).mono ?_
 rintro e w2 ⟨rfl, hb⟩
 have hbx := Box.below (w := w1.drewN nq) HB.out hb hz
 have hbw := hbw.trans (hb.mono (Nat.le_of_lt hz))
 have hz := Nat.lt_of_lt_of_le hz hb.size
 clear c0 c2 c3 c4 c5 c6 c7 c8 HB hb
 have HB := hid hbx; clear hbx
 obtain ⟨c0, c2, c3, c4, c5, c6, c7, c8⟩ := HB.out
 simp only at c0 c2 c3 c4 c5 c6 c7 c8
 cases ev
 ·go_wp2
  go_ret
  exact ⟨ret_bool (by simp), hbw⟩
 ·go_wp2_with fail
  refine (rmo_eq_is _ _ ⟨ok, on, os⟩ zR eo _ rfl rfl HEO.out).mono ?_
  rintro e w3 ⟨rfl, hb⟩
  have hbx := Box.below (w := w2) HB.out hb hz
  have hbw := hbw.trans (hb.mono (Nat.le_of_lt hz))
  have hz := Nat.lt_of_lt_of_le hz hb.size
  clear c0 c2 c3 c4 c5 c6 c7 c8 HB hb
  have HB := hid hbx; clear hbx
  obtain ⟨c0, c2, c3, c4, c5, c6, c7, c8⟩ := HB.out
  simp only at c0 c2 c3 c4 c5 c6 c7 c8
  cases eo
  ·go_wp2
   go_ret
   exact ⟨ret_bool (by simp), hbw⟩
  ·by_cases hlo : -1099511627776 ≤ n
   ·go_wp2
    go_ret
    exact ⟨ret_bool (by simp [hlo]), hbw⟩
   ·go_wp2
    go_ret
    exact ⟨ret_bool (by simp; omega), hbw⟩
set_option maxRecDepth 100000 in
set_option maxHeartbeats 1000000 in
theorem mo_3 (vk vn ok on n : Int) (key vs os : ByteArray) (w : World) (hk : key.size ≤ 1000000) (hv : vs.size ≤ 1000000) (ho : os.size ≤ 1000000) (hkey : Ru.key key.data.toList = true) (mv mo b1 b2 : Bool) (hmv : mayR ⟨vk, vn, vs⟩ = mv) (hmo : mayR ⟨ok, on, os⟩ = mo) (hb1 : (vk != 0) = b1) (hb2 : (ok != 0) = b2) : Calls Tryz.prog 53 #[Opn.v ⟨3, key, ⟨vk, vn, vs⟩, ⟨ok, on, os⟩, n⟩] w (Bl (mv && mo && (b1 || b2) && n == 0) w) := by
 have HMV := hid hmv; clear hmv
 have HMO := hid hmo; clear hmo
 cases b1 <;> cases b2
 all_goals
  have HK := hid hkey; clear hkey
  unfold Opn.v
  go_enter Tryz.func53, Tryz.ntmps53
  go_wp2_with fail
  refine (rkey_is key true _ hk HK.out).mono ?_
  rintro e w1 ⟨rfl, hb⟩
  have hbx : Box w1 w.heap.size ⟨3, key, ⟨vk, vn, vs⟩, ⟨ok, on, os⟩, n⟩ := ⟨(hb.cell (p := ⟨w.heap.size, 0, none⟩) (by simp)).trans (by go_simp), (hb.cell (p := ⟨w.heap.size, 2, none⟩) (by simp)).trans (by go_simp), (hb.cell (p := ⟨w.heap.size, 3, none⟩) (by simp)).trans (by go_simp), (hb.cell (p := ⟨w.heap.size, 4, none⟩) (by simp)).trans (by go_simp), (hb.cell (p := ⟨w.heap.size, 5, none⟩) (by simp)).trans (by go_simp), (hb.cell (p := ⟨w.heap.size, 6, none⟩) (by simp)).trans (by go_simp), (hb.cell (p := ⟨w.heap.size, 7, none⟩) (by simp)).trans (by go_simp), (hb.cell (p := ⟨w.heap.size, 8, none⟩) (by simp)).trans (by go_simp)⟩
  have hbw : Below w.heap.size w w1 := (below_one w _).trans (hb.mono (by simp))
  have hz : w.heap.size < w1.heap.size := by have := hb.size; simp at this; omega
  have HB := hid hbx; clear hbx hb
  obtain ⟨c0, c2, c3, c4, c5, c6, c7, c8⟩ := HB.out
  simp only at c0 c2 c3 c4 c5 c6 c7 c8
  go_wp2_with fail
  go_quiet (fail)
  have hbw := below_drewN hbw nq
  go_wp2_with fail
  refine (rmay_v _ ⟨vk, vn, vs⟩ mv _ rfl hv HMV.out).mono ?_
  rintro e w2 ⟨rfl, hb⟩
  have hbx := Box.below (w := w1.drewN nq) HB.out hb hz
  have hbw := hbw.trans (hb.mono (Nat.le_of_lt hz))
  have hz := Nat.lt_of_lt_of_le hz hb.size
  clear c0 c2 c3 c4 c5 c6 c7 c8 HB hb
  have HB := hid hbx; clear hbx
  obtain ⟨c0, c2, c3, c4, c5, c6, c7, c8⟩ := HB.out
  simp only at c0 c2 c3 c4 c5 c6 c7 c8
  cases mv
  ·go_wp2
   go_ret
   exact ⟨ret_bool (by simp), hbw⟩
  ·go_wp2_with fail
   refine (rmay_v _ ⟨ok, on, os⟩ mo _ rfl ho HMO.out).mono ?_
   rintro e w3 ⟨rfl, hb⟩
   have hbx := Box.below (w := w2) HB.out hb hz
   have hbw := hbw.trans (hb.mono (Nat.le_of_lt hz))
   have hz := Nat.lt_of_lt_of_le hz hb.size
   clear c0 c2 c3 c4 c5 c6 c7 c8 HB hb
   have HB := hid hbx; clear hbx
   obtain ⟨c0, c2, c3, c4, c5, c6, c7, c8⟩ := HB.out
   simp only at c0 c2 c3 c4 c5 c6 c7 c8
   cases mo
   ·go_wp2
    go_ret
    exact ⟨ret_bool (by simp), hbw⟩
   ·go_wp2
    go_ret
    exact ⟨ret_bool (by simp), hbw⟩
set_option maxRecDepth 100000 in
set_option maxHeartbeats 1000000 in
theorem mo_x (vk vn ok on n k : Int) (key vs os : ByteArray) (w : World) (hk : key.size ≤ 1000000) (hv : vs.size ≤ 1000000) (ho : os.size ≤ 1000000) (hkey : Ru.key key.data.toList = true) (h1 : (k == 1) = false) (h2 : (k == 2) = false) (h3 : (k == 3) = false) (h4 : (k == 4) = false) : Calls Tryz.prog 53 #[Opn.v ⟨k, key, ⟨vk, vn, vs⟩, ⟨ok, on, os⟩, n⟩] w (Bl false w) := by
 have HK := hid hkey; clear hkey
 unfold Opn.v
 go_enter Tryz.func53, Tryz.ntmps53
 go_wp2_with fail
 refine (rkey_is key true _ hk HK.out).mono ?_
 rintro e w1 ⟨rfl, hb⟩
 have hbx : Box w1 w.heap.size ⟨k, key, ⟨vk, vn, vs⟩, ⟨ok, on, os⟩, n⟩ := ⟨(hb.cell (p := ⟨w.heap.size, 0, none⟩) (by simp)).trans (by go_simp), (hb.cell (p := ⟨w.heap.size, 2, none⟩) (by simp)).trans (by go_simp), (hb.cell (p := ⟨w.heap.size, 3, none⟩) (by simp)).trans (by go_simp), (hb.cell (p := ⟨w.heap.size, 4, none⟩) (by simp)).trans (by go_simp), (hb.cell (p := ⟨w.heap.size, 5, none⟩) (by simp)).trans (by go_simp), (hb.cell (p := ⟨w.heap.size, 6, none⟩) (by simp)).trans (by go_simp), (hb.cell (p := ⟨w.heap.size, 7, none⟩) (by simp)).trans (by go_simp), (hb.cell (p := ⟨w.heap.size, 8, none⟩) (by simp)).trans (by go_simp)⟩
 have hbw : Below w.heap.size w w1 := (below_one w _).trans (hb.mono (by simp))
 have hz : w.heap.size < w1.heap.size := by have := hb.size; simp at this; omega
 have HB := hid hbx; clear hbx hb
 obtain ⟨c0, c2, c3, c4, c5, c6, c7, c8⟩ := HB.out
 simp only at c0 c2 c3 c4 c5 c6 c7 c8
 go_wp2_with fail
 go_quiet (fail)
 have hbw := below_drewN hbw nq
 go_wp2
 go_ret
 exact ⟨ret_bool (by simp), hbw⟩
theorem rmayOp_any (o : Opn) (w : World) (hk : o.key.size ≤ 1000000) (hv : o.val.s.size ≤ 1000000) (ho : o.old.s.size ≤ 1000000) : Calls Tryz.prog 53 #[o.v] w (Bl (mayO o) w) := by
 cases hkey : Ru.key o.key.data.toList
 ·have e : mayO o = false := by unfold mayO; rw [hkey]; rfl
  rw [e]; exact mo_nokey o w hk hkey
 ·have e : mayO o = mayKind o := by unfold mayO; rw [hkey]; rfl
  rw [e]
  obtain ⟨k, key, ⟨vk, vn, vs⟩, ⟨ok, on, os⟩, n⟩ := o
  simp only at hk hv ho hkey
  by_cases h1 : k = 1
  ·subst h1
   by_cases hz : vk = 0
   ·have e2 : mayKind ⟨1, key, ⟨vk, vn, vs⟩, ⟨ok, on, os⟩, n⟩ = false := by unfold mayKind; simp [hz]
    rw [e2]; exact mo_1n vk vn ok on n key vs os w hk hv ho hkey (by rw [hz]; rfl)
   ·have hne : (vk != 0) = true := by rw [bne_iff_ne]; exact hz
    have e2 : mayKind ⟨1, key, ⟨vk, vn, vs⟩, ⟨ok, on, os⟩, n⟩ = (mayR ⟨vk, vn, vs⟩ && eqR ⟨ok, on, os⟩ zR && n == 0) := by unfold mayKind; simp [hne]
    rw [e2]; exact mo_1 vk vn ok on n key vs os w hk hv ho hkey hne _ _ rfl rfl
  ·by_cases h2 : k = 2
   ·subst h2
    exact mo_2 vk vn ok on n key vs os w hk hv ho hkey _ _ rfl rfl
   ·by_cases h3 : k = 3
    ·subst h3
     exact mo_3 vk vn ok on n key vs os w hk hv ho hkey _ _ _ _ rfl rfl rfl rfl
    ·by_cases h4 : k = 4
     ·subst h4
      exact mo_4 vk vn ok on n key vs os w hk hv ho hkey _ _ rfl rfl
     ·have e2 : mayKind ⟨k, key, ⟨vk, vn, vs⟩, ⟨ok, on, os⟩, n⟩ = false := by unfold mayKind; simp [h1, h2, h3, h4]
      rw [e2]; exact mo_x vk vn ok on n k key vs os w hk hv ho hkey (beq_eq_false_iff_ne.2 h1) (beq_eq_false_iff_ne.2 h2) (beq_eq_false_iff_ne.2 h3) (beq_eq_false_iff_ne.2 h4)
end Go.Proofs.YtegkhkcnoahhdaaGreat
