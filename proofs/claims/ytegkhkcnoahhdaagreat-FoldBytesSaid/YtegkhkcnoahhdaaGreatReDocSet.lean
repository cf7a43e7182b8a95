/- A function returns what the plain functions say: ReLess. -/
import Derived.Test.YtegkhkcnoahhdaaGreatReMayOp
import Derived.Test.YtegkhkcnoahhdaaGreatWAppend
set_option linter.unusedSimpArgs false
set_option linter.unusedVariables false
namespace Go.Proofs.YtegkhkcnoahhdaaGreat
open Lib (hid)
open Go.RowKit
set_option maxRecDepth 100000
set_option maxRecDepth 100000 in
set_option maxHeartbeats 4000000 in
theorem rless_any (a b : ByteArray) (w : World) (ha : a.size ≤ 1000000) (hb : b.size ≤ 1000000) :
  Calls Tryz.prog 85 #[.string a, .string b] w fun e w' => e = .returned (.bool (lesB a b)) ∧ Below w.heap.size w w' := by
 go_enter Tryz.func85, Tryz.ntmps85
 go_wp2_with fail
 refine (runes_any a _ ha).mono ?_
 rintro e w1 ⟨vl, va, rfl, hl, hq, hb1⟩
 clear hq
 go_wp2_with fail
 refine (runes_any b _ hb).mono ?_
 rintro e w2 ⟨vm, vc, rfl, hm, hq, hb2⟩
 clear hq
 have hcl : Ru.cnt a.data.toList = (runs a).length := by unfold runs Ru.runs; rw [List.length_map]; rfl
 have hcm : Ru.cnt b.data.toList = (runs b).length := by unfold runs Ru.runs; rw [List.length_map]; rfl
 have hll := Ru.rns_len a.data.toList
 have hml := Ru.rns_len b.data.toList
 rw [Array.length_toList] at hll hml
 have hl1 : (runs a).length ≤ 1000000 := by rw [← hcl]; exact Nat.le_trans hll ha
 have hm1 : (runs b).length ≤ 1000000 := by rw [← hcm]; exact Nat.le_trans hml hb
 rw [hcl] at hl
 rw [hcm] at hm
 obtain ⟨A, c, rfl, hA⟩ := own_read hl
 obtain ⟨M, d, rfl, hM⟩ := own_read hm
 have hval : ∀ k (h : k < (runs a).length), (runeVals (Ru.rns a.data.toList))[k]? = some (.int .i32 ((runs a)[k] : Nat)) := fun k h => runeVals_runs _ k h
 have hvbl : ∀ k (h : k < (runs b).length), (runeVals (Ru.rns b.data.toList))[k]? = some (.int .i32 ((runs b)[k] : Nat)) := fun k h => runeVals_runs _ k h
 have hles : lesB a b = Ru.cmpR (runs a) (runs b) (Op.bytesLess a.toList b.toList) := by rw [ByteArray.toList_eq, ByteArray.toList_eq]; rfl
 have HL := hid hles; clear hles
 clear hl hm hcl hcm hll hml
 have hbw := hb1.trans (hb2.mono hb1.size)
 generalize runs a = P at *
 generalize runs b = Q at *
 have HV := hid hval; clear hval
 have HW := hid hvbl; clear hvbl
 have HA := hid hA; clear hA
 have HM := hid hM; clear hM
 have h12 := hb2.size
 go_wp2
 go_loopw [11] (fun v wr => ∃ k : Nat, v = .int .i64 k ∧ k ≤ P.length ∧ k ≤ Q.length ∧ Below w2.heap.size w2 wr ∧ Ru.cmpR (P.drop k) (Q.drop k) (Op.bytesLess a.toList b.toList) = lesB a b) (fun v _ => P.length - (intOf v).toNat)
 case atStart => exact ⟨0, rfl, Nat.zero_le _, Nat.zero_le _, Below.refl _ _, HL.out.symm⟩
 case round =>
  obtain ⟨k, rfl, hkp, hkq, hwr, hcm⟩ := hrel
  have HC := hid hcm; clear hcm
  by_cases h1 : k < P.length
  ·by_cases h2 : k < Q.length
   ·obtain ⟨g, rfl, hg, hcell⟩ := HA.out (by omega)
    obtain ⟨g', rfl, hg', hcell'⟩ := HM.out (by omega)
    have hc1 := hcell k _ (HV.out k h1)
    have hc2 := hcell' k _ (HW.out k h2)
    have c1 := (hwr.cell (p := ⟨g, k, none⟩) (by show g < _; omega)).trans ((hb2.cell (p := ⟨g, k, none⟩) hg).trans hc1)
    have c2 := (hwr.cell (p := ⟨g', k, none⟩) hg').trans hc2
    clear hcell hcell' hc1 hc2 HA HM
    have hcd := cmp_drop P Q (Op.bytesLess a.toList b.toList) k h1 h2
    have HD := hid hcd; clear hcd
    clear HV HW
    generalize hx : P[k] = x at *
    generalize hy : Q[k] = y at *
    have HX := hid hx; clear hx
    have HY := hid hy; clear hy
    by_cases he : x = y
    ·have hne := neq_not he
     have HE := hid he; clear he
     go_wp2_with fail
     go_quiet (fail)
     go_wp2
     go_roundw
     case rel =>
      refine ⟨k + 1, by go_num, by omega, by omega, below_drewN hwr _, ?_⟩
      rw [← HC.out, HD.out, if_pos HE.out]
     case measure => simp [intOf]; omega
    ·have hne := neq_of he
     have HE := hid he; clear he
     go_wp2_with fail
     go_quiet (fail)
     go_wp2_with fail
     go_quiet (fail)
     go_wp2
     go_ret
     refine ⟨ret_bool ?_, hbw.trans ((below_drewN (below_drewN hwr _) _).mono hbw.size)⟩
     rw [← HC.out, HD.out, if_neg HE.out]
   ·go_wp2
    go_ret
    refine ⟨ret_bool ?_, hbw.trans (hwr.mono hbw.size)⟩
    rw [← HC.out, List.drop_of_length_le (show Q.length ≤ k by omega), cmp_end _ _ (by intro e; have := congrArg List.length e; simp at this; omega)]
    simp; omega
  ·by_cases h2 : k < Q.length
   ·go_wp2
    go_ret
    refine ⟨ret_bool ?_, hbw.trans (hwr.mono hbw.size)⟩
    rw [← HC.out, List.drop_of_length_le (show P.length ≤ k by omega), cmp_nil _ _ (by intro e; have := congrArg List.length e; simp at this; omega)]
    simp; omega
   ·have hpq : P.length = Q.length := by omega
    have hnn := neq_not hpq
    have HPQ := hid hpq; clear hpq
    go_wp2
    go_ret
    refine ⟨ret_bool ?_, hbw.trans (hwr.mono hbw.size)⟩
    rw [← HC.out, List.drop_of_length_le (show P.length ≤ k by omega), List.drop_of_length_le (show Q.length ≤ k by omega)]; rfl
theorem rless_is (a b : ByteArray) (w : World) (v : Bool) (ha : a.size ≤ 1000000) (hb : b.size ≤ 1000000) (h : lesB a b = v) : Calls Tryz.prog 85 #[.string a, .string b] w fun e w' => e = .returned (.bool v) ∧ Below w.heap.size w w' := by
 rw [← h]; exact rless_any a b w ha hb
end Go.Proofs.YtegkhkcnoahhdaaGreat
/-
The reference's far says whether a number lies beyond two to the sixty-second.
-/
namespace Go.Proofs.YtegkhkcnoahhdaaGreat
open Go.RowKit
set_option maxRecDepth 100000
def farB (n : Int) : Bool := decide (n < -4611686018427387904) || decide (4611686018427387904 < n)
theorem rfar_any (n : Int) (w : World) : Calls Tryz.prog 56 #[.int .i64 n] w (Bl (farB n) w) := by
 by_cases h1 : n < -4611686018427387904
 ·go_enter Tryz.func56, Tryz.ntmps56
  go_wp2
  go_ret
  exact ⟨ret_bool (by unfold farB; rw [decide_eq_true h1]; rfl), Below.refl _ _⟩
 ·by_cases h2 : 4611686018427387904 < n
  ·go_enter Tryz.func56, Tryz.ntmps56
   go_wp2
   go_ret
   exact ⟨ret_bool (by unfold farB; rw [decide_eq_true (p := 4611686018427387904 < n) (by omega)]; simp), Below.refl _ _⟩
  ·go_enter Tryz.func56, Tryz.ntmps56
   go_wp2
   go_ret
   exact ⟨ret_bool (by unfold farB; rw [decide_eq_false (by omega), decide_eq_false (by omega)]; rfl), Below.refl _ _⟩
theorem rfar_is (n : Int) (b : Bool) (w : World) (h : farB n = b) : Calls Tryz.prog 56 #[.int .i64 n] w (Bl b w) := by
 rw [← h]; exact rfar_any n w
end Go.Proofs.YtegkhkcnoahhdaaGreat
/-
The reference's mayOps says which lists of operations may be.
-/
namespace Go.Proofs.YtegkhkcnoahhdaaGreat
open Lib (hid)
open Go.RowKit
set_option maxRecDepth 100000
def Opn.cs (o : Opn) : List Value := [.int .i64 o.kind, .string o.key, .int .i64 o.val.kind, .int .i64 o.val.n, .string o.val.s, .int .i64 o.old.kind, .int .i64 o.old.n, .string o.old.s, .int .i64 o.n]
def Ops (w : World) (B : Nat) (v : Value) (l : List Opn) : Prop :=
 ∃ A c, v = .slice A l.length c ∧ l.length ≤ c ∧ (0 < l.length → ∃ g o, A = some ⟨g, o, Option.none⟩ ∧ g < B ∧ ∀ k (h : k < l.length), w.rangeAt g (o + k * 9) l[k].cs)
theorem Tryz.infoOp : (Tryz.prog.info? 64).map (·.size) = some 9 := by kernel_rfl
def Opn.small (o : Opn) : Prop := o.key.size ≤ 1000000 ∧ o.val.s.size ≤ 1000000 ∧ o.old.s.size ≤ 1000000
theorem rmayOp_is (v : Value) (o : Opn) (b : Bool) (w : World) (hv : v = .agg o.cs.toArray) (hs : o.small) (h : mayO o = b) : Calls Tryz.prog 53 #[v] w (Bl b w) := by
 rw [hv, ← h]; exact rmayOp_any o w hs.1 hs.2.1 hs.2.2
theorem range_below {w w' : World} {C g o : Nat} {cs : List Value} (h : w.rangeAt g o cs) (hb : Below C w w') (hg : g < C) : w'.rangeAt g o cs := fun j v hv => (hb.cell (p := ⟨g, o + j, Option.none⟩) hg).trans (h j v hv)
def mayOs (l : List Opn) : Bool := decide (1 ≤ l.length) && decide (l.length ≤ 8) && l.all mayO
set_option maxRecDepth 100000 in
set_option maxHeartbeats 1000000 in
theorem rmayOps_any (B : Nat) (v : Value) (l : List Opn) (w : World) (h : Ops w B v l) (hB : B ≤ w.heap.size) (hsm : ∀ x ∈ l, x.small) : Calls Tryz.prog 51 #[v] w (Bl (mayOs l) w) := by
 obtain ⟨A, c, rfl, hc, hcell⟩ := h
 by_cases h1 : l.length < 1
 ·go_enter Tryz.func51, Tryz.ntmps51
  go_wp2
  go_ret
  exact ⟨ret_bool (by unfold mayOs; rw [decide_eq_false (by omega)]; rfl), Below.refl _ _⟩
 ·by_cases h8 : 8 < l.length
  ·go_enter Tryz.func51, Tryz.ntmps51
   go_wp2
   go_ret
   exact ⟨ret_bool (by unfold mayOs; rw [decide_eq_false (p := l.length ≤ 8) (by omega)]; simp), Below.refl _ _⟩
  ·obtain ⟨g, o, rfl, hg, hcs⟩ := hcell (by omega)
   have HC := hid hcs; clear hcs hcell
   go_enter Tryz.func51, Tryz.ntmps51
   go_wp2
   go_loopw [3] (fun i wr => ∃ k : Nat, i = .int .i64 k ∧ k ≤ l.length ∧ Below w.heap.size w wr ∧ (l.take k).all mayO = true) (fun i _ => l.length - (intOf i).toNat)
   case atStart => exact ⟨0, rfl, by omega, Below.refl _ _, by simp⟩
   case round =>
    obtain ⟨k, rfl, hk, hbw, hall⟩ := hrel
    by_cases hkl : k < l.length
    ·obtain ⟨x, hx⟩ : ∃ x, l[k] = x := ⟨_, rfl⟩
     have hr := HC.out k hkl
     rw [hx] at hr
     have hr2 := range_below hr hbw (Nat.lt_of_lt_of_le hg hB)
     have hxs := hsm l[k] (List.getElem_mem ..)
     have htk : l.take (k + 1) = l.take k ++ [x] := by rw [List.take_add_one, List.getElem?_eq_getElem hkl, hx]; rfl
     rw [hx] at hxs
     obtain ⟨b, hb⟩ : ∃ b, mayO x = b := ⟨_, rfl⟩
     have HT := hid htk; clear htk hr
     go_wp2_with (refine wpList_load_mid rfl 64 _ rfl g (o + k * 9) rfl x.cs _ hr2 Tryz.underlying64 rfl Tryz.infoOp ?_)
     refine (rmayOp_is _ x b _ rfl hxs hb).mono ?_
     rintro e w1 ⟨rfl, hb1⟩
     have hbw1 := hbw.trans (hb1.mono hbw.size)
     clear hr2 hb1
     cases b
     ·have hf : mayOs l = false := by
       unfold mayOs
       rw [show l.all mayO = false from ?_, Bool.and_false]
       rw [List.all_eq_false]
       exact ⟨x, by rw [← hx]; exact List.getElem_mem .., by rw [hb]; simp⟩
      have HF := hid hf; clear hf hx hb
      go_wp2
      go_ret
      exact ⟨ret_bool HF.out.symm, hbw1⟩
     ·clear hx
      have HB := hid hb; clear hb
      go_wp2
      go_roundw
      case rel => exact ⟨k + 1, by go_num, by omega, hbw1, by rw [HT.out, List.all_append, hall]; simp [HB.out]⟩
      case measure => simp [intOf]; omega
    ·have hfin : mayOs l = true := by
      unfold mayOs
      rw [List.take_of_length_le (by omega)] at hall
      rw [hall, decide_eq_true (by omega), decide_eq_true (by omega)]; rfl
     have HF := hid hfin; clear hfin hall
     go_wp2
     go_ret
     exact ⟨ret_bool HF.out.symm, hbw⟩
end Go.Proofs.YtegkhkcnoahhdaaGreat
/-
The reference's documents: a document lies in memory as its pairs in order; its Get finds a key's value.
-/
namespace Go.Proofs.YtegkhkcnoahhdaaGreat
open Lib (hid)
open Go.RowKit
set_option maxRecDepth 100000
structure Par where
 k : ByteArray
 v : Raw
def Par.cs (p : Par) : List Value := [.string p.k, .int .i64 p.v.kind, .int .i64 p.v.n, .string p.v.s]
def Prs (w : World) (B : Nat) (v : Value) (l : List Par) : Prop :=
 ∃ A c, v = .slice A l.length c ∧ l.length ≤ c ∧ (0 < l.length → ∃ g o, A = some ⟨g, o, Option.none⟩ ∧ g < B ∧ ∀ k (h : k < l.length), w.rangeAt g (o + k * 4) l[k].cs)
def DocV (w : World) (B : Nat) (v : Value) (l : List Par) : Prop := ∃ s, v = .agg #[s] ∧ Prs w B s l
def dGet (l : List Par) (key : ByteArray) : Raw × Bool := match l.find? (fun p => p.k.data.toList == key.data.toList) with
 | some p => (p.v, true)
 | none => (⟨0, 0, ⟨#[]⟩⟩, false)
def GotD (x : Raw × Bool) (w : World) (e : Ending) (w' : World) : Prop := e = .returned (.tuple #[x.1.val, .bool x.2]) ∧ Below w.heap.size w w'
set_option maxRecDepth 100000 in
set_option maxHeartbeats 2000000 in
theorem rdocGet_any (B : Nat) (v : Value) (l : List Par) (key : ByteArray) (w : World) (h : DocV w B v l) (hB : B ≤ w.heap.size) (hl : l.length ≤ 1000000) : Calls Tryz.prog 54 #[v, .string key] w (GotD (dGet l key) w) := by
 obtain ⟨s, rfl, A, c, rfl, hc, hcell⟩ := h
 have HC := hid hcell; clear hcell
 obtain ⟨W0, hW0⟩ : ∃ W0, (w.alloc (Obj.cells #[Value.slice A l.length c] 29)).alloc (Obj.cells #[Value.int IntKind.i64 0, Value.int IntKind.i64 0, Value.string ⟨#[]⟩] 62) = W0 := ⟨_, rfl⟩
 have hb0 : Below w.heap.size w W0 := by rw [← hW0]; exact below_two w _ _
 have hs1 : w.heap.size + 1 = (w.alloc (Obj.cells #[Value.slice A l.length c] 29)).heap.size := by simp
 have p0 : W0.cell? ⟨w.heap.size, 0, none⟩ = some (.slice A l.length c) := by
  rw [← hW0, (below_new (w.alloc _) _).cell (p := ⟨w.heap.size, 0, none⟩) (by simp), World.cell?_alloc_mark]; rfl
 have z : ∀ j v, #[Value.int IntKind.i64 0, Value.int IntKind.i64 0, Value.string ⟨#[]⟩][j]? = some v → W0.cell? ⟨w.heap.size + 1, j, none⟩ = some v := fun j v h => by
  rw [hs1, ← hW0, World.cell?_alloc_mark]; exact h
 have r0 : W0.cell? ⟨w.heap.size + 1, 0, none⟩ = some (.int .i64 0) := z 0 _ rfl
 have r1 : W0.cell? ⟨w.heap.size + 1, 1, none⟩ = some (.int .i64 0) := z 1 _ rfl
 have r2 : W0.cell? ⟨w.heap.size + 1, 2, none⟩ = some (.string ⟨#[]⟩) := z 2 _ rfl
 have f : ∀ j, W0.frozen? ⟨w.heap.size + 1, j, none⟩ = false := fun j => by rw [hs1, ← hW0]; exact World.frozen?_alloc_at _ _ _ j rfl
 have f0 := f 0
 have f1 := f 1
 have f2 := f 2
 clear f z hs1
 go_enter Tryz.func54, Tryz.ntmps54
 go_wp2
 have HW0 := hid hW0; clear hW0
 go_loop [6] (fun i => ∃ k : Nat, i = .int .i64 k ∧ k ≤ l.length ∧ dGet (l.drop k) key = dGet l key) (fun i => l.length - (intOf i).toNat)
 case atStart => exact ⟨0, rfl, by omega, rfl⟩
 case round =>
  obtain ⟨k, rfl, hk, hg⟩ := hrel
  have HG := hid hg; clear hg
  by_cases hkl : k < l.length
  ·obtain ⟨g, o, rfl, hgB, hcs⟩ := HC.out (by omega)
   obtain ⟨x, hx⟩ : ∃ x, l[k] = x := ⟨_, rfl⟩
   have hr := range_below (hcs k hkl) hb0 (Nat.lt_of_lt_of_le hgB hB)
   rw [hx] at hr
   have hd : dGet (l.drop k) key = if x.k.data.toList == key.data.toList then (x.v, true) else dGet (l.drop (k + 1)) key := by
    rw [List.drop_eq_getElem_cons hkl, hx]
    unfold dGet
    rw [List.find?_cons]
    cases h : (x.k.data.toList == key.data.toList) <;> simp
   obtain ⟨xy, ⟨vk, vn, vs⟩⟩ := x
   have a0 : W0.cell? ⟨g, o + k * 4, none⟩ = some (.string xy) := hr 0 _ rfl
   have a1 : W0.cell? ⟨g, o + k * 4 + 1, none⟩ = some (.int .i64 vk) := hr 1 _ rfl
   have a2 : W0.cell? ⟨g, o + k * 4 + 2, none⟩ = some (.int .i64 vn) := hr 2 _ rfl
   have a3 : W0.cell? ⟨g, o + k * 4 + 3, none⟩ = some (.string vs) := hr 3 _ rfl
   have HD := hid hd
   clear hr hcs HC hd hx
   by_cases he : xy.data.toList = key.data.toList
   ·have hb : (xy.data.toList == key.data.toList) = true := by rw [he]; simp
    have e1 : (xy.toList == key.toList) = true := by rw [ByteArray.toList_eq, ByteArray.toList_eq, he]; simp
    have hv : dGet l key = (⟨vk, vn, vs⟩, true) := by rw [← HG.out, HD.out]; simp only [hb, if_true]
    have HV := hid hv; clear hv he hb
    go_wp2
    refine bodyPost_ret (v := .tuple #[.agg #[.int .i64 vk, .int .i64 vn, .string vs], .bool true]) ?_ rfl ⟨by rw [HV.out]; rfl, ?_⟩
    ·simp [results, Tryz.results54, go_sem, r0, r1, r2]
    ·exact ((hb0.setCell (p := ⟨w.heap.size + 1, 0, none⟩) (Nat.le_succ _) _).setCell (p := ⟨w.heap.size + 1, 1, none⟩) (Nat.le_succ _) _).setCell (p := ⟨w.heap.size + 1, 2, none⟩) (Nat.le_succ _) _
   ·have hb : (xy.data.toList == key.data.toList) = false := by rw [beq_eq_false_iff_ne]; exact he
    have e1 : (xy.toList == key.toList) = false := by rw [ByteArray.toList_eq, ByteArray.toList_eq, beq_eq_false_iff_ne]; exact he
    have hv : dGet (l.drop (k + 1)) key = dGet l key := by rw [← HG.out, HD.out]; simp only [hb, Bool.false_eq_true, if_false]
    have HV := hid hv; clear hv he hb
    go_wp2
    go_round
    case rel => exact ⟨k + 1, by go_num, by omega, HV.out⟩
    case measure => simp [intOf]; omega
  ·have hv : dGet l key = (⟨0, 0, ⟨#[]⟩⟩, false) := by rw [← HG.out, List.drop_of_length_le (by omega)]; rfl
   have HV := hid hv; clear hv
   go_wp2
   refine bodyPost_ret (v := .tuple #[.agg #[.int .i64 0, .int .i64 0, .string ⟨#[]⟩], .bool false]) ?_ rfl ⟨by rw [HV.out]; rfl, ?_⟩
   ·simp [results, Tryz.results54, go_sem, r0, r1, r2]
   ·exact ((hb0.setCell (p := ⟨w.heap.size + 1, 0, none⟩) (Nat.le_succ _) _).setCell (p := ⟨w.heap.size + 1, 1, none⟩) (Nat.le_succ _) _).setCell (p := ⟨w.heap.size + 1, 2, none⟩) (Nat.le_succ _) _
end Go.Proofs.YtegkhkcnoahhdaaGreat
/-
The reference's set makes a document with a key's value in its place, or without the key, in new memory.
-/
namespace Go.Proofs.YtegkhkcnoahhdaaGreat
open Lib (hid)
open Go.RowKit
set_option maxRecDepth 100000
def OwnP (B : Nat) (v : Value) (l : List Par) (w : World) : Prop := w.ownsRow B 112 4 v l.length (l.flatMap Par.cs)
theorem Tryz.infoPair3 : (Tryz.prog.info? 112).map (fun i => (i.zero, i.size, i.bytes)) = some (some (.agg #[.string ⟨#[]⟩, .int .i64 0, .int .i64 0, .string ⟨#[]⟩]), 4, 48) := by kernel_rfl
theorem par_cells (l : List Par) (x : Par) : l.flatMap Par.cs ++ x.cs = (l ++ [x]).flatMap Par.cs := by simp
theorem par_one (x : Par) : ∀ u ∈ x.cs, u.oneCell' = true := by
 intro u hu; unfold Par.cs at hu; simp at hu
 rcases hu with rfl | rfl | rfl | rfl <;> rfl
def setGo (key : ByteArray) (x : Raw) : Bool → List Par → List Par
 | b, [] => if b then [] else [⟨key, x⟩]
 | b, p :: t => (if !b && !lesB p.k key then [⟨key, x⟩] else []) ++ (if p.k.data.toList == key.data.toList then [] else [p]) ++ setGo key x (b || !lesB p.k key) t
def dSet (l : List Par) (key : ByteArray) (x : Raw) : List Par := setGo key x (x.kind == 0) l
set_option maxRecDepth 100000 in
set_option maxHeartbeats 4000000 in
theorem rdocSet_any (B : Nat) (v : Value) (l : List Par) (key : ByteArray) (x : Raw) (w : World) (h : DocV w B v l) (hB : B ≤ w.heap.size) (hl : l.length ≤ 1000) (hks : key.size ≤ 1000000) (hps : ∀ p ∈ l, p.k.size ≤ 1000000) :
  Calls Tryz.prog 57 #[v, .string key, x.val] w fun e w' => ∃ u, e = .returned (.agg #[u]) ∧ OwnP w.heap.size u (dSet l key x) w' ∧ Below w.heap.size w w' := by
 obtain ⟨s, rfl, A, c, rfl, hc, hcell⟩ := h
 obtain ⟨xk, xn, xs⟩ := x
 unfold Raw.val
 have HC := hid hcell; clear hcell
 obtain ⟨iP, hiP, hzP0, hzP1, hzP2⟩ := info_parts Tryz.infoPair3
 obtain ⟨W0, hW0⟩ : ∃ W0, ((w.alloc (Obj.cells #[Value.slice A l.length c] 29)).alloc (Obj.cells #[Value.int IntKind.i64 xk, Value.int IntKind.i64 xn, Value.string xs] 62)).alloc (Obj.cells #[Value.slice none 0 0] 29) = W0 := ⟨_, rfl⟩
 have hb0 : Below w.heap.size w W0 := by rw [← hW0]; exact (below_two w _ _).alloc (by simp; omega) _
 have hs1 : w.heap.size + 1 = (w.alloc (Obj.cells #[Value.slice A l.length c] 29)).heap.size := by simp
 have hs2 : w.heap.size + 1 + 1 = ((w.alloc (Obj.cells #[Value.slice A l.length c] 29)).alloc (Obj.cells #[Value.int IntKind.i64 xk, Value.int IntKind.i64 xn, Value.string xs] 62)).heap.size := by simp
 have hlt2 : w.heap.size + 1 + 1 < W0.heap.size := by rw [hs2, ← hW0]; simp
 have hlt1 : w.heap.size + 1 < W0.heap.size := by omega
 have hlt0 : w.heap.size < W0.heap.size := by omega
 have p0 : W0.cell? ⟨w.heap.size, 0, none⟩ = some (.slice A l.length c) := by
  rw [← hW0, (below_new ((w.alloc _).alloc _) _).cell (p := ⟨w.heap.size, 0, none⟩) (by simp; omega), (below_new (w.alloc _) _).cell (p := ⟨w.heap.size, 0, none⟩) (by simp), World.cell?_alloc_mark]; rfl
 have z : ∀ j v, #[Value.int IntKind.i64 xk, Value.int IntKind.i64 xn, Value.string xs][j]? = some v → W0.cell? ⟨w.heap.size + 1, j, none⟩ = some v := fun j v h => by
  rw [← hW0, (below_new ((w.alloc _).alloc _) _).cell (p := ⟨w.heap.size + 1, j, none⟩) (by simp), hs1, World.cell?_alloc_mark]; exact h
 have y0 : W0.cell? ⟨w.heap.size + 1, 0, none⟩ = some (.int .i64 xk) := z 0 _ rfl
 have y1 : W0.cell? ⟨w.heap.size + 1, 1, none⟩ = some (.int .i64 xn) := z 1 _ rfl
 have y2 : W0.cell? ⟨w.heap.size + 1, 2, none⟩ = some (.string xs) := z 2 _ rfl
 have r0 : W0.cell? ⟨w.heap.size + 1 + 1, 0, none⟩ = some (.slice none 0 0) := by rw [hs2, ← hW0, World.cell?_alloc_mark]; rfl
 have f0 : W0.frozen? ⟨w.heap.size + 1 + 1, 0, none⟩ = false := by rw [hs2, ← hW0]; exact World.frozen?_alloc_at _ _ _ 0 rfl
 clear z hs1 hs2
 go_enter Tryz.func57, Tryz.ntmps57
 go_wp2
 have HW0 := hid hW0; clear hW0
 go_loopw [7, 8, 9] (fun lv bv i wr => ∃ (k : Nat) (b : Bool) (m : List Par), bv = .bool b ∧ i = .int .i64 k ∧ k ≤ l.length ∧ OwnP W0.heap.size lv m wr ∧ Below W0.heap.size W0 wr ∧ m ++ setGo key ⟨xk, xn, xs⟩ b (l.drop k) = dSet l key ⟨xk, xn, xs⟩ ∧ m.length ≤ 2 * k) (fun _ _ i _ => l.length - (intOf i).toNat)
 case atStart => exact ⟨0, xk == 0, [], rfl, rfl, by omega, World.ownsRow_nil _ _ _ _, Below.refl _ _, rfl, by simp⟩
 case round =>
  obtain ⟨k, b, m, rfl, rfl, hk, hown, hbw, hg0s, hml⟩ := hrel
  have HG := hid hg0s; clear hg0s
  by_cases hkl : k < l.length
  ·obtain ⟨g, o, rfl, hgB, hcs⟩ := HC.out (by omega)
   obtain ⟨x, hx⟩ : ∃ x, l[k] = x := ⟨_, rfl⟩
   have rg := range_below (hcs k hkl) hb0 (Nat.lt_of_lt_of_le hgB hB)
   have hpx := hps l[k] (List.getElem_mem ..)
   rw [hx] at rg hpx
   have hg0 : g < W0.heap.size := by omega
   have hstep : setGo key ⟨xk, xn, xs⟩ b (l.drop k) = (if !b && !lesB x.k key then [⟨key, ⟨xk, xn, xs⟩⟩] else []) ++ (if x.k.data.toList == key.data.toList then [] else [x]) ++ setGo key ⟨xk, xn, xs⟩ (b || !lesB x.k key) (l.drop (k + 1)) := by
    rw [List.drop_eq_getElem_cons hkl, hx]; rfl
   obtain ⟨py, ⟨pk, pn, ps⟩⟩ := x
   simp only at hpx hstep
   have HSTEP := hid hstep
   have a0 : W0.cell? ⟨g, o + k * 4, none⟩ = some (.string py) := rg 0 _ rfl
   have a1 : W0.cell? ⟨g, o + k * 4 + 1, none⟩ = some (.int .i64 pk) := rg 1 _ rfl
   have a2 : W0.cell? ⟨g, o + k * 4 + 2, none⟩ = some (.int .i64 pn) := rg 2 _ rfl
   have a3 : W0.cell? ⟨g, o + k * 4 + 3, none⟩ = some (.string ps) := rg 3 _ rfl
   clear hcs hx hstep HC rg
   cases b
   ·obtain ⟨ls, hls⟩ : ∃ ls, lesB py key = ls := ⟨_, rfl⟩
    have HL := hid hls; clear hls
    have p0x : wr.cell? ⟨w.heap.size, 0, none⟩ = some (.slice (some ⟨g, o, none⟩) l.length c) := (hbw.cell (p := ⟨w.heap.size, 0, none⟩) hlt0).trans p0
    have a0x : wr.cell? ⟨g, o + k * 4, none⟩ = some (.string py) := (hbw.cell (p := ⟨g, o + k * 4, none⟩) hg0).trans a0
    have a1x : wr.cell? ⟨g, o + k * 4 + 1, none⟩ = some (.int .i64 pk) := (hbw.cell (p := ⟨g, o + k * 4 + 1, none⟩) hg0).trans a1
    have a2x : wr.cell? ⟨g, o + k * 4 + 2, none⟩ = some (.int .i64 pn) := (hbw.cell (p := ⟨g, o + k * 4 + 2, none⟩) hg0).trans a2
    have a3x : wr.cell? ⟨g, o + k * 4 + 3, none⟩ = some (.string ps) := (hbw.cell (p := ⟨g, o + k * 4 + 3, none⟩) hg0).trans a3
    have y0x : wr.cell? ⟨w.heap.size + 1, 0, none⟩ = some (.int .i64 xk) := (hbw.cell (p := ⟨w.heap.size + 1, 0, none⟩) hlt1).trans y0
    have y1x : wr.cell? ⟨w.heap.size + 1, 1, none⟩ = some (.int .i64 xn) := (hbw.cell (p := ⟨w.heap.size + 1, 1, none⟩) hlt1).trans y1
    have y2x : wr.cell? ⟨w.heap.size + 1, 2, none⟩ = some (.string xs) := (hbw.cell (p := ⟨w.heap.size + 1, 2, none⟩) hlt1).trans y2
    go_wp2_with fail
    refine (rless_is py key _ ls hpx hks HL.out).mono ?_
    rintro e wa ⟨rfl, hba⟩
    have hbwa := hbw.trans (hba.mono hbw.size)
    have howna : OwnP W0.heap.size u7 m wa := ownsRow_below hown hba
    clear hown hba
    clear p0x a0x a1x a2x a3x y0x y1x y2x
    have p0a : wa.cell? ⟨w.heap.size, 0, none⟩ = some (.slice (some ⟨g, o, none⟩) l.length c) := (hbwa.cell (p := ⟨w.heap.size, 0, none⟩) hlt0).trans p0
    have a0a : wa.cell? ⟨g, o + k * 4, none⟩ = some (.string py) := (hbwa.cell (p := ⟨g, o + k * 4, none⟩) hg0).trans a0
    have a1a : wa.cell? ⟨g, o + k * 4 + 1, none⟩ = some (.int .i64 pk) := (hbwa.cell (p := ⟨g, o + k * 4 + 1, none⟩) hg0).trans a1
    have a2a : wa.cell? ⟨g, o + k * 4 + 2, none⟩ = some (.int .i64 pn) := (hbwa.cell (p := ⟨g, o + k * 4 + 2, none⟩) hg0).trans a2
    have a3a : wa.cell? ⟨g, o + k * 4 + 3, none⟩ = some (.string ps) := (hbwa.cell (p := ⟨g, o + k * 4 + 3, none⟩) hg0).trans a3
    have y0a : wa.cell? ⟨w.heap.size + 1, 0, none⟩ = some (.int .i64 xk) := (hbwa.cell (p := ⟨w.heap.size + 1, 0, none⟩) hlt1).trans y0
    have y1a : wa.cell? ⟨w.heap.size + 1, 1, none⟩ = some (.int .i64 xn) := (hbwa.cell (p := ⟨w.heap.size + 1, 1, none⟩) hlt1).trans y1
    have y2a : wa.cell? ⟨w.heap.size + 1, 2, none⟩ = some (.string xs) := (hbwa.cell (p := ⟨w.heap.size + 1, 2, none⟩) hlt1).trans y2
    cases ls
    ·skip
     have hBi : W0.heap.size ≤ (wa.alloc (Obj.cells #[.string key, .int .i64 xk, .int .i64 xn, .string xs] 112)).heap.size := by have := hbwa.size; simp; omega
     go_wp2_with (at_builtin; refine wpList_append_own_at _ rfl _ _ 27 rfl W0.heap.size 112 iP _ 4 48 Tryz.underlying27 hiP hzP0 hzP1 hzP2 rfl (by decide) _ _ _ rfl (howna.alloc _) ⟨wa.heap.size, 0, none⟩ 1 1 [.string key, .int .i64 xk, .int .i64 xn, .string xs] rfl rfl ?c1_1 ?c2_1 ?c3_1 ?c4_1 hBi ?_)
     case c1_1 =>
      intro j u hj
      rw [Addr.add_mid, Nat.zero_add, World.cell?_alloc_mark]
      simpa using hj
     case c2_1 => exact par_one ⟨key, ⟨xk, xn, xs⟩⟩
     case c3_1 => unfold maxLen; first | omega | (simp only [List.length_append, List.length_cons, List.length_nil]; omega)
     case c4_1 => first | omega | (simp only [List.length_append, List.length_cons, List.length_nil]; omega)
     intro vi wi hownxi hgxi _ _
     have hbi : Below W0.heap.size W0 wi := (hbwa.alloc hbwa.size (Obj.cells #[.string key, .int .i64 xk, .int .i64 xn, .string xs] 112)).grown hgxi hBi (fun z hz => (World.ownsRow.lt howna z hz).1)
     have howni : OwnP W0.heap.size vi (m ++ [⟨key, ⟨xk, xn, xs⟩⟩]) wi := by
      unfold OwnP
      first | (rw [← par_cells, List.length_append]; exact hownxi) | simpa [Par.cs] using hownxi
     clear hgxi hBi hownxi
     clear p0a a0a a1a a2a a3a y0a y1a y2a
     have p0b : wi.cell? ⟨w.heap.size, 0, none⟩ = some (.slice (some ⟨g, o, none⟩) l.length c) := (hbi.cell (p := ⟨w.heap.size, 0, none⟩) hlt0).trans p0
     have a0b : wi.cell? ⟨g, o + k * 4, none⟩ = some (.string py) := (hbi.cell (p := ⟨g, o + k * 4, none⟩) hg0).trans a0
     have a1b : wi.cell? ⟨g, o + k * 4 + 1, none⟩ = some (.int .i64 pk) := (hbi.cell (p := ⟨g, o + k * 4 + 1, none⟩) hg0).trans a1
     have a2b : wi.cell? ⟨g, o + k * 4 + 2, none⟩ = some (.int .i64 pn) := (hbi.cell (p := ⟨g, o + k * 4 + 2, none⟩) hg0).trans a2
     have a3b : wi.cell? ⟨g, o + k * 4 + 3, none⟩ = some (.string ps) := (hbi.cell (p := ⟨g, o + k * 4 + 3, none⟩) hg0).trans a3
     have y0b : wi.cell? ⟨w.heap.size + 1, 0, none⟩ = some (.int .i64 xk) := (hbi.cell (p := ⟨w.heap.size + 1, 0, none⟩) hlt1).trans y0
     have y1b : wi.cell? ⟨w.heap.size + 1, 1, none⟩ = some (.int .i64 xn) := (hbi.cell (p := ⟨w.heap.size + 1, 1, none⟩) hlt1).trans y1
     have y2b : wi.cell? ⟨w.heap.size + 1, 2, none⟩ = some (.string xs) := (hbi.cell (p := ⟨w.heap.size + 1, 2, none⟩) hlt1).trans y2
     by_cases hke : py.data.toList = key.data.toList
     ·have hk1 : (py.data.toList == key.data.toList) = true := by rw [hke]; simp
      have hk2 : (py.toList == key.toList) = true := by rw [ByteArray.toList_eq, ByteArray.toList_eq, hke]; simp
      have HK := hid hk1; clear hk1 hke
      go_wp2
      go_roundw
      case rel =>
       refine ⟨k + 1, true, (m ++ [⟨key, ⟨xk, xn, xs⟩⟩]), rfl, by go_num, by omega, howni, hbi, ?_, by first | omega | (simp only [List.length_append, List.length_cons, List.length_nil]; omega)⟩
       rw [← HG.out, HSTEP.out]; rw [HL.out]; simp [HK.out]
      case measure => simp [intOf]; omega
     ·have hk1 : (py.data.toList == key.data.toList) = false := by rw [beq_eq_false_iff_ne]; exact hke
      have hk2 : (py.toList == key.toList) = false := by rw [ByteArray.toList_eq, ByteArray.toList_eq, beq_eq_false_iff_ne]; exact hke
      have HK := hid hk1; clear hk1 hke
      have hBbt : W0.heap.size ≤ (wi.alloc (Obj.cells #[.string py, .int .i64 pk, .int .i64 pn, .string ps] 112)).heap.size := by have := hbi.size; simp; omega
      go_wp2_with (at_builtin; refine wpList_append_own_at _ rfl _ _ 27 rfl W0.heap.size 112 iP _ 4 48 Tryz.underlying27 hiP hzP0 hzP1 hzP2 rfl (by decide) _ _ _ rfl (howni.alloc _) ⟨wi.heap.size, 0, none⟩ 1 1 [.string py, .int .i64 pk, .int .i64 pn, .string ps] rfl rfl ?c1_2 ?c2_2 ?c3_2 ?c4_2 hBbt ?_)
      case c1_2 =>
       intro j u hj
       rw [Addr.add_mid, Nat.zero_add, World.cell?_alloc_mark]
       simpa using hj
      case c2_2 => exact par_one ⟨py, ⟨pk, pn, ps⟩⟩
      case c3_2 => unfold maxLen; first | omega | (simp only [List.length_append, List.length_cons, List.length_nil]; omega)
      case c4_2 => first | omega | (simp only [List.length_append, List.length_cons, List.length_nil]; omega)
      intro vbt wbt hownxbt hgxbt _ _
      have hbbt : Below W0.heap.size W0 wbt := (hbi.alloc hbi.size (Obj.cells #[.string py, .int .i64 pk, .int .i64 pn, .string ps] 112)).grown hgxbt hBbt (fun z hz => (World.ownsRow.lt howni z hz).1)
      have hownbt : OwnP W0.heap.size vbt ((m ++ [⟨key, ⟨xk, xn, xs⟩⟩]) ++ [⟨py, ⟨pk, pn, ps⟩⟩]) wbt := by
       unfold OwnP
       first | (rw [← par_cells, List.length_append]; exact hownxbt) | simpa [Par.cs] using hownxbt
      clear hgxbt hBbt hownxbt
      clear p0b a0b a1b a2b a3b y0b y1b y2b
      go_wp2
      go_roundw
      case rel =>
       refine ⟨k + 1, true, ((m ++ [⟨key, ⟨xk, xn, xs⟩⟩]) ++ [⟨py, ⟨pk, pn, ps⟩⟩]), rfl, by go_num, by omega, hownbt, hbbt, ?_, by first | omega | (simp only [List.length_append, List.length_cons, List.length_nil]; omega)⟩
       rw [← HG.out, HSTEP.out]; rw [HL.out]; simp [HK.out]
      case measure => simp [intOf]; omega
    ·skip
     by_cases hke : py.data.toList = key.data.toList
     ·have hk1 : (py.data.toList == key.data.toList) = true := by rw [hke]; simp
      have hk2 : (py.toList == key.toList) = true := by rw [ByteArray.toList_eq, ByteArray.toList_eq, hke]; simp
      have HK := hid hk1; clear hk1 hke
      go_wp2
      go_roundw
      case rel =>
       refine ⟨k + 1, false, m, rfl, by go_num, by omega, howna, hbwa, ?_, by first | omega | (simp only [List.length_append, List.length_cons, List.length_nil]; omega)⟩
       rw [← HG.out, HSTEP.out]; rw [HL.out]; simp [HK.out]
      case measure => simp [intOf]; omega
     ·have hk1 : (py.data.toList == key.data.toList) = false := by rw [beq_eq_false_iff_ne]; exact hke
      have hk2 : (py.toList == key.toList) = false := by rw [ByteArray.toList_eq, ByteArray.toList_eq, beq_eq_false_iff_ne]; exact hke
      have HK := hid hk1; clear hk1 hke
      have hBat : W0.heap.size ≤ (wa.alloc (Obj.cells #[.string py, .int .i64 pk, .int .i64 pn, .string ps] 112)).heap.size := by have := hbwa.size; simp; omega
      go_wp2_with (at_builtin; refine wpList_append_own_at _ rfl _ _ 27 rfl W0.heap.size 112 iP _ 4 48 Tryz.underlying27 hiP hzP0 hzP1 hzP2 rfl (by decide) _ _ _ rfl (howna.alloc _) ⟨wa.heap.size, 0, none⟩ 1 1 [.string py, .int .i64 pk, .int .i64 pn, .string ps] rfl rfl ?c1_3 ?c2_3 ?c3_3 ?c4_3 hBat ?_)
      case c1_3 =>
       intro j u hj
       rw [Addr.add_mid, Nat.zero_add, World.cell?_alloc_mark]
       simpa using hj
      case c2_3 => exact par_one ⟨py, ⟨pk, pn, ps⟩⟩
      case c3_3 => unfold maxLen; first | omega | (simp only [List.length_append, List.length_cons, List.length_nil]; omega)
      case c4_3 => first | omega | (simp only [List.length_append, List.length_cons, List.length_nil]; omega)
      intro vat wat hownxat hgxat _ _
      have hbat : Below W0.heap.size W0 wat := (hbwa.alloc hbwa.size (Obj.cells #[.string py, .int .i64 pk, .int .i64 pn, .string ps] 112)).grown hgxat hBat (fun z hz => (World.ownsRow.lt howna z hz).1)
      have hownat : OwnP W0.heap.size vat (m ++ [⟨py, ⟨pk, pn, ps⟩⟩]) wat := by
       unfold OwnP
       first | (rw [← par_cells, List.length_append]; exact hownxat) | simpa [Par.cs] using hownxat
      clear hgxat hBat hownxat
      clear p0a a0a a1a a2a a3a y0a y1a y2a
      go_wp2
      go_roundw
      case rel =>
       refine ⟨k + 1, false, (m ++ [⟨py, ⟨pk, pn, ps⟩⟩]), rfl, by go_num, by omega, hownat, hbat, ?_, by first | omega | (simp only [List.length_append, List.length_cons, List.length_nil]; omega)⟩
       rw [← HG.out, HSTEP.out]; rw [HL.out]; simp [HK.out]
      case measure => simp [intOf]; omega
   ·skip
    have p0x : wr.cell? ⟨w.heap.size, 0, none⟩ = some (.slice (some ⟨g, o, none⟩) l.length c) := (hbw.cell (p := ⟨w.heap.size, 0, none⟩) hlt0).trans p0
    have a0x : wr.cell? ⟨g, o + k * 4, none⟩ = some (.string py) := (hbw.cell (p := ⟨g, o + k * 4, none⟩) hg0).trans a0
    have a1x : wr.cell? ⟨g, o + k * 4 + 1, none⟩ = some (.int .i64 pk) := (hbw.cell (p := ⟨g, o + k * 4 + 1, none⟩) hg0).trans a1
    have a2x : wr.cell? ⟨g, o + k * 4 + 2, none⟩ = some (.int .i64 pn) := (hbw.cell (p := ⟨g, o + k * 4 + 2, none⟩) hg0).trans a2
    have a3x : wr.cell? ⟨g, o + k * 4 + 3, none⟩ = some (.string ps) := (hbw.cell (p := ⟨g, o + k * 4 + 3, none⟩) hg0).trans a3
    have y0x : wr.cell? ⟨w.heap.size + 1, 0, none⟩ = some (.int .i64 xk) := (hbw.cell (p := ⟨w.heap.size + 1, 0, none⟩) hlt1).trans y0
    have y1x : wr.cell? ⟨w.heap.size + 1, 1, none⟩ = some (.int .i64 xn) := (hbw.cell (p := ⟨w.heap.size + 1, 1, none⟩) hlt1).trans y1
    have y2x : wr.cell? ⟨w.heap.size + 1, 2, none⟩ = some (.string xs) := (hbw.cell (p := ⟨w.heap.size + 1, 2, none⟩) hlt1).trans y2
    by_cases hke : py.data.toList = key.data.toList
    ·have hk1 : (py.data.toList == key.data.toList) = true := by rw [hke]; simp
     have hk2 : (py.toList == key.toList) = true := by rw [ByteArray.toList_eq, ByteArray.toList_eq, hke]; simp
     have HK := hid hk1; clear hk1 hke
     go_wp2
     go_roundw
     case rel =>
      refine ⟨k + 1, true, m, rfl, by go_num, by omega, hown, hbw, ?_, by first | omega | (simp only [List.length_append, List.length_cons, List.length_nil]; omega)⟩
      rw [← HG.out, HSTEP.out]; skip; simp [HK.out]
     case measure => simp [intOf]; omega
    ·have hk1 : (py.data.toList == key.data.toList) = false := by rw [beq_eq_false_iff_ne]; exact hke
     have hk2 : (py.toList == key.toList) = false := by rw [ByteArray.toList_eq, ByteArray.toList_eq, beq_eq_false_iff_ne]; exact hke
     have HK := hid hk1; clear hk1 hke
     have hBxt : W0.heap.size ≤ (wr.alloc (Obj.cells #[.string py, .int .i64 pk, .int .i64 pn, .string ps] 112)).heap.size := by have := hbw.size; simp; omega
     go_wp2_with (at_builtin; refine wpList_append_own_at _ rfl _ _ 27 rfl W0.heap.size 112 iP _ 4 48 Tryz.underlying27 hiP hzP0 hzP1 hzP2 rfl (by decide) _ _ _ rfl (hown.alloc _) ⟨wr.heap.size, 0, none⟩ 1 1 [.string py, .int .i64 pk, .int .i64 pn, .string ps] rfl rfl ?c1_4 ?c2_4 ?c3_4 ?c4_4 hBxt ?_)
     case c1_4 =>
      intro j u hj
      rw [Addr.add_mid, Nat.zero_add, World.cell?_alloc_mark]
      simpa using hj
     case c2_4 => exact par_one ⟨py, ⟨pk, pn, ps⟩⟩
     case c3_4 => unfold maxLen; first | omega | (simp only [List.length_append, List.length_cons, List.length_nil]; omega)
     case c4_4 => first | omega | (simp only [List.length_append, List.length_cons, List.length_nil]; omega)
     intro vxt wxt hownxxt hgxxt _ _
     have hbxt : Below W0.heap.size W0 wxt := (hbw.alloc hbw.size (Obj.cells #[.string py, .int .i64 pk, .int .i64 pn, .string ps] 112)).grown hgxxt hBxt (fun z hz => (World.ownsRow.lt hown z hz).1)
     have hownxt : OwnP W0.heap.size vxt (m ++ [⟨py, ⟨pk, pn, ps⟩⟩]) wxt := by
      unfold OwnP
      first | (rw [← par_cells, List.length_append]; exact hownxxt) | simpa [Par.cs] using hownxxt
     clear hgxxt hBxt hownxxt
     clear p0x a0x a1x a2x a3x y0x y1x y2x
     go_wp2
     go_roundw
     case rel =>
      refine ⟨k + 1, true, (m ++ [⟨py, ⟨pk, pn, ps⟩⟩]), rfl, by go_num, by omega, hownxt, hbxt, ?_, by first | omega | (simp only [List.length_append, List.length_cons, List.length_nil]; omega)⟩
      rw [← HG.out, HSTEP.out]; skip; simp [HK.out]
     case measure => simp [intOf]; omega
  ·have hend : setGo key ⟨xk, xn, xs⟩ b (l.drop k) = if b then [] else [⟨key, ⟨xk, xn, xs⟩⟩] := by rw [List.drop_of_length_le (by omega)]; cases b <;> rfl
   have HE := hid hend; clear hend HC
   have p0x : wr.cell? ⟨w.heap.size, 0, none⟩ = some (.slice A l.length c) := (hbw.cell (p := ⟨w.heap.size, 0, none⟩) hlt0).trans p0
   have y0x : wr.cell? ⟨w.heap.size + 1, 0, none⟩ = some (.int .i64 xk) := (hbw.cell (p := ⟨w.heap.size + 1, 0, none⟩) hlt1).trans y0
   have y1x : wr.cell? ⟨w.heap.size + 1, 1, none⟩ = some (.int .i64 xn) := (hbw.cell (p := ⟨w.heap.size + 1, 1, none⟩) hlt1).trans y1
   have y2x : wr.cell? ⟨w.heap.size + 1, 2, none⟩ = some (.string xs) := (hbw.cell (p := ⟨w.heap.size + 1, 2, none⟩) hlt1).trans y2
   cases b
   ·skip
    have hBi : W0.heap.size ≤ (wr.alloc (Obj.cells #[.string key, .int .i64 xk, .int .i64 xn, .string xs] 112)).heap.size := by have := hbw.size; simp; omega
    go_wp2_with (at_builtin; refine wpList_append_own_at _ rfl _ _ 27 rfl W0.heap.size 112 iP _ 4 48 Tryz.underlying27 hiP hzP0 hzP1 hzP2 rfl (by decide) _ _ _ rfl (hown.alloc _) ⟨wr.heap.size, 0, none⟩ 1 1 [.string key, .int .i64 xk, .int .i64 xn, .string xs] rfl rfl ?c1_5 ?c2_5 ?c3_5 ?c4_5 hBi ?_)
    case c1_5 =>
     intro j u hj
     rw [Addr.add_mid, Nat.zero_add, World.cell?_alloc_mark]
     simpa using hj
    case c2_5 => exact par_one ⟨key, ⟨xk, xn, xs⟩⟩
    case c3_5 => unfold maxLen; first | omega | (simp only [List.length_append, List.length_cons, List.length_nil]; omega)
    case c4_5 => first | omega | (simp only [List.length_append, List.length_cons, List.length_nil]; omega)
    intro vi wi hownxi hgxi _ _
    have hbi : Below W0.heap.size W0 wi := (hbw.alloc hbw.size (Obj.cells #[.string key, .int .i64 xk, .int .i64 xn, .string xs] 112)).grown hgxi hBi (fun z hz => (World.ownsRow.lt hown z hz).1)
    have howni : OwnP W0.heap.size vi (m ++ [⟨key, ⟨xk, xn, xs⟩⟩]) wi := by
     unfold OwnP
     first | (rw [← par_cells, List.length_append]; exact hownxi) | simpa [Par.cs] using hownxi
    clear hgxi hBi hownxi
    have rx : wi.cell? ⟨w.heap.size + 1 + 1, 0, none⟩ = some (.slice none 0 0) := (hbi.cell (p := ⟨w.heap.size + 1 + 1, 0, none⟩) hlt2).trans r0
    have fx : wi.frozen? ⟨w.heap.size + 1 + 1, 0, none⟩ = false := (hbi.frozen (p := ⟨w.heap.size + 1 + 1, 0, none⟩) hlt2).trans f0
    have hspec : dSet l key ⟨xk, xn, xs⟩ = (m ++ [⟨key, ⟨xk, xn, xs⟩⟩]) := by rw [← HG.out, HE.out]; simp
    obtain ⟨mm, hmm⟩ : ∃ mm, mm = (m ++ [⟨key, ⟨xk, xn, xs⟩⟩]) := ⟨_, rfl⟩
    have hownm : OwnP W0.heap.size vi mm wi := by rw [hmm]; exact howni
    rw [← hmm] at hspec
    have HS := hid hspec; clear hspec hmm
    obtain ⟨A2, c2, hA2⟩ := own_slice hownm
    subst hA2
    go_wp2
    refine bodyPost_ret (v := .agg #[.slice A2 mm.length c2]) ?_ rfl ⟨_, rfl, ?_, ?_⟩
    ·simp [results, Tryz.results57, go_sem, rx]
    ·rw [HS.out]; exact ownsRow_down (ownsRow_set hownm hlt2) (Nat.le_of_lt hlt0)
    ·exact (hb0.trans (hbi.mono (Nat.le_of_lt hlt0))).setCell (p := ⟨w.heap.size + 1 + 1, 0, none⟩) (by show w.heap.size ≤ w.heap.size + 1 + 1; omega) _
   ·skip
    have rx : wr.cell? ⟨w.heap.size + 1 + 1, 0, none⟩ = some (.slice none 0 0) := (hbw.cell (p := ⟨w.heap.size + 1 + 1, 0, none⟩) hlt2).trans r0
    have fx : wr.frozen? ⟨w.heap.size + 1 + 1, 0, none⟩ = false := (hbw.frozen (p := ⟨w.heap.size + 1 + 1, 0, none⟩) hlt2).trans f0
    have hspec : dSet l key ⟨xk, xn, xs⟩ = m := by rw [← HG.out, HE.out]; simp
    obtain ⟨mm, hmm⟩ : ∃ mm, mm = m := ⟨_, rfl⟩
    have hownm : OwnP W0.heap.size u7 mm wr := by rw [hmm]; exact hown
    rw [← hmm] at hspec
    have HS := hid hspec; clear hspec hmm
    obtain ⟨A2, c2, hA2⟩ := own_slice hownm
    subst hA2
    go_wp2
    refine bodyPost_ret (v := .agg #[.slice A2 mm.length c2]) ?_ rfl ⟨_, rfl, ?_, ?_⟩
    ·simp [results, Tryz.results57, go_sem, rx]
    ·rw [HS.out]; exact ownsRow_down (ownsRow_set hownm hlt2) (Nat.le_of_lt hlt0)
    ·exact (hb0.trans (hbw.mono (Nat.le_of_lt hlt0))).setCell (p := ⟨w.heap.size + 1 + 1, 0, none⟩) (by show w.heap.size ≤ w.heap.size + 1 + 1; omega) _
end Go.Proofs.YtegkhkcnoahhdaaGreat
