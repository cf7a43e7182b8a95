/-
  Batches go to bytes and back; what may not be does not; other bytes are no batch's. There are no conditions.
-/
import Derived.Test.YtdhppekfehbngaaRows
import Derived.Test.YtdhppekfehbngaaL5Begun
import Derived.Test.YtdhppekfehbngaaL5CutBatch
import Derived.Test.YtdhppekfehbngaaL5Open
import Derived.Test.YtdhppekfehbngaaL4Tells
import Derived.Test.YtdhppekfehbngaaLawKit
import Derived.WalkKit
import Derived.ProofKit
import Derived.OpenShut
import Derived.ShutString
set_option linter.unusedSimpArgs false
set_option linter.unusedVariables false
namespace Go.Proofs.Ytdhppekfehbngaa.batchBytes
open Go.ChangeShapes Go.WideShapes Go.ChangeAt Go.RowKit
open Go.ChangeMaps (open_string shut_string)
set_option linter.unusedVariables false

theorem own : ownKnob Try.prog.godebug = none := by kernel_rfl
theorem conv_any {w : World} {B n c : Nat} {A : Option Addr} {l : List UInt8} {S : ByteArray} (h : Byt w B (.slice A n c) l) (hS : (⟨l.toArray⟩ : ByteArray) = S) : (convert 34 9 (.slice A n c)).run Try.prog w = .ok (.string S) w := by
  have e : n = l.length := by obtain ⟨_, _, hv, _⟩ := h; injection hv
  rw [(byt_in h).convert (by rw [List.length_map, e]) c 34 5 9 Try.underlying34 Try.underlying5 Try.underlying9, ← hS]
  congr 2
  unfold strOfNums
  rw [List.map_map]
  congr 2
  conv => rhs; rw [← List.map_id l]
  apply List.map_congr_left; intro x _; simp
theorem renc_to (B : Nat) (v : Value) (b : Bat) (l : List UInt8) (w : World) (h : BatV w B v b) (hB : B ≤ w.heap.size) (hok : b.ok) (hl : b.ops.length ≤ 1000) (he : encB b = l) : Calls Try.prog 18 #[v] w (Made l w) := by
  rw [← he]; exact rencodeBatch_any B v b w h hB hok hl
theorem fit_ints {o : Opn} (h : o.fit) : o.ints := ⟨h.1, h.2.2.2.2, h.2.2.1.1, h.2.2.1.2.1, h.2.2.2.1.1, h.2.2.2.1.2.1⟩
theorem byt_take {w : World} {B n c : Nat} {A : Option Addr} {l : List UInt8} (h : Byt w B (.slice A l.length c) l) (hn : n ≤ l.length) : Byt w B (.slice A n c) (l.take n) := by
  obtain ⟨A', c', hv, hc, hcell⟩ := h
  injection hv with e1 _ e2; subst e1; subst e2
  have e : (l.take n).length = n := by rw [List.length_take]; omega
  refine ⟨A, c, by rw [e], by rw [e]; omega, fun h0 => ?_⟩
  rw [e] at h0
  obtain ⟨g, o, rfl, hg, hcs⟩ := hcell (by omega)
  refine ⟨g, o, rfl, hg, fun k hk => ?_⟩
  rw [e] at hk
  rw [hcs k (by omega)]; simp
theorem enc_may {b : Bat} (h : mayB b = true) : encB b = bytesB b ∧ 1 ≤ (encB b).length ∧ (encB b).length ≤ 1200 := by
  have he : encB b = bytesB b := by unfold encB; rw [h]; rfl
  refine ⟨he, ?_, ?_⟩
  · rw [he]; unfold bytesB; have := Nu.put_ne b.client; simp only [List.length_append]; omega
  · rw [mayB_parts, Bool.and_eq_true, decide_eq_true_eq] at h; rw [he]; exact h.2
theorem enc_none {b : Bat} (h : mayB b = false) : encB b = [] := by unfold encB; rw [h]; rfl
theorem dec_less {b : Bat} (h : mayB b = true) (hok : b.ok) (n : Nat) (hn : n < (encB b).length) : decR ((encB b).take n) = (⟨0, 0, []⟩, 1) := by
  have hm := enc_may h
  apply decR_no
  cases ho : okB ((encB b).take n) with
  | false => rfl
  | true =>
    exfalso
    unfold okB at ho
    rw [Bool.and_eq_true, beq_iff_eq] at ho
    have hd := rBat_ok ((encB b).take n) (by rw [List.length_take]; omega)
    have h2 : bytesB (rBat ((encB b).take n)).1 ++ (encB b).drop n = bytesB b ++ [] := by rw [ho.2, List.take_append_drop, hm.1, List.append_nil]
    have h3 := (bytesB_inj ho.1 h hd hok h2).2
    have := congrArg List.length h3
    rw [List.length_drop] at this; simp at this; omega
theorem dec_more {b : Bat} (h : mayB b = true) (hok : b.ok) (x : UInt8) : decR (encB b ++ [x]) = (⟨0, 0, []⟩, 1) := by
  have hm := enc_may h
  apply decR_no
  cases ho : okB (encB b ++ [x]) with
  | false => rfl
  | true =>
    exfalso
    unfold okB at ho
    rw [Bool.and_eq_true, beq_iff_eq] at ho
    have hd := rBat_ok (encB b ++ [x]) (by rw [List.length_append]; simp; omega)
    have h2 : bytesB (rBat (encB b ++ [x])).1 ++ [] = bytesB b ++ [x] := by rw [ho.2, hm.1, List.append_nil]
    have h3 := (bytesB_inj ho.1 h hd hok h2).2
    cases h3
theorem cut_bat {c q : Int} {m : List Opn} (h1 : I64 c) (h2 : I64 q) (h : ∀ x ∈ m, x.ok) : (Bat.mk c q m).ok := ⟨h1, h2, h⟩
def MeetX (R : Act → World → Prop) : Exit → Act → World → Prop
  | .normal, a, W => R a W
  | _, _, _ => False
theorem wp_meetx {P : Program} {c : Code} {Q : Exit → Act → World → Prop} {a : Act} {w : World} (R : Act → Act → World → Prop) (h1 : c.wp P (MeetX (R a)) a w) (h2 : ∀ b W, R a b W → Q .normal b W) : c.wp P Q a w :=
  Code.wp_mono (fun e b W h => by
    cases e with
    | normal => exact h2 b W h
    | _ => exact h.elim) h1
theorem twins {a b : Bat} (ha : mayB a = true) (hb : mayB b = true) (hao : a.ok) (hbo : b.ok) (S T : ByteArray) (hS : (⟨(encB a).toArray⟩ : ByteArray) = S) (hT : (⟨(encB b).toArray⟩ : ByteArray) = T) : (S == T) = eqB a b := by
  have e1 := (enc_may ha).1
  have e2 := (enc_may hb).1
  cases hq : eqB a b with
  | true =>
    have := eqB_iff.1 hq
    subst this
    rw [← hS, ← hT]; exact (bytes_beq2 _ _).2 rfl
  | false =>
    cases hs : (S == T) with
    | false => rfl
    | true =>
      exfalso
      have h := (bytes_beq2 S T).1 hs
      rw [← hS, ← hT] at h
      have h2 : encB a = encB b := by injection h with h; simpa using h
      rw [e1, e2] at h2
      have h3 := (bytesB_inj (r := []) (t := []) ha hb hao hbo (by rw [h2])).1
      rw [h3, eqB_iff.2 rfl] at hq; cases hq
theorem list_beq (S T : ByteArray) : (S.toList == T.toList) = (S == T) := by
  cases h : (S == T) with
  | true => have e := (bytes_beq2 S T).1 h; subst e; exact beq_self_eq_true _
  | false =>
    rw [beq_eq_false_iff_ne]
    intro e
    have e2 := toList_inj e
    subst e2
    rw [(bytes_beq2 S S).2 rfl] at h; cases h
theorem reqB_is (B C : Nat) (u v : Value) (a b : Bat) (x : Bool) (w : World) (ha : BatV w B u a) (hb : BatV w C v b) (hB : B ≤ w.heap.size) (hC : C ≤ w.heap.size) (hl : a.ops.length ≤ 1000000) (hx : eqB a b = x) : Calls Try.prog 20 #[u, v] w (Bl x w) := by
  have h1 : BatV w w.heap.size u a := by
    obtain ⟨s, hv, A, c, hs, hc, hcell⟩ := ha
    exact ⟨s, hv, A, c, hs, hc, fun h0 => by obtain ⟨g, o, hA, hg, r⟩ := hcell h0; exact ⟨g, o, hA, Nat.lt_of_lt_of_le hg hB, r⟩⟩
  have h2 : BatV w w.heap.size v b := by
    obtain ⟨s, hv, A, c, hs, hc, hcell⟩ := hb
    exact ⟨s, hv, A, c, hs, hc, fun h0 => by obtain ⟨g, o, hA, hg, r⟩ := hcell h0; exact ⟨g, o, hA, Nat.lt_of_lt_of_le hg hC, r⟩⟩
  rw [← hx]; exact reqBatch_any w.heap.size u v a b w h1 h2 (Nat.le_refl _) hl

set_option maxRecDepth 100000 in
set_option maxHeartbeats 8000000 in
theorem walk (w : World) (a0 : Bat) (A0 : Option Addr) (c0 : Nat) (w0 : Ops w w.heap.size (.slice A0 a0.ops.length c0) a0.ops) (x0 : a0.fit) (a1 : Int) (w1 : (Lit.int .i64 a1).wf = true) (a2 : Int) (w2 : (Lit.int .u8 a2).wf = true) :
    Calls Try.prog 4 #[.agg #[.int .i64 a0.client, .int .i64 a0.seq, .slice A0 a0.ops.length c0], .int .i64 a1, .int .u8 a2] w fun e w' => e = .returned (.bool true) ∧ Below w.heap.size w w' := by
  obtain ⟨bc, bq, bl⟩ := a0
  obtain ⟨bf1, bf2, bf3⟩ := x0
  simp only at bf1 bf2 bf3 w0
  have Hb := Lib.hid w0; clear w0
  have HIb := Lib.hid (fun z hz => fit_ints (bf3 z hz)); clear bf3
  have hn1 := wf_i64 w1
  have hn2 := bounds_u8 w2
  have hb := Below.refl w.heap.size w
  go_enter Try.func4, Try.ntmps4
  go_wp2_with fail
  refine (begun5_any _).mono ?_
  rintro e k1 ⟨rfl, h⟩
  have hk : Below w.heap.size w k1 := by
    refine Below.trans ?_ (h.mono (by first | (simp; done) | (simp; omega) | omega))
    repeat' (first | with_reducible exact Below.refl _ _ | (with_reducible refine Below.alloc ?_ ?_ _) | (with_reducible refine Below.setCell ?_ ?_ _) | exact (by first | (simp; done) | (simp; omega) | omega))
  have hz := h.size
  try simp at hz
  have p0 : k1.cell? ⟨w.heap.size, 0, none⟩ = some (.int .i64 bc) := (h.cell (p := ⟨w.heap.size, 0, none⟩) (by first | (simp; done) | (simp; omega) | omega)).trans (by go_simp)
  have p1 : k1.cell? ⟨w.heap.size, 1, none⟩ = some (.int .i64 bq) := (h.cell (p := ⟨w.heap.size, 1, none⟩) (by first | (simp; done) | (simp; omega) | omega)).trans (by go_simp)
  have p2 : k1.cell? ⟨w.heap.size, 2, none⟩ = some (.slice A0 bl.length c0) := (h.cell (p := ⟨w.heap.size, 2, none⟩) (by first | (simp; done) | (simp; omega) | omega)).trans (by go_simp)
  have pf0 : k1.frozen? ⟨w.heap.size, 0, none⟩ = false := (h.frozen (p := ⟨w.heap.size, 0, none⟩) (by first | (simp; done) | (simp; omega) | omega)).trans (by go_simp)
  have pf1 : k1.frozen? ⟨w.heap.size, 1, none⟩ = false := (h.frozen (p := ⟨w.heap.size, 1, none⟩) (by first | (simp; done) | (simp; omega) | omega)).trans (by go_simp)
  have pf2 : k1.frozen? ⟨w.heap.size, 2, none⟩ = false := (h.frozen (p := ⟨w.heap.size, 2, none⟩) (by first | (simp; done) | (simp; omega) | omega)).trans (by go_simp)
  replace hb : Below w.heap.size w k1 := hb.trans (hk.mono hb.size)
  have lt0 : w.heap.size < k1.heap.size := (by first | (simp; done) | (simp; omega) | omega)
  clear h hk
  go_wp2_with fail
  refine (l5cutBatch_any w.heap.size _ ⟨bc, bq, bl⟩ _ ⟨_, rfl, Hb.out.keep hb (Nat.le_refl _)⟩ hb.size HIb.out).mono ?_
  rintro e k2 ⟨u, m, rfl, hO, h, hml, hoks⟩
  obtain ⟨Am, cm, rfl⟩ := own_slice hO
  have HOm := Lib.hid hO; clear hO
  have hok := cut_bat bf1 bf2 hoks
  have HOKm := Lib.hid hok; clear hok hoks
  have hlm : m.length ≤ 10 := by omega
  have hk := h
  have hz := hk.size
  replace p0 := (hk.cell (p := ⟨w.heap.size, 0, none⟩) (by first | (simp; done) | (simp; omega) | omega)).trans p0
  replace p1 := (hk.cell (p := ⟨w.heap.size, 1, none⟩) (by first | (simp; done) | (simp; omega) | omega)).trans p1
  replace p2 := (hk.cell (p := ⟨w.heap.size, 2, none⟩) (by first | (simp; done) | (simp; omega) | omega)).trans p2
  replace pf0 := (hk.frozen (p := ⟨w.heap.size, 0, none⟩) (by first | (simp; done) | (simp; omega) | omega)).trans pf0
  replace pf1 := (hk.frozen (p := ⟨w.heap.size, 1, none⟩) (by first | (simp; done) | (simp; omega) | omega)).trans pf1
  replace pf2 := (hk.frozen (p := ⟨w.heap.size, 2, none⟩) (by first | (simp; done) | (simp; omega) | omega)).trans pf2
  replace hb : Below w.heap.size w k2 := hb.trans (hk.mono hb.size)
  clear h hk hml
  have lt0 : w.heap.size < k2.heap.size := (by first | (simp; done) | (simp; omega) | omega)
  obtain ⟨x, hx⟩ : ∃ x, mayB ⟨bc, bq, m⟩ = x := ⟨_, rfl⟩
  have HX := Lib.hid hx; clear hx
  go_wp2_with fail
  refine (rmayBatch_is _ _ ⟨bc, bq, m⟩ x _ ⟨_, rfl, Ops.of_own (ownsRow_set (ownsRow_set (ownsRow_set HOm.out (by show w.heap.size < _; omega)) (by show w.heap.size < _; omega)) (by show w.heap.size < _; omega))⟩ (Nat.le_refl _) HOKm.out (by show m.length ≤ 1000; omega) HX.out).mono ?_
  rintro e k3 ⟨rfl, h⟩
  have hz := h.size
  simp at hz
  have p0N : k3.cell? ⟨w.heap.size, 0, none⟩ = some (.int .i64 bc) := (h.cell (p := ⟨w.heap.size, 0, none⟩) (by first | (simp; done) | (simp; omega) | omega)).trans (by go_simp)
  clear p0
  have p0 := p0N; clear p0N
  have p1N : k3.cell? ⟨w.heap.size, 1, none⟩ = some (.int .i64 bq) := (h.cell (p := ⟨w.heap.size, 1, none⟩) (by first | (simp; done) | (simp; omega) | omega)).trans (by go_simp)
  clear p1
  have p1 := p1N; clear p1N
  have p2N : k3.cell? ⟨w.heap.size, 2, none⟩ = some (.slice Am m.length cm) := (h.cell (p := ⟨w.heap.size, 2, none⟩) (by first | (simp; done) | (simp; omega) | omega)).trans (by go_simp)
  clear p2
  have p2 := p2N; clear p2N
  have pf0N : k3.frozen? ⟨w.heap.size, 0, none⟩ = false := (h.frozen (p := ⟨w.heap.size, 0, none⟩) (by first | (simp; done) | (simp; omega) | omega)).trans (by go_simp)
  clear pf0
  have pf0 := pf0N; clear pf0N
  have pf1N : k3.frozen? ⟨w.heap.size, 1, none⟩ = false := (h.frozen (p := ⟨w.heap.size, 1, none⟩) (by first | (simp; done) | (simp; omega) | omega)).trans (by go_simp)
  clear pf1
  have pf1 := pf1N; clear pf1N
  have pf2N : k3.frozen? ⟨w.heap.size, 2, none⟩ = false := (h.frozen (p := ⟨w.heap.size, 2, none⟩) (by first | (simp; done) | (simp; omega) | omega)).trans (by go_simp)
  clear pf2
  have pf2 := pf2N; clear pf2N
  replace HOm := Lib.hid (OwnO.below (ownsRow_set (ownsRow_set (ownsRow_set HOm.out (by show w.heap.size < _; omega)) (by show w.heap.size < _; omega)) (by show w.heap.size < _; omega)) h)
  replace hb : Below w.heap.size w k3 := by
    refine Below.trans ?_ (h.mono (by have := hb.size; simp; omega))
    repeat' (first | with_reducible exact hb | (with_reducible refine Below.setCell ?_ ?_ _) | exact Nat.le_refl _)
  clear h
  have lt0 : w.heap.size < k3.heap.size := (by first | (simp; done) | (simp; omega) | omega)
  go_wp2_with fail
  refine (oenc_any _ _ ⟨bc, bq, m⟩ _ ⟨_, rfl, Ops.of_own HOm.out⟩ (Nat.le_refl _) HOKm.out).mono ?_
  rintro e k4 ⟨AL, cL, rfl, hE, hnil, h⟩
  obtain ⟨L, hL⟩ : ∃ l, encB ⟨bc, bq, m⟩ = l := ⟨_, rfl⟩
  rw [hL] at hE ⊢
  have HEL := Lib.hid hE; clear hE
  have HNL := Lib.hid hnil; clear hnil
  have HL := Lib.hid hL; clear hL
  have hk := h
  have hz := hk.size
  replace p0 := (hk.cell (p := ⟨w.heap.size, 0, none⟩) (by first | (simp; done) | (simp; omega) | omega)).trans p0
  replace p1 := (hk.cell (p := ⟨w.heap.size, 1, none⟩) (by first | (simp; done) | (simp; omega) | omega)).trans p1
  replace p2 := (hk.cell (p := ⟨w.heap.size, 2, none⟩) (by first | (simp; done) | (simp; omega) | omega)).trans p2
  replace pf0 := (hk.frozen (p := ⟨w.heap.size, 0, none⟩) (by first | (simp; done) | (simp; omega) | omega)).trans pf0
  replace pf1 := (hk.frozen (p := ⟨w.heap.size, 1, none⟩) (by first | (simp; done) | (simp; omega) | omega)).trans pf1
  replace pf2 := (hk.frozen (p := ⟨w.heap.size, 2, none⟩) (by first | (simp; done) | (simp; omega) | omega)).trans pf2
  replace HOm := Lib.hid (OwnO.below HOm.out hk)
  replace hb : Below w.heap.size w k4 := hb.trans (hk.mono hb.size)
  clear h hk
  have lt0 : w.heap.size < k4.heap.size := (by first | (simp; done) | (simp; omega) | omega)
  obtain ⟨S, hS⟩ : ∃ S : ByteArray, ⟨L.toArray⟩ = S := ⟨_, rfl⟩
  have HS := Lib.hid hS; clear hS
  cases x
  · obtain ⟨rfl, rfl⟩ := HNL.out HX.out
    have HL0 := Lib.hid (show L.length = 0 by rw [← HL.out, enc_none HX.out]; rfl)
    go_wp2
    replace p0 : k4.drew.cell? ⟨w.heap.size, 0, none⟩ = some (.int .i64 bc) := p0
    replace p1 : k4.drew.cell? ⟨w.heap.size, 1, none⟩ = some (.int .i64 bq) := p1
    replace p2 : k4.drew.cell? ⟨w.heap.size, 2, none⟩ = some (.slice Am m.length cm) := p2
    replace pf0 : k4.drew.frozen? ⟨w.heap.size, 0, none⟩ = false := pf0
    replace pf1 : k4.drew.frozen? ⟨w.heap.size, 1, none⟩ = false := pf1
    replace pf2 : k4.drew.frozen? ⟨w.heap.size, 2, none⟩ = false := pf2
    replace HOm := Lib.hid (OwnO.below HOm.out ((Below.refl k4.heap.size k4).drew))
    replace HEL := Lib.hid (OwnB.below HEL.out ((Below.refl k4.heap.size k4).drew))
    have cv : (convert 34 9 (.slice none L.length 0)).run Try.prog k4.drew = .ok (.string S) k4.drew := conv_any (Byt.of_own HEL.out) HS.out
    refine wp_region_noPanic ?_
    refine wp_region_held_drew (S := fun W => W.cell? ⟨w.heap.size, 0, none⟩ = some (.int .i64 bc) ∧ W.cell? ⟨w.heap.size, 1, none⟩ = some (.int .i64 bq) ∧ W.cell? ⟨w.heap.size, 2, none⟩ = some (.slice Am m.length cm) ∧ (convert 34 9 (.slice none L.length 0)).run Try.prog W = .ok (.string S) W) (by kernel_rfl) ?_ (fun hHeld => ?_)
    · exact ⟨p0, p1, p2, cv⟩
    replace hb : Below w.heap.size w k4.drew := hb.drew
    replace lt0 : w.heap.size < k4.drew.heap.size := lt0
    have hzd : k4.heap.size ≤ k4.drew.heap.size := Nat.le_refl _
    generalize k4.drew = k5 at *
    refine wpAnyH_take (i := 0) (oi := { dst := some 22, op := Op.load 31 (Operand.tmp 3), type := 31, pos := "law.go:57", after := #[], guard := none }) (v := .agg #[.int .i64 bc, .int .i64 bq, .slice Am m.length cm]) rfl (by kernel_rfl) (by kernel_rfl) (by kernel_rfl) (fun _ _ _ h => h) (Or.inl ⟨by rfl, fun w hSw => ?_⟩) (by assumption) ?_
    · (try dsimp only at hSw)
      go_simp
    try simp only [Act.put, List.setIfInBounds_toArray, List.set_cons_zero, List.set_cons_succ]
    refine wpAnyH_take (i := 2) (oi := { dst := some 24, op := Op.move (Operand.tmp 8), type := 4, pos := "law.go:57", after := #[], guard := none }) (v := .bool false) rfl (by kernel_rfl) (by kernel_rfl) (by kernel_rfl) (fun _ _ _ h => h) (Or.inl ⟨by rfl, fun w hSw => ?_⟩) (by assumption) ?_
    · (try dsimp only at hSw)
      go_simp
    try simp only [Act.put, List.setIfInBounds_toArray, List.set_cons_zero, List.set_cons_succ]
    refine wpAnyH_ready (rs := [1]) (by kernel_rfl) (by simp) ?_
    refine AllReadyH.cons (o := { dst := some 23, op := Op.call { callee := Callee.value (Operand.func 17), args := #[Operand.tmp 22], argTypes := #[31] }, type := 4, pos := "law.go:57", after := #[{ on := 0, ground := Ground.data }], guard := none }) rfl (fun K hK => ?_) (AllReadyH.nil)
    go_simp
    go_at_call 17
    refine (omayB_is _ _ ⟨bc, bq, m⟩ false _ ⟨_, rfl, Ops.of_own HOm.out⟩ (Nat.le_refl _) HOKm.out HX.out).mono ?_
    rintro e k6 ⟨rfl, h⟩
    have hk : Below k5.heap.size k5 k6 := by
      refine Below.trans ?_ (h.mono (by first | (simp; done) | (simp; omega) | omega))
      repeat' (first | with_reducible exact Below.refl _ _ | (with_reducible refine Below.alloc ?_ ?_ _) | (with_reducible refine Below.setCell ?_ ?_ _) | exact (by first | (simp; done) | (simp; omega) | omega))
    have hz := h.size
    try simp at hz
    replace p0 : k6.cell? ⟨w.heap.size, 0, none⟩ = some (.int .i64 bc) := (hk.cell (p := ⟨w.heap.size, 0, none⟩) (by first | (simp; done) | (simp; omega) | omega)).trans p0
    replace p1 : k6.cell? ⟨w.heap.size, 1, none⟩ = some (.int .i64 bq) := (hk.cell (p := ⟨w.heap.size, 1, none⟩) (by first | (simp; done) | (simp; omega) | omega)).trans p1
    replace p2 : k6.cell? ⟨w.heap.size, 2, none⟩ = some (.slice Am m.length cm) := (hk.cell (p := ⟨w.heap.size, 2, none⟩) (by first | (simp; done) | (simp; omega) | omega)).trans p2
    replace pf0 : k6.frozen? ⟨w.heap.size, 0, none⟩ = false := (hk.frozen (p := ⟨w.heap.size, 0, none⟩) (by first | (simp; done) | (simp; omega) | omega)).trans pf0
    replace pf1 : k6.frozen? ⟨w.heap.size, 1, none⟩ = false := (hk.frozen (p := ⟨w.heap.size, 1, none⟩) (by first | (simp; done) | (simp; omega) | omega)).trans pf1
    replace pf2 : k6.frozen? ⟨w.heap.size, 2, none⟩ = false := (hk.frozen (p := ⟨w.heap.size, 2, none⟩) (by first | (simp; done) | (simp; omega) | omega)).trans pf2
    replace HOm := Lib.hid (OwnO.below HOm.out hk)
    replace HEL := Lib.hid (OwnB.below HEL.out hk)
    replace hb : Below w.heap.size w k6 := hb.trans (hk.mono hb.size)
    have lt0 : w.heap.size < k6.heap.size := (by first | (simp; done) | (simp; omega) | omega)
    clear h hk
    have cv : (convert 34 9 (.slice none L.length 0)).run Try.prog k6 = .ok (.string S) k6 := conv_any (Byt.of_own HEL.out) HS.out
    try dsimp only
    refine hK.out _ _ ?_ (fun hHeld => ?_)
    · exact ⟨p0, p1, p2, cv⟩
    clear hK K
    try simp only [Act.put, List.setIfInBounds_toArray, List.set_cons_zero, List.set_cons_succ]
    refine wpAnyH_take (i := 3) (oi := { dst := some 25, op := Op.binOp BinOp.neq 4 (Operand.tmp 23) (Operand.tmp 24) 4, type := 4, pos := "law.go:57", after := #[{ on := 1, ground := Ground.data }, { on := 2, ground := Ground.data }], guard := none }) (v := .bool false) rfl (by kernel_rfl) (by kernel_rfl) (by kernel_rfl) (fun _ _ _ h => h) (Or.inl ⟨by rfl, fun w hSw => ?_⟩) (by assumption) ?_
    · (try dsimp only at hSw)
      go_simp
    try simp only [Act.put, List.setIfInBounds_toArray, List.set_cons_zero, List.set_cons_succ]
    refine wpAnyH_take (i := 4) (oi := { dst := some 26, op := Op.move (Operand.tmp 25), type := 4, pos := "law.go:57", after := #[{ on := 3, ground := Ground.data }, { on := 1, ground := Ground.chain }], guard := none }) (v := .bool false) rfl (by kernel_rfl) (by kernel_rfl) (by kernel_rfl) (fun _ _ _ h => h) (Or.inl ⟨by rfl, fun w hSw => ?_⟩) (by assumption) ?_
    · (try dsimp only at hSw)
      go_simp
    try simp only [Act.put, List.setIfInBounds_toArray, List.set_cons_zero, List.set_cons_succ]
    refine wpAnyH_take (i := 5) (oi := { dst := some 27, op := Op.move (Operand.tmp 9), type := 34, pos := "law.go:57", after := #[{ on := 4, ground := Ground.guard }], guard := some (4, false) }) (v := .slice none L.length 0) rfl (by kernel_rfl) (by kernel_rfl) (by kernel_rfl) (fun _ _ _ h => h) (Or.inl ⟨by rfl, fun w hSw => ?_⟩) (by assumption) ?_
    · (try dsimp only at hSw)
      go_simp
    try simp only [Act.put, List.setIfInBounds_toArray, List.set_cons_zero, List.set_cons_succ]
    refine wpAnyH_take (i := 6) (oi := { dst := some 28, op := Op.convert 34 9 (Operand.tmp 27), type := 9, pos := "law.go:57", after := #[{ on := 5, ground := Ground.data }, { on := 4, ground := Ground.guard }], guard := some (4, false) }) (v := .string S) rfl (by kernel_rfl) (by kernel_rfl) (by kernel_rfl) (fun _ _ _ h => h) (Or.inl ⟨by rfl, fun w hSw => ?_⟩) (by assumption) ?_
    · (try dsimp only at hSw)
      go_simp
    try simp only [Act.put, List.setIfInBounds_toArray, List.set_cons_zero, List.set_cons_succ]
    refine wpAnyH_take (i := 7) (oi := { dst := some 29, op := Op.load 31 (Operand.tmp 3), type := 31, pos := "law.go:57", after := #[{ on := 4, ground := Ground.guard }], guard := some (4, false) }) (v := .agg #[.int .i64 bc, .int .i64 bq, .slice Am m.length cm]) rfl (by kernel_rfl) (by kernel_rfl) (by kernel_rfl) (fun _ _ _ h => h) (Or.inl ⟨by rfl, fun w hSw => ?_⟩) (by assumption) ?_
    · (try dsimp only at hSw)
      go_simp
    try simp only [Act.put, List.setIfInBounds_toArray, List.set_cons_zero, List.set_cons_succ]
    refine wpAnyH_ready (rs := [8]) (by kernel_rfl) (by simp) ?_
    refine AllReadyH.cons (o := { dst := some 30, op := Op.call { callee := Callee.value (Operand.func 18), args := #[Operand.tmp 29], argTypes := #[31] }, type := 34, pos := "law.go:57", after := #[{ on := 7, ground := Ground.data }, { on := 4, ground := Ground.chain }, { on := 4, ground := Ground.guard }], guard := some (4, false) }) rfl (fun K hK => ?_) (AllReadyH.nil)
    go_simp
    go_at_call 18
    refine (renc_to _ _ ⟨bc, bq, m⟩ L _ ⟨_, rfl, Ops.of_own HOm.out⟩ (Nat.le_refl _) HOKm.out (by show m.length ≤ 1000; omega) HL.out).mono ?_
    rintro e k7 ⟨vE, rfl, hE, h⟩
    have hk : Below k6.heap.size k6 k7 := by
      refine Below.trans ?_ (h.mono (by first | (simp; done) | (simp; omega) | omega))
      repeat' (first | with_reducible exact Below.refl _ _ | (with_reducible refine Below.alloc ?_ ?_ _) | (with_reducible refine Below.setCell ?_ ?_ _) | exact (by first | (simp; done) | (simp; omega) | omega))
    have hz := h.size
    try simp at hz
    replace p0 : k7.cell? ⟨w.heap.size, 0, none⟩ = some (.int .i64 bc) := (hk.cell (p := ⟨w.heap.size, 0, none⟩) (by first | (simp; done) | (simp; omega) | omega)).trans p0
    replace p1 : k7.cell? ⟨w.heap.size, 1, none⟩ = some (.int .i64 bq) := (hk.cell (p := ⟨w.heap.size, 1, none⟩) (by first | (simp; done) | (simp; omega) | omega)).trans p1
    replace p2 : k7.cell? ⟨w.heap.size, 2, none⟩ = some (.slice Am m.length cm) := (hk.cell (p := ⟨w.heap.size, 2, none⟩) (by first | (simp; done) | (simp; omega) | omega)).trans p2
    replace pf0 : k7.frozen? ⟨w.heap.size, 0, none⟩ = false := (hk.frozen (p := ⟨w.heap.size, 0, none⟩) (by first | (simp; done) | (simp; omega) | omega)).trans pf0
    replace pf1 : k7.frozen? ⟨w.heap.size, 1, none⟩ = false := (hk.frozen (p := ⟨w.heap.size, 1, none⟩) (by first | (simp; done) | (simp; omega) | omega)).trans pf1
    replace pf2 : k7.frozen? ⟨w.heap.size, 2, none⟩ = false := (hk.frozen (p := ⟨w.heap.size, 2, none⟩) (by first | (simp; done) | (simp; omega) | omega)).trans pf2
    replace HOm := Lib.hid (OwnO.below HOm.out hk)
    replace HEL := Lib.hid (OwnB.below HEL.out hk)
    replace hb : Below w.heap.size w k7 := hb.trans (hk.mono hb.size)
    have lt0 : w.heap.size < k7.heap.size := (by first | (simp; done) | (simp; omega) | omega)
    obtain ⟨AE, cE, rfl⟩ := own_slice hE
    have hcE := conv_any (Byt.of_own hE) HS.out
    clear hE
    clear h hk
    have cv : (convert 34 9 (.slice none L.length 0)).run Try.prog k7 = .ok (.string S) k7 := conv_any (Byt.of_own HEL.out) HS.out
    try dsimp only
    refine hK.out _ _ ?_ (fun hHeld => ?_)
    · exact ⟨p0, p1, p2, cv⟩
    clear hK K
    try simp only [Act.put, List.setIfInBounds_toArray, List.set_cons_zero, List.set_cons_succ]
    refine wpAnyH_ready (rs := [9]) (by kernel_rfl) (by simp) ?_
    refine AllReadyH.cons (o := { dst := some 31, op := Op.convert 34 9 (Operand.tmp 30), type := 9, pos := "law.go:57", after := #[{ on := 8, ground := Ground.data }, { on := 4, ground := Ground.guard }], guard := some (4, false) }) rfl (fun K hK => ?_) (AllReadyH.nil)
    go_simp
    refine hK.out _ _ ?_ (fun hHeld => ?_)
    · exact ⟨p0, p1, p2, cv⟩
    clear hK K
    try simp only [Act.put, List.setIfInBounds_toArray, List.set_cons_zero, List.set_cons_succ]
    refine wpAnyH_take (i := 10) (oi := { dst := some 32, op := Op.binOp BinOp.neq 9 (Operand.tmp 28) (Operand.tmp 31) 9, type := 4, pos := "law.go:57", after := #[{ on := 6, ground := Ground.data }, { on := 9, ground := Ground.data }, { on := 4, ground := Ground.guard }], guard := some (4, false) }) (v := .bool false) rfl (by kernel_rfl) (by kernel_rfl) (by kernel_rfl) (fun _ _ _ h => h) (Or.inl ⟨by rfl, fun w hSw => ?_⟩) (by assumption) ?_
    · (try dsimp only at hSw)
      go_simp
    try simp only [Act.put, List.setIfInBounds_toArray, List.set_cons_zero, List.set_cons_succ]
    refine wpAnyH_ready (rs := [11]) (by kernel_rfl) (by simp) ?_
    refine AllReadyH.cons (o := { dst := some 33, op := Op.pick (Operand.tmp 26) (Operand.const (Value.bool true)) (Operand.tmp 32), type := 4, pos := "law.go:57", after := #[{ on := 4, ground := Ground.data }, { on := 10, ground := Ground.data }], guard := none }) rfl (fun K hK => ?_) (AllReadyH.nil)
    go_simp
    refine hK.out _ _ ?_ (fun hHeld => ?_)
    · exact ⟨p0, p1, p2, cv⟩
    clear hK K
    try simp only [Act.put, List.setIfInBounds_toArray, List.set_cons_zero, List.set_cons_succ]
    refine wpAnyH_done (by kernel_rfl) ?_ _
    refine NoPanic.normal ?_
    have hL0 := HL0.out
    have e0 : ((L.length : Int) == 0) = true := by rw [hL0]; rfl
    go_wp2
    go_ret
    exact ⟨by simp [hL0], hb⟩
  · have hmL := enc_may HX.out
    rw [HL.out] at hmL
    obtain ⟨ge, hA⟩ := enc_cases (b := ⟨bc, bq, m⟩) (A := AL) (c := cL) (B := _) (by rw [HL.out]; exact HEL.out) HX.out
    subst hA
    obtain ⟨-, hL1, hL2⟩ := hmL
    have hd := (okB_bytes ⟨bc, bq, m⟩ HX.out HOKm.out).2
    rw [← (enc_may HX.out).1, HL.out] at hd
    have HD0 := Lib.hid hd; clear hd
    have hne : ((L.length : Int) == 0) = false := by rw [beq_eq_false_iff_ne]; omega
    go_wp2
    replace p0 : k4.drew.cell? ⟨w.heap.size, 0, none⟩ = some (.int .i64 bc) := p0
    replace p1 : k4.drew.cell? ⟨w.heap.size, 1, none⟩ = some (.int .i64 bq) := p1
    replace p2 : k4.drew.cell? ⟨w.heap.size, 2, none⟩ = some (.slice Am m.length cm) := p2
    replace pf0 : k4.drew.frozen? ⟨w.heap.size, 0, none⟩ = false := pf0
    replace pf1 : k4.drew.frozen? ⟨w.heap.size, 1, none⟩ = false := pf1
    replace pf2 : k4.drew.frozen? ⟨w.heap.size, 2, none⟩ = false := pf2
    replace HOm := Lib.hid (OwnO.below HOm.out ((Below.refl k4.heap.size k4).drew))
    replace HEL := Lib.hid (OwnB.below HEL.out ((Below.refl k4.heap.size k4).drew))
    have cv : (convert 34 9 (.slice (some ⟨ge, 0, none⟩) L.length cL)).run Try.prog k4.drew = .ok (.string S) k4.drew := conv_any (Byt.of_own HEL.out) HS.out
    refine wp_region_noPanic ?_
    refine wp_region_held_drew (S := fun W => W.cell? ⟨w.heap.size, 0, none⟩ = some (.int .i64 bc) ∧ W.cell? ⟨w.heap.size, 1, none⟩ = some (.int .i64 bq) ∧ W.cell? ⟨w.heap.size, 2, none⟩ = some (.slice Am m.length cm) ∧ (convert 34 9 (.slice (some ⟨ge, 0, none⟩) L.length cL)).run Try.prog W = .ok (.string S) W) (by kernel_rfl) ?_ (fun hHeld => ?_)
    · exact ⟨p0, p1, p2, cv⟩
    replace hb : Below w.heap.size w k4.drew := hb.drew
    replace lt0 : w.heap.size < k4.drew.heap.size := lt0
    have hzd : k4.heap.size ≤ k4.drew.heap.size := Nat.le_refl _
    generalize k4.drew = k5 at *
    refine wpAnyH_take (i := 0) (oi := { dst := some 22, op := Op.load 31 (Operand.tmp 3), type := 31, pos := "law.go:57", after := #[], guard := none }) (v := .agg #[.int .i64 bc, .int .i64 bq, .slice Am m.length cm]) rfl (by kernel_rfl) (by kernel_rfl) (by kernel_rfl) (fun _ _ _ h => h) (Or.inl ⟨by rfl, fun w hSw => ?_⟩) (by assumption) ?_
    · (try dsimp only at hSw)
      go_simp
    try simp only [Act.put, List.setIfInBounds_toArray, List.set_cons_zero, List.set_cons_succ]
    refine wpAnyH_take (i := 2) (oi := { dst := some 24, op := Op.move (Operand.tmp 8), type := 4, pos := "law.go:57", after := #[], guard := none }) (v := .bool true) rfl (by kernel_rfl) (by kernel_rfl) (by kernel_rfl) (fun _ _ _ h => h) (Or.inl ⟨by rfl, fun w hSw => ?_⟩) (by assumption) ?_
    · (try dsimp only at hSw)
      go_simp
    try simp only [Act.put, List.setIfInBounds_toArray, List.set_cons_zero, List.set_cons_succ]
    refine wpAnyH_ready (rs := [1]) (by kernel_rfl) (by simp) ?_
    refine AllReadyH.cons (o := { dst := some 23, op := Op.call { callee := Callee.value (Operand.func 17), args := #[Operand.tmp 22], argTypes := #[31] }, type := 4, pos := "law.go:57", after := #[{ on := 0, ground := Ground.data }], guard := none }) rfl (fun K hK => ?_) (AllReadyH.nil)
    go_simp
    go_at_call 17
    refine (omayB_is _ _ ⟨bc, bq, m⟩ true _ ⟨_, rfl, Ops.of_own HOm.out⟩ (Nat.le_refl _) HOKm.out HX.out).mono ?_
    rintro e k6 ⟨rfl, h⟩
    have hk : Below k5.heap.size k5 k6 := by
      refine Below.trans ?_ (h.mono (by first | (simp; done) | (simp; omega) | omega))
      repeat' (first | with_reducible exact Below.refl _ _ | (with_reducible refine Below.alloc ?_ ?_ _) | (with_reducible refine Below.setCell ?_ ?_ _) | exact (by first | (simp; done) | (simp; omega) | omega))
    have hz := h.size
    try simp at hz
    replace p0 : k6.cell? ⟨w.heap.size, 0, none⟩ = some (.int .i64 bc) := (hk.cell (p := ⟨w.heap.size, 0, none⟩) (by first | (simp; done) | (simp; omega) | omega)).trans p0
    replace p1 : k6.cell? ⟨w.heap.size, 1, none⟩ = some (.int .i64 bq) := (hk.cell (p := ⟨w.heap.size, 1, none⟩) (by first | (simp; done) | (simp; omega) | omega)).trans p1
    replace p2 : k6.cell? ⟨w.heap.size, 2, none⟩ = some (.slice Am m.length cm) := (hk.cell (p := ⟨w.heap.size, 2, none⟩) (by first | (simp; done) | (simp; omega) | omega)).trans p2
    replace pf0 : k6.frozen? ⟨w.heap.size, 0, none⟩ = false := (hk.frozen (p := ⟨w.heap.size, 0, none⟩) (by first | (simp; done) | (simp; omega) | omega)).trans pf0
    replace pf1 : k6.frozen? ⟨w.heap.size, 1, none⟩ = false := (hk.frozen (p := ⟨w.heap.size, 1, none⟩) (by first | (simp; done) | (simp; omega) | omega)).trans pf1
    replace pf2 : k6.frozen? ⟨w.heap.size, 2, none⟩ = false := (hk.frozen (p := ⟨w.heap.size, 2, none⟩) (by first | (simp; done) | (simp; omega) | omega)).trans pf2
    replace HOm := Lib.hid (OwnO.below HOm.out hk)
    replace HEL := Lib.hid (OwnB.below HEL.out hk)
    replace hb : Below w.heap.size w k6 := hb.trans (hk.mono hb.size)
    have lt0 : w.heap.size < k6.heap.size := (by first | (simp; done) | (simp; omega) | omega)
    clear h hk
    have cv : (convert 34 9 (.slice (some ⟨ge, 0, none⟩) L.length cL)).run Try.prog k6 = .ok (.string S) k6 := conv_any (Byt.of_own HEL.out) HS.out
    try dsimp only
    refine hK.out _ _ ?_ (fun hHeld => ?_)
    · exact ⟨p0, p1, p2, cv⟩
    clear hK K
    try simp only [Act.put, List.setIfInBounds_toArray, List.set_cons_zero, List.set_cons_succ]
    refine wpAnyH_take (i := 3) (oi := { dst := some 25, op := Op.binOp BinOp.neq 4 (Operand.tmp 23) (Operand.tmp 24) 4, type := 4, pos := "law.go:57", after := #[{ on := 1, ground := Ground.data }, { on := 2, ground := Ground.data }], guard := none }) (v := .bool false) rfl (by kernel_rfl) (by kernel_rfl) (by kernel_rfl) (fun _ _ _ h => h) (Or.inl ⟨by rfl, fun w hSw => ?_⟩) (by assumption) ?_
    · (try dsimp only at hSw)
      go_simp
    try simp only [Act.put, List.setIfInBounds_toArray, List.set_cons_zero, List.set_cons_succ]
    refine wpAnyH_take (i := 4) (oi := { dst := some 26, op := Op.move (Operand.tmp 25), type := 4, pos := "law.go:57", after := #[{ on := 3, ground := Ground.data }, { on := 1, ground := Ground.chain }], guard := none }) (v := .bool false) rfl (by kernel_rfl) (by kernel_rfl) (by kernel_rfl) (fun _ _ _ h => h) (Or.inl ⟨by rfl, fun w hSw => ?_⟩) (by assumption) ?_
    · (try dsimp only at hSw)
      go_simp
    try simp only [Act.put, List.setIfInBounds_toArray, List.set_cons_zero, List.set_cons_succ]
    refine wpAnyH_take (i := 5) (oi := { dst := some 27, op := Op.move (Operand.tmp 9), type := 34, pos := "law.go:57", after := #[{ on := 4, ground := Ground.guard }], guard := some (4, false) }) (v := .slice (some ⟨ge, 0, none⟩) L.length cL) rfl (by kernel_rfl) (by kernel_rfl) (by kernel_rfl) (fun _ _ _ h => h) (Or.inl ⟨by rfl, fun w hSw => ?_⟩) (by assumption) ?_
    · (try dsimp only at hSw)
      go_simp
    try simp only [Act.put, List.setIfInBounds_toArray, List.set_cons_zero, List.set_cons_succ]
    refine wpAnyH_take (i := 6) (oi := { dst := some 28, op := Op.convert 34 9 (Operand.tmp 27), type := 9, pos := "law.go:57", after := #[{ on := 5, ground := Ground.data }, { on := 4, ground := Ground.guard }], guard := some (4, false) }) (v := .string S) rfl (by kernel_rfl) (by kernel_rfl) (by kernel_rfl) (fun _ _ _ h => h) (Or.inl ⟨by rfl, fun w hSw => ?_⟩) (by assumption) ?_
    · (try dsimp only at hSw)
      go_simp
    try simp only [Act.put, List.setIfInBounds_toArray, List.set_cons_zero, List.set_cons_succ]
    refine wpAnyH_take (i := 7) (oi := { dst := some 29, op := Op.load 31 (Operand.tmp 3), type := 31, pos := "law.go:57", after := #[{ on := 4, ground := Ground.guard }], guard := some (4, false) }) (v := .agg #[.int .i64 bc, .int .i64 bq, .slice Am m.length cm]) rfl (by kernel_rfl) (by kernel_rfl) (by kernel_rfl) (fun _ _ _ h => h) (Or.inl ⟨by rfl, fun w hSw => ?_⟩) (by assumption) ?_
    · (try dsimp only at hSw)
      go_simp
    try simp only [Act.put, List.setIfInBounds_toArray, List.set_cons_zero, List.set_cons_succ]
    refine wpAnyH_ready (rs := [8]) (by kernel_rfl) (by simp) ?_
    refine AllReadyH.cons (o := { dst := some 30, op := Op.call { callee := Callee.value (Operand.func 18), args := #[Operand.tmp 29], argTypes := #[31] }, type := 34, pos := "law.go:57", after := #[{ on := 7, ground := Ground.data }, { on := 4, ground := Ground.chain }, { on := 4, ground := Ground.guard }], guard := some (4, false) }) rfl (fun K hK => ?_) (AllReadyH.nil)
    go_simp
    go_at_call 18
    refine (renc_to _ _ ⟨bc, bq, m⟩ L _ ⟨_, rfl, Ops.of_own HOm.out⟩ (Nat.le_refl _) HOKm.out (by show m.length ≤ 1000; omega) HL.out).mono ?_
    rintro e k7 ⟨vE, rfl, hE, h⟩
    have hk : Below k6.heap.size k6 k7 := by
      refine Below.trans ?_ (h.mono (by first | (simp; done) | (simp; omega) | omega))
      repeat' (first | with_reducible exact Below.refl _ _ | (with_reducible refine Below.alloc ?_ ?_ _) | (with_reducible refine Below.setCell ?_ ?_ _) | exact (by first | (simp; done) | (simp; omega) | omega))
    have hz := h.size
    try simp at hz
    replace p0 : k7.cell? ⟨w.heap.size, 0, none⟩ = some (.int .i64 bc) := (hk.cell (p := ⟨w.heap.size, 0, none⟩) (by first | (simp; done) | (simp; omega) | omega)).trans p0
    replace p1 : k7.cell? ⟨w.heap.size, 1, none⟩ = some (.int .i64 bq) := (hk.cell (p := ⟨w.heap.size, 1, none⟩) (by first | (simp; done) | (simp; omega) | omega)).trans p1
    replace p2 : k7.cell? ⟨w.heap.size, 2, none⟩ = some (.slice Am m.length cm) := (hk.cell (p := ⟨w.heap.size, 2, none⟩) (by first | (simp; done) | (simp; omega) | omega)).trans p2
    replace pf0 : k7.frozen? ⟨w.heap.size, 0, none⟩ = false := (hk.frozen (p := ⟨w.heap.size, 0, none⟩) (by first | (simp; done) | (simp; omega) | omega)).trans pf0
    replace pf1 : k7.frozen? ⟨w.heap.size, 1, none⟩ = false := (hk.frozen (p := ⟨w.heap.size, 1, none⟩) (by first | (simp; done) | (simp; omega) | omega)).trans pf1
    replace pf2 : k7.frozen? ⟨w.heap.size, 2, none⟩ = false := (hk.frozen (p := ⟨w.heap.size, 2, none⟩) (by first | (simp; done) | (simp; omega) | omega)).trans pf2
    replace HOm := Lib.hid (OwnO.below HOm.out hk)
    replace HEL := Lib.hid (OwnB.below HEL.out hk)
    replace hb : Below w.heap.size w k7 := hb.trans (hk.mono hb.size)
    have lt0 : w.heap.size < k7.heap.size := (by first | (simp; done) | (simp; omega) | omega)
    obtain ⟨AE, cE, rfl⟩ := own_slice hE
    have hcE := conv_any (Byt.of_own hE) HS.out
    clear hE
    clear h hk
    have cv : (convert 34 9 (.slice (some ⟨ge, 0, none⟩) L.length cL)).run Try.prog k7 = .ok (.string S) k7 := conv_any (Byt.of_own HEL.out) HS.out
    try dsimp only
    refine hK.out _ _ ?_ (fun hHeld => ?_)
    · exact ⟨p0, p1, p2, cv⟩
    clear hK K
    try simp only [Act.put, List.setIfInBounds_toArray, List.set_cons_zero, List.set_cons_succ]
    refine wpAnyH_ready (rs := [9]) (by kernel_rfl) (by simp) ?_
    refine AllReadyH.cons (o := { dst := some 31, op := Op.convert 34 9 (Operand.tmp 30), type := 9, pos := "law.go:57", after := #[{ on := 8, ground := Ground.data }, { on := 4, ground := Ground.guard }], guard := some (4, false) }) rfl (fun K hK => ?_) (AllReadyH.nil)
    go_simp
    refine hK.out _ _ ?_ (fun hHeld => ?_)
    · exact ⟨p0, p1, p2, cv⟩
    clear hK K
    try simp only [Act.put, List.setIfInBounds_toArray, List.set_cons_zero, List.set_cons_succ]
    refine wpAnyH_take (i := 10) (oi := { dst := some 32, op := Op.binOp BinOp.neq 9 (Operand.tmp 28) (Operand.tmp 31) 9, type := 4, pos := "law.go:57", after := #[{ on := 6, ground := Ground.data }, { on := 9, ground := Ground.data }, { on := 4, ground := Ground.guard }], guard := some (4, false) }) (v := .bool false) rfl (by kernel_rfl) (by kernel_rfl) (by kernel_rfl) (fun _ _ _ h => h) (Or.inl ⟨by rfl, fun w hSw => ?_⟩) (by assumption) ?_
    · (try dsimp only at hSw)
      go_simp
    try simp only [Act.put, List.setIfInBounds_toArray, List.set_cons_zero, List.set_cons_succ]
    refine wpAnyH_ready (rs := [11]) (by kernel_rfl) (by simp) ?_
    refine AllReadyH.cons (o := { dst := some 33, op := Op.pick (Operand.tmp 26) (Operand.const (Value.bool true)) (Operand.tmp 32), type := 4, pos := "law.go:57", after := #[{ on := 4, ground := Ground.data }, { on := 10, ground := Ground.data }], guard := none }) rfl (fun K hK => ?_) (AllReadyH.nil)
    go_simp
    refine hK.out _ _ ?_ (fun hHeld => ?_)
    · exact ⟨p0, p1, p2, cv⟩
    clear hK K
    try simp only [Act.put, List.setIfInBounds_toArray, List.set_cons_zero, List.set_cons_succ]
    refine wpAnyH_done (by kernel_rfl) ?_ _
    refine NoPanic.normal ?_
    go_wp2_with fail
    refine (decode_to _ _ _ _ L bc bq m 0 _ (Byt.of_own HEL.out) (Nat.le_refl _) (by omega) HD0.out).mono ?_
    rintro e k8 ⟨A5, c5, rfl, hO, h⟩
    have hk : Below k7.heap.size k7 k8 := by
      refine Below.trans ?_ (h.mono (by first | (simp; done) | (simp; omega) | omega))
      repeat' (first | with_reducible exact Below.refl _ _ | (with_reducible refine Below.alloc ?_ ?_ _) | (with_reducible refine Below.setCell ?_ ?_ _) | exact (by first | (simp; done) | (simp; omega) | omega))
    have hz := h.size
    try simp at hz
    replace p0 : k8.cell? ⟨w.heap.size, 0, none⟩ = some (.int .i64 bc) := (hk.cell (p := ⟨w.heap.size, 0, none⟩) (by first | (simp; done) | (simp; omega) | omega)).trans p0
    replace p1 : k8.cell? ⟨w.heap.size, 1, none⟩ = some (.int .i64 bq) := (hk.cell (p := ⟨w.heap.size, 1, none⟩) (by first | (simp; done) | (simp; omega) | omega)).trans p1
    replace p2 : k8.cell? ⟨w.heap.size, 2, none⟩ = some (.slice Am m.length cm) := (hk.cell (p := ⟨w.heap.size, 2, none⟩) (by first | (simp; done) | (simp; omega) | omega)).trans p2
    replace pf0 : k8.frozen? ⟨w.heap.size, 0, none⟩ = false := (hk.frozen (p := ⟨w.heap.size, 0, none⟩) (by first | (simp; done) | (simp; omega) | omega)).trans pf0
    replace pf1 : k8.frozen? ⟨w.heap.size, 1, none⟩ = false := (hk.frozen (p := ⟨w.heap.size, 1, none⟩) (by first | (simp; done) | (simp; omega) | omega)).trans pf1
    replace pf2 : k8.frozen? ⟨w.heap.size, 2, none⟩ = false := (hk.frozen (p := ⟨w.heap.size, 2, none⟩) (by first | (simp; done) | (simp; omega) | omega)).trans pf2
    replace HOm := Lib.hid (OwnO.below HOm.out hk)
    replace HEL := Lib.hid (OwnB.below HEL.out hk)
    replace hb : Below w.heap.size w k8 := hb.trans (hk.mono hb.size)
    have lt0 : w.heap.size < k8.heap.size := (by first | (simp; done) | (simp; omega) | omega)
    have HOc := Lib.hid hO; clear hO
    clear h hk
    go_wp2_with fail
    refine (reqB_is _ _ _ _ ⟨bc, bq, m⟩ ⟨bc, bq, m⟩ true _ ⟨_, rfl, (Ops.of_own HOm.out).keep (below_one _ _) (Nat.le_refl _)⟩ ⟨_, rfl, (Ops.of_own HOc.out).keep (below_one _ _) (Nat.le_refl _)⟩ (by simp) (by simp) (Nat.le_trans hlm (by decide)) (eqB_iff.2 rfl)).mono ?_
    rintro e k9 ⟨rfl, h⟩
    have hk : Below k8.heap.size k8 k9 := by
      refine Below.trans ?_ (h.mono (by first | (simp; done) | (simp; omega) | omega))
      repeat' (first | with_reducible exact Below.refl _ _ | (with_reducible refine Below.alloc ?_ ?_ _) | (with_reducible refine Below.setCell ?_ ?_ _) | exact (by first | (simp; done) | (simp; omega) | omega))
    have hz := h.size
    try simp at hz
    replace p0 : k9.cell? ⟨w.heap.size, 0, none⟩ = some (.int .i64 bc) := (hk.cell (p := ⟨w.heap.size, 0, none⟩) (by first | (simp; done) | (simp; omega) | omega)).trans p0
    replace p1 : k9.cell? ⟨w.heap.size, 1, none⟩ = some (.int .i64 bq) := (hk.cell (p := ⟨w.heap.size, 1, none⟩) (by first | (simp; done) | (simp; omega) | omega)).trans p1
    replace p2 : k9.cell? ⟨w.heap.size, 2, none⟩ = some (.slice Am m.length cm) := (hk.cell (p := ⟨w.heap.size, 2, none⟩) (by first | (simp; done) | (simp; omega) | omega)).trans p2
    replace pf0 : k9.frozen? ⟨w.heap.size, 0, none⟩ = false := (hk.frozen (p := ⟨w.heap.size, 0, none⟩) (by first | (simp; done) | (simp; omega) | omega)).trans pf0
    replace pf1 : k9.frozen? ⟨w.heap.size, 1, none⟩ = false := (hk.frozen (p := ⟨w.heap.size, 1, none⟩) (by first | (simp; done) | (simp; omega) | omega)).trans pf1
    replace pf2 : k9.frozen? ⟨w.heap.size, 2, none⟩ = false := (hk.frozen (p := ⟨w.heap.size, 2, none⟩) (by first | (simp; done) | (simp; omega) | omega)).trans pf2
    replace HOm := Lib.hid (OwnO.below HOm.out hk)
    replace HEL := Lib.hid (OwnB.below HEL.out hk)
    replace HOc := Lib.hid (OwnO.below HOc.out hk)
    replace hb : Below w.heap.size w k9 := hb.trans (hk.mono hb.size)
    have lt0 : w.heap.size < k9.heap.size := (by first | (simp; done) | (simp; omega) | omega)
    clear h hk
    by_cases hat : 0 ≤ a1
    · have HBY := Lib.hid (Byt.of_own HEL.out)
      have HNI := Lib.hid (fun (V : World) => ownB_nil w.heap.size V)
      go_wp2_with (at_builtin; refine wpList_append_byt rfl _ _ rfl w.heap.size _ _ _ [] L rfl (HNI.out _) rfl HBY.out ?x1 ?x2 ?_)
      case x1 => simp; omega
      case x2 => exact hb.size
      intro v5 k50 hO5 h5
      have hb5 : Below w.heap.size w k50 := hb.trans h5
      obtain ⟨g, cg, rfl, -⟩ := hO5.head hL1
      obtain ⟨i, hi, hil⟩ := rem_nat a1 L.length hat hL1
      have hc := hO5.cellAt i hil
      have hf := hO5.frozenAt i
      obtain ⟨z, hz⟩ : ∃ z, L[i] = z := ⟨_, rfl⟩
      rw [hz] at hc
      have hzb := z.toNat_lt
      obtain ⟨y, hy⟩ : ∃ y, bits BinOp.xor .u8 (z.toNat : Int) a2 = y := ⟨_, rfl⟩
      have hy2 := xor_u8 (z.toNat : Int) a2
      rw [hy] at hy2
      have hgB : w.heap.size ≤ g := (hO5.lt g rfl).1
      have hset := hO5.setAt i hil y hy2.1 hy2.2
      obtain ⟨L2, hL2e⟩ : ∃ L2, L.set i (UInt8.ofNat y.toNat) = L2 := ⟨_, rfl⟩
      rw [hL2e] at hset
      have HLEN2 := Lib.hid (show L2.length = L.length by rw [← hL2e, List.length_set])
      have HSET := Lib.hid hset; clear hset hO5
      have hb := hb5.setCell (p := ⟨g, i, none⟩) hgB (.int .u8 y)
      clear hb5 h5
      cases hk : okB L2
      · have HD := Lib.hid (decR_no hk); clear hk
        go_wp2_with fail
        refine (decode_to _ _ _ _ L2 0 0 [] 1 _ (Byt.of_own HSET.out) (Nat.le_refl _) (by have := HLEN2.out; omega) HD.out).mono ?_
        rintro e k10 ⟨A3, c3, rfl, hO, h⟩
        have hz := h.size
        try simp at hz
        replace hb := hb.trans (h.mono hb.size)
        clear h
        clear hO
        go_wp2
        refine wp_world (fun W => W.cell? ⟨k10.heap.size, 0, none⟩ = some (.int .i64 0) ∧ W.cell? ⟨k10.heap.size, 1, none⟩ = some (.int .i64 0) ∧ W.cell? ⟨k10.heap.size, 2, none⟩ = some (.slice A3 0 c3) ∧ Below (k10.heap.size) k10 W ∧ k10.heap.size + 1 ≤ W.heap.size) ⟨(by go_simp), (by go_simp), (by go_simp), (by
            repeat' (first | with_reducible exact Below.refl _ _ | (with_reducible refine Below.alloc ?_ ?_ _) | (with_reducible refine Below.setCell ?_ ?_ _) | exact (by first | (simp; done) | (simp; omega) | omega))), (by first | (simp; done) | (simp; omega) | omega)⟩ ?_
        rintro k11 ⟨d0, d1, d2, hk, hz⟩
        replace hb : Below w.heap.size w k11 := hb.trans (hk.mono (by first | exact hb.size | omega | (simp; omega)))
        have lt0 : k10.heap.size < k11.heap.size := (by first | (simp; done) | (simp; omega) | omega)
        clear hk
        replace d0 : k11.drew.cell? ⟨k10.heap.size, 0, none⟩ = some (.int .i64 0) := d0
        replace d1 : k11.drew.cell? ⟨k10.heap.size, 1, none⟩ = some (.int .i64 0) := d1
        replace d2 : k11.drew.cell? ⟨k10.heap.size, 2, none⟩ = some (.slice A3 0 c3) := d2
        refine wp_region_noPanic ?_
        refine wp_region_held_drew (S := fun W => W.cell? ⟨k10.heap.size, 0, none⟩ = some (.int .i64 0) ∧ W.cell? ⟨k10.heap.size, 1, none⟩ = some (.int .i64 0) ∧ W.cell? ⟨k10.heap.size, 2, none⟩ = some (.slice A3 0 c3)) (by kernel_rfl) ?_ (fun hHeld => ?_)
        · exact ⟨d0, d1, d2⟩
        replace hb : Below w.heap.size w k11.drew := hb.drew
        replace lt0 : k10.heap.size < k11.drew.heap.size := lt0
        have hzd : k11.heap.size ≤ k11.drew.heap.size := Nat.le_refl _
        generalize k11.drew = k12 at *
        refine wpAnyH_take (i := 0) (oi := { dst := some 71, op := Op.move (Operand.tmp 11), type := 36, pos := "law.go:72", after := #[], guard := none }) (v := .int .i64 1) rfl (by kernel_rfl) (by kernel_rfl) (by kernel_rfl) (fun _ _ _ h => h) (Or.inl ⟨by rfl, fun w hSw => ?_⟩) (by assumption) ?_
        · (try dsimp only at hSw)
          go_simp
        try simp only [Act.put, List.setIfInBounds_toArray, List.set_cons_zero, List.set_cons_succ]
        refine wpAnyH_take (i := 1) (oi := { dst := some 72, op := Op.binOp BinOp.eql 36 (Operand.tmp 71) (Operand.const (Value.int IntKind.i64 0)) 36, type := 4, pos := "law.go:72", after := #[{ on := 0, ground := Ground.data }], guard := none }) (v := .bool false) rfl (by kernel_rfl) (by kernel_rfl) (by kernel_rfl) (fun _ _ _ h => h) (Or.inl ⟨by rfl, fun w hSw => ?_⟩) (by assumption) ?_
        · (try dsimp only at hSw)
          go_simp
        try simp only [Act.put, List.setIfInBounds_toArray, List.set_cons_zero, List.set_cons_succ]
        refine wpAnyH_take (i := 2) (oi := { dst := some 73, op := Op.move (Operand.tmp 72), type := 4, pos := "law.go:72", after := #[{ on := 1, ground := Ground.data }], guard := none }) (v := .bool false) rfl (by kernel_rfl) (by kernel_rfl) (by kernel_rfl) (fun _ _ _ h => h) (Or.inl ⟨by rfl, fun w hSw => ?_⟩) (by assumption) ?_
        · (try dsimp only at hSw)
          go_simp
        try simp only [Act.put, List.setIfInBounds_toArray, List.set_cons_zero, List.set_cons_succ]
        refine wpAnyH_take (i := 3) (oi := { dst := some 74, op := Op.load 31 (Operand.tmp 12), type := 31, pos := "law.go:72", after := #[{ on := 2, ground := Ground.guard }], guard := some (2, true) }) (v := undef) rfl (by kernel_rfl) (by kernel_rfl) (by kernel_rfl) (fun _ _ _ h => h) (Or.inr ⟨by rfl, rfl⟩) (by assumption) ?_
        try simp only [Act.put, List.setIfInBounds_toArray, List.set_cons_zero, List.set_cons_succ]
        refine wpAnyH_take (i := 4) (oi := { dst := some 75, op := Op.call { callee := Callee.value (Operand.func 18), args := #[Operand.tmp 74], argTypes := #[31] }, type := 34, pos := "law.go:72", after := #[{ on := 3, ground := Ground.data }, { on := 2, ground := Ground.chain }, { on := 2, ground := Ground.guard }], guard := some (2, true) }) (v := undef) rfl (by kernel_rfl) (by kernel_rfl) (by kernel_rfl) (fun _ _ _ h => h) (Or.inr ⟨by rfl, rfl⟩) (by assumption) ?_
        try simp only [Act.put, List.setIfInBounds_toArray, List.set_cons_zero, List.set_cons_succ]
        refine wpAnyH_take (i := 5) (oi := { dst := some 76, op := Op.convert 34 9 (Operand.tmp 75), type := 9, pos := "law.go:72", after := #[{ on := 4, ground := Ground.data }, { on := 2, ground := Ground.guard }], guard := some (2, true) }) (v := undef) rfl (by kernel_rfl) (by kernel_rfl) (by kernel_rfl) (fun _ _ _ h => h) (Or.inr ⟨by rfl, rfl⟩) (by assumption) ?_
        try simp only [Act.put, List.setIfInBounds_toArray, List.set_cons_zero, List.set_cons_succ]
        refine wpAnyH_take (i := 6) (oi := { dst := some 77, op := Op.move (Operand.tmp 9), type := 34, pos := "law.go:72", after := #[{ on := 2, ground := Ground.guard }], guard := some (2, true) }) (v := undef) rfl (by kernel_rfl) (by kernel_rfl) (by kernel_rfl) (fun _ _ _ h => h) (Or.inr ⟨by rfl, rfl⟩) (by assumption) ?_
        try simp only [Act.put, List.setIfInBounds_toArray, List.set_cons_zero, List.set_cons_succ]
        refine wpAnyH_take (i := 7) (oi := { dst := some 78, op := Op.convert 34 9 (Operand.tmp 77), type := 9, pos := "law.go:72", after := #[{ on := 6, ground := Ground.data }, { on := 2, ground := Ground.guard }], guard := some (2, true) }) (v := undef) rfl (by kernel_rfl) (by kernel_rfl) (by kernel_rfl) (fun _ _ _ h => h) (Or.inr ⟨by rfl, rfl⟩) (by assumption) ?_
        try simp only [Act.put, List.setIfInBounds_toArray, List.set_cons_zero, List.set_cons_succ]
        refine wpAnyH_take (i := 8) (oi := { dst := some 79, op := Op.binOp BinOp.eql 9 (Operand.tmp 76) (Operand.tmp 78) 9, type := 4, pos := "law.go:72", after := #[{ on := 5, ground := Ground.data }, { on := 7, ground := Ground.data }, { on := 2, ground := Ground.guard }], guard := some (2, true) }) (v := undef) rfl (by kernel_rfl) (by kernel_rfl) (by kernel_rfl) (fun _ _ _ h => h) (Or.inr ⟨by rfl, rfl⟩) (by assumption) ?_
        try simp only [Act.put, List.setIfInBounds_toArray, List.set_cons_zero, List.set_cons_succ]
        refine wpAnyH_take (i := 9) (oi := { dst := some 80, op := Op.pick (Operand.tmp 73) (Operand.tmp 79) (Operand.const (Value.bool false)), type := 4, pos := "law.go:72", after := #[{ on := 2, ground := Ground.data }, { on := 8, ground := Ground.data }], guard := none }) (v := .bool false) rfl (by kernel_rfl) (by kernel_rfl) (by kernel_rfl) (fun _ _ _ h => h) (Or.inl ⟨by rfl, fun w hSw => ?_⟩) (by assumption) ?_
        · (try dsimp only at hSw)
          go_simp
        try simp only [Act.put, List.setIfInBounds_toArray, List.set_cons_zero, List.set_cons_succ]
        refine wpAnyH_take (i := 10) (oi := { dst := some 81, op := Op.move (Operand.tmp 80), type := 4, pos := "law.go:72", after := #[{ on := 9, ground := Ground.data }, { on := 4, ground := Ground.chain }], guard := none }) (v := .bool false) rfl (by kernel_rfl) (by kernel_rfl) (by kernel_rfl) (fun _ _ _ h => h) (Or.inl ⟨by rfl, fun w hSw => ?_⟩) (by assumption) ?_
        · (try dsimp only at hSw)
          go_simp
        try simp only [Act.put, List.setIfInBounds_toArray, List.set_cons_zero, List.set_cons_succ]
        refine wpAnyH_take (i := 11) (oi := { dst := some 82, op := Op.move (Operand.tmp 11), type := 36, pos := "law.go:72", after := #[{ on := 10, ground := Ground.guard }], guard := some (10, false) }) (v := .int .i64 1) rfl (by kernel_rfl) (by kernel_rfl) (by kernel_rfl) (fun _ _ _ h => h) (Or.inl ⟨by rfl, fun w hSw => ?_⟩) (by assumption) ?_
        · (try dsimp only at hSw)
          go_simp
        try simp only [Act.put, List.setIfInBounds_toArray, List.set_cons_zero, List.set_cons_succ]
        refine wpAnyH_take (i := 12) (oi := { dst := some 83, op := Op.binOp BinOp.eql 36 (Operand.tmp 82) (Operand.const (Value.int IntKind.i64 1)) 36, type := 4, pos := "law.go:72", after := #[{ on := 11, ground := Ground.data }, { on := 10, ground := Ground.guard }], guard := some (10, false) }) (v := .bool true) rfl (by kernel_rfl) (by kernel_rfl) (by kernel_rfl) (fun _ _ _ h => h) (Or.inl ⟨by rfl, fun w hSw => ?_⟩) (by assumption) ?_
        · (try dsimp only at hSw)
          go_simp
        try simp only [Act.put, List.setIfInBounds_toArray, List.set_cons_zero, List.set_cons_succ]
        refine wpAnyH_take (i := 13) (oi := { dst := some 84, op := Op.move (Operand.tmp 83), type := 4, pos := "law.go:72", after := #[{ on := 12, ground := Ground.data }, { on := 10, ground := Ground.chain }, { on := 10, ground := Ground.guard }], guard := some (10, false) }) (v := .bool true) rfl (by kernel_rfl) (by kernel_rfl) (by kernel_rfl) (fun _ _ _ h => h) (Or.inl ⟨by rfl, fun w hSw => ?_⟩) (by assumption) ?_
        · (try dsimp only at hSw)
          go_simp
        try simp only [Act.put, List.setIfInBounds_toArray, List.set_cons_zero, List.set_cons_succ]
        refine wpAnyH_take (i := 14) (oi := { dst := some 85, op := Op.fieldAddr 31 (Operand.tmp 12) 0, type := 0, pos := "law.go:72", after := #[{ on := 13, ground := Ground.guard }], guard := some (13, true) }) (v := .pointer (some ⟨k10.heap.size, 0, none⟩)) rfl (by kernel_rfl) (by kernel_rfl) (by kernel_rfl) (fun _ _ _ h => h) (Or.inl ⟨by rfl, fun w hSw => ?_⟩) (by assumption) ?_
        · (try dsimp only at hSw)
          go_simp
        try simp only [Act.put, List.setIfInBounds_toArray, List.set_cons_zero, List.set_cons_succ]
        refine wpAnyH_take (i := 15) (oi := { dst := some 86, op := Op.load 3 (Operand.tmp 85), type := 3, pos := "law.go:72", after := #[{ on := 14, ground := Ground.data }, { on := 13, ground := Ground.guard }], guard := some (13, true) }) (v := .int .i64 0) rfl (by kernel_rfl) (by kernel_rfl) (by kernel_rfl) (fun _ _ _ h => h) (Or.inl ⟨by rfl, fun w hSw => ?_⟩) (by assumption) ?_
        · (try dsimp only at hSw)
          go_simp
        try simp only [Act.put, List.setIfInBounds_toArray, List.set_cons_zero, List.set_cons_succ]
        refine wpAnyH_take (i := 16) (oi := { dst := some 87, op := Op.binOp BinOp.eql 3 (Operand.tmp 86) (Operand.const (Value.int IntKind.i64 0)) 3, type := 4, pos := "law.go:72", after := #[{ on := 15, ground := Ground.data }, { on := 13, ground := Ground.guard }], guard := some (13, true) }) (v := .bool true) rfl (by kernel_rfl) (by kernel_rfl) (by kernel_rfl) (fun _ _ _ h => h) (Or.inl ⟨by rfl, fun w hSw => ?_⟩) (by assumption) ?_
        · (try dsimp only at hSw)
          go_simp
        try simp only [Act.put, List.setIfInBounds_toArray, List.set_cons_zero, List.set_cons_succ]
        refine wpAnyH_take (i := 17) (oi := { dst := some 88, op := Op.pick (Operand.tmp 84) (Operand.tmp 87) (Operand.const (Value.bool false)), type := 4, pos := "law.go:72", after := #[{ on := 13, ground := Ground.data }, { on := 16, ground := Ground.data }, { on := 10, ground := Ground.guard }], guard := some (10, false) }) (v := .bool true) rfl (by kernel_rfl) (by kernel_rfl) (by kernel_rfl) (fun _ _ _ h => h) (Or.inl ⟨by rfl, fun w hSw => ?_⟩) (by assumption) ?_
        · (try dsimp only at hSw)
          go_simp
        try simp only [Act.put, List.setIfInBounds_toArray, List.set_cons_zero, List.set_cons_succ]
        refine wpAnyH_take (i := 18) (oi := { dst := some 89, op := Op.pick (Operand.tmp 81) (Operand.const (Value.bool true)) (Operand.tmp 88), type := 4, pos := "law.go:72", after := #[{ on := 10, ground := Ground.data }, { on := 17, ground := Ground.data }], guard := none }) (v := .bool true) rfl (by kernel_rfl) (by kernel_rfl) (by kernel_rfl) (fun _ _ _ h => h) (Or.inl ⟨by rfl, fun w hSw => ?_⟩) (by assumption) ?_
        · (try dsimp only at hSw)
          go_simp
        try simp only [Act.put, List.setIfInBounds_toArray, List.set_cons_zero, List.set_cons_succ]
        refine wpAnyH_ready (rs := [19]) (by kernel_rfl) (by simp) ?_
        refine AllReadyH.cons (o := { dst := some 6, op := Op.assign (Operand.tmp 89), type := 4, pos := "law.go:72", after := #[{ on := 18, ground := Ground.data }, { on := 13, ground := Ground.chain }, { on := 0, ground := Ground.phase }, { on := 1, ground := Ground.phase }, { on := 2, ground := Ground.phase }, { on := 3, ground := Ground.phase }, { on := 4, ground := Ground.phase }, { on := 5, ground := Ground.phase }, { on := 6, ground := Ground.phase }, { on := 7, ground := Ground.phase }, { on := 8, ground := Ground.phase }, { on := 9, ground := Ground.phase }, { on := 10, ground := Ground.phase }, { on := 11, ground := Ground.phase }, { on := 12, ground := Ground.phase }, { on := 13, ground := Ground.phase }, { on := 14, ground := Ground.phase }, { on := 15, ground := Ground.phase }, { on := 16, ground := Ground.phase }, { on := 17, ground := Ground.phase }, { on := 18, ground := Ground.phase }], guard := none }) rfl (fun K hK => ?_) (AllReadyH.nil)
        go_simp
        refine hK.out _ _ ?_ (fun hHeld => ?_)
        · exact ⟨d0, d1, d2⟩
        clear hK K
        try simp only [Act.put, List.setIfInBounds_toArray, List.set_cons_zero, List.set_cons_succ]
        refine wpAnyH_done (by kernel_rfl) ?_ _
        refine NoPanic.normal ?_
        go_wp2
        go_ret
        exact ⟨rfl, hb⟩
      · have HD := decR_yes hk
        obtain ⟨⟨dc, dq, ds⟩, hd⟩ : ∃ d, (rBat L2).1 = d := ⟨_, rfl⟩
        have hdok := rBat_ok L2 (by have := HLEN2.out; omega)
        have hd8 := rBat_len L2
        unfold okB at hk
        rw [Bool.and_eq_true, beq_iff_eq] at hk
        rw [hd] at HD hk hdok hd8
        have hm := enc_may hk.1
        rw [hk.2] at hm
        have HD2 := Lib.hid HD; clear HD
        have HE := Lib.hid hm.1
        clear hk hm hd
        have HDOK := Lib.hid hdok; clear hdok
        obtain ⟨S, hS⟩ : ∃ S : ByteArray, ⟨(L2).toArray⟩ = S := ⟨_, rfl⟩
        have HS := Lib.hid hS; clear hS
        go_wp2_with fail
        refine (decode_to _ _ _ _ L2 dc dq ds 0 _ (Byt.of_own HSET.out) (Nat.le_refl _) (by have := HLEN2.out; omega) HD2.out).mono ?_
        rintro e k10 ⟨A3, c3, rfl, hO, h⟩
        have hz := h.size
        try simp at hz
        replace hb := hb.trans (h.mono hb.size)
        have HO := Lib.hid hO; clear hO
        have HBZ := Lib.hid ((Byt.below (Byt.of_own HSET.out) h (Nat.le_refl _)).more h.size)
        clear h
        go_wp2
        refine wp_world (fun W => W.cell? ⟨k10.heap.size, 0, none⟩ = some (.int .i64 dc) ∧ W.cell? ⟨k10.heap.size, 1, none⟩ = some (.int .i64 dq) ∧ W.cell? ⟨k10.heap.size, 2, none⟩ = some (.slice A3 ds.length c3) ∧ Below (k10.heap.size) k10 W ∧ k10.heap.size + 1 ≤ W.heap.size) ⟨(by go_simp), (by go_simp), (by go_simp), (by
            repeat' (first | with_reducible exact Below.refl _ _ | (with_reducible refine Below.alloc ?_ ?_ _) | (with_reducible refine Below.setCell ?_ ?_ _) | exact (by first | (simp; done) | (simp; omega) | omega))), (by first | (simp; done) | (simp; omega) | omega)⟩ ?_
        rintro k11 ⟨d0, d1, d2, hk, hz⟩
        replace HO := Lib.hid (OwnO.below HO.out hk)
        replace HBZ := Lib.hid (Byt.below HBZ.out hk (by first | omega | (have := hb.size; omega)))
        replace hb : Below w.heap.size w k11 := hb.trans (hk.mono (by first | exact hb.size | omega | (simp; omega)))
        have lt0 : k10.heap.size < k11.heap.size := (by first | (simp; done) | (simp; omega) | omega)
        clear hk
        replace d0 : k11.drew.cell? ⟨k10.heap.size, 0, none⟩ = some (.int .i64 dc) := d0
        replace d1 : k11.drew.cell? ⟨k10.heap.size, 1, none⟩ = some (.int .i64 dq) := d1
        replace d2 : k11.drew.cell? ⟨k10.heap.size, 2, none⟩ = some (.slice A3 ds.length c3) := d2
        replace HO := Lib.hid (OwnO.below HO.out ((Below.refl k11.heap.size k11).drew))
        replace HBZ := Lib.hid (Byt.below HBZ.out ((Below.refl k11.heap.size k11).drew) (by first | omega | (have := hb.size; omega)))
        have cv : (convert 34 9 (.slice (some ⟨g, 0, none⟩) L.length cg)).run Try.prog k11.drew = .ok (.string S) k11.drew := conv_any HBZ.out HS.out
        refine wp_region_noPanic ?_
        refine wp_region_held_drew (S := fun W => W.cell? ⟨k10.heap.size, 0, none⟩ = some (.int .i64 dc) ∧ W.cell? ⟨k10.heap.size, 1, none⟩ = some (.int .i64 dq) ∧ W.cell? ⟨k10.heap.size, 2, none⟩ = some (.slice A3 ds.length c3) ∧ (convert 34 9 (.slice (some ⟨g, 0, none⟩) L.length cg)).run Try.prog W = .ok (.string S) W) (by kernel_rfl) ?_ (fun hHeld => ?_)
        · exact ⟨d0, d1, d2, cv⟩
        replace hb : Below w.heap.size w k11.drew := hb.drew
        replace lt0 : k10.heap.size < k11.drew.heap.size := lt0
        have hzd : k11.heap.size ≤ k11.drew.heap.size := Nat.le_refl _
        generalize k11.drew = k12 at *
        refine wpAnyH_take (i := 0) (oi := { dst := some 71, op := Op.move (Operand.tmp 11), type := 36, pos := "law.go:72", after := #[], guard := none }) (v := .int .i64 0) rfl (by kernel_rfl) (by kernel_rfl) (by kernel_rfl) (fun _ _ _ h => h) (Or.inl ⟨by rfl, fun w hSw => ?_⟩) (by assumption) ?_
        · (try dsimp only at hSw)
          go_simp
        try simp only [Act.put, List.setIfInBounds_toArray, List.set_cons_zero, List.set_cons_succ]
        refine wpAnyH_take (i := 1) (oi := { dst := some 72, op := Op.binOp BinOp.eql 36 (Operand.tmp 71) (Operand.const (Value.int IntKind.i64 0)) 36, type := 4, pos := "law.go:72", after := #[{ on := 0, ground := Ground.data }], guard := none }) (v := .bool true) rfl (by kernel_rfl) (by kernel_rfl) (by kernel_rfl) (fun _ _ _ h => h) (Or.inl ⟨by rfl, fun w hSw => ?_⟩) (by assumption) ?_
        · (try dsimp only at hSw)
          go_simp
        try simp only [Act.put, List.setIfInBounds_toArray, List.set_cons_zero, List.set_cons_succ]
        refine wpAnyH_take (i := 2) (oi := { dst := some 73, op := Op.move (Operand.tmp 72), type := 4, pos := "law.go:72", after := #[{ on := 1, ground := Ground.data }], guard := none }) (v := .bool true) rfl (by kernel_rfl) (by kernel_rfl) (by kernel_rfl) (fun _ _ _ h => h) (Or.inl ⟨by rfl, fun w hSw => ?_⟩) (by assumption) ?_
        · (try dsimp only at hSw)
          go_simp
        try simp only [Act.put, List.setIfInBounds_toArray, List.set_cons_zero, List.set_cons_succ]
        refine wpAnyH_take (i := 3) (oi := { dst := some 74, op := Op.load 31 (Operand.tmp 12), type := 31, pos := "law.go:72", after := #[{ on := 2, ground := Ground.guard }], guard := some (2, true) }) (v := .agg #[.int .i64 dc, .int .i64 dq, .slice A3 ds.length c3]) rfl (by kernel_rfl) (by kernel_rfl) (by kernel_rfl) (fun _ _ _ h => h) (Or.inl ⟨by rfl, fun w hSw => ?_⟩) (by assumption) ?_
        · (try dsimp only at hSw)
          go_simp
        try simp only [Act.put, List.setIfInBounds_toArray, List.set_cons_zero, List.set_cons_succ]
        refine wpAnyH_take (i := 6) (oi := { dst := some 77, op := Op.move (Operand.tmp 9), type := 34, pos := "law.go:72", after := #[{ on := 2, ground := Ground.guard }], guard := some (2, true) }) (v := .slice (some ⟨g, 0, none⟩) L.length cg) rfl (by kernel_rfl) (by kernel_rfl) (by kernel_rfl) (fun _ _ _ h => h) (Or.inl ⟨by rfl, fun w hSw => ?_⟩) (by assumption) ?_
        · (try dsimp only at hSw)
          go_simp
        try simp only [Act.put, List.setIfInBounds_toArray, List.set_cons_zero, List.set_cons_succ]
        refine wpAnyH_take (i := 7) (oi := { dst := some 78, op := Op.convert 34 9 (Operand.tmp 77), type := 9, pos := "law.go:72", after := #[{ on := 6, ground := Ground.data }, { on := 2, ground := Ground.guard }], guard := some (2, true) }) (v := .string S) rfl (by kernel_rfl) (by kernel_rfl) (by kernel_rfl) (fun _ _ _ h => h) (Or.inl ⟨by rfl, fun w hSw => ?_⟩) (by assumption) ?_
        · (try dsimp only at hSw)
          go_simp
        try simp only [Act.put, List.setIfInBounds_toArray, List.set_cons_zero, List.set_cons_succ]
        refine wpAnyH_ready (rs := [4]) (by kernel_rfl) (by simp) ?_
        refine AllReadyH.cons (o := { dst := some 75, op := Op.call { callee := Callee.value (Operand.func 18), args := #[Operand.tmp 74], argTypes := #[31] }, type := 34, pos := "law.go:72", after := #[{ on := 3, ground := Ground.data }, { on := 2, ground := Ground.chain }, { on := 2, ground := Ground.guard }], guard := some (2, true) }) rfl (fun K hK => ?_) (AllReadyH.nil)
        go_simp
        go_at_call 18
        refine (renc_to _ _ ⟨dc, dq, ds⟩ (L2) _ ⟨_, rfl, Ops.of_own HO.out⟩ (Nat.le_refl _) HDOK.out (Nat.le_trans hd8 (by decide)) HE.out).mono ?_
        rintro e k13 ⟨vE, rfl, hE, h⟩
        have hk : Below k12.heap.size k12 k13 := by
          refine Below.trans ?_ (h.mono (by first | (simp; done) | (simp; omega) | omega))
          repeat' (first | with_reducible exact Below.refl _ _ | (with_reducible refine Below.alloc ?_ ?_ _) | (with_reducible refine Below.setCell ?_ ?_ _) | exact (by first | (simp; done) | (simp; omega) | omega))
        have hz := h.size
        try simp at hz
        replace d0 : k13.cell? ⟨k10.heap.size, 0, none⟩ = some (.int .i64 dc) := (hk.cell (p := ⟨k10.heap.size, 0, none⟩) (by first | (simp; done) | (simp; omega) | omega)).trans d0
        replace d1 : k13.cell? ⟨k10.heap.size, 1, none⟩ = some (.int .i64 dq) := (hk.cell (p := ⟨k10.heap.size, 1, none⟩) (by first | (simp; done) | (simp; omega) | omega)).trans d1
        replace d2 : k13.cell? ⟨k10.heap.size, 2, none⟩ = some (.slice A3 ds.length c3) := (hk.cell (p := ⟨k10.heap.size, 2, none⟩) (by first | (simp; done) | (simp; omega) | omega)).trans d2
        replace HO := Lib.hid (OwnO.below HO.out hk)
        replace HBZ := Lib.hid (Byt.below HBZ.out hk (by first | omega | (have := hb.size; omega)))
        replace hb : Below w.heap.size w k13 := hb.trans (hk.mono hb.size)
        have lt0 : k10.heap.size < k13.heap.size := (by first | (simp; done) | (simp; omega) | omega)
        obtain ⟨AE, cE, rfl⟩ := own_slice hE
        have hcE := conv_any (Byt.of_own hE) HS.out
        clear hE
        clear h hk
        have cv : (convert 34 9 (.slice (some ⟨g, 0, none⟩) L.length cg)).run Try.prog k13 = .ok (.string S) k13 := conv_any HBZ.out HS.out
        try dsimp only
        refine hK.out _ _ ?_ (fun hHeld => ?_)
        · exact ⟨d0, d1, d2, cv⟩
        clear hK K
        try simp only [Act.put, List.setIfInBounds_toArray, List.set_cons_zero, List.set_cons_succ]
        refine wpAnyH_ready (rs := [5]) (by kernel_rfl) (by simp) ?_
        refine AllReadyH.cons (o := { dst := some 76, op := Op.convert 34 9 (Operand.tmp 75), type := 9, pos := "law.go:72", after := #[{ on := 4, ground := Ground.data }, { on := 2, ground := Ground.guard }], guard := some (2, true) }) rfl (fun K hK => ?_) (AllReadyH.nil)
        go_simp
        refine hK.out _ _ ?_ (fun hHeld => ?_)
        · exact ⟨d0, d1, d2, cv⟩
        clear hK K
        try simp only [Act.put, List.setIfInBounds_toArray, List.set_cons_zero, List.set_cons_succ]
        refine wpAnyH_take (i := 8) (oi := { dst := some 79, op := Op.binOp BinOp.eql 9 (Operand.tmp 76) (Operand.tmp 78) 9, type := 4, pos := "law.go:72", after := #[{ on := 5, ground := Ground.data }, { on := 7, ground := Ground.data }, { on := 2, ground := Ground.guard }], guard := some (2, true) }) (v := .bool true) rfl (by kernel_rfl) (by kernel_rfl) (by kernel_rfl) (fun _ _ _ h => h) (Or.inl ⟨by rfl, fun w hSw => ?_⟩) (by assumption) ?_
        · (try dsimp only at hSw)
          go_simp
        try simp only [Act.put, List.setIfInBounds_toArray, List.set_cons_zero, List.set_cons_succ]
        refine wpAnyH_take (i := 9) (oi := { dst := some 80, op := Op.pick (Operand.tmp 73) (Operand.tmp 79) (Operand.const (Value.bool false)), type := 4, pos := "law.go:72", after := #[{ on := 2, ground := Ground.data }, { on := 8, ground := Ground.data }], guard := none }) (v := .bool true) rfl (by kernel_rfl) (by kernel_rfl) (by kernel_rfl) (fun _ _ _ h => h) (Or.inl ⟨by rfl, fun w hSw => ?_⟩) (by assumption) ?_
        · (try dsimp only at hSw)
          go_simp
        try simp only [Act.put, List.setIfInBounds_toArray, List.set_cons_zero, List.set_cons_succ]
        refine wpAnyH_take (i := 10) (oi := { dst := some 81, op := Op.move (Operand.tmp 80), type := 4, pos := "law.go:72", after := #[{ on := 9, ground := Ground.data }, { on := 4, ground := Ground.chain }], guard := none }) (v := .bool true) rfl (by kernel_rfl) (by kernel_rfl) (by kernel_rfl) (fun _ _ _ h => h) (Or.inl ⟨by rfl, fun w hSw => ?_⟩) (by assumption) ?_
        · (try dsimp only at hSw)
          go_simp
        try simp only [Act.put, List.setIfInBounds_toArray, List.set_cons_zero, List.set_cons_succ]
        refine wpAnyH_take (i := 11) (oi := { dst := some 82, op := Op.move (Operand.tmp 11), type := 36, pos := "law.go:72", after := #[{ on := 10, ground := Ground.guard }], guard := some (10, false) }) (v := undef) rfl (by kernel_rfl) (by kernel_rfl) (by kernel_rfl) (fun _ _ _ h => h) (Or.inr ⟨by rfl, rfl⟩) (by assumption) ?_
        try simp only [Act.put, List.setIfInBounds_toArray, List.set_cons_zero, List.set_cons_succ]
        refine wpAnyH_take (i := 12) (oi := { dst := some 83, op := Op.binOp BinOp.eql 36 (Operand.tmp 82) (Operand.const (Value.int IntKind.i64 1)) 36, type := 4, pos := "law.go:72", after := #[{ on := 11, ground := Ground.data }, { on := 10, ground := Ground.guard }], guard := some (10, false) }) (v := undef) rfl (by kernel_rfl) (by kernel_rfl) (by kernel_rfl) (fun _ _ _ h => h) (Or.inr ⟨by rfl, rfl⟩) (by assumption) ?_
        try simp only [Act.put, List.setIfInBounds_toArray, List.set_cons_zero, List.set_cons_succ]
        refine wpAnyH_take (i := 13) (oi := { dst := some 84, op := Op.move (Operand.tmp 83), type := 4, pos := "law.go:72", after := #[{ on := 12, ground := Ground.data }, { on := 10, ground := Ground.chain }, { on := 10, ground := Ground.guard }], guard := some (10, false) }) (v := undef) rfl (by kernel_rfl) (by kernel_rfl) (by kernel_rfl) (fun _ _ _ h => h) (Or.inr ⟨by rfl, rfl⟩) (by assumption) ?_
        try simp only [Act.put, List.setIfInBounds_toArray, List.set_cons_zero, List.set_cons_succ]
        refine wpAnyH_take (i := 14) (oi := { dst := some 85, op := Op.fieldAddr 31 (Operand.tmp 12) 0, type := 0, pos := "law.go:72", after := #[{ on := 13, ground := Ground.guard }], guard := some (13, true) }) (v := undef) rfl (by kernel_rfl) (by kernel_rfl) (by kernel_rfl) (fun _ _ _ h => h) (Or.inr ⟨by rfl, rfl⟩) (by assumption) ?_
        try simp only [Act.put, List.setIfInBounds_toArray, List.set_cons_zero, List.set_cons_succ]
        refine wpAnyH_take (i := 15) (oi := { dst := some 86, op := Op.load 3 (Operand.tmp 85), type := 3, pos := "law.go:72", after := #[{ on := 14, ground := Ground.data }, { on := 13, ground := Ground.guard }], guard := some (13, true) }) (v := undef) rfl (by kernel_rfl) (by kernel_rfl) (by kernel_rfl) (fun _ _ _ h => h) (Or.inr ⟨by rfl, rfl⟩) (by assumption) ?_
        try simp only [Act.put, List.setIfInBounds_toArray, List.set_cons_zero, List.set_cons_succ]
        refine wpAnyH_take (i := 16) (oi := { dst := some 87, op := Op.binOp BinOp.eql 3 (Operand.tmp 86) (Operand.const (Value.int IntKind.i64 0)) 3, type := 4, pos := "law.go:72", after := #[{ on := 15, ground := Ground.data }, { on := 13, ground := Ground.guard }], guard := some (13, true) }) (v := undef) rfl (by kernel_rfl) (by kernel_rfl) (by kernel_rfl) (fun _ _ _ h => h) (Or.inr ⟨by rfl, rfl⟩) (by assumption) ?_
        try simp only [Act.put, List.setIfInBounds_toArray, List.set_cons_zero, List.set_cons_succ]
        refine wpAnyH_take (i := 17) (oi := { dst := some 88, op := Op.pick (Operand.tmp 84) (Operand.tmp 87) (Operand.const (Value.bool false)), type := 4, pos := "law.go:72", after := #[{ on := 13, ground := Ground.data }, { on := 16, ground := Ground.data }, { on := 10, ground := Ground.guard }], guard := some (10, false) }) (v := undef) rfl (by kernel_rfl) (by kernel_rfl) (by kernel_rfl) (fun _ _ _ h => h) (Or.inr ⟨by rfl, rfl⟩) (by assumption) ?_
        try simp only [Act.put, List.setIfInBounds_toArray, List.set_cons_zero, List.set_cons_succ]
        refine wpAnyH_take (i := 18) (oi := { dst := some 89, op := Op.pick (Operand.tmp 81) (Operand.const (Value.bool true)) (Operand.tmp 88), type := 4, pos := "law.go:72", after := #[{ on := 10, ground := Ground.data }, { on := 17, ground := Ground.data }], guard := none }) (v := .bool true) rfl (by kernel_rfl) (by kernel_rfl) (by kernel_rfl) (fun _ _ _ h => h) (Or.inl ⟨by rfl, fun w hSw => ?_⟩) (by assumption) ?_
        · (try dsimp only at hSw)
          go_simp
        try simp only [Act.put, List.setIfInBounds_toArray, List.set_cons_zero, List.set_cons_succ]
        refine wpAnyH_ready (rs := [19]) (by kernel_rfl) (by simp) ?_
        refine AllReadyH.cons (o := { dst := some 6, op := Op.assign (Operand.tmp 89), type := 4, pos := "law.go:72", after := #[{ on := 18, ground := Ground.data }, { on := 13, ground := Ground.chain }, { on := 0, ground := Ground.phase }, { on := 1, ground := Ground.phase }, { on := 2, ground := Ground.phase }, { on := 3, ground := Ground.phase }, { on := 4, ground := Ground.phase }, { on := 5, ground := Ground.phase }, { on := 6, ground := Ground.phase }, { on := 7, ground := Ground.phase }, { on := 8, ground := Ground.phase }, { on := 9, ground := Ground.phase }, { on := 10, ground := Ground.phase }, { on := 11, ground := Ground.phase }, { on := 12, ground := Ground.phase }, { on := 13, ground := Ground.phase }, { on := 14, ground := Ground.phase }, { on := 15, ground := Ground.phase }, { on := 16, ground := Ground.phase }, { on := 17, ground := Ground.phase }, { on := 18, ground := Ground.phase }], guard := none }) rfl (fun K hK => ?_) (AllReadyH.nil)
        go_simp
        refine hK.out _ _ ?_ (fun hHeld => ?_)
        · exact ⟨d0, d1, d2, cv⟩
        clear hK K
        try simp only [Act.put, List.setIfInBounds_toArray, List.set_cons_zero, List.set_cons_succ]
        refine wpAnyH_done (by kernel_rfl) ?_ _
        refine NoPanic.normal ?_
        go_wp2
        go_ret
        exact ⟨rfl, hb⟩
    · cases hk : okB L
      · have HD := Lib.hid (decR_no hk); clear hk
        go_wp2_with fail
        refine (decode_to _ _ _ _ L 0 0 [] 1 _ (Byt.of_own HEL.out) (Nat.le_refl _) (by omega) HD.out).mono ?_
        rintro e k10 ⟨A3, c3, rfl, hO, h⟩
        have hz := h.size
        try simp at hz
        replace hb := hb.trans (h.mono hb.size)
        clear h
        clear hO
        go_wp2
        refine wp_world (fun W => W.cell? ⟨k10.heap.size, 0, none⟩ = some (.int .i64 0) ∧ W.cell? ⟨k10.heap.size, 1, none⟩ = some (.int .i64 0) ∧ W.cell? ⟨k10.heap.size, 2, none⟩ = some (.slice A3 0 c3) ∧ Below (k10.heap.size) k10 W ∧ k10.heap.size + 1 ≤ W.heap.size) ⟨(by go_simp), (by go_simp), (by go_simp), (by
            repeat' (first | with_reducible exact Below.refl _ _ | (with_reducible refine Below.alloc ?_ ?_ _) | (with_reducible refine Below.setCell ?_ ?_ _) | exact (by first | (simp; done) | (simp; omega) | omega))), (by first | (simp; done) | (simp; omega) | omega)⟩ ?_
        rintro k11 ⟨d0, d1, d2, hk, hz⟩
        replace hb : Below w.heap.size w k11 := hb.trans (hk.mono (by first | exact hb.size | omega | (simp; omega)))
        have lt0 : k10.heap.size < k11.heap.size := (by first | (simp; done) | (simp; omega) | omega)
        clear hk
        replace d0 : k11.drew.cell? ⟨k10.heap.size, 0, none⟩ = some (.int .i64 0) := d0
        replace d1 : k11.drew.cell? ⟨k10.heap.size, 1, none⟩ = some (.int .i64 0) := d1
        replace d2 : k11.drew.cell? ⟨k10.heap.size, 2, none⟩ = some (.slice A3 0 c3) := d2
        refine wp_region_noPanic ?_
        refine wp_region_held_drew (S := fun W => W.cell? ⟨k10.heap.size, 0, none⟩ = some (.int .i64 0) ∧ W.cell? ⟨k10.heap.size, 1, none⟩ = some (.int .i64 0) ∧ W.cell? ⟨k10.heap.size, 2, none⟩ = some (.slice A3 0 c3)) (by kernel_rfl) ?_ (fun hHeld => ?_)
        · exact ⟨d0, d1, d2⟩
        replace hb : Below w.heap.size w k11.drew := hb.drew
        replace lt0 : k10.heap.size < k11.drew.heap.size := lt0
        have hzd : k11.heap.size ≤ k11.drew.heap.size := Nat.le_refl _
        generalize k11.drew = k12 at *
        refine wpAnyH_take (i := 0) (oi := { dst := some 71, op := Op.move (Operand.tmp 11), type := 36, pos := "law.go:72", after := #[], guard := none }) (v := .int .i64 1) rfl (by kernel_rfl) (by kernel_rfl) (by kernel_rfl) (fun _ _ _ h => h) (Or.inl ⟨by rfl, fun w hSw => ?_⟩) (by assumption) ?_
        · (try dsimp only at hSw)
          go_simp
        try simp only [Act.put, List.setIfInBounds_toArray, List.set_cons_zero, List.set_cons_succ]
        refine wpAnyH_take (i := 1) (oi := { dst := some 72, op := Op.binOp BinOp.eql 36 (Operand.tmp 71) (Operand.const (Value.int IntKind.i64 0)) 36, type := 4, pos := "law.go:72", after := #[{ on := 0, ground := Ground.data }], guard := none }) (v := .bool false) rfl (by kernel_rfl) (by kernel_rfl) (by kernel_rfl) (fun _ _ _ h => h) (Or.inl ⟨by rfl, fun w hSw => ?_⟩) (by assumption) ?_
        · (try dsimp only at hSw)
          go_simp
        try simp only [Act.put, List.setIfInBounds_toArray, List.set_cons_zero, List.set_cons_succ]
        refine wpAnyH_take (i := 2) (oi := { dst := some 73, op := Op.move (Operand.tmp 72), type := 4, pos := "law.go:72", after := #[{ on := 1, ground := Ground.data }], guard := none }) (v := .bool false) rfl (by kernel_rfl) (by kernel_rfl) (by kernel_rfl) (fun _ _ _ h => h) (Or.inl ⟨by rfl, fun w hSw => ?_⟩) (by assumption) ?_
        · (try dsimp only at hSw)
          go_simp
        try simp only [Act.put, List.setIfInBounds_toArray, List.set_cons_zero, List.set_cons_succ]
        refine wpAnyH_take (i := 3) (oi := { dst := some 74, op := Op.load 31 (Operand.tmp 12), type := 31, pos := "law.go:72", after := #[{ on := 2, ground := Ground.guard }], guard := some (2, true) }) (v := undef) rfl (by kernel_rfl) (by kernel_rfl) (by kernel_rfl) (fun _ _ _ h => h) (Or.inr ⟨by rfl, rfl⟩) (by assumption) ?_
        try simp only [Act.put, List.setIfInBounds_toArray, List.set_cons_zero, List.set_cons_succ]
        refine wpAnyH_take (i := 4) (oi := { dst := some 75, op := Op.call { callee := Callee.value (Operand.func 18), args := #[Operand.tmp 74], argTypes := #[31] }, type := 34, pos := "law.go:72", after := #[{ on := 3, ground := Ground.data }, { on := 2, ground := Ground.chain }, { on := 2, ground := Ground.guard }], guard := some (2, true) }) (v := undef) rfl (by kernel_rfl) (by kernel_rfl) (by kernel_rfl) (fun _ _ _ h => h) (Or.inr ⟨by rfl, rfl⟩) (by assumption) ?_
        try simp only [Act.put, List.setIfInBounds_toArray, List.set_cons_zero, List.set_cons_succ]
        refine wpAnyH_take (i := 5) (oi := { dst := some 76, op := Op.convert 34 9 (Operand.tmp 75), type := 9, pos := "law.go:72", after := #[{ on := 4, ground := Ground.data }, { on := 2, ground := Ground.guard }], guard := some (2, true) }) (v := undef) rfl (by kernel_rfl) (by kernel_rfl) (by kernel_rfl) (fun _ _ _ h => h) (Or.inr ⟨by rfl, rfl⟩) (by assumption) ?_
        try simp only [Act.put, List.setIfInBounds_toArray, List.set_cons_zero, List.set_cons_succ]
        refine wpAnyH_take (i := 6) (oi := { dst := some 77, op := Op.move (Operand.tmp 9), type := 34, pos := "law.go:72", after := #[{ on := 2, ground := Ground.guard }], guard := some (2, true) }) (v := undef) rfl (by kernel_rfl) (by kernel_rfl) (by kernel_rfl) (fun _ _ _ h => h) (Or.inr ⟨by rfl, rfl⟩) (by assumption) ?_
        try simp only [Act.put, List.setIfInBounds_toArray, List.set_cons_zero, List.set_cons_succ]
        refine wpAnyH_take (i := 7) (oi := { dst := some 78, op := Op.convert 34 9 (Operand.tmp 77), type := 9, pos := "law.go:72", after := #[{ on := 6, ground := Ground.data }, { on := 2, ground := Ground.guard }], guard := some (2, true) }) (v := undef) rfl (by kernel_rfl) (by kernel_rfl) (by kernel_rfl) (fun _ _ _ h => h) (Or.inr ⟨by rfl, rfl⟩) (by assumption) ?_
        try simp only [Act.put, List.setIfInBounds_toArray, List.set_cons_zero, List.set_cons_succ]
        refine wpAnyH_take (i := 8) (oi := { dst := some 79, op := Op.binOp BinOp.eql 9 (Operand.tmp 76) (Operand.tmp 78) 9, type := 4, pos := "law.go:72", after := #[{ on := 5, ground := Ground.data }, { on := 7, ground := Ground.data }, { on := 2, ground := Ground.guard }], guard := some (2, true) }) (v := undef) rfl (by kernel_rfl) (by kernel_rfl) (by kernel_rfl) (fun _ _ _ h => h) (Or.inr ⟨by rfl, rfl⟩) (by assumption) ?_
        try simp only [Act.put, List.setIfInBounds_toArray, List.set_cons_zero, List.set_cons_succ]
        refine wpAnyH_take (i := 9) (oi := { dst := some 80, op := Op.pick (Operand.tmp 73) (Operand.tmp 79) (Operand.const (Value.bool false)), type := 4, pos := "law.go:72", after := #[{ on := 2, ground := Ground.data }, { on := 8, ground := Ground.data }], guard := none }) (v := .bool false) rfl (by kernel_rfl) (by kernel_rfl) (by kernel_rfl) (fun _ _ _ h => h) (Or.inl ⟨by rfl, fun w hSw => ?_⟩) (by assumption) ?_
        · (try dsimp only at hSw)
          go_simp
        try simp only [Act.put, List.setIfInBounds_toArray, List.set_cons_zero, List.set_cons_succ]
        refine wpAnyH_take (i := 10) (oi := { dst := some 81, op := Op.move (Operand.tmp 80), type := 4, pos := "law.go:72", after := #[{ on := 9, ground := Ground.data }, { on := 4, ground := Ground.chain }], guard := none }) (v := .bool false) rfl (by kernel_rfl) (by kernel_rfl) (by kernel_rfl) (fun _ _ _ h => h) (Or.inl ⟨by rfl, fun w hSw => ?_⟩) (by assumption) ?_
        · (try dsimp only at hSw)
          go_simp
        try simp only [Act.put, List.setIfInBounds_toArray, List.set_cons_zero, List.set_cons_succ]
        refine wpAnyH_take (i := 11) (oi := { dst := some 82, op := Op.move (Operand.tmp 11), type := 36, pos := "law.go:72", after := #[{ on := 10, ground := Ground.guard }], guard := some (10, false) }) (v := .int .i64 1) rfl (by kernel_rfl) (by kernel_rfl) (by kernel_rfl) (fun _ _ _ h => h) (Or.inl ⟨by rfl, fun w hSw => ?_⟩) (by assumption) ?_
        · (try dsimp only at hSw)
          go_simp
        try simp only [Act.put, List.setIfInBounds_toArray, List.set_cons_zero, List.set_cons_succ]
        refine wpAnyH_take (i := 12) (oi := { dst := some 83, op := Op.binOp BinOp.eql 36 (Operand.tmp 82) (Operand.const (Value.int IntKind.i64 1)) 36, type := 4, pos := "law.go:72", after := #[{ on := 11, ground := Ground.data }, { on := 10, ground := Ground.guard }], guard := some (10, false) }) (v := .bool true) rfl (by kernel_rfl) (by kernel_rfl) (by kernel_rfl) (fun _ _ _ h => h) (Or.inl ⟨by rfl, fun w hSw => ?_⟩) (by assumption) ?_
        · (try dsimp only at hSw)
          go_simp
        try simp only [Act.put, List.setIfInBounds_toArray, List.set_cons_zero, List.set_cons_succ]
        refine wpAnyH_take (i := 13) (oi := { dst := some 84, op := Op.move (Operand.tmp 83), type := 4, pos := "law.go:72", after := #[{ on := 12, ground := Ground.data }, { on := 10, ground := Ground.chain }, { on := 10, ground := Ground.guard }], guard := some (10, false) }) (v := .bool true) rfl (by kernel_rfl) (by kernel_rfl) (by kernel_rfl) (fun _ _ _ h => h) (Or.inl ⟨by rfl, fun w hSw => ?_⟩) (by assumption) ?_
        · (try dsimp only at hSw)
          go_simp
        try simp only [Act.put, List.setIfInBounds_toArray, List.set_cons_zero, List.set_cons_succ]
        refine wpAnyH_take (i := 14) (oi := { dst := some 85, op := Op.fieldAddr 31 (Operand.tmp 12) 0, type := 0, pos := "law.go:72", after := #[{ on := 13, ground := Ground.guard }], guard := some (13, true) }) (v := .pointer (some ⟨k10.heap.size, 0, none⟩)) rfl (by kernel_rfl) (by kernel_rfl) (by kernel_rfl) (fun _ _ _ h => h) (Or.inl ⟨by rfl, fun w hSw => ?_⟩) (by assumption) ?_
        · (try dsimp only at hSw)
          go_simp
        try simp only [Act.put, List.setIfInBounds_toArray, List.set_cons_zero, List.set_cons_succ]
        refine wpAnyH_take (i := 15) (oi := { dst := some 86, op := Op.load 3 (Operand.tmp 85), type := 3, pos := "law.go:72", after := #[{ on := 14, ground := Ground.data }, { on := 13, ground := Ground.guard }], guard := some (13, true) }) (v := .int .i64 0) rfl (by kernel_rfl) (by kernel_rfl) (by kernel_rfl) (fun _ _ _ h => h) (Or.inl ⟨by rfl, fun w hSw => ?_⟩) (by assumption) ?_
        · (try dsimp only at hSw)
          go_simp
        try simp only [Act.put, List.setIfInBounds_toArray, List.set_cons_zero, List.set_cons_succ]
        refine wpAnyH_take (i := 16) (oi := { dst := some 87, op := Op.binOp BinOp.eql 3 (Operand.tmp 86) (Operand.const (Value.int IntKind.i64 0)) 3, type := 4, pos := "law.go:72", after := #[{ on := 15, ground := Ground.data }, { on := 13, ground := Ground.guard }], guard := some (13, true) }) (v := .bool true) rfl (by kernel_rfl) (by kernel_rfl) (by kernel_rfl) (fun _ _ _ h => h) (Or.inl ⟨by rfl, fun w hSw => ?_⟩) (by assumption) ?_
        · (try dsimp only at hSw)
          go_simp
        try simp only [Act.put, List.setIfInBounds_toArray, List.set_cons_zero, List.set_cons_succ]
        refine wpAnyH_take (i := 17) (oi := { dst := some 88, op := Op.pick (Operand.tmp 84) (Operand.tmp 87) (Operand.const (Value.bool false)), type := 4, pos := "law.go:72", after := #[{ on := 13, ground := Ground.data }, { on := 16, ground := Ground.data }, { on := 10, ground := Ground.guard }], guard := some (10, false) }) (v := .bool true) rfl (by kernel_rfl) (by kernel_rfl) (by kernel_rfl) (fun _ _ _ h => h) (Or.inl ⟨by rfl, fun w hSw => ?_⟩) (by assumption) ?_
        · (try dsimp only at hSw)
          go_simp
        try simp only [Act.put, List.setIfInBounds_toArray, List.set_cons_zero, List.set_cons_succ]
        refine wpAnyH_take (i := 18) (oi := { dst := some 89, op := Op.pick (Operand.tmp 81) (Operand.const (Value.bool true)) (Operand.tmp 88), type := 4, pos := "law.go:72", after := #[{ on := 10, ground := Ground.data }, { on := 17, ground := Ground.data }], guard := none }) (v := .bool true) rfl (by kernel_rfl) (by kernel_rfl) (by kernel_rfl) (fun _ _ _ h => h) (Or.inl ⟨by rfl, fun w hSw => ?_⟩) (by assumption) ?_
        · (try dsimp only at hSw)
          go_simp
        try simp only [Act.put, List.setIfInBounds_toArray, List.set_cons_zero, List.set_cons_succ]
        refine wpAnyH_ready (rs := [19]) (by kernel_rfl) (by simp) ?_
        refine AllReadyH.cons (o := { dst := some 6, op := Op.assign (Operand.tmp 89), type := 4, pos := "law.go:72", after := #[{ on := 18, ground := Ground.data }, { on := 13, ground := Ground.chain }, { on := 0, ground := Ground.phase }, { on := 1, ground := Ground.phase }, { on := 2, ground := Ground.phase }, { on := 3, ground := Ground.phase }, { on := 4, ground := Ground.phase }, { on := 5, ground := Ground.phase }, { on := 6, ground := Ground.phase }, { on := 7, ground := Ground.phase }, { on := 8, ground := Ground.phase }, { on := 9, ground := Ground.phase }, { on := 10, ground := Ground.phase }, { on := 11, ground := Ground.phase }, { on := 12, ground := Ground.phase }, { on := 13, ground := Ground.phase }, { on := 14, ground := Ground.phase }, { on := 15, ground := Ground.phase }, { on := 16, ground := Ground.phase }, { on := 17, ground := Ground.phase }, { on := 18, ground := Ground.phase }], guard := none }) rfl (fun K hK => ?_) (AllReadyH.nil)
        go_simp
        refine hK.out _ _ ?_ (fun hHeld => ?_)
        · exact ⟨d0, d1, d2⟩
        clear hK K
        try simp only [Act.put, List.setIfInBounds_toArray, List.set_cons_zero, List.set_cons_succ]
        refine wpAnyH_done (by kernel_rfl) ?_ _
        refine NoPanic.normal ?_
        go_wp2
        go_ret
        exact ⟨rfl, hb⟩
      · have HD := decR_yes hk
        obtain ⟨⟨dc, dq, ds⟩, hd⟩ : ∃ d, (rBat L).1 = d := ⟨_, rfl⟩
        have hdok := rBat_ok L (by omega)
        have hd8 := rBat_len L
        unfold okB at hk
        rw [Bool.and_eq_true, beq_iff_eq] at hk
        rw [hd] at HD hk hdok hd8
        have hm := enc_may hk.1
        rw [hk.2] at hm
        have HD2 := Lib.hid HD; clear HD
        have HE := Lib.hid hm.1
        clear hk hm hd
        have HDOK := Lib.hid hdok; clear hdok
        obtain ⟨S, hS⟩ : ∃ S : ByteArray, ⟨(L).toArray⟩ = S := ⟨_, rfl⟩
        have HS := Lib.hid hS; clear hS
        go_wp2_with fail
        refine (decode_to _ _ _ _ L dc dq ds 0 _ (Byt.of_own HEL.out) (Nat.le_refl _) (by omega) HD2.out).mono ?_
        rintro e k10 ⟨A3, c3, rfl, hO, h⟩
        have hz := h.size
        try simp at hz
        replace hb := hb.trans (h.mono hb.size)
        have HO := Lib.hid hO; clear hO
        have HBZ := Lib.hid ((Byt.below (Byt.of_own HEL.out) h (Nat.le_refl _)).more h.size)
        clear h
        go_wp2
        refine wp_world (fun W => W.cell? ⟨k10.heap.size, 0, none⟩ = some (.int .i64 dc) ∧ W.cell? ⟨k10.heap.size, 1, none⟩ = some (.int .i64 dq) ∧ W.cell? ⟨k10.heap.size, 2, none⟩ = some (.slice A3 ds.length c3) ∧ Below (k10.heap.size) k10 W ∧ k10.heap.size + 1 ≤ W.heap.size) ⟨(by go_simp), (by go_simp), (by go_simp), (by
            repeat' (first | with_reducible exact Below.refl _ _ | (with_reducible refine Below.alloc ?_ ?_ _) | (with_reducible refine Below.setCell ?_ ?_ _) | exact (by first | (simp; done) | (simp; omega) | omega))), (by first | (simp; done) | (simp; omega) | omega)⟩ ?_
        rintro k11 ⟨d0, d1, d2, hk, hz⟩
        replace HO := Lib.hid (OwnO.below HO.out hk)
        replace HBZ := Lib.hid (Byt.below HBZ.out hk (by first | omega | (have := hb.size; omega)))
        replace hb : Below w.heap.size w k11 := hb.trans (hk.mono (by first | exact hb.size | omega | (simp; omega)))
        have lt0 : k10.heap.size < k11.heap.size := (by first | (simp; done) | (simp; omega) | omega)
        clear hk
        replace d0 : k11.drew.cell? ⟨k10.heap.size, 0, none⟩ = some (.int .i64 dc) := d0
        replace d1 : k11.drew.cell? ⟨k10.heap.size, 1, none⟩ = some (.int .i64 dq) := d1
        replace d2 : k11.drew.cell? ⟨k10.heap.size, 2, none⟩ = some (.slice A3 ds.length c3) := d2
        replace HO := Lib.hid (OwnO.below HO.out ((Below.refl k11.heap.size k11).drew))
        replace HBZ := Lib.hid (Byt.below HBZ.out ((Below.refl k11.heap.size k11).drew) (by first | omega | (have := hb.size; omega)))
        have cv : (convert 34 9 (.slice (some ⟨ge, 0, none⟩) (L).length cL)).run Try.prog k11.drew = .ok (.string S) k11.drew := conv_any HBZ.out HS.out
        refine wp_region_noPanic ?_
        refine wp_region_held_drew (S := fun W => W.cell? ⟨k10.heap.size, 0, none⟩ = some (.int .i64 dc) ∧ W.cell? ⟨k10.heap.size, 1, none⟩ = some (.int .i64 dq) ∧ W.cell? ⟨k10.heap.size, 2, none⟩ = some (.slice A3 ds.length c3) ∧ (convert 34 9 (.slice (some ⟨ge, 0, none⟩) (L).length cL)).run Try.prog W = .ok (.string S) W) (by kernel_rfl) ?_ (fun hHeld => ?_)
        · exact ⟨d0, d1, d2, cv⟩
        replace hb : Below w.heap.size w k11.drew := hb.drew
        replace lt0 : k10.heap.size < k11.drew.heap.size := lt0
        have hzd : k11.heap.size ≤ k11.drew.heap.size := Nat.le_refl _
        generalize k11.drew = k12 at *
        refine wpAnyH_take (i := 0) (oi := { dst := some 71, op := Op.move (Operand.tmp 11), type := 36, pos := "law.go:72", after := #[], guard := none }) (v := .int .i64 0) rfl (by kernel_rfl) (by kernel_rfl) (by kernel_rfl) (fun _ _ _ h => h) (Or.inl ⟨by rfl, fun w hSw => ?_⟩) (by assumption) ?_
        · (try dsimp only at hSw)
          go_simp
        try simp only [Act.put, List.setIfInBounds_toArray, List.set_cons_zero, List.set_cons_succ]
        refine wpAnyH_take (i := 1) (oi := { dst := some 72, op := Op.binOp BinOp.eql 36 (Operand.tmp 71) (Operand.const (Value.int IntKind.i64 0)) 36, type := 4, pos := "law.go:72", after := #[{ on := 0, ground := Ground.data }], guard := none }) (v := .bool true) rfl (by kernel_rfl) (by kernel_rfl) (by kernel_rfl) (fun _ _ _ h => h) (Or.inl ⟨by rfl, fun w hSw => ?_⟩) (by assumption) ?_
        · (try dsimp only at hSw)
          go_simp
        try simp only [Act.put, List.setIfInBounds_toArray, List.set_cons_zero, List.set_cons_succ]
        refine wpAnyH_take (i := 2) (oi := { dst := some 73, op := Op.move (Operand.tmp 72), type := 4, pos := "law.go:72", after := #[{ on := 1, ground := Ground.data }], guard := none }) (v := .bool true) rfl (by kernel_rfl) (by kernel_rfl) (by kernel_rfl) (fun _ _ _ h => h) (Or.inl ⟨by rfl, fun w hSw => ?_⟩) (by assumption) ?_
        · (try dsimp only at hSw)
          go_simp
        try simp only [Act.put, List.setIfInBounds_toArray, List.set_cons_zero, List.set_cons_succ]
        refine wpAnyH_take (i := 3) (oi := { dst := some 74, op := Op.load 31 (Operand.tmp 12), type := 31, pos := "law.go:72", after := #[{ on := 2, ground := Ground.guard }], guard := some (2, true) }) (v := .agg #[.int .i64 dc, .int .i64 dq, .slice A3 ds.length c3]) rfl (by kernel_rfl) (by kernel_rfl) (by kernel_rfl) (fun _ _ _ h => h) (Or.inl ⟨by rfl, fun w hSw => ?_⟩) (by assumption) ?_
        · (try dsimp only at hSw)
          go_simp
        try simp only [Act.put, List.setIfInBounds_toArray, List.set_cons_zero, List.set_cons_succ]
        refine wpAnyH_take (i := 6) (oi := { dst := some 77, op := Op.move (Operand.tmp 9), type := 34, pos := "law.go:72", after := #[{ on := 2, ground := Ground.guard }], guard := some (2, true) }) (v := .slice (some ⟨ge, 0, none⟩) (L).length cL) rfl (by kernel_rfl) (by kernel_rfl) (by kernel_rfl) (fun _ _ _ h => h) (Or.inl ⟨by rfl, fun w hSw => ?_⟩) (by assumption) ?_
        · (try dsimp only at hSw)
          go_simp
        try simp only [Act.put, List.setIfInBounds_toArray, List.set_cons_zero, List.set_cons_succ]
        refine wpAnyH_take (i := 7) (oi := { dst := some 78, op := Op.convert 34 9 (Operand.tmp 77), type := 9, pos := "law.go:72", after := #[{ on := 6, ground := Ground.data }, { on := 2, ground := Ground.guard }], guard := some (2, true) }) (v := .string S) rfl (by kernel_rfl) (by kernel_rfl) (by kernel_rfl) (fun _ _ _ h => h) (Or.inl ⟨by rfl, fun w hSw => ?_⟩) (by assumption) ?_
        · (try dsimp only at hSw)
          go_simp
        try simp only [Act.put, List.setIfInBounds_toArray, List.set_cons_zero, List.set_cons_succ]
        refine wpAnyH_ready (rs := [4]) (by kernel_rfl) (by simp) ?_
        refine AllReadyH.cons (o := { dst := some 75, op := Op.call { callee := Callee.value (Operand.func 18), args := #[Operand.tmp 74], argTypes := #[31] }, type := 34, pos := "law.go:72", after := #[{ on := 3, ground := Ground.data }, { on := 2, ground := Ground.chain }, { on := 2, ground := Ground.guard }], guard := some (2, true) }) rfl (fun K hK => ?_) (AllReadyH.nil)
        go_simp
        go_at_call 18
        refine (renc_to _ _ ⟨dc, dq, ds⟩ (L) _ ⟨_, rfl, Ops.of_own HO.out⟩ (Nat.le_refl _) HDOK.out (Nat.le_trans hd8 (by decide)) HE.out).mono ?_
        rintro e k13 ⟨vE, rfl, hE, h⟩
        have hk : Below k12.heap.size k12 k13 := by
          refine Below.trans ?_ (h.mono (by first | (simp; done) | (simp; omega) | omega))
          repeat' (first | with_reducible exact Below.refl _ _ | (with_reducible refine Below.alloc ?_ ?_ _) | (with_reducible refine Below.setCell ?_ ?_ _) | exact (by first | (simp; done) | (simp; omega) | omega))
        have hz := h.size
        try simp at hz
        replace d0 : k13.cell? ⟨k10.heap.size, 0, none⟩ = some (.int .i64 dc) := (hk.cell (p := ⟨k10.heap.size, 0, none⟩) (by first | (simp; done) | (simp; omega) | omega)).trans d0
        replace d1 : k13.cell? ⟨k10.heap.size, 1, none⟩ = some (.int .i64 dq) := (hk.cell (p := ⟨k10.heap.size, 1, none⟩) (by first | (simp; done) | (simp; omega) | omega)).trans d1
        replace d2 : k13.cell? ⟨k10.heap.size, 2, none⟩ = some (.slice A3 ds.length c3) := (hk.cell (p := ⟨k10.heap.size, 2, none⟩) (by first | (simp; done) | (simp; omega) | omega)).trans d2
        replace HO := Lib.hid (OwnO.below HO.out hk)
        replace HBZ := Lib.hid (Byt.below HBZ.out hk (by first | omega | (have := hb.size; omega)))
        replace hb : Below w.heap.size w k13 := hb.trans (hk.mono hb.size)
        have lt0 : k10.heap.size < k13.heap.size := (by first | (simp; done) | (simp; omega) | omega)
        obtain ⟨AE, cE, rfl⟩ := own_slice hE
        have hcE := conv_any (Byt.of_own hE) HS.out
        clear hE
        clear h hk
        have cv : (convert 34 9 (.slice (some ⟨ge, 0, none⟩) (L).length cL)).run Try.prog k13 = .ok (.string S) k13 := conv_any HBZ.out HS.out
        try dsimp only
        refine hK.out _ _ ?_ (fun hHeld => ?_)
        · exact ⟨d0, d1, d2, cv⟩
        clear hK K
        try simp only [Act.put, List.setIfInBounds_toArray, List.set_cons_zero, List.set_cons_succ]
        refine wpAnyH_ready (rs := [5]) (by kernel_rfl) (by simp) ?_
        refine AllReadyH.cons (o := { dst := some 76, op := Op.convert 34 9 (Operand.tmp 75), type := 9, pos := "law.go:72", after := #[{ on := 4, ground := Ground.data }, { on := 2, ground := Ground.guard }], guard := some (2, true) }) rfl (fun K hK => ?_) (AllReadyH.nil)
        go_simp
        refine hK.out _ _ ?_ (fun hHeld => ?_)
        · exact ⟨d0, d1, d2, cv⟩
        clear hK K
        try simp only [Act.put, List.setIfInBounds_toArray, List.set_cons_zero, List.set_cons_succ]
        refine wpAnyH_take (i := 8) (oi := { dst := some 79, op := Op.binOp BinOp.eql 9 (Operand.tmp 76) (Operand.tmp 78) 9, type := 4, pos := "law.go:72", after := #[{ on := 5, ground := Ground.data }, { on := 7, ground := Ground.data }, { on := 2, ground := Ground.guard }], guard := some (2, true) }) (v := .bool true) rfl (by kernel_rfl) (by kernel_rfl) (by kernel_rfl) (fun _ _ _ h => h) (Or.inl ⟨by rfl, fun w hSw => ?_⟩) (by assumption) ?_
        · (try dsimp only at hSw)
          go_simp
        try simp only [Act.put, List.setIfInBounds_toArray, List.set_cons_zero, List.set_cons_succ]
        refine wpAnyH_take (i := 9) (oi := { dst := some 80, op := Op.pick (Operand.tmp 73) (Operand.tmp 79) (Operand.const (Value.bool false)), type := 4, pos := "law.go:72", after := #[{ on := 2, ground := Ground.data }, { on := 8, ground := Ground.data }], guard := none }) (v := .bool true) rfl (by kernel_rfl) (by kernel_rfl) (by kernel_rfl) (fun _ _ _ h => h) (Or.inl ⟨by rfl, fun w hSw => ?_⟩) (by assumption) ?_
        · (try dsimp only at hSw)
          go_simp
        try simp only [Act.put, List.setIfInBounds_toArray, List.set_cons_zero, List.set_cons_succ]
        refine wpAnyH_take (i := 10) (oi := { dst := some 81, op := Op.move (Operand.tmp 80), type := 4, pos := "law.go:72", after := #[{ on := 9, ground := Ground.data }, { on := 4, ground := Ground.chain }], guard := none }) (v := .bool true) rfl (by kernel_rfl) (by kernel_rfl) (by kernel_rfl) (fun _ _ _ h => h) (Or.inl ⟨by rfl, fun w hSw => ?_⟩) (by assumption) ?_
        · (try dsimp only at hSw)
          go_simp
        try simp only [Act.put, List.setIfInBounds_toArray, List.set_cons_zero, List.set_cons_succ]
        refine wpAnyH_take (i := 11) (oi := { dst := some 82, op := Op.move (Operand.tmp 11), type := 36, pos := "law.go:72", after := #[{ on := 10, ground := Ground.guard }], guard := some (10, false) }) (v := undef) rfl (by kernel_rfl) (by kernel_rfl) (by kernel_rfl) (fun _ _ _ h => h) (Or.inr ⟨by rfl, rfl⟩) (by assumption) ?_
        try simp only [Act.put, List.setIfInBounds_toArray, List.set_cons_zero, List.set_cons_succ]
        refine wpAnyH_take (i := 12) (oi := { dst := some 83, op := Op.binOp BinOp.eql 36 (Operand.tmp 82) (Operand.const (Value.int IntKind.i64 1)) 36, type := 4, pos := "law.go:72", after := #[{ on := 11, ground := Ground.data }, { on := 10, ground := Ground.guard }], guard := some (10, false) }) (v := undef) rfl (by kernel_rfl) (by kernel_rfl) (by kernel_rfl) (fun _ _ _ h => h) (Or.inr ⟨by rfl, rfl⟩) (by assumption) ?_
        try simp only [Act.put, List.setIfInBounds_toArray, List.set_cons_zero, List.set_cons_succ]
        refine wpAnyH_take (i := 13) (oi := { dst := some 84, op := Op.move (Operand.tmp 83), type := 4, pos := "law.go:72", after := #[{ on := 12, ground := Ground.data }, { on := 10, ground := Ground.chain }, { on := 10, ground := Ground.guard }], guard := some (10, false) }) (v := undef) rfl (by kernel_rfl) (by kernel_rfl) (by kernel_rfl) (fun _ _ _ h => h) (Or.inr ⟨by rfl, rfl⟩) (by assumption) ?_
        try simp only [Act.put, List.setIfInBounds_toArray, List.set_cons_zero, List.set_cons_succ]
        refine wpAnyH_take (i := 14) (oi := { dst := some 85, op := Op.fieldAddr 31 (Operand.tmp 12) 0, type := 0, pos := "law.go:72", after := #[{ on := 13, ground := Ground.guard }], guard := some (13, true) }) (v := undef) rfl (by kernel_rfl) (by kernel_rfl) (by kernel_rfl) (fun _ _ _ h => h) (Or.inr ⟨by rfl, rfl⟩) (by assumption) ?_
        try simp only [Act.put, List.setIfInBounds_toArray, List.set_cons_zero, List.set_cons_succ]
        refine wpAnyH_take (i := 15) (oi := { dst := some 86, op := Op.load 3 (Operand.tmp 85), type := 3, pos := "law.go:72", after := #[{ on := 14, ground := Ground.data }, { on := 13, ground := Ground.guard }], guard := some (13, true) }) (v := undef) rfl (by kernel_rfl) (by kernel_rfl) (by kernel_rfl) (fun _ _ _ h => h) (Or.inr ⟨by rfl, rfl⟩) (by assumption) ?_
        try simp only [Act.put, List.setIfInBounds_toArray, List.set_cons_zero, List.set_cons_succ]
        refine wpAnyH_take (i := 16) (oi := { dst := some 87, op := Op.binOp BinOp.eql 3 (Operand.tmp 86) (Operand.const (Value.int IntKind.i64 0)) 3, type := 4, pos := "law.go:72", after := #[{ on := 15, ground := Ground.data }, { on := 13, ground := Ground.guard }], guard := some (13, true) }) (v := undef) rfl (by kernel_rfl) (by kernel_rfl) (by kernel_rfl) (fun _ _ _ h => h) (Or.inr ⟨by rfl, rfl⟩) (by assumption) ?_
        try simp only [Act.put, List.setIfInBounds_toArray, List.set_cons_zero, List.set_cons_succ]
        refine wpAnyH_take (i := 17) (oi := { dst := some 88, op := Op.pick (Operand.tmp 84) (Operand.tmp 87) (Operand.const (Value.bool false)), type := 4, pos := "law.go:72", after := #[{ on := 13, ground := Ground.data }, { on := 16, ground := Ground.data }, { on := 10, ground := Ground.guard }], guard := some (10, false) }) (v := undef) rfl (by kernel_rfl) (by kernel_rfl) (by kernel_rfl) (fun _ _ _ h => h) (Or.inr ⟨by rfl, rfl⟩) (by assumption) ?_
        try simp only [Act.put, List.setIfInBounds_toArray, List.set_cons_zero, List.set_cons_succ]
        refine wpAnyH_take (i := 18) (oi := { dst := some 89, op := Op.pick (Operand.tmp 81) (Operand.const (Value.bool true)) (Operand.tmp 88), type := 4, pos := "law.go:72", after := #[{ on := 10, ground := Ground.data }, { on := 17, ground := Ground.data }], guard := none }) (v := .bool true) rfl (by kernel_rfl) (by kernel_rfl) (by kernel_rfl) (fun _ _ _ h => h) (Or.inl ⟨by rfl, fun w hSw => ?_⟩) (by assumption) ?_
        · (try dsimp only at hSw)
          go_simp
        try simp only [Act.put, List.setIfInBounds_toArray, List.set_cons_zero, List.set_cons_succ]
        refine wpAnyH_ready (rs := [19]) (by kernel_rfl) (by simp) ?_
        refine AllReadyH.cons (o := { dst := some 6, op := Op.assign (Operand.tmp 89), type := 4, pos := "law.go:72", after := #[{ on := 18, ground := Ground.data }, { on := 13, ground := Ground.chain }, { on := 0, ground := Ground.phase }, { on := 1, ground := Ground.phase }, { on := 2, ground := Ground.phase }, { on := 3, ground := Ground.phase }, { on := 4, ground := Ground.phase }, { on := 5, ground := Ground.phase }, { on := 6, ground := Ground.phase }, { on := 7, ground := Ground.phase }, { on := 8, ground := Ground.phase }, { on := 9, ground := Ground.phase }, { on := 10, ground := Ground.phase }, { on := 11, ground := Ground.phase }, { on := 12, ground := Ground.phase }, { on := 13, ground := Ground.phase }, { on := 14, ground := Ground.phase }, { on := 15, ground := Ground.phase }, { on := 16, ground := Ground.phase }, { on := 17, ground := Ground.phase }, { on := 18, ground := Ground.phase }], guard := none }) rfl (fun K hK => ?_) (AllReadyH.nil)
        go_simp
        refine hK.out _ _ ?_ (fun hHeld => ?_)
        · exact ⟨d0, d1, d2, cv⟩
        clear hK K
        try simp only [Act.put, List.setIfInBounds_toArray, List.set_cons_zero, List.set_cons_succ]
        refine wpAnyH_done (by kernel_rfl) ?_ _
        refine NoPanic.normal ?_
        go_wp2
        go_ret
        exact ⟨rfl, hb⟩

set_option maxRecDepth 100000 in
theorem lifted (os : Os) (started : os.Started) (H : Type) (enc : TypeId × Value → H) :
    ReturnsInHanded {} Try.checked os 4 .any (Rows.batchBytesSpec.pre6 enc Try.prog Try.f4 Rows.batchBytesRow.domain false) (Rows.batchBytesSpec.post enc Try.prog Try.f4 false true false false) := by
  refine returnsInHanded_of_change (C := Try.checked) own started (by kernel_rfl) Try.func4
    (ChangeSpec.witness6 (enc := enc) (C := Try.checked) false ⟨#[], #[.agg #[.int .i64 0, .int .i64 0, .slice none 0 0], .int .i64 0, .int .u8 0], []⟩ 8 (by kernel_rfl) (by kernel_rfl) (by kernel_rfl) (by kernel_rfl)) ?_
  intro W base args ds gs before hval0 hW hcnd _
  have hval : ∀ (j : Nat) t v, Try.f4.params[j]? = some t → args[j]? = some v → Value.okWide Try.prog W .any base t v := hval0
  have hW' := hW
  obtain ⟨p, q, hA0, hV, rfl, hfz, hnd⟩ := hW
  have hA : DataW.TrodAll enc Try.prog W 0 (fun _ => true) true Try.f4.params.toList args.toList ds p := hA0
  have hA1 := hA
  rw [Try.params4] at hA hval
  obtain ⟨v0, vs0, d0, ds0, p0, q0, hargs, rfl, rfl, h0, r0⟩ := trodAll_cons hA
  obtain ⟨v1, vs1, d1, ds1, p1, q1, rfl, rfl, rfl, h1, r1⟩ := trodAll_cons r0
  obtain ⟨v2, vs2, d2, ds2, p2, q2, rfl, rfl, rfl, h2, r2⟩ := trodAll_cons r1
  obtain ⟨rfl, rfl, rfl⟩ := trodAll_nil r2
  obtain rfl : args = #[v0, v1, v2] := by cases args; simp_all
  obtain ⟨rfl, rfl⟩ := trodVars_none hV
  obtain ⟨a0, A0, c0, rfl, w0, x0⟩ := open_bat (hval 0 31 v0 rfl rfl) h0
  obtain ⟨a1, rfl, rfl, rfl, w1⟩ := open_int Try.underlying3 (hval 1 3 v1 rfl rfl) h1
  obtain ⟨a2, rfl, rfl, rfl, w2⟩ := open_int Try.underlying5 (hval 2 5 v2 rfl rfl) h2
  clear hA0 hval0
  simp only [List.append_nil] at hW'
  try simp only [List.append_nil] at hA1
  refine (walk W a0 A0 c0 w0 x0 a1 w1 a2 w2).mono fun e W' ⟨he, hg⟩ => ?_
  subst he
  exact ⟨_, rfl, law_end Try.laidOut (by kernel_rfl) hW' hA1 hg rfl rfl rfl (trodAll_mk1 (shut_bool Try.underlying4 _))⟩

theorem over : Rows.batchBytesRow.holds Try.pinned (OpenSpec.ofChange Rows.batchBytesSpec) :=
  OpenClaim.holds_of_wide 4 Try.f4 rfl rfl rfl rfl rfl rfl rfl ⟨rfl, rfl, rfl, rfl, rfl⟩ rfl rfl rfl rfl rfl (by kernel_rfl) Try.func4 (by kernel_rfl)
    (of_decide_eq_true (by kernel_rfl)) (by unfold Func.isWrapper; first | (rw [if_pos (by decide +kernel)]; kernel_rfl) | (rw [if_neg (by decide +kernel)]; exact ⟨rfl, rfl⟩))
    (fun os started H enc _ => lifted os started H enc)

/-- the statement -/
theorem proved : Rows.BatchBytesSaid := over
#print axioms proved
end Go.Proofs.Ytdhppekfehbngaa.batchBytes
