/-
  Two batches have one text of bytes just if they are one. There are no conditions.
-/
import Derived.Test.YtdhppekfehbngaaRows
import Derived.Test.YtdhppekfehbngaaL5Begun
import Derived.Test.YtdhppekfehbngaaL5CutBatch
import Derived.Test.YtdhppekfehbngaaL5Open
import Derived.Test.YtdhppekfehbngaaLawKit
import Derived.WalkKit
import Derived.ProofKit
import Derived.OpenShut
import Derived.ShutString
set_option linter.unusedSimpArgs false
set_option linter.unusedVariables false
namespace Go.Proofs.Ytdhppekfehbngaa.batchTwins
open Go.ChangeShapes Go.WideShapes Go.ChangeAt Go.RowKit
open Go.ChangeMaps (open_string shut_string)
set_option linter.unusedVariables false

theorem own : ownKnob Try.prog.godebug = none := by kernel_rfl
theorem conv_any {w : World} {B n c : Nat} {A : Option Addr} {l : List UInt8} {S : ByteArray} (h : Byt w B (.slice A n c) l) (hS : (⟨l.toArray⟩ : ByteArray) = S) : (convert 34 9 (.slice A n c)).run Try.prog w = .ok (.string S) w := by
  have e : n = l.length := by obtain ⟨_, _, hv, _⟩ := h; injection hv
  rw [(byt_in h).convert (by rw [List.length_map, e]) c 34 5 9 Try.underlying34 Try.underlying5 Try.underlying9, ← hS]
  congr 2
  unfold strOfNums
  rw [List.map_map]
  congr 2
  conv => rhs; rw [← List.map_id l]
  apply List.map_congr_left; intro x _; simp
theorem renc_to (B : Nat) (v : Value) (b : Bat) (l : List UInt8) (w : World) (h : BatV w B v b) (hB : B ≤ w.heap.size) (hok : b.ok) (hl : b.ops.length ≤ 1000) (he : encB b = l) : Calls Try.prog 18 #[v] w (Made l w) := by
  rw [← he]; exact rencodeBatch_any B v b w h hB hok hl
theorem fit_ints {o : Opn} (h : o.fit) : o.ints := ⟨h.1, h.2.2.2.2, h.2.2.1.1, h.2.2.1.2.1, h.2.2.2.1.1, h.2.2.2.1.2.1⟩
theorem byt_take {w : World} {B n c : Nat} {A : Option Addr} {l : List UInt8} (h : Byt w B (.slice A l.length c) l) (hn : n ≤ l.length) : Byt w B (.slice A n c) (l.take n) := by
  obtain ⟨A', c', hv, hc, hcell⟩ := h
  injection hv with e1 _ e2; subst e1; subst e2
  have e : (l.take n).length = n := by rw [List.length_take]; omega
  refine ⟨A, c, by rw [e], by rw [e]; omega, fun h0 => ?_⟩
  rw [e] at h0
  obtain ⟨g, o, rfl, hg, hcs⟩ := hcell (by omega)
  refine ⟨g, o, rfl, hg, fun k hk => ?_⟩
  rw [e] at hk
  rw [hcs k (by omega)]; simp
theorem enc_may {b : Bat} (h : mayB b = true) : encB b = bytesB b ∧ 1 ≤ (encB b).length ∧ (encB b).length ≤ 1200 := by
  have he : encB b = bytesB b := by unfold encB; rw [h]; rfl
  refine ⟨he, ?_, ?_⟩
  · rw [he]; unfold bytesB; have := Nu.put_ne b.client; simp only [List.length_append]; omega
  · rw [mayB_parts, Bool.and_eq_true, decide_eq_true_eq] at h; rw [he]; exact h.2
theorem enc_none {b : Bat} (h : mayB b = false) : encB b = [] := by unfold encB; rw [h]; rfl
theorem dec_less {b : Bat} (h : mayB b = true) (hok : b.ok) (n : Nat) (hn : n < (encB b).length) : decR ((encB b).take n) = (⟨0, 0, []⟩, 1) := by
  have hm := enc_may h
  apply decR_no
  cases ho : okB ((encB b).take n) with
  | false => rfl
  | true =>
    exfalso
    unfold okB at ho
    rw [Bool.and_eq_true, beq_iff_eq] at ho
    have hd := rBat_ok ((encB b).take n) (by rw [List.length_take]; omega)
    have h2 : bytesB (rBat ((encB b).take n)).1 ++ (encB b).drop n = bytesB b ++ [] := by rw [ho.2, List.take_append_drop, hm.1, List.append_nil]
    have h3 := (bytesB_inj ho.1 h hd hok h2).2
    have := congrArg List.length h3
    rw [List.length_drop] at this; simp at this; omega
theorem dec_more {b : Bat} (h : mayB b = true) (hok : b.ok) (x : UInt8) : decR (encB b ++ [x]) = (⟨0, 0, []⟩, 1) := by
  have hm := enc_may h
  apply decR_no
  cases ho : okB (encB b ++ [x]) with
  | false => rfl
  | true =>
    exfalso
    unfold okB at ho
    rw [Bool.and_eq_true, beq_iff_eq] at ho
    have hd := rBat_ok (encB b ++ [x]) (by rw [List.length_append]; simp; omega)
    have h2 : bytesB (rBat (encB b ++ [x])).1 ++ [] = bytesB b ++ [x] := by rw [ho.2, hm.1, List.append_nil]
    have h3 := (bytesB_inj ho.1 h hd hok h2).2
    cases h3
theorem cut_bat {c q : Int} {m : List Opn} (h1 : I64 c) (h2 : I64 q) (h : ∀ x ∈ m, x.ok) : (Bat.mk c q m).ok := ⟨h1, h2, h⟩
def MeetX (R : Act → World → Prop) : Exit → Act → World → Prop
  | .normal, a, W => R a W
  | _, _, _ => False
theorem wp_meetx {P : Program} {c : Code} {Q : Exit → Act → World → Prop} {a : Act} {w : World} (R : Act → Act → World → Prop) (h1 : c.wp P (MeetX (R a)) a w) (h2 : ∀ b W, R a b W → Q .normal b W) : c.wp P Q a w :=
  Code.wp_mono (fun e b W h => by
    cases e with
    | normal => exact h2 b W h
    | _ => exact h.elim) h1
theorem twins {a b : Bat} (ha : mayB a = true) (hb : mayB b = true) (hao : a.ok) (hbo : b.ok) (S T : ByteArray) (hS : (⟨(encB a).toArray⟩ : ByteArray) = S) (hT : (⟨(encB b).toArray⟩ : ByteArray) = T) : (S == T) = eqB a b := by
  have e1 := (enc_may ha).1
  have e2 := (enc_may hb).1
  cases hq : eqB a b with
  | true =>
    have := eqB_iff.1 hq
    subst this
    rw [← hS, ← hT]; exact (bytes_beq2 _ _).2 rfl
  | false =>
    cases hs : (S == T) with
    | false => rfl
    | true =>
      exfalso
      have h := (bytes_beq2 S T).1 hs
      rw [← hS, ← hT] at h
      have h2 : encB a = encB b := by injection h with h; simpa using h
      rw [e1, e2] at h2
      have h3 := (bytesB_inj (r := []) (t := []) ha hb hao hbo (by rw [h2])).1
      rw [h3, eqB_iff.2 rfl] at hq; cases hq
theorem list_beq (S T : ByteArray) : (S.toList == T.toList) = (S == T) := by
  cases h : (S == T) with
  | true => have e := (bytes_beq2 S T).1 h; subst e; exact beq_self_eq_true _
  | false =>
    rw [beq_eq_false_iff_ne]
    intro e
    have e2 := toList_inj e
    subst e2
    rw [(bytes_beq2 S S).2 rfl] at h; cases h
theorem reqB_is (B C : Nat) (u v : Value) (a b : Bat) (x : Bool) (w : World) (ha : BatV w B u a) (hb : BatV w C v b) (hB : B ≤ w.heap.size) (hC : C ≤ w.heap.size) (hl : a.ops.length ≤ 1000000) (hx : eqB a b = x) : Calls Try.prog 20 #[u, v] w (Bl x w) := by
  have h1 : BatV w w.heap.size u a := by
    obtain ⟨s, hv, A, c, hs, hc, hcell⟩ := ha
    exact ⟨s, hv, A, c, hs, hc, fun h0 => by obtain ⟨g, o, hA, hg, r⟩ := hcell h0; exact ⟨g, o, hA, Nat.lt_of_lt_of_le hg hB, r⟩⟩
  have h2 : BatV w w.heap.size v b := by
    obtain ⟨s, hv, A, c, hs, hc, hcell⟩ := hb
    exact ⟨s, hv, A, c, hs, hc, fun h0 => by obtain ⟨g, o, hA, hg, r⟩ := hcell h0; exact ⟨g, o, hA, Nat.lt_of_lt_of_le hg hC, r⟩⟩
  rw [← hx]; exact reqBatch_any w.heap.size u v a b w h1 h2 (Nat.le_refl _) hl

set_option maxRecDepth 100000 in
set_option maxHeartbeats 8000000 in
theorem walk (w : World) (a0 : Bat) (A0 : Option Addr) (c0 : Nat) (w0 : Ops w w.heap.size (.slice A0 a0.ops.length c0) a0.ops) (x0 : a0.fit) (a1 : Bat) (A1 : Option Addr) (c1 : Nat) (w1 : Ops w w.heap.size (.slice A1 a1.ops.length c1) a1.ops) (x1 : a1.fit) :
    Calls Try.prog 7 #[.agg #[.int .i64 a0.client, .int .i64 a0.seq, .slice A0 a0.ops.length c0], .agg #[.int .i64 a1.client, .int .i64 a1.seq, .slice A1 a1.ops.length c1]] w fun e w' => e = .returned (.bool true) ∧ Below w.heap.size w w' := by
  obtain ⟨ac, aq, al⟩ := a0
  obtain ⟨af1, af2, af3⟩ := x0
  simp only at af1 af2 af3 w0
  have Ha := Lib.hid w0; clear w0
  have HIa := Lib.hid (fun z hz => fit_ints (af3 z hz)); clear af3
  obtain ⟨bc, bq, bl⟩ := a1
  obtain ⟨bf1, bf2, bf3⟩ := x1
  simp only at bf1 bf2 bf3 w1
  have Hb := Lib.hid w1; clear w1
  have HIb := Lib.hid (fun z hz => fit_ints (bf3 z hz)); clear bf3
  have hb := Below.refl w.heap.size w
  go_enter Try.func7, Try.ntmps7
  go_wp2_with fail
  refine (begun5_any _).mono ?_
  rintro e k1 ⟨rfl, h⟩
  have hk : Below w.heap.size w k1 := by
    refine Below.trans ?_ (h.mono (by first | (simp; done) | (simp; omega) | omega))
    repeat' (first | with_reducible exact Below.refl _ _ | (with_reducible refine Below.alloc ?_ ?_ _) | (with_reducible refine Below.setCell ?_ ?_ _) | exact (by first | (simp; done) | (simp; omega) | omega))
  have hz := h.size
  try simp at hz
  have p0 : k1.cell? ⟨w.heap.size, 0, none⟩ = some (.int .i64 ac) := (h.cell (p := ⟨w.heap.size, 0, none⟩) (by first | (simp; done) | (simp; omega) | omega)).trans (by go_simp)
  have p1 : k1.cell? ⟨w.heap.size, 1, none⟩ = some (.int .i64 aq) := (h.cell (p := ⟨w.heap.size, 1, none⟩) (by first | (simp; done) | (simp; omega) | omega)).trans (by go_simp)
  have p2 : k1.cell? ⟨w.heap.size, 2, none⟩ = some (.slice A0 al.length c0) := (h.cell (p := ⟨w.heap.size, 2, none⟩) (by first | (simp; done) | (simp; omega) | omega)).trans (by go_simp)
  have pf0 : k1.frozen? ⟨w.heap.size, 0, none⟩ = false := (h.frozen (p := ⟨w.heap.size, 0, none⟩) (by first | (simp; done) | (simp; omega) | omega)).trans (by go_simp)
  have pf1 : k1.frozen? ⟨w.heap.size, 1, none⟩ = false := (h.frozen (p := ⟨w.heap.size, 1, none⟩) (by first | (simp; done) | (simp; omega) | omega)).trans (by go_simp)
  have pf2 : k1.frozen? ⟨w.heap.size, 2, none⟩ = false := (h.frozen (p := ⟨w.heap.size, 2, none⟩) (by first | (simp; done) | (simp; omega) | omega)).trans (by go_simp)
  have q0 : k1.cell? ⟨w.heap.size + 1, 0, none⟩ = some (.int .i64 bc) := (h.cell (p := ⟨w.heap.size + 1, 0, none⟩) (by first | (simp; done) | (simp; omega) | omega)).trans (by go_simp)
  have q1 : k1.cell? ⟨w.heap.size + 1, 1, none⟩ = some (.int .i64 bq) := (h.cell (p := ⟨w.heap.size + 1, 1, none⟩) (by first | (simp; done) | (simp; omega) | omega)).trans (by go_simp)
  have q2 : k1.cell? ⟨w.heap.size + 1, 2, none⟩ = some (.slice A1 bl.length c1) := (h.cell (p := ⟨w.heap.size + 1, 2, none⟩) (by first | (simp; done) | (simp; omega) | omega)).trans (by go_simp)
  have qf0 : k1.frozen? ⟨w.heap.size + 1, 0, none⟩ = false := (h.frozen (p := ⟨w.heap.size + 1, 0, none⟩) (by first | (simp; done) | (simp; omega) | omega)).trans (by go_simp)
  have qf1 : k1.frozen? ⟨w.heap.size + 1, 1, none⟩ = false := (h.frozen (p := ⟨w.heap.size + 1, 1, none⟩) (by first | (simp; done) | (simp; omega) | omega)).trans (by go_simp)
  have qf2 : k1.frozen? ⟨w.heap.size + 1, 2, none⟩ = false := (h.frozen (p := ⟨w.heap.size + 1, 2, none⟩) (by first | (simp; done) | (simp; omega) | omega)).trans (by go_simp)
  replace hb : Below w.heap.size w k1 := hb.trans (hk.mono hb.size)
  have lt0 : w.heap.size < k1.heap.size := (by first | (simp; done) | (simp; omega) | omega)
  have lt1 : w.heap.size + 1 < k1.heap.size := (by first | (simp; done) | (simp; omega) | omega)
  clear h hk
  go_wp2
  refine wp_meetx (fun a b W => ∃ X1 d1 m1 X2 d2 m2, b = ((((a.put (some 11) (.agg #[.int .i64 ac, .int .i64 aq, .slice A0 al.length c0])).put (some 12) (.agg #[.int .i64 ac, .int .i64 aq, .slice X1 m1.length d1])).put (some 13) (.agg #[.int .i64 bc, .int .i64 bq, .slice A1 bl.length c1])).put (some 14) (.agg #[.int .i64 bc, .int .i64 bq, .slice X2 m2.length d2])) ∧ W.cell? ⟨w.heap.size, 0, none⟩ = some (.int .i64 ac) ∧ W.cell? ⟨w.heap.size, 1, none⟩ = some (.int .i64 aq) ∧ W.cell? ⟨w.heap.size, 2, none⟩ = some (.slice X1 m1.length d1) ∧ W.cell? ⟨w.heap.size + 1, 0, none⟩ = some (.int .i64 bc) ∧ W.cell? ⟨w.heap.size + 1, 1, none⟩ = some (.int .i64 bq) ∧ W.cell? ⟨w.heap.size + 1, 2, none⟩ = some (.slice X2 m2.length d2) ∧ OwnO (w.heap.size + 2) (.slice X1 m1.length d1) m1 W ∧ OwnO (w.heap.size + 2) (.slice X2 m2.length d2) m2 W ∧ (Bat.mk ac aq m1).ok ∧ (Bat.mk bc bq m2).ok ∧ m1.length ≤ 10 ∧ m2.length ≤ 10 ∧ Below w.heap.size w W ∧ w.heap.size + 2 ≤ W.heap.size) ?_ ?_
  · replace p0 : k1.drew.cell? ⟨w.heap.size, 0, none⟩ = some (.int .i64 ac) := p0
    replace p1 : k1.drew.cell? ⟨w.heap.size, 1, none⟩ = some (.int .i64 aq) := p1
    replace p2 : k1.drew.cell? ⟨w.heap.size, 2, none⟩ = some (.slice A0 al.length c0) := p2
    replace pf0 : k1.drew.frozen? ⟨w.heap.size, 0, none⟩ = false := pf0
    replace pf1 : k1.drew.frozen? ⟨w.heap.size, 1, none⟩ = false := pf1
    replace pf2 : k1.drew.frozen? ⟨w.heap.size, 2, none⟩ = false := pf2
    replace q0 : k1.drew.cell? ⟨w.heap.size + 1, 0, none⟩ = some (.int .i64 bc) := q0
    replace q1 : k1.drew.cell? ⟨w.heap.size + 1, 1, none⟩ = some (.int .i64 bq) := q1
    replace q2 : k1.drew.cell? ⟨w.heap.size + 1, 2, none⟩ = some (.slice A1 bl.length c1) := q2
    replace qf0 : k1.drew.frozen? ⟨w.heap.size + 1, 0, none⟩ = false := qf0
    replace qf1 : k1.drew.frozen? ⟨w.heap.size + 1, 1, none⟩ = false := qf1
    replace qf2 : k1.drew.frozen? ⟨w.heap.size + 1, 2, none⟩ = false := qf2
    refine wp_region_noPanic ?_
    refine wp_region_held_drew (S := fun W => True) (by kernel_rfl) ?_ (fun hHeld => ?_)
    · trivial
    replace hb : Below w.heap.size w k1.drew := hb.drew
    replace lt0 : w.heap.size < k1.drew.heap.size := lt0
    replace lt1 : w.heap.size + 1 < k1.drew.heap.size := lt1
    have hzd : k1.heap.size ≤ k1.drew.heap.size := Nat.le_refl _
    generalize k1.drew = k2 at *
    refine wpAnyH_ready (rs := [0, 2]) (by kernel_rfl) (by simp) ?_
    refine AllReadyH.cons (o := { dst := some 11, op := Op.load 31 (Operand.tmp 2), type := 31, pos := "wide.go:15", after := #[], guard := none }) rfl (fun K hK => ?_) (AllReadyH.cons (o := { dst := some 13, op := Op.load 31 (Operand.tmp 3), type := 31, pos := "wide.go:15", after := #[], guard := none }) rfl (fun K hK => ?_) (AllReadyH.nil))
    · go_simp
      refine hK.out _ _ ?_ (fun hHeld => ?_)
      · trivial
      clear hK K
      try simp only [Act.put, List.setIfInBounds_toArray, List.set_cons_zero, List.set_cons_succ]
      refine wpAnyH_ready (rs := [1, 2]) (by kernel_rfl) (by simp) ?_
      refine AllReadyH.cons (o := { dst := some 12, op := Op.call { callee := Callee.value (Operand.func 14), args := #[Operand.tmp 11], argTypes := #[31] }, type := 31, pos := "wide.go:15", after := #[{ on := 0, ground := Ground.data }], guard := none }) rfl (fun K hK => ?_) (AllReadyH.cons (o := { dst := some 13, op := Op.load 31 (Operand.tmp 3), type := 31, pos := "wide.go:15", after := #[], guard := none }) rfl (fun K hK => ?_) (AllReadyH.nil))
      · go_simp
        go_at_call 14
        refine (l5cutBatch_any w.heap.size _ ⟨ac, aq, al⟩ _ ⟨_, rfl, Ha.out.keep hb (Nat.le_refl _)⟩ hb.size HIa.out).mono ?_
        rintro e k3 ⟨u, m1, rfl, hO, h, hml, hoks⟩
        obtain ⟨X1, d1, rfl⟩ := own_slice hO
        have HO1 := Lib.hid (ownO_down (B := w.heap.size + 2) hO (by omega)); clear hO
        have HK1 := Lib.hid (cut_bat af1 af2 hoks); clear hoks
        have hl1 : m1.length ≤ 10 := by omega
        clear hml
        have hz := h.size
        replace p0 := (h.cell (p := ⟨w.heap.size, 0, none⟩) (by first | (simp; done) | (simp; omega) | omega)).trans p0
        replace p1 := (h.cell (p := ⟨w.heap.size, 1, none⟩) (by first | (simp; done) | (simp; omega) | omega)).trans p1
        replace p2 := (h.cell (p := ⟨w.heap.size, 2, none⟩) (by first | (simp; done) | (simp; omega) | omega)).trans p2
        replace pf0 := (h.frozen (p := ⟨w.heap.size, 0, none⟩) (by first | (simp; done) | (simp; omega) | omega)).trans pf0
        replace pf1 := (h.frozen (p := ⟨w.heap.size, 1, none⟩) (by first | (simp; done) | (simp; omega) | omega)).trans pf1
        replace pf2 := (h.frozen (p := ⟨w.heap.size, 2, none⟩) (by first | (simp; done) | (simp; omega) | omega)).trans pf2
        replace q0 := (h.cell (p := ⟨w.heap.size + 1, 0, none⟩) (by first | (simp; done) | (simp; omega) | omega)).trans q0
        replace q1 := (h.cell (p := ⟨w.heap.size + 1, 1, none⟩) (by first | (simp; done) | (simp; omega) | omega)).trans q1
        replace q2 := (h.cell (p := ⟨w.heap.size + 1, 2, none⟩) (by first | (simp; done) | (simp; omega) | omega)).trans q2
        replace qf0 := (h.frozen (p := ⟨w.heap.size + 1, 0, none⟩) (by first | (simp; done) | (simp; omega) | omega)).trans qf0
        replace qf1 := (h.frozen (p := ⟨w.heap.size + 1, 1, none⟩) (by first | (simp; done) | (simp; omega) | omega)).trans qf1
        replace qf2 := (h.frozen (p := ⟨w.heap.size + 1, 2, none⟩) (by first | (simp; done) | (simp; omega) | omega)).trans qf2
        replace hb : Below w.heap.size w k3 := hb.trans (h.mono hb.size)
        clear h
        have lt0 : w.heap.size < k3.heap.size := (by first | (simp; done) | (simp; omega) | omega)
        have lt1 : w.heap.size + 1 < k3.heap.size := (by first | (simp; done) | (simp; omega) | omega)
        have hz2 : w.heap.size + 2 ≤ k3.heap.size := by omega
        try dsimp only
        refine hK.out _ _ ?_ (fun hHeld => ?_)
        · trivial
        clear hK K
        try simp only [Act.put, List.setIfInBounds_toArray, List.set_cons_zero, List.set_cons_succ]
        refine wpAnyH_ready (rs := [2]) (by kernel_rfl) (by simp) ?_
        refine AllReadyH.cons (o := { dst := some 13, op := Op.load 31 (Operand.tmp 3), type := 31, pos := "wide.go:15", after := #[], guard := none }) rfl (fun K hK => ?_) (AllReadyH.nil)
        go_simp
        refine hK.out _ _ ?_ (fun hHeld => ?_)
        · trivial
        clear hK K
        try simp only [Act.put, List.setIfInBounds_toArray, List.set_cons_zero, List.set_cons_succ]
        refine wpAnyH_ready (rs := [3]) (by kernel_rfl) (by simp) ?_
        refine AllReadyH.cons (o := { dst := some 14, op := Op.call { callee := Callee.value (Operand.func 14), args := #[Operand.tmp 13], argTypes := #[31] }, type := 31, pos := "wide.go:15", after := #[{ on := 2, ground := Ground.data }, { on := 1, ground := Ground.chain }], guard := none }) rfl (fun K hK => ?_) (AllReadyH.nil)
        go_simp
        go_at_call 14
        refine (l5cutBatch_any w.heap.size _ ⟨bc, bq, bl⟩ _ ⟨_, rfl, Hb.out.keep hb (Nat.le_refl _)⟩ hb.size HIb.out).mono ?_
        rintro e k4 ⟨u, m2, rfl, hO, h, hml, hoks⟩
        obtain ⟨X2, d2, rfl⟩ := own_slice hO
        have HO2 := Lib.hid (ownO_down (B := w.heap.size + 2) hO (by omega)); clear hO
        have HK2 := Lib.hid (cut_bat bf1 bf2 hoks); clear hoks
        have hl2 : m2.length ≤ 10 := by omega
        clear hml
        have hz := h.size
        replace p0 := (h.cell (p := ⟨w.heap.size, 0, none⟩) (by first | (simp; done) | (simp; omega) | omega)).trans p0
        replace p1 := (h.cell (p := ⟨w.heap.size, 1, none⟩) (by first | (simp; done) | (simp; omega) | omega)).trans p1
        replace p2 := (h.cell (p := ⟨w.heap.size, 2, none⟩) (by first | (simp; done) | (simp; omega) | omega)).trans p2
        replace pf0 := (h.frozen (p := ⟨w.heap.size, 0, none⟩) (by first | (simp; done) | (simp; omega) | omega)).trans pf0
        replace pf1 := (h.frozen (p := ⟨w.heap.size, 1, none⟩) (by first | (simp; done) | (simp; omega) | omega)).trans pf1
        replace pf2 := (h.frozen (p := ⟨w.heap.size, 2, none⟩) (by first | (simp; done) | (simp; omega) | omega)).trans pf2
        replace q0 := (h.cell (p := ⟨w.heap.size + 1, 0, none⟩) (by first | (simp; done) | (simp; omega) | omega)).trans q0
        replace q1 := (h.cell (p := ⟨w.heap.size + 1, 1, none⟩) (by first | (simp; done) | (simp; omega) | omega)).trans q1
        replace q2 := (h.cell (p := ⟨w.heap.size + 1, 2, none⟩) (by first | (simp; done) | (simp; omega) | omega)).trans q2
        replace qf0 := (h.frozen (p := ⟨w.heap.size + 1, 0, none⟩) (by first | (simp; done) | (simp; omega) | omega)).trans qf0
        replace qf1 := (h.frozen (p := ⟨w.heap.size + 1, 1, none⟩) (by first | (simp; done) | (simp; omega) | omega)).trans qf1
        replace qf2 := (h.frozen (p := ⟨w.heap.size + 1, 2, none⟩) (by first | (simp; done) | (simp; omega) | omega)).trans qf2
        replace HO1 := Lib.hid (OwnO.below HO1.out h)
        replace hb : Below w.heap.size w k4 := hb.trans (h.mono hb.size)
        clear h
        have lt0 : w.heap.size < k4.heap.size := (by first | (simp; done) | (simp; omega) | omega)
        have lt1 : w.heap.size + 1 < k4.heap.size := (by first | (simp; done) | (simp; omega) | omega)
        have hz2 : w.heap.size + 2 ≤ k4.heap.size := by omega
        try dsimp only
        refine hK.out _ _ ?_ (fun hHeld => ?_)
        · trivial
        clear hK K
        try simp only [Act.put, List.setIfInBounds_toArray, List.set_cons_zero, List.set_cons_succ]
        refine wpAnyH_ready (rs := [4]) (by kernel_rfl) (by simp) ?_
        refine AllReadyH.cons (o := { dst := none, op := Op.store 31 (Operand.tmp 2) (Operand.tmp 12), type := 0, pos := "wide.go:15", after := #[{ on := 1, ground := Ground.data }, { on := 3, ground := Ground.chain }, { on := 0, ground := Ground.phase }, { on := 1, ground := Ground.phase }, { on := 2, ground := Ground.textOnly Departure.lateStores }, { on := 3, ground := Ground.textOnly Departure.lateStoresUnsure }], guard := none }) rfl (fun K hK => ?_) (AllReadyH.nil)
        go_simp
        refine hK.out _ _ ?_ (fun hHeld => ?_)
        · trivial
        clear hK K
        try simp only [Act.put, List.setIfInBounds_toArray, List.set_cons_zero, List.set_cons_succ]
        refine wpAnyH_ready (rs := [5]) (by kernel_rfl) (by simp) ?_
        refine AllReadyH.cons (o := { dst := none, op := Op.store 31 (Operand.tmp 3) (Operand.tmp 14), type := 0, pos := "wide.go:15", after := #[{ on := 3, ground := Ground.data }, { on := 4, ground := Ground.chain }, { on := 0, ground := Ground.phase }, { on := 1, ground := Ground.phase }, { on := 2, ground := Ground.phase }, { on := 3, ground := Ground.phase }, { on := 4, ground := Ground.phase }], guard := none }) rfl (fun K hK => ?_) (AllReadyH.nil)
        go_simp
        refine hK.out _ _ ?_ (fun hHeld => ?_)
        · trivial
        clear hK K
        try simp only [Act.put, List.setIfInBounds_toArray, List.set_cons_zero, List.set_cons_succ]
        refine wpAnyH_done (by kernel_rfl) ?_ _
        refine NoPanic.normal ?_
        exact ⟨X1, d1, m1, X2, d2, m2, rfl, by go_simp, by go_simp, by go_simp, by go_simp, by go_simp, by go_simp, ownsRow_set (ownsRow_set (ownsRow_set (ownsRow_set (ownsRow_set (ownsRow_set HO1.out (by simp)) (by simp)) (by simp)) (by simp)) (by simp)) (by simp), ownsRow_set (ownsRow_set (ownsRow_set (ownsRow_set (ownsRow_set (ownsRow_set HO2.out (by simp)) (by simp)) (by simp)) (by simp)) (by simp)) (by simp), HK1.out, HK2.out, hl1, hl2, (by
          repeat' (first | with_reducible exact hb | (with_reducible refine Below.setCell ?_ ?_ _) | exact (by first | (simp; done) | (simp; omega) | omega))), by simp; omega⟩
      · go_simp
        refine hK.out _ _ ?_ (fun hHeld => ?_)
        · trivial
        clear hK K
        try simp only [Act.put, List.setIfInBounds_toArray, List.set_cons_zero, List.set_cons_succ]
        refine wpAnyH_ready (rs := [1]) (by kernel_rfl) (by simp) ?_
        refine AllReadyH.cons (o := { dst := some 12, op := Op.call { callee := Callee.value (Operand.func 14), args := #[Operand.tmp 11], argTypes := #[31] }, type := 31, pos := "wide.go:15", after := #[{ on := 0, ground := Ground.data }], guard := none }) rfl (fun K hK => ?_) (AllReadyH.nil)
        go_simp
        go_at_call 14
        refine (l5cutBatch_any w.heap.size _ ⟨ac, aq, al⟩ _ ⟨_, rfl, Ha.out.keep hb (Nat.le_refl _)⟩ hb.size HIa.out).mono ?_
        rintro e k3 ⟨u, m1, rfl, hO, h, hml, hoks⟩
        obtain ⟨X1, d1, rfl⟩ := own_slice hO
        have HO1 := Lib.hid (ownO_down (B := w.heap.size + 2) hO (by omega)); clear hO
        have HK1 := Lib.hid (cut_bat af1 af2 hoks); clear hoks
        have hl1 : m1.length ≤ 10 := by omega
        clear hml
        have hz := h.size
        replace p0 := (h.cell (p := ⟨w.heap.size, 0, none⟩) (by first | (simp; done) | (simp; omega) | omega)).trans p0
        replace p1 := (h.cell (p := ⟨w.heap.size, 1, none⟩) (by first | (simp; done) | (simp; omega) | omega)).trans p1
        replace p2 := (h.cell (p := ⟨w.heap.size, 2, none⟩) (by first | (simp; done) | (simp; omega) | omega)).trans p2
        replace pf0 := (h.frozen (p := ⟨w.heap.size, 0, none⟩) (by first | (simp; done) | (simp; omega) | omega)).trans pf0
        replace pf1 := (h.frozen (p := ⟨w.heap.size, 1, none⟩) (by first | (simp; done) | (simp; omega) | omega)).trans pf1
        replace pf2 := (h.frozen (p := ⟨w.heap.size, 2, none⟩) (by first | (simp; done) | (simp; omega) | omega)).trans pf2
        replace q0 := (h.cell (p := ⟨w.heap.size + 1, 0, none⟩) (by first | (simp; done) | (simp; omega) | omega)).trans q0
        replace q1 := (h.cell (p := ⟨w.heap.size + 1, 1, none⟩) (by first | (simp; done) | (simp; omega) | omega)).trans q1
        replace q2 := (h.cell (p := ⟨w.heap.size + 1, 2, none⟩) (by first | (simp; done) | (simp; omega) | omega)).trans q2
        replace qf0 := (h.frozen (p := ⟨w.heap.size + 1, 0, none⟩) (by first | (simp; done) | (simp; omega) | omega)).trans qf0
        replace qf1 := (h.frozen (p := ⟨w.heap.size + 1, 1, none⟩) (by first | (simp; done) | (simp; omega) | omega)).trans qf1
        replace qf2 := (h.frozen (p := ⟨w.heap.size + 1, 2, none⟩) (by first | (simp; done) | (simp; omega) | omega)).trans qf2
        replace hb : Below w.heap.size w k3 := hb.trans (h.mono hb.size)
        clear h
        have lt0 : w.heap.size < k3.heap.size := (by first | (simp; done) | (simp; omega) | omega)
        have lt1 : w.heap.size + 1 < k3.heap.size := (by first | (simp; done) | (simp; omega) | omega)
        have hz2 : w.heap.size + 2 ≤ k3.heap.size := by omega
        try dsimp only
        refine hK.out _ _ ?_ (fun hHeld => ?_)
        · trivial
        clear hK K
        try simp only [Act.put, List.setIfInBounds_toArray, List.set_cons_zero, List.set_cons_succ]
        refine wpAnyH_ready (rs := [3]) (by kernel_rfl) (by simp) ?_
        refine AllReadyH.cons (o := { dst := some 14, op := Op.call { callee := Callee.value (Operand.func 14), args := #[Operand.tmp 13], argTypes := #[31] }, type := 31, pos := "wide.go:15", after := #[{ on := 2, ground := Ground.data }, { on := 1, ground := Ground.chain }], guard := none }) rfl (fun K hK => ?_) (AllReadyH.nil)
        go_simp
        go_at_call 14
        refine (l5cutBatch_any w.heap.size _ ⟨bc, bq, bl⟩ _ ⟨_, rfl, Hb.out.keep hb (Nat.le_refl _)⟩ hb.size HIb.out).mono ?_
        rintro e k4 ⟨u, m2, rfl, hO, h, hml, hoks⟩
        obtain ⟨X2, d2, rfl⟩ := own_slice hO
        have HO2 := Lib.hid (ownO_down (B := w.heap.size + 2) hO (by omega)); clear hO
        have HK2 := Lib.hid (cut_bat bf1 bf2 hoks); clear hoks
        have hl2 : m2.length ≤ 10 := by omega
        clear hml
        have hz := h.size
        replace p0 := (h.cell (p := ⟨w.heap.size, 0, none⟩) (by first | (simp; done) | (simp; omega) | omega)).trans p0
        replace p1 := (h.cell (p := ⟨w.heap.size, 1, none⟩) (by first | (simp; done) | (simp; omega) | omega)).trans p1
        replace p2 := (h.cell (p := ⟨w.heap.size, 2, none⟩) (by first | (simp; done) | (simp; omega) | omega)).trans p2
        replace pf0 := (h.frozen (p := ⟨w.heap.size, 0, none⟩) (by first | (simp; done) | (simp; omega) | omega)).trans pf0
        replace pf1 := (h.frozen (p := ⟨w.heap.size, 1, none⟩) (by first | (simp; done) | (simp; omega) | omega)).trans pf1
        replace pf2 := (h.frozen (p := ⟨w.heap.size, 2, none⟩) (by first | (simp; done) | (simp; omega) | omega)).trans pf2
        replace q0 := (h.cell (p := ⟨w.heap.size + 1, 0, none⟩) (by first | (simp; done) | (simp; omega) | omega)).trans q0
        replace q1 := (h.cell (p := ⟨w.heap.size + 1, 1, none⟩) (by first | (simp; done) | (simp; omega) | omega)).trans q1
        replace q2 := (h.cell (p := ⟨w.heap.size + 1, 2, none⟩) (by first | (simp; done) | (simp; omega) | omega)).trans q2
        replace qf0 := (h.frozen (p := ⟨w.heap.size + 1, 0, none⟩) (by first | (simp; done) | (simp; omega) | omega)).trans qf0
        replace qf1 := (h.frozen (p := ⟨w.heap.size + 1, 1, none⟩) (by first | (simp; done) | (simp; omega) | omega)).trans qf1
        replace qf2 := (h.frozen (p := ⟨w.heap.size + 1, 2, none⟩) (by first | (simp; done) | (simp; omega) | omega)).trans qf2
        replace HO1 := Lib.hid (OwnO.below HO1.out h)
        replace hb : Below w.heap.size w k4 := hb.trans (h.mono hb.size)
        clear h
        have lt0 : w.heap.size < k4.heap.size := (by first | (simp; done) | (simp; omega) | omega)
        have lt1 : w.heap.size + 1 < k4.heap.size := (by first | (simp; done) | (simp; omega) | omega)
        have hz2 : w.heap.size + 2 ≤ k4.heap.size := by omega
        try dsimp only
        refine hK.out _ _ ?_ (fun hHeld => ?_)
        · trivial
        clear hK K
        try simp only [Act.put, List.setIfInBounds_toArray, List.set_cons_zero, List.set_cons_succ]
        refine wpAnyH_ready (rs := [4]) (by kernel_rfl) (by simp) ?_
        refine AllReadyH.cons (o := { dst := none, op := Op.store 31 (Operand.tmp 2) (Operand.tmp 12), type := 0, pos := "wide.go:15", after := #[{ on := 1, ground := Ground.data }, { on := 3, ground := Ground.chain }, { on := 0, ground := Ground.phase }, { on := 1, ground := Ground.phase }, { on := 2, ground := Ground.textOnly Departure.lateStores }, { on := 3, ground := Ground.textOnly Departure.lateStoresUnsure }], guard := none }) rfl (fun K hK => ?_) (AllReadyH.nil)
        go_simp
        refine hK.out _ _ ?_ (fun hHeld => ?_)
        · trivial
        clear hK K
        try simp only [Act.put, List.setIfInBounds_toArray, List.set_cons_zero, List.set_cons_succ]
        refine wpAnyH_ready (rs := [5]) (by kernel_rfl) (by simp) ?_
        refine AllReadyH.cons (o := { dst := none, op := Op.store 31 (Operand.tmp 3) (Operand.tmp 14), type := 0, pos := "wide.go:15", after := #[{ on := 3, ground := Ground.data }, { on := 4, ground := Ground.chain }, { on := 0, ground := Ground.phase }, { on := 1, ground := Ground.phase }, { on := 2, ground := Ground.phase }, { on := 3, ground := Ground.phase }, { on := 4, ground := Ground.phase }], guard := none }) rfl (fun K hK => ?_) (AllReadyH.nil)
        go_simp
        refine hK.out _ _ ?_ (fun hHeld => ?_)
        · trivial
        clear hK K
        try simp only [Act.put, List.setIfInBounds_toArray, List.set_cons_zero, List.set_cons_succ]
        refine wpAnyH_done (by kernel_rfl) ?_ _
        refine NoPanic.normal ?_
        exact ⟨X1, d1, m1, X2, d2, m2, rfl, by go_simp, by go_simp, by go_simp, by go_simp, by go_simp, by go_simp, ownsRow_set (ownsRow_set (ownsRow_set (ownsRow_set (ownsRow_set (ownsRow_set HO1.out (by simp)) (by simp)) (by simp)) (by simp)) (by simp)) (by simp), ownsRow_set (ownsRow_set (ownsRow_set (ownsRow_set (ownsRow_set (ownsRow_set HO2.out (by simp)) (by simp)) (by simp)) (by simp)) (by simp)) (by simp), HK1.out, HK2.out, hl1, hl2, (by
          repeat' (first | with_reducible exact hb | (with_reducible refine Below.setCell ?_ ?_ _) | exact (by first | (simp; done) | (simp; omega) | omega))), by simp; omega⟩
    · go_simp
      refine hK.out _ _ ?_ (fun hHeld => ?_)
      · trivial
      clear hK K
      try simp only [Act.put, List.setIfInBounds_toArray, List.set_cons_zero, List.set_cons_succ]
      refine wpAnyH_ready (rs := [0]) (by kernel_rfl) (by simp) ?_
      refine AllReadyH.cons (o := { dst := some 11, op := Op.load 31 (Operand.tmp 2), type := 31, pos := "wide.go:15", after := #[], guard := none }) rfl (fun K hK => ?_) (AllReadyH.nil)
      go_simp
      refine hK.out _ _ ?_ (fun hHeld => ?_)
      · trivial
      clear hK K
      try simp only [Act.put, List.setIfInBounds_toArray, List.set_cons_zero, List.set_cons_succ]
      refine wpAnyH_ready (rs := [1]) (by kernel_rfl) (by simp) ?_
      refine AllReadyH.cons (o := { dst := some 12, op := Op.call { callee := Callee.value (Operand.func 14), args := #[Operand.tmp 11], argTypes := #[31] }, type := 31, pos := "wide.go:15", after := #[{ on := 0, ground := Ground.data }], guard := none }) rfl (fun K hK => ?_) (AllReadyH.nil)
      go_simp
      go_at_call 14
      refine (l5cutBatch_any w.heap.size _ ⟨ac, aq, al⟩ _ ⟨_, rfl, Ha.out.keep hb (Nat.le_refl _)⟩ hb.size HIa.out).mono ?_
      rintro e k3 ⟨u, m1, rfl, hO, h, hml, hoks⟩
      obtain ⟨X1, d1, rfl⟩ := own_slice hO
      have HO1 := Lib.hid (ownO_down (B := w.heap.size + 2) hO (by omega)); clear hO
      have HK1 := Lib.hid (cut_bat af1 af2 hoks); clear hoks
      have hl1 : m1.length ≤ 10 := by omega
      clear hml
      have hz := h.size
      replace p0 := (h.cell (p := ⟨w.heap.size, 0, none⟩) (by first | (simp; done) | (simp; omega) | omega)).trans p0
      replace p1 := (h.cell (p := ⟨w.heap.size, 1, none⟩) (by first | (simp; done) | (simp; omega) | omega)).trans p1
      replace p2 := (h.cell (p := ⟨w.heap.size, 2, none⟩) (by first | (simp; done) | (simp; omega) | omega)).trans p2
      replace pf0 := (h.frozen (p := ⟨w.heap.size, 0, none⟩) (by first | (simp; done) | (simp; omega) | omega)).trans pf0
      replace pf1 := (h.frozen (p := ⟨w.heap.size, 1, none⟩) (by first | (simp; done) | (simp; omega) | omega)).trans pf1
      replace pf2 := (h.frozen (p := ⟨w.heap.size, 2, none⟩) (by first | (simp; done) | (simp; omega) | omega)).trans pf2
      replace q0 := (h.cell (p := ⟨w.heap.size + 1, 0, none⟩) (by first | (simp; done) | (simp; omega) | omega)).trans q0
      replace q1 := (h.cell (p := ⟨w.heap.size + 1, 1, none⟩) (by first | (simp; done) | (simp; omega) | omega)).trans q1
      replace q2 := (h.cell (p := ⟨w.heap.size + 1, 2, none⟩) (by first | (simp; done) | (simp; omega) | omega)).trans q2
      replace qf0 := (h.frozen (p := ⟨w.heap.size + 1, 0, none⟩) (by first | (simp; done) | (simp; omega) | omega)).trans qf0
      replace qf1 := (h.frozen (p := ⟨w.heap.size + 1, 1, none⟩) (by first | (simp; done) | (simp; omega) | omega)).trans qf1
      replace qf2 := (h.frozen (p := ⟨w.heap.size + 1, 2, none⟩) (by first | (simp; done) | (simp; omega) | omega)).trans qf2
      replace hb : Below w.heap.size w k3 := hb.trans (h.mono hb.size)
      clear h
      have lt0 : w.heap.size < k3.heap.size := (by first | (simp; done) | (simp; omega) | omega)
      have lt1 : w.heap.size + 1 < k3.heap.size := (by first | (simp; done) | (simp; omega) | omega)
      have hz2 : w.heap.size + 2 ≤ k3.heap.size := by omega
      try dsimp only
      refine hK.out _ _ ?_ (fun hHeld => ?_)
      · trivial
      clear hK K
      try simp only [Act.put, List.setIfInBounds_toArray, List.set_cons_zero, List.set_cons_succ]
      refine wpAnyH_ready (rs := [3]) (by kernel_rfl) (by simp) ?_
      refine AllReadyH.cons (o := { dst := some 14, op := Op.call { callee := Callee.value (Operand.func 14), args := #[Operand.tmp 13], argTypes := #[31] }, type := 31, pos := "wide.go:15", after := #[{ on := 2, ground := Ground.data }, { on := 1, ground := Ground.chain }], guard := none }) rfl (fun K hK => ?_) (AllReadyH.nil)
      go_simp
      go_at_call 14
      refine (l5cutBatch_any w.heap.size _ ⟨bc, bq, bl⟩ _ ⟨_, rfl, Hb.out.keep hb (Nat.le_refl _)⟩ hb.size HIb.out).mono ?_
      rintro e k4 ⟨u, m2, rfl, hO, h, hml, hoks⟩
      obtain ⟨X2, d2, rfl⟩ := own_slice hO
      have HO2 := Lib.hid (ownO_down (B := w.heap.size + 2) hO (by omega)); clear hO
      have HK2 := Lib.hid (cut_bat bf1 bf2 hoks); clear hoks
      have hl2 : m2.length ≤ 10 := by omega
      clear hml
      have hz := h.size
      replace p0 := (h.cell (p := ⟨w.heap.size, 0, none⟩) (by first | (simp; done) | (simp; omega) | omega)).trans p0
      replace p1 := (h.cell (p := ⟨w.heap.size, 1, none⟩) (by first | (simp; done) | (simp; omega) | omega)).trans p1
      replace p2 := (h.cell (p := ⟨w.heap.size, 2, none⟩) (by first | (simp; done) | (simp; omega) | omega)).trans p2
      replace pf0 := (h.frozen (p := ⟨w.heap.size, 0, none⟩) (by first | (simp; done) | (simp; omega) | omega)).trans pf0
      replace pf1 := (h.frozen (p := ⟨w.heap.size, 1, none⟩) (by first | (simp; done) | (simp; omega) | omega)).trans pf1
      replace pf2 := (h.frozen (p := ⟨w.heap.size, 2, none⟩) (by first | (simp; done) | (simp; omega) | omega)).trans pf2
      replace q0 := (h.cell (p := ⟨w.heap.size + 1, 0, none⟩) (by first | (simp; done) | (simp; omega) | omega)).trans q0
      replace q1 := (h.cell (p := ⟨w.heap.size + 1, 1, none⟩) (by first | (simp; done) | (simp; omega) | omega)).trans q1
      replace q2 := (h.cell (p := ⟨w.heap.size + 1, 2, none⟩) (by first | (simp; done) | (simp; omega) | omega)).trans q2
      replace qf0 := (h.frozen (p := ⟨w.heap.size + 1, 0, none⟩) (by first | (simp; done) | (simp; omega) | omega)).trans qf0
      replace qf1 := (h.frozen (p := ⟨w.heap.size + 1, 1, none⟩) (by first | (simp; done) | (simp; omega) | omega)).trans qf1
      replace qf2 := (h.frozen (p := ⟨w.heap.size + 1, 2, none⟩) (by first | (simp; done) | (simp; omega) | omega)).trans qf2
      replace HO1 := Lib.hid (OwnO.below HO1.out h)
      replace hb : Below w.heap.size w k4 := hb.trans (h.mono hb.size)
      clear h
      have lt0 : w.heap.size < k4.heap.size := (by first | (simp; done) | (simp; omega) | omega)
      have lt1 : w.heap.size + 1 < k4.heap.size := (by first | (simp; done) | (simp; omega) | omega)
      have hz2 : w.heap.size + 2 ≤ k4.heap.size := by omega
      try dsimp only
      refine hK.out _ _ ?_ (fun hHeld => ?_)
      · trivial
      clear hK K
      try simp only [Act.put, List.setIfInBounds_toArray, List.set_cons_zero, List.set_cons_succ]
      refine wpAnyH_ready (rs := [4]) (by kernel_rfl) (by simp) ?_
      refine AllReadyH.cons (o := { dst := none, op := Op.store 31 (Operand.tmp 2) (Operand.tmp 12), type := 0, pos := "wide.go:15", after := #[{ on := 1, ground := Ground.data }, { on := 3, ground := Ground.chain }, { on := 0, ground := Ground.phase }, { on := 1, ground := Ground.phase }, { on := 2, ground := Ground.textOnly Departure.lateStores }, { on := 3, ground := Ground.textOnly Departure.lateStoresUnsure }], guard := none }) rfl (fun K hK => ?_) (AllReadyH.nil)
      go_simp
      refine hK.out _ _ ?_ (fun hHeld => ?_)
      · trivial
      clear hK K
      try simp only [Act.put, List.setIfInBounds_toArray, List.set_cons_zero, List.set_cons_succ]
      refine wpAnyH_ready (rs := [5]) (by kernel_rfl) (by simp) ?_
      refine AllReadyH.cons (o := { dst := none, op := Op.store 31 (Operand.tmp 3) (Operand.tmp 14), type := 0, pos := "wide.go:15", after := #[{ on := 3, ground := Ground.data }, { on := 4, ground := Ground.chain }, { on := 0, ground := Ground.phase }, { on := 1, ground := Ground.phase }, { on := 2, ground := Ground.phase }, { on := 3, ground := Ground.phase }, { on := 4, ground := Ground.phase }], guard := none }) rfl (fun K hK => ?_) (AllReadyH.nil)
      go_simp
      refine hK.out _ _ ?_ (fun hHeld => ?_)
      · trivial
      clear hK K
      try simp only [Act.put, List.setIfInBounds_toArray, List.set_cons_zero, List.set_cons_succ]
      refine wpAnyH_done (by kernel_rfl) ?_ _
      refine NoPanic.normal ?_
      exact ⟨X1, d1, m1, X2, d2, m2, rfl, by go_simp, by go_simp, by go_simp, by go_simp, by go_simp, by go_simp, ownsRow_set (ownsRow_set (ownsRow_set (ownsRow_set (ownsRow_set (ownsRow_set HO1.out (by simp)) (by simp)) (by simp)) (by simp)) (by simp)) (by simp), ownsRow_set (ownsRow_set (ownsRow_set (ownsRow_set (ownsRow_set (ownsRow_set HO2.out (by simp)) (by simp)) (by simp)) (by simp)) (by simp)) (by simp), HK1.out, HK2.out, hl1, hl2, (by
        repeat' (first | with_reducible exact hb | (with_reducible refine Below.setCell ?_ ?_ _) | exact (by first | (simp; done) | (simp; omega) | omega))), by simp; omega⟩
  · rintro b' k ⟨X1, d1, m1, X2, d2, m2, rfl, p0, p1, p2, q0, q1, q2, ho1, ho2, hk1, hk2, hl1, hl2, hb, hz⟩
    have HO1 := Lib.hid ho1; clear ho1
    have HO2 := Lib.hid ho2; clear ho2
    have HK1 := Lib.hid hk1; clear hk1
    have HK2 := Lib.hid hk2; clear hk2
    have lt0 : w.heap.size < k.heap.size := (by first | (simp; done) | (simp; omega) | omega)
    have lt1 : w.heap.size + 1 < k.heap.size := (by first | (simp; done) | (simp; omega) | omega)
    simp only [Act.put, List.setIfInBounds_toArray, List.set_cons_zero, List.set_cons_succ]
    go_wp2
    replace p0 : k.drew.cell? ⟨w.heap.size, 0, none⟩ = some (.int .i64 ac) := p0
    replace p1 : k.drew.cell? ⟨w.heap.size, 1, none⟩ = some (.int .i64 aq) := p1
    replace p2 : k.drew.cell? ⟨w.heap.size, 2, none⟩ = some (.slice X1 m1.length d1) := p2
    replace q0 : k.drew.cell? ⟨w.heap.size + 1, 0, none⟩ = some (.int .i64 bc) := q0
    replace q1 : k.drew.cell? ⟨w.heap.size + 1, 1, none⟩ = some (.int .i64 bq) := q1
    replace q2 : k.drew.cell? ⟨w.heap.size + 1, 2, none⟩ = some (.slice X2 m2.length d2) := q2
    replace HO1 := Lib.hid (OwnO.below HO1.out ((Below.refl k.heap.size k).drew))
    replace HO2 := Lib.hid (OwnO.below HO2.out ((Below.refl k.heap.size k).drew))
    refine wp_region_noPanic ?_
    refine wp_region_held_drew (S := fun W => W.cell? ⟨w.heap.size, 0, none⟩ = some (.int .i64 ac) ∧ W.cell? ⟨w.heap.size, 1, none⟩ = some (.int .i64 aq) ∧ W.cell? ⟨w.heap.size, 2, none⟩ = some (.slice X1 m1.length d1) ∧ W.cell? ⟨w.heap.size + 1, 0, none⟩ = some (.int .i64 bc) ∧ W.cell? ⟨w.heap.size + 1, 1, none⟩ = some (.int .i64 bq) ∧ W.cell? ⟨w.heap.size + 1, 2, none⟩ = some (.slice X2 m2.length d2)) (by kernel_rfl) ?_ (fun hHeld => ?_)
    · exact ⟨p0, p1, p2, q0, q1, q2⟩
    replace hb : Below w.heap.size w k.drew := hb.drew
    replace lt0 : w.heap.size < k.drew.heap.size := lt0
    replace lt1 : w.heap.size + 1 < k.drew.heap.size := lt1
    have hzd : k.heap.size ≤ k.drew.heap.size := Nat.le_refl _
    generalize k.drew = k21 at *
    refine wpAnyH_take (i := 0) (oi := { dst := some 15, op := Op.load 31 (Operand.tmp 2), type := 31, pos := "wide.go:16", after := #[], guard := none }) (v := .agg #[.int .i64 ac, .int .i64 aq, .slice X1 m1.length d1]) rfl (by kernel_rfl) (by kernel_rfl) (by kernel_rfl) (fun _ _ _ h => h) (Or.inl ⟨by rfl, fun w hSw => ?_⟩) (by assumption) ?_
    · (try dsimp only at hSw)
      go_simp
    try simp only [Act.put, List.setIfInBounds_toArray, List.set_cons_zero, List.set_cons_succ]
    refine wpAnyH_take (i := 2) (oi := { dst := some 17, op := Op.load 31 (Operand.tmp 3), type := 31, pos := "wide.go:16", after := #[], guard := none }) (v := .agg #[.int .i64 bc, .int .i64 bq, .slice X2 m2.length d2]) rfl (by kernel_rfl) (by kernel_rfl) (by kernel_rfl) (fun _ _ _ h => h) (Or.inl ⟨by rfl, fun w hSw => ?_⟩) (by assumption) ?_
    · (try dsimp only at hSw)
      go_simp
    try simp only [Act.put, List.setIfInBounds_toArray, List.set_cons_zero, List.set_cons_succ]
    refine wpAnyH_ready (rs := [1]) (by kernel_rfl) (by simp) ?_
    refine AllReadyH.cons (o := { dst := some 16, op := Op.call { callee := Callee.value (Operand.func 16), args := #[Operand.tmp 15], argTypes := #[31] }, type := 34, pos := "wide.go:16", after := #[{ on := 0, ground := Ground.data }], guard := none }) rfl (fun K hK => ?_) (AllReadyH.nil)
    go_simp
    go_at_call 16
    refine (oenc_any _ _ ⟨ac, aq, m1⟩ _ ⟨_, rfl, Ops.of_own HO1.out⟩ (Nat.le_refl _) HK1.out).mono ?_
    rintro e k22 ⟨Y1, y1, rfl, hE, -, h⟩
    obtain ⟨L1, h1⟩ : ∃ l, encB ⟨ac, aq, m1⟩ = l := ⟨_, rfl⟩
    rw [h1] at hE ⊢
    have HE1 := Lib.hid hE; clear hE
    have HL1 := Lib.hid h1; clear h1
    have hz := h.size
    replace p0 := (h.cell (p := ⟨w.heap.size, 0, none⟩) (by first | (simp; done) | (simp; omega) | omega)).trans p0
    replace p1 := (h.cell (p := ⟨w.heap.size, 1, none⟩) (by first | (simp; done) | (simp; omega) | omega)).trans p1
    replace p2 := (h.cell (p := ⟨w.heap.size, 2, none⟩) (by first | (simp; done) | (simp; omega) | omega)).trans p2
    replace q0 := (h.cell (p := ⟨w.heap.size + 1, 0, none⟩) (by first | (simp; done) | (simp; omega) | omega)).trans q0
    replace q1 := (h.cell (p := ⟨w.heap.size + 1, 1, none⟩) (by first | (simp; done) | (simp; omega) | omega)).trans q1
    replace q2 := (h.cell (p := ⟨w.heap.size + 1, 2, none⟩) (by first | (simp; done) | (simp; omega) | omega)).trans q2
    replace HO1 := Lib.hid (OwnO.below HO1.out h)
    replace HO2 := Lib.hid (OwnO.below HO2.out h)
    replace hb : Below w.heap.size w k22 := hb.trans (h.mono hb.size)
    clear h
    have lt0 : w.heap.size < k22.heap.size := (by first | (simp; done) | (simp; omega) | omega)
    have lt1 : w.heap.size + 1 < k22.heap.size := (by first | (simp; done) | (simp; omega) | omega)
    try dsimp only
    refine hK.out _ _ ?_ (fun hHeld => ?_)
    · exact ⟨p0, p1, p2, q0, q1, q2⟩
    clear hK K
    try simp only [Act.put, List.setIfInBounds_toArray, List.set_cons_zero, List.set_cons_succ]
    refine wpAnyH_ready (rs := [3]) (by kernel_rfl) (by simp) ?_
    refine AllReadyH.cons (o := { dst := some 18, op := Op.call { callee := Callee.value (Operand.func 16), args := #[Operand.tmp 17], argTypes := #[31] }, type := 34, pos := "wide.go:16", after := #[{ on := 2, ground := Ground.data }, { on := 1, ground := Ground.chain }], guard := none }) rfl (fun K hK => ?_) (AllReadyH.nil)
    go_simp
    go_at_call 16
    refine (oenc_any _ _ ⟨bc, bq, m2⟩ _ ⟨_, rfl, Ops.of_own HO2.out⟩ (Nat.le_refl _) HK2.out).mono ?_
    rintro e k23 ⟨Y2, y2, rfl, hE, -, h⟩
    obtain ⟨L2, h2⟩ : ∃ l, encB ⟨bc, bq, m2⟩ = l := ⟨_, rfl⟩
    rw [h2] at hE ⊢
    have HE2 := Lib.hid hE; clear hE
    have HL2 := Lib.hid h2; clear h2
    have hz := h.size
    replace p0 := (h.cell (p := ⟨w.heap.size, 0, none⟩) (by first | (simp; done) | (simp; omega) | omega)).trans p0
    replace p1 := (h.cell (p := ⟨w.heap.size, 1, none⟩) (by first | (simp; done) | (simp; omega) | omega)).trans p1
    replace p2 := (h.cell (p := ⟨w.heap.size, 2, none⟩) (by first | (simp; done) | (simp; omega) | omega)).trans p2
    replace q0 := (h.cell (p := ⟨w.heap.size + 1, 0, none⟩) (by first | (simp; done) | (simp; omega) | omega)).trans q0
    replace q1 := (h.cell (p := ⟨w.heap.size + 1, 1, none⟩) (by first | (simp; done) | (simp; omega) | omega)).trans q1
    replace q2 := (h.cell (p := ⟨w.heap.size + 1, 2, none⟩) (by first | (simp; done) | (simp; omega) | omega)).trans q2
    replace HO1 := Lib.hid (OwnO.below HO1.out h)
    replace HO2 := Lib.hid (OwnO.below HO2.out h)
    replace HE1 := Lib.hid (OwnB.below HE1.out h)
    replace hb : Below w.heap.size w k23 := hb.trans (h.mono hb.size)
    clear h
    have lt0 : w.heap.size < k23.heap.size := (by first | (simp; done) | (simp; omega) | omega)
    have lt1 : w.heap.size + 1 < k23.heap.size := (by first | (simp; done) | (simp; omega) | omega)
    try dsimp only
    refine hK.out _ _ ?_ (fun hHeld => ?_)
    · exact ⟨p0, p1, p2, q0, q1, q2⟩
    clear hK K
    try simp only [Act.put, List.setIfInBounds_toArray, List.set_cons_zero, List.set_cons_succ]
    refine wpAnyH_ready (rs := [4]) (by kernel_rfl) (by simp) ?_
    refine AllReadyH.cons (o := { dst := some 6, op := Op.assign (Operand.tmp 16), type := 34, pos := "wide.go:16", after := #[{ on := 1, ground := Ground.data }, { on := 3, ground := Ground.chain }, { on := 0, ground := Ground.phase }, { on := 1, ground := Ground.phase }, { on := 2, ground := Ground.textOnly Departure.lateStores }, { on := 3, ground := Ground.textOnly Departure.lateStoresUnsure }], guard := none }) rfl (fun K hK => ?_) (AllReadyH.nil)
    go_simp
    refine hK.out _ _ ?_ (fun hHeld => ?_)
    · exact ⟨p0, p1, p2, q0, q1, q2⟩
    clear hK K
    try simp only [Act.put, List.setIfInBounds_toArray, List.set_cons_zero, List.set_cons_succ]
    refine wpAnyH_ready (rs := [5]) (by kernel_rfl) (by simp) ?_
    refine AllReadyH.cons (o := { dst := some 7, op := Op.assign (Operand.tmp 18), type := 34, pos := "wide.go:16", after := #[{ on := 3, ground := Ground.data }, { on := 4, ground := Ground.chain }, { on := 0, ground := Ground.phase }, { on := 1, ground := Ground.phase }, { on := 2, ground := Ground.phase }, { on := 3, ground := Ground.phase }, { on := 4, ground := Ground.phase }], guard := none }) rfl (fun K hK => ?_) (AllReadyH.nil)
    go_simp
    refine hK.out _ _ ?_ (fun hHeld => ?_)
    · exact ⟨p0, p1, p2, q0, q1, q2⟩
    clear hK K
    try simp only [Act.put, List.setIfInBounds_toArray, List.set_cons_zero, List.set_cons_succ]
    refine wpAnyH_done (by kernel_rfl) ?_ _
    refine NoPanic.normal ?_
    cases hm1 : mayB ⟨ac, aq, m1⟩
    · have e1 : L1 = [] := by rw [← HL1.out]; exact enc_none hm1
      subst e1
      clear hm1
      go_wp2
      go_ret
      exact ⟨rfl, hb⟩
    · cases hm2 : mayB ⟨bc, bq, m2⟩
      · have e2 : L2 = [] := by rw [← HL2.out]; exact enc_none hm2
        subst e2
        have g1 := (enc_may hm1).2.1
        rw [HL1.out] at g1
        have hn1 : ((L1.length : Int) == 0) = false := by rw [beq_eq_false_iff_ne]; omega
        clear hm1 hm2
        go_wp2
        go_ret
        exact ⟨rfl, hb⟩
      · have g1 := (enc_may hm1).2.1
        have g2 := (enc_may hm2).2.1
        obtain ⟨S, hS⟩ : ∃ S : ByteArray, ⟨(encB ⟨ac, aq, m1⟩).toArray⟩ = S := ⟨_, rfl⟩
        obtain ⟨T, hT⟩ : ∃ T : ByteArray, ⟨(encB ⟨bc, bq, m2⟩).toArray⟩ = T := ⟨_, rfl⟩
        have htw := (list_beq S T).trans (twins hm1 hm2 HK1.out HK2.out S T hS hT)
        rw [HL1.out] at g1 hS
        rw [HL2.out] at g2 hT
        have HS := Lib.hid hS; clear hS
        have HT := Lib.hid hT; clear hT
        obtain ⟨x, hx⟩ : ∃ x, eqB ⟨ac, aq, m1⟩ ⟨bc, bq, m2⟩ = x := ⟨_, rfl⟩
        rw [hx] at htw
        have HX := Lib.hid hx; clear hx
        have hn1 : ((L1.length : Int) == 0) = false := by rw [beq_eq_false_iff_ne]; omega
        have hn2 : ((L2.length : Int) == 0) = false := by rw [beq_eq_false_iff_ne]; omega
        clear hm1 hm2
        go_wp2
        replace p0 : k23.drew.cell? ⟨w.heap.size, 0, none⟩ = some (.int .i64 ac) := p0
        replace p1 : k23.drew.cell? ⟨w.heap.size, 1, none⟩ = some (.int .i64 aq) := p1
        replace p2 : k23.drew.cell? ⟨w.heap.size, 2, none⟩ = some (.slice X1 m1.length d1) := p2
        replace q0 : k23.drew.cell? ⟨w.heap.size + 1, 0, none⟩ = some (.int .i64 bc) := q0
        replace q1 : k23.drew.cell? ⟨w.heap.size + 1, 1, none⟩ = some (.int .i64 bq) := q1
        replace q2 : k23.drew.cell? ⟨w.heap.size + 1, 2, none⟩ = some (.slice X2 m2.length d2) := q2
        replace HO1 := Lib.hid (OwnO.below HO1.out ((Below.refl k23.heap.size k23).drew))
        replace HO2 := Lib.hid (OwnO.below HO2.out ((Below.refl k23.heap.size k23).drew))
        replace HE1 := Lib.hid (OwnB.below HE1.out ((Below.refl k23.heap.size k23).drew))
        replace HE2 := Lib.hid (OwnB.below HE2.out ((Below.refl k23.heap.size k23).drew))
        have cv1 : (convert 34 9 (.slice Y1 L1.length y1)).run Try.prog k23.drew = .ok (.string S) k23.drew := conv_any (Byt.of_own HE1.out) HS.out
        have cv2 : (convert 34 9 (.slice Y2 L2.length y2)).run Try.prog k23.drew = .ok (.string T) k23.drew := conv_any (Byt.of_own HE2.out) HT.out
        refine wp_region_noPanic ?_
        refine wp_region_held_drew (S := fun W => W.cell? ⟨w.heap.size, 0, none⟩ = some (.int .i64 ac) ∧ W.cell? ⟨w.heap.size, 1, none⟩ = some (.int .i64 aq) ∧ W.cell? ⟨w.heap.size, 2, none⟩ = some (.slice X1 m1.length d1) ∧ W.cell? ⟨w.heap.size + 1, 0, none⟩ = some (.int .i64 bc) ∧ W.cell? ⟨w.heap.size + 1, 1, none⟩ = some (.int .i64 bq) ∧ W.cell? ⟨w.heap.size + 1, 2, none⟩ = some (.slice X2 m2.length d2) ∧ (convert 34 9 (.slice Y1 L1.length y1)).run Try.prog W = .ok (.string S) W ∧ (convert 34 9 (.slice Y2 L2.length y2)).run Try.prog W = .ok (.string T) W) (by kernel_rfl) ?_ (fun hHeld => ?_)
        · exact ⟨p0, p1, p2, q0, q1, q2, cv1, cv2⟩
        replace hb : Below w.heap.size w k23.drew := hb.drew
        replace lt0 : w.heap.size < k23.drew.heap.size := lt0
        replace lt1 : w.heap.size + 1 < k23.drew.heap.size := lt1
        have hzd : k23.heap.size ≤ k23.drew.heap.size := Nat.le_refl _
        generalize k23.drew = k24 at *
        refine wpAnyH_take (i := 0) (oi := { dst := some 27, op := Op.move (Operand.tmp 6), type := 34, pos := "wide.go:20", after := #[], guard := none }) (v := .slice Y1 L1.length y1) rfl (by kernel_rfl) (by kernel_rfl) (by kernel_rfl) (fun _ _ _ h => h) (Or.inl ⟨by rfl, fun w hSw => ?_⟩) (by assumption) ?_
        · (try dsimp only at hSw)
          go_simp
        try simp only [Act.put, List.setIfInBounds_toArray, List.set_cons_zero, List.set_cons_succ]
        refine wpAnyH_take (i := 1) (oi := { dst := some 28, op := Op.convert 34 9 (Operand.tmp 27), type := 9, pos := "wide.go:20", after := #[{ on := 0, ground := Ground.data }], guard := none }) (v := .string S) rfl (by kernel_rfl) (by kernel_rfl) (by kernel_rfl) (fun _ _ _ h => h) (Or.inl ⟨by rfl, fun w hSw => ?_⟩) (by assumption) ?_
        · (try dsimp only at hSw)
          go_simp
        try simp only [Act.put, List.setIfInBounds_toArray, List.set_cons_zero, List.set_cons_succ]
        refine wpAnyH_take (i := 2) (oi := { dst := some 29, op := Op.move (Operand.tmp 7), type := 34, pos := "wide.go:20", after := #[], guard := none }) (v := .slice Y2 L2.length y2) rfl (by kernel_rfl) (by kernel_rfl) (by kernel_rfl) (fun _ _ _ h => h) (Or.inl ⟨by rfl, fun w hSw => ?_⟩) (by assumption) ?_
        · (try dsimp only at hSw)
          go_simp
        try simp only [Act.put, List.setIfInBounds_toArray, List.set_cons_zero, List.set_cons_succ]
        refine wpAnyH_take (i := 3) (oi := { dst := some 30, op := Op.convert 34 9 (Operand.tmp 29), type := 9, pos := "wide.go:20", after := #[{ on := 2, ground := Ground.data }], guard := none }) (v := .string T) rfl (by kernel_rfl) (by kernel_rfl) (by kernel_rfl) (fun _ _ _ h => h) (Or.inl ⟨by rfl, fun w hSw => ?_⟩) (by assumption) ?_
        · (try dsimp only at hSw)
          go_simp
        try simp only [Act.put, List.setIfInBounds_toArray, List.set_cons_zero, List.set_cons_succ]
        refine wpAnyH_take (i := 4) (oi := { dst := some 31, op := Op.binOp BinOp.eql 9 (Operand.tmp 28) (Operand.tmp 30) 9, type := 4, pos := "wide.go:20", after := #[{ on := 1, ground := Ground.data }, { on := 3, ground := Ground.data }], guard := none }) (v := .bool x) rfl (by kernel_rfl) (by kernel_rfl) (by kernel_rfl) (fun _ _ _ h => h) (Or.inl ⟨by rfl, fun w hSw => ?_⟩) (by assumption) ?_
        · (try dsimp only at hSw)
          go_simp
        try simp only [Act.put, List.setIfInBounds_toArray, List.set_cons_zero, List.set_cons_succ]
        refine wpAnyH_take (i := 5) (oi := { dst := some 32, op := Op.load 31 (Operand.tmp 2), type := 31, pos := "wide.go:20", after := #[], guard := none }) (v := .agg #[.int .i64 ac, .int .i64 aq, .slice X1 m1.length d1]) rfl (by kernel_rfl) (by kernel_rfl) (by kernel_rfl) (fun _ _ _ h => h) (Or.inl ⟨by rfl, fun w hSw => ?_⟩) (by assumption) ?_
        · (try dsimp only at hSw)
          go_simp
        try simp only [Act.put, List.setIfInBounds_toArray, List.set_cons_zero, List.set_cons_succ]
        refine wpAnyH_take (i := 6) (oi := { dst := some 33, op := Op.load 31 (Operand.tmp 3), type := 31, pos := "wide.go:20", after := #[], guard := none }) (v := .agg #[.int .i64 bc, .int .i64 bq, .slice X2 m2.length d2]) rfl (by kernel_rfl) (by kernel_rfl) (by kernel_rfl) (fun _ _ _ h => h) (Or.inl ⟨by rfl, fun w hSw => ?_⟩) (by assumption) ?_
        · (try dsimp only at hSw)
          go_simp
        try simp only [Act.put, List.setIfInBounds_toArray, List.set_cons_zero, List.set_cons_succ]
        refine wpAnyH_ready (rs := [7]) (by kernel_rfl) (by simp) ?_
        refine AllReadyH.cons (o := { dst := some 34, op := Op.call { callee := Callee.value (Operand.func 20), args := #[Operand.tmp 32, Operand.tmp 33], argTypes := #[31, 31] }, type := 4, pos := "wide.go:20", after := #[{ on := 5, ground := Ground.data }, { on := 6, ground := Ground.data }], guard := none }) rfl (fun K hK => ?_) (AllReadyH.nil)
        go_simp
        go_at_call 20
        refine (reqB_is _ _ _ _ ⟨ac, aq, m1⟩ ⟨bc, bq, m2⟩ x _ ⟨_, rfl, Ops.of_own HO1.out⟩ ⟨_, rfl, Ops.of_own HO2.out⟩ (Nat.le_refl _) (Nat.le_refl _) (Nat.le_trans hl1 (by decide)) HX.out).mono ?_
        rintro e k25 ⟨rfl, h⟩
        have hk : Below k24.heap.size k24 k25 := by
          refine Below.trans ?_ (h.mono (by first | (simp; done) | (simp; omega) | omega))
          repeat' (first | with_reducible exact Below.refl _ _ | (with_reducible refine Below.alloc ?_ ?_ _) | (with_reducible refine Below.setCell ?_ ?_ _) | exact (by first | (simp; done) | (simp; omega) | omega))
        have hz := h.size
        try simp at hz
        replace p0 : k25.cell? ⟨w.heap.size, 0, none⟩ = some (.int .i64 ac) := (hk.cell (p := ⟨w.heap.size, 0, none⟩) (by first | (simp; done) | (simp; omega) | omega)).trans p0
        replace p1 : k25.cell? ⟨w.heap.size, 1, none⟩ = some (.int .i64 aq) := (hk.cell (p := ⟨w.heap.size, 1, none⟩) (by first | (simp; done) | (simp; omega) | omega)).trans p1
        replace p2 : k25.cell? ⟨w.heap.size, 2, none⟩ = some (.slice X1 m1.length d1) := (hk.cell (p := ⟨w.heap.size, 2, none⟩) (by first | (simp; done) | (simp; omega) | omega)).trans p2
        replace q0 : k25.cell? ⟨w.heap.size + 1, 0, none⟩ = some (.int .i64 bc) := (hk.cell (p := ⟨w.heap.size + 1, 0, none⟩) (by first | (simp; done) | (simp; omega) | omega)).trans q0
        replace q1 : k25.cell? ⟨w.heap.size + 1, 1, none⟩ = some (.int .i64 bq) := (hk.cell (p := ⟨w.heap.size + 1, 1, none⟩) (by first | (simp; done) | (simp; omega) | omega)).trans q1
        replace q2 : k25.cell? ⟨w.heap.size + 1, 2, none⟩ = some (.slice X2 m2.length d2) := (hk.cell (p := ⟨w.heap.size + 1, 2, none⟩) (by first | (simp; done) | (simp; omega) | omega)).trans q2
        replace HO1 := Lib.hid (OwnO.below HO1.out hk)
        replace HO2 := Lib.hid (OwnO.below HO2.out hk)
        replace HE1 := Lib.hid (OwnB.below HE1.out hk)
        replace HE2 := Lib.hid (OwnB.below HE2.out hk)
        replace hb : Below w.heap.size w k25 := hb.trans (hk.mono hb.size)
        have lt0 : w.heap.size < k25.heap.size := (by first | (simp; done) | (simp; omega) | omega)
        have lt1 : w.heap.size + 1 < k25.heap.size := (by first | (simp; done) | (simp; omega) | omega)
        clear h hk
        have cv1 : (convert 34 9 (.slice Y1 L1.length y1)).run Try.prog k25 = .ok (.string S) k25 := conv_any (Byt.of_own HE1.out) HS.out
        have cv2 : (convert 34 9 (.slice Y2 L2.length y2)).run Try.prog k25 = .ok (.string T) k25 := conv_any (Byt.of_own HE2.out) HT.out
        try dsimp only
        refine hK.out _ _ ?_ (fun hHeld => ?_)
        · exact ⟨p0, p1, p2, q0, q1, q2, cv1, cv2⟩
        clear hK K
        try simp only [Act.put, List.setIfInBounds_toArray, List.set_cons_zero, List.set_cons_succ]
        refine wpAnyH_ready (rs := [8]) (by kernel_rfl) (by simp) ?_
        refine AllReadyH.cons (o := { dst := some 35, op := Op.binOp BinOp.eql 4 (Operand.tmp 31) (Operand.tmp 34) 4, type := 4, pos := "wide.go:20", after := #[{ on := 4, ground := Ground.data }, { on := 7, ground := Ground.data }], guard := none }) rfl (fun K hK => ?_) (AllReadyH.nil)
        go_simp
        refine hK.out _ _ ?_ (fun hHeld => ?_)
        · exact ⟨p0, p1, p2, q0, q1, q2, cv1, cv2⟩
        clear hK K
        try simp only [Act.put, List.setIfInBounds_toArray, List.set_cons_zero, List.set_cons_succ]
        refine wpAnyH_ready (rs := [9]) (by kernel_rfl) (by simp) ?_
        refine AllReadyH.cons (o := { dst := some 4, op := Op.assign (Operand.tmp 35), type := 4, pos := "wide.go:20", after := #[{ on := 8, ground := Ground.data }, { on := 7, ground := Ground.chain }, { on := 0, ground := Ground.phase }, { on := 1, ground := Ground.phase }, { on := 2, ground := Ground.phase }, { on := 3, ground := Ground.phase }, { on := 4, ground := Ground.phase }, { on := 5, ground := Ground.phase }, { on := 6, ground := Ground.phase }, { on := 7, ground := Ground.phase }, { on := 8, ground := Ground.phase }], guard := none }) rfl (fun K hK => ?_) (AllReadyH.nil)
        go_simp
        refine hK.out _ _ ?_ (fun hHeld => ?_)
        · exact ⟨p0, p1, p2, q0, q1, q2, cv1, cv2⟩
        clear hK K
        try simp only [Act.put, List.setIfInBounds_toArray, List.set_cons_zero, List.set_cons_succ]
        refine wpAnyH_done (by kernel_rfl) ?_ _
        refine NoPanic.normal ?_
        go_wp2
        go_ret
        exact ⟨by simp, hb⟩

set_option maxRecDepth 100000 in
theorem lifted (os : Os) (started : os.Started) (H : Type) (enc : TypeId × Value → H) :
    ReturnsInHanded {} Try.checked os 7 .any (Rows.batchTwinsSpec.pre6 enc Try.prog Try.f7 Rows.batchTwinsRow.domain false) (Rows.batchTwinsSpec.post enc Try.prog Try.f7 false true false false) := by
  refine returnsInHanded_of_change (C := Try.checked) own started (by kernel_rfl) Try.func7
    (ChangeSpec.witness6 (enc := enc) (C := Try.checked) false ⟨#[], #[.agg #[.int .i64 0, .int .i64 0, .slice none 0 0], .agg #[.int .i64 0, .int .i64 0, .slice none 0 0]], []⟩ 8 (by kernel_rfl) (by kernel_rfl) (by kernel_rfl) (by kernel_rfl)) ?_
  intro W base args ds gs before hval0 hW hcnd _
  have hval : ∀ (j : Nat) t v, Try.f7.params[j]? = some t → args[j]? = some v → Value.okWide Try.prog W .any base t v := hval0
  have hW' := hW
  obtain ⟨p, q, hA0, hV, rfl, hfz, hnd⟩ := hW
  have hA : DataW.TrodAll enc Try.prog W 0 (fun _ => true) true Try.f7.params.toList args.toList ds p := hA0
  have hA1 := hA
  rw [Try.params7] at hA hval
  obtain ⟨v0, vs0, d0, ds0, p0, q0, hargs, rfl, rfl, h0, r0⟩ := trodAll_cons hA
  obtain ⟨v1, vs1, d1, ds1, p1, q1, rfl, rfl, rfl, h1, r1⟩ := trodAll_cons r0
  obtain ⟨rfl, rfl, rfl⟩ := trodAll_nil r1
  obtain rfl : args = #[v0, v1] := by cases args; simp_all
  obtain ⟨rfl, rfl⟩ := trodVars_none hV
  obtain ⟨a0, A0, c0, rfl, w0, x0⟩ := open_bat (hval 0 31 v0 rfl rfl) h0
  obtain ⟨a1, A1, c1, rfl, w1, x1⟩ := open_bat (hval 1 31 v1 rfl rfl) h1
  clear hA0 hval0
  simp only [List.append_nil] at hW'
  try simp only [List.append_nil] at hA1
  refine (walk W a0 A0 c0 w0 x0 a1 A1 c1 w1 x1).mono fun e W' ⟨he, hg⟩ => ?_
  subst he
  exact ⟨_, rfl, law_end Try.laidOut (by kernel_rfl) hW' hA1 hg rfl rfl rfl (trodAll_mk1 (shut_bool Try.underlying4 _))⟩

theorem over : Rows.batchTwinsRow.holds Try.pinned (OpenSpec.ofChange Rows.batchTwinsSpec) :=
  OpenClaim.holds_of_wide 7 Try.f7 rfl rfl rfl rfl rfl rfl rfl ⟨rfl, rfl, rfl, rfl, rfl⟩ rfl rfl rfl rfl rfl (by kernel_rfl) Try.func7 (by kernel_rfl)
    (of_decide_eq_true (by kernel_rfl)) (by unfold Func.isWrapper; first | (rw [if_pos (by decide +kernel)]; kernel_rfl) | (rw [if_neg (by decide +kernel)]; exact ⟨rfl, rfl⟩))
    (fun os started H enc _ => lifted os started H enc)

/-- the statement -/
theorem proved : Rows.BatchTwinsSaid := over
#print axioms proved
end Go.Proofs.Ytdhppekfehbngaa.batchTwins
