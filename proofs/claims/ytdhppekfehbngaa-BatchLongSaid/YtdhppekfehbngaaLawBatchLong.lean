/-
  A batch has at most 1,200 bytes, and eight operations. There are no conditions.
-/
import Derived.Test.YtdhppekfehbngaaRows
import Derived.Test.YtdhppekfehbngaaL5Begun
import Derived.Test.YtdhppekfehbngaaL5CutBatch
import Derived.Test.YtdhppekfehbngaaL5Open
import Derived.Test.YtdhppekfehbngaaL4Text
import Derived.Test.YtdhppekfehbngaaLawKit
import Derived.WalkKit
import Derived.ProofKit
import Derived.OpenShut
import Derived.ShutString
set_option linter.unusedSimpArgs false
set_option linter.unusedVariables false
namespace Go.Proofs.Ytdhppekfehbngaa.batchLong
open Go.ChangeShapes Go.WideShapes Go.ChangeAt Go.RowKit
open Go.ChangeMaps (open_string shut_string)
set_option linter.unusedVariables false

theorem own : ownKnob Try.prog.godebug = none := by kernel_rfl
theorem conv_any {w : World} {B n c : Nat} {A : Option Addr} {l : List UInt8} {S : ByteArray} (h : Byt w B (.slice A n c) l) (hS : (⟨l.toArray⟩ : ByteArray) = S) : (convert 34 9 (.slice A n c)).run Try.prog w = .ok (.string S) w := by
  have e : n = l.length := by obtain ⟨_, _, hv, _⟩ := h; injection hv
  rw [(byt_in h).convert (by rw [List.length_map, e]) c 34 5 9 Try.underlying34 Try.underlying5 Try.underlying9, ← hS]
  congr 2
  unfold strOfNums
  rw [List.map_map]
  congr 2
  conv => rhs; rw [← List.map_id l]
  apply List.map_congr_left; intro x _; simp
theorem renc_to (B : Nat) (v : Value) (b : Bat) (l : List UInt8) (w : World) (h : BatV w B v b) (hB : B ≤ w.heap.size) (hok : b.ok) (hl : b.ops.length ≤ 1000) (he : encB b = l) : Calls Try.prog 18 #[v] w (Made l w) := by
  rw [← he]; exact rencodeBatch_any B v b w h hB hok hl
theorem fit_ints {o : Opn} (h : o.fit) : o.ints := ⟨h.1, h.2.2.2.2, h.2.2.1.1, h.2.2.1.2.1, h.2.2.2.1.1, h.2.2.2.1.2.1⟩
theorem byt_take {w : World} {B n c : Nat} {A : Option Addr} {l : List UInt8} (h : Byt w B (.slice A l.length c) l) (hn : n ≤ l.length) : Byt w B (.slice A n c) (l.take n) := by
  obtain ⟨A', c', hv, hc, hcell⟩ := h
  injection hv with e1 _ e2; subst e1; subst e2
  have e : (l.take n).length = n := by rw [List.length_take]; omega
  refine ⟨A, c, by rw [e], by rw [e]; omega, fun h0 => ?_⟩
  rw [e] at h0
  obtain ⟨g, o, rfl, hg, hcs⟩ := hcell (by omega)
  refine ⟨g, o, rfl, hg, fun k hk => ?_⟩
  rw [e] at hk
  rw [hcs k (by omega)]; simp
theorem enc_may {b : Bat} (h : mayB b = true) : encB b = bytesB b ∧ 1 ≤ (encB b).length ∧ (encB b).length ≤ 1200 := by
  have he : encB b = bytesB b := by unfold encB; rw [h]; rfl
  refine ⟨he, ?_, ?_⟩
  · rw [he]; unfold bytesB; have := Nu.put_ne b.client; simp only [List.length_append]; omega
  · rw [mayB_parts, Bool.and_eq_true, decide_eq_true_eq] at h; rw [he]; exact h.2
theorem enc_none {b : Bat} (h : mayB b = false) : encB b = [] := by unfold encB; rw [h]; rfl
theorem dec_less {b : Bat} (h : mayB b = true) (hok : b.ok) (n : Nat) (hn : n < (encB b).length) : decR ((encB b).take n) = (⟨0, 0, []⟩, 1) := by
  have hm := enc_may h
  apply decR_no
  cases ho : okB ((encB b).take n) with
  | false => rfl
  | true =>
    exfalso
    unfold okB at ho
    rw [Bool.and_eq_true, beq_iff_eq] at ho
    have hd := rBat_ok ((encB b).take n) (by rw [List.length_take]; omega)
    have h2 : bytesB (rBat ((encB b).take n)).1 ++ (encB b).drop n = bytesB b ++ [] := by rw [ho.2, List.take_append_drop, hm.1, List.append_nil]
    have h3 := (bytesB_inj ho.1 h hd hok h2).2
    have := congrArg List.length h3
    rw [List.length_drop] at this; simp at this; omega
theorem dec_more {b : Bat} (h : mayB b = true) (hok : b.ok) (x : UInt8) : decR (encB b ++ [x]) = (⟨0, 0, []⟩, 1) := by
  have hm := enc_may h
  apply decR_no
  cases ho : okB (encB b ++ [x]) with
  | false => rfl
  | true =>
    exfalso
    unfold okB at ho
    rw [Bool.and_eq_true, beq_iff_eq] at ho
    have hd := rBat_ok (encB b ++ [x]) (by rw [List.length_append]; simp; omega)
    have h2 : bytesB (rBat (encB b ++ [x])).1 ++ [] = bytesB b ++ [x] := by rw [ho.2, hm.1, List.append_nil]
    have h3 := (bytesB_inj ho.1 h hd hok h2).2
    cases h3
theorem cut_bat {c q : Int} {m : List Opn} (h1 : I64 c) (h2 : I64 q) (h : ∀ x ∈ m, x.ok) : (Bat.mk c q m).ok := ⟨h1, h2, h⟩
def MeetX (R : Act → World → Prop) : Exit → Act → World → Prop
  | .normal, a, W => R a W
  | _, _, _ => False
theorem wp_meetx {P : Program} {c : Code} {Q : Exit → Act → World → Prop} {a : Act} {w : World} (R : Act → Act → World → Prop) (h1 : c.wp P (MeetX (R a)) a w) (h2 : ∀ b W, R a b W → Q .normal b W) : c.wp P Q a w :=
  Code.wp_mono (fun e b W h => by
    cases e with
    | normal => exact h2 b W h
    | _ => exact h.elim) h1
theorem twins {a b : Bat} (ha : mayB a = true) (hb : mayB b = true) (hao : a.ok) (hbo : b.ok) (S T : ByteArray) (hS : (⟨(encB a).toArray⟩ : ByteArray) = S) (hT : (⟨(encB b).toArray⟩ : ByteArray) = T) : (S == T) = eqB a b := by
  have e1 := (enc_may ha).1
  have e2 := (enc_may hb).1
  cases hq : eqB a b with
  | true =>
    have := eqB_iff.1 hq
    subst this
    rw [← hS, ← hT]; exact (bytes_beq2 _ _).2 rfl
  | false =>
    cases hs : (S == T) with
    | false => rfl
    | true =>
      exfalso
      have h := (bytes_beq2 S T).1 hs
      rw [← hS, ← hT] at h
      have h2 : encB a = encB b := by injection h with h; simpa using h
      rw [e1, e2] at h2
      have h3 := (bytesB_inj (r := []) (t := []) ha hb hao hbo (by rw [h2])).1
      rw [h3, eqB_iff.2 rfl] at hq; cases hq
theorem list_beq (S T : ByteArray) : (S.toList == T.toList) = (S == T) := by
  cases h : (S == T) with
  | true => have e := (bytes_beq2 S T).1 h; subst e; exact beq_self_eq_true _
  | false =>
    rw [beq_eq_false_iff_ne]
    intro e
    have e2 := toList_inj e
    subst e2
    rw [(bytes_beq2 S S).2 rfl] at h; cases h
theorem reqB_is (B C : Nat) (u v : Value) (a b : Bat) (x : Bool) (w : World) (ha : BatV w B u a) (hb : BatV w C v b) (hB : B ≤ w.heap.size) (hC : C ≤ w.heap.size) (hl : a.ops.length ≤ 1000000) (hx : eqB a b = x) : Calls Try.prog 20 #[u, v] w (Bl x w) := by
  have h1 : BatV w w.heap.size u a := by
    obtain ⟨s, hv, A, c, hs, hc, hcell⟩ := ha
    exact ⟨s, hv, A, c, hs, hc, fun h0 => by obtain ⟨g, o, hA, hg, r⟩ := hcell h0; exact ⟨g, o, hA, Nat.lt_of_lt_of_le hg hB, r⟩⟩
  have h2 : BatV w w.heap.size v b := by
    obtain ⟨s, hv, A, c, hs, hc, hcell⟩ := hb
    exact ⟨s, hv, A, c, hs, hc, fun h0 => by obtain ⟨g, o, hA, hg, r⟩ := hcell h0; exact ⟨g, o, hA, Nat.lt_of_lt_of_le hg hC, r⟩⟩
  rw [← hx]; exact reqBatch_any w.heap.size u v a b w h1 h2 (Nat.le_refl _) hl
theorem i64_2 : i64 2 := ⟨by decide, by decide⟩

set_option maxRecDepth 100000 in
set_option maxHeartbeats 8000000 in
theorem walk (w : World) (a0 : Int) (w0 : (Lit.int .i64 a0).wf = true) (a1 : Int) (w1 : (Lit.int .i64 a1).wf = true) :
    Calls Try.prog 6 #[.int .i64 a0, .int .i64 a1] w fun e w' => e = .returned (.bool true) ∧ Below w.heap.size w w' := by
  have hn0 := wf_i64 w0
  have hn1 := wf_i64 w1
  have hb := Below.refl w.heap.size w
  go_enter Try.func6, Try.ntmps6
  go_wp2_with fail
  refine (begun5_any _).mono ?_
  rintro e k1 ⟨rfl, h⟩
  have hk : Below w.heap.size w k1 := by
    refine Below.trans ?_ (h.mono (by first | (simp; done) | (simp; omega) | omega))
    repeat' (first | with_reducible exact Below.refl _ _ | (with_reducible refine Below.alloc ?_ ?_ _) | (with_reducible refine Below.setCell ?_ ?_ _) | exact (by first | (simp; done) | (simp; omega) | omega))
  have hz := h.size
  try simp at hz
  replace hb : Below w.heap.size w k1 := hb.trans (hk.mono hb.size)
  clear h hk
  by_cases hin : 0 ≤ a0 ∧ a0 ≤ 10 ∧ 0 ≤ a1 ∧ a1 ≤ 200
  · obtain ⟨n, rfl⟩ : ∃ n : Nat, a0 = (n : Int) := ⟨a0.toNat, by omega⟩
    obtain ⟨s, rfl⟩ : ∃ s : Nat, a1 = (s : Int) := ⟨a1.toNat, by omega⟩
    obtain ⟨h1, h2, h3, h4⟩ := hin
    have hs : s ≤ 200 := by omega
    have hn : n ≤ 10 := by omega
    have hmk := make_zer s (by omega)
    have hcv := conv_zer s
    go_wp2
    refine wp_world (fun W => W.cell? ⟨k1.heap.size, 0, none⟩ = some (.int .i64 1) ∧ W.cell? ⟨k1.heap.size, 1, none⟩ = some (.int .i64 1) ∧ W.cell? ⟨k1.heap.size, 2, none⟩ = some (.slice none 0 0) ∧ W.frozen? ⟨k1.heap.size, 0, none⟩ = false ∧ W.frozen? ⟨k1.heap.size, 1, none⟩ = false ∧ W.frozen? ⟨k1.heap.size, 2, none⟩ = false ∧ Below (k1.heap.size) k1 W ∧ k1.heap.size + 1 ≤ W.heap.size) ⟨(by go_simp), (by go_simp), (by go_simp), (by go_simp), (by go_simp), (by go_simp), (by
        repeat' (first | with_reducible exact Below.refl _ _ | (with_reducible refine Below.alloc ?_ ?_ _) | (with_reducible refine Below.setCell ?_ ?_ _) | exact (by first | (simp; done) | (simp; omega) | omega))), (by first | (simp; done) | (simp; omega) | omega)⟩ ?_
    rintro k2 ⟨b0, b1, b2, bf0, bf1, bf2, hk, hz⟩
    replace hb : Below w.heap.size w k2 := hb.trans (hk.mono (by first | exact hb.size | omega | (simp; omega)))
    have lt0 : k1.heap.size < k2.heap.size := (by first | (simp; done) | (simp; omega) | omega)
    clear hk
    go_loopw [7] (fun i wr => ∃ (k : Nat) (A : Option Addr) (c : Nat), i = .int .i64 k ∧ k ≤ n ∧ wr.cell? ⟨k1.heap.size, 0, none⟩ = some (.int .i64 1) ∧ wr.cell? ⟨k1.heap.size, 1, none⟩ = some (.int .i64 1) ∧ wr.cell? ⟨k1.heap.size, 2, none⟩ = some (.slice A k c) ∧ wr.frozen? ⟨k1.heap.size, 2, none⟩ = false ∧ OwnO (k1.heap.size + 1) (.slice A k c) (List.replicate k (⟨1, ⟨#[107]⟩, ⟨2, 0, zer s⟩, ⟨0, 0, ⟨#[]⟩⟩, 0⟩ : Opn)) wr ∧ Below w.heap.size w wr ∧ k1.heap.size < wr.heap.size) (fun i _ => n - (intOf i).toNat)
    case atStart => exact ⟨0, none, 0, rfl, Nat.zero_le _, b0, b1, b2, bf2, World.ownsRow_nil _ _ _ _, hb, lt0⟩
    case round =>
      have hbT : w.heap.size ≤ k1.heap.size := by have := hb.size; omega
      clear b0 b1 b2 bf0 bf1 bf2 hb
      obtain ⟨k, A, c, rfl, hk, b0, b1, b2, bf2, ho, hb, hltT⟩ := hrel
      have hapT : some k1.heap.size ≠ (Value.slice A k c).ownBlock := fun e => by have := (World.ownsRow.lt ho _ e.symm).1; omega
      have hapB : ∀ j, (Value.slice A k c).ownBlock = some j → k1.heap.size + 1 ≤ j := fun j hj => (World.ownsRow.lt ho j hj).1
      have HO := Lib.hid ho; clear ho
      by_cases hkn : k < n
      · have hkM : (k : Int) < (n : Int) := by omega
        go_wp2
        replace b0 : wr.drew.cell? ⟨k1.heap.size, 0, none⟩ = some (.int .i64 1) := b0
        replace b1 : wr.drew.cell? ⟨k1.heap.size, 1, none⟩ = some (.int .i64 1) := b1
        replace b2 : wr.drew.cell? ⟨k1.heap.size, 2, none⟩ = some (.slice A k c) := b2
        replace bf2 : wr.drew.frozen? ⟨k1.heap.size, 2, none⟩ = false := bf2
        replace HO := Lib.hid (OwnO.below HO.out ((Below.refl wr.heap.size wr).drew))
        refine wp_region_noPanic ?_
        refine wp_region_held_drew (S := fun W => True) (by kernel_rfl) ?_ (fun hHeld => ?_)
        · trivial
        replace hb : Below w.heap.size w wr.drew := hb.drew
        replace hltT : k1.heap.size < wr.drew.heap.size := hltT
        have hzd : wr.heap.size ≤ wr.drew.heap.size := Nat.le_refl _
        generalize wr.drew = k41 at *
        refine wpAnyH_take (i := 0) (oi := { dst := some 31, op := Op.fieldAddr 31 (Operand.tmp 6) 2, type := 0, pos := "law.go:97", after := #[], guard := none }) (v := .pointer (some ⟨k1.heap.size, 2, none⟩)) rfl (by kernel_rfl) (by kernel_rfl) (by kernel_rfl) (fun _ _ _ h => h) (Or.inl ⟨by rfl, fun w hSw => ?_⟩) (by assumption) ?_
        · (try dsimp only at hSw)
          go_simp
        try simp only [Act.put, List.setIfInBounds_toArray, List.set_cons_zero, List.set_cons_succ]
        refine wpAnyH_take (i := 2) (oi := { dst := some 33, op := Op.move (Operand.tmp 1), type := 3, pos := "law.go:97", after := #[], guard := none }) (v := .int .i64 (s : Int)) rfl (by kernel_rfl) (by kernel_rfl) (by kernel_rfl) (fun _ _ _ h => h) (Or.inl ⟨by rfl, fun w hSw => ?_⟩) (by assumption) ?_
        · (try dsimp only at hSw)
          go_simp
        try simp only [Act.put, List.setIfInBounds_toArray, List.set_cons_zero, List.set_cons_succ]
        refine wpAnyH_ready (rs := [1, 3]) (by kernel_rfl) (by simp) ?_
        refine AllReadyH.cons (o := { dst := some 32, op := Op.load 27 (Operand.tmp 31), type := 27, pos := "law.go:97", after := #[{ on := 0, ground := Ground.data }], guard := none }) rfl (fun K hK => ?_) (AllReadyH.cons (o := { dst := some 34, op := Op.makeSlice 34 (Operand.tmp 33) (Operand.tmp 33), type := 34, pos := "law.go:97", after := #[{ on := 2, ground := Ground.data }, { on := 2, ground := Ground.data }], guard := none }) rfl (fun K hK => ?_) (AllReadyH.nil))
        · go_simp
          refine hK.out _ _ ?_ (fun hHeld => ?_)
          · trivial
          clear hK K
          try simp only [Act.put, List.setIfInBounds_toArray, List.set_cons_zero, List.set_cons_succ]
          refine wpAnyH_ready (rs := [3]) (by kernel_rfl) (by simp) ?_
          refine AllReadyH.cons (o := { dst := some 34, op := Op.makeSlice 34 (Operand.tmp 33) (Operand.tmp 33), type := 34, pos := "law.go:97", after := #[{ on := 2, ground := Ground.data }, { on := 2, ground := Ground.data }], guard := none }) rfl (fun K hK => ?_) (AllReadyH.nil)
          go_simp
          refine hK.out _ _ ?_ (fun hHeld => ?_)
          · trivial
          clear hK K
          try simp only [Act.put, List.setIfInBounds_toArray, List.set_cons_zero, List.set_cons_succ]
          refine wpAnyH_ready (rs := [4]) (by kernel_rfl) (by simp) ?_
          refine AllReadyH.cons (o := { dst := some 35, op := Op.convert 34 9 (Operand.tmp 34), type := 9, pos := "law.go:97", after := #[{ on := 3, ground := Ground.data }], guard := none }) rfl (fun K hK => ?_) (AllReadyH.nil)
          go_simp
          refine hK.out _ _ ?_ (fun hHeld => ?_)
          · trivial
          clear hK K
          try simp only [Act.put, List.setIfInBounds_toArray, List.set_cons_zero, List.set_cons_succ]
          refine wpAnyH_take (i := 5) (oi := { dst := some 36, op := Op.build 23 #[(0, Operand.const (Value.int IntKind.i64 2)), (2, Operand.tmp 35)], type := 23, pos := "law.go:97", after := #[{ on := 4, ground := Ground.data }], guard := none }) (v := .agg #[.int .i64 2, .int .i64 0, .string (zer s)]) rfl (by kernel_rfl) (by kernel_rfl) (by kernel_rfl) (fun _ _ _ h => h) (Or.inl ⟨by rfl, fun w hSw => ?_⟩) (by assumption) ?_
          · (try dsimp only at hSw)
            go_simp
          try simp only [Act.put, List.setIfInBounds_toArray, List.set_cons_zero, List.set_cons_succ]
          refine wpAnyH_take (i := 6) (oi := { dst := some 37, op := Op.build 25 #[(0, Operand.const (Value.int IntKind.i64 1)), (1, Operand.const (Value.string { data := #[107] })), (2, Operand.tmp 36)], type := 25, pos := "law.go:97", after := #[{ on := 5, ground := Ground.data }], guard := none }) (v := .agg #[.int .i64 1, .string ⟨#[107]⟩, .int .i64 2, .int .i64 0, .string (zer s), .int .i64 0, .int .i64 0, .string ⟨#[]⟩, .int .i64 0]) rfl (by kernel_rfl) (by kernel_rfl) (by kernel_rfl) (fun _ _ _ h => h) (Or.inl ⟨by rfl, fun w hSw => ?_⟩) (by assumption) ?_
          · (try dsimp only at hSw)
            go_simp
          try simp only [Act.put, List.setIfInBounds_toArray, List.set_cons_zero, List.set_cons_succ]
          refine wpAnyH_ready (rs := [7]) (by kernel_rfl) (by simp) ?_
          refine AllReadyH.cons (o := { dst := some 38, op := Op.buildSlice 27 1 #[(0, Operand.tmp 37)], type := 27, pos := "law.go:97", after := #[{ on := 6, ground := Ground.data }], guard := none }) rfl (fun K hK => ?_) (AllReadyH.nil)
          go_simp
          refine hK.out _ _ ?_ (fun hHeld => ?_)
          · trivial
          clear hK K
          try simp only [Act.put, List.setIfInBounds_toArray, List.set_cons_zero, List.set_cons_succ]
          refine wpAnyH_ready (rs := [8]) (by kernel_rfl) (by simp) ?_
          refine AllReadyH.cons (o := { dst := some 39, op := Op.call { callee := Callee.builtin Builtin.append, args := #[Operand.tmp 32, Operand.tmp 38], argTypes := #[27, 27] }, type := 27, pos := "law.go:97", after := #[{ on := 1, ground := Ground.data }, { on := 7, ground := Ground.data }], guard := none }) rfl (fun K hK => ?_) (AllReadyH.nil)
          rw [if_pos (by rfl)]
          refine wp_append_op _ _ rfl (k1.heap.size + 1) _ (List.replicate k (⟨1, ⟨#[107]⟩, ⟨2, 0, zer s⟩, ⟨0, 0, ⟨#[]⟩⟩, 0⟩ : Opn)) (⟨1, ⟨#[107]⟩, ⟨2, 0, zer s⟩, ⟨0, 0, ⟨#[]⟩⟩, 0⟩ : Opn) (k41.heap.size + 1) rfl (OwnO.below HO.out (((Below.refl _ _).alloc (Nat.le_refl _) _).alloc (by simp) _)) rfl (by
            intro j z hj
            rw [Nat.zero_add, World.cell?_alloc_at _ _ _ _ (by simp)]; simpa [Opn.cs] using hj) (by rw [List.length_replicate]; omega) (by simp; omega) ?_
          intro v1 w1 ho1 hg1
          have hln : (List.replicate k (⟨1, ⟨#[107]⟩, ⟨2, 0, zer s⟩, ⟨0, 0, ⟨#[]⟩⟩, 0⟩ : Opn) ++ [((⟨1, ⟨#[107]⟩, ⟨2, 0, zer s⟩, ⟨0, 0, ⟨#[]⟩⟩, 0⟩ : Opn) : Opn)]).length = k + 1 := by rw [List.length_append, List.length_replicate]; rfl
          obtain ⟨A1, c1, hv1⟩ := own_slice ho1
          rw [hln] at hv1
          subst hv1
          have hgg := (World.grownBy_alloc k41 _ _).trans ((World.grownBy_alloc _ _ _).trans hg1)
          replace b0 := (hgg.cell_far ⟨k1.heap.size, 0, none⟩ hltT hapT).trans b0
          replace b1 := (hgg.cell_far ⟨k1.heap.size, 1, none⟩ hltT hapT).trans b1
          replace b2 := (hgg.cell_far ⟨k1.heap.size, 2, none⟩ hltT hapT).trans b2
          replace bf2 := (hgg.frozen_far ⟨k1.heap.size, 2, none⟩ hltT hapT).trans bf2
          have hz8 : k41.heap.size ≤ w1.heap.size := hgg.size
          have hwk2 : Below w.heap.size k41 w1 := (Below.refl _ _).grown hgg (by have := hb.size; omega) (fun j hj => by have := hapB j hj; omega)
          have HO3 := Lib.hid ho1
          clear ho1 hg1 hgg
          try dsimp only
          refine hK.out _ _ ?_ (fun hHeld => ?_)
          · trivial
          clear hK K
          try simp only [Act.put, List.setIfInBounds_toArray, List.set_cons_zero, List.set_cons_succ]
          refine wpAnyH_take (i := 9) (oi := { dst := some 40, op := Op.fieldAddr 31 (Operand.tmp 6) 2, type := 0, pos := "law.go:97", after := #[{ on := 0, ground := Ground.phase }, { on := 1, ground := Ground.phase }, { on := 2, ground := Ground.phase }, { on := 3, ground := Ground.phase }, { on := 4, ground := Ground.phase }, { on := 5, ground := Ground.phase }, { on := 6, ground := Ground.phase }, { on := 7, ground := Ground.phase }, { on := 8, ground := Ground.phase }], guard := none }) (v := .pointer (some ⟨k1.heap.size, 2, none⟩)) rfl (by kernel_rfl) (by kernel_rfl) (by kernel_rfl) (fun _ _ _ h => h) (Or.inl ⟨by rfl, fun w hSw => ?_⟩) (by assumption) ?_
          · (try dsimp only at hSw)
            go_simp
          try simp only [Act.put, List.setIfInBounds_toArray, List.set_cons_zero, List.set_cons_succ]
          refine wpAnyH_ready (rs := [10]) (by kernel_rfl) (by simp) ?_
          refine AllReadyH.cons (o := { dst := none, op := Op.store 27 (Operand.tmp 40) (Operand.tmp 39), type := 0, pos := "law.go:97", after := #[{ on := 9, ground := Ground.data }, { on := 8, ground := Ground.data }, { on := 8, ground := Ground.chain }, { on := 0, ground := Ground.phase }, { on := 1, ground := Ground.phase }, { on := 2, ground := Ground.phase }, { on := 3, ground := Ground.phase }, { on := 4, ground := Ground.phase }, { on := 5, ground := Ground.phase }, { on := 6, ground := Ground.phase }, { on := 7, ground := Ground.phase }, { on := 8, ground := Ground.phase }], guard := none }) rfl (fun K hK => ?_) (AllReadyH.nil)
          go_simp
          refine hK.out _ _ ?_ (fun hHeld => ?_)
          · trivial
          clear hK K
          try simp only [Act.put, List.setIfInBounds_toArray, List.set_cons_zero, List.set_cons_succ]
          refine wpAnyH_done (by kernel_rfl) ?_ _
          refine NoPanic.normal ?_
          have hwT : k1.heap.size < w1.heap.size := by omega
          have hrep : List.replicate (k + 1) (⟨1, ⟨#[107]⟩, ⟨2, 0, zer s⟩, ⟨0, 0, ⟨#[]⟩⟩, 0⟩ : Opn) = List.replicate k (⟨1, ⟨#[107]⟩, ⟨2, 0, zer s⟩, ⟨0, 0, ⟨#[]⟩⟩, 0⟩ : Opn) ++ [((⟨1, ⟨#[107]⟩, ⟨2, 0, zer s⟩, ⟨0, 0, ⟨#[]⟩⟩, 0⟩ : Opn) : Opn)] := List.replicate_succ'
          have HREP := Lib.hid hrep; clear hrep
          go_wp2
          go_roundw
          case rel =>
            refine ⟨k + 1, A1, c1, by go_num, by omega, by go_simp, by go_simp, by go_simp, by go_simp, ?_, ?_, ?_⟩
            · rw [HREP.out]; exact ownsRow_set HO3.out (by show k1.heap.size < k1.heap.size + 1; omega)
            · exact (hb.trans hwk2).setCell (by show w.heap.size ≤ k1.heap.size; omega) _
            · simp; omega
          case measure => simp [intOf]; omega
        · go_simp
          refine hK.out _ _ ?_ (fun hHeld => ?_)
          · trivial
          clear hK K
          try simp only [Act.put, List.setIfInBounds_toArray, List.set_cons_zero, List.set_cons_succ]
          refine wpAnyH_ready (rs := [1, 4]) (by kernel_rfl) (by simp) ?_
          refine AllReadyH.cons (o := { dst := some 32, op := Op.load 27 (Operand.tmp 31), type := 27, pos := "law.go:97", after := #[{ on := 0, ground := Ground.data }], guard := none }) rfl (fun K hK => ?_) (AllReadyH.cons (o := { dst := some 35, op := Op.convert 34 9 (Operand.tmp 34), type := 9, pos := "law.go:97", after := #[{ on := 3, ground := Ground.data }], guard := none }) rfl (fun K hK => ?_) (AllReadyH.nil))
          · go_simp
            refine hK.out _ _ ?_ (fun hHeld => ?_)
            · trivial
            clear hK K
            try simp only [Act.put, List.setIfInBounds_toArray, List.set_cons_zero, List.set_cons_succ]
            refine wpAnyH_ready (rs := [4]) (by kernel_rfl) (by simp) ?_
            refine AllReadyH.cons (o := { dst := some 35, op := Op.convert 34 9 (Operand.tmp 34), type := 9, pos := "law.go:97", after := #[{ on := 3, ground := Ground.data }], guard := none }) rfl (fun K hK => ?_) (AllReadyH.nil)
            go_simp
            refine hK.out _ _ ?_ (fun hHeld => ?_)
            · trivial
            clear hK K
            try simp only [Act.put, List.setIfInBounds_toArray, List.set_cons_zero, List.set_cons_succ]
            refine wpAnyH_take (i := 5) (oi := { dst := some 36, op := Op.build 23 #[(0, Operand.const (Value.int IntKind.i64 2)), (2, Operand.tmp 35)], type := 23, pos := "law.go:97", after := #[{ on := 4, ground := Ground.data }], guard := none }) (v := .agg #[.int .i64 2, .int .i64 0, .string (zer s)]) rfl (by kernel_rfl) (by kernel_rfl) (by kernel_rfl) (fun _ _ _ h => h) (Or.inl ⟨by rfl, fun w hSw => ?_⟩) (by assumption) ?_
            · (try dsimp only at hSw)
              go_simp
            try simp only [Act.put, List.setIfInBounds_toArray, List.set_cons_zero, List.set_cons_succ]
            refine wpAnyH_take (i := 6) (oi := { dst := some 37, op := Op.build 25 #[(0, Operand.const (Value.int IntKind.i64 1)), (1, Operand.const (Value.string { data := #[107] })), (2, Operand.tmp 36)], type := 25, pos := "law.go:97", after := #[{ on := 5, ground := Ground.data }], guard := none }) (v := .agg #[.int .i64 1, .string ⟨#[107]⟩, .int .i64 2, .int .i64 0, .string (zer s), .int .i64 0, .int .i64 0, .string ⟨#[]⟩, .int .i64 0]) rfl (by kernel_rfl) (by kernel_rfl) (by kernel_rfl) (fun _ _ _ h => h) (Or.inl ⟨by rfl, fun w hSw => ?_⟩) (by assumption) ?_
            · (try dsimp only at hSw)
              go_simp
            try simp only [Act.put, List.setIfInBounds_toArray, List.set_cons_zero, List.set_cons_succ]
            refine wpAnyH_ready (rs := [7]) (by kernel_rfl) (by simp) ?_
            refine AllReadyH.cons (o := { dst := some 38, op := Op.buildSlice 27 1 #[(0, Operand.tmp 37)], type := 27, pos := "law.go:97", after := #[{ on := 6, ground := Ground.data }], guard := none }) rfl (fun K hK => ?_) (AllReadyH.nil)
            go_simp
            refine hK.out _ _ ?_ (fun hHeld => ?_)
            · trivial
            clear hK K
            try simp only [Act.put, List.setIfInBounds_toArray, List.set_cons_zero, List.set_cons_succ]
            refine wpAnyH_ready (rs := [8]) (by kernel_rfl) (by simp) ?_
            refine AllReadyH.cons (o := { dst := some 39, op := Op.call { callee := Callee.builtin Builtin.append, args := #[Operand.tmp 32, Operand.tmp 38], argTypes := #[27, 27] }, type := 27, pos := "law.go:97", after := #[{ on := 1, ground := Ground.data }, { on := 7, ground := Ground.data }], guard := none }) rfl (fun K hK => ?_) (AllReadyH.nil)
            rw [if_pos (by rfl)]
            refine wp_append_op _ _ rfl (k1.heap.size + 1) _ (List.replicate k (⟨1, ⟨#[107]⟩, ⟨2, 0, zer s⟩, ⟨0, 0, ⟨#[]⟩⟩, 0⟩ : Opn)) (⟨1, ⟨#[107]⟩, ⟨2, 0, zer s⟩, ⟨0, 0, ⟨#[]⟩⟩, 0⟩ : Opn) (k41.heap.size + 1) rfl (OwnO.below HO.out (((Below.refl _ _).alloc (Nat.le_refl _) _).alloc (by simp) _)) rfl (by
              intro j z hj
              rw [Nat.zero_add, World.cell?_alloc_at _ _ _ _ (by simp)]; simpa [Opn.cs] using hj) (by rw [List.length_replicate]; omega) (by simp; omega) ?_
            intro v1 w1 ho1 hg1
            have hln : (List.replicate k (⟨1, ⟨#[107]⟩, ⟨2, 0, zer s⟩, ⟨0, 0, ⟨#[]⟩⟩, 0⟩ : Opn) ++ [((⟨1, ⟨#[107]⟩, ⟨2, 0, zer s⟩, ⟨0, 0, ⟨#[]⟩⟩, 0⟩ : Opn) : Opn)]).length = k + 1 := by rw [List.length_append, List.length_replicate]; rfl
            obtain ⟨A1, c1, hv1⟩ := own_slice ho1
            rw [hln] at hv1
            subst hv1
            have hgg := (World.grownBy_alloc k41 _ _).trans ((World.grownBy_alloc _ _ _).trans hg1)
            replace b0 := (hgg.cell_far ⟨k1.heap.size, 0, none⟩ hltT hapT).trans b0
            replace b1 := (hgg.cell_far ⟨k1.heap.size, 1, none⟩ hltT hapT).trans b1
            replace b2 := (hgg.cell_far ⟨k1.heap.size, 2, none⟩ hltT hapT).trans b2
            replace bf2 := (hgg.frozen_far ⟨k1.heap.size, 2, none⟩ hltT hapT).trans bf2
            have hz8 : k41.heap.size ≤ w1.heap.size := hgg.size
            have hwk2 : Below w.heap.size k41 w1 := (Below.refl _ _).grown hgg (by have := hb.size; omega) (fun j hj => by have := hapB j hj; omega)
            have HO3 := Lib.hid ho1
            clear ho1 hg1 hgg
            try dsimp only
            refine hK.out _ _ ?_ (fun hHeld => ?_)
            · trivial
            clear hK K
            try simp only [Act.put, List.setIfInBounds_toArray, List.set_cons_zero, List.set_cons_succ]
            refine wpAnyH_take (i := 9) (oi := { dst := some 40, op := Op.fieldAddr 31 (Operand.tmp 6) 2, type := 0, pos := "law.go:97", after := #[{ on := 0, ground := Ground.phase }, { on := 1, ground := Ground.phase }, { on := 2, ground := Ground.phase }, { on := 3, ground := Ground.phase }, { on := 4, ground := Ground.phase }, { on := 5, ground := Ground.phase }, { on := 6, ground := Ground.phase }, { on := 7, ground := Ground.phase }, { on := 8, ground := Ground.phase }], guard := none }) (v := .pointer (some ⟨k1.heap.size, 2, none⟩)) rfl (by kernel_rfl) (by kernel_rfl) (by kernel_rfl) (fun _ _ _ h => h) (Or.inl ⟨by rfl, fun w hSw => ?_⟩) (by assumption) ?_
            · (try dsimp only at hSw)
              go_simp
            try simp only [Act.put, List.setIfInBounds_toArray, List.set_cons_zero, List.set_cons_succ]
            refine wpAnyH_ready (rs := [10]) (by kernel_rfl) (by simp) ?_
            refine AllReadyH.cons (o := { dst := none, op := Op.store 27 (Operand.tmp 40) (Operand.tmp 39), type := 0, pos := "law.go:97", after := #[{ on := 9, ground := Ground.data }, { on := 8, ground := Ground.data }, { on := 8, ground := Ground.chain }, { on := 0, ground := Ground.phase }, { on := 1, ground := Ground.phase }, { on := 2, ground := Ground.phase }, { on := 3, ground := Ground.phase }, { on := 4, ground := Ground.phase }, { on := 5, ground := Ground.phase }, { on := 6, ground := Ground.phase }, { on := 7, ground := Ground.phase }, { on := 8, ground := Ground.phase }], guard := none }) rfl (fun K hK => ?_) (AllReadyH.nil)
            go_simp
            refine hK.out _ _ ?_ (fun hHeld => ?_)
            · trivial
            clear hK K
            try simp only [Act.put, List.setIfInBounds_toArray, List.set_cons_zero, List.set_cons_succ]
            refine wpAnyH_done (by kernel_rfl) ?_ _
            refine NoPanic.normal ?_
            have hwT : k1.heap.size < w1.heap.size := by omega
            have hrep : List.replicate (k + 1) (⟨1, ⟨#[107]⟩, ⟨2, 0, zer s⟩, ⟨0, 0, ⟨#[]⟩⟩, 0⟩ : Opn) = List.replicate k (⟨1, ⟨#[107]⟩, ⟨2, 0, zer s⟩, ⟨0, 0, ⟨#[]⟩⟩, 0⟩ : Opn) ++ [((⟨1, ⟨#[107]⟩, ⟨2, 0, zer s⟩, ⟨0, 0, ⟨#[]⟩⟩, 0⟩ : Opn) : Opn)] := List.replicate_succ'
            have HREP := Lib.hid hrep; clear hrep
            go_wp2
            go_roundw
            case rel =>
              refine ⟨k + 1, A1, c1, by go_num, by omega, by go_simp, by go_simp, by go_simp, by go_simp, ?_, ?_, ?_⟩
              · rw [HREP.out]; exact ownsRow_set HO3.out (by show k1.heap.size < k1.heap.size + 1; omega)
              · exact (hb.trans hwk2).setCell (by show w.heap.size ≤ k1.heap.size; omega) _
              · simp; omega
            case measure => simp [intOf]; omega
          · go_simp
            refine hK.out _ _ ?_ (fun hHeld => ?_)
            · trivial
            clear hK K
            try simp only [Act.put, List.setIfInBounds_toArray, List.set_cons_zero, List.set_cons_succ]
            refine wpAnyH_take (i := 5) (oi := { dst := some 36, op := Op.build 23 #[(0, Operand.const (Value.int IntKind.i64 2)), (2, Operand.tmp 35)], type := 23, pos := "law.go:97", after := #[{ on := 4, ground := Ground.data }], guard := none }) (v := .agg #[.int .i64 2, .int .i64 0, .string (zer s)]) rfl (by kernel_rfl) (by kernel_rfl) (by kernel_rfl) (fun _ _ _ h => h) (Or.inl ⟨by rfl, fun w hSw => ?_⟩) (by assumption) ?_
            · (try dsimp only at hSw)
              go_simp
            try simp only [Act.put, List.setIfInBounds_toArray, List.set_cons_zero, List.set_cons_succ]
            refine wpAnyH_take (i := 6) (oi := { dst := some 37, op := Op.build 25 #[(0, Operand.const (Value.int IntKind.i64 1)), (1, Operand.const (Value.string { data := #[107] })), (2, Operand.tmp 36)], type := 25, pos := "law.go:97", after := #[{ on := 5, ground := Ground.data }], guard := none }) (v := .agg #[.int .i64 1, .string ⟨#[107]⟩, .int .i64 2, .int .i64 0, .string (zer s), .int .i64 0, .int .i64 0, .string ⟨#[]⟩, .int .i64 0]) rfl (by kernel_rfl) (by kernel_rfl) (by kernel_rfl) (fun _ _ _ h => h) (Or.inl ⟨by rfl, fun w hSw => ?_⟩) (by assumption) ?_
            · (try dsimp only at hSw)
              go_simp
            try simp only [Act.put, List.setIfInBounds_toArray, List.set_cons_zero, List.set_cons_succ]
            refine wpAnyH_ready (rs := [1, 7]) (by kernel_rfl) (by simp) ?_
            refine AllReadyH.cons (o := { dst := some 32, op := Op.load 27 (Operand.tmp 31), type := 27, pos := "law.go:97", after := #[{ on := 0, ground := Ground.data }], guard := none }) rfl (fun K hK => ?_) (AllReadyH.cons (o := { dst := some 38, op := Op.buildSlice 27 1 #[(0, Operand.tmp 37)], type := 27, pos := "law.go:97", after := #[{ on := 6, ground := Ground.data }], guard := none }) rfl (fun K hK => ?_) (AllReadyH.nil))
            · go_simp
              refine hK.out _ _ ?_ (fun hHeld => ?_)
              · trivial
              clear hK K
              try simp only [Act.put, List.setIfInBounds_toArray, List.set_cons_zero, List.set_cons_succ]
              refine wpAnyH_ready (rs := [7]) (by kernel_rfl) (by simp) ?_
              refine AllReadyH.cons (o := { dst := some 38, op := Op.buildSlice 27 1 #[(0, Operand.tmp 37)], type := 27, pos := "law.go:97", after := #[{ on := 6, ground := Ground.data }], guard := none }) rfl (fun K hK => ?_) (AllReadyH.nil)
              go_simp
              refine hK.out _ _ ?_ (fun hHeld => ?_)
              · trivial
              clear hK K
              try simp only [Act.put, List.setIfInBounds_toArray, List.set_cons_zero, List.set_cons_succ]
              refine wpAnyH_ready (rs := [8]) (by kernel_rfl) (by simp) ?_
              refine AllReadyH.cons (o := { dst := some 39, op := Op.call { callee := Callee.builtin Builtin.append, args := #[Operand.tmp 32, Operand.tmp 38], argTypes := #[27, 27] }, type := 27, pos := "law.go:97", after := #[{ on := 1, ground := Ground.data }, { on := 7, ground := Ground.data }], guard := none }) rfl (fun K hK => ?_) (AllReadyH.nil)
              rw [if_pos (by rfl)]
              refine wp_append_op _ _ rfl (k1.heap.size + 1) _ (List.replicate k (⟨1, ⟨#[107]⟩, ⟨2, 0, zer s⟩, ⟨0, 0, ⟨#[]⟩⟩, 0⟩ : Opn)) (⟨1, ⟨#[107]⟩, ⟨2, 0, zer s⟩, ⟨0, 0, ⟨#[]⟩⟩, 0⟩ : Opn) (k41.heap.size + 1) rfl (OwnO.below HO.out (((Below.refl _ _).alloc (Nat.le_refl _) _).alloc (by simp) _)) rfl (by
                intro j z hj
                rw [Nat.zero_add, World.cell?_alloc_at _ _ _ _ (by simp)]; simpa [Opn.cs] using hj) (by rw [List.length_replicate]; omega) (by simp; omega) ?_
              intro v1 w1 ho1 hg1
              have hln : (List.replicate k (⟨1, ⟨#[107]⟩, ⟨2, 0, zer s⟩, ⟨0, 0, ⟨#[]⟩⟩, 0⟩ : Opn) ++ [((⟨1, ⟨#[107]⟩, ⟨2, 0, zer s⟩, ⟨0, 0, ⟨#[]⟩⟩, 0⟩ : Opn) : Opn)]).length = k + 1 := by rw [List.length_append, List.length_replicate]; rfl
              obtain ⟨A1, c1, hv1⟩ := own_slice ho1
              rw [hln] at hv1
              subst hv1
              have hgg := (World.grownBy_alloc k41 _ _).trans ((World.grownBy_alloc _ _ _).trans hg1)
              replace b0 := (hgg.cell_far ⟨k1.heap.size, 0, none⟩ hltT hapT).trans b0
              replace b1 := (hgg.cell_far ⟨k1.heap.size, 1, none⟩ hltT hapT).trans b1
              replace b2 := (hgg.cell_far ⟨k1.heap.size, 2, none⟩ hltT hapT).trans b2
              replace bf2 := (hgg.frozen_far ⟨k1.heap.size, 2, none⟩ hltT hapT).trans bf2
              have hz8 : k41.heap.size ≤ w1.heap.size := hgg.size
              have hwk2 : Below w.heap.size k41 w1 := (Below.refl _ _).grown hgg (by have := hb.size; omega) (fun j hj => by have := hapB j hj; omega)
              have HO3 := Lib.hid ho1
              clear ho1 hg1 hgg
              try dsimp only
              refine hK.out _ _ ?_ (fun hHeld => ?_)
              · trivial
              clear hK K
              try simp only [Act.put, List.setIfInBounds_toArray, List.set_cons_zero, List.set_cons_succ]
              refine wpAnyH_take (i := 9) (oi := { dst := some 40, op := Op.fieldAddr 31 (Operand.tmp 6) 2, type := 0, pos := "law.go:97", after := #[{ on := 0, ground := Ground.phase }, { on := 1, ground := Ground.phase }, { on := 2, ground := Ground.phase }, { on := 3, ground := Ground.phase }, { on := 4, ground := Ground.phase }, { on := 5, ground := Ground.phase }, { on := 6, ground := Ground.phase }, { on := 7, ground := Ground.phase }, { on := 8, ground := Ground.phase }], guard := none }) (v := .pointer (some ⟨k1.heap.size, 2, none⟩)) rfl (by kernel_rfl) (by kernel_rfl) (by kernel_rfl) (fun _ _ _ h => h) (Or.inl ⟨by rfl, fun w hSw => ?_⟩) (by assumption) ?_
              · (try dsimp only at hSw)
                go_simp
              try simp only [Act.put, List.setIfInBounds_toArray, List.set_cons_zero, List.set_cons_succ]
              refine wpAnyH_ready (rs := [10]) (by kernel_rfl) (by simp) ?_
              refine AllReadyH.cons (o := { dst := none, op := Op.store 27 (Operand.tmp 40) (Operand.tmp 39), type := 0, pos := "law.go:97", after := #[{ on := 9, ground := Ground.data }, { on := 8, ground := Ground.data }, { on := 8, ground := Ground.chain }, { on := 0, ground := Ground.phase }, { on := 1, ground := Ground.phase }, { on := 2, ground := Ground.phase }, { on := 3, ground := Ground.phase }, { on := 4, ground := Ground.phase }, { on := 5, ground := Ground.phase }, { on := 6, ground := Ground.phase }, { on := 7, ground := Ground.phase }, { on := 8, ground := Ground.phase }], guard := none }) rfl (fun K hK => ?_) (AllReadyH.nil)
              go_simp
              refine hK.out _ _ ?_ (fun hHeld => ?_)
              · trivial
              clear hK K
              try simp only [Act.put, List.setIfInBounds_toArray, List.set_cons_zero, List.set_cons_succ]
              refine wpAnyH_done (by kernel_rfl) ?_ _
              refine NoPanic.normal ?_
              have hwT : k1.heap.size < w1.heap.size := by omega
              have hrep : List.replicate (k + 1) (⟨1, ⟨#[107]⟩, ⟨2, 0, zer s⟩, ⟨0, 0, ⟨#[]⟩⟩, 0⟩ : Opn) = List.replicate k (⟨1, ⟨#[107]⟩, ⟨2, 0, zer s⟩, ⟨0, 0, ⟨#[]⟩⟩, 0⟩ : Opn) ++ [((⟨1, ⟨#[107]⟩, ⟨2, 0, zer s⟩, ⟨0, 0, ⟨#[]⟩⟩, 0⟩ : Opn) : Opn)] := List.replicate_succ'
              have HREP := Lib.hid hrep; clear hrep
              go_wp2
              go_roundw
              case rel =>
                refine ⟨k + 1, A1, c1, by go_num, by omega, by go_simp, by go_simp, by go_simp, by go_simp, ?_, ?_, ?_⟩
                · rw [HREP.out]; exact ownsRow_set HO3.out (by show k1.heap.size < k1.heap.size + 1; omega)
                · exact (hb.trans hwk2).setCell (by show w.heap.size ≤ k1.heap.size; omega) _
                · simp; omega
              case measure => simp [intOf]; omega
            · go_simp
              refine hK.out _ _ ?_ (fun hHeld => ?_)
              · trivial
              clear hK K
              try simp only [Act.put, List.setIfInBounds_toArray, List.set_cons_zero, List.set_cons_succ]
              refine wpAnyH_ready (rs := [1]) (by kernel_rfl) (by simp) ?_
              refine AllReadyH.cons (o := { dst := some 32, op := Op.load 27 (Operand.tmp 31), type := 27, pos := "law.go:97", after := #[{ on := 0, ground := Ground.data }], guard := none }) rfl (fun K hK => ?_) (AllReadyH.nil)
              go_simp
              refine hK.out _ _ ?_ (fun hHeld => ?_)
              · trivial
              clear hK K
              try simp only [Act.put, List.setIfInBounds_toArray, List.set_cons_zero, List.set_cons_succ]
              refine wpAnyH_ready (rs := [8]) (by kernel_rfl) (by simp) ?_
              refine AllReadyH.cons (o := { dst := some 39, op := Op.call { callee := Callee.builtin Builtin.append, args := #[Operand.tmp 32, Operand.tmp 38], argTypes := #[27, 27] }, type := 27, pos := "law.go:97", after := #[{ on := 1, ground := Ground.data }, { on := 7, ground := Ground.data }], guard := none }) rfl (fun K hK => ?_) (AllReadyH.nil)
              rw [if_pos (by rfl)]
              refine wp_append_op _ _ rfl (k1.heap.size + 1) _ (List.replicate k (⟨1, ⟨#[107]⟩, ⟨2, 0, zer s⟩, ⟨0, 0, ⟨#[]⟩⟩, 0⟩ : Opn)) (⟨1, ⟨#[107]⟩, ⟨2, 0, zer s⟩, ⟨0, 0, ⟨#[]⟩⟩, 0⟩ : Opn) (k41.heap.size + 1) rfl (OwnO.below HO.out (((Below.refl _ _).alloc (Nat.le_refl _) _).alloc (by simp) _)) rfl (by
                intro j z hj
                rw [Nat.zero_add, World.cell?_alloc_at _ _ _ _ (by simp)]; simpa [Opn.cs] using hj) (by rw [List.length_replicate]; omega) (by simp; omega) ?_
              intro v1 w1 ho1 hg1
              have hln : (List.replicate k (⟨1, ⟨#[107]⟩, ⟨2, 0, zer s⟩, ⟨0, 0, ⟨#[]⟩⟩, 0⟩ : Opn) ++ [((⟨1, ⟨#[107]⟩, ⟨2, 0, zer s⟩, ⟨0, 0, ⟨#[]⟩⟩, 0⟩ : Opn) : Opn)]).length = k + 1 := by rw [List.length_append, List.length_replicate]; rfl
              obtain ⟨A1, c1, hv1⟩ := own_slice ho1
              rw [hln] at hv1
              subst hv1
              have hgg := (World.grownBy_alloc k41 _ _).trans ((World.grownBy_alloc _ _ _).trans hg1)
              replace b0 := (hgg.cell_far ⟨k1.heap.size, 0, none⟩ hltT hapT).trans b0
              replace b1 := (hgg.cell_far ⟨k1.heap.size, 1, none⟩ hltT hapT).trans b1
              replace b2 := (hgg.cell_far ⟨k1.heap.size, 2, none⟩ hltT hapT).trans b2
              replace bf2 := (hgg.frozen_far ⟨k1.heap.size, 2, none⟩ hltT hapT).trans bf2
              have hz8 : k41.heap.size ≤ w1.heap.size := hgg.size
              have hwk2 : Below w.heap.size k41 w1 := (Below.refl _ _).grown hgg (by have := hb.size; omega) (fun j hj => by have := hapB j hj; omega)
              have HO3 := Lib.hid ho1
              clear ho1 hg1 hgg
              try dsimp only
              refine hK.out _ _ ?_ (fun hHeld => ?_)
              · trivial
              clear hK K
              try simp only [Act.put, List.setIfInBounds_toArray, List.set_cons_zero, List.set_cons_succ]
              refine wpAnyH_take (i := 9) (oi := { dst := some 40, op := Op.fieldAddr 31 (Operand.tmp 6) 2, type := 0, pos := "law.go:97", after := #[{ on := 0, ground := Ground.phase }, { on := 1, ground := Ground.phase }, { on := 2, ground := Ground.phase }, { on := 3, ground := Ground.phase }, { on := 4, ground := Ground.phase }, { on := 5, ground := Ground.phase }, { on := 6, ground := Ground.phase }, { on := 7, ground := Ground.phase }, { on := 8, ground := Ground.phase }], guard := none }) (v := .pointer (some ⟨k1.heap.size, 2, none⟩)) rfl (by kernel_rfl) (by kernel_rfl) (by kernel_rfl) (fun _ _ _ h => h) (Or.inl ⟨by rfl, fun w hSw => ?_⟩) (by assumption) ?_
              · (try dsimp only at hSw)
                go_simp
              try simp only [Act.put, List.setIfInBounds_toArray, List.set_cons_zero, List.set_cons_succ]
              refine wpAnyH_ready (rs := [10]) (by kernel_rfl) (by simp) ?_
              refine AllReadyH.cons (o := { dst := none, op := Op.store 27 (Operand.tmp 40) (Operand.tmp 39), type := 0, pos := "law.go:97", after := #[{ on := 9, ground := Ground.data }, { on := 8, ground := Ground.data }, { on := 8, ground := Ground.chain }, { on := 0, ground := Ground.phase }, { on := 1, ground := Ground.phase }, { on := 2, ground := Ground.phase }, { on := 3, ground := Ground.phase }, { on := 4, ground := Ground.phase }, { on := 5, ground := Ground.phase }, { on := 6, ground := Ground.phase }, { on := 7, ground := Ground.phase }, { on := 8, ground := Ground.phase }], guard := none }) rfl (fun K hK => ?_) (AllReadyH.nil)
              go_simp
              refine hK.out _ _ ?_ (fun hHeld => ?_)
              · trivial
              clear hK K
              try simp only [Act.put, List.setIfInBounds_toArray, List.set_cons_zero, List.set_cons_succ]
              refine wpAnyH_done (by kernel_rfl) ?_ _
              refine NoPanic.normal ?_
              have hwT : k1.heap.size < w1.heap.size := by omega
              have hrep : List.replicate (k + 1) (⟨1, ⟨#[107]⟩, ⟨2, 0, zer s⟩, ⟨0, 0, ⟨#[]⟩⟩, 0⟩ : Opn) = List.replicate k (⟨1, ⟨#[107]⟩, ⟨2, 0, zer s⟩, ⟨0, 0, ⟨#[]⟩⟩, 0⟩ : Opn) ++ [((⟨1, ⟨#[107]⟩, ⟨2, 0, zer s⟩, ⟨0, 0, ⟨#[]⟩⟩, 0⟩ : Opn) : Opn)] := List.replicate_succ'
              have HREP := Lib.hid hrep; clear hrep
              go_wp2
              go_roundw
              case rel =>
                refine ⟨k + 1, A1, c1, by go_num, by omega, by go_simp, by go_simp, by go_simp, by go_simp, ?_, ?_, ?_⟩
                · rw [HREP.out]; exact ownsRow_set HO3.out (by show k1.heap.size < k1.heap.size + 1; omega)
                · exact (hb.trans hwk2).setCell (by show w.heap.size ≤ k1.heap.size; omega) _
                · simp; omega
              case measure => simp [intOf]; omega
      · have hkM : ¬ (k : Int) < (n : Int) := by omega
        obtain rfl : k = n := by omega
        obtain ⟨l, hl⟩ : ∃ l, List.replicate k (⟨1, ⟨#[107]⟩, ⟨2, 0, zer s⟩, ⟨0, 0, ⟨#[]⟩⟩, 0⟩ : Opn) = l := ⟨_, rfl⟩
        have hlk : l.length = k := by rw [← hl, List.length_replicate]
        have hok : (Bat.mk 1 1 l).ok := ⟨i64_1, i64_1, fun x hx => by
          rw [← hl] at hx
          obtain rfl := List.eq_of_mem_replicate hx
          exact ⟨i64_1, (by decide : (1 : Nat) ≤ 1000000), ⟨i64_2, i64_0, (by show (zer s).size ≤ 1000000; rw [zer_size]; omega)⟩, zR_ok, i64_0⟩⟩
        rw [hl] at HO
        have HOK := Lib.hid hok; clear hok hl
        obtain ⟨x, hx⟩ : ∃ x, mayB ⟨1, 1, l⟩ = x := ⟨_, rfl⟩
        obtain ⟨L, hL⟩ : ∃ L, encB ⟨1, 1, l⟩ = L := ⟨_, rfl⟩
        have hgt : decide (0 < L.length) = x := by
          cases x with
          | true => have := (enc_may hx).2.1; rw [hL] at this; exact decide_eq_true (by omega)
          | false => rw [← hL, enc_none hx]; rfl
        have HX := Lib.hid hx; clear hx
        have HL := Lib.hid hL; clear hL
        subst hlk
        go_wp2
        replace b0 : wr.drew.cell? ⟨k1.heap.size, 0, none⟩ = some (.int .i64 1) := b0
        replace b1 : wr.drew.cell? ⟨k1.heap.size, 1, none⟩ = some (.int .i64 1) := b1
        replace b2 : wr.drew.cell? ⟨k1.heap.size, 2, none⟩ = some (.slice A l.length c) := b2
        replace bf2 : wr.drew.frozen? ⟨k1.heap.size, 2, none⟩ = false := bf2
        replace HO := Lib.hid (OwnO.below HO.out ((Below.refl wr.heap.size wr).drew))
        refine wp_region_noPanic ?_
        refine wp_region_held_drew (S := fun W => W.cell? ⟨k1.heap.size, 0, none⟩ = some (.int .i64 1) ∧ W.cell? ⟨k1.heap.size, 1, none⟩ = some (.int .i64 1) ∧ W.cell? ⟨k1.heap.size, 2, none⟩ = some (.slice A l.length c)) (by kernel_rfl) ?_ (fun hHeld => ?_)
        · exact ⟨b0, b1, b2⟩
        replace hb : Below w.heap.size w wr.drew := hb.drew
        replace hltT : k1.heap.size < wr.drew.heap.size := hltT
        have hzd : wr.heap.size ≤ wr.drew.heap.size := Nat.le_refl _
        generalize wr.drew = k41 at *
        refine wpAnyH_take (i := 0) (oi := { dst := some 41, op := Op.load 31 (Operand.tmp 6), type := 31, pos := "law.go:99", after := #[], guard := none }) (v := .agg #[.int .i64 1, .int .i64 1, .slice A l.length c]) rfl (by kernel_rfl) (by kernel_rfl) (by kernel_rfl) (fun _ _ _ h => h) (Or.inl ⟨by rfl, fun w hSw => ?_⟩) (by assumption) ?_
        · (try dsimp only at hSw)
          go_simp
        try simp only [Act.put, List.setIfInBounds_toArray, List.set_cons_zero, List.set_cons_succ]
        refine wpAnyH_take (i := 2) (oi := { dst := some 43, op := Op.load 31 (Operand.tmp 6), type := 31, pos := "law.go:99", after := #[], guard := none }) (v := .agg #[.int .i64 1, .int .i64 1, .slice A l.length c]) rfl (by kernel_rfl) (by kernel_rfl) (by kernel_rfl) (fun _ _ _ h => h) (Or.inl ⟨by rfl, fun w hSw => ?_⟩) (by assumption) ?_
        · (try dsimp only at hSw)
          go_simp
        try simp only [Act.put, List.setIfInBounds_toArray, List.set_cons_zero, List.set_cons_succ]
        refine wpAnyH_ready (rs := [1]) (by kernel_rfl) (by simp) ?_
        refine AllReadyH.cons (o := { dst := some 42, op := Op.call { callee := Callee.value (Operand.func 17), args := #[Operand.tmp 41], argTypes := #[31] }, type := 4, pos := "law.go:99", after := #[{ on := 0, ground := Ground.data }], guard := none }) rfl (fun K hK => ?_) (AllReadyH.nil)
        go_simp
        go_at_call 17
        refine (omayB_is _ _ ⟨1, 1, l⟩ x _ ⟨_, rfl, Ops.of_own HO.out⟩ (Nat.le_refl _) HOK.out HX.out).mono ?_
        rintro e k42 ⟨rfl, h⟩
        have hk : Below k41.heap.size k41 k42 := by
          refine Below.trans ?_ (h.mono (by first | (simp; done) | (simp; omega) | omega))
          repeat' (first | with_reducible exact Below.refl _ _ | (with_reducible refine Below.alloc ?_ ?_ _) | (with_reducible refine Below.setCell ?_ ?_ _) | exact (by first | (simp; done) | (simp; omega) | omega))
        have hz := h.size
        try simp at hz
        replace b0 : k42.cell? ⟨k1.heap.size, 0, none⟩ = some (.int .i64 1) := (hk.cell (p := ⟨k1.heap.size, 0, none⟩) (by first | (simp; done) | (simp; omega) | omega)).trans b0
        replace b1 : k42.cell? ⟨k1.heap.size, 1, none⟩ = some (.int .i64 1) := (hk.cell (p := ⟨k1.heap.size, 1, none⟩) (by first | (simp; done) | (simp; omega) | omega)).trans b1
        replace b2 : k42.cell? ⟨k1.heap.size, 2, none⟩ = some (.slice A l.length c) := (hk.cell (p := ⟨k1.heap.size, 2, none⟩) (by first | (simp; done) | (simp; omega) | omega)).trans b2
        replace bf2 : k42.frozen? ⟨k1.heap.size, 2, none⟩ = false := (hk.frozen (p := ⟨k1.heap.size, 2, none⟩) (by first | (simp; done) | (simp; omega) | omega)).trans bf2
        replace HO := Lib.hid (OwnO.below HO.out hk)
        replace hb : Below w.heap.size w k42 := hb.trans (hk.mono hb.size)
        have hltT : k1.heap.size < k42.heap.size := (by first | (simp; done) | (simp; omega) | omega)
        clear h hk
        try dsimp only
        refine hK.out _ _ ?_ (fun hHeld => ?_)
        · exact ⟨b0, b1, b2⟩
        clear hK K
        try simp only [Act.put, List.setIfInBounds_toArray, List.set_cons_zero, List.set_cons_succ]
        refine wpAnyH_ready (rs := [3]) (by kernel_rfl) (by simp) ?_
        refine AllReadyH.cons (o := { dst := some 44, op := Op.call { callee := Callee.value (Operand.func 15), args := #[Operand.tmp 43], argTypes := #[31] }, type := 4, pos := "law.go:99", after := #[{ on := 2, ground := Ground.data }, { on := 1, ground := Ground.chain }], guard := none }) rfl (fun K hK => ?_) (AllReadyH.nil)
        go_simp
        go_at_call 15
        refine (rmayBatch_is _ _ ⟨1, 1, l⟩ x _ ⟨_, rfl, Ops.of_own HO.out⟩ (Nat.le_refl _) HOK.out (by show l.length ≤ 1000; omega) HX.out).mono ?_
        rintro e k43 ⟨rfl, h⟩
        have hk : Below k42.heap.size k42 k43 := by
          refine Below.trans ?_ (h.mono (by first | (simp; done) | (simp; omega) | omega))
          repeat' (first | with_reducible exact Below.refl _ _ | (with_reducible refine Below.alloc ?_ ?_ _) | (with_reducible refine Below.setCell ?_ ?_ _) | exact (by first | (simp; done) | (simp; omega) | omega))
        have hz := h.size
        try simp at hz
        replace b0 : k43.cell? ⟨k1.heap.size, 0, none⟩ = some (.int .i64 1) := (hk.cell (p := ⟨k1.heap.size, 0, none⟩) (by first | (simp; done) | (simp; omega) | omega)).trans b0
        replace b1 : k43.cell? ⟨k1.heap.size, 1, none⟩ = some (.int .i64 1) := (hk.cell (p := ⟨k1.heap.size, 1, none⟩) (by first | (simp; done) | (simp; omega) | omega)).trans b1
        replace b2 : k43.cell? ⟨k1.heap.size, 2, none⟩ = some (.slice A l.length c) := (hk.cell (p := ⟨k1.heap.size, 2, none⟩) (by first | (simp; done) | (simp; omega) | omega)).trans b2
        replace bf2 : k43.frozen? ⟨k1.heap.size, 2, none⟩ = false := (hk.frozen (p := ⟨k1.heap.size, 2, none⟩) (by first | (simp; done) | (simp; omega) | omega)).trans bf2
        replace HO := Lib.hid (OwnO.below HO.out hk)
        replace hb : Below w.heap.size w k43 := hb.trans (hk.mono hb.size)
        have hltT : k1.heap.size < k43.heap.size := (by first | (simp; done) | (simp; omega) | omega)
        clear h hk
        try dsimp only
        refine hK.out _ _ ?_ (fun hHeld => ?_)
        · exact ⟨b0, b1, b2⟩
        clear hK K
        try simp only [Act.put, List.setIfInBounds_toArray, List.set_cons_zero, List.set_cons_succ]
        refine wpAnyH_ready (rs := [4]) (by kernel_rfl) (by simp) ?_
        refine AllReadyH.cons (o := { dst := some 45, op := Op.binOp BinOp.eql 4 (Operand.tmp 42) (Operand.tmp 44) 4, type := 4, pos := "law.go:99", after := #[{ on := 1, ground := Ground.data }, { on := 3, ground := Ground.data }], guard := none }) rfl (fun K hK => ?_) (AllReadyH.nil)
        go_simp
        refine hK.out _ _ ?_ (fun hHeld => ?_)
        · exact ⟨b0, b1, b2⟩
        clear hK K
        try simp only [Act.put, List.setIfInBounds_toArray, List.set_cons_zero, List.set_cons_succ]
        refine wpAnyH_take (i := 5) (oi := { dst := some 46, op := Op.move (Operand.tmp 45), type := 4, pos := "law.go:99", after := #[{ on := 4, ground := Ground.data }, { on := 3, ground := Ground.chain }], guard := none }) (v := .bool true) rfl (by kernel_rfl) (by kernel_rfl) (by kernel_rfl) (fun _ _ _ h => h) (Or.inl ⟨by rfl, fun w hSw => ?_⟩) (by assumption) ?_
        · (try dsimp only at hSw)
          go_simp
        try simp only [Act.put, List.setIfInBounds_toArray, List.set_cons_zero, List.set_cons_succ]
        refine wpAnyH_take (i := 6) (oi := { dst := some 47, op := Op.load 31 (Operand.tmp 6), type := 31, pos := "law.go:99", after := #[{ on := 5, ground := Ground.guard }], guard := some (5, true) }) (v := .agg #[.int .i64 1, .int .i64 1, .slice A l.length c]) rfl (by kernel_rfl) (by kernel_rfl) (by kernel_rfl) (fun _ _ _ h => h) (Or.inl ⟨by rfl, fun w hSw => ?_⟩) (by assumption) ?_
        · (try dsimp only at hSw)
          go_simp
        try simp only [Act.put, List.setIfInBounds_toArray, List.set_cons_zero, List.set_cons_succ]
        refine wpAnyH_take (i := 10) (oi := { dst := some 51, op := Op.load 31 (Operand.tmp 6), type := 31, pos := "law.go:99", after := #[{ on := 5, ground := Ground.guard }], guard := some (5, true) }) (v := .agg #[.int .i64 1, .int .i64 1, .slice A l.length c]) rfl (by kernel_rfl) (by kernel_rfl) (by kernel_rfl) (fun _ _ _ h => h) (Or.inl ⟨by rfl, fun w hSw => ?_⟩) (by assumption) ?_
        · (try dsimp only at hSw)
          go_simp
        try simp only [Act.put, List.setIfInBounds_toArray, List.set_cons_zero, List.set_cons_succ]
        refine wpAnyH_ready (rs := [7]) (by kernel_rfl) (by simp) ?_
        refine AllReadyH.cons (o := { dst := some 48, op := Op.call { callee := Callee.value (Operand.func 16), args := #[Operand.tmp 47], argTypes := #[31] }, type := 34, pos := "law.go:99", after := #[{ on := 6, ground := Ground.data }, { on := 5, ground := Ground.chain }, { on := 5, ground := Ground.guard }], guard := some (5, true) }) rfl (fun K hK => ?_) (AllReadyH.nil)
        go_simp
        go_at_call 16
        refine (oenc_any _ _ ⟨1, 1, l⟩ _ ⟨_, rfl, Ops.of_own HO.out⟩ (Nat.le_refl _) HOK.out).mono ?_
        rintro e k44 ⟨Y, y, rfl, hE, -, h⟩
        rw [HL.out]
        clear hE
        have hz := h.size
        replace b0 := (h.cell (p := ⟨k1.heap.size, 0, none⟩) (by first | (simp; done) | (simp; omega) | omega)).trans b0
        replace b1 := (h.cell (p := ⟨k1.heap.size, 1, none⟩) (by first | (simp; done) | (simp; omega) | omega)).trans b1
        replace b2 := (h.cell (p := ⟨k1.heap.size, 2, none⟩) (by first | (simp; done) | (simp; omega) | omega)).trans b2
        replace bf2 := (h.frozen (p := ⟨k1.heap.size, 2, none⟩) (by first | (simp; done) | (simp; omega) | omega)).trans bf2
        replace HO := Lib.hid (OwnO.below HO.out h)
        replace hb : Below w.heap.size w k44 := hb.trans (h.mono hb.size)
        clear h
        have hltT : k1.heap.size < k44.heap.size := (by first | (simp; done) | (simp; omega) | omega)
        try dsimp only
        refine hK.out _ _ ?_ (fun hHeld => ?_)
        · exact ⟨b0, b1, b2⟩
        clear hK K
        try simp only [Act.put, List.setIfInBounds_toArray, List.set_cons_zero, List.set_cons_succ]
        refine wpAnyH_take (i := 8) (oi := { dst := some 49, op := Op.call { callee := Callee.builtin Builtin.len, args := #[Operand.tmp 48], argTypes := #[34] }, type := 3, pos := "law.go:99", after := #[{ on := 7, ground := Ground.data }, { on := 5, ground := Ground.guard }], guard := some (5, true) }) (v := .int .i64 (L.length : Int)) rfl (by kernel_rfl) (by kernel_rfl) (by kernel_rfl) (fun _ _ _ h => h) (Or.inl ⟨by rfl, fun w hSw => ?_⟩) (by assumption) ?_
        · (try dsimp only at hSw)
          go_simp
        try simp only [Act.put, List.setIfInBounds_toArray, List.set_cons_zero, List.set_cons_succ]
        refine wpAnyH_take (i := 9) (oi := { dst := some 50, op := Op.binOp BinOp.gtr 3 (Operand.tmp 49) (Operand.const (Value.int IntKind.i64 0)) 3, type := 4, pos := "law.go:99", after := #[{ on := 8, ground := Ground.data }, { on := 5, ground := Ground.guard }], guard := some (5, true) }) (v := .bool x) rfl (by kernel_rfl) (by kernel_rfl) (by kernel_rfl) (fun _ _ _ h => h) (Or.inl ⟨by rfl, fun w hSw => ?_⟩) (by assumption) ?_
        · (try dsimp only at hSw)
          go_simp
        try simp only [Act.put, List.setIfInBounds_toArray, List.set_cons_zero, List.set_cons_succ]
        refine wpAnyH_ready (rs := [11]) (by kernel_rfl) (by simp) ?_
        refine AllReadyH.cons (o := { dst := some 52, op := Op.call { callee := Callee.value (Operand.func 15), args := #[Operand.tmp 51], argTypes := #[31] }, type := 4, pos := "law.go:99", after := #[{ on := 10, ground := Ground.data }, { on := 7, ground := Ground.chain }, { on := 5, ground := Ground.guard }], guard := some (5, true) }) rfl (fun K hK => ?_) (AllReadyH.nil)
        go_simp
        go_at_call 15
        refine (rmayBatch_is _ _ ⟨1, 1, l⟩ x _ ⟨_, rfl, Ops.of_own HO.out⟩ (Nat.le_refl _) HOK.out (by show l.length ≤ 1000; omega) HX.out).mono ?_
        rintro e k45 ⟨rfl, h⟩
        have hk : Below k44.heap.size k44 k45 := by
          refine Below.trans ?_ (h.mono (by first | (simp; done) | (simp; omega) | omega))
          repeat' (first | with_reducible exact Below.refl _ _ | (with_reducible refine Below.alloc ?_ ?_ _) | (with_reducible refine Below.setCell ?_ ?_ _) | exact (by first | (simp; done) | (simp; omega) | omega))
        have hz := h.size
        try simp at hz
        replace b0 : k45.cell? ⟨k1.heap.size, 0, none⟩ = some (.int .i64 1) := (hk.cell (p := ⟨k1.heap.size, 0, none⟩) (by first | (simp; done) | (simp; omega) | omega)).trans b0
        replace b1 : k45.cell? ⟨k1.heap.size, 1, none⟩ = some (.int .i64 1) := (hk.cell (p := ⟨k1.heap.size, 1, none⟩) (by first | (simp; done) | (simp; omega) | omega)).trans b1
        replace b2 : k45.cell? ⟨k1.heap.size, 2, none⟩ = some (.slice A l.length c) := (hk.cell (p := ⟨k1.heap.size, 2, none⟩) (by first | (simp; done) | (simp; omega) | omega)).trans b2
        replace bf2 : k45.frozen? ⟨k1.heap.size, 2, none⟩ = false := (hk.frozen (p := ⟨k1.heap.size, 2, none⟩) (by first | (simp; done) | (simp; omega) | omega)).trans bf2
        replace HO := Lib.hid (OwnO.below HO.out hk)
        replace hb : Below w.heap.size w k45 := hb.trans (hk.mono hb.size)
        have hltT : k1.heap.size < k45.heap.size := (by first | (simp; done) | (simp; omega) | omega)
        clear h hk
        try dsimp only
        refine hK.out _ _ ?_ (fun hHeld => ?_)
        · exact ⟨b0, b1, b2⟩
        clear hK K
        try simp only [Act.put, List.setIfInBounds_toArray, List.set_cons_zero, List.set_cons_succ]
        refine wpAnyH_take (i := 12) (oi := { dst := some 53, op := Op.binOp BinOp.eql 4 (Operand.tmp 50) (Operand.tmp 52) 4, type := 4, pos := "law.go:99", after := #[{ on := 9, ground := Ground.data }, { on := 11, ground := Ground.data }, { on := 5, ground := Ground.guard }], guard := some (5, true) }) (v := .bool true) rfl (by kernel_rfl) (by kernel_rfl) (by kernel_rfl) (fun _ _ _ h => h) (Or.inl ⟨by rfl, fun w hSw => ?_⟩) (by assumption) ?_
        · (try dsimp only at hSw)
          go_simp
        try simp only [Act.put, List.setIfInBounds_toArray, List.set_cons_zero, List.set_cons_succ]
        refine wpAnyH_take (i := 13) (oi := { dst := some 54, op := Op.pick (Operand.tmp 46) (Operand.tmp 53) (Operand.const (Value.bool false)), type := 4, pos := "law.go:99", after := #[{ on := 5, ground := Ground.data }, { on := 12, ground := Ground.data }], guard := none }) (v := .bool true) rfl (by kernel_rfl) (by kernel_rfl) (by kernel_rfl) (fun _ _ _ h => h) (Or.inl ⟨by rfl, fun w hSw => ?_⟩) (by assumption) ?_
        · (try dsimp only at hSw)
          go_simp
        try simp only [Act.put, List.setIfInBounds_toArray, List.set_cons_zero, List.set_cons_succ]
        refine wpAnyH_ready (rs := [14]) (by kernel_rfl) (by simp) ?_
        refine AllReadyH.cons (o := { dst := some 4, op := Op.assign (Operand.tmp 54), type := 4, pos := "law.go:99", after := #[{ on := 13, ground := Ground.data }, { on := 11, ground := Ground.chain }, { on := 0, ground := Ground.phase }, { on := 1, ground := Ground.phase }, { on := 2, ground := Ground.phase }, { on := 3, ground := Ground.phase }, { on := 4, ground := Ground.phase }, { on := 5, ground := Ground.phase }, { on := 6, ground := Ground.phase }, { on := 7, ground := Ground.phase }, { on := 8, ground := Ground.phase }, { on := 9, ground := Ground.phase }, { on := 10, ground := Ground.phase }, { on := 11, ground := Ground.phase }, { on := 12, ground := Ground.phase }, { on := 13, ground := Ground.phase }], guard := none }) rfl (fun K hK => ?_) (AllReadyH.nil)
        go_simp
        refine hK.out _ _ ?_ (fun hHeld => ?_)
        · exact ⟨b0, b1, b2⟩
        clear hK K
        try simp only [Act.put, List.setIfInBounds_toArray, List.set_cons_zero, List.set_cons_succ]
        refine wpAnyH_done (by kernel_rfl) ?_ _
        refine NoPanic.normal ?_
        go_wp2
        go_ret
        exact ⟨rfl, hb⟩
  · have hc : a0 < 0 ∨ (0 ≤ a0 ∧ 10 < a0) ∨ (0 ≤ a0 ∧ a0 ≤ 10 ∧ a1 < 0) ∨ (0 ≤ a0 ∧ a0 ≤ 10 ∧ 0 ≤ a1 ∧ 200 < a1) := by omega
    clear hin
    rcases hc with h1 | ⟨h1, h2⟩ | ⟨h1, h2, h3⟩ | ⟨h1, h2, h3, h4⟩
    all_goals
      go_wp2
      go_ret
      exact ⟨rfl, hb⟩

set_option maxRecDepth 100000 in
theorem lifted (os : Os) (started : os.Started) (H : Type) (enc : TypeId × Value → H) :
    ReturnsInHanded {} Try.checked os 6 .any (Rows.batchLongSpec.pre6 enc Try.prog Try.f6 Rows.batchLongRow.domain false) (Rows.batchLongSpec.post enc Try.prog Try.f6 false true false false) := by
  refine returnsInHanded_of_change (C := Try.checked) own started (by kernel_rfl) Try.func6
    (ChangeSpec.witness6 (enc := enc) (C := Try.checked) false ⟨#[], #[.int .i64 0, .int .i64 0], []⟩ 8 (by kernel_rfl) (by kernel_rfl) (by kernel_rfl) (by kernel_rfl)) ?_
  intro W base args ds gs before hval0 hW hcnd _
  have hval : ∀ (j : Nat) t v, Try.f6.params[j]? = some t → args[j]? = some v → Value.okWide Try.prog W .any base t v := hval0
  have hW' := hW
  obtain ⟨p, q, hA0, hV, rfl, hfz, hnd⟩ := hW
  have hA : DataW.TrodAll enc Try.prog W 0 (fun _ => true) true Try.f6.params.toList args.toList ds p := hA0
  have hA1 := hA
  rw [Try.params6] at hA hval
  obtain ⟨v0, vs0, d0, ds0, p0, q0, hargs, rfl, rfl, h0, r0⟩ := trodAll_cons hA
  obtain ⟨v1, vs1, d1, ds1, p1, q1, rfl, rfl, rfl, h1, r1⟩ := trodAll_cons r0
  obtain ⟨rfl, rfl, rfl⟩ := trodAll_nil r1
  obtain rfl : args = #[v0, v1] := by cases args; simp_all
  obtain ⟨rfl, rfl⟩ := trodVars_none hV
  obtain ⟨a0, rfl, rfl, rfl, w0⟩ := open_int Try.underlying3 (hval 0 3 v0 rfl rfl) h0
  obtain ⟨a1, rfl, rfl, rfl, w1⟩ := open_int Try.underlying3 (hval 1 3 v1 rfl rfl) h1
  clear hA0 hval0
  simp only [List.append_nil] at hW'
  try simp only [List.append_nil] at hA1
  refine (walk W a0 w0 a1 w1).mono fun e W' ⟨he, hg⟩ => ?_
  subst he
  exact ⟨_, rfl, law_end Try.laidOut (by kernel_rfl) hW' hA1 hg rfl rfl rfl (trodAll_mk1 (shut_bool Try.underlying4 _))⟩

theorem over : Rows.batchLongRow.holds Try.pinned (OpenSpec.ofChange Rows.batchLongSpec) :=
  OpenClaim.holds_of_wide 6 Try.f6 rfl rfl rfl rfl rfl rfl rfl ⟨rfl, rfl, rfl, rfl, rfl⟩ rfl rfl rfl rfl rfl (by kernel_rfl) Try.func6 (by kernel_rfl)
    (of_decide_eq_true (by kernel_rfl)) (by unfold Func.isWrapper; first | (rw [if_pos (by decide +kernel)]; kernel_rfl) | (rw [if_neg (by decide +kernel)]; exact ⟨rfl, rfl⟩))
    (fun os started H enc _ => lifted os started H enc)

/-- the statement -/
theorem proved : Rows.BatchLongSaid := over
#print axioms proved
end Go.Proofs.Ytdhppekfehbngaa.batchLong
