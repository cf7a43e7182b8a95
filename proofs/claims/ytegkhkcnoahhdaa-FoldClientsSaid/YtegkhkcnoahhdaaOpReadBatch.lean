/-
  Package op's reader reads a batch, whatever the bytes.
  The reader lies in a block of its own; the bytes lie below it, at most 1,000,000.
-/
import Derived.Test.YtegkhkcnoahhdaaOpReadOp
import Derived.Test.YtegkhkcnoahhdaaL5CutBatch
set_option linter.unusedSimpArgs false
set_option linter.unusedVariables false
namespace Go.Proofs.Ytegkhkcnoahhdaa
open Go.RowKit
set_option maxRecDepth 100000

/-- so many operations, read one behind the other -/
def rOps : Nat → List UInt8 → List Opn × List UInt8
  | 0, l => ([], l)
  | k + 1, l => ((rOps k l).1 ++ [(rOp (rOps k l).2).1], (rOp (rOps k l).2).2)
def rBat (l : List UInt8) : Bat × List UInt8 :=
  (⟨(rNum l).1, (rNum (rNum l).2).1, (rOps (min (rNum (rNum (rNum l).2).2).1 8).toNat (rNum (rNum (rNum l).2).2).2).1⟩, (rOps (min (rNum (rNum (rNum l).2).2).1 8).toNat (rNum (rNum (rNum l).2).2).2).2)
theorem rOp_le (l : List UInt8) : (rOp l).2.length ≤ l.length := by
  have a1 := rNum_le l
  have a2 := rTxt_le (rNum l).2
  have a3 := rRaw_le (rTxt (rNum l).2).2
  have a4 := rRaw_le (rRaw (rTxt (rNum l).2).2).2
  have a5 := rNum_le (rTxt (rNum l).2).2
  unfold rOp
  repeat' split
  all_goals (simp only; omega)
theorem rOps_le (k : Nat) (l : List UInt8) : (rOps k l).2.length ≤ l.length := by
  induction k with
  | zero => exact Nat.le_refl _
  | succ k ih => have := rOp_le (rOps k l).2; simp only [rOps]; omega
theorem rOps_len (k : Nat) (l : List UInt8) : (rOps k l).1.length = k := by
  induction k with
  | zero => rfl
  | succ k ih => simp only [rOps, List.length_append, ih]; rfl
theorem rop_to (g B : Nat) (l m : List UInt8) (k : Int) (key : ByteArray) (v o : Raw) (n : Int) (w : World) (h : Rdr w g B l) (hl : l.length ≤ 1000000) (hr : rOp l = (⟨k, key, v, o, n⟩, m)) :
    Calls Try.prog 59 #[.pointer (some ⟨g, 0, none⟩)] w (RdOut g B (.agg #[.int .i64 k, .string key, .int .i64 v.kind, .int .i64 v.n, .string v.s, .int .i64 o.kind, .int .i64 o.n, .string o.s, .int .i64 n]) m w) := by
  have := rop_any g B l w h hl; rw [hr] at this; exact this
/-- an operation that lies in a block is put behind a row of one's own -/
theorem wp_append_op {w : World} {o : Oper} {a : Act} {K : Act → World → Prop} {Q : Exit → Act → World → Prop} (s x : Operand)
    (ho : o.op = .call { callee := .builtin .append, args := #[s, x], argTypes := #[27, 27] })
    (B : Nat) (v : Value) (l : List Opn) (y : Opn) (g : Nat) (hs : a.eval s = v) (hown : OwnO B v l w) (hx : a.eval x = .slice (some ⟨g, 0, none⟩) 1 1) (hy : w.rangeAt g 0 y.cs) (hl : l.length ≤ 1000) (hB : B ≤ w.heap.size)
    (h : ∀ v' w', OwnO B v' (l ++ [y]) w' → w.grownBy w' v.ownBlock → K (a.put o.dst v') w') : o.wp Try.prog a w K Q := by
  obtain ⟨iO, hiO, hzO0, hzO1, hzO2⟩ := info_parts Try.infoOp3
  have hlen : (l.flatMap Opn.cs).length = l.length * 9 := hown.1
  obtain ⟨v', w', hr, h2, h3, _, _⟩ := run_append_own_at (P := Try.prog) w B 27 o.type 38 iO _ 9 96 Try.underlying27 hiO hzO0 hzO1 hzO2 rfl (by decide) v l.length _ hown ⟨g, 0, none⟩ 1 1 y.cs rfl
    (by
      intro j z hj
      rw [Addr.add_mid]; exact hy j z hj) (opn_one y) (by unfold maxLen; omega) (by omega) hB
  unfold Oper.wp execOp
  simp only [ho, resolve, invoke, builtin, Sem.run_bind, Sem.run_pure, Result.andThen_ok, List.map_toArray, List.map_cons, List.map_nil, hs, hx, hr]
  refine h v' w' ?_ h3
  unfold OwnO; rw [← opn_cells, List.length_append]; exact h2
set_option maxHeartbeats 1000000 in
theorem rbat_walk (g B m : Nat) (l l1 l2 l3 : List UInt8) (bc bq n : Int) (w : World) (hr : Rdr w g B l) (hl : l.length ≤ 1000000) (e1 : rNum l = (bc, l1)) (e2 : rNum l1 = (bq, l2)) (e3 : rNum l2 = (n, l3)) (hm : (min n 8).toNat = m) :
    Calls Try.prog 38 #[.pointer (some ⟨g, 0, none⟩)] w fun e w' => ∃ A c, e = .returned (.agg #[.int .i64 bc, .int .i64 bq, .slice A m c]) ∧ OwnO w.heap.size (.slice A m c) (rOps m l3).1 w' ∧ w.grownBy w' (some g) := by
  have n1 : l1.length ≤ l.length := by have := rNum_le l; rw [e1] at this; exact this
  have n2 : l2.length ≤ l1.length := by have := rNum_le l1; rw [e2] at this; exact this
  have n3 : l3.length ≤ l2.length := by have := rNum_le l2; rw [e3] at this; exact this
  have hgz : g < w.heap.size := by obtain ⟨_, _, _, _, _, _, h⟩ := hr; exact h
  have hBg : B ≤ g := by obtain ⟨_, _, _, _, _, h, _⟩ := hr; exact h
  have hb := World.grownBy.refl w (some g)
  have E1 := Lib.hid e1; clear e1
  have E2 := Lib.hid e2; clear e2
  have E3 := Lib.hid e3; clear e3
  have HM := Lib.hid hm; clear hm
  have HR := Lib.hid hr; clear hr
  go_enter Try.func38, Try.ntmps38
  go_wp2_with fail
  refine (rnum_to g B l l1 bc _ (rdr_then HR.out (by refine Below.alloc (Below.refl _ _) ?_ _; omega)) (by omega) E1.out).mono ?_
  rintro e k1 ⟨rfl, hr, h⟩
  replace hb : w.grownBy k1 (some g) := by
    refine grown_trans (grown_then hb ?_) h
    repeat' (first | with_reducible exact Below.refl _ _ | (with_reducible refine Below.alloc ?_ ?_ _) | (with_reducible refine Below.setCell ?_ ?_ _) | exact (by first | (simp; done) | (simp; omega) | omega))
  have hz := h.size
  try simp at hz
  have r0 : k1.cell? ⟨w.heap.size, 0, none⟩ = some (.int .i64 0) := (h.cell_far ⟨w.heap.size, 0, none⟩ (by first | (simp; done) | (simp; omega) | omega) (by simp; omega)).trans (by go_simp)
  have r1 : k1.cell? ⟨w.heap.size, 1, none⟩ = some (.int .i64 0) := (h.cell_far ⟨w.heap.size, 1, none⟩ (by first | (simp; done) | (simp; omega) | omega) (by simp; omega)).trans (by go_simp)
  have r2 : k1.cell? ⟨w.heap.size, 2, none⟩ = some (.slice none 0 0) := (h.cell_far ⟨w.heap.size, 2, none⟩ (by first | (simp; done) | (simp; omega) | omega) (by simp; omega)).trans (by go_simp)
  have rf0 : k1.frozen? ⟨w.heap.size, 0, none⟩ = false := (h.frozen_far ⟨w.heap.size, 0, none⟩ (by first | (simp; done) | (simp; omega) | omega) (by simp; omega)).trans (by go_simp)
  have rf1 : k1.frozen? ⟨w.heap.size, 1, none⟩ = false := (h.frozen_far ⟨w.heap.size, 1, none⟩ (by first | (simp; done) | (simp; omega) | omega) (by simp; omega)).trans (by go_simp)
  have rf2 : k1.frozen? ⟨w.heap.size, 2, none⟩ = false := (h.frozen_far ⟨w.heap.size, 2, none⟩ (by first | (simp; done) | (simp; omega) | omega) (by simp; omega)).trans (by go_simp)
  have : w.heap.size < k1.heap.size := by omega
  clear h
  have HR1 := Lib.hid hr; clear hr HR
  go_wp2_with fail
  refine (rnum_to g B l1 l2 bq _ HR1.out (by omega) E2.out).mono ?_
  rintro e k2 ⟨rfl, hr, h⟩
  replace hb : w.grownBy k2 (some g) := by
    refine grown_trans (grown_then hb ?_) h
    repeat' (first | with_reducible exact Below.refl _ _ | (with_reducible refine Below.alloc ?_ ?_ _) | (with_reducible refine Below.setCell ?_ ?_ _) | exact (by first | (simp; done) | (simp; omega) | omega))
  have hz := h.size
  try simp at hz
  have r0N : k2.cell? ⟨w.heap.size, 0, none⟩ = some (.int .i64 0) := (h.cell_far ⟨w.heap.size, 0, none⟩ (by first | (simp; done) | (simp; omega) | omega) (by simp; omega)).trans (by go_simp)
  have r1N : k2.cell? ⟨w.heap.size, 1, none⟩ = some (.int .i64 0) := (h.cell_far ⟨w.heap.size, 1, none⟩ (by first | (simp; done) | (simp; omega) | omega) (by simp; omega)).trans (by go_simp)
  have r2N : k2.cell? ⟨w.heap.size, 2, none⟩ = some (.slice none 0 0) := (h.cell_far ⟨w.heap.size, 2, none⟩ (by first | (simp; done) | (simp; omega) | omega) (by simp; omega)).trans (by go_simp)
  have rf0N : k2.frozen? ⟨w.heap.size, 0, none⟩ = false := (h.frozen_far ⟨w.heap.size, 0, none⟩ (by first | (simp; done) | (simp; omega) | omega) (by simp; omega)).trans (by go_simp)
  have rf1N : k2.frozen? ⟨w.heap.size, 1, none⟩ = false := (h.frozen_far ⟨w.heap.size, 1, none⟩ (by first | (simp; done) | (simp; omega) | omega) (by simp; omega)).trans (by go_simp)
  have rf2N : k2.frozen? ⟨w.heap.size, 2, none⟩ = false := (h.frozen_far ⟨w.heap.size, 2, none⟩ (by first | (simp; done) | (simp; omega) | omega) (by simp; omega)).trans (by go_simp)
  clear r0 r1 r2 rf0 rf1 rf2
  have r0 := r0N; clear r0N
  have r1 := r1N; clear r1N
  have r2 := r2N; clear r2N
  have rf0 := rf0N; clear rf0N
  have rf1 := rf1N; clear rf1N
  have rf2 := rf2N; clear rf2N
  have : w.heap.size < k2.heap.size := by omega
  clear h
  have HR2 := Lib.hid hr; clear hr HR1
  go_wp2_with fail
  refine (rnum_to g B l2 l3 n _ (rdr_then HR2.out (by refine Below.alloc (Below.refl _ _) ?_ _; omega)) (by omega) E3.out).mono ?_
  rintro e k3 ⟨rfl, hr, h⟩
  replace hb : w.grownBy k3 (some g) := by
    refine grown_trans (grown_then hb ?_) h
    repeat' (first | with_reducible exact Below.refl _ _ | (with_reducible refine Below.alloc ?_ ?_ _) | (with_reducible refine Below.setCell ?_ ?_ _) | exact (by first | (simp; done) | (simp; omega) | omega))
  have hz := h.size
  try simp at hz
  have r0N : k3.cell? ⟨w.heap.size, 0, none⟩ = some (.int .i64 0) := (h.cell_far ⟨w.heap.size, 0, none⟩ (by first | (simp; done) | (simp; omega) | omega) (by simp; omega)).trans (by go_simp)
  have r1N : k3.cell? ⟨w.heap.size, 1, none⟩ = some (.int .i64 0) := (h.cell_far ⟨w.heap.size, 1, none⟩ (by first | (simp; done) | (simp; omega) | omega) (by simp; omega)).trans (by go_simp)
  have r2N : k3.cell? ⟨w.heap.size, 2, none⟩ = some (.slice none 0 0) := (h.cell_far ⟨w.heap.size, 2, none⟩ (by first | (simp; done) | (simp; omega) | omega) (by simp; omega)).trans (by go_simp)
  have rf0N : k3.frozen? ⟨w.heap.size, 0, none⟩ = false := (h.frozen_far ⟨w.heap.size, 0, none⟩ (by first | (simp; done) | (simp; omega) | omega) (by simp; omega)).trans (by go_simp)
  have rf1N : k3.frozen? ⟨w.heap.size, 1, none⟩ = false := (h.frozen_far ⟨w.heap.size, 1, none⟩ (by first | (simp; done) | (simp; omega) | omega) (by simp; omega)).trans (by go_simp)
  have rf2N : k3.frozen? ⟨w.heap.size, 2, none⟩ = false := (h.frozen_far ⟨w.heap.size, 2, none⟩ (by first | (simp; done) | (simp; omega) | omega) (by simp; omega)).trans (by go_simp)
  have b0 : k3.cell? ⟨k2.heap.size, 0, none⟩ = some (.int .i64 bc) := (h.cell_far ⟨k2.heap.size, 0, none⟩ (by first | (simp; done) | (simp; omega) | omega) (by simp; omega)).trans (by go_simp)
  have b1 : k3.cell? ⟨k2.heap.size, 1, none⟩ = some (.int .i64 bq) := (h.cell_far ⟨k2.heap.size, 1, none⟩ (by first | (simp; done) | (simp; omega) | omega) (by simp; omega)).trans (by go_simp)
  have b2 : k3.cell? ⟨k2.heap.size, 2, none⟩ = some (.slice none 0 0) := (h.cell_far ⟨k2.heap.size, 2, none⟩ (by first | (simp; done) | (simp; omega) | omega) (by simp; omega)).trans (by go_simp)
  have bf0 : k3.frozen? ⟨k2.heap.size, 0, none⟩ = false := (h.frozen_far ⟨k2.heap.size, 0, none⟩ (by first | (simp; done) | (simp; omega) | omega) (by simp; omega)).trans (by go_simp)
  have bf1 : k3.frozen? ⟨k2.heap.size, 1, none⟩ = false := (h.frozen_far ⟨k2.heap.size, 1, none⟩ (by first | (simp; done) | (simp; omega) | omega) (by simp; omega)).trans (by go_simp)
  have bf2 : k3.frozen? ⟨k2.heap.size, 2, none⟩ = false := (h.frozen_far ⟨k2.heap.size, 2, none⟩ (by first | (simp; done) | (simp; omega) | omega) (by simp; omega)).trans (by go_simp)
  clear r0 r1 r2 rf0 rf1 rf2
  have r0 := r0N; clear r0N
  have r1 := r1N; clear r1N
  have r2 := r2N; clear r2N
  have rf0 := rf0N; clear rf0N
  have rf1 := rf1N; clear rf1N
  have rf2 := rf2N; clear rf2N
  have : w.heap.size < k3.heap.size := by omega
  have : k2.heap.size < k3.heap.size := by omega
  clear h
  have HR3 := Lib.hid hr; clear hr HR2
  clear bf0 bf1
  go_wp2
  generalize hM : min n 8 = M at HM ⊢
  have hM8 : M ≤ 8 := by omega
  have hMm : M.toNat = m := HM.out
  clear hM
  have hz3 : w.heap.size < k2.heap.size := by omega
  have hz4 : k2.heap.size < k3.heap.size := by omega
  have hz5 : g < k2.heap.size := by omega
  have hz6 : g < k3.heap.size := by omega
  go_loopw [12] (fun i wr => ∃ (k : Nat) (A : Option Addr) (c : Nat), i = .int .i64 k ∧ k ≤ m ∧ wr.cell? ⟨k2.heap.size, 0, none⟩ = some (.int .i64 bc) ∧ wr.cell? ⟨k2.heap.size, 1, none⟩ = some (.int .i64 bq) ∧ wr.cell? ⟨k2.heap.size, 2, none⟩ = some (.slice A k c) ∧ wr.frozen? ⟨k2.heap.size, 2, none⟩ = false ∧ wr.cell? ⟨w.heap.size, 0, none⟩ = some (.int .i64 0) ∧ wr.cell? ⟨w.heap.size, 1, none⟩ = some (.int .i64 0) ∧ wr.cell? ⟨w.heap.size, 2, none⟩ = some (.slice none 0 0) ∧ wr.frozen? ⟨w.heap.size, 0, none⟩ = false ∧ wr.frozen? ⟨w.heap.size, 1, none⟩ = false ∧ wr.frozen? ⟨w.heap.size, 2, none⟩ = false ∧ OwnO (k2.heap.size + 1) (.slice A k c) (rOps k l3).1 wr ∧ Rdr wr g B (rOps k l3).2 ∧ w.grownBy wr (some g) ∧ k3.heap.size ≤ wr.heap.size) (fun i _ => m - (intOf i).toNat)
  case atStart => exact ⟨0, none, 0, rfl, Nat.zero_le _, b0, b1, b2, bf2, r0, r1, r2, rf0, rf1, rf2, World.ownsRow_nil _ _ _ _, HR3.out, hb, Nat.le_refl _⟩
  case round =>
    clear b0 b1 b2 bf2 r0 r1 r2 rf0 rf1 rf2 hb HR3
    obtain ⟨k, A, c, rfl, hk, b0, b1, b2, bf2, r0, r1, r2, rf0, rf1, rf2, ho, hr, hb, hz7⟩ := hrel
    have hltT : k2.heap.size < wr.heap.size := by omega
    have hltR : w.heap.size < wr.heap.size := by omega
    by_cases hkm : k < m
    · have hkM : (k : Int) < M := by omega
      have hlk := rOps_le k l3
      have hlen := rOps_len k l3
      obtain ⟨lk, hlk2⟩ : ∃ lk, (rOps k l3).2 = lk := ⟨_, rfl⟩
      obtain ⟨ok, hok⟩ : ∃ ok, (rOps k l3).1 = ok := ⟨_, rfl⟩
      obtain ⟨⟨⟨xk, xkey, ⟨vk, vn, vs⟩, ⟨qk, qn, qs⟩, xn⟩, lx⟩, hx⟩ : ∃ r, rOp lk = r := ⟨_, rfl⟩
      have hnext : rOps (k + 1) l3 = (ok ++ [⟨xk, xkey, ⟨vk, vn, vs⟩, ⟨qk, qn, qs⟩, xn⟩], lx) := by simp only [rOps, hlk2, hok, hx]
      rw [hlk2] at hlk hr
      rw [hok] at hlen ho
      have hap : (Value.slice A k c).ownBlock ≠ some g := fun e => by have := (World.ownsRow.lt ho _ e).1; omega
      have hapT : some k2.heap.size ≠ (Value.slice A k c).ownBlock := fun e => by have := (World.ownsRow.lt ho _ e.symm).1; omega
      have hapR : some w.heap.size ≠ (Value.slice A k c).ownBlock := fun e => by have := (World.ownsRow.lt ho _ e.symm).1; omega
      have hapB : ∀ j, (Value.slice A k c).ownBlock = some j → k2.heap.size + 1 ≤ j := fun j hj => (World.ownsRow.lt ho j hj).1
      clear hlk2 hok
      have HX := Lib.hid hx; clear hx
      have HN := Lib.hid hnext; clear hnext
      have HR := Lib.hid (rdr_then hr (Below.refl _ _).drew); clear hr
      have HO := Lib.hid (OwnO.below ho (Below.refl _ _).drew); clear ho
      have hbD := Lib.hid (grown_then hb (Below.refl _ _).drew); clear hb
      go_wp2
      refine wp_region_noPanic ?_
      refine wp_region_held_drew (S := fun _ => True) (by kernel_rfl) trivial (fun _ => ?_)
      replace b0 : wr.drew.cell? ⟨k2.heap.size, 0, none⟩ = _ := b0
      replace b1 : wr.drew.cell? ⟨k2.heap.size, 1, none⟩ = _ := b1
      replace b2 : wr.drew.cell? ⟨k2.heap.size, 2, none⟩ = _ := b2
      replace bf2 : wr.drew.frozen? ⟨k2.heap.size, 2, none⟩ = _ := bf2
      replace r0 : wr.drew.cell? ⟨w.heap.size, 0, none⟩ = _ := r0
      replace r1 : wr.drew.cell? ⟨w.heap.size, 1, none⟩ = _ := r1
      replace r2 : wr.drew.cell? ⟨w.heap.size, 2, none⟩ = _ := r2
      replace rf0 : wr.drew.frozen? ⟨w.heap.size, 0, none⟩ = _ := rf0
      replace rf1 : wr.drew.frozen? ⟨w.heap.size, 1, none⟩ = _ := rf1
      replace rf2 : wr.drew.frozen? ⟨w.heap.size, 2, none⟩ = _ := rf2
      replace hltT : k2.heap.size < wr.drew.heap.size := hltT
      replace hltR : w.heap.size < wr.drew.heap.size := hltR
      replace hz7 : k3.heap.size ≤ wr.drew.heap.size := hz7
      generalize wr.drew = WD at *
      refine wpAnyH_take (i := 0) (oi := { dst := some 14, op := Op.fieldAddr 29 (Operand.tmp 3) 2, type := 0, pos := "op.go:137", after := #[], guard := none }) (v := .pointer (some ⟨k2.heap.size, 2, none⟩)) rfl (by kernel_rfl) (by kernel_rfl) (by kernel_rfl) (fun _ _ _ h => h) (Or.inl ⟨by rfl, fun w hSw => ?_⟩) (by assumption) ?_
      · (try dsimp only at hSw)
        go_simp
      try simp only [Act.put, List.setIfInBounds_toArray, List.set_cons_zero, List.set_cons_succ]
      refine wpAnyH_take (i := 2) (oi := { dst := some 16, op := Op.move (Operand.tmp 0), type := 109, pos := "op.go:137", after := #[], guard := none }) (v := .pointer (some ⟨g, 0, none⟩)) rfl (by kernel_rfl) (by kernel_rfl) (by kernel_rfl) (fun _ _ _ h => h) (Or.inl ⟨by rfl, fun w hSw => ?_⟩) (by assumption) ?_
      · (try dsimp only at hSw)
        go_simp
      try simp only [Act.put, List.setIfInBounds_toArray, List.set_cons_zero, List.set_cons_succ]
      refine wpAnyH_ready (rs := [1, 3]) (by kernel_rfl) (by simp) ?_
      refine AllReadyH.cons (o := { dst := some 15, op := Op.load 27 (Operand.tmp 14), type := 27, pos := "op.go:137", after := #[{ on := 0, ground := Ground.data }], guard := none }) rfl (fun K hK => ?_) (AllReadyH.cons (o := { dst := some 17, op := Op.call { callee := Callee.value (Operand.func 59), args := #[Operand.tmp 16], argTypes := #[109] }, type := 38, pos := "op.go:137", after := #[{ on := 2, ground := Ground.data }], guard := none }) rfl (fun K hK => ?_) (AllReadyH.nil))
      · go_simp
        refine hK.out _ _ trivial (fun _ => ?_)
        clear hK K
        try simp only [Act.put, List.setIfInBounds_toArray, List.set_cons_zero, List.set_cons_succ]
        refine wpAnyH_ready (rs := [3]) (by kernel_rfl) (by simp) ?_
        refine AllReadyH.cons (o := { dst := some 17, op := Op.call { callee := Callee.value (Operand.func 59), args := #[Operand.tmp 16], argTypes := #[109] }, type := 38, pos := "op.go:137", after := #[{ on := 2, ground := Ground.data }], guard := none }) rfl (fun K hK => ?_) (AllReadyH.nil)
        go_simp
        go_at_call 59
        refine (rop_to g B lk lx xk xkey ⟨vk, vn, vs⟩ ⟨qk, qn, qs⟩ xn _ HR.out (by omega) HX.out).mono ?_
        rintro e kc ⟨rfl, hr, h⟩
        replace b0 := (h.cell_far ⟨k2.heap.size, 0, none⟩ (by first | exact hltT | exact hltR) (by simp; omega)).trans b0
        replace b1 := (h.cell_far ⟨k2.heap.size, 1, none⟩ (by first | exact hltT | exact hltR) (by simp; omega)).trans b1
        replace b2 := (h.cell_far ⟨k2.heap.size, 2, none⟩ (by first | exact hltT | exact hltR) (by simp; omega)).trans b2
        replace bf2 := (h.frozen_far ⟨k2.heap.size, 2, none⟩ (by first | exact hltT | exact hltR) (by simp; omega)).trans bf2
        replace r0 := (h.cell_far ⟨w.heap.size, 0, none⟩ (by first | exact hltT | exact hltR) (by simp; omega)).trans r0
        replace r1 := (h.cell_far ⟨w.heap.size, 1, none⟩ (by first | exact hltT | exact hltR) (by simp; omega)).trans r1
        replace r2 := (h.cell_far ⟨w.heap.size, 2, none⟩ (by first | exact hltT | exact hltR) (by simp; omega)).trans r2
        replace rf0 := (h.frozen_far ⟨w.heap.size, 0, none⟩ (by first | exact hltT | exact hltR) (by simp; omega)).trans rf0
        replace rf1 := (h.frozen_far ⟨w.heap.size, 1, none⟩ (by first | exact hltT | exact hltR) (by simp; omega)).trans rf1
        replace rf2 := (h.frozen_far ⟨w.heap.size, 2, none⟩ (by first | exact hltT | exact hltR) (by simp; omega)).trans rf2
        have hcz : WD.heap.size ≤ kc.heap.size := h.size
        have hO2 := Lib.hid (World.ownsRow.kept HO.out h (.inr hap))
        have hB2 := Lib.hid (grown_trans hbD.out h)
        have HR2 := Lib.hid hr
        have hcT := Nat.lt_of_lt_of_le hltT hcz
        have hcR := Nat.lt_of_lt_of_le hltR hcz
        clear h hr
        try dsimp only
        refine hK.out _ _ trivial (fun _ => ?_)
        clear hK K
        try simp only [Act.put, List.setIfInBounds_toArray, List.set_cons_zero, List.set_cons_succ]
        refine wpAnyH_ready (rs := [4]) (by kernel_rfl) (by simp) ?_
        refine AllReadyH.cons (o := { dst := some 18, op := Op.buildSlice 27 1 #[(0, Operand.tmp 17)], type := 27, pos := "op.go:137", after := #[{ on := 3, ground := Ground.data }], guard := none }) rfl (fun K hK => ?_) (AllReadyH.nil)
        go_simp
        refine hK.out _ _ trivial (fun _ => ?_)
        clear hK K
        try simp only [Act.put, List.setIfInBounds_toArray, List.set_cons_zero, List.set_cons_succ]
        refine wpAnyH_ready (rs := [5]) (by kernel_rfl) (by simp) ?_
        refine AllReadyH.cons (o := { dst := some 19, op := Op.call { callee := Callee.builtin Builtin.append, args := #[Operand.tmp 15, Operand.tmp 18], argTypes := #[27, 27] }, type := 27, pos := "op.go:137", after := #[{ on := 1, ground := Ground.data }, { on := 4, ground := Ground.data }, { on := 3, ground := Ground.chain }], guard := none }) rfl (fun K hK => ?_) (AllReadyH.nil)
        rw [if_pos (by rfl)]
        refine wp_append_op _ _ rfl (k2.heap.size + 1) _ ok ⟨xk, xkey, ⟨vk, vn, vs⟩, ⟨qk, qn, qs⟩, xn⟩ kc.heap.size rfl (OwnO.below hO2.out (below_one kc _)) rfl (by intro j z hj; rw [Nat.zero_add, World.cell?_alloc_mark]; simpa [Opn.cs] using hj) (by omega) (by simp; omega) ?_
        intro v1 w1 ho1 hg1
        have hln : (ok ++ [(⟨xk, xkey, ⟨vk, vn, vs⟩, ⟨qk, qn, qs⟩, xn⟩ : Opn)]).length = k + 1 := by rw [List.length_append, hlen]; rfl
        obtain ⟨A1, c1, hv1⟩ := own_slice ho1
        rw [hln] at hv1
        subst hv1
        have hgg := (World.grownBy_alloc kc _ _).trans hg1
        replace b0 := (hgg.cell_far ⟨k2.heap.size, 0, none⟩ (by first | exact hcT | exact hcR) (by first | exact hapT | exact hapR)).trans b0
        replace b1 := (hgg.cell_far ⟨k2.heap.size, 1, none⟩ (by first | exact hcT | exact hcR) (by first | exact hapT | exact hapR)).trans b1
        replace b2 := (hgg.cell_far ⟨k2.heap.size, 2, none⟩ (by first | exact hcT | exact hcR) (by first | exact hapT | exact hapR)).trans b2
        replace bf2 := (hgg.frozen_far ⟨k2.heap.size, 2, none⟩ (by first | exact hcT | exact hcR) (by first | exact hapT | exact hapR)).trans bf2
        replace r0 := (hgg.cell_far ⟨w.heap.size, 0, none⟩ (by first | exact hcT | exact hcR) (by first | exact hapT | exact hapR)).trans r0
        replace r1 := (hgg.cell_far ⟨w.heap.size, 1, none⟩ (by first | exact hcT | exact hcR) (by first | exact hapT | exact hapR)).trans r1
        replace r2 := (hgg.cell_far ⟨w.heap.size, 2, none⟩ (by first | exact hcT | exact hcR) (by first | exact hapT | exact hapR)).trans r2
        replace rf0 := (hgg.frozen_far ⟨w.heap.size, 0, none⟩ (by first | exact hcT | exact hcR) (by first | exact hapT | exact hapR)).trans rf0
        replace rf1 := (hgg.frozen_far ⟨w.heap.size, 1, none⟩ (by first | exact hcT | exact hcR) (by first | exact hapT | exact hapR)).trans rf1
        replace rf2 := (hgg.frozen_far ⟨w.heap.size, 2, none⟩ (by first | exact hcT | exact hcR) (by first | exact hapT | exact hapR)).trans rf2
        have hz8 : kc.heap.size ≤ w1.heap.size := hgg.size
        have HO3 := Lib.hid ho1
        have HG3 := Lib.hid hgg
        clear ho1 hg1 hgg
        try dsimp only
        refine hK.out _ _ trivial (fun _ => ?_)
        clear hK K
        try simp only [Act.put, List.setIfInBounds_toArray, List.set_cons_zero, List.set_cons_succ]
        refine wpAnyH_take (i := 6) (oi := { dst := some 20, op := Op.fieldAddr 29 (Operand.tmp 3) 2, type := 0, pos := "op.go:137", after := #[{ on := 0, ground := Ground.phase }, { on := 1, ground := Ground.phase }, { on := 2, ground := Ground.phase }, { on := 3, ground := Ground.phase }, { on := 4, ground := Ground.phase }, { on := 5, ground := Ground.phase }], guard := none }) (v := .pointer (some ⟨k2.heap.size, 2, none⟩)) rfl (by kernel_rfl) (by kernel_rfl) (by kernel_rfl) (fun _ _ _ h => h) (Or.inl ⟨by rfl, fun w hSw => ?_⟩) (by assumption) ?_
        · (try dsimp only at hSw)
          go_simp
        try simp only [Act.put, List.setIfInBounds_toArray, List.set_cons_zero, List.set_cons_succ]
        refine wpAnyH_ready (rs := [7]) (by kernel_rfl) (by simp) ?_
        refine AllReadyH.cons (o := { dst := none, op := Op.store 27 (Operand.tmp 20) (Operand.tmp 19), type := 0, pos := "op.go:137", after := #[{ on := 6, ground := Ground.data }, { on := 5, ground := Ground.data }, { on := 5, ground := Ground.chain }, { on := 0, ground := Ground.phase }, { on := 1, ground := Ground.phase }, { on := 2, ground := Ground.phase }, { on := 3, ground := Ground.phase }, { on := 4, ground := Ground.phase }, { on := 5, ground := Ground.phase }], guard := none }) rfl (fun K hK => ?_) (AllReadyH.nil)
        go_simp
        refine hK.out _ _ trivial (fun _ => ?_)
        clear hK K
        try simp only [Act.put, List.setIfInBounds_toArray, List.set_cons_zero, List.set_cons_succ]
        refine wpAnyH_done (by kernel_rfl) ?_ _
        refine NoPanic.normal ?_
        have hwk : Below (g + 1) kc w1 := (Below.refl _ _).grown HG3.out (by omega) (fun j hj => by have := hapB j hj; omega)
        have hwk2 : Below w.heap.size kc w1 := (Below.refl _ _).grown HG3.out (by omega) (fun j hj => by have := hapB j hj; omega)
        have hwT : k2.heap.size < w1.heap.size := by omega
        have hwR : w.heap.size < w1.heap.size := by omega
        have hne : ¬ k2.heap.size = w.heap.size := by omega
        have hne2 : ¬ w.heap.size = k2.heap.size := by omega
        go_wp2
        go_roundw
        case rel =>
          refine ⟨k + 1, A1, c1, by go_num, by omega, by go_simp, by go_simp, by go_simp, by go_simp, by go_simp, by go_simp, by go_simp, by go_simp, by go_simp, by go_simp, ?_, ?_, ?_, ?_⟩
          · rw [HN.out]; exact ownsRow_set HO3.out (by show k2.heap.size < k2.heap.size + 1; omega)
          · rw [HN.out]; exact rdr_then HR2.out (hwk.setCell (by show g + 1 ≤ k2.heap.size; omega) _)
          · exact grown_then hB2.out (hwk2.setCell (by show w.heap.size ≤ k2.heap.size; omega) _)
          · simp; omega
        case measure => simp [intOf]; omega
      · go_simp
        go_at_call 59
        refine (rop_to g B lk lx xk xkey ⟨vk, vn, vs⟩ ⟨qk, qn, qs⟩ xn _ HR.out (by omega) HX.out).mono ?_
        rintro e kc ⟨rfl, hr, h⟩
        replace b0 := (h.cell_far ⟨k2.heap.size, 0, none⟩ (by first | exact hltT | exact hltR) (by simp; omega)).trans b0
        replace b1 := (h.cell_far ⟨k2.heap.size, 1, none⟩ (by first | exact hltT | exact hltR) (by simp; omega)).trans b1
        replace b2 := (h.cell_far ⟨k2.heap.size, 2, none⟩ (by first | exact hltT | exact hltR) (by simp; omega)).trans b2
        replace bf2 := (h.frozen_far ⟨k2.heap.size, 2, none⟩ (by first | exact hltT | exact hltR) (by simp; omega)).trans bf2
        replace r0 := (h.cell_far ⟨w.heap.size, 0, none⟩ (by first | exact hltT | exact hltR) (by simp; omega)).trans r0
        replace r1 := (h.cell_far ⟨w.heap.size, 1, none⟩ (by first | exact hltT | exact hltR) (by simp; omega)).trans r1
        replace r2 := (h.cell_far ⟨w.heap.size, 2, none⟩ (by first | exact hltT | exact hltR) (by simp; omega)).trans r2
        replace rf0 := (h.frozen_far ⟨w.heap.size, 0, none⟩ (by first | exact hltT | exact hltR) (by simp; omega)).trans rf0
        replace rf1 := (h.frozen_far ⟨w.heap.size, 1, none⟩ (by first | exact hltT | exact hltR) (by simp; omega)).trans rf1
        replace rf2 := (h.frozen_far ⟨w.heap.size, 2, none⟩ (by first | exact hltT | exact hltR) (by simp; omega)).trans rf2
        have hcz : WD.heap.size ≤ kc.heap.size := h.size
        have hO2 := Lib.hid (World.ownsRow.kept HO.out h (.inr hap))
        have hB2 := Lib.hid (grown_trans hbD.out h)
        have HR2 := Lib.hid hr
        have hcT := Nat.lt_of_lt_of_le hltT hcz
        have hcR := Nat.lt_of_lt_of_le hltR hcz
        clear h hr
        try dsimp only
        refine hK.out _ _ trivial (fun _ => ?_)
        clear hK K
        try simp only [Act.put, List.setIfInBounds_toArray, List.set_cons_zero, List.set_cons_succ]
        refine wpAnyH_ready (rs := [1, 4]) (by kernel_rfl) (by simp) ?_
        refine AllReadyH.cons (o := { dst := some 15, op := Op.load 27 (Operand.tmp 14), type := 27, pos := "op.go:137", after := #[{ on := 0, ground := Ground.data }], guard := none }) rfl (fun K hK => ?_) (AllReadyH.cons (o := { dst := some 18, op := Op.buildSlice 27 1 #[(0, Operand.tmp 17)], type := 27, pos := "op.go:137", after := #[{ on := 3, ground := Ground.data }], guard := none }) rfl (fun K hK => ?_) (AllReadyH.nil))
        · go_simp
          refine hK.out _ _ trivial (fun _ => ?_)
          clear hK K
          try simp only [Act.put, List.setIfInBounds_toArray, List.set_cons_zero, List.set_cons_succ]
          refine wpAnyH_ready (rs := [4]) (by kernel_rfl) (by simp) ?_
          refine AllReadyH.cons (o := { dst := some 18, op := Op.buildSlice 27 1 #[(0, Operand.tmp 17)], type := 27, pos := "op.go:137", after := #[{ on := 3, ground := Ground.data }], guard := none }) rfl (fun K hK => ?_) (AllReadyH.nil)
          go_simp
          refine hK.out _ _ trivial (fun _ => ?_)
          clear hK K
          try simp only [Act.put, List.setIfInBounds_toArray, List.set_cons_zero, List.set_cons_succ]
          refine wpAnyH_ready (rs := [5]) (by kernel_rfl) (by simp) ?_
          refine AllReadyH.cons (o := { dst := some 19, op := Op.call { callee := Callee.builtin Builtin.append, args := #[Operand.tmp 15, Operand.tmp 18], argTypes := #[27, 27] }, type := 27, pos := "op.go:137", after := #[{ on := 1, ground := Ground.data }, { on := 4, ground := Ground.data }, { on := 3, ground := Ground.chain }], guard := none }) rfl (fun K hK => ?_) (AllReadyH.nil)
          rw [if_pos (by rfl)]
          refine wp_append_op _ _ rfl (k2.heap.size + 1) _ ok ⟨xk, xkey, ⟨vk, vn, vs⟩, ⟨qk, qn, qs⟩, xn⟩ kc.heap.size rfl (OwnO.below hO2.out (below_one kc _)) rfl (by intro j z hj; rw [Nat.zero_add, World.cell?_alloc_mark]; simpa [Opn.cs] using hj) (by omega) (by simp; omega) ?_
          intro v1 w1 ho1 hg1
          have hln : (ok ++ [(⟨xk, xkey, ⟨vk, vn, vs⟩, ⟨qk, qn, qs⟩, xn⟩ : Opn)]).length = k + 1 := by rw [List.length_append, hlen]; rfl
          obtain ⟨A1, c1, hv1⟩ := own_slice ho1
          rw [hln] at hv1
          subst hv1
          have hgg := (World.grownBy_alloc kc _ _).trans hg1
          replace b0 := (hgg.cell_far ⟨k2.heap.size, 0, none⟩ (by first | exact hcT | exact hcR) (by first | exact hapT | exact hapR)).trans b0
          replace b1 := (hgg.cell_far ⟨k2.heap.size, 1, none⟩ (by first | exact hcT | exact hcR) (by first | exact hapT | exact hapR)).trans b1
          replace b2 := (hgg.cell_far ⟨k2.heap.size, 2, none⟩ (by first | exact hcT | exact hcR) (by first | exact hapT | exact hapR)).trans b2
          replace bf2 := (hgg.frozen_far ⟨k2.heap.size, 2, none⟩ (by first | exact hcT | exact hcR) (by first | exact hapT | exact hapR)).trans bf2
          replace r0 := (hgg.cell_far ⟨w.heap.size, 0, none⟩ (by first | exact hcT | exact hcR) (by first | exact hapT | exact hapR)).trans r0
          replace r1 := (hgg.cell_far ⟨w.heap.size, 1, none⟩ (by first | exact hcT | exact hcR) (by first | exact hapT | exact hapR)).trans r1
          replace r2 := (hgg.cell_far ⟨w.heap.size, 2, none⟩ (by first | exact hcT | exact hcR) (by first | exact hapT | exact hapR)).trans r2
          replace rf0 := (hgg.frozen_far ⟨w.heap.size, 0, none⟩ (by first | exact hcT | exact hcR) (by first | exact hapT | exact hapR)).trans rf0
          replace rf1 := (hgg.frozen_far ⟨w.heap.size, 1, none⟩ (by first | exact hcT | exact hcR) (by first | exact hapT | exact hapR)).trans rf1
          replace rf2 := (hgg.frozen_far ⟨w.heap.size, 2, none⟩ (by first | exact hcT | exact hcR) (by first | exact hapT | exact hapR)).trans rf2
          have hz8 : kc.heap.size ≤ w1.heap.size := hgg.size
          have HO3 := Lib.hid ho1
          have HG3 := Lib.hid hgg
          clear ho1 hg1 hgg
          try dsimp only
          refine hK.out _ _ trivial (fun _ => ?_)
          clear hK K
          try simp only [Act.put, List.setIfInBounds_toArray, List.set_cons_zero, List.set_cons_succ]
          refine wpAnyH_take (i := 6) (oi := { dst := some 20, op := Op.fieldAddr 29 (Operand.tmp 3) 2, type := 0, pos := "op.go:137", after := #[{ on := 0, ground := Ground.phase }, { on := 1, ground := Ground.phase }, { on := 2, ground := Ground.phase }, { on := 3, ground := Ground.phase }, { on := 4, ground := Ground.phase }, { on := 5, ground := Ground.phase }], guard := none }) (v := .pointer (some ⟨k2.heap.size, 2, none⟩)) rfl (by kernel_rfl) (by kernel_rfl) (by kernel_rfl) (fun _ _ _ h => h) (Or.inl ⟨by rfl, fun w hSw => ?_⟩) (by assumption) ?_
          · (try dsimp only at hSw)
            go_simp
          try simp only [Act.put, List.setIfInBounds_toArray, List.set_cons_zero, List.set_cons_succ]
          refine wpAnyH_ready (rs := [7]) (by kernel_rfl) (by simp) ?_
          refine AllReadyH.cons (o := { dst := none, op := Op.store 27 (Operand.tmp 20) (Operand.tmp 19), type := 0, pos := "op.go:137", after := #[{ on := 6, ground := Ground.data }, { on := 5, ground := Ground.data }, { on := 5, ground := Ground.chain }, { on := 0, ground := Ground.phase }, { on := 1, ground := Ground.phase }, { on := 2, ground := Ground.phase }, { on := 3, ground := Ground.phase }, { on := 4, ground := Ground.phase }, { on := 5, ground := Ground.phase }], guard := none }) rfl (fun K hK => ?_) (AllReadyH.nil)
          go_simp
          refine hK.out _ _ trivial (fun _ => ?_)
          clear hK K
          try simp only [Act.put, List.setIfInBounds_toArray, List.set_cons_zero, List.set_cons_succ]
          refine wpAnyH_done (by kernel_rfl) ?_ _
          refine NoPanic.normal ?_
          have hwk : Below (g + 1) kc w1 := (Below.refl _ _).grown HG3.out (by omega) (fun j hj => by have := hapB j hj; omega)
          have hwk2 : Below w.heap.size kc w1 := (Below.refl _ _).grown HG3.out (by omega) (fun j hj => by have := hapB j hj; omega)
          have hwT : k2.heap.size < w1.heap.size := by omega
          have hwR : w.heap.size < w1.heap.size := by omega
          have hne : ¬ k2.heap.size = w.heap.size := by omega
          have hne2 : ¬ w.heap.size = k2.heap.size := by omega
          go_wp2
          go_roundw
          case rel =>
            refine ⟨k + 1, A1, c1, by go_num, by omega, by go_simp, by go_simp, by go_simp, by go_simp, by go_simp, by go_simp, by go_simp, by go_simp, by go_simp, by go_simp, ?_, ?_, ?_, ?_⟩
            · rw [HN.out]; exact ownsRow_set HO3.out (by show k2.heap.size < k2.heap.size + 1; omega)
            · rw [HN.out]; exact rdr_then HR2.out (hwk.setCell (by show g + 1 ≤ k2.heap.size; omega) _)
            · exact grown_then hB2.out (hwk2.setCell (by show w.heap.size ≤ k2.heap.size; omega) _)
            · simp; omega
          case measure => simp [intOf]; omega
        · go_simp
          refine hK.out _ _ trivial (fun _ => ?_)
          clear hK K
          try simp only [Act.put, List.setIfInBounds_toArray, List.set_cons_zero, List.set_cons_succ]
          refine wpAnyH_ready (rs := [1]) (by kernel_rfl) (by simp) ?_
          refine AllReadyH.cons (o := { dst := some 15, op := Op.load 27 (Operand.tmp 14), type := 27, pos := "op.go:137", after := #[{ on := 0, ground := Ground.data }], guard := none }) rfl (fun K hK => ?_) (AllReadyH.nil)
          go_simp
          refine hK.out _ _ trivial (fun _ => ?_)
          clear hK K
          try simp only [Act.put, List.setIfInBounds_toArray, List.set_cons_zero, List.set_cons_succ]
          refine wpAnyH_ready (rs := [5]) (by kernel_rfl) (by simp) ?_
          refine AllReadyH.cons (o := { dst := some 19, op := Op.call { callee := Callee.builtin Builtin.append, args := #[Operand.tmp 15, Operand.tmp 18], argTypes := #[27, 27] }, type := 27, pos := "op.go:137", after := #[{ on := 1, ground := Ground.data }, { on := 4, ground := Ground.data }, { on := 3, ground := Ground.chain }], guard := none }) rfl (fun K hK => ?_) (AllReadyH.nil)
          rw [if_pos (by rfl)]
          refine wp_append_op _ _ rfl (k2.heap.size + 1) _ ok ⟨xk, xkey, ⟨vk, vn, vs⟩, ⟨qk, qn, qs⟩, xn⟩ kc.heap.size rfl (OwnO.below hO2.out (below_one kc _)) rfl (by intro j z hj; rw [Nat.zero_add, World.cell?_alloc_mark]; simpa [Opn.cs] using hj) (by omega) (by simp; omega) ?_
          intro v1 w1 ho1 hg1
          have hln : (ok ++ [(⟨xk, xkey, ⟨vk, vn, vs⟩, ⟨qk, qn, qs⟩, xn⟩ : Opn)]).length = k + 1 := by rw [List.length_append, hlen]; rfl
          obtain ⟨A1, c1, hv1⟩ := own_slice ho1
          rw [hln] at hv1
          subst hv1
          have hgg := (World.grownBy_alloc kc _ _).trans hg1
          replace b0 := (hgg.cell_far ⟨k2.heap.size, 0, none⟩ (by first | exact hcT | exact hcR) (by first | exact hapT | exact hapR)).trans b0
          replace b1 := (hgg.cell_far ⟨k2.heap.size, 1, none⟩ (by first | exact hcT | exact hcR) (by first | exact hapT | exact hapR)).trans b1
          replace b2 := (hgg.cell_far ⟨k2.heap.size, 2, none⟩ (by first | exact hcT | exact hcR) (by first | exact hapT | exact hapR)).trans b2
          replace bf2 := (hgg.frozen_far ⟨k2.heap.size, 2, none⟩ (by first | exact hcT | exact hcR) (by first | exact hapT | exact hapR)).trans bf2
          replace r0 := (hgg.cell_far ⟨w.heap.size, 0, none⟩ (by first | exact hcT | exact hcR) (by first | exact hapT | exact hapR)).trans r0
          replace r1 := (hgg.cell_far ⟨w.heap.size, 1, none⟩ (by first | exact hcT | exact hcR) (by first | exact hapT | exact hapR)).trans r1
          replace r2 := (hgg.cell_far ⟨w.heap.size, 2, none⟩ (by first | exact hcT | exact hcR) (by first | exact hapT | exact hapR)).trans r2
          replace rf0 := (hgg.frozen_far ⟨w.heap.size, 0, none⟩ (by first | exact hcT | exact hcR) (by first | exact hapT | exact hapR)).trans rf0
          replace rf1 := (hgg.frozen_far ⟨w.heap.size, 1, none⟩ (by first | exact hcT | exact hcR) (by first | exact hapT | exact hapR)).trans rf1
          replace rf2 := (hgg.frozen_far ⟨w.heap.size, 2, none⟩ (by first | exact hcT | exact hcR) (by first | exact hapT | exact hapR)).trans rf2
          have hz8 : kc.heap.size ≤ w1.heap.size := hgg.size
          have HO3 := Lib.hid ho1
          have HG3 := Lib.hid hgg
          clear ho1 hg1 hgg
          try dsimp only
          refine hK.out _ _ trivial (fun _ => ?_)
          clear hK K
          try simp only [Act.put, List.setIfInBounds_toArray, List.set_cons_zero, List.set_cons_succ]
          refine wpAnyH_take (i := 6) (oi := { dst := some 20, op := Op.fieldAddr 29 (Operand.tmp 3) 2, type := 0, pos := "op.go:137", after := #[{ on := 0, ground := Ground.phase }, { on := 1, ground := Ground.phase }, { on := 2, ground := Ground.phase }, { on := 3, ground := Ground.phase }, { on := 4, ground := Ground.phase }, { on := 5, ground := Ground.phase }], guard := none }) (v := .pointer (some ⟨k2.heap.size, 2, none⟩)) rfl (by kernel_rfl) (by kernel_rfl) (by kernel_rfl) (fun _ _ _ h => h) (Or.inl ⟨by rfl, fun w hSw => ?_⟩) (by assumption) ?_
          · (try dsimp only at hSw)
            go_simp
          try simp only [Act.put, List.setIfInBounds_toArray, List.set_cons_zero, List.set_cons_succ]
          refine wpAnyH_ready (rs := [7]) (by kernel_rfl) (by simp) ?_
          refine AllReadyH.cons (o := { dst := none, op := Op.store 27 (Operand.tmp 20) (Operand.tmp 19), type := 0, pos := "op.go:137", after := #[{ on := 6, ground := Ground.data }, { on := 5, ground := Ground.data }, { on := 5, ground := Ground.chain }, { on := 0, ground := Ground.phase }, { on := 1, ground := Ground.phase }, { on := 2, ground := Ground.phase }, { on := 3, ground := Ground.phase }, { on := 4, ground := Ground.phase }, { on := 5, ground := Ground.phase }], guard := none }) rfl (fun K hK => ?_) (AllReadyH.nil)
          go_simp
          refine hK.out _ _ trivial (fun _ => ?_)
          clear hK K
          try simp only [Act.put, List.setIfInBounds_toArray, List.set_cons_zero, List.set_cons_succ]
          refine wpAnyH_done (by kernel_rfl) ?_ _
          refine NoPanic.normal ?_
          have hwk : Below (g + 1) kc w1 := (Below.refl _ _).grown HG3.out (by omega) (fun j hj => by have := hapB j hj; omega)
          have hwk2 : Below w.heap.size kc w1 := (Below.refl _ _).grown HG3.out (by omega) (fun j hj => by have := hapB j hj; omega)
          have hwT : k2.heap.size < w1.heap.size := by omega
          have hwR : w.heap.size < w1.heap.size := by omega
          have hne : ¬ k2.heap.size = w.heap.size := by omega
          have hne2 : ¬ w.heap.size = k2.heap.size := by omega
          go_wp2
          go_roundw
          case rel =>
            refine ⟨k + 1, A1, c1, by go_num, by omega, by go_simp, by go_simp, by go_simp, by go_simp, by go_simp, by go_simp, by go_simp, by go_simp, by go_simp, by go_simp, ?_, ?_, ?_, ?_⟩
            · rw [HN.out]; exact ownsRow_set HO3.out (by show k2.heap.size < k2.heap.size + 1; omega)
            · rw [HN.out]; exact rdr_then HR2.out (hwk.setCell (by show g + 1 ≤ k2.heap.size; omega) _)
            · exact grown_then hB2.out (hwk2.setCell (by show w.heap.size ≤ k2.heap.size; omega) _)
            · simp; omega
          case measure => simp [intOf]; omega
    · have hkM : ¬ (k : Int) < M := by omega
      obtain rfl : k = m := by omega
      have hne : ¬ k2.heap.size = w.heap.size := by omega
      have hne2 : ¬ w.heap.size = k2.heap.size := by omega
      have HO := Lib.hid ho; clear ho
      have HB := Lib.hid hb; clear hb
      clear hr
      go_wp2
      refine body_world (fun W => W.cell? ⟨w.heap.size, 0, none⟩ = some (.int .i64 bc) ∧ W.cell? ⟨w.heap.size, 1, none⟩ = some (.int .i64 bq) ∧ W.cell? ⟨w.heap.size, 2, none⟩ = some (.slice A k c) ∧ OwnO w.heap.size (.slice A k c) (rOps k l3).1 W ∧ w.grownBy W (some g)) ⟨by go_simp, by go_simp, by go_simp, ownO_down (ownsRow_set (ownsRow_set (ownsRow_set HO.out (by show w.heap.size < k2.heap.size + 1; omega)) (by show w.heap.size < k2.heap.size + 1; omega)) (by show w.heap.size < k2.heap.size + 1; omega)) (by omega), grown_then HB.out (by
        repeat' (first | with_reducible exact Below.refl _ _ | (with_reducible refine Below.setCell ?_ ?_ _) | exact Nat.le_refl _))⟩ ?_
      rintro W ⟨q0, q1, q2, hO, hG⟩
      exact bodyPost_ret (v := .agg #[.int .i64 bc, .int .i64 bq, .slice A k c]) (by simp [results, Try.results38, go_sem, q0, q1, q2]) rfl ⟨A, c, rfl, hO, hG⟩
end Go.Proofs.Ytegkhkcnoahhdaa
