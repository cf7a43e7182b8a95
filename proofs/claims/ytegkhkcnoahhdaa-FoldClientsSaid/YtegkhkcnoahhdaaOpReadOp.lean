/-
  Package op's reader reads an operation, whatever the bytes.
  The reader lies in a block of its own; the bytes lie below it, at most 1,000,000.
-/
import Derived.Test.YtegkhkcnoahhdaaOpRead
import Derived.Test.YtegkhkcnoahhdaaLawKit
set_option linter.unusedSimpArgs false
set_option linter.unusedVariables false
namespace Go.Proofs.Ytegkhkcnoahhdaa
open Go.RowKit
set_option maxRecDepth 100000

/-- the operation that the reader reads, and what rests -/
def rOp (l : List UInt8) : Opn × List UInt8 :=
  if (rNum l).1 = 1 then (⟨1, (rTxt (rNum l).2).1, (rRaw (rTxt (rNum l).2).2).1, zR, 0⟩, (rRaw (rTxt (rNum l).2).2).2)
  else if (rNum l).1 = 3 then (⟨3, (rTxt (rNum l).2).1, (rRaw (rTxt (rNum l).2).2).1, (rRaw (rRaw (rTxt (rNum l).2).2).2).1, 0⟩, (rRaw (rRaw (rTxt (rNum l).2).2).2).2)
  else if (rNum l).1 = 4 then (⟨4, (rTxt (rNum l).2).1, zR, zR, (rNum (rTxt (rNum l).2).2).1⟩, (rNum (rTxt (rNum l).2).2).2)
  else (⟨(rNum l).1, (rTxt (rNum l).2).1, zR, zR, 0⟩, (rTxt (rNum l).2).2)
theorem body_world {P : Program} {f : Func} {Q : Ending → World → Prop} {ex : Exit} {a : Act} {w : World} (R : World → Prop) (h : R w) (k : ∀ W, R W → bodyPost P f Q ex a W) : bodyPost P f Q ex a w := k w h
theorem rNum_le (l : List UInt8) : (rNum l).2.length ≤ l.length := by unfold rNum; rw [List.length_drop]; omega
theorem rTxt_le (l : List UInt8) : (rTxt l).2.length ≤ l.length := by unfold rTxt; rw [List.length_drop]; omega
theorem rRaw_le (l : List UInt8) : (rRaw l).2.length ≤ l.length := by unfold rRaw; rw [List.length_drop]; omega
theorem rnum_to (g B : Nat) (l m : List UInt8) (n : Int) (w : World) (h : Rdr w g B l) (hl : l.length ≤ 1000000) (hr : rNum l = (n, m)) :
    Calls Try.prog 58 #[.pointer (some ⟨g, 0, none⟩)] w (RdOut g B (.int .i64 n) m w) := by
  have := rnum_any g B l w h hl; rw [hr] at this; exact this
theorem rtxt_to (g B : Nat) (l m : List UInt8) (s : ByteArray) (w : World) (h : Rdr w g B l) (hl : l.length ≤ 1000000) (hr : rTxt l = (s, m)) :
    Calls Try.prog 78 #[.pointer (some ⟨g, 0, none⟩)] w (RdOut g B (.string s) m w) := by
  have := rtxt_any g B l w h hl; rw [hr] at this; exact this
theorem rraw_to (g B : Nat) (l m : List UInt8) (k n : Int) (s : ByteArray) (w : World) (h : Rdr w g B l) (hl : l.length ≤ 1000000) (hr : rRaw l = (⟨k, n, s⟩, m)) :
    Calls Try.prog 79 #[.pointer (some ⟨g, 0, none⟩)] w (RdOut g B (.agg #[.int .i64 k, .int .i64 n, .string s]) m w) := by
  have := rraw_any g B l w h hl; rw [hr] at this; exact this
set_option maxHeartbeats 400000 in
theorem rop_x (g B : Nat) (l l1 l2 : List UInt8) (k : Int) (key : ByteArray) (w : World) (hr : Rdr w g B l) (hl : l.length ≤ 1000000) (e1 : rNum l = (k, l1)) (e2 : rTxt l1 = (key, l2)) (h1 : ¬ k = 1) (h3 : ¬ k = 3) (h4 : ¬ k = 4) :
    Calls Try.prog 59 #[.pointer (some ⟨g, 0, none⟩)] w (RdOut g B (.agg #[.int .i64 k, .string key, .int .i64 0, .int .i64 0, .string ⟨#[]⟩, .int .i64 0, .int .i64 0, .string ⟨#[]⟩, .int .i64 0]) l2 w) := by
  have n1 : l1.length ≤ l.length := by have := rNum_le l; rw [e1] at this; exact this
  have n2 : l2.length ≤ l1.length := by have := rTxt_le l1; rw [e2] at this; exact this
  have hgz : g < w.heap.size := by obtain ⟨_, _, _, _, _, _, h⟩ := hr; exact h
  have hBg : B ≤ g := by obtain ⟨_, _, _, _, _, h, _⟩ := hr; exact h
  have hb := World.grownBy.refl w (some g)
  have E1 := Lib.hid e1; clear e1
  have E2 := Lib.hid e2; clear e2
  have HR := Lib.hid hr; clear hr
  go_enter Try.func59, Try.ntmps59
  go_wp2_with fail
  refine (rnum_to g B l l1 k _ (rdr_then HR.out (by refine Below.alloc (Below.refl _ _) ?_ _; omega)) (by omega) E1.out).mono ?_
  rintro e k1 ⟨rfl, hr, h⟩
  replace hb : w.grownBy k1 (some g) := by
    refine grown_trans (grown_then hb ?_) h
    repeat' (first | with_reducible exact Below.refl _ _ | (with_reducible refine Below.alloc ?_ ?_ _) | (with_reducible refine Below.setCell ?_ ?_ _) | exact (by first | (simp; done) | (simp; omega) | omega))
  have hz := h.size
  try simp at hz
  have r0 : k1.cell? ⟨w.heap.size, 0, none⟩ = some (.int .i64 0) := (h.cell_far ⟨w.heap.size, 0, none⟩ (by first | (simp; done) | (simp; omega) | omega) (by simp; omega)).trans (by go_simp)
  have r1 : k1.cell? ⟨w.heap.size, 1, none⟩ = some (.string ⟨#[]⟩) := (h.cell_far ⟨w.heap.size, 1, none⟩ (by first | (simp; done) | (simp; omega) | omega) (by simp; omega)).trans (by go_simp)
  have r2 : k1.cell? ⟨w.heap.size, 2, none⟩ = some (.int .i64 0) := (h.cell_far ⟨w.heap.size, 2, none⟩ (by first | (simp; done) | (simp; omega) | omega) (by simp; omega)).trans (by go_simp)
  have r3 : k1.cell? ⟨w.heap.size, 3, none⟩ = some (.int .i64 0) := (h.cell_far ⟨w.heap.size, 3, none⟩ (by first | (simp; done) | (simp; omega) | omega) (by simp; omega)).trans (by go_simp)
  have r4 : k1.cell? ⟨w.heap.size, 4, none⟩ = some (.string ⟨#[]⟩) := (h.cell_far ⟨w.heap.size, 4, none⟩ (by first | (simp; done) | (simp; omega) | omega) (by simp; omega)).trans (by go_simp)
  have r5 : k1.cell? ⟨w.heap.size, 5, none⟩ = some (.int .i64 0) := (h.cell_far ⟨w.heap.size, 5, none⟩ (by first | (simp; done) | (simp; omega) | omega) (by simp; omega)).trans (by go_simp)
  have r6 : k1.cell? ⟨w.heap.size, 6, none⟩ = some (.int .i64 0) := (h.cell_far ⟨w.heap.size, 6, none⟩ (by first | (simp; done) | (simp; omega) | omega) (by simp; omega)).trans (by go_simp)
  have r7 : k1.cell? ⟨w.heap.size, 7, none⟩ = some (.string ⟨#[]⟩) := (h.cell_far ⟨w.heap.size, 7, none⟩ (by first | (simp; done) | (simp; omega) | omega) (by simp; omega)).trans (by go_simp)
  have r8 : k1.cell? ⟨w.heap.size, 8, none⟩ = some (.int .i64 0) := (h.cell_far ⟨w.heap.size, 8, none⟩ (by first | (simp; done) | (simp; omega) | omega) (by simp; omega)).trans (by go_simp)
  have rf0 : k1.frozen? ⟨w.heap.size, 0, none⟩ = false := (h.frozen_far ⟨w.heap.size, 0, none⟩ (by first | (simp; done) | (simp; omega) | omega) (by simp; omega)).trans (by go_simp)
  have rf1 : k1.frozen? ⟨w.heap.size, 1, none⟩ = false := (h.frozen_far ⟨w.heap.size, 1, none⟩ (by first | (simp; done) | (simp; omega) | omega) (by simp; omega)).trans (by go_simp)
  have rf2 : k1.frozen? ⟨w.heap.size, 2, none⟩ = false := (h.frozen_far ⟨w.heap.size, 2, none⟩ (by first | (simp; done) | (simp; omega) | omega) (by simp; omega)).trans (by go_simp)
  have rf3 : k1.frozen? ⟨w.heap.size, 3, none⟩ = false := (h.frozen_far ⟨w.heap.size, 3, none⟩ (by first | (simp; done) | (simp; omega) | omega) (by simp; omega)).trans (by go_simp)
  have rf4 : k1.frozen? ⟨w.heap.size, 4, none⟩ = false := (h.frozen_far ⟨w.heap.size, 4, none⟩ (by first | (simp; done) | (simp; omega) | omega) (by simp; omega)).trans (by go_simp)
  have rf5 : k1.frozen? ⟨w.heap.size, 5, none⟩ = false := (h.frozen_far ⟨w.heap.size, 5, none⟩ (by first | (simp; done) | (simp; omega) | omega) (by simp; omega)).trans (by go_simp)
  have rf6 : k1.frozen? ⟨w.heap.size, 6, none⟩ = false := (h.frozen_far ⟨w.heap.size, 6, none⟩ (by first | (simp; done) | (simp; omega) | omega) (by simp; omega)).trans (by go_simp)
  have rf7 : k1.frozen? ⟨w.heap.size, 7, none⟩ = false := (h.frozen_far ⟨w.heap.size, 7, none⟩ (by first | (simp; done) | (simp; omega) | omega) (by simp; omega)).trans (by go_simp)
  have rf8 : k1.frozen? ⟨w.heap.size, 8, none⟩ = false := (h.frozen_far ⟨w.heap.size, 8, none⟩ (by first | (simp; done) | (simp; omega) | omega) (by simp; omega)).trans (by go_simp)
  have : w.heap.size < k1.heap.size := by omega
  clear h
  have HR1 := Lib.hid hr; clear hr HR
  go_wp2_with fail
  refine (rtxt_to g B l1 l2 key _ HR1.out (by omega) E2.out).mono ?_
  rintro e k2 ⟨rfl, hr, h⟩
  replace hb : w.grownBy k2 (some g) := by
    refine grown_trans (grown_then hb ?_) h
    repeat' (first | with_reducible exact Below.refl _ _ | (with_reducible refine Below.alloc ?_ ?_ _) | (with_reducible refine Below.setCell ?_ ?_ _) | exact (by first | (simp; done) | (simp; omega) | omega))
  have hz := h.size
  try simp at hz
  have r0N : k2.cell? ⟨w.heap.size, 0, none⟩ = some (.int .i64 0) := (h.cell_far ⟨w.heap.size, 0, none⟩ (by first | (simp; done) | (simp; omega) | omega) (by simp; omega)).trans (by go_simp)
  have r1N : k2.cell? ⟨w.heap.size, 1, none⟩ = some (.string ⟨#[]⟩) := (h.cell_far ⟨w.heap.size, 1, none⟩ (by first | (simp; done) | (simp; omega) | omega) (by simp; omega)).trans (by go_simp)
  have r2N : k2.cell? ⟨w.heap.size, 2, none⟩ = some (.int .i64 0) := (h.cell_far ⟨w.heap.size, 2, none⟩ (by first | (simp; done) | (simp; omega) | omega) (by simp; omega)).trans (by go_simp)
  have r3N : k2.cell? ⟨w.heap.size, 3, none⟩ = some (.int .i64 0) := (h.cell_far ⟨w.heap.size, 3, none⟩ (by first | (simp; done) | (simp; omega) | omega) (by simp; omega)).trans (by go_simp)
  have r4N : k2.cell? ⟨w.heap.size, 4, none⟩ = some (.string ⟨#[]⟩) := (h.cell_far ⟨w.heap.size, 4, none⟩ (by first | (simp; done) | (simp; omega) | omega) (by simp; omega)).trans (by go_simp)
  have r5N : k2.cell? ⟨w.heap.size, 5, none⟩ = some (.int .i64 0) := (h.cell_far ⟨w.heap.size, 5, none⟩ (by first | (simp; done) | (simp; omega) | omega) (by simp; omega)).trans (by go_simp)
  have r6N : k2.cell? ⟨w.heap.size, 6, none⟩ = some (.int .i64 0) := (h.cell_far ⟨w.heap.size, 6, none⟩ (by first | (simp; done) | (simp; omega) | omega) (by simp; omega)).trans (by go_simp)
  have r7N : k2.cell? ⟨w.heap.size, 7, none⟩ = some (.string ⟨#[]⟩) := (h.cell_far ⟨w.heap.size, 7, none⟩ (by first | (simp; done) | (simp; omega) | omega) (by simp; omega)).trans (by go_simp)
  have r8N : k2.cell? ⟨w.heap.size, 8, none⟩ = some (.int .i64 0) := (h.cell_far ⟨w.heap.size, 8, none⟩ (by first | (simp; done) | (simp; omega) | omega) (by simp; omega)).trans (by go_simp)
  have rf0N : k2.frozen? ⟨w.heap.size, 0, none⟩ = false := (h.frozen_far ⟨w.heap.size, 0, none⟩ (by first | (simp; done) | (simp; omega) | omega) (by simp; omega)).trans (by go_simp)
  have rf1N : k2.frozen? ⟨w.heap.size, 1, none⟩ = false := (h.frozen_far ⟨w.heap.size, 1, none⟩ (by first | (simp; done) | (simp; omega) | omega) (by simp; omega)).trans (by go_simp)
  have rf2N : k2.frozen? ⟨w.heap.size, 2, none⟩ = false := (h.frozen_far ⟨w.heap.size, 2, none⟩ (by first | (simp; done) | (simp; omega) | omega) (by simp; omega)).trans (by go_simp)
  have rf3N : k2.frozen? ⟨w.heap.size, 3, none⟩ = false := (h.frozen_far ⟨w.heap.size, 3, none⟩ (by first | (simp; done) | (simp; omega) | omega) (by simp; omega)).trans (by go_simp)
  have rf4N : k2.frozen? ⟨w.heap.size, 4, none⟩ = false := (h.frozen_far ⟨w.heap.size, 4, none⟩ (by first | (simp; done) | (simp; omega) | omega) (by simp; omega)).trans (by go_simp)
  have rf5N : k2.frozen? ⟨w.heap.size, 5, none⟩ = false := (h.frozen_far ⟨w.heap.size, 5, none⟩ (by first | (simp; done) | (simp; omega) | omega) (by simp; omega)).trans (by go_simp)
  have rf6N : k2.frozen? ⟨w.heap.size, 6, none⟩ = false := (h.frozen_far ⟨w.heap.size, 6, none⟩ (by first | (simp; done) | (simp; omega) | omega) (by simp; omega)).trans (by go_simp)
  have rf7N : k2.frozen? ⟨w.heap.size, 7, none⟩ = false := (h.frozen_far ⟨w.heap.size, 7, none⟩ (by first | (simp; done) | (simp; omega) | omega) (by simp; omega)).trans (by go_simp)
  have rf8N : k2.frozen? ⟨w.heap.size, 8, none⟩ = false := (h.frozen_far ⟨w.heap.size, 8, none⟩ (by first | (simp; done) | (simp; omega) | omega) (by simp; omega)).trans (by go_simp)
  clear r0 r1 r2 r3 r4 r5 r6 r7 r8 rf0 rf1 rf2 rf3 rf4 rf5 rf6 rf7 rf8
  have r0 := r0N; clear r0N
  have r1 := r1N; clear r1N
  have r2 := r2N; clear r2N
  have r3 := r3N; clear r3N
  have r4 := r4N; clear r4N
  have r5 := r5N; clear r5N
  have r6 := r6N; clear r6N
  have r7 := r7N; clear r7N
  have r8 := r8N; clear r8N
  have rf0 := rf0N; clear rf0N
  have rf1 := rf1N; clear rf1N
  have rf2 := rf2N; clear rf2N
  have rf3 := rf3N; clear rf3N
  have rf4 := rf4N; clear rf4N
  have rf5 := rf5N; clear rf5N
  have rf6 := rf6N; clear rf6N
  have rf7 := rf7N; clear rf7N
  have rf8 := rf8N; clear rf8N
  have : w.heap.size < k2.heap.size := by omega
  clear h
  have HR2 := Lib.hid hr; clear hr HR1
  have HRZ := HR2
  have hg2 : w.heap.size < k2.heap.size := by omega
  go_wp2
  refine body_world (fun W => W.cell? ⟨w.heap.size, 0, none⟩ = some (.int .i64 k) ∧ W.cell? ⟨w.heap.size, 1, none⟩ = some (.string key) ∧ W.cell? ⟨w.heap.size, 2, none⟩ = some (.int .i64 0) ∧ W.cell? ⟨w.heap.size, 3, none⟩ = some (.int .i64 0) ∧ W.cell? ⟨w.heap.size, 4, none⟩ = some (.string ⟨#[]⟩) ∧ W.cell? ⟨w.heap.size, 5, none⟩ = some (.int .i64 0) ∧ W.cell? ⟨w.heap.size, 6, none⟩ = some (.int .i64 0) ∧ W.cell? ⟨w.heap.size, 7, none⟩ = some (.string ⟨#[]⟩) ∧ W.cell? ⟨w.heap.size, 8, none⟩ = some (.int .i64 0) ∧ Rdr W g B l2 ∧ w.grownBy W (some g)) ⟨by go_simp, by go_simp, by go_simp, by go_simp, by go_simp, by go_simp, by go_simp, by go_simp, by go_simp, rdr_then HRZ.out (by
      repeat' (first | with_reducible exact Below.refl _ _ | (with_reducible refine Below.alloc ?_ ?_ _) | (with_reducible refine Below.setCell ?_ ?_ _) | exact (by first | (simp; done) | (simp; omega) | omega))), grown_then hb (by
      repeat' (first | with_reducible exact Below.refl _ _ | (with_reducible refine Below.alloc ?_ ?_ _) | (with_reducible refine Below.setCell ?_ ?_ _) | exact (by first | (simp; done) | (simp; omega) | omega)))⟩ ?_
  rintro W ⟨q0, q1, q2, q3, q4, q5, q6, q7, q8, hR, hG⟩
  exact bodyPost_ret (v := .agg #[.int .i64 k, .string key, .int .i64 0, .int .i64 0, .string ⟨#[]⟩, .int .i64 0, .int .i64 0, .string ⟨#[]⟩, .int .i64 0]) (by simp [results, Try.results59, go_sem, q0, q1, q2, q3, q4, q5, q6, q7, q8]) rfl ⟨rfl, hR, hG⟩
set_option maxHeartbeats 400000 in
theorem rop_1 (g B : Nat) (l l1 l2 : List UInt8) (key : ByteArray) (w : World) (hr : Rdr w g B l) (hl : l.length ≤ 1000000) (e1 : rNum l = (1, l1)) (e2 : rTxt l1 = (key, l2)) (vk vn : Int) (vs : ByteArray) (l3 : List UInt8) (e3 : rRaw l2 = (⟨vk, vn, vs⟩, l3)) :
    Calls Try.prog 59 #[.pointer (some ⟨g, 0, none⟩)] w (RdOut g B (.agg #[.int .i64 1, .string key, .int .i64 vk, .int .i64 vn, .string vs, .int .i64 0, .int .i64 0, .string ⟨#[]⟩, .int .i64 0]) l3 w) := by
  have n1 : l1.length ≤ l.length := by have := rNum_le l; rw [e1] at this; exact this
  have n2 : l2.length ≤ l1.length := by have := rTxt_le l1; rw [e2] at this; exact this
  have hgz : g < w.heap.size := by obtain ⟨_, _, _, _, _, _, h⟩ := hr; exact h
  have hBg : B ≤ g := by obtain ⟨_, _, _, _, _, h, _⟩ := hr; exact h
  have hb := World.grownBy.refl w (some g)
  have E3 := Lib.hid e3; clear e3
  have E1 := Lib.hid e1; clear e1
  have E2 := Lib.hid e2; clear e2
  have HR := Lib.hid hr; clear hr
  go_enter Try.func59, Try.ntmps59
  go_wp2_with fail
  refine (rnum_to g B l l1 1 _ (rdr_then HR.out (by refine Below.alloc (Below.refl _ _) ?_ _; omega)) (by omega) E1.out).mono ?_
  rintro e k1 ⟨rfl, hr, h⟩
  replace hb : w.grownBy k1 (some g) := by
    refine grown_trans (grown_then hb ?_) h
    repeat' (first | with_reducible exact Below.refl _ _ | (with_reducible refine Below.alloc ?_ ?_ _) | (with_reducible refine Below.setCell ?_ ?_ _) | exact (by first | (simp; done) | (simp; omega) | omega))
  have hz := h.size
  try simp at hz
  have r0 : k1.cell? ⟨w.heap.size, 0, none⟩ = some (.int .i64 0) := (h.cell_far ⟨w.heap.size, 0, none⟩ (by first | (simp; done) | (simp; omega) | omega) (by simp; omega)).trans (by go_simp)
  have r1 : k1.cell? ⟨w.heap.size, 1, none⟩ = some (.string ⟨#[]⟩) := (h.cell_far ⟨w.heap.size, 1, none⟩ (by first | (simp; done) | (simp; omega) | omega) (by simp; omega)).trans (by go_simp)
  have r2 : k1.cell? ⟨w.heap.size, 2, none⟩ = some (.int .i64 0) := (h.cell_far ⟨w.heap.size, 2, none⟩ (by first | (simp; done) | (simp; omega) | omega) (by simp; omega)).trans (by go_simp)
  have r3 : k1.cell? ⟨w.heap.size, 3, none⟩ = some (.int .i64 0) := (h.cell_far ⟨w.heap.size, 3, none⟩ (by first | (simp; done) | (simp; omega) | omega) (by simp; omega)).trans (by go_simp)
  have r4 : k1.cell? ⟨w.heap.size, 4, none⟩ = some (.string ⟨#[]⟩) := (h.cell_far ⟨w.heap.size, 4, none⟩ (by first | (simp; done) | (simp; omega) | omega) (by simp; omega)).trans (by go_simp)
  have r5 : k1.cell? ⟨w.heap.size, 5, none⟩ = some (.int .i64 0) := (h.cell_far ⟨w.heap.size, 5, none⟩ (by first | (simp; done) | (simp; omega) | omega) (by simp; omega)).trans (by go_simp)
  have r6 : k1.cell? ⟨w.heap.size, 6, none⟩ = some (.int .i64 0) := (h.cell_far ⟨w.heap.size, 6, none⟩ (by first | (simp; done) | (simp; omega) | omega) (by simp; omega)).trans (by go_simp)
  have r7 : k1.cell? ⟨w.heap.size, 7, none⟩ = some (.string ⟨#[]⟩) := (h.cell_far ⟨w.heap.size, 7, none⟩ (by first | (simp; done) | (simp; omega) | omega) (by simp; omega)).trans (by go_simp)
  have r8 : k1.cell? ⟨w.heap.size, 8, none⟩ = some (.int .i64 0) := (h.cell_far ⟨w.heap.size, 8, none⟩ (by first | (simp; done) | (simp; omega) | omega) (by simp; omega)).trans (by go_simp)
  have rf0 : k1.frozen? ⟨w.heap.size, 0, none⟩ = false := (h.frozen_far ⟨w.heap.size, 0, none⟩ (by first | (simp; done) | (simp; omega) | omega) (by simp; omega)).trans (by go_simp)
  have rf1 : k1.frozen? ⟨w.heap.size, 1, none⟩ = false := (h.frozen_far ⟨w.heap.size, 1, none⟩ (by first | (simp; done) | (simp; omega) | omega) (by simp; omega)).trans (by go_simp)
  have rf2 : k1.frozen? ⟨w.heap.size, 2, none⟩ = false := (h.frozen_far ⟨w.heap.size, 2, none⟩ (by first | (simp; done) | (simp; omega) | omega) (by simp; omega)).trans (by go_simp)
  have rf3 : k1.frozen? ⟨w.heap.size, 3, none⟩ = false := (h.frozen_far ⟨w.heap.size, 3, none⟩ (by first | (simp; done) | (simp; omega) | omega) (by simp; omega)).trans (by go_simp)
  have rf4 : k1.frozen? ⟨w.heap.size, 4, none⟩ = false := (h.frozen_far ⟨w.heap.size, 4, none⟩ (by first | (simp; done) | (simp; omega) | omega) (by simp; omega)).trans (by go_simp)
  have rf5 : k1.frozen? ⟨w.heap.size, 5, none⟩ = false := (h.frozen_far ⟨w.heap.size, 5, none⟩ (by first | (simp; done) | (simp; omega) | omega) (by simp; omega)).trans (by go_simp)
  have rf6 : k1.frozen? ⟨w.heap.size, 6, none⟩ = false := (h.frozen_far ⟨w.heap.size, 6, none⟩ (by first | (simp; done) | (simp; omega) | omega) (by simp; omega)).trans (by go_simp)
  have rf7 : k1.frozen? ⟨w.heap.size, 7, none⟩ = false := (h.frozen_far ⟨w.heap.size, 7, none⟩ (by first | (simp; done) | (simp; omega) | omega) (by simp; omega)).trans (by go_simp)
  have rf8 : k1.frozen? ⟨w.heap.size, 8, none⟩ = false := (h.frozen_far ⟨w.heap.size, 8, none⟩ (by first | (simp; done) | (simp; omega) | omega) (by simp; omega)).trans (by go_simp)
  have : w.heap.size < k1.heap.size := by omega
  clear h
  have HR1 := Lib.hid hr; clear hr HR
  go_wp2_with fail
  refine (rtxt_to g B l1 l2 key _ HR1.out (by omega) E2.out).mono ?_
  rintro e k2 ⟨rfl, hr, h⟩
  replace hb : w.grownBy k2 (some g) := by
    refine grown_trans (grown_then hb ?_) h
    repeat' (first | with_reducible exact Below.refl _ _ | (with_reducible refine Below.alloc ?_ ?_ _) | (with_reducible refine Below.setCell ?_ ?_ _) | exact (by first | (simp; done) | (simp; omega) | omega))
  have hz := h.size
  try simp at hz
  have r0N : k2.cell? ⟨w.heap.size, 0, none⟩ = some (.int .i64 0) := (h.cell_far ⟨w.heap.size, 0, none⟩ (by first | (simp; done) | (simp; omega) | omega) (by simp; omega)).trans (by go_simp)
  have r1N : k2.cell? ⟨w.heap.size, 1, none⟩ = some (.string ⟨#[]⟩) := (h.cell_far ⟨w.heap.size, 1, none⟩ (by first | (simp; done) | (simp; omega) | omega) (by simp; omega)).trans (by go_simp)
  have r2N : k2.cell? ⟨w.heap.size, 2, none⟩ = some (.int .i64 0) := (h.cell_far ⟨w.heap.size, 2, none⟩ (by first | (simp; done) | (simp; omega) | omega) (by simp; omega)).trans (by go_simp)
  have r3N : k2.cell? ⟨w.heap.size, 3, none⟩ = some (.int .i64 0) := (h.cell_far ⟨w.heap.size, 3, none⟩ (by first | (simp; done) | (simp; omega) | omega) (by simp; omega)).trans (by go_simp)
  have r4N : k2.cell? ⟨w.heap.size, 4, none⟩ = some (.string ⟨#[]⟩) := (h.cell_far ⟨w.heap.size, 4, none⟩ (by first | (simp; done) | (simp; omega) | omega) (by simp; omega)).trans (by go_simp)
  have r5N : k2.cell? ⟨w.heap.size, 5, none⟩ = some (.int .i64 0) := (h.cell_far ⟨w.heap.size, 5, none⟩ (by first | (simp; done) | (simp; omega) | omega) (by simp; omega)).trans (by go_simp)
  have r6N : k2.cell? ⟨w.heap.size, 6, none⟩ = some (.int .i64 0) := (h.cell_far ⟨w.heap.size, 6, none⟩ (by first | (simp; done) | (simp; omega) | omega) (by simp; omega)).trans (by go_simp)
  have r7N : k2.cell? ⟨w.heap.size, 7, none⟩ = some (.string ⟨#[]⟩) := (h.cell_far ⟨w.heap.size, 7, none⟩ (by first | (simp; done) | (simp; omega) | omega) (by simp; omega)).trans (by go_simp)
  have r8N : k2.cell? ⟨w.heap.size, 8, none⟩ = some (.int .i64 0) := (h.cell_far ⟨w.heap.size, 8, none⟩ (by first | (simp; done) | (simp; omega) | omega) (by simp; omega)).trans (by go_simp)
  have rf0N : k2.frozen? ⟨w.heap.size, 0, none⟩ = false := (h.frozen_far ⟨w.heap.size, 0, none⟩ (by first | (simp; done) | (simp; omega) | omega) (by simp; omega)).trans (by go_simp)
  have rf1N : k2.frozen? ⟨w.heap.size, 1, none⟩ = false := (h.frozen_far ⟨w.heap.size, 1, none⟩ (by first | (simp; done) | (simp; omega) | omega) (by simp; omega)).trans (by go_simp)
  have rf2N : k2.frozen? ⟨w.heap.size, 2, none⟩ = false := (h.frozen_far ⟨w.heap.size, 2, none⟩ (by first | (simp; done) | (simp; omega) | omega) (by simp; omega)).trans (by go_simp)
  have rf3N : k2.frozen? ⟨w.heap.size, 3, none⟩ = false := (h.frozen_far ⟨w.heap.size, 3, none⟩ (by first | (simp; done) | (simp; omega) | omega) (by simp; omega)).trans (by go_simp)
  have rf4N : k2.frozen? ⟨w.heap.size, 4, none⟩ = false := (h.frozen_far ⟨w.heap.size, 4, none⟩ (by first | (simp; done) | (simp; omega) | omega) (by simp; omega)).trans (by go_simp)
  have rf5N : k2.frozen? ⟨w.heap.size, 5, none⟩ = false := (h.frozen_far ⟨w.heap.size, 5, none⟩ (by first | (simp; done) | (simp; omega) | omega) (by simp; omega)).trans (by go_simp)
  have rf6N : k2.frozen? ⟨w.heap.size, 6, none⟩ = false := (h.frozen_far ⟨w.heap.size, 6, none⟩ (by first | (simp; done) | (simp; omega) | omega) (by simp; omega)).trans (by go_simp)
  have rf7N : k2.frozen? ⟨w.heap.size, 7, none⟩ = false := (h.frozen_far ⟨w.heap.size, 7, none⟩ (by first | (simp; done) | (simp; omega) | omega) (by simp; omega)).trans (by go_simp)
  have rf8N : k2.frozen? ⟨w.heap.size, 8, none⟩ = false := (h.frozen_far ⟨w.heap.size, 8, none⟩ (by first | (simp; done) | (simp; omega) | omega) (by simp; omega)).trans (by go_simp)
  clear r0 r1 r2 r3 r4 r5 r6 r7 r8 rf0 rf1 rf2 rf3 rf4 rf5 rf6 rf7 rf8
  have r0 := r0N; clear r0N
  have r1 := r1N; clear r1N
  have r2 := r2N; clear r2N
  have r3 := r3N; clear r3N
  have r4 := r4N; clear r4N
  have r5 := r5N; clear r5N
  have r6 := r6N; clear r6N
  have r7 := r7N; clear r7N
  have r8 := r8N; clear r8N
  have rf0 := rf0N; clear rf0N
  have rf1 := rf1N; clear rf1N
  have rf2 := rf2N; clear rf2N
  have rf3 := rf3N; clear rf3N
  have rf4 := rf4N; clear rf4N
  have rf5 := rf5N; clear rf5N
  have rf6 := rf6N; clear rf6N
  have rf7 := rf7N; clear rf7N
  have rf8 := rf8N; clear rf8N
  have : w.heap.size < k2.heap.size := by omega
  clear h
  have HR2 := Lib.hid hr; clear hr HR1
  go_wp2_with fail
  refine (rraw_to g B l2 l3 vk vn vs _ (rdr_then HR2.out (by refine Below.alloc (Below.refl _ _) ?_ _; omega)) (by omega) E3.out).mono ?_
  rintro e k3 ⟨rfl, hr, h⟩
  replace hb : w.grownBy k3 (some g) := by
    refine grown_trans (grown_then hb ?_) h
    repeat' (first | with_reducible exact Below.refl _ _ | (with_reducible refine Below.alloc ?_ ?_ _) | (with_reducible refine Below.setCell ?_ ?_ _) | exact (by first | (simp; done) | (simp; omega) | omega))
  have hz := h.size
  try simp at hz
  have r0N : k3.cell? ⟨w.heap.size, 0, none⟩ = some (.int .i64 0) := (h.cell_far ⟨w.heap.size, 0, none⟩ (by first | (simp; done) | (simp; omega) | omega) (by simp; omega)).trans (by go_simp)
  have r1N : k3.cell? ⟨w.heap.size, 1, none⟩ = some (.string ⟨#[]⟩) := (h.cell_far ⟨w.heap.size, 1, none⟩ (by first | (simp; done) | (simp; omega) | omega) (by simp; omega)).trans (by go_simp)
  have r2N : k3.cell? ⟨w.heap.size, 2, none⟩ = some (.int .i64 0) := (h.cell_far ⟨w.heap.size, 2, none⟩ (by first | (simp; done) | (simp; omega) | omega) (by simp; omega)).trans (by go_simp)
  have r3N : k3.cell? ⟨w.heap.size, 3, none⟩ = some (.int .i64 0) := (h.cell_far ⟨w.heap.size, 3, none⟩ (by first | (simp; done) | (simp; omega) | omega) (by simp; omega)).trans (by go_simp)
  have r4N : k3.cell? ⟨w.heap.size, 4, none⟩ = some (.string ⟨#[]⟩) := (h.cell_far ⟨w.heap.size, 4, none⟩ (by first | (simp; done) | (simp; omega) | omega) (by simp; omega)).trans (by go_simp)
  have r5N : k3.cell? ⟨w.heap.size, 5, none⟩ = some (.int .i64 0) := (h.cell_far ⟨w.heap.size, 5, none⟩ (by first | (simp; done) | (simp; omega) | omega) (by simp; omega)).trans (by go_simp)
  have r6N : k3.cell? ⟨w.heap.size, 6, none⟩ = some (.int .i64 0) := (h.cell_far ⟨w.heap.size, 6, none⟩ (by first | (simp; done) | (simp; omega) | omega) (by simp; omega)).trans (by go_simp)
  have r7N : k3.cell? ⟨w.heap.size, 7, none⟩ = some (.string ⟨#[]⟩) := (h.cell_far ⟨w.heap.size, 7, none⟩ (by first | (simp; done) | (simp; omega) | omega) (by simp; omega)).trans (by go_simp)
  have r8N : k3.cell? ⟨w.heap.size, 8, none⟩ = some (.int .i64 0) := (h.cell_far ⟨w.heap.size, 8, none⟩ (by first | (simp; done) | (simp; omega) | omega) (by simp; omega)).trans (by go_simp)
  have rf0N : k3.frozen? ⟨w.heap.size, 0, none⟩ = false := (h.frozen_far ⟨w.heap.size, 0, none⟩ (by first | (simp; done) | (simp; omega) | omega) (by simp; omega)).trans (by go_simp)
  have rf1N : k3.frozen? ⟨w.heap.size, 1, none⟩ = false := (h.frozen_far ⟨w.heap.size, 1, none⟩ (by first | (simp; done) | (simp; omega) | omega) (by simp; omega)).trans (by go_simp)
  have rf2N : k3.frozen? ⟨w.heap.size, 2, none⟩ = false := (h.frozen_far ⟨w.heap.size, 2, none⟩ (by first | (simp; done) | (simp; omega) | omega) (by simp; omega)).trans (by go_simp)
  have rf3N : k3.frozen? ⟨w.heap.size, 3, none⟩ = false := (h.frozen_far ⟨w.heap.size, 3, none⟩ (by first | (simp; done) | (simp; omega) | omega) (by simp; omega)).trans (by go_simp)
  have rf4N : k3.frozen? ⟨w.heap.size, 4, none⟩ = false := (h.frozen_far ⟨w.heap.size, 4, none⟩ (by first | (simp; done) | (simp; omega) | omega) (by simp; omega)).trans (by go_simp)
  have rf5N : k3.frozen? ⟨w.heap.size, 5, none⟩ = false := (h.frozen_far ⟨w.heap.size, 5, none⟩ (by first | (simp; done) | (simp; omega) | omega) (by simp; omega)).trans (by go_simp)
  have rf6N : k3.frozen? ⟨w.heap.size, 6, none⟩ = false := (h.frozen_far ⟨w.heap.size, 6, none⟩ (by first | (simp; done) | (simp; omega) | omega) (by simp; omega)).trans (by go_simp)
  have rf7N : k3.frozen? ⟨w.heap.size, 7, none⟩ = false := (h.frozen_far ⟨w.heap.size, 7, none⟩ (by first | (simp; done) | (simp; omega) | omega) (by simp; omega)).trans (by go_simp)
  have rf8N : k3.frozen? ⟨w.heap.size, 8, none⟩ = false := (h.frozen_far ⟨w.heap.size, 8, none⟩ (by first | (simp; done) | (simp; omega) | omega) (by simp; omega)).trans (by go_simp)
  have b0 : k3.cell? ⟨k2.heap.size, 0, none⟩ = some (.int .i64 1) := (h.cell_far ⟨k2.heap.size, 0, none⟩ (by first | (simp; done) | (simp; omega) | omega) (by simp; omega)).trans (by go_simp)
  have b1 : k3.cell? ⟨k2.heap.size, 1, none⟩ = some (.string key) := (h.cell_far ⟨k2.heap.size, 1, none⟩ (by first | (simp; done) | (simp; omega) | omega) (by simp; omega)).trans (by go_simp)
  have b2 : k3.cell? ⟨k2.heap.size, 2, none⟩ = some (.int .i64 0) := (h.cell_far ⟨k2.heap.size, 2, none⟩ (by first | (simp; done) | (simp; omega) | omega) (by simp; omega)).trans (by go_simp)
  have b3 : k3.cell? ⟨k2.heap.size, 3, none⟩ = some (.int .i64 0) := (h.cell_far ⟨k2.heap.size, 3, none⟩ (by first | (simp; done) | (simp; omega) | omega) (by simp; omega)).trans (by go_simp)
  have b4 : k3.cell? ⟨k2.heap.size, 4, none⟩ = some (.string ⟨#[]⟩) := (h.cell_far ⟨k2.heap.size, 4, none⟩ (by first | (simp; done) | (simp; omega) | omega) (by simp; omega)).trans (by go_simp)
  have b5 : k3.cell? ⟨k2.heap.size, 5, none⟩ = some (.int .i64 0) := (h.cell_far ⟨k2.heap.size, 5, none⟩ (by first | (simp; done) | (simp; omega) | omega) (by simp; omega)).trans (by go_simp)
  have b6 : k3.cell? ⟨k2.heap.size, 6, none⟩ = some (.int .i64 0) := (h.cell_far ⟨k2.heap.size, 6, none⟩ (by first | (simp; done) | (simp; omega) | omega) (by simp; omega)).trans (by go_simp)
  have b7 : k3.cell? ⟨k2.heap.size, 7, none⟩ = some (.string ⟨#[]⟩) := (h.cell_far ⟨k2.heap.size, 7, none⟩ (by first | (simp; done) | (simp; omega) | omega) (by simp; omega)).trans (by go_simp)
  have b8 : k3.cell? ⟨k2.heap.size, 8, none⟩ = some (.int .i64 0) := (h.cell_far ⟨k2.heap.size, 8, none⟩ (by first | (simp; done) | (simp; omega) | omega) (by simp; omega)).trans (by go_simp)
  have bf0 : k3.frozen? ⟨k2.heap.size, 0, none⟩ = false := (h.frozen_far ⟨k2.heap.size, 0, none⟩ (by first | (simp; done) | (simp; omega) | omega) (by simp; omega)).trans (by go_simp)
  have bf1 : k3.frozen? ⟨k2.heap.size, 1, none⟩ = false := (h.frozen_far ⟨k2.heap.size, 1, none⟩ (by first | (simp; done) | (simp; omega) | omega) (by simp; omega)).trans (by go_simp)
  have bf2 : k3.frozen? ⟨k2.heap.size, 2, none⟩ = false := (h.frozen_far ⟨k2.heap.size, 2, none⟩ (by first | (simp; done) | (simp; omega) | omega) (by simp; omega)).trans (by go_simp)
  have bf3 : k3.frozen? ⟨k2.heap.size, 3, none⟩ = false := (h.frozen_far ⟨k2.heap.size, 3, none⟩ (by first | (simp; done) | (simp; omega) | omega) (by simp; omega)).trans (by go_simp)
  have bf4 : k3.frozen? ⟨k2.heap.size, 4, none⟩ = false := (h.frozen_far ⟨k2.heap.size, 4, none⟩ (by first | (simp; done) | (simp; omega) | omega) (by simp; omega)).trans (by go_simp)
  have bf5 : k3.frozen? ⟨k2.heap.size, 5, none⟩ = false := (h.frozen_far ⟨k2.heap.size, 5, none⟩ (by first | (simp; done) | (simp; omega) | omega) (by simp; omega)).trans (by go_simp)
  have bf6 : k3.frozen? ⟨k2.heap.size, 6, none⟩ = false := (h.frozen_far ⟨k2.heap.size, 6, none⟩ (by first | (simp; done) | (simp; omega) | omega) (by simp; omega)).trans (by go_simp)
  have bf7 : k3.frozen? ⟨k2.heap.size, 7, none⟩ = false := (h.frozen_far ⟨k2.heap.size, 7, none⟩ (by first | (simp; done) | (simp; omega) | omega) (by simp; omega)).trans (by go_simp)
  have bf8 : k3.frozen? ⟨k2.heap.size, 8, none⟩ = false := (h.frozen_far ⟨k2.heap.size, 8, none⟩ (by first | (simp; done) | (simp; omega) | omega) (by simp; omega)).trans (by go_simp)
  clear r0 r1 r2 r3 r4 r5 r6 r7 r8 rf0 rf1 rf2 rf3 rf4 rf5 rf6 rf7 rf8
  have r0 := r0N; clear r0N
  have r1 := r1N; clear r1N
  have r2 := r2N; clear r2N
  have r3 := r3N; clear r3N
  have r4 := r4N; clear r4N
  have r5 := r5N; clear r5N
  have r6 := r6N; clear r6N
  have r7 := r7N; clear r7N
  have r8 := r8N; clear r8N
  have rf0 := rf0N; clear rf0N
  have rf1 := rf1N; clear rf1N
  have rf2 := rf2N; clear rf2N
  have rf3 := rf3N; clear rf3N
  have rf4 := rf4N; clear rf4N
  have rf5 := rf5N; clear rf5N
  have rf6 := rf6N; clear rf6N
  have rf7 := rf7N; clear rf7N
  have rf8 := rf8N; clear rf8N
  have : w.heap.size < k3.heap.size := by omega
  have : k2.heap.size < k3.heap.size := by omega
  clear h
  have HRZ := Lib.hid hr; clear hr HR2
  have hg2 : w.heap.size < k3.heap.size := by omega
  go_wp2
  refine body_world (fun W => W.cell? ⟨w.heap.size, 0, none⟩ = some (.int .i64 1) ∧ W.cell? ⟨w.heap.size, 1, none⟩ = some (.string key) ∧ W.cell? ⟨w.heap.size, 2, none⟩ = some (.int .i64 vk) ∧ W.cell? ⟨w.heap.size, 3, none⟩ = some (.int .i64 vn) ∧ W.cell? ⟨w.heap.size, 4, none⟩ = some (.string vs) ∧ W.cell? ⟨w.heap.size, 5, none⟩ = some (.int .i64 0) ∧ W.cell? ⟨w.heap.size, 6, none⟩ = some (.int .i64 0) ∧ W.cell? ⟨w.heap.size, 7, none⟩ = some (.string ⟨#[]⟩) ∧ W.cell? ⟨w.heap.size, 8, none⟩ = some (.int .i64 0) ∧ Rdr W g B l3 ∧ w.grownBy W (some g)) ⟨by go_simp, by go_simp, by go_simp, by go_simp, by go_simp, by go_simp, by go_simp, by go_simp, by go_simp, rdr_then HRZ.out (by
      repeat' (first | with_reducible exact Below.refl _ _ | (with_reducible refine Below.alloc ?_ ?_ _) | (with_reducible refine Below.setCell ?_ ?_ _) | exact (by first | (simp; done) | (simp; omega) | omega))), grown_then hb (by
      repeat' (first | with_reducible exact Below.refl _ _ | (with_reducible refine Below.alloc ?_ ?_ _) | (with_reducible refine Below.setCell ?_ ?_ _) | exact (by first | (simp; done) | (simp; omega) | omega)))⟩ ?_
  rintro W ⟨q0, q1, q2, q3, q4, q5, q6, q7, q8, hR, hG⟩
  exact bodyPost_ret (v := .agg #[.int .i64 1, .string key, .int .i64 vk, .int .i64 vn, .string vs, .int .i64 0, .int .i64 0, .string ⟨#[]⟩, .int .i64 0]) (by simp [results, Try.results59, go_sem, q0, q1, q2, q3, q4, q5, q6, q7, q8]) rfl ⟨rfl, hR, hG⟩
set_option maxHeartbeats 400000 in
theorem rop_4 (g B : Nat) (l l1 l2 : List UInt8) (key : ByteArray) (w : World) (hr : Rdr w g B l) (hl : l.length ≤ 1000000) (e1 : rNum l = (4, l1)) (e2 : rTxt l1 = (key, l2)) (n : Int) (l3 : List UInt8) (e3 : rNum l2 = (n, l3)) :
    Calls Try.prog 59 #[.pointer (some ⟨g, 0, none⟩)] w (RdOut g B (.agg #[.int .i64 4, .string key, .int .i64 0, .int .i64 0, .string ⟨#[]⟩, .int .i64 0, .int .i64 0, .string ⟨#[]⟩, .int .i64 n]) l3 w) := by
  have n1 : l1.length ≤ l.length := by have := rNum_le l; rw [e1] at this; exact this
  have n2 : l2.length ≤ l1.length := by have := rTxt_le l1; rw [e2] at this; exact this
  have hgz : g < w.heap.size := by obtain ⟨_, _, _, _, _, _, h⟩ := hr; exact h
  have hBg : B ≤ g := by obtain ⟨_, _, _, _, _, h, _⟩ := hr; exact h
  have hb := World.grownBy.refl w (some g)
  have E3 := Lib.hid e3; clear e3
  have E1 := Lib.hid e1; clear e1
  have E2 := Lib.hid e2; clear e2
  have HR := Lib.hid hr; clear hr
  go_enter Try.func59, Try.ntmps59
  go_wp2_with fail
  refine (rnum_to g B l l1 4 _ (rdr_then HR.out (by refine Below.alloc (Below.refl _ _) ?_ _; omega)) (by omega) E1.out).mono ?_
  rintro e k1 ⟨rfl, hr, h⟩
  replace hb : w.grownBy k1 (some g) := by
    refine grown_trans (grown_then hb ?_) h
    repeat' (first | with_reducible exact Below.refl _ _ | (with_reducible refine Below.alloc ?_ ?_ _) | (with_reducible refine Below.setCell ?_ ?_ _) | exact (by first | (simp; done) | (simp; omega) | omega))
  have hz := h.size
  try simp at hz
  have r0 : k1.cell? ⟨w.heap.size, 0, none⟩ = some (.int .i64 0) := (h.cell_far ⟨w.heap.size, 0, none⟩ (by first | (simp; done) | (simp; omega) | omega) (by simp; omega)).trans (by go_simp)
  have r1 : k1.cell? ⟨w.heap.size, 1, none⟩ = some (.string ⟨#[]⟩) := (h.cell_far ⟨w.heap.size, 1, none⟩ (by first | (simp; done) | (simp; omega) | omega) (by simp; omega)).trans (by go_simp)
  have r2 : k1.cell? ⟨w.heap.size, 2, none⟩ = some (.int .i64 0) := (h.cell_far ⟨w.heap.size, 2, none⟩ (by first | (simp; done) | (simp; omega) | omega) (by simp; omega)).trans (by go_simp)
  have r3 : k1.cell? ⟨w.heap.size, 3, none⟩ = some (.int .i64 0) := (h.cell_far ⟨w.heap.size, 3, none⟩ (by first | (simp; done) | (simp; omega) | omega) (by simp; omega)).trans (by go_simp)
  have r4 : k1.cell? ⟨w.heap.size, 4, none⟩ = some (.string ⟨#[]⟩) := (h.cell_far ⟨w.heap.size, 4, none⟩ (by first | (simp; done) | (simp; omega) | omega) (by simp; omega)).trans (by go_simp)
  have r5 : k1.cell? ⟨w.heap.size, 5, none⟩ = some (.int .i64 0) := (h.cell_far ⟨w.heap.size, 5, none⟩ (by first | (simp; done) | (simp; omega) | omega) (by simp; omega)).trans (by go_simp)
  have r6 : k1.cell? ⟨w.heap.size, 6, none⟩ = some (.int .i64 0) := (h.cell_far ⟨w.heap.size, 6, none⟩ (by first | (simp; done) | (simp; omega) | omega) (by simp; omega)).trans (by go_simp)
  have r7 : k1.cell? ⟨w.heap.size, 7, none⟩ = some (.string ⟨#[]⟩) := (h.cell_far ⟨w.heap.size, 7, none⟩ (by first | (simp; done) | (simp; omega) | omega) (by simp; omega)).trans (by go_simp)
  have r8 : k1.cell? ⟨w.heap.size, 8, none⟩ = some (.int .i64 0) := (h.cell_far ⟨w.heap.size, 8, none⟩ (by first | (simp; done) | (simp; omega) | omega) (by simp; omega)).trans (by go_simp)
  have rf0 : k1.frozen? ⟨w.heap.size, 0, none⟩ = false := (h.frozen_far ⟨w.heap.size, 0, none⟩ (by first | (simp; done) | (simp; omega) | omega) (by simp; omega)).trans (by go_simp)
  have rf1 : k1.frozen? ⟨w.heap.size, 1, none⟩ = false := (h.frozen_far ⟨w.heap.size, 1, none⟩ (by first | (simp; done) | (simp; omega) | omega) (by simp; omega)).trans (by go_simp)
  have rf2 : k1.frozen? ⟨w.heap.size, 2, none⟩ = false := (h.frozen_far ⟨w.heap.size, 2, none⟩ (by first | (simp; done) | (simp; omega) | omega) (by simp; omega)).trans (by go_simp)
  have rf3 : k1.frozen? ⟨w.heap.size, 3, none⟩ = false := (h.frozen_far ⟨w.heap.size, 3, none⟩ (by first | (simp; done) | (simp; omega) | omega) (by simp; omega)).trans (by go_simp)
  have rf4 : k1.frozen? ⟨w.heap.size, 4, none⟩ = false := (h.frozen_far ⟨w.heap.size, 4, none⟩ (by first | (simp; done) | (simp; omega) | omega) (by simp; omega)).trans (by go_simp)
  have rf5 : k1.frozen? ⟨w.heap.size, 5, none⟩ = false := (h.frozen_far ⟨w.heap.size, 5, none⟩ (by first | (simp; done) | (simp; omega) | omega) (by simp; omega)).trans (by go_simp)
  have rf6 : k1.frozen? ⟨w.heap.size, 6, none⟩ = false := (h.frozen_far ⟨w.heap.size, 6, none⟩ (by first | (simp; done) | (simp; omega) | omega) (by simp; omega)).trans (by go_simp)
  have rf7 : k1.frozen? ⟨w.heap.size, 7, none⟩ = false := (h.frozen_far ⟨w.heap.size, 7, none⟩ (by first | (simp; done) | (simp; omega) | omega) (by simp; omega)).trans (by go_simp)
  have rf8 : k1.frozen? ⟨w.heap.size, 8, none⟩ = false := (h.frozen_far ⟨w.heap.size, 8, none⟩ (by first | (simp; done) | (simp; omega) | omega) (by simp; omega)).trans (by go_simp)
  have : w.heap.size < k1.heap.size := by omega
  clear h
  have HR1 := Lib.hid hr; clear hr HR
  go_wp2_with fail
  refine (rtxt_to g B l1 l2 key _ HR1.out (by omega) E2.out).mono ?_
  rintro e k2 ⟨rfl, hr, h⟩
  replace hb : w.grownBy k2 (some g) := by
    refine grown_trans (grown_then hb ?_) h
    repeat' (first | with_reducible exact Below.refl _ _ | (with_reducible refine Below.alloc ?_ ?_ _) | (with_reducible refine Below.setCell ?_ ?_ _) | exact (by first | (simp; done) | (simp; omega) | omega))
  have hz := h.size
  try simp at hz
  have r0N : k2.cell? ⟨w.heap.size, 0, none⟩ = some (.int .i64 0) := (h.cell_far ⟨w.heap.size, 0, none⟩ (by first | (simp; done) | (simp; omega) | omega) (by simp; omega)).trans (by go_simp)
  have r1N : k2.cell? ⟨w.heap.size, 1, none⟩ = some (.string ⟨#[]⟩) := (h.cell_far ⟨w.heap.size, 1, none⟩ (by first | (simp; done) | (simp; omega) | omega) (by simp; omega)).trans (by go_simp)
  have r2N : k2.cell? ⟨w.heap.size, 2, none⟩ = some (.int .i64 0) := (h.cell_far ⟨w.heap.size, 2, none⟩ (by first | (simp; done) | (simp; omega) | omega) (by simp; omega)).trans (by go_simp)
  have r3N : k2.cell? ⟨w.heap.size, 3, none⟩ = some (.int .i64 0) := (h.cell_far ⟨w.heap.size, 3, none⟩ (by first | (simp; done) | (simp; omega) | omega) (by simp; omega)).trans (by go_simp)
  have r4N : k2.cell? ⟨w.heap.size, 4, none⟩ = some (.string ⟨#[]⟩) := (h.cell_far ⟨w.heap.size, 4, none⟩ (by first | (simp; done) | (simp; omega) | omega) (by simp; omega)).trans (by go_simp)
  have r5N : k2.cell? ⟨w.heap.size, 5, none⟩ = some (.int .i64 0) := (h.cell_far ⟨w.heap.size, 5, none⟩ (by first | (simp; done) | (simp; omega) | omega) (by simp; omega)).trans (by go_simp)
  have r6N : k2.cell? ⟨w.heap.size, 6, none⟩ = some (.int .i64 0) := (h.cell_far ⟨w.heap.size, 6, none⟩ (by first | (simp; done) | (simp; omega) | omega) (by simp; omega)).trans (by go_simp)
  have r7N : k2.cell? ⟨w.heap.size, 7, none⟩ = some (.string ⟨#[]⟩) := (h.cell_far ⟨w.heap.size, 7, none⟩ (by first | (simp; done) | (simp; omega) | omega) (by simp; omega)).trans (by go_simp)
  have r8N : k2.cell? ⟨w.heap.size, 8, none⟩ = some (.int .i64 0) := (h.cell_far ⟨w.heap.size, 8, none⟩ (by first | (simp; done) | (simp; omega) | omega) (by simp; omega)).trans (by go_simp)
  have rf0N : k2.frozen? ⟨w.heap.size, 0, none⟩ = false := (h.frozen_far ⟨w.heap.size, 0, none⟩ (by first | (simp; done) | (simp; omega) | omega) (by simp; omega)).trans (by go_simp)
  have rf1N : k2.frozen? ⟨w.heap.size, 1, none⟩ = false := (h.frozen_far ⟨w.heap.size, 1, none⟩ (by first | (simp; done) | (simp; omega) | omega) (by simp; omega)).trans (by go_simp)
  have rf2N : k2.frozen? ⟨w.heap.size, 2, none⟩ = false := (h.frozen_far ⟨w.heap.size, 2, none⟩ (by first | (simp; done) | (simp; omega) | omega) (by simp; omega)).trans (by go_simp)
  have rf3N : k2.frozen? ⟨w.heap.size, 3, none⟩ = false := (h.frozen_far ⟨w.heap.size, 3, none⟩ (by first | (simp; done) | (simp; omega) | omega) (by simp; omega)).trans (by go_simp)
  have rf4N : k2.frozen? ⟨w.heap.size, 4, none⟩ = false := (h.frozen_far ⟨w.heap.size, 4, none⟩ (by first | (simp; done) | (simp; omega) | omega) (by simp; omega)).trans (by go_simp)
  have rf5N : k2.frozen? ⟨w.heap.size, 5, none⟩ = false := (h.frozen_far ⟨w.heap.size, 5, none⟩ (by first | (simp; done) | (simp; omega) | omega) (by simp; omega)).trans (by go_simp)
  have rf6N : k2.frozen? ⟨w.heap.size, 6, none⟩ = false := (h.frozen_far ⟨w.heap.size, 6, none⟩ (by first | (simp; done) | (simp; omega) | omega) (by simp; omega)).trans (by go_simp)
  have rf7N : k2.frozen? ⟨w.heap.size, 7, none⟩ = false := (h.frozen_far ⟨w.heap.size, 7, none⟩ (by first | (simp; done) | (simp; omega) | omega) (by simp; omega)).trans (by go_simp)
  have rf8N : k2.frozen? ⟨w.heap.size, 8, none⟩ = false := (h.frozen_far ⟨w.heap.size, 8, none⟩ (by first | (simp; done) | (simp; omega) | omega) (by simp; omega)).trans (by go_simp)
  clear r0 r1 r2 r3 r4 r5 r6 r7 r8 rf0 rf1 rf2 rf3 rf4 rf5 rf6 rf7 rf8
  have r0 := r0N; clear r0N
  have r1 := r1N; clear r1N
  have r2 := r2N; clear r2N
  have r3 := r3N; clear r3N
  have r4 := r4N; clear r4N
  have r5 := r5N; clear r5N
  have r6 := r6N; clear r6N
  have r7 := r7N; clear r7N
  have r8 := r8N; clear r8N
  have rf0 := rf0N; clear rf0N
  have rf1 := rf1N; clear rf1N
  have rf2 := rf2N; clear rf2N
  have rf3 := rf3N; clear rf3N
  have rf4 := rf4N; clear rf4N
  have rf5 := rf5N; clear rf5N
  have rf6 := rf6N; clear rf6N
  have rf7 := rf7N; clear rf7N
  have rf8 := rf8N; clear rf8N
  have : w.heap.size < k2.heap.size := by omega
  clear h
  have HR2 := Lib.hid hr; clear hr HR1
  go_wp2_with fail
  refine (rnum_to g B l2 l3 n _ (rdr_then HR2.out (by refine Below.alloc (Below.refl _ _) ?_ _; omega)) (by omega) E3.out).mono ?_
  rintro e k3 ⟨rfl, hr, h⟩
  replace hb : w.grownBy k3 (some g) := by
    refine grown_trans (grown_then hb ?_) h
    repeat' (first | with_reducible exact Below.refl _ _ | (with_reducible refine Below.alloc ?_ ?_ _) | (with_reducible refine Below.setCell ?_ ?_ _) | exact (by first | (simp; done) | (simp; omega) | omega))
  have hz := h.size
  try simp at hz
  have r0N : k3.cell? ⟨w.heap.size, 0, none⟩ = some (.int .i64 0) := (h.cell_far ⟨w.heap.size, 0, none⟩ (by first | (simp; done) | (simp; omega) | omega) (by simp; omega)).trans (by go_simp)
  have r1N : k3.cell? ⟨w.heap.size, 1, none⟩ = some (.string ⟨#[]⟩) := (h.cell_far ⟨w.heap.size, 1, none⟩ (by first | (simp; done) | (simp; omega) | omega) (by simp; omega)).trans (by go_simp)
  have r2N : k3.cell? ⟨w.heap.size, 2, none⟩ = some (.int .i64 0) := (h.cell_far ⟨w.heap.size, 2, none⟩ (by first | (simp; done) | (simp; omega) | omega) (by simp; omega)).trans (by go_simp)
  have r3N : k3.cell? ⟨w.heap.size, 3, none⟩ = some (.int .i64 0) := (h.cell_far ⟨w.heap.size, 3, none⟩ (by first | (simp; done) | (simp; omega) | omega) (by simp; omega)).trans (by go_simp)
  have r4N : k3.cell? ⟨w.heap.size, 4, none⟩ = some (.string ⟨#[]⟩) := (h.cell_far ⟨w.heap.size, 4, none⟩ (by first | (simp; done) | (simp; omega) | omega) (by simp; omega)).trans (by go_simp)
  have r5N : k3.cell? ⟨w.heap.size, 5, none⟩ = some (.int .i64 0) := (h.cell_far ⟨w.heap.size, 5, none⟩ (by first | (simp; done) | (simp; omega) | omega) (by simp; omega)).trans (by go_simp)
  have r6N : k3.cell? ⟨w.heap.size, 6, none⟩ = some (.int .i64 0) := (h.cell_far ⟨w.heap.size, 6, none⟩ (by first | (simp; done) | (simp; omega) | omega) (by simp; omega)).trans (by go_simp)
  have r7N : k3.cell? ⟨w.heap.size, 7, none⟩ = some (.string ⟨#[]⟩) := (h.cell_far ⟨w.heap.size, 7, none⟩ (by first | (simp; done) | (simp; omega) | omega) (by simp; omega)).trans (by go_simp)
  have r8N : k3.cell? ⟨w.heap.size, 8, none⟩ = some (.int .i64 0) := (h.cell_far ⟨w.heap.size, 8, none⟩ (by first | (simp; done) | (simp; omega) | omega) (by simp; omega)).trans (by go_simp)
  have rf0N : k3.frozen? ⟨w.heap.size, 0, none⟩ = false := (h.frozen_far ⟨w.heap.size, 0, none⟩ (by first | (simp; done) | (simp; omega) | omega) (by simp; omega)).trans (by go_simp)
  have rf1N : k3.frozen? ⟨w.heap.size, 1, none⟩ = false := (h.frozen_far ⟨w.heap.size, 1, none⟩ (by first | (simp; done) | (simp; omega) | omega) (by simp; omega)).trans (by go_simp)
  have rf2N : k3.frozen? ⟨w.heap.size, 2, none⟩ = false := (h.frozen_far ⟨w.heap.size, 2, none⟩ (by first | (simp; done) | (simp; omega) | omega) (by simp; omega)).trans (by go_simp)
  have rf3N : k3.frozen? ⟨w.heap.size, 3, none⟩ = false := (h.frozen_far ⟨w.heap.size, 3, none⟩ (by first | (simp; done) | (simp; omega) | omega) (by simp; omega)).trans (by go_simp)
  have rf4N : k3.frozen? ⟨w.heap.size, 4, none⟩ = false := (h.frozen_far ⟨w.heap.size, 4, none⟩ (by first | (simp; done) | (simp; omega) | omega) (by simp; omega)).trans (by go_simp)
  have rf5N : k3.frozen? ⟨w.heap.size, 5, none⟩ = false := (h.frozen_far ⟨w.heap.size, 5, none⟩ (by first | (simp; done) | (simp; omega) | omega) (by simp; omega)).trans (by go_simp)
  have rf6N : k3.frozen? ⟨w.heap.size, 6, none⟩ = false := (h.frozen_far ⟨w.heap.size, 6, none⟩ (by first | (simp; done) | (simp; omega) | omega) (by simp; omega)).trans (by go_simp)
  have rf7N : k3.frozen? ⟨w.heap.size, 7, none⟩ = false := (h.frozen_far ⟨w.heap.size, 7, none⟩ (by first | (simp; done) | (simp; omega) | omega) (by simp; omega)).trans (by go_simp)
  have rf8N : k3.frozen? ⟨w.heap.size, 8, none⟩ = false := (h.frozen_far ⟨w.heap.size, 8, none⟩ (by first | (simp; done) | (simp; omega) | omega) (by simp; omega)).trans (by go_simp)
  have b0 : k3.cell? ⟨k2.heap.size, 0, none⟩ = some (.int .i64 4) := (h.cell_far ⟨k2.heap.size, 0, none⟩ (by first | (simp; done) | (simp; omega) | omega) (by simp; omega)).trans (by go_simp)
  have b1 : k3.cell? ⟨k2.heap.size, 1, none⟩ = some (.string key) := (h.cell_far ⟨k2.heap.size, 1, none⟩ (by first | (simp; done) | (simp; omega) | omega) (by simp; omega)).trans (by go_simp)
  have b2 : k3.cell? ⟨k2.heap.size, 2, none⟩ = some (.int .i64 0) := (h.cell_far ⟨k2.heap.size, 2, none⟩ (by first | (simp; done) | (simp; omega) | omega) (by simp; omega)).trans (by go_simp)
  have b3 : k3.cell? ⟨k2.heap.size, 3, none⟩ = some (.int .i64 0) := (h.cell_far ⟨k2.heap.size, 3, none⟩ (by first | (simp; done) | (simp; omega) | omega) (by simp; omega)).trans (by go_simp)
  have b4 : k3.cell? ⟨k2.heap.size, 4, none⟩ = some (.string ⟨#[]⟩) := (h.cell_far ⟨k2.heap.size, 4, none⟩ (by first | (simp; done) | (simp; omega) | omega) (by simp; omega)).trans (by go_simp)
  have b5 : k3.cell? ⟨k2.heap.size, 5, none⟩ = some (.int .i64 0) := (h.cell_far ⟨k2.heap.size, 5, none⟩ (by first | (simp; done) | (simp; omega) | omega) (by simp; omega)).trans (by go_simp)
  have b6 : k3.cell? ⟨k2.heap.size, 6, none⟩ = some (.int .i64 0) := (h.cell_far ⟨k2.heap.size, 6, none⟩ (by first | (simp; done) | (simp; omega) | omega) (by simp; omega)).trans (by go_simp)
  have b7 : k3.cell? ⟨k2.heap.size, 7, none⟩ = some (.string ⟨#[]⟩) := (h.cell_far ⟨k2.heap.size, 7, none⟩ (by first | (simp; done) | (simp; omega) | omega) (by simp; omega)).trans (by go_simp)
  have b8 : k3.cell? ⟨k2.heap.size, 8, none⟩ = some (.int .i64 0) := (h.cell_far ⟨k2.heap.size, 8, none⟩ (by first | (simp; done) | (simp; omega) | omega) (by simp; omega)).trans (by go_simp)
  have bf0 : k3.frozen? ⟨k2.heap.size, 0, none⟩ = false := (h.frozen_far ⟨k2.heap.size, 0, none⟩ (by first | (simp; done) | (simp; omega) | omega) (by simp; omega)).trans (by go_simp)
  have bf1 : k3.frozen? ⟨k2.heap.size, 1, none⟩ = false := (h.frozen_far ⟨k2.heap.size, 1, none⟩ (by first | (simp; done) | (simp; omega) | omega) (by simp; omega)).trans (by go_simp)
  have bf2 : k3.frozen? ⟨k2.heap.size, 2, none⟩ = false := (h.frozen_far ⟨k2.heap.size, 2, none⟩ (by first | (simp; done) | (simp; omega) | omega) (by simp; omega)).trans (by go_simp)
  have bf3 : k3.frozen? ⟨k2.heap.size, 3, none⟩ = false := (h.frozen_far ⟨k2.heap.size, 3, none⟩ (by first | (simp; done) | (simp; omega) | omega) (by simp; omega)).trans (by go_simp)
  have bf4 : k3.frozen? ⟨k2.heap.size, 4, none⟩ = false := (h.frozen_far ⟨k2.heap.size, 4, none⟩ (by first | (simp; done) | (simp; omega) | omega) (by simp; omega)).trans (by go_simp)
  have bf5 : k3.frozen? ⟨k2.heap.size, 5, none⟩ = false := (h.frozen_far ⟨k2.heap.size, 5, none⟩ (by first | (simp; done) | (simp; omega) | omega) (by simp; omega)).trans (by go_simp)
  have bf6 : k3.frozen? ⟨k2.heap.size, 6, none⟩ = false := (h.frozen_far ⟨k2.heap.size, 6, none⟩ (by first | (simp; done) | (simp; omega) | omega) (by simp; omega)).trans (by go_simp)
  have bf7 : k3.frozen? ⟨k2.heap.size, 7, none⟩ = false := (h.frozen_far ⟨k2.heap.size, 7, none⟩ (by first | (simp; done) | (simp; omega) | omega) (by simp; omega)).trans (by go_simp)
  have bf8 : k3.frozen? ⟨k2.heap.size, 8, none⟩ = false := (h.frozen_far ⟨k2.heap.size, 8, none⟩ (by first | (simp; done) | (simp; omega) | omega) (by simp; omega)).trans (by go_simp)
  clear r0 r1 r2 r3 r4 r5 r6 r7 r8 rf0 rf1 rf2 rf3 rf4 rf5 rf6 rf7 rf8
  have r0 := r0N; clear r0N
  have r1 := r1N; clear r1N
  have r2 := r2N; clear r2N
  have r3 := r3N; clear r3N
  have r4 := r4N; clear r4N
  have r5 := r5N; clear r5N
  have r6 := r6N; clear r6N
  have r7 := r7N; clear r7N
  have r8 := r8N; clear r8N
  have rf0 := rf0N; clear rf0N
  have rf1 := rf1N; clear rf1N
  have rf2 := rf2N; clear rf2N
  have rf3 := rf3N; clear rf3N
  have rf4 := rf4N; clear rf4N
  have rf5 := rf5N; clear rf5N
  have rf6 := rf6N; clear rf6N
  have rf7 := rf7N; clear rf7N
  have rf8 := rf8N; clear rf8N
  have : w.heap.size < k3.heap.size := by omega
  have : k2.heap.size < k3.heap.size := by omega
  clear h
  have HRZ := Lib.hid hr; clear hr HR2
  have hg2 : w.heap.size < k3.heap.size := by omega
  go_wp2
  refine body_world (fun W => W.cell? ⟨w.heap.size, 0, none⟩ = some (.int .i64 4) ∧ W.cell? ⟨w.heap.size, 1, none⟩ = some (.string key) ∧ W.cell? ⟨w.heap.size, 2, none⟩ = some (.int .i64 0) ∧ W.cell? ⟨w.heap.size, 3, none⟩ = some (.int .i64 0) ∧ W.cell? ⟨w.heap.size, 4, none⟩ = some (.string ⟨#[]⟩) ∧ W.cell? ⟨w.heap.size, 5, none⟩ = some (.int .i64 0) ∧ W.cell? ⟨w.heap.size, 6, none⟩ = some (.int .i64 0) ∧ W.cell? ⟨w.heap.size, 7, none⟩ = some (.string ⟨#[]⟩) ∧ W.cell? ⟨w.heap.size, 8, none⟩ = some (.int .i64 n) ∧ Rdr W g B l3 ∧ w.grownBy W (some g)) ⟨by go_simp, by go_simp, by go_simp, by go_simp, by go_simp, by go_simp, by go_simp, by go_simp, by go_simp, rdr_then HRZ.out (by
      repeat' (first | with_reducible exact Below.refl _ _ | (with_reducible refine Below.alloc ?_ ?_ _) | (with_reducible refine Below.setCell ?_ ?_ _) | exact (by first | (simp; done) | (simp; omega) | omega))), grown_then hb (by
      repeat' (first | with_reducible exact Below.refl _ _ | (with_reducible refine Below.alloc ?_ ?_ _) | (with_reducible refine Below.setCell ?_ ?_ _) | exact (by first | (simp; done) | (simp; omega) | omega)))⟩ ?_
  rintro W ⟨q0, q1, q2, q3, q4, q5, q6, q7, q8, hR, hG⟩
  exact bodyPost_ret (v := .agg #[.int .i64 4, .string key, .int .i64 0, .int .i64 0, .string ⟨#[]⟩, .int .i64 0, .int .i64 0, .string ⟨#[]⟩, .int .i64 n]) (by simp [results, Try.results59, go_sem, q0, q1, q2, q3, q4, q5, q6, q7, q8]) rfl ⟨rfl, hR, hG⟩
set_option maxHeartbeats 400000 in
theorem rop_3 (g B : Nat) (l l1 l2 : List UInt8) (key : ByteArray) (w : World) (hr : Rdr w g B l) (hl : l.length ≤ 1000000) (e1 : rNum l = (3, l1)) (e2 : rTxt l1 = (key, l2)) (vk vn ok on : Int) (vs os : ByteArray) (l3 l4 : List UInt8) (e3 : rRaw l2 = (⟨vk, vn, vs⟩, l3)) (e4 : rRaw l3 = (⟨ok, on, os⟩, l4)) :
    Calls Try.prog 59 #[.pointer (some ⟨g, 0, none⟩)] w (RdOut g B (.agg #[.int .i64 3, .string key, .int .i64 vk, .int .i64 vn, .string vs, .int .i64 ok, .int .i64 on, .string os, .int .i64 0]) l4 w) := by
  have n1 : l1.length ≤ l.length := by have := rNum_le l; rw [e1] at this; exact this
  have n2 : l2.length ≤ l1.length := by have := rTxt_le l1; rw [e2] at this; exact this
  have hgz : g < w.heap.size := by obtain ⟨_, _, _, _, _, _, h⟩ := hr; exact h
  have hBg : B ≤ g := by obtain ⟨_, _, _, _, _, h, _⟩ := hr; exact h
  have hb := World.grownBy.refl w (some g)
  have n3 : l3.length ≤ l2.length := by have := rRaw_le l2; rw [e3] at this; exact this
  have E3 := Lib.hid e3; clear e3
  have E4 := Lib.hid e4; clear e4
  have E1 := Lib.hid e1; clear e1
  have E2 := Lib.hid e2; clear e2
  have HR := Lib.hid hr; clear hr
  go_enter Try.func59, Try.ntmps59
  go_wp2_with fail
  refine (rnum_to g B l l1 3 _ (rdr_then HR.out (by refine Below.alloc (Below.refl _ _) ?_ _; omega)) (by omega) E1.out).mono ?_
  rintro e k1 ⟨rfl, hr, h⟩
  replace hb : w.grownBy k1 (some g) := by
    refine grown_trans (grown_then hb ?_) h
    repeat' (first | with_reducible exact Below.refl _ _ | (with_reducible refine Below.alloc ?_ ?_ _) | (with_reducible refine Below.setCell ?_ ?_ _) | exact (by first | (simp; done) | (simp; omega) | omega))
  have hz := h.size
  try simp at hz
  have r0 : k1.cell? ⟨w.heap.size, 0, none⟩ = some (.int .i64 0) := (h.cell_far ⟨w.heap.size, 0, none⟩ (by first | (simp; done) | (simp; omega) | omega) (by simp; omega)).trans (by go_simp)
  have r1 : k1.cell? ⟨w.heap.size, 1, none⟩ = some (.string ⟨#[]⟩) := (h.cell_far ⟨w.heap.size, 1, none⟩ (by first | (simp; done) | (simp; omega) | omega) (by simp; omega)).trans (by go_simp)
  have r2 : k1.cell? ⟨w.heap.size, 2, none⟩ = some (.int .i64 0) := (h.cell_far ⟨w.heap.size, 2, none⟩ (by first | (simp; done) | (simp; omega) | omega) (by simp; omega)).trans (by go_simp)
  have r3 : k1.cell? ⟨w.heap.size, 3, none⟩ = some (.int .i64 0) := (h.cell_far ⟨w.heap.size, 3, none⟩ (by first | (simp; done) | (simp; omega) | omega) (by simp; omega)).trans (by go_simp)
  have r4 : k1.cell? ⟨w.heap.size, 4, none⟩ = some (.string ⟨#[]⟩) := (h.cell_far ⟨w.heap.size, 4, none⟩ (by first | (simp; done) | (simp; omega) | omega) (by simp; omega)).trans (by go_simp)
  have r5 : k1.cell? ⟨w.heap.size, 5, none⟩ = some (.int .i64 0) := (h.cell_far ⟨w.heap.size, 5, none⟩ (by first | (simp; done) | (simp; omega) | omega) (by simp; omega)).trans (by go_simp)
  have r6 : k1.cell? ⟨w.heap.size, 6, none⟩ = some (.int .i64 0) := (h.cell_far ⟨w.heap.size, 6, none⟩ (by first | (simp; done) | (simp; omega) | omega) (by simp; omega)).trans (by go_simp)
  have r7 : k1.cell? ⟨w.heap.size, 7, none⟩ = some (.string ⟨#[]⟩) := (h.cell_far ⟨w.heap.size, 7, none⟩ (by first | (simp; done) | (simp; omega) | omega) (by simp; omega)).trans (by go_simp)
  have r8 : k1.cell? ⟨w.heap.size, 8, none⟩ = some (.int .i64 0) := (h.cell_far ⟨w.heap.size, 8, none⟩ (by first | (simp; done) | (simp; omega) | omega) (by simp; omega)).trans (by go_simp)
  have rf0 : k1.frozen? ⟨w.heap.size, 0, none⟩ = false := (h.frozen_far ⟨w.heap.size, 0, none⟩ (by first | (simp; done) | (simp; omega) | omega) (by simp; omega)).trans (by go_simp)
  have rf1 : k1.frozen? ⟨w.heap.size, 1, none⟩ = false := (h.frozen_far ⟨w.heap.size, 1, none⟩ (by first | (simp; done) | (simp; omega) | omega) (by simp; omega)).trans (by go_simp)
  have rf2 : k1.frozen? ⟨w.heap.size, 2, none⟩ = false := (h.frozen_far ⟨w.heap.size, 2, none⟩ (by first | (simp; done) | (simp; omega) | omega) (by simp; omega)).trans (by go_simp)
  have rf3 : k1.frozen? ⟨w.heap.size, 3, none⟩ = false := (h.frozen_far ⟨w.heap.size, 3, none⟩ (by first | (simp; done) | (simp; omega) | omega) (by simp; omega)).trans (by go_simp)
  have rf4 : k1.frozen? ⟨w.heap.size, 4, none⟩ = false := (h.frozen_far ⟨w.heap.size, 4, none⟩ (by first | (simp; done) | (simp; omega) | omega) (by simp; omega)).trans (by go_simp)
  have rf5 : k1.frozen? ⟨w.heap.size, 5, none⟩ = false := (h.frozen_far ⟨w.heap.size, 5, none⟩ (by first | (simp; done) | (simp; omega) | omega) (by simp; omega)).trans (by go_simp)
  have rf6 : k1.frozen? ⟨w.heap.size, 6, none⟩ = false := (h.frozen_far ⟨w.heap.size, 6, none⟩ (by first | (simp; done) | (simp; omega) | omega) (by simp; omega)).trans (by go_simp)
  have rf7 : k1.frozen? ⟨w.heap.size, 7, none⟩ = false := (h.frozen_far ⟨w.heap.size, 7, none⟩ (by first | (simp; done) | (simp; omega) | omega) (by simp; omega)).trans (by go_simp)
  have rf8 : k1.frozen? ⟨w.heap.size, 8, none⟩ = false := (h.frozen_far ⟨w.heap.size, 8, none⟩ (by first | (simp; done) | (simp; omega) | omega) (by simp; omega)).trans (by go_simp)
  have : w.heap.size < k1.heap.size := by omega
  clear h
  have HR1 := Lib.hid hr; clear hr HR
  go_wp2_with fail
  refine (rtxt_to g B l1 l2 key _ HR1.out (by omega) E2.out).mono ?_
  rintro e k2 ⟨rfl, hr, h⟩
  replace hb : w.grownBy k2 (some g) := by
    refine grown_trans (grown_then hb ?_) h
    repeat' (first | with_reducible exact Below.refl _ _ | (with_reducible refine Below.alloc ?_ ?_ _) | (with_reducible refine Below.setCell ?_ ?_ _) | exact (by first | (simp; done) | (simp; omega) | omega))
  have hz := h.size
  try simp at hz
  have r0N : k2.cell? ⟨w.heap.size, 0, none⟩ = some (.int .i64 0) := (h.cell_far ⟨w.heap.size, 0, none⟩ (by first | (simp; done) | (simp; omega) | omega) (by simp; omega)).trans (by go_simp)
  have r1N : k2.cell? ⟨w.heap.size, 1, none⟩ = some (.string ⟨#[]⟩) := (h.cell_far ⟨w.heap.size, 1, none⟩ (by first | (simp; done) | (simp; omega) | omega) (by simp; omega)).trans (by go_simp)
  have r2N : k2.cell? ⟨w.heap.size, 2, none⟩ = some (.int .i64 0) := (h.cell_far ⟨w.heap.size, 2, none⟩ (by first | (simp; done) | (simp; omega) | omega) (by simp; omega)).trans (by go_simp)
  have r3N : k2.cell? ⟨w.heap.size, 3, none⟩ = some (.int .i64 0) := (h.cell_far ⟨w.heap.size, 3, none⟩ (by first | (simp; done) | (simp; omega) | omega) (by simp; omega)).trans (by go_simp)
  have r4N : k2.cell? ⟨w.heap.size, 4, none⟩ = some (.string ⟨#[]⟩) := (h.cell_far ⟨w.heap.size, 4, none⟩ (by first | (simp; done) | (simp; omega) | omega) (by simp; omega)).trans (by go_simp)
  have r5N : k2.cell? ⟨w.heap.size, 5, none⟩ = some (.int .i64 0) := (h.cell_far ⟨w.heap.size, 5, none⟩ (by first | (simp; done) | (simp; omega) | omega) (by simp; omega)).trans (by go_simp)
  have r6N : k2.cell? ⟨w.heap.size, 6, none⟩ = some (.int .i64 0) := (h.cell_far ⟨w.heap.size, 6, none⟩ (by first | (simp; done) | (simp; omega) | omega) (by simp; omega)).trans (by go_simp)
  have r7N : k2.cell? ⟨w.heap.size, 7, none⟩ = some (.string ⟨#[]⟩) := (h.cell_far ⟨w.heap.size, 7, none⟩ (by first | (simp; done) | (simp; omega) | omega) (by simp; omega)).trans (by go_simp)
  have r8N : k2.cell? ⟨w.heap.size, 8, none⟩ = some (.int .i64 0) := (h.cell_far ⟨w.heap.size, 8, none⟩ (by first | (simp; done) | (simp; omega) | omega) (by simp; omega)).trans (by go_simp)
  have rf0N : k2.frozen? ⟨w.heap.size, 0, none⟩ = false := (h.frozen_far ⟨w.heap.size, 0, none⟩ (by first | (simp; done) | (simp; omega) | omega) (by simp; omega)).trans (by go_simp)
  have rf1N : k2.frozen? ⟨w.heap.size, 1, none⟩ = false := (h.frozen_far ⟨w.heap.size, 1, none⟩ (by first | (simp; done) | (simp; omega) | omega) (by simp; omega)).trans (by go_simp)
  have rf2N : k2.frozen? ⟨w.heap.size, 2, none⟩ = false := (h.frozen_far ⟨w.heap.size, 2, none⟩ (by first | (simp; done) | (simp; omega) | omega) (by simp; omega)).trans (by go_simp)
  have rf3N : k2.frozen? ⟨w.heap.size, 3, none⟩ = false := (h.frozen_far ⟨w.heap.size, 3, none⟩ (by first | (simp; done) | (simp; omega) | omega) (by simp; omega)).trans (by go_simp)
  have rf4N : k2.frozen? ⟨w.heap.size, 4, none⟩ = false := (h.frozen_far ⟨w.heap.size, 4, none⟩ (by first | (simp; done) | (simp; omega) | omega) (by simp; omega)).trans (by go_simp)
  have rf5N : k2.frozen? ⟨w.heap.size, 5, none⟩ = false := (h.frozen_far ⟨w.heap.size, 5, none⟩ (by first | (simp; done) | (simp; omega) | omega) (by simp; omega)).trans (by go_simp)
  have rf6N : k2.frozen? ⟨w.heap.size, 6, none⟩ = false := (h.frozen_far ⟨w.heap.size, 6, none⟩ (by first | (simp; done) | (simp; omega) | omega) (by simp; omega)).trans (by go_simp)
  have rf7N : k2.frozen? ⟨w.heap.size, 7, none⟩ = false := (h.frozen_far ⟨w.heap.size, 7, none⟩ (by first | (simp; done) | (simp; omega) | omega) (by simp; omega)).trans (by go_simp)
  have rf8N : k2.frozen? ⟨w.heap.size, 8, none⟩ = false := (h.frozen_far ⟨w.heap.size, 8, none⟩ (by first | (simp; done) | (simp; omega) | omega) (by simp; omega)).trans (by go_simp)
  clear r0 r1 r2 r3 r4 r5 r6 r7 r8 rf0 rf1 rf2 rf3 rf4 rf5 rf6 rf7 rf8
  have r0 := r0N; clear r0N
  have r1 := r1N; clear r1N
  have r2 := r2N; clear r2N
  have r3 := r3N; clear r3N
  have r4 := r4N; clear r4N
  have r5 := r5N; clear r5N
  have r6 := r6N; clear r6N
  have r7 := r7N; clear r7N
  have r8 := r8N; clear r8N
  have rf0 := rf0N; clear rf0N
  have rf1 := rf1N; clear rf1N
  have rf2 := rf2N; clear rf2N
  have rf3 := rf3N; clear rf3N
  have rf4 := rf4N; clear rf4N
  have rf5 := rf5N; clear rf5N
  have rf6 := rf6N; clear rf6N
  have rf7 := rf7N; clear rf7N
  have rf8 := rf8N; clear rf8N
  have : w.heap.size < k2.heap.size := by omega
  clear h
  have HR2 := Lib.hid hr; clear hr HR1
  go_wp2_with fail
  refine (rraw_to g B l2 l3 vk vn vs _ (rdr_then HR2.out (by refine Below.alloc (Below.refl _ _) ?_ _; omega)) (by omega) E3.out).mono ?_
  rintro e k3 ⟨rfl, hr, h⟩
  replace hb : w.grownBy k3 (some g) := by
    refine grown_trans (grown_then hb ?_) h
    repeat' (first | with_reducible exact Below.refl _ _ | (with_reducible refine Below.alloc ?_ ?_ _) | (with_reducible refine Below.setCell ?_ ?_ _) | exact (by first | (simp; done) | (simp; omega) | omega))
  have hz := h.size
  try simp at hz
  have r0N : k3.cell? ⟨w.heap.size, 0, none⟩ = some (.int .i64 0) := (h.cell_far ⟨w.heap.size, 0, none⟩ (by first | (simp; done) | (simp; omega) | omega) (by simp; omega)).trans (by go_simp)
  have r1N : k3.cell? ⟨w.heap.size, 1, none⟩ = some (.string ⟨#[]⟩) := (h.cell_far ⟨w.heap.size, 1, none⟩ (by first | (simp; done) | (simp; omega) | omega) (by simp; omega)).trans (by go_simp)
  have r2N : k3.cell? ⟨w.heap.size, 2, none⟩ = some (.int .i64 0) := (h.cell_far ⟨w.heap.size, 2, none⟩ (by first | (simp; done) | (simp; omega) | omega) (by simp; omega)).trans (by go_simp)
  have r3N : k3.cell? ⟨w.heap.size, 3, none⟩ = some (.int .i64 0) := (h.cell_far ⟨w.heap.size, 3, none⟩ (by first | (simp; done) | (simp; omega) | omega) (by simp; omega)).trans (by go_simp)
  have r4N : k3.cell? ⟨w.heap.size, 4, none⟩ = some (.string ⟨#[]⟩) := (h.cell_far ⟨w.heap.size, 4, none⟩ (by first | (simp; done) | (simp; omega) | omega) (by simp; omega)).trans (by go_simp)
  have r5N : k3.cell? ⟨w.heap.size, 5, none⟩ = some (.int .i64 0) := (h.cell_far ⟨w.heap.size, 5, none⟩ (by first | (simp; done) | (simp; omega) | omega) (by simp; omega)).trans (by go_simp)
  have r6N : k3.cell? ⟨w.heap.size, 6, none⟩ = some (.int .i64 0) := (h.cell_far ⟨w.heap.size, 6, none⟩ (by first | (simp; done) | (simp; omega) | omega) (by simp; omega)).trans (by go_simp)
  have r7N : k3.cell? ⟨w.heap.size, 7, none⟩ = some (.string ⟨#[]⟩) := (h.cell_far ⟨w.heap.size, 7, none⟩ (by first | (simp; done) | (simp; omega) | omega) (by simp; omega)).trans (by go_simp)
  have r8N : k3.cell? ⟨w.heap.size, 8, none⟩ = some (.int .i64 0) := (h.cell_far ⟨w.heap.size, 8, none⟩ (by first | (simp; done) | (simp; omega) | omega) (by simp; omega)).trans (by go_simp)
  have rf0N : k3.frozen? ⟨w.heap.size, 0, none⟩ = false := (h.frozen_far ⟨w.heap.size, 0, none⟩ (by first | (simp; done) | (simp; omega) | omega) (by simp; omega)).trans (by go_simp)
  have rf1N : k3.frozen? ⟨w.heap.size, 1, none⟩ = false := (h.frozen_far ⟨w.heap.size, 1, none⟩ (by first | (simp; done) | (simp; omega) | omega) (by simp; omega)).trans (by go_simp)
  have rf2N : k3.frozen? ⟨w.heap.size, 2, none⟩ = false := (h.frozen_far ⟨w.heap.size, 2, none⟩ (by first | (simp; done) | (simp; omega) | omega) (by simp; omega)).trans (by go_simp)
  have rf3N : k3.frozen? ⟨w.heap.size, 3, none⟩ = false := (h.frozen_far ⟨w.heap.size, 3, none⟩ (by first | (simp; done) | (simp; omega) | omega) (by simp; omega)).trans (by go_simp)
  have rf4N : k3.frozen? ⟨w.heap.size, 4, none⟩ = false := (h.frozen_far ⟨w.heap.size, 4, none⟩ (by first | (simp; done) | (simp; omega) | omega) (by simp; omega)).trans (by go_simp)
  have rf5N : k3.frozen? ⟨w.heap.size, 5, none⟩ = false := (h.frozen_far ⟨w.heap.size, 5, none⟩ (by first | (simp; done) | (simp; omega) | omega) (by simp; omega)).trans (by go_simp)
  have rf6N : k3.frozen? ⟨w.heap.size, 6, none⟩ = false := (h.frozen_far ⟨w.heap.size, 6, none⟩ (by first | (simp; done) | (simp; omega) | omega) (by simp; omega)).trans (by go_simp)
  have rf7N : k3.frozen? ⟨w.heap.size, 7, none⟩ = false := (h.frozen_far ⟨w.heap.size, 7, none⟩ (by first | (simp; done) | (simp; omega) | omega) (by simp; omega)).trans (by go_simp)
  have rf8N : k3.frozen? ⟨w.heap.size, 8, none⟩ = false := (h.frozen_far ⟨w.heap.size, 8, none⟩ (by first | (simp; done) | (simp; omega) | omega) (by simp; omega)).trans (by go_simp)
  have b0 : k3.cell? ⟨k2.heap.size, 0, none⟩ = some (.int .i64 3) := (h.cell_far ⟨k2.heap.size, 0, none⟩ (by first | (simp; done) | (simp; omega) | omega) (by simp; omega)).trans (by go_simp)
  have b1 : k3.cell? ⟨k2.heap.size, 1, none⟩ = some (.string key) := (h.cell_far ⟨k2.heap.size, 1, none⟩ (by first | (simp; done) | (simp; omega) | omega) (by simp; omega)).trans (by go_simp)
  have b2 : k3.cell? ⟨k2.heap.size, 2, none⟩ = some (.int .i64 0) := (h.cell_far ⟨k2.heap.size, 2, none⟩ (by first | (simp; done) | (simp; omega) | omega) (by simp; omega)).trans (by go_simp)
  have b3 : k3.cell? ⟨k2.heap.size, 3, none⟩ = some (.int .i64 0) := (h.cell_far ⟨k2.heap.size, 3, none⟩ (by first | (simp; done) | (simp; omega) | omega) (by simp; omega)).trans (by go_simp)
  have b4 : k3.cell? ⟨k2.heap.size, 4, none⟩ = some (.string ⟨#[]⟩) := (h.cell_far ⟨k2.heap.size, 4, none⟩ (by first | (simp; done) | (simp; omega) | omega) (by simp; omega)).trans (by go_simp)
  have b5 : k3.cell? ⟨k2.heap.size, 5, none⟩ = some (.int .i64 0) := (h.cell_far ⟨k2.heap.size, 5, none⟩ (by first | (simp; done) | (simp; omega) | omega) (by simp; omega)).trans (by go_simp)
  have b6 : k3.cell? ⟨k2.heap.size, 6, none⟩ = some (.int .i64 0) := (h.cell_far ⟨k2.heap.size, 6, none⟩ (by first | (simp; done) | (simp; omega) | omega) (by simp; omega)).trans (by go_simp)
  have b7 : k3.cell? ⟨k2.heap.size, 7, none⟩ = some (.string ⟨#[]⟩) := (h.cell_far ⟨k2.heap.size, 7, none⟩ (by first | (simp; done) | (simp; omega) | omega) (by simp; omega)).trans (by go_simp)
  have b8 : k3.cell? ⟨k2.heap.size, 8, none⟩ = some (.int .i64 0) := (h.cell_far ⟨k2.heap.size, 8, none⟩ (by first | (simp; done) | (simp; omega) | omega) (by simp; omega)).trans (by go_simp)
  have bf0 : k3.frozen? ⟨k2.heap.size, 0, none⟩ = false := (h.frozen_far ⟨k2.heap.size, 0, none⟩ (by first | (simp; done) | (simp; omega) | omega) (by simp; omega)).trans (by go_simp)
  have bf1 : k3.frozen? ⟨k2.heap.size, 1, none⟩ = false := (h.frozen_far ⟨k2.heap.size, 1, none⟩ (by first | (simp; done) | (simp; omega) | omega) (by simp; omega)).trans (by go_simp)
  have bf2 : k3.frozen? ⟨k2.heap.size, 2, none⟩ = false := (h.frozen_far ⟨k2.heap.size, 2, none⟩ (by first | (simp; done) | (simp; omega) | omega) (by simp; omega)).trans (by go_simp)
  have bf3 : k3.frozen? ⟨k2.heap.size, 3, none⟩ = false := (h.frozen_far ⟨k2.heap.size, 3, none⟩ (by first | (simp; done) | (simp; omega) | omega) (by simp; omega)).trans (by go_simp)
  have bf4 : k3.frozen? ⟨k2.heap.size, 4, none⟩ = false := (h.frozen_far ⟨k2.heap.size, 4, none⟩ (by first | (simp; done) | (simp; omega) | omega) (by simp; omega)).trans (by go_simp)
  have bf5 : k3.frozen? ⟨k2.heap.size, 5, none⟩ = false := (h.frozen_far ⟨k2.heap.size, 5, none⟩ (by first | (simp; done) | (simp; omega) | omega) (by simp; omega)).trans (by go_simp)
  have bf6 : k3.frozen? ⟨k2.heap.size, 6, none⟩ = false := (h.frozen_far ⟨k2.heap.size, 6, none⟩ (by first | (simp; done) | (simp; omega) | omega) (by simp; omega)).trans (by go_simp)
  have bf7 : k3.frozen? ⟨k2.heap.size, 7, none⟩ = false := (h.frozen_far ⟨k2.heap.size, 7, none⟩ (by first | (simp; done) | (simp; omega) | omega) (by simp; omega)).trans (by go_simp)
  have bf8 : k3.frozen? ⟨k2.heap.size, 8, none⟩ = false := (h.frozen_far ⟨k2.heap.size, 8, none⟩ (by first | (simp; done) | (simp; omega) | omega) (by simp; omega)).trans (by go_simp)
  clear r0 r1 r2 r3 r4 r5 r6 r7 r8 rf0 rf1 rf2 rf3 rf4 rf5 rf6 rf7 rf8
  have r0 := r0N; clear r0N
  have r1 := r1N; clear r1N
  have r2 := r2N; clear r2N
  have r3 := r3N; clear r3N
  have r4 := r4N; clear r4N
  have r5 := r5N; clear r5N
  have r6 := r6N; clear r6N
  have r7 := r7N; clear r7N
  have r8 := r8N; clear r8N
  have rf0 := rf0N; clear rf0N
  have rf1 := rf1N; clear rf1N
  have rf2 := rf2N; clear rf2N
  have rf3 := rf3N; clear rf3N
  have rf4 := rf4N; clear rf4N
  have rf5 := rf5N; clear rf5N
  have rf6 := rf6N; clear rf6N
  have rf7 := rf7N; clear rf7N
  have rf8 := rf8N; clear rf8N
  have : w.heap.size < k3.heap.size := by omega
  have : k2.heap.size < k3.heap.size := by omega
  clear h
  have HR3 := Lib.hid hr; clear hr HR2
  go_wp2_with fail
  refine (rraw_to g B l3 l4 ok on os _ (rdr_then HR3.out (by
      repeat' (first | exact Below.refl _ _ | refine Below.setCell ?_ (by simp; omega) _))) (by omega) E4.out).mono ?_
  rintro e k4 ⟨rfl, hr, h⟩
  replace hb : w.grownBy k4 (some g) := by
    refine grown_trans (grown_then hb ?_) h
    repeat' (first | with_reducible exact Below.refl _ _ | (with_reducible refine Below.alloc ?_ ?_ _) | (with_reducible refine Below.setCell ?_ ?_ _) | exact (by first | (simp; done) | (simp; omega) | omega))
  have hz := h.size
  try simp at hz
  have r0N : k4.cell? ⟨w.heap.size, 0, none⟩ = some (.int .i64 0) := (h.cell_far ⟨w.heap.size, 0, none⟩ (by first | (simp; done) | (simp; omega) | omega) (by simp; omega)).trans (by go_simp)
  have r1N : k4.cell? ⟨w.heap.size, 1, none⟩ = some (.string ⟨#[]⟩) := (h.cell_far ⟨w.heap.size, 1, none⟩ (by first | (simp; done) | (simp; omega) | omega) (by simp; omega)).trans (by go_simp)
  have r2N : k4.cell? ⟨w.heap.size, 2, none⟩ = some (.int .i64 0) := (h.cell_far ⟨w.heap.size, 2, none⟩ (by first | (simp; done) | (simp; omega) | omega) (by simp; omega)).trans (by go_simp)
  have r3N : k4.cell? ⟨w.heap.size, 3, none⟩ = some (.int .i64 0) := (h.cell_far ⟨w.heap.size, 3, none⟩ (by first | (simp; done) | (simp; omega) | omega) (by simp; omega)).trans (by go_simp)
  have r4N : k4.cell? ⟨w.heap.size, 4, none⟩ = some (.string ⟨#[]⟩) := (h.cell_far ⟨w.heap.size, 4, none⟩ (by first | (simp; done) | (simp; omega) | omega) (by simp; omega)).trans (by go_simp)
  have r5N : k4.cell? ⟨w.heap.size, 5, none⟩ = some (.int .i64 0) := (h.cell_far ⟨w.heap.size, 5, none⟩ (by first | (simp; done) | (simp; omega) | omega) (by simp; omega)).trans (by go_simp)
  have r6N : k4.cell? ⟨w.heap.size, 6, none⟩ = some (.int .i64 0) := (h.cell_far ⟨w.heap.size, 6, none⟩ (by first | (simp; done) | (simp; omega) | omega) (by simp; omega)).trans (by go_simp)
  have r7N : k4.cell? ⟨w.heap.size, 7, none⟩ = some (.string ⟨#[]⟩) := (h.cell_far ⟨w.heap.size, 7, none⟩ (by first | (simp; done) | (simp; omega) | omega) (by simp; omega)).trans (by go_simp)
  have r8N : k4.cell? ⟨w.heap.size, 8, none⟩ = some (.int .i64 0) := (h.cell_far ⟨w.heap.size, 8, none⟩ (by first | (simp; done) | (simp; omega) | omega) (by simp; omega)).trans (by go_simp)
  have rf0N : k4.frozen? ⟨w.heap.size, 0, none⟩ = false := (h.frozen_far ⟨w.heap.size, 0, none⟩ (by first | (simp; done) | (simp; omega) | omega) (by simp; omega)).trans (by go_simp)
  have rf1N : k4.frozen? ⟨w.heap.size, 1, none⟩ = false := (h.frozen_far ⟨w.heap.size, 1, none⟩ (by first | (simp; done) | (simp; omega) | omega) (by simp; omega)).trans (by go_simp)
  have rf2N : k4.frozen? ⟨w.heap.size, 2, none⟩ = false := (h.frozen_far ⟨w.heap.size, 2, none⟩ (by first | (simp; done) | (simp; omega) | omega) (by simp; omega)).trans (by go_simp)
  have rf3N : k4.frozen? ⟨w.heap.size, 3, none⟩ = false := (h.frozen_far ⟨w.heap.size, 3, none⟩ (by first | (simp; done) | (simp; omega) | omega) (by simp; omega)).trans (by go_simp)
  have rf4N : k4.frozen? ⟨w.heap.size, 4, none⟩ = false := (h.frozen_far ⟨w.heap.size, 4, none⟩ (by first | (simp; done) | (simp; omega) | omega) (by simp; omega)).trans (by go_simp)
  have rf5N : k4.frozen? ⟨w.heap.size, 5, none⟩ = false := (h.frozen_far ⟨w.heap.size, 5, none⟩ (by first | (simp; done) | (simp; omega) | omega) (by simp; omega)).trans (by go_simp)
  have rf6N : k4.frozen? ⟨w.heap.size, 6, none⟩ = false := (h.frozen_far ⟨w.heap.size, 6, none⟩ (by first | (simp; done) | (simp; omega) | omega) (by simp; omega)).trans (by go_simp)
  have rf7N : k4.frozen? ⟨w.heap.size, 7, none⟩ = false := (h.frozen_far ⟨w.heap.size, 7, none⟩ (by first | (simp; done) | (simp; omega) | omega) (by simp; omega)).trans (by go_simp)
  have rf8N : k4.frozen? ⟨w.heap.size, 8, none⟩ = false := (h.frozen_far ⟨w.heap.size, 8, none⟩ (by first | (simp; done) | (simp; omega) | omega) (by simp; omega)).trans (by go_simp)
  have b0N : k4.cell? ⟨k2.heap.size, 0, none⟩ = some (.int .i64 3) := (h.cell_far ⟨k2.heap.size, 0, none⟩ (by first | (simp; done) | (simp; omega) | omega) (by simp; omega)).trans (by go_simp)
  have b1N : k4.cell? ⟨k2.heap.size, 1, none⟩ = some (.string key) := (h.cell_far ⟨k2.heap.size, 1, none⟩ (by first | (simp; done) | (simp; omega) | omega) (by simp; omega)).trans (by go_simp)
  have b2N : k4.cell? ⟨k2.heap.size, 2, none⟩ = some (.int .i64 vk) := (h.cell_far ⟨k2.heap.size, 2, none⟩ (by first | (simp; done) | (simp; omega) | omega) (by simp; omega)).trans (by go_simp)
  have b3N : k4.cell? ⟨k2.heap.size, 3, none⟩ = some (.int .i64 vn) := (h.cell_far ⟨k2.heap.size, 3, none⟩ (by first | (simp; done) | (simp; omega) | omega) (by simp; omega)).trans (by go_simp)
  have b4N : k4.cell? ⟨k2.heap.size, 4, none⟩ = some (.string vs) := (h.cell_far ⟨k2.heap.size, 4, none⟩ (by first | (simp; done) | (simp; omega) | omega) (by simp; omega)).trans (by go_simp)
  have b5N : k4.cell? ⟨k2.heap.size, 5, none⟩ = some (.int .i64 0) := (h.cell_far ⟨k2.heap.size, 5, none⟩ (by first | (simp; done) | (simp; omega) | omega) (by simp; omega)).trans (by go_simp)
  have b6N : k4.cell? ⟨k2.heap.size, 6, none⟩ = some (.int .i64 0) := (h.cell_far ⟨k2.heap.size, 6, none⟩ (by first | (simp; done) | (simp; omega) | omega) (by simp; omega)).trans (by go_simp)
  have b7N : k4.cell? ⟨k2.heap.size, 7, none⟩ = some (.string ⟨#[]⟩) := (h.cell_far ⟨k2.heap.size, 7, none⟩ (by first | (simp; done) | (simp; omega) | omega) (by simp; omega)).trans (by go_simp)
  have b8N : k4.cell? ⟨k2.heap.size, 8, none⟩ = some (.int .i64 0) := (h.cell_far ⟨k2.heap.size, 8, none⟩ (by first | (simp; done) | (simp; omega) | omega) (by simp; omega)).trans (by go_simp)
  have bf0N : k4.frozen? ⟨k2.heap.size, 0, none⟩ = false := (h.frozen_far ⟨k2.heap.size, 0, none⟩ (by first | (simp; done) | (simp; omega) | omega) (by simp; omega)).trans (by go_simp)
  have bf1N : k4.frozen? ⟨k2.heap.size, 1, none⟩ = false := (h.frozen_far ⟨k2.heap.size, 1, none⟩ (by first | (simp; done) | (simp; omega) | omega) (by simp; omega)).trans (by go_simp)
  have bf2N : k4.frozen? ⟨k2.heap.size, 2, none⟩ = false := (h.frozen_far ⟨k2.heap.size, 2, none⟩ (by first | (simp; done) | (simp; omega) | omega) (by simp; omega)).trans (by go_simp)
  have bf3N : k4.frozen? ⟨k2.heap.size, 3, none⟩ = false := (h.frozen_far ⟨k2.heap.size, 3, none⟩ (by first | (simp; done) | (simp; omega) | omega) (by simp; omega)).trans (by go_simp)
  have bf4N : k4.frozen? ⟨k2.heap.size, 4, none⟩ = false := (h.frozen_far ⟨k2.heap.size, 4, none⟩ (by first | (simp; done) | (simp; omega) | omega) (by simp; omega)).trans (by go_simp)
  have bf5N : k4.frozen? ⟨k2.heap.size, 5, none⟩ = false := (h.frozen_far ⟨k2.heap.size, 5, none⟩ (by first | (simp; done) | (simp; omega) | omega) (by simp; omega)).trans (by go_simp)
  have bf6N : k4.frozen? ⟨k2.heap.size, 6, none⟩ = false := (h.frozen_far ⟨k2.heap.size, 6, none⟩ (by first | (simp; done) | (simp; omega) | omega) (by simp; omega)).trans (by go_simp)
  have bf7N : k4.frozen? ⟨k2.heap.size, 7, none⟩ = false := (h.frozen_far ⟨k2.heap.size, 7, none⟩ (by first | (simp; done) | (simp; omega) | omega) (by simp; omega)).trans (by go_simp)
  have bf8N : k4.frozen? ⟨k2.heap.size, 8, none⟩ = false := (h.frozen_far ⟨k2.heap.size, 8, none⟩ (by first | (simp; done) | (simp; omega) | omega) (by simp; omega)).trans (by go_simp)
  clear r0 r1 r2 r3 r4 r5 r6 r7 r8 rf0 rf1 rf2 rf3 rf4 rf5 rf6 rf7 rf8 b0 b1 b2 b3 b4 b5 b6 b7 b8 bf0 bf1 bf2 bf3 bf4 bf5 bf6 bf7 bf8
  have r0 := r0N; clear r0N
  have r1 := r1N; clear r1N
  have r2 := r2N; clear r2N
  have r3 := r3N; clear r3N
  have r4 := r4N; clear r4N
  have r5 := r5N; clear r5N
  have r6 := r6N; clear r6N
  have r7 := r7N; clear r7N
  have r8 := r8N; clear r8N
  have rf0 := rf0N; clear rf0N
  have rf1 := rf1N; clear rf1N
  have rf2 := rf2N; clear rf2N
  have rf3 := rf3N; clear rf3N
  have rf4 := rf4N; clear rf4N
  have rf5 := rf5N; clear rf5N
  have rf6 := rf6N; clear rf6N
  have rf7 := rf7N; clear rf7N
  have rf8 := rf8N; clear rf8N
  have b0 := b0N; clear b0N
  have b1 := b1N; clear b1N
  have b2 := b2N; clear b2N
  have b3 := b3N; clear b3N
  have b4 := b4N; clear b4N
  have b5 := b5N; clear b5N
  have b6 := b6N; clear b6N
  have b7 := b7N; clear b7N
  have b8 := b8N; clear b8N
  have bf0 := bf0N; clear bf0N
  have bf1 := bf1N; clear bf1N
  have bf2 := bf2N; clear bf2N
  have bf3 := bf3N; clear bf3N
  have bf4 := bf4N; clear bf4N
  have bf5 := bf5N; clear bf5N
  have bf6 := bf6N; clear bf6N
  have bf7 := bf7N; clear bf7N
  have bf8 := bf8N; clear bf8N
  have : w.heap.size < k4.heap.size := by omega
  have : k2.heap.size < k4.heap.size := by omega
  clear h
  have HRZ := Lib.hid hr; clear hr HR3
  have hg2 : w.heap.size < k4.heap.size := by omega
  go_wp2
  refine body_world (fun W => W.cell? ⟨w.heap.size, 0, none⟩ = some (.int .i64 3) ∧ W.cell? ⟨w.heap.size, 1, none⟩ = some (.string key) ∧ W.cell? ⟨w.heap.size, 2, none⟩ = some (.int .i64 vk) ∧ W.cell? ⟨w.heap.size, 3, none⟩ = some (.int .i64 vn) ∧ W.cell? ⟨w.heap.size, 4, none⟩ = some (.string vs) ∧ W.cell? ⟨w.heap.size, 5, none⟩ = some (.int .i64 ok) ∧ W.cell? ⟨w.heap.size, 6, none⟩ = some (.int .i64 on) ∧ W.cell? ⟨w.heap.size, 7, none⟩ = some (.string os) ∧ W.cell? ⟨w.heap.size, 8, none⟩ = some (.int .i64 0) ∧ Rdr W g B l4 ∧ w.grownBy W (some g)) ⟨by go_simp, by go_simp, by go_simp, by go_simp, by go_simp, by go_simp, by go_simp, by go_simp, by go_simp, rdr_then HRZ.out (by
      repeat' (first | with_reducible exact Below.refl _ _ | (with_reducible refine Below.alloc ?_ ?_ _) | (with_reducible refine Below.setCell ?_ ?_ _) | exact (by first | (simp; done) | (simp; omega) | omega))), grown_then hb (by
      repeat' (first | with_reducible exact Below.refl _ _ | (with_reducible refine Below.alloc ?_ ?_ _) | (with_reducible refine Below.setCell ?_ ?_ _) | exact (by first | (simp; done) | (simp; omega) | omega)))⟩ ?_
  rintro W ⟨q0, q1, q2, q3, q4, q5, q6, q7, q8, hR, hG⟩
  exact bodyPost_ret (v := .agg #[.int .i64 3, .string key, .int .i64 vk, .int .i64 vn, .string vs, .int .i64 ok, .int .i64 on, .string os, .int .i64 0]) (by simp [results, Try.results59, go_sem, q0, q1, q2, q3, q4, q5, q6, q7, q8]) rfl ⟨rfl, hR, hG⟩
theorem rop_any (g B : Nat) (l : List UInt8) (w : World) (hr : Rdr w g B l) (hl : l.length ≤ 1000000) :
    Calls Try.prog 59 #[.pointer (some ⟨g, 0, none⟩)] w (RdOut g B (.agg (rOp l).1.cs.toArray) (rOp l).2 w) := by
  obtain ⟨⟨k, l1⟩, e1⟩ : ∃ r, rNum l = r := ⟨_, rfl⟩
  obtain ⟨⟨key, l2⟩, e2⟩ : ∃ r, rTxt l1 = r := ⟨_, rfl⟩
  unfold rOp
  rw [e1]; simp only; rw [e2]; simp only
  by_cases h1 : k = 1
  · subst h1
    obtain ⟨⟨⟨vk, vn, vs⟩, l3⟩, e3⟩ : ∃ r, rRaw l2 = r := ⟨_, rfl⟩
    rw [if_pos rfl, e3]
    exact rop_1 g B l l1 l2 key w hr hl e1 e2 vk vn vs l3 e3
  · rw [if_neg h1]
    by_cases h3 : k = 3
    · subst h3
      obtain ⟨⟨⟨vk, vn, vs⟩, l3⟩, e3⟩ : ∃ r, rRaw l2 = r := ⟨_, rfl⟩
      obtain ⟨⟨⟨ok, on, os⟩, l4⟩, e4⟩ : ∃ r, rRaw l3 = r := ⟨_, rfl⟩
      rw [if_pos rfl, e3]; simp only; rw [e4]
      exact rop_3 g B l l1 l2 key w hr hl e1 e2 vk vn ok on vs os l3 l4 e3 e4
    · rw [if_neg h3]
      by_cases h4 : k = 4
      · subst h4
        obtain ⟨⟨n, l3⟩, e3⟩ : ∃ r, rNum l2 = r := ⟨_, rfl⟩
        rw [if_pos rfl, e3]
        exact rop_4 g B l l1 l2 key w hr hl e1 e2 n l3 e3
      · rw [if_neg h4]
        exact rop_x g B l l1 l2 k key w hr hl e1 e2 h1 h3 h4
end Go.Proofs.Ytegkhkcnoahhdaa
