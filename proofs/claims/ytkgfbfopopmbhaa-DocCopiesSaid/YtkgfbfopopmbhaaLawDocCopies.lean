/-
  A copy goes its own way; two documents are the same just if they have the same. There are no conditions.
-/
import Derived.Test.YtkgfbfopopmbhaaRows
import Derived.Test.YtkgfbfopopmbhaaL6Box
import Derived.Test.YtkgfbfopopmbhaaLawKit
import Derived.WalkKit
import Derived.ProofKit
import Derived.OpenShut
import Derived.ShutString
set_option linter.unusedSimpArgs false
set_option linter.unusedVariables false
namespace Go.Proofs.Ytkgfbfopopmbhaa.docCopies
open Go.ChangeShapes Go.WideShapes Go.ChangeAt Go.RowKit
open Go.ChangeMaps (open_string shut_string)
set_option linter.unusedVariables false

theorem own : ownKnob Try.prog.godebug = none := by kernel_rfl

set_option maxRecDepth 100000 in
set_option maxHeartbeats 8000000 in
theorem walk (w : World) (A0 : Option Addr) (c0 : Nat) (a0 : List Opn) (w0 : Ops w w.heap.size (.slice A0 a0.length c0) a0) (x0 : ∀ x ∈ a0, x.fit) (A1 : Option Addr) (c1 : Nat) (a1 : List Opn) (w1 : Ops w w.heap.size (.slice A1 a1.length c1) a1) (x1 : ∀ x ∈ a1, x.fit) :
    Calls Try.prog 5 #[.slice A0 a0.length c0, .slice A1 a1.length c1] w fun e w' => e = .returned (.bool true) ∧ Below w.heap.size w w' := by
  have HA0 := Lib.hid w0; clear w0
  have HF0 := Lib.hid x0; clear x0
  have HA1 := Lib.hid w1; clear w1
  have HF1 := Lib.hid x1; clear x1
  have hb := Below.refl w.heap.size w
  go_enter Try.func5, Try.ntmps5
  go_wp2_with fail
  refine (begun6_any _).mono ?_
  rintro e k1 ⟨rfl, h⟩
  have hk : Below w.heap.size w k1 := HK9 h
  have hz := h.size
  try simp at hz
  replace hb : Below w.heap.size w k1 := hb.trans (hk.mono hb.size)
  clear h hk
  go_wp2_with fail
  refine (lcut_is w.heap.size w.heap.size _ a0 _ (HA0.out.keep (BB9 hb) (Nat.le_refl _)) (by have := hb.size; first | exact hb.size | omega | (simp; omega)) (by have := hb.size; first | exact hb.size | omega | (simp; omega)) HF0.out).mono ?_
  rintro e k2 ⟨Am, cm, m, rfl, ⟨ho9, hlm, hok9⟩, h⟩
  have hk : Below k1.heap.size k1 k2 := HK9 h
  have hz := h.size
  try simp at hz
  replace hb : Below w.heap.size w k2 := hb.trans (hk.mono hb.size)
  have HOm := Lib.hid ho9; clear ho9
  have HOKm := Lib.hid hok9; clear hok9
  clear h hk
  go_wp2_with fail
  refine (lcut_is w.heap.size w.heap.size _ a1 _ (HA1.out.keep (BB9 hb) (Nat.le_refl _)) (by have := hb.size; first | exact hb.size | omega | (simp; omega)) (by have := hb.size; first | exact hb.size | omega | (simp; omega)) HF1.out).mono ?_
  rintro e k3 ⟨An, cn, n, rfl, ⟨ho9, hln, hok9⟩, h⟩
  have hk : Below k2.heap.size k2 k3 := HK9 h
  have hz := h.size
  try simp at hz
  replace HOm := Lib.hid (ownsRow_below HOm.out hk)
  replace hb : Below w.heap.size w k3 := hb.trans (hk.mono hb.size)
  have HOn := Lib.hid ho9; clear ho9
  have HOKn := Lib.hid hok9; clear hok9
  clear h hk
  obtain ⟨⟨r, e1⟩, hr⟩ : ∃ x, dApply [] m = x := ⟨_, rfl⟩
  obtain ⟨⟨q, e2⟩, hq⟩ : ∃ x, dApply r n = x := ⟨_, rfl⟩
  have hgr9 : Gd r := by have := gd_nil.apply HOKm.out; rw [hr] at this; exact this
  have hgq9 : Gd q := by have := hgr9.apply HOKn.out; rw [hq] at this; exact this
  have HR := Lib.hid hr; clear hr
  have HQ := Lib.hid hq; clear hq
  go_wp2_with fail
  refine (lnew_is w.heap.size _ (by have := hb.size; first | omega | exact Nat.le_refl _ | (simp; omega))).mono ?_
  rintro e k4 ⟨rfl, hd9, h⟩
  have hk : Below k3.heap.size k3 k4 := HK9 h
  have hz := h.size
  try simp at hz
  replace HOm := Lib.hid (ownsRow_below HOm.out hk)
  replace HOn := Lib.hid (ownsRow_below HOn.out hk)
  replace hb : Below w.heap.size w k4 := hb.trans (hk.mono hb.size)
  clear h hk
  have HD := Lib.hid hd9; clear hd9
  have hltHD : k3.heap.size < k4.heap.size := HD.out.lt
  go_wp2_with fail
  refine (lapply_is w.heap.size _ _ _ [] r m e1 _ (Dc.below HD.out BL9) (Ops.of_own (ownsRow_below HOm.out BL9)) (Nat.le_refl _) HOKm.out HR.out).mono ?_
  rintro e k5 ⟨rfl, hd9, hgr⟩
  have hz9 := hgr.size
  have hbe : Below k4.heap.size k4 _ := Below.refl _ _
  clear hbe
  try simp at hz9
  replace hb : Below w.heap.size w k5 := Dc.frame (w0 := w) (hb := hgr) (h := Dc.below HD.out BL9) (h0 := (BB9 hb)) (hB := by have := hb.size; first | omega | (simp; omega))
  replace HOm := Lib.hid (ownsRow_grown (hb := hgr) (h := ownsRow_below HOm.out BL9) (hd := Dc.below HD.out BL9) (hne := by decide))
  replace HOn := Lib.hid (ownsRow_grown (hb := hgr) (h := ownsRow_below HOn.out BL9) (hd := Dc.below HD.out BL9) (hne := by decide))
  replace HD := Lib.hid hd9
  clear hd9
  clear hgr
  go_wp2_with fail
  refine (lcopy_is w.heap.size _ r _ (Dc.below HD.out BL9) (by have := hb.size; first | exact hb.size | omega | (simp; omega))).mono ?_
  rintro e k6 ⟨gc, rfl, ⟨hc, hcl⟩, h⟩
  have hk : Below k5.heap.size k5 k6 := HK9 h
  have hz := h.size
  try simp at hz
  replace HOm := Lib.hid (ownsRow_below HOm.out hk)
  replace HOn := Lib.hid (ownsRow_below HOn.out hk)
  replace HD := Lib.hid (Dc.below HD.out hk)
  replace hb : Below w.heap.size w k6 := hb.trans (hk.mono hb.size)
  clear h hk
  have HC := Lib.hid hc
  have hltHC : gc < k6.heap.size := HC.out.lt
  clear hc
  go_wp2_with fail
  refine (lrapply_is 0 _ _ _ [] r m e1 _ (prs_nil _ _) (Nat.zero_le _) (Ops.of_own (ownsRow_below HOm.out BL9)) (Nat.le_refl _) gd_nil HOKm.out HR.out).mono ?_
  rintro e k7 ⟨Ar, cr, rfl, hp9, h⟩
  have hk : Below k6.heap.size k6 k7 := HK9 h
  have hz := h.size
  try simp at hz
  have r0 : k7.cell? ⟨k6.heap.size, 0, none⟩ = some (.slice none 0 0) := (h.cell (p := ⟨k6.heap.size, 0, none⟩) LT9).trans (by go_simp)
  have rf : k7.frozen? ⟨k6.heap.size, 0, none⟩ = false := (h.frozen (p := ⟨k6.heap.size, 0, none⟩) LT9).trans (by go_simp)
  replace HOm := Lib.hid (ownsRow_below HOm.out hk)
  replace HOn := Lib.hid (ownsRow_below HOn.out hk)
  replace HD := Lib.hid (Dc.below HD.out hk)
  replace HC := Lib.hid (Dc.below HC.out hk)
  replace hb : Below w.heap.size w k7 := hb.trans (hk.mono hb.size)
  have lt0 : k6.heap.size < k7.heap.size := LT9
  have HBR := Lib.hid (Bx1.below (Bx1.new _ 28 (.slice none 0 0)) h)
  have HP := Lib.hid hp9; clear hp9
  clear h hk
  go_wp2_with fail
  obtain ⟨k8, hk8⟩ : ∃ x, k7.setCell ⟨k6.heap.size, 0, none⟩ (.slice Ar r.length cr) = x := ⟨_, rfl⟩
  replace HOm := Lib.hid (box_own (u := .slice Ar r.length cr) HOm.out HBR.out (by decide))
  rw [hk8] at HOm
  replace HOn := Lib.hid (box_own (u := .slice Ar r.length cr) HOn.out HBR.out (by decide))
  rw [hk8] at HOn
  replace HD := Lib.hid (box_doc (u := .slice Ar r.length cr) HD.out HBR.out (by decide) (by decide))
  rw [hk8] at HD
  replace HC := Lib.hid (box_doc (u := .slice Ar r.length cr) HC.out HBR.out (by decide) (by decide))
  rw [hk8] at HC
  replace HP := Lib.hid (box_prs (u := .slice Ar r.length cr) HP.out HBR.out)
  rw [hk8] at HP
  replace HBR := Lib.hid (Bx1.set HBR.out (.slice Ar r.length cr))
  rw [hk8] at HBR
  replace r0 : k8.cell? ⟨k6.heap.size, 0, none⟩ = some (.slice Ar r.length cr) := Bx1.cell HBR.out
  replace rf : k8.frozen? ⟨k6.heap.size, 0, none⟩ = false := Bx1.frz HBR.out
  have hzk8 : k8.heap.size = k7.heap.size := by rw [← hk8]; exact nblk_set _ _ _
  replace hb : Below w.heap.size w k8 := by
    rw [← hk8]
    exact hb.setCell (by first | omega | (simp; omega)) _
  rw [← hzk8] at HP
  rw [hk8]
  clear hk8
  have lt0 : k6.heap.size < k8.heap.size := LT9
  refine (lrapply_is _ _ _ _ r q n e2 _ (Prs.keep HP.out BL9 (Nat.le_refl _)) (by first | exact Nat.le_refl _ | (simp; done) | (simp; omega) | omega) (Ops.of_own (ownsRow_below HOn.out BL9)) (Nat.le_refl _) hgr9 HOKn.out HQ.out).mono ?_
  rintro e k9 ⟨Aq, cq, rfl, hq9, h⟩
  have hk : Below k8.heap.size k8 k9 := HK9 h
  have hz := h.size
  try simp at hz
  replace r0 : k9.cell? ⟨k6.heap.size, 0, none⟩ = some (.slice Ar r.length cr) := (hk.cell (p := ⟨k6.heap.size, 0, none⟩) LT9).trans r0
  replace rf : k9.frozen? ⟨k6.heap.size, 0, none⟩ = false := (hk.frozen (p := ⟨k6.heap.size, 0, none⟩) LT9).trans rf
  replace HOm := Lib.hid (ownsRow_below HOm.out hk)
  replace HOn := Lib.hid (ownsRow_below HOn.out hk)
  replace HD := Lib.hid (Dc.below HD.out hk)
  replace HC := Lib.hid (Dc.below HC.out hk)
  replace HBR := Lib.hid (Bx1.below HBR.out hk)
  replace HP := Lib.hid (Prs.more (Prs.keep HP.out hk (Nat.le_refl _)) (Below.size hk))
  replace hb : Below w.heap.size w k9 := hb.trans (hk.mono hb.size)
  have lt0 : k6.heap.size < k9.heap.size := LT9
  have HPQ := Lib.hid hq9; clear hq9
  clear h hk
  go_wp2_with fail
  refine wp_world (fun W => W.cell? ⟨k6.heap.size, 0, none⟩ = some (.slice Ar r.length cr) ∧ W.frozen? ⟨k6.heap.size, 0, none⟩ = false ∧ W.cell? ⟨k9.heap.size, 0, none⟩ = some (.slice Aq q.length cq) ∧ Below (k9.heap.size) k9 W ∧ k9.heap.size + 1 ≤ W.heap.size) ⟨(by go_simp), (by go_simp), (by go_simp), (by
      repeat' (first | with_reducible exact Below.refl _ _ | (with_reducible refine Below.alloc ?_ ?_ _) | (with_reducible refine Below.setCell ?_ ?_ _) | exact LT9)), LT9⟩ ?_
  clear r0 rf
  rintro k10 ⟨r0, rf, q0, hk, hz⟩
  replace HOm := Lib.hid (ownsRow_below HOm.out hk)
  replace HOn := Lib.hid (ownsRow_below HOn.out hk)
  replace HD := Lib.hid (Dc.below HD.out hk)
  replace HC := Lib.hid (Dc.below HC.out hk)
  replace HBR := Lib.hid (Bx1.below HBR.out hk)
  replace HP := Lib.hid (Prs.more (Prs.keep HP.out hk (Nat.le_refl _)) (Below.size hk))
  replace HPQ := Lib.hid (Prs.more (Prs.keep HPQ.out hk (Nat.le_refl _)) (Below.size hk))
  replace hb : Below w.heap.size w k10 := hb.trans (hk.mono (by first | exact hb.size | omega | (simp; omega)))
  have lt0 : k6.heap.size < k10.heap.size := LT9
  have lt1 : k9.heap.size < k10.heap.size := LT9
  clear hk
  obtain ⟨LR, hLR⟩ : ∃ x, bytesD r = x := ⟨_, rfl⟩
  obtain ⟨LQ, hLQ⟩ : ∃ x, bytesD q = x := ⟨_, rfl⟩
  obtain ⟨SR, hSR⟩ : ∃ S : ByteArray, ⟨(bytesD r).toArray⟩ = S := ⟨_, rfl⟩
  obtain ⟨SQ, hSQ⟩ : ∃ S : ByteArray, ⟨(bytesD q).toArray⟩ = S := ⟨_, rfl⟩
  have htx := text_eq hgq9 hgr9 SQ SR hSQ hSR
  rw [hLR] at hSR
  rw [hLQ] at hSQ
  obtain ⟨x, hx⟩ : ∃ x, eqD q r = x := ⟨_, rfl⟩
  rw [hx] at htx
  have HLR := Lib.hid hLR; clear hLR
  have HLQ := Lib.hid hLQ; clear hLQ
  have HSR := Lib.hid hSR; clear hSR
  have HSQ := Lib.hid hSQ; clear hSQ
  have HX := Lib.hid hx; clear hx
  have hee : (e2 == e2) = true := by simp
  have hxx : (x == x) = true := by simp
  replace r0 : k10.drew.cell? ⟨k6.heap.size, 0, none⟩ = some (.slice Ar r.length cr) := r0
  replace rf : k10.drew.frozen? ⟨k6.heap.size, 0, none⟩ = false := rf
  replace q0 : k10.drew.cell? ⟨k9.heap.size, 0, none⟩ = some (.slice Aq q.length cq) := q0
  replace HOm := Lib.hid (ownsRow_below HOm.out ((Below.refl k10.heap.size k10).drew))
  replace HOn := Lib.hid (ownsRow_below HOn.out ((Below.refl k10.heap.size k10).drew))
  replace HD := Lib.hid (Dc.below HD.out ((Below.refl k10.heap.size k10).drew))
  replace HC := Lib.hid (Dc.below HC.out ((Below.refl k10.heap.size k10).drew))
  replace HBR := Lib.hid (Bx1.below HBR.out ((Below.refl k10.heap.size k10).drew))
  replace HP := Lib.hid (Prs.more (Prs.keep HP.out ((Below.refl k10.heap.size k10).drew) (Nat.le_refl _)) (Below.size ((Below.refl k10.heap.size k10).drew)))
  replace HPQ := Lib.hid (Prs.more (Prs.keep HPQ.out ((Below.refl k10.heap.size k10).drew) (Nat.le_refl _)) (Below.size ((Below.refl k10.heap.size k10).drew)))
  refine wp_region_noPanic ?_
  refine wp_region_held_drew (S := fun W => W.cell? ⟨k6.heap.size, 0, none⟩ = some (.slice Ar r.length cr) ∧ W.cell? ⟨k9.heap.size, 0, none⟩ = some (.slice Aq q.length cq)) (by kernel_rfl) ?_ (fun hHeld => ?_)
  · exact ⟨r0, q0⟩
  replace hb : Below w.heap.size w k10.drew := hb.drew
  replace lt0 : k6.heap.size < k10.drew.heap.size := lt0
  replace lt1 : k9.heap.size < k10.drew.heap.size := lt1
  have hzd : k10.heap.size ≤ k10.drew.heap.size := Nat.le_refl _
  generalize k10.drew = k11 at *
  refine wpAnyH_take (i := 0) (oi := { dst := some 36, op := Op.move (Operand.tmp 7), type := 24, pos := "law.go:115", after := #[], guard := none }) (v := .pointer (some ⟨gc, 0, none⟩)) rfl (by kernel_rfl) (by kernel_rfl) (by kernel_rfl) (fun _ _ _ h => h) (Or.inl ⟨by rfl, fun w hSw => ?_⟩) (by assumption) ?_
  · (try dsimp only at hSw)
    go_simp
  try simp only [Act.put, List.setIfInBounds_toArray, List.set_cons_zero, List.set_cons_succ]
  refine wpAnyH_take (i := 1) (oi := { dst := some 37, op := Op.move (Operand.tmp 1), type := 29, pos := "law.go:115", after := #[], guard := none }) (v := .slice An n.length cn) rfl (by kernel_rfl) (by kernel_rfl) (by kernel_rfl) (fun _ _ _ h => h) (Or.inl ⟨by rfl, fun w hSw => ?_⟩) (by assumption) ?_
  · (try dsimp only at hSw)
    go_simp
  try simp only [Act.put, List.setIfInBounds_toArray, List.set_cons_zero, List.set_cons_succ]
  refine wpAnyH_take (i := 3) (oi := { dst := some 39, op := Op.move (Operand.tmp 10), type := 31, pos := "law.go:115", after := #[], guard := none }) (v := .int .i64 e2) rfl (by kernel_rfl) (by kernel_rfl) (by kernel_rfl) (fun _ _ _ h => h) (Or.inl ⟨by rfl, fun w hSw => ?_⟩) (by assumption) ?_
  · (try dsimp only at hSw)
    go_simp
  try simp only [Act.put, List.setIfInBounds_toArray, List.set_cons_zero, List.set_cons_succ]
  refine wpAnyH_ready (rs := [2]) (by kernel_rfl) (by simp) ?_
  refine AllReadyH.cons (o := { dst := some 38, op := Op.call { callee := Callee.value (Operand.func 16), args := #[Operand.tmp 36, Operand.tmp 37], argTypes := #[24, 29] }, type := 31, pos := "law.go:115", after := #[{ on := 0, ground := Ground.data }, { on := 1, ground := Ground.data }], guard := none }) rfl (fun K hK => ?_) (AllReadyH.nil)
  go_simp
  go_at_call 16
  refine (lapply_is w.heap.size _ _ _ r q n e2 _ HC.out (Ops.of_own HOn.out) (Nat.le_refl _) HOKn.out HQ.out).mono ?_
  rintro e k12 ⟨rfl, hd9, hgr⟩
  have hz9 := hgr.size
  have hbe : Below k11.heap.size k11 _ := Below.refl _ _
  clear hbe
  try simp at hz9
  replace hb : Below w.heap.size w k12 := Dc.frame (w0 := w) (hb := hgr) (h := Dc.below HC.out BL9) (h0 := (BB9 hb)) (hB := by have := hb.size; first | omega | (simp; omega))
  replace HOm := Lib.hid (ownsRow_grown (hb := hgr) (h := ownsRow_below HOm.out BL9) (hd := Dc.below HC.out BL9) (hne := by decide))
  replace HOn := Lib.hid (ownsRow_grown (hb := hgr) (h := ownsRow_below HOn.out BL9) (hd := Dc.below HC.out BL9) (hne := by decide))
  replace HD := Lib.hid (Dc.grown (hb := hgr) (h := Dc.below HD.out BL9) (h2 := Dc.below HC.out BL9) (hne := (by omega)))
  replace HBR := Lib.hid (Bx1.grown (hb := hgr) (h := Bx1.below HBR.out BL9) (hd := Dc.below HC.out BL9) (ht := by decide))
  replace HP := Lib.hid (Prs.more (prs_grown (hb := hgr) (h := Prs.keep HP.out BL9 (Nat.le_refl _)) (hd := Dc.below HC.out BL9)) (Nat.le_trans LT9 hgr.size))
  replace HPQ := Lib.hid (Prs.more (prs_grown (hb := hgr) (h := Prs.keep HPQ.out BL9 (Nat.le_refl _)) (hd := Dc.below HC.out BL9)) (Nat.le_trans LT9 hgr.size))
  have r0N : k12.cell? ⟨k6.heap.size, 0, none⟩ = some (.slice Ar r.length cr) := (hgr.cell_far ⟨k6.heap.size, 0, none⟩ LT9 (fun e => by injection e with e; simp only at e; omega)).trans (by go_simp)
  clear r0
  have r0 := r0N; clear r0N
  have rfN : k12.frozen? ⟨k6.heap.size, 0, none⟩ = false := (hgr.frozen_far ⟨k6.heap.size, 0, none⟩ LT9 (fun e => by injection e with e; simp only at e; omega)).trans (by go_simp)
  clear rf
  have rf := rfN; clear rfN
  have q0N : k12.cell? ⟨k9.heap.size, 0, none⟩ = some (.slice Aq q.length cq) := (hgr.cell_far ⟨k9.heap.size, 0, none⟩ LT9 (fun e => by injection e with e; simp only at e; omega)).trans (by go_simp)
  clear q0
  have q0 := q0N; clear q0N
  replace HC := Lib.hid hd9
  clear hd9
  have lt0 : k6.heap.size < k12.heap.size := LT9
  have lt1 : k9.heap.size < k12.heap.size := LT9
  clear hgr
  try dsimp only
  refine hK.out _ _ ?_ (fun hHeld => ?_)
  · exact ⟨r0, q0⟩
  clear hK K
  try simp only [Act.put, List.setIfInBounds_toArray, List.set_cons_zero, List.set_cons_succ]
  refine wpAnyH_take (i := 4) (oi := { dst := some 40, op := Op.binOp BinOp.eql 31 (Operand.tmp 38) (Operand.tmp 39) 31, type := 4, pos := "law.go:115", after := #[{ on := 2, ground := Ground.data }, { on := 3, ground := Ground.data }], guard := none }) (v := .bool true) rfl (by kernel_rfl) (by kernel_rfl) (by kernel_rfl) (fun _ _ _ h => h) (Or.inl ⟨by rfl, fun w hSw => ?_⟩) (by assumption) ?_
  · (try dsimp only at hSw)
    go_simp
  try simp only [Act.put, List.setIfInBounds_toArray, List.set_cons_zero, List.set_cons_succ]
  refine wpAnyH_take (i := 5) (oi := { dst := some 41, op := Op.move (Operand.tmp 40), type := 4, pos := "law.go:115", after := #[{ on := 4, ground := Ground.data }, { on := 2, ground := Ground.chain }], guard := none }) (v := .bool true) rfl (by kernel_rfl) (by kernel_rfl) (by kernel_rfl) (fun _ _ _ h => h) (Or.inl ⟨by rfl, fun w hSw => ?_⟩) (by assumption) ?_
  · (try dsimp only at hSw)
    go_simp
  try simp only [Act.put, List.setIfInBounds_toArray, List.set_cons_zero, List.set_cons_succ]
  refine wpAnyH_take (i := 6) (oi := { dst := some 42, op := Op.move (Operand.tmp 6), type := 24, pos := "law.go:115", after := #[{ on := 5, ground := Ground.guard }], guard := some (5, true) }) (v := .pointer (some ⟨k3.heap.size, 0, none⟩)) rfl (by kernel_rfl) (by kernel_rfl) (by kernel_rfl) (fun _ _ _ h => h) (Or.inl ⟨by rfl, fun w hSw => ?_⟩) (by assumption) ?_
  · (try dsimp only at hSw)
    go_simp
  try simp only [Act.put, List.setIfInBounds_toArray, List.set_cons_zero, List.set_cons_succ]
  refine wpAnyH_take (i := 7) (oi := { dst := some 43, op := Op.load 28 (Operand.tmp 8), type := 28, pos := "law.go:115", after := #[{ on := 5, ground := Ground.guard }], guard := some (5, true) }) (v := .agg #[.slice Ar r.length cr]) rfl (by kernel_rfl) (by kernel_rfl) (by kernel_rfl) (fun _ _ _ h => h) (Or.inl ⟨by rfl, fun w hSw => ?_⟩) (by assumption) ?_
  · (try dsimp only at hSw)
    go_simp
  try simp only [Act.put, List.setIfInBounds_toArray, List.set_cons_zero, List.set_cons_succ]
  refine wpAnyH_ready (rs := [8]) (by kernel_rfl) (by simp) ?_
  refine AllReadyH.cons (o := { dst := some 44, op := Op.call { callee := Callee.value (Operand.func 17), args := #[Operand.tmp 42, Operand.tmp 43], argTypes := #[24, 28] }, type := 4, pos := "law.go:115", after := #[{ on := 6, ground := Ground.data }, { on := 7, ground := Ground.data }, { on := 5, ground := Ground.chain }, { on := 5, ground := Ground.guard }], guard := some (5, true) }) rfl (fun K hK => ?_) (AllReadyH.nil)
  go_simp
  go_at_call 17
  refine (lsame_is w.heap.size _ _ _ r _ HD.out HP.out (Nat.le_refl _)).mono ?_
  rintro e k13 ⟨rfl, h⟩
  have hk : Below k12.heap.size k12 k13 := HK9 h
  have hz := h.size
  try simp at hz
  replace r0 : k13.cell? ⟨k6.heap.size, 0, none⟩ = some (.slice Ar r.length cr) := (hk.cell (p := ⟨k6.heap.size, 0, none⟩) LT9).trans r0
  replace rf : k13.frozen? ⟨k6.heap.size, 0, none⟩ = false := (hk.frozen (p := ⟨k6.heap.size, 0, none⟩) LT9).trans rf
  replace q0 : k13.cell? ⟨k9.heap.size, 0, none⟩ = some (.slice Aq q.length cq) := (hk.cell (p := ⟨k9.heap.size, 0, none⟩) LT9).trans q0
  replace HOm := Lib.hid (ownsRow_below HOm.out hk)
  replace HOn := Lib.hid (ownsRow_below HOn.out hk)
  replace HD := Lib.hid (Dc.below HD.out hk)
  replace HC := Lib.hid (Dc.below HC.out hk)
  replace HBR := Lib.hid (Bx1.below HBR.out hk)
  replace HP := Lib.hid (Prs.more (Prs.keep HP.out hk (Nat.le_refl _)) (Below.size hk))
  replace HPQ := Lib.hid (Prs.more (Prs.keep HPQ.out hk (Nat.le_refl _)) (Below.size hk))
  replace hb : Below w.heap.size w k13 := hb.trans (hk.mono hb.size)
  have lt0 : k6.heap.size < k13.heap.size := LT9
  have lt1 : k9.heap.size < k13.heap.size := LT9
  clear h hk
  try dsimp only
  refine hK.out _ _ ?_ (fun hHeld => ?_)
  · exact ⟨r0, q0⟩
  clear hK K
  try simp only [Act.put, List.setIfInBounds_toArray, List.set_cons_zero, List.set_cons_succ]
  refine wpAnyH_take (i := 9) (oi := { dst := some 45, op := Op.pick (Operand.tmp 41) (Operand.tmp 44) (Operand.const (Value.bool false)), type := 4, pos := "law.go:115", after := #[{ on := 5, ground := Ground.data }, { on := 8, ground := Ground.data }], guard := none }) (v := .bool true) rfl (by kernel_rfl) (by kernel_rfl) (by kernel_rfl) (fun _ _ _ h => h) (Or.inl ⟨by rfl, fun w hSw => ?_⟩) (by assumption) ?_
  · (try dsimp only at hSw)
    go_simp
  try simp only [Act.put, List.setIfInBounds_toArray, List.set_cons_zero, List.set_cons_succ]
  refine wpAnyH_take (i := 10) (oi := { dst := some 46, op := Op.move (Operand.tmp 45), type := 4, pos := "law.go:115", after := #[{ on := 9, ground := Ground.data }, { on := 8, ground := Ground.chain }], guard := none }) (v := .bool true) rfl (by kernel_rfl) (by kernel_rfl) (by kernel_rfl) (fun _ _ _ h => h) (Or.inl ⟨by rfl, fun w hSw => ?_⟩) (by assumption) ?_
  · (try dsimp only at hSw)
    go_simp
  try simp only [Act.put, List.setIfInBounds_toArray, List.set_cons_zero, List.set_cons_succ]
  refine wpAnyH_take (i := 11) (oi := { dst := some 47, op := Op.move (Operand.tmp 7), type := 24, pos := "law.go:115", after := #[{ on := 10, ground := Ground.guard }], guard := some (10, true) }) (v := .pointer (some ⟨gc, 0, none⟩)) rfl (by kernel_rfl) (by kernel_rfl) (by kernel_rfl) (fun _ _ _ h => h) (Or.inl ⟨by rfl, fun w hSw => ?_⟩) (by assumption) ?_
  · (try dsimp only at hSw)
    go_simp
  try simp only [Act.put, List.setIfInBounds_toArray, List.set_cons_zero, List.set_cons_succ]
  refine wpAnyH_take (i := 12) (oi := { dst := some 48, op := Op.load 28 (Operand.tmp 9), type := 28, pos := "law.go:115", after := #[{ on := 10, ground := Ground.guard }], guard := some (10, true) }) (v := .agg #[.slice Aq q.length cq]) rfl (by kernel_rfl) (by kernel_rfl) (by kernel_rfl) (fun _ _ _ h => h) (Or.inl ⟨by rfl, fun w hSw => ?_⟩) (by assumption) ?_
  · (try dsimp only at hSw)
    go_simp
  try simp only [Act.put, List.setIfInBounds_toArray, List.set_cons_zero, List.set_cons_succ]
  refine wpAnyH_ready (rs := [13]) (by kernel_rfl) (by simp) ?_
  refine AllReadyH.cons (o := { dst := some 49, op := Op.call { callee := Callee.value (Operand.func 17), args := #[Operand.tmp 47, Operand.tmp 48], argTypes := #[24, 28] }, type := 4, pos := "law.go:115", after := #[{ on := 11, ground := Ground.data }, { on := 12, ground := Ground.data }, { on := 10, ground := Ground.chain }, { on := 10, ground := Ground.guard }], guard := some (10, true) }) rfl (fun K hK => ?_) (AllReadyH.nil)
  go_simp
  go_at_call 17
  refine (lsame_is w.heap.size _ _ _ q _ HC.out HPQ.out (Nat.le_refl _)).mono ?_
  rintro e k14 ⟨rfl, h⟩
  have hk : Below k13.heap.size k13 k14 := HK9 h
  have hz := h.size
  try simp at hz
  replace r0 : k14.cell? ⟨k6.heap.size, 0, none⟩ = some (.slice Ar r.length cr) := (hk.cell (p := ⟨k6.heap.size, 0, none⟩) LT9).trans r0
  replace rf : k14.frozen? ⟨k6.heap.size, 0, none⟩ = false := (hk.frozen (p := ⟨k6.heap.size, 0, none⟩) LT9).trans rf
  replace q0 : k14.cell? ⟨k9.heap.size, 0, none⟩ = some (.slice Aq q.length cq) := (hk.cell (p := ⟨k9.heap.size, 0, none⟩) LT9).trans q0
  replace HOm := Lib.hid (ownsRow_below HOm.out hk)
  replace HOn := Lib.hid (ownsRow_below HOn.out hk)
  replace HD := Lib.hid (Dc.below HD.out hk)
  replace HC := Lib.hid (Dc.below HC.out hk)
  replace HBR := Lib.hid (Bx1.below HBR.out hk)
  replace HP := Lib.hid (Prs.more (Prs.keep HP.out hk (Nat.le_refl _)) (Below.size hk))
  replace HPQ := Lib.hid (Prs.more (Prs.keep HPQ.out hk (Nat.le_refl _)) (Below.size hk))
  replace hb : Below w.heap.size w k14 := hb.trans (hk.mono hb.size)
  have lt0 : k6.heap.size < k14.heap.size := LT9
  have lt1 : k9.heap.size < k14.heap.size := LT9
  clear h hk
  try dsimp only
  refine hK.out _ _ ?_ (fun hHeld => ?_)
  · exact ⟨r0, q0⟩
  clear hK K
  try simp only [Act.put, List.setIfInBounds_toArray, List.set_cons_zero, List.set_cons_succ]
  refine wpAnyH_take (i := 14) (oi := { dst := some 50, op := Op.pick (Operand.tmp 46) (Operand.tmp 49) (Operand.const (Value.bool false)), type := 4, pos := "law.go:115", after := #[{ on := 10, ground := Ground.data }, { on := 13, ground := Ground.data }], guard := none }) (v := .bool true) rfl (by kernel_rfl) (by kernel_rfl) (by kernel_rfl) (fun _ _ _ h => h) (Or.inl ⟨by rfl, fun w hSw => ?_⟩) (by assumption) ?_
  · (try dsimp only at hSw)
    go_simp
  try simp only [Act.put, List.setIfInBounds_toArray, List.set_cons_zero, List.set_cons_succ]
  refine wpAnyH_take (i := 15) (oi := { dst := some 51, op := Op.move (Operand.tmp 50), type := 4, pos := "law.go:115", after := #[{ on := 14, ground := Ground.data }, { on := 13, ground := Ground.chain }], guard := none }) (v := .bool true) rfl (by kernel_rfl) (by kernel_rfl) (by kernel_rfl) (fun _ _ _ h => h) (Or.inl ⟨by rfl, fun w hSw => ?_⟩) (by assumption) ?_
  · (try dsimp only at hSw)
    go_simp
  try simp only [Act.put, List.setIfInBounds_toArray, List.set_cons_zero, List.set_cons_succ]
  refine wpAnyH_take (i := 16) (oi := { dst := some 52, op := Op.move (Operand.tmp 7), type := 24, pos := "law.go:115", after := #[{ on := 15, ground := Ground.guard }], guard := some (15, true) }) (v := .pointer (some ⟨gc, 0, none⟩)) rfl (by kernel_rfl) (by kernel_rfl) (by kernel_rfl) (fun _ _ _ h => h) (Or.inl ⟨by rfl, fun w hSw => ?_⟩) (by assumption) ?_
  · (try dsimp only at hSw)
    go_simp
  try simp only [Act.put, List.setIfInBounds_toArray, List.set_cons_zero, List.set_cons_succ]
  refine wpAnyH_take (i := 17) (oi := { dst := some 53, op := Op.move (Operand.tmp 6), type := 24, pos := "law.go:115", after := #[{ on := 15, ground := Ground.guard }], guard := some (15, true) }) (v := .pointer (some ⟨k3.heap.size, 0, none⟩)) rfl (by kernel_rfl) (by kernel_rfl) (by kernel_rfl) (fun _ _ _ h => h) (Or.inl ⟨by rfl, fun w hSw => ?_⟩) (by assumption) ?_
  · (try dsimp only at hSw)
    go_simp
  try simp only [Act.put, List.setIfInBounds_toArray, List.set_cons_zero, List.set_cons_succ]
  refine wpAnyH_take (i := 19) (oi := { dst := some 55, op := Op.load 28 (Operand.tmp 9), type := 28, pos := "law.go:115", after := #[{ on := 15, ground := Ground.guard }], guard := some (15, true) }) (v := .agg #[.slice Aq q.length cq]) rfl (by kernel_rfl) (by kernel_rfl) (by kernel_rfl) (fun _ _ _ h => h) (Or.inl ⟨by rfl, fun w hSw => ?_⟩) (by assumption) ?_
  · (try dsimp only at hSw)
    go_simp
  try simp only [Act.put, List.setIfInBounds_toArray, List.set_cons_zero, List.set_cons_succ]
  refine wpAnyH_take (i := 22) (oi := { dst := some 58, op := Op.load 28 (Operand.tmp 8), type := 28, pos := "law.go:115", after := #[{ on := 15, ground := Ground.guard }], guard := some (15, true) }) (v := .agg #[.slice Ar r.length cr]) rfl (by kernel_rfl) (by kernel_rfl) (by kernel_rfl) (fun _ _ _ h => h) (Or.inl ⟨by rfl, fun w hSw => ?_⟩) (by assumption) ?_
  · (try dsimp only at hSw)
    go_simp
  try simp only [Act.put, List.setIfInBounds_toArray, List.set_cons_zero, List.set_cons_succ]
  refine wpAnyH_ready (rs := [18]) (by kernel_rfl) (by simp) ?_
  refine AllReadyH.cons (o := { dst := some 54, op := Op.call { callee := Callee.value (Operand.func 21), args := #[Operand.tmp 52, Operand.tmp 53], argTypes := #[24, 24] }, type := 4, pos := "law.go:115", after := #[{ on := 16, ground := Ground.data }, { on := 17, ground := Ground.data }, { on := 15, ground := Ground.chain }, { on := 15, ground := Ground.guard }], guard := some (15, true) }) rfl (fun K hK => ?_) (AllReadyH.nil)
  go_simp
  go_at_call 21
  refine (leq_is w.heap.size w.heap.size _ _ q r x _ HC.out HD.out HX.out).mono ?_
  rintro e k15 ⟨rfl, h⟩
  have hk : Below k14.heap.size k14 k15 := HK9 h
  have hz := h.size
  try simp at hz
  replace r0 : k15.cell? ⟨k6.heap.size, 0, none⟩ = some (.slice Ar r.length cr) := (hk.cell (p := ⟨k6.heap.size, 0, none⟩) LT9).trans r0
  replace rf : k15.frozen? ⟨k6.heap.size, 0, none⟩ = false := (hk.frozen (p := ⟨k6.heap.size, 0, none⟩) LT9).trans rf
  replace q0 : k15.cell? ⟨k9.heap.size, 0, none⟩ = some (.slice Aq q.length cq) := (hk.cell (p := ⟨k9.heap.size, 0, none⟩) LT9).trans q0
  replace HOm := Lib.hid (ownsRow_below HOm.out hk)
  replace HOn := Lib.hid (ownsRow_below HOn.out hk)
  replace HD := Lib.hid (Dc.below HD.out hk)
  replace HC := Lib.hid (Dc.below HC.out hk)
  replace HBR := Lib.hid (Bx1.below HBR.out hk)
  replace HP := Lib.hid (Prs.more (Prs.keep HP.out hk (Nat.le_refl _)) (Below.size hk))
  replace HPQ := Lib.hid (Prs.more (Prs.keep HPQ.out hk (Nat.le_refl _)) (Below.size hk))
  replace hb : Below w.heap.size w k15 := hb.trans (hk.mono hb.size)
  have lt0 : k6.heap.size < k15.heap.size := LT9
  have lt1 : k9.heap.size < k15.heap.size := LT9
  clear h hk
  try dsimp only
  refine hK.out _ _ ?_ (fun hHeld => ?_)
  · exact ⟨r0, q0⟩
  clear hK K
  try simp only [Act.put, List.setIfInBounds_toArray, List.set_cons_zero, List.set_cons_succ]
  refine wpAnyH_ready (rs := [20]) (by kernel_rfl) (by simp) ?_
  refine AllReadyH.cons (o := { dst := some 56, op := Op.call { callee := Callee.value (Operand.func 20), args := #[Operand.tmp 55], argTypes := #[28] }, type := 37, pos := "law.go:115", after := #[{ on := 19, ground := Ground.data }, { on := 18, ground := Ground.chain }, { on := 15, ground := Ground.guard }], guard := some (15, true) }) rfl (fun K hK => ?_) (AllReadyH.nil)
  go_simp
  go_at_call 20
  refine (lrenc_is _ _ q LQ _ HPQ.out (Nat.le_refl _) hgq9 HLQ.out).mono ?_
  rintro e k16 ⟨BLQ, dLQ, rfl, hE, h⟩
  have hk : Below k15.heap.size k15 k16 := HK9 h
  have hz := h.size
  try simp at hz
  replace r0 : k16.cell? ⟨k6.heap.size, 0, none⟩ = some (.slice Ar r.length cr) := (hk.cell (p := ⟨k6.heap.size, 0, none⟩) LT9).trans r0
  replace rf : k16.frozen? ⟨k6.heap.size, 0, none⟩ = false := (hk.frozen (p := ⟨k6.heap.size, 0, none⟩) LT9).trans rf
  replace q0 : k16.cell? ⟨k9.heap.size, 0, none⟩ = some (.slice Aq q.length cq) := (hk.cell (p := ⟨k9.heap.size, 0, none⟩) LT9).trans q0
  replace HOm := Lib.hid (ownsRow_below HOm.out hk)
  replace HOn := Lib.hid (ownsRow_below HOn.out hk)
  replace HD := Lib.hid (Dc.below HD.out hk)
  replace HC := Lib.hid (Dc.below HC.out hk)
  replace HBR := Lib.hid (Bx1.below HBR.out hk)
  replace HP := Lib.hid (Prs.more (Prs.keep HP.out hk (Nat.le_refl _)) (Below.size hk))
  replace HPQ := Lib.hid (Prs.more (Prs.keep HPQ.out hk (Nat.le_refl _)) (Below.size hk))
  replace hb : Below w.heap.size w k16 := hb.trans (hk.mono hb.size)
  have lt0 : k6.heap.size < k16.heap.size := LT9
  have lt1 : k9.heap.size < k16.heap.size := LT9
  have HELQ := Lib.hid hE; clear hE
  clear h hk
  try dsimp only
  refine hK.out _ _ ?_ (fun hHeld => ?_)
  · exact ⟨r0, q0⟩
  clear hK K
  try simp only [Act.put, List.setIfInBounds_toArray, List.set_cons_zero, List.set_cons_succ]
  refine wpAnyH_ready (rs := [21, 23]) (by kernel_rfl) (by simp) ?_
  refine AllReadyH.cons (o := { dst := some 57, op := Op.convert 37 9 (Operand.tmp 56), type := 9, pos := "law.go:115", after := #[{ on := 20, ground := Ground.data }, { on := 15, ground := Ground.guard }], guard := some (15, true) }) rfl (fun K hK => ?_) (AllReadyH.cons (o := { dst := some 59, op := Op.call { callee := Callee.value (Operand.func 20), args := #[Operand.tmp 58], argTypes := #[28] }, type := 37, pos := "law.go:115", after := #[{ on := 22, ground := Ground.data }, { on := 20, ground := Ground.chain }, { on := 15, ground := Ground.guard }], guard := some (15, true) }) rfl (fun K hK => ?_) (AllReadyH.nil))
  · have hcv := conv6 (Byt.of_own HELQ.out) HSQ.out
    go_simp
    refine hK.out _ _ ?_ (fun hHeld => ?_)
    · exact ⟨r0, q0⟩
    clear hK K
    try simp only [Act.put, List.setIfInBounds_toArray, List.set_cons_zero, List.set_cons_succ]
    refine wpAnyH_ready (rs := [23]) (by kernel_rfl) (by simp) ?_
    refine AllReadyH.cons (o := { dst := some 59, op := Op.call { callee := Callee.value (Operand.func 20), args := #[Operand.tmp 58], argTypes := #[28] }, type := 37, pos := "law.go:115", after := #[{ on := 22, ground := Ground.data }, { on := 20, ground := Ground.chain }, { on := 15, ground := Ground.guard }], guard := some (15, true) }) rfl (fun K hK => ?_) (AllReadyH.nil)
    go_simp
    go_at_call 20
    refine (lrenc_is _ _ r LR _ HP.out (Nat.le_refl _) hgr9 HLR.out).mono ?_
    rintro e k17 ⟨BLR, dLR, rfl, hE, h⟩
    have hk : Below k16.heap.size k16 k17 := HK9 h
    have hz := h.size
    try simp at hz
    replace r0 : k17.cell? ⟨k6.heap.size, 0, none⟩ = some (.slice Ar r.length cr) := (hk.cell (p := ⟨k6.heap.size, 0, none⟩) LT9).trans r0
    replace rf : k17.frozen? ⟨k6.heap.size, 0, none⟩ = false := (hk.frozen (p := ⟨k6.heap.size, 0, none⟩) LT9).trans rf
    replace q0 : k17.cell? ⟨k9.heap.size, 0, none⟩ = some (.slice Aq q.length cq) := (hk.cell (p := ⟨k9.heap.size, 0, none⟩) LT9).trans q0
    replace HOm := Lib.hid (ownsRow_below HOm.out hk)
    replace HOn := Lib.hid (ownsRow_below HOn.out hk)
    replace HD := Lib.hid (Dc.below HD.out hk)
    replace HC := Lib.hid (Dc.below HC.out hk)
    replace HBR := Lib.hid (Bx1.below HBR.out hk)
    replace HP := Lib.hid (Prs.more (Prs.keep HP.out hk (Nat.le_refl _)) (Below.size hk))
    replace HPQ := Lib.hid (Prs.more (Prs.keep HPQ.out hk (Nat.le_refl _)) (Below.size hk))
    replace HELQ := Lib.hid (ownsRow_below HELQ.out hk)
    replace hb : Below w.heap.size w k17 := hb.trans (hk.mono hb.size)
    have lt0 : k6.heap.size < k17.heap.size := LT9
    have lt1 : k9.heap.size < k17.heap.size := LT9
    have HELR := Lib.hid hE; clear hE
    clear h hk
    try dsimp only
    refine hK.out _ _ ?_ (fun hHeld => ?_)
    · exact ⟨r0, q0⟩
    clear hK K
    try simp only [Act.put, List.setIfInBounds_toArray, List.set_cons_zero, List.set_cons_succ]
    refine wpAnyH_ready (rs := [24]) (by kernel_rfl) (by simp) ?_
    refine AllReadyH.cons (o := { dst := some 60, op := Op.convert 37 9 (Operand.tmp 59), type := 9, pos := "law.go:115", after := #[{ on := 23, ground := Ground.data }, { on := 15, ground := Ground.guard }], guard := some (15, true) }) rfl (fun K hK => ?_) (AllReadyH.nil)
    have hcv := conv6 (Byt.of_own HELR.out) HSR.out
    go_simp
    refine hK.out _ _ ?_ (fun hHeld => ?_)
    · exact ⟨r0, q0⟩
    clear hK K
    try simp only [Act.put, List.setIfInBounds_toArray, List.set_cons_zero, List.set_cons_succ]
    refine wpAnyH_take (i := 25) (oi := { dst := some 61, op := Op.binOp BinOp.eql 9 (Operand.tmp 57) (Operand.tmp 60) 9, type := 4, pos := "law.go:115", after := #[{ on := 21, ground := Ground.data }, { on := 24, ground := Ground.data }, { on := 15, ground := Ground.guard }], guard := some (15, true) }) (v := .bool x) rfl (by kernel_rfl) (by kernel_rfl) (by kernel_rfl) (fun _ _ _ h => h) (Or.inl ⟨by rfl, fun w hSw => ?_⟩) (by assumption) ?_
    · (try dsimp only at hSw)
      go_simp
    try simp only [Act.put, List.setIfInBounds_toArray, List.set_cons_zero, List.set_cons_succ]
    refine wpAnyH_take (i := 26) (oi := { dst := some 62, op := Op.binOp BinOp.eql 4 (Operand.tmp 54) (Operand.tmp 61) 4, type := 4, pos := "law.go:115", after := #[{ on := 18, ground := Ground.data }, { on := 25, ground := Ground.data }, { on := 15, ground := Ground.guard }], guard := some (15, true) }) (v := .bool true) rfl (by kernel_rfl) (by kernel_rfl) (by kernel_rfl) (fun _ _ _ h => h) (Or.inl ⟨by rfl, fun w hSw => ?_⟩) (by assumption) ?_
    · (try dsimp only at hSw)
      go_simp
    try simp only [Act.put, List.setIfInBounds_toArray, List.set_cons_zero, List.set_cons_succ]
    refine wpAnyH_take (i := 27) (oi := { dst := some 63, op := Op.pick (Operand.tmp 51) (Operand.tmp 62) (Operand.const (Value.bool false)), type := 4, pos := "law.go:115", after := #[{ on := 15, ground := Ground.data }, { on := 26, ground := Ground.data }], guard := none }) (v := .bool true) rfl (by kernel_rfl) (by kernel_rfl) (by kernel_rfl) (fun _ _ _ h => h) (Or.inl ⟨by rfl, fun w hSw => ?_⟩) (by assumption) ?_
    · (try dsimp only at hSw)
      go_simp
    try simp only [Act.put, List.setIfInBounds_toArray, List.set_cons_zero, List.set_cons_succ]
    refine wpAnyH_ready (rs := [28]) (by kernel_rfl) (by simp) ?_
    refine AllReadyH.cons (o := _) rfl (fun K hK => ?_) (AllReadyH.nil)
    go_simp
    refine hK.out _ _ ?_ (fun hHeld => ?_)
    · exact ⟨r0, q0⟩
    clear hK K
    try simp only [Act.put, List.setIfInBounds_toArray, List.set_cons_zero, List.set_cons_succ]
    refine wpAnyH_done (by kernel_rfl) ?_ _
    refine NoPanic.normal ?_
    go_wp2
    go_ret
    exact ⟨by first | rfl | simp, hb⟩
  · go_simp
    go_at_call 20
    refine (lrenc_is _ _ r LR _ HP.out (Nat.le_refl _) hgr9 HLR.out).mono ?_
    rintro e k17 ⟨BLR, dLR, rfl, hE, h⟩
    have hk : Below k16.heap.size k16 k17 := HK9 h
    have hz := h.size
    try simp at hz
    replace r0 : k17.cell? ⟨k6.heap.size, 0, none⟩ = some (.slice Ar r.length cr) := (hk.cell (p := ⟨k6.heap.size, 0, none⟩) LT9).trans r0
    replace rf : k17.frozen? ⟨k6.heap.size, 0, none⟩ = false := (hk.frozen (p := ⟨k6.heap.size, 0, none⟩) LT9).trans rf
    replace q0 : k17.cell? ⟨k9.heap.size, 0, none⟩ = some (.slice Aq q.length cq) := (hk.cell (p := ⟨k9.heap.size, 0, none⟩) LT9).trans q0
    replace HOm := Lib.hid (ownsRow_below HOm.out hk)
    replace HOn := Lib.hid (ownsRow_below HOn.out hk)
    replace HD := Lib.hid (Dc.below HD.out hk)
    replace HC := Lib.hid (Dc.below HC.out hk)
    replace HBR := Lib.hid (Bx1.below HBR.out hk)
    replace HP := Lib.hid (Prs.more (Prs.keep HP.out hk (Nat.le_refl _)) (Below.size hk))
    replace HPQ := Lib.hid (Prs.more (Prs.keep HPQ.out hk (Nat.le_refl _)) (Below.size hk))
    replace HELQ := Lib.hid (ownsRow_below HELQ.out hk)
    replace hb : Below w.heap.size w k17 := hb.trans (hk.mono hb.size)
    have lt0 : k6.heap.size < k17.heap.size := LT9
    have lt1 : k9.heap.size < k17.heap.size := LT9
    have HELR := Lib.hid hE; clear hE
    clear h hk
    try dsimp only
    refine hK.out _ _ ?_ (fun hHeld => ?_)
    · exact ⟨r0, q0⟩
    clear hK K
    try simp only [Act.put, List.setIfInBounds_toArray, List.set_cons_zero, List.set_cons_succ]
    refine wpAnyH_ready (rs := [21, 24]) (by kernel_rfl) (by simp) ?_
    refine AllReadyH.cons (o := { dst := some 57, op := Op.convert 37 9 (Operand.tmp 56), type := 9, pos := "law.go:115", after := #[{ on := 20, ground := Ground.data }, { on := 15, ground := Ground.guard }], guard := some (15, true) }) rfl (fun K hK => ?_) (AllReadyH.cons (o := { dst := some 60, op := Op.convert 37 9 (Operand.tmp 59), type := 9, pos := "law.go:115", after := #[{ on := 23, ground := Ground.data }, { on := 15, ground := Ground.guard }], guard := some (15, true) }) rfl (fun K hK => ?_) (AllReadyH.nil))
    · have hcv := conv6 (Byt.of_own HELQ.out) HSQ.out
      go_simp
      refine hK.out _ _ ?_ (fun hHeld => ?_)
      · exact ⟨r0, q0⟩
      clear hK K
      try simp only [Act.put, List.setIfInBounds_toArray, List.set_cons_zero, List.set_cons_succ]
      refine wpAnyH_ready (rs := [24]) (by kernel_rfl) (by simp) ?_
      refine AllReadyH.cons (o := { dst := some 60, op := Op.convert 37 9 (Operand.tmp 59), type := 9, pos := "law.go:115", after := #[{ on := 23, ground := Ground.data }, { on := 15, ground := Ground.guard }], guard := some (15, true) }) rfl (fun K hK => ?_) (AllReadyH.nil)
      have hcv := conv6 (Byt.of_own HELR.out) HSR.out
      go_simp
      refine hK.out _ _ ?_ (fun hHeld => ?_)
      · exact ⟨r0, q0⟩
      clear hK K
      try simp only [Act.put, List.setIfInBounds_toArray, List.set_cons_zero, List.set_cons_succ]
      refine wpAnyH_take (i := 25) (oi := { dst := some 61, op := Op.binOp BinOp.eql 9 (Operand.tmp 57) (Operand.tmp 60) 9, type := 4, pos := "law.go:115", after := #[{ on := 21, ground := Ground.data }, { on := 24, ground := Ground.data }, { on := 15, ground := Ground.guard }], guard := some (15, true) }) (v := .bool x) rfl (by kernel_rfl) (by kernel_rfl) (by kernel_rfl) (fun _ _ _ h => h) (Or.inl ⟨by rfl, fun w hSw => ?_⟩) (by assumption) ?_
      · (try dsimp only at hSw)
        go_simp
      try simp only [Act.put, List.setIfInBounds_toArray, List.set_cons_zero, List.set_cons_succ]
      refine wpAnyH_take (i := 26) (oi := { dst := some 62, op := Op.binOp BinOp.eql 4 (Operand.tmp 54) (Operand.tmp 61) 4, type := 4, pos := "law.go:115", after := #[{ on := 18, ground := Ground.data }, { on := 25, ground := Ground.data }, { on := 15, ground := Ground.guard }], guard := some (15, true) }) (v := .bool true) rfl (by kernel_rfl) (by kernel_rfl) (by kernel_rfl) (fun _ _ _ h => h) (Or.inl ⟨by rfl, fun w hSw => ?_⟩) (by assumption) ?_
      · (try dsimp only at hSw)
        go_simp
      try simp only [Act.put, List.setIfInBounds_toArray, List.set_cons_zero, List.set_cons_succ]
      refine wpAnyH_take (i := 27) (oi := { dst := some 63, op := Op.pick (Operand.tmp 51) (Operand.tmp 62) (Operand.const (Value.bool false)), type := 4, pos := "law.go:115", after := #[{ on := 15, ground := Ground.data }, { on := 26, ground := Ground.data }], guard := none }) (v := .bool true) rfl (by kernel_rfl) (by kernel_rfl) (by kernel_rfl) (fun _ _ _ h => h) (Or.inl ⟨by rfl, fun w hSw => ?_⟩) (by assumption) ?_
      · (try dsimp only at hSw)
        go_simp
      try simp only [Act.put, List.setIfInBounds_toArray, List.set_cons_zero, List.set_cons_succ]
      refine wpAnyH_ready (rs := [28]) (by kernel_rfl) (by simp) ?_
      refine AllReadyH.cons (o := _) rfl (fun K hK => ?_) (AllReadyH.nil)
      go_simp
      refine hK.out _ _ ?_ (fun hHeld => ?_)
      · exact ⟨r0, q0⟩
      clear hK K
      try simp only [Act.put, List.setIfInBounds_toArray, List.set_cons_zero, List.set_cons_succ]
      refine wpAnyH_done (by kernel_rfl) ?_ _
      refine NoPanic.normal ?_
      go_wp2
      go_ret
      exact ⟨by first | rfl | simp, hb⟩
    · have hcv := conv6 (Byt.of_own HELR.out) HSR.out
      go_simp
      refine hK.out _ _ ?_ (fun hHeld => ?_)
      · exact ⟨r0, q0⟩
      clear hK K
      try simp only [Act.put, List.setIfInBounds_toArray, List.set_cons_zero, List.set_cons_succ]
      refine wpAnyH_ready (rs := [21]) (by kernel_rfl) (by simp) ?_
      refine AllReadyH.cons (o := { dst := some 57, op := Op.convert 37 9 (Operand.tmp 56), type := 9, pos := "law.go:115", after := #[{ on := 20, ground := Ground.data }, { on := 15, ground := Ground.guard }], guard := some (15, true) }) rfl (fun K hK => ?_) (AllReadyH.nil)
      have hcv := conv6 (Byt.of_own HELQ.out) HSQ.out
      go_simp
      refine hK.out _ _ ?_ (fun hHeld => ?_)
      · exact ⟨r0, q0⟩
      clear hK K
      try simp only [Act.put, List.setIfInBounds_toArray, List.set_cons_zero, List.set_cons_succ]
      refine wpAnyH_take (i := 25) (oi := { dst := some 61, op := Op.binOp BinOp.eql 9 (Operand.tmp 57) (Operand.tmp 60) 9, type := 4, pos := "law.go:115", after := #[{ on := 21, ground := Ground.data }, { on := 24, ground := Ground.data }, { on := 15, ground := Ground.guard }], guard := some (15, true) }) (v := .bool x) rfl (by kernel_rfl) (by kernel_rfl) (by kernel_rfl) (fun _ _ _ h => h) (Or.inl ⟨by rfl, fun w hSw => ?_⟩) (by assumption) ?_
      · (try dsimp only at hSw)
        go_simp
      try simp only [Act.put, List.setIfInBounds_toArray, List.set_cons_zero, List.set_cons_succ]
      refine wpAnyH_take (i := 26) (oi := { dst := some 62, op := Op.binOp BinOp.eql 4 (Operand.tmp 54) (Operand.tmp 61) 4, type := 4, pos := "law.go:115", after := #[{ on := 18, ground := Ground.data }, { on := 25, ground := Ground.data }, { on := 15, ground := Ground.guard }], guard := some (15, true) }) (v := .bool true) rfl (by kernel_rfl) (by kernel_rfl) (by kernel_rfl) (fun _ _ _ h => h) (Or.inl ⟨by rfl, fun w hSw => ?_⟩) (by assumption) ?_
      · (try dsimp only at hSw)
        go_simp
      try simp only [Act.put, List.setIfInBounds_toArray, List.set_cons_zero, List.set_cons_succ]
      refine wpAnyH_take (i := 27) (oi := { dst := some 63, op := Op.pick (Operand.tmp 51) (Operand.tmp 62) (Operand.const (Value.bool false)), type := 4, pos := "law.go:115", after := #[{ on := 15, ground := Ground.data }, { on := 26, ground := Ground.data }], guard := none }) (v := .bool true) rfl (by kernel_rfl) (by kernel_rfl) (by kernel_rfl) (fun _ _ _ h => h) (Or.inl ⟨by rfl, fun w hSw => ?_⟩) (by assumption) ?_
      · (try dsimp only at hSw)
        go_simp
      try simp only [Act.put, List.setIfInBounds_toArray, List.set_cons_zero, List.set_cons_succ]
      refine wpAnyH_ready (rs := [28]) (by kernel_rfl) (by simp) ?_
      refine AllReadyH.cons (o := _) rfl (fun K hK => ?_) (AllReadyH.nil)
      go_simp
      refine hK.out _ _ ?_ (fun hHeld => ?_)
      · exact ⟨r0, q0⟩
      clear hK K
      try simp only [Act.put, List.setIfInBounds_toArray, List.set_cons_zero, List.set_cons_succ]
      refine wpAnyH_done (by kernel_rfl) ?_ _
      refine NoPanic.normal ?_
      go_wp2
      go_ret
      exact ⟨by first | rfl | simp, hb⟩

set_option maxRecDepth 100000 in
theorem lifted (os : Os) (started : os.Started) (H : Type) (enc : TypeId × Value → H) :
    ReturnsInHanded {} Try.checked os 5 .any (Rows.docCopiesSpec.pre6 enc Try.prog Try.f5 Rows.docCopiesRow.domain false) (Rows.docCopiesSpec.post enc Try.prog Try.f5 false true false false) := by
  refine returnsInHanded_of_change (C := Try.checked) own started (by kernel_rfl) Try.func5
    (ChangeSpec.witness6 (enc := enc) (C := Try.checked) false ⟨#[], #[.slice none 0 0, .slice none 0 0], []⟩ 8 (by kernel_rfl) (by kernel_rfl) (by kernel_rfl) (by kernel_rfl)) ?_
  intro W base args ds gs before hval0 hW hcnd _
  have hval : ∀ (j : Nat) t v, Try.f5.params[j]? = some t → args[j]? = some v → Value.okWide Try.prog W .any base t v := hval0
  have hW' := hW
  obtain ⟨p, q, hA0, hV, rfl, hfz, hnd⟩ := hW
  have hA : DataW.TrodAll enc Try.prog W 0 (fun _ => true) true Try.f5.params.toList args.toList ds p := hA0
  have hA1 := hA
  rw [Try.params5] at hA hval
  obtain ⟨v0, vs0, d0, ds0, p0, q0, hargs, rfl, rfl, h0, r0⟩ := trodAll_cons hA
  obtain ⟨v1, vs1, d1, ds1, p1, q1, rfl, rfl, rfl, h1, r1⟩ := trodAll_cons r0
  obtain ⟨rfl, rfl, rfl⟩ := trodAll_nil r1
  obtain rfl : args = #[v0, v1] := by cases args; simp_all
  obtain ⟨rfl, rfl⟩ := trodVars_none hV
  obtain ⟨A0, c0, a0, rfl, w0, x0⟩ := open_opns (hval 0 29 v0 rfl rfl) h0
  obtain ⟨A1, c1, a1, rfl, w1, x1⟩ := open_opns (hval 1 29 v1 rfl rfl) h1
  clear hA0 hval0
  simp only [List.append_nil] at hW'
  try simp only [List.append_nil] at hA1
  refine (walk W A0 c0 a0 w0 x0 A1 c1 a1 w1 x1).mono fun e W' ⟨he, hg⟩ => ?_
  subst he
  exact ⟨_, rfl, law_end Try.laidOut (by kernel_rfl) hW' hA1 hg rfl rfl rfl (trodAll_mk1 (shut_bool Try.underlying4 _))⟩

theorem over : Rows.docCopiesRow.holds Try.pinned (OpenSpec.ofChange Rows.docCopiesSpec) :=
  OpenClaim.holds_of_wide 5 Try.f5 rfl rfl rfl rfl rfl rfl rfl ⟨rfl, rfl, rfl, rfl, rfl⟩ rfl rfl rfl rfl rfl (by kernel_rfl) Try.func5 (by kernel_rfl)
    (of_decide_eq_true (by kernel_rfl)) (by unfold Func.isWrapper; first | (rw [if_pos (by decide +kernel)]; kernel_rfl) | (rw [if_neg (by decide +kernel)]; exact ⟨rfl, rfl⟩))
    (fun os started H enc _ => lifted os started H enc)

/-- the statement -/
theorem proved : Rows.DocCopiesSaid := over
#print axioms proved
end Go.Proofs.Ytkgfbfopopmbhaa.docCopies
