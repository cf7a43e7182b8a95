/-
  A document goes to its bytes and back; other bytes are no document's. There are no conditions.
-/
import Derived.Test.YtkgfbfopopmbhaaRows
import Derived.Test.YtkgfbfopopmbhaaL6Box
import Derived.Test.YtkgfbfopopmbhaaL6Open
import Derived.Test.YtkgfbfopopmbhaaL6Tells
import Derived.Test.YtkgfbfopopmbhaaL4Tells
import Derived.Test.YtkgfbfopopmbhaaLawKit
import Derived.WalkKit
import Derived.ProofKit
import Derived.OpenShut
import Derived.ShutString
set_option linter.unusedSimpArgs false
set_option linter.unusedVariables false
namespace Go.Proofs.Ytkgfbfopopmbhaa.docBytes
open Go.ChangeShapes Go.WideShapes Go.ChangeAt Go.RowKit
open Go.ChangeMaps (open_string shut_string)
set_option linter.unusedVariables false

theorem own : ownKnob Try.prog.godebug = none := by kernel_rfl

set_option maxRecDepth 100000 in
set_option maxHeartbeats 8000000 in
theorem walk (w : World) (A0 : Option Addr) (c0 : Nat) (a0 : List (List Opn)) (w0 : Opss w w.heap.size (.slice A0 a0.length c0) a0) (x0 : ∀ l ∈ a0, ∀ x ∈ l, x.fit) (a1 : Int) (w1 : (Lit.int .i64 a1).wf = true) (a2 : Int) (w2 : (Lit.int .u8 a2).wf = true) (A3 : Option Addr) (c3 : Nat) (a3 : List UInt8) (w3 : Byt w w.heap.size (.slice A3 a3.length c3) a3) (x3 : a3.length ≤ maxLen) :
    Calls Try.prog 4 #[.slice A0 a0.length c0, .int .i64 a1, .int .u8 a2, .slice A3 a3.length c3] w fun e w' => e = .returned (.bool true) ∧ Below w.heap.size w w' := by
  have HA := Lib.hid w0; clear w0
  have HF := Lib.hid x0; clear x0
  have hn1 := wf_i64 w1
  have hn2 := bounds_u8 w2
  have HRAW := Lib.hid w3; clear w3
  have hb := Below.refl w.heap.size w
  go_enter Try.func4, Try.ntmps4
  go_wp2_with fail
  refine (begun6_any _).mono ?_
  rintro e k1 ⟨rfl, h⟩
  have hk : Below w.heap.size w k1 := HK9 h
  have hz := h.size
  try simp at hz
  replace hb : Below w.heap.size w k1 := hb.trans (hk.mono hb.size)
  clear h hk
  go_wp2_with fail
  refine (lnew_is w.heap.size _ (by have := hb.size; first | omega | exact Nat.le_refl _ | (simp; omega))).mono ?_
  rintro e k2 ⟨rfl, hd9, h⟩
  have hk : Below k1.heap.size k1 k2 := HK9 h
  have hz := h.size
  try simp at hz
  replace hb : Below w.heap.size w k2 := hb.trans (hk.mono hb.size)
  clear h hk
  have HD := Lib.hid hd9; clear hd9
  have hltHD : k1.heap.size < k2.heap.size := HD.out.lt
  go_wp2_with fail
  refine wp_world (fun W => W.cell? ⟨k2.heap.size, 0, none⟩ = some (.slice none 0 0) ∧ W.frozen? ⟨k2.heap.size, 0, none⟩ = false ∧ Bx1 W (k2.heap.size) 28 (.slice none 0 0) ∧ Below (k2.heap.size) k2 W ∧ k2.heap.size + 1 ≤ W.heap.size) ⟨(by go_simp), (by go_simp), (by first | exact Bx1.new _ _ _ | exact Bx1.below (Bx1.new _ _ _) (below_one _ _)), BL9, LT9⟩ ?_
  rintro k3 ⟨r0, r0f, bHB, hk, hz⟩
  replace HD := Lib.hid (Dc.below HD.out hk)
  replace hb : Below w.heap.size w k3 := hb.trans (hk.mono (by first | exact hb.size | omega | (simp; omega)))
  have lt0 : k2.heap.size < k3.heap.size := LT9
  clear hk
  have HB := Lib.hid bHB; clear bHB
  go_loopw [12] (fun i wr => ∃ (k : Nat) (r : List Par) (Ar : Option Addr) (cr : Nat), i = .int .i64 k ∧ k ≤ a0.length ∧ Dc wr w.heap.size (k1.heap.size) r ∧ Bx1 wr (k2.heap.size) 28 (.slice Ar r.length cr) ∧ Prs wr wr.heap.size (.slice Ar r.length cr) r ∧ Below w.heap.size w wr) (fun i _ => a0.length - (intOf i).toNat)
  case atStart => exact ⟨0, [], none, 0, rfl, Nat.zero_le _, HD.out, HB.out, prs_nil _ _, hb⟩
  case round =>
    have hG9 : k1.heap.size < k2.heap.size := by omega
    have hw9 : w.heap.size ≤ k1.heap.size := HD.out.lo
    clear r0 r0f hb HD HB
    obtain ⟨k, r, Ar, cr, rfl, hk, hd, hbx, hp, hb⟩ := hrel
    have HD := Lib.hid hd; clear hd
    have HB := Lib.hid hbx; clear hbx
    have HP := Lib.hid hp; clear hp
    have r0 := HB.out.cell
    have r0f := HB.out.frz
    have hltB := HB.out.lt
    by_cases hkn : k < a0.length ∧ k < 20
    · obtain ⟨hkl, hk30⟩ := hkn
      obtain ⟨ga, oa, Ak, ck, rfl, hga, hcell, hops⟩ := HA.out.at_ k hkl
      have hfit := HF.out a0[k] (List.getElem_mem ..)
      obtain ⟨os, hos⟩ : ∃ os, a0[k] = os := ⟨_, rfl⟩
      rw [hos] at hcell hops hfit
      clear hos
      have hki : (k : Int) < (a0.length : Int) := by omega
      have hki3 : (k : Int) < 20 := by omega
      have c0 := (hb.cell (p := ⟨ga, oa + k, none⟩) hga).trans hcell
      have HO := Lib.hid hops; clear hops hcell
      have HI := Lib.hid hfit; clear hfit
      have hltA : ga < wr.heap.size := Nat.lt_of_lt_of_le hga hb.size
      go_wp2_with fail
      refine (lcut_is w.heap.size w.heap.size _ os _ (HO.out.keep (BB9 hb) (Nat.le_refl _)) (by have := hb.size; first | exact hb.size | omega | (simp; omega)) (by have := hb.size; first | exact hb.size | omega | (simp; omega)) HI.out).mono ?_
      rintro e k11 ⟨Am, cm, m, rfl, ⟨ho9, hlm, hok9⟩, h⟩
      have hk : Below wr.heap.size wr k11 := HK9 h
      have hz := h.size
      try simp at hz
      replace r0 : k11.cell? ⟨k2.heap.size, 0, none⟩ = some (.slice Ar r.length cr) := (hk.cell (p := ⟨k2.heap.size, 0, none⟩) LT9).trans r0
      replace r0f : k11.frozen? ⟨k2.heap.size, 0, none⟩ = false := (hk.frozen (p := ⟨k2.heap.size, 0, none⟩) LT9).trans r0f
      replace c0 : k11.cell? ⟨ga, oa + k, none⟩ = some (.slice Ak os.length ck) := (hk.cell (p := ⟨ga, oa + k, none⟩) LT9).trans c0
      replace HD := Lib.hid (Dc.below HD.out hk)
      replace HB := Lib.hid (Bx1.below HB.out hk)
      replace HP := Lib.hid (Prs.more (Prs.keep HP.out hk (Nat.le_refl _)) (Below.size hk))
      replace hb : Below w.heap.size w k11 := hb.trans (hk.mono hb.size)
      have hltB : k2.heap.size < k11.heap.size := LT9
      have hltA : ga < k11.heap.size := LT9
      have HOm := Lib.hid ho9; clear ho9
      have HOKm := Lib.hid hok9; clear hok9
      clear h hk
      obtain ⟨⟨r2, e1⟩, hr⟩ : ∃ x, dApply r m = x := ⟨_, rfl⟩
      have hgr9 : Gd r := HD.out.1
      have hgr2 : Gd r2 := by have := hgr9.apply HOKm.out; rw [hr] at this; exact this
      have HR := Lib.hid hr; clear hr
      go_wp2_with fail
      refine (lapply_is w.heap.size _ _ _ r r2 m e1 _ (Dc.below HD.out BL9) (Ops.of_own (ownsRow_below HOm.out BL9)) (Nat.le_refl _) HOKm.out HR.out).mono ?_
      rintro e k12 ⟨rfl, hd9, hgr⟩
      have hz9 := hgr.size
      have hbe : Below k11.heap.size k11 _ := Below.refl _ _
      clear hbe
      try simp at hz9
      replace hb : Below w.heap.size w k12 := Dc.frame (w0 := w) (hb := hgr) (h := Dc.below HD.out BL9) (h0 := (BB9 hb)) (hB := by have := hb.size; first | omega | (simp; omega))
      replace HB := Lib.hid (Bx1.grown (hb := hgr) (h := Bx1.below HB.out BL9) (hd := Dc.below HD.out BL9) (ht := by decide))
      replace HP := Lib.hid (Prs.more (prs_grown (hb := hgr) (h := Prs.keep HP.out BL9 (Nat.le_refl _)) (hd := Dc.below HD.out BL9)) (Nat.le_trans LT9 hgr.size))
      replace HOm := Lib.hid (ownsRow_grown (hb := hgr) (h := ownsRow_below HOm.out BL9) (hd := Dc.below HD.out BL9) (hne := by decide))
      have r0N : k12.cell? ⟨k2.heap.size, 0, none⟩ = some (.slice Ar r.length cr) := (hgr.cell_far ⟨k2.heap.size, 0, none⟩ LT9 (fun e => by injection e with e; simp only at e; omega)).trans (by go_simp)
      clear r0
      have r0 := r0N; clear r0N
      have r0fN : k12.frozen? ⟨k2.heap.size, 0, none⟩ = false := (hgr.frozen_far ⟨k2.heap.size, 0, none⟩ LT9 (fun e => by injection e with e; simp only at e; omega)).trans (by go_simp)
      clear r0f
      have r0f := r0fN; clear r0fN
      have c0N : k12.cell? ⟨ga, oa + k, none⟩ = some (.slice Ak os.length ck) := (hgr.cell_far ⟨ga, oa + k, none⟩ LT9 (fun e => by injection e with e; simp only at e; omega)).trans (by go_simp)
      clear c0
      have c0 := c0N; clear c0N
      replace HD := Lib.hid hd9
      clear hd9
      have hltB : k2.heap.size < k12.heap.size := LT9
      have hltA : ga < k12.heap.size := LT9
      clear hgr
      go_wp2_with fail
      refine (lrapply_is _ _ _ _ r r2 m e1 _ (Prs.keep HP.out BL9 (Nat.le_refl _)) (by first | exact Nat.le_refl _ | (simp; done) | (simp; omega) | omega) (Ops.of_own (ownsRow_below HOm.out BL9)) (Nat.le_refl _) hgr9 HOKm.out HR.out).mono ?_
      rintro e k13 ⟨Ax, cx, rfl, hp9, h⟩
      have hk : Below k12.heap.size k12 k13 := HK9 h
      have hz := h.size
      try simp at hz
      replace r0 : k13.cell? ⟨k2.heap.size, 0, none⟩ = some (.slice Ar r.length cr) := (hk.cell (p := ⟨k2.heap.size, 0, none⟩) LT9).trans r0
      replace r0f : k13.frozen? ⟨k2.heap.size, 0, none⟩ = false := (hk.frozen (p := ⟨k2.heap.size, 0, none⟩) LT9).trans r0f
      replace c0 : k13.cell? ⟨ga, oa + k, none⟩ = some (.slice Ak os.length ck) := (hk.cell (p := ⟨ga, oa + k, none⟩) LT9).trans c0
      replace HD := Lib.hid (Dc.below HD.out hk)
      replace HB := Lib.hid (Bx1.below HB.out hk)
      replace HP := Lib.hid (Prs.more (Prs.keep HP.out hk (Nat.le_refl _)) (Below.size hk))
      replace HOm := Lib.hid (ownsRow_below HOm.out hk)
      replace hb : Below w.heap.size w k13 := hb.trans (hk.mono hb.size)
      have hltB : k2.heap.size < k13.heap.size := LT9
      have hltA : ga < k13.heap.size := LT9
      have HPX := Lib.hid hp9; clear hp9
      clear h hk
      go_wp2_with fail
      obtain ⟨k14, hk14⟩ : ∃ x, k13.setCell ⟨k2.heap.size, 0, none⟩ (.slice Ax r2.length cx) = x := ⟨_, rfl⟩
      replace HD := Lib.hid (box_doc (u := .slice Ax r2.length cx) HD.out HB.out (by decide) (by decide))
      rw [hk14] at HD
      replace HP := Lib.hid (box_prs (u := .slice Ax r2.length cx) HP.out HB.out)
      rw [hk14] at HP
      replace HOm := Lib.hid (box_own (u := .slice Ax r2.length cx) HOm.out HB.out (by decide))
      rw [hk14] at HOm
      replace HPX := Lib.hid (box_prs (u := .slice Ax r2.length cx) HPX.out HB.out)
      rw [hk14] at HPX
      replace HB := Lib.hid (Bx1.set HB.out (.slice Ax r2.length cx))
      rw [hk14] at HB
      replace r0 : k14.cell? ⟨k2.heap.size, 0, none⟩ = some (.slice Ax r2.length cx) := Bx1.cell HB.out
      replace r0f : k14.frozen? ⟨k2.heap.size, 0, none⟩ = false := Bx1.frz HB.out
      replace c0 : k14.cell? ⟨ga, oa + k, none⟩ = some (.slice Ak os.length ck) := by rw [← hk14]; exact (World.cell?_setCell_other _ _ _ _ (fun e => by injection e with e; omega)).trans c0
      have hzk14 : k14.heap.size = k13.heap.size := by rw [← hk14]; exact nblk_set _ _ _
      replace hb : Below w.heap.size w k14 := by
        rw [← hk14]
        exact hb.setCell (by first | omega | (simp; omega)) _
      rw [← hzk14] at HP
      rw [← hzk14] at HPX
      rw [hk14]
      clear hk14
      have hltB : k2.heap.size < k14.heap.size := LT9
      have hltA : ga < k14.heap.size := LT9
      go_roundw
      case rel => exact ⟨k + 1, r2, Ax, cx, by go_num, by omega, (Dc.below HD.out BL9), (Bx1.below HB.out BL9), Prs.more (Prs.keep HPX.out BL9 (Nat.le_refl _)) (by first | exact Nat.le_refl _ | (simp; done) | (simp; omega) | omega), (BB9 hb)⟩
      case measure => simp [intOf]; omega
    · have h2 : ¬ k < a0.length ∨ (k < a0.length ∧ ¬ k < 20) := by omega
      clear hkn
      rcases h2 with h2 | ⟨h2, h3⟩
      all_goals
        have hgr9 : Gd r := HD.out.1
        obtain ⟨L, hL⟩ : ∃ x, bytesD r = x := ⟨_, rfl⟩
        have hLs := bytesD_short hgr9
        have hL1 := bytesD_pos r
        have hdL := decD_bytes hgr9
        rw [hL] at hLs hL1 hdL
        have HL := Lib.hid hL; clear hL
        have HDL := Lib.hid hdL; clear hdL
        obtain ⟨S, hS⟩ : ∃ S : ByteArray, ⟨L.toArray⟩ = S := ⟨_, rfl⟩
        have HS := Lib.hid hS; clear hS
        go_wp2_with fail
        refine (lenc_is w.heap.size _ r L _ (Dc.below HD.out BL9) HL.out).mono ?_
        rintro e k11 ⟨gb, cb, rfl, hE, h⟩
        have hk : Below wr.heap.size wr k11 := HK9 h
        have hz := h.size
        try simp at hz
        replace r0 : k11.cell? ⟨k2.heap.size, 0, none⟩ = some (.slice Ar r.length cr) := (hk.cell (p := ⟨k2.heap.size, 0, none⟩) LT9).trans r0
        replace r0f : k11.frozen? ⟨k2.heap.size, 0, none⟩ = false := (hk.frozen (p := ⟨k2.heap.size, 0, none⟩) LT9).trans r0f
        replace HD := Lib.hid (Dc.below HD.out hk)
        replace HB := Lib.hid (Bx1.below HB.out hk)
        replace HP := Lib.hid (Prs.more (Prs.keep HP.out hk (Nat.le_refl _)) (Below.size hk))
        replace hb : Below w.heap.size w k11 := hb.trans (hk.mono hb.size)
        have hltB : k2.heap.size < k11.heap.size := LT9
        have HEL := Lib.hid hE; clear hE
        clear h hk
        go_wp2_with fail
        refine (ldec_yes (B := w.heap.size) _ _ _ _ L r _ (Byt.of_own (ownsRow_below HEL.out BL9)) (Nat.le_refl _) (by have := hb.size; first | exact hb.size | omega | (simp; omega)) (by omega) HDL.out).mono ?_
        rintro e k12 ⟨gc, rfl, ⟨hc, hcl⟩, h⟩
        have hk : Below k11.heap.size k11 k12 := HK9 h
        have hz := h.size
        try simp at hz
        replace r0 : k12.cell? ⟨k2.heap.size, 0, none⟩ = some (.slice Ar r.length cr) := (hk.cell (p := ⟨k2.heap.size, 0, none⟩) LT9).trans r0
        replace r0f : k12.frozen? ⟨k2.heap.size, 0, none⟩ = false := (hk.frozen (p := ⟨k2.heap.size, 0, none⟩) LT9).trans r0f
        replace HD := Lib.hid (Dc.below HD.out hk)
        replace HB := Lib.hid (Bx1.below HB.out hk)
        replace HP := Lib.hid (Prs.more (Prs.keep HP.out hk (Nat.le_refl _)) (Below.size hk))
        replace HEL := Lib.hid (ownsRow_below HEL.out hk)
        replace hb : Below w.heap.size w k12 := hb.trans (hk.mono hb.size)
        have hltB : k2.heap.size < k12.heap.size := LT9
        clear h hk
        have HC := Lib.hid hc
        have hltHC : gc < k12.heap.size := HC.out.lt
        clear hc
        go_wp2_with fail
        replace r0 : k12.drew.cell? ⟨k2.heap.size, 0, none⟩ = some (.slice Ar r.length cr) := r0
        replace r0f : k12.drew.frozen? ⟨k2.heap.size, 0, none⟩ = false := r0f
        replace HD := Lib.hid (Dc.below HD.out ((Below.refl k12.heap.size k12).drew))
        replace HB := Lib.hid (Bx1.below HB.out ((Below.refl k12.heap.size k12).drew))
        replace HP := Lib.hid (Prs.more (Prs.keep HP.out ((Below.refl k12.heap.size k12).drew) (Nat.le_refl _)) (Below.size ((Below.refl k12.heap.size k12).drew)))
        replace HEL := Lib.hid (ownsRow_below HEL.out ((Below.refl k12.heap.size k12).drew))
        replace HC := Lib.hid (Dc.below HC.out ((Below.refl k12.heap.size k12).drew))
        refine wp_region_noPanic ?_
        refine wp_region_held_drew (S := fun W => W.cell? ⟨k2.heap.size, 0, none⟩ = some (.slice Ar r.length cr)) (by kernel_rfl) ?_ (fun hHeld => ?_)
        · exact r0
        replace hb : Below w.heap.size w k12.drew := hb.drew
        replace hltB : k2.heap.size < k12.drew.heap.size := hltB
        have hzd : k12.heap.size ≤ k12.drew.heap.size := Nat.le_refl _
        generalize k12.drew = k13 at *
        refine wpAnyH_take (i := 0) (oi := { dst := some 55, op := Op.move (Operand.tmp 16), type := 37, pos := "law.go:83", after := #[], guard := none }) (v := .slice (some ⟨gb, 0, none⟩) L.length cb) rfl (by kernel_rfl) (by kernel_rfl) (by kernel_rfl) (fun _ _ _ h => h) (Or.inl ⟨by rfl, fun w hSw => ?_⟩) (by assumption) ?_
        · (try dsimp only at hSw)
          go_simp
        try simp only [Act.put, List.setIfInBounds_toArray, List.set_cons_zero, List.set_cons_succ]
        refine wpAnyH_take (i := 2) (oi := { dst := some 57, op := Op.load 28 (Operand.tmp 11), type := 28, pos := "law.go:83", after := #[], guard := none }) (v := .agg #[.slice Ar r.length cr]) rfl (by kernel_rfl) (by kernel_rfl) (by kernel_rfl) (fun _ _ _ h => h) (Or.inl ⟨by rfl, fun w hSw => ?_⟩) (by assumption) ?_
        · (try dsimp only at hSw)
          go_simp
        try simp only [Act.put, List.setIfInBounds_toArray, List.set_cons_zero, List.set_cons_succ]
        refine wpAnyH_ready (rs := [1, 3]) (by kernel_rfl) (by simp) ?_
        refine AllReadyH.cons (o := { dst := some 56, op := Op.convert 37 9 (Operand.tmp 55), type := 9, pos := "law.go:83", after := #[{ on := 0, ground := Ground.data }], guard := none }) rfl (fun K hK => ?_) (AllReadyH.cons (o := { dst := some 58, op := Op.call { callee := Callee.value (Operand.func 20), args := #[Operand.tmp 57], argTypes := #[28] }, type := 37, pos := "law.go:83", after := #[{ on := 2, ground := Ground.data }], guard := none }) rfl (fun K hK => ?_) (AllReadyH.nil))
        · have hcv := conv6 (Byt.of_own HEL.out) HS.out
          go_simp
          refine hK.out _ _ ?_ (fun hHeld => ?_)
          · exact r0
          clear hK K
          try simp only [Act.put, List.setIfInBounds_toArray, List.set_cons_zero, List.set_cons_succ]
          refine wpAnyH_ready (rs := [3]) (by kernel_rfl) (by simp) ?_
          refine AllReadyH.cons (o := { dst := some 58, op := Op.call { callee := Callee.value (Operand.func 20), args := #[Operand.tmp 57], argTypes := #[28] }, type := 37, pos := "law.go:83", after := #[{ on := 2, ground := Ground.data }], guard := none }) rfl (fun K hK => ?_) (AllReadyH.nil)
          go_simp
          go_at_call 20
          refine (lrenc_is _ _ r L _ HP.out (Nat.le_refl _) hgr9 HL.out).mono ?_
          rintro e k14 ⟨BR, dR, rfl, hE, h⟩
          have hk : Below k13.heap.size k13 k14 := HK9 h
          have hz := h.size
          try simp at hz
          replace r0 : k14.cell? ⟨k2.heap.size, 0, none⟩ = some (.slice Ar r.length cr) := (hk.cell (p := ⟨k2.heap.size, 0, none⟩) LT9).trans r0
          replace r0f : k14.frozen? ⟨k2.heap.size, 0, none⟩ = false := (hk.frozen (p := ⟨k2.heap.size, 0, none⟩) LT9).trans r0f
          replace HD := Lib.hid (Dc.below HD.out hk)
          replace HB := Lib.hid (Bx1.below HB.out hk)
          replace HP := Lib.hid (Prs.more (Prs.keep HP.out hk (Nat.le_refl _)) (Below.size hk))
          replace HEL := Lib.hid (ownsRow_below HEL.out hk)
          replace HC := Lib.hid (Dc.below HC.out hk)
          replace hb : Below w.heap.size w k14 := hb.trans (hk.mono hb.size)
          have hltB : k2.heap.size < k14.heap.size := LT9
          have HER := Lib.hid hE; clear hE
          clear h hk
          try dsimp only
          refine hK.out _ _ ?_ (fun hHeld => ?_)
          · exact r0
          clear hK K
          try simp only [Act.put, List.setIfInBounds_toArray, List.set_cons_zero, List.set_cons_succ]
          refine wpAnyH_ready (rs := [4]) (by kernel_rfl) (by simp) ?_
          refine AllReadyH.cons (o := { dst := some 59, op := Op.convert 37 9 (Operand.tmp 58), type := 9, pos := "law.go:83", after := #[{ on := 3, ground := Ground.data }], guard := none }) rfl (fun K hK => ?_) (AllReadyH.nil)
          have hcv := conv6 (Byt.of_own HER.out) HS.out
          go_simp
          refine hK.out _ _ ?_ (fun hHeld => ?_)
          · exact r0
          clear hK K
          try simp only [Act.put, List.setIfInBounds_toArray, List.set_cons_zero, List.set_cons_succ]
          refine wpAnyH_take (i := 5) (oi := { dst := some 60, op := Op.binOp BinOp.neq 9 (Operand.tmp 56) (Operand.tmp 59) 9, type := 4, pos := "law.go:83", after := #[{ on := 1, ground := Ground.data }, { on := 4, ground := Ground.data }], guard := none }) (v := .bool false) rfl (by kernel_rfl) (by kernel_rfl) (by kernel_rfl) (fun _ _ _ h => h) (Or.inl ⟨by rfl, fun w hSw => ?_⟩) (by assumption) ?_
          · (try dsimp only at hSw)
            go_simp
          try simp only [Act.put, List.setIfInBounds_toArray, List.set_cons_zero, List.set_cons_succ]
          refine wpAnyH_take (i := 6) (oi := { dst := some 61, op := Op.move (Operand.tmp 60), type := 4, pos := "law.go:83", after := #[{ on := 5, ground := Ground.data }, { on := 3, ground := Ground.chain }], guard := none }) (v := .bool false) rfl (by kernel_rfl) (by kernel_rfl) (by kernel_rfl) (fun _ _ _ h => h) (Or.inl ⟨by rfl, fun w hSw => ?_⟩) (by assumption) ?_
          · (try dsimp only at hSw)
            go_simp
          try simp only [Act.put, List.setIfInBounds_toArray, List.set_cons_zero, List.set_cons_succ]
          refine wpAnyH_take (i := 7) (oi := { dst := some 62, op := Op.move (Operand.tmp 18), type := 31, pos := "law.go:83", after := #[{ on := 6, ground := Ground.guard }], guard := some (6, false) }) (v := .int .i64 0) rfl (by kernel_rfl) (by kernel_rfl) (by kernel_rfl) (fun _ _ _ h => h) (Or.inl ⟨by rfl, fun w hSw => ?_⟩) (by assumption) ?_
          · (try dsimp only at hSw)
            go_simp
          try simp only [Act.put, List.setIfInBounds_toArray, List.set_cons_zero, List.set_cons_succ]
          refine wpAnyH_take (i := 8) (oi := { dst := some 63, op := Op.binOp BinOp.neq 31 (Operand.tmp 62) (Operand.const (Value.int IntKind.i64 0)) 31, type := 4, pos := "law.go:83", after := #[{ on := 7, ground := Ground.data }, { on := 6, ground := Ground.guard }], guard := some (6, false) }) (v := .bool false) rfl (by kernel_rfl) (by kernel_rfl) (by kernel_rfl) (fun _ _ _ h => h) (Or.inl ⟨by rfl, fun w hSw => ?_⟩) (by assumption) ?_
          · (try dsimp only at hSw)
            go_simp
          try simp only [Act.put, List.setIfInBounds_toArray, List.set_cons_zero, List.set_cons_succ]
          refine wpAnyH_take (i := 9) (oi := { dst := some 64, op := Op.pick (Operand.tmp 61) (Operand.const (Value.bool true)) (Operand.tmp 63), type := 4, pos := "law.go:83", after := #[{ on := 6, ground := Ground.data }, { on := 8, ground := Ground.data }], guard := none }) (v := .bool false) rfl (by kernel_rfl) (by kernel_rfl) (by kernel_rfl) (fun _ _ _ h => h) (Or.inl ⟨by rfl, fun w hSw => ?_⟩) (by assumption) ?_
          · (try dsimp only at hSw)
            go_simp
          try simp only [Act.put, List.setIfInBounds_toArray, List.set_cons_zero, List.set_cons_succ]
          refine wpAnyH_take (i := 10) (oi := { dst := some 65, op := Op.move (Operand.tmp 64), type := 4, pos := "law.go:83", after := #[{ on := 9, ground := Ground.data }, { on := 6, ground := Ground.chain }], guard := none }) (v := .bool false) rfl (by kernel_rfl) (by kernel_rfl) (by kernel_rfl) (fun _ _ _ h => h) (Or.inl ⟨by rfl, fun w hSw => ?_⟩) (by assumption) ?_
          · (try dsimp only at hSw)
            go_simp
          try simp only [Act.put, List.setIfInBounds_toArray, List.set_cons_zero, List.set_cons_succ]
          refine wpAnyH_take (i := 11) (oi := { dst := some 66, op := Op.move (Operand.tmp 17), type := 24, pos := "law.go:83", after := #[{ on := 10, ground := Ground.guard }], guard := some (10, false) }) (v := .pointer (some ⟨gc, 0, none⟩)) rfl (by kernel_rfl) (by kernel_rfl) (by kernel_rfl) (fun _ _ _ h => h) (Or.inl ⟨by rfl, fun w hSw => ?_⟩) (by assumption) ?_
          · (try dsimp only at hSw)
            go_simp
          try simp only [Act.put, List.setIfInBounds_toArray, List.set_cons_zero, List.set_cons_succ]
          refine wpAnyH_take (i := 12) (oi := { dst := some 67, op := Op.load 28 (Operand.tmp 11), type := 28, pos := "law.go:83", after := #[{ on := 10, ground := Ground.guard }], guard := some (10, false) }) (v := .agg #[.slice Ar r.length cr]) rfl (by kernel_rfl) (by kernel_rfl) (by kernel_rfl) (fun _ _ _ h => h) (Or.inl ⟨by rfl, fun w hSw => ?_⟩) (by assumption) ?_
          · (try dsimp only at hSw)
            go_simp
          try simp only [Act.put, List.setIfInBounds_toArray, List.set_cons_zero, List.set_cons_succ]
          refine wpAnyH_ready (rs := [13]) (by kernel_rfl) (by simp) ?_
          refine AllReadyH.cons (o := { dst := some 68, op := Op.call { callee := Callee.value (Operand.func 17), args := #[Operand.tmp 66, Operand.tmp 67], argTypes := #[24, 28] }, type := 4, pos := "law.go:83", after := #[{ on := 11, ground := Ground.data }, { on := 12, ground := Ground.data }, { on := 10, ground := Ground.chain }, { on := 10, ground := Ground.guard }], guard := some (10, false) }) rfl (fun K hK => ?_) (AllReadyH.nil)
          go_simp
          go_at_call 17
          refine (lsame_is w.heap.size _ _ _ r _ HC.out HP.out (Nat.le_refl _)).mono ?_
          rintro e k15 ⟨rfl, h⟩
          have hk : Below k14.heap.size k14 k15 := HK9 h
          have hz := h.size
          try simp at hz
          replace r0 : k15.cell? ⟨k2.heap.size, 0, none⟩ = some (.slice Ar r.length cr) := (hk.cell (p := ⟨k2.heap.size, 0, none⟩) LT9).trans r0
          replace r0f : k15.frozen? ⟨k2.heap.size, 0, none⟩ = false := (hk.frozen (p := ⟨k2.heap.size, 0, none⟩) LT9).trans r0f
          replace HD := Lib.hid (Dc.below HD.out hk)
          replace HB := Lib.hid (Bx1.below HB.out hk)
          replace HP := Lib.hid (Prs.more (Prs.keep HP.out hk (Nat.le_refl _)) (Below.size hk))
          replace HEL := Lib.hid (ownsRow_below HEL.out hk)
          replace HC := Lib.hid (Dc.below HC.out hk)
          replace HER := Lib.hid (ownsRow_below HER.out hk)
          replace hb : Below w.heap.size w k15 := hb.trans (hk.mono hb.size)
          have hltB : k2.heap.size < k15.heap.size := LT9
          clear h hk
          try dsimp only
          refine hK.out _ _ ?_ (fun hHeld => ?_)
          · exact r0
          clear hK K
          try simp only [Act.put, List.setIfInBounds_toArray, List.set_cons_zero, List.set_cons_succ]
          refine wpAnyH_take (i := 14) (oi := { dst := some 69, op := Op.unOp UnOp.not 4 (Operand.tmp 68), type := 4, pos := "law.go:83", after := #[{ on := 13, ground := Ground.data }, { on := 10, ground := Ground.guard }], guard := some (10, false) }) (v := .bool false) rfl (by kernel_rfl) (by kernel_rfl) (by kernel_rfl) (fun _ _ _ h => h) (Or.inl ⟨by rfl, fun w hSw => ?_⟩) (by assumption) ?_
          · (try dsimp only at hSw)
            go_simp
          try simp only [Act.put, List.setIfInBounds_toArray, List.set_cons_zero, List.set_cons_succ]
          refine wpAnyH_take (i := 15) (oi := { dst := some 70, op := Op.pick (Operand.tmp 65) (Operand.const (Value.bool true)) (Operand.tmp 69), type := 4, pos := "law.go:83", after := #[{ on := 10, ground := Ground.data }, { on := 14, ground := Ground.data }], guard := none }) (v := .bool false) rfl (by kernel_rfl) (by kernel_rfl) (by kernel_rfl) (fun _ _ _ h => h) (Or.inl ⟨by rfl, fun w hSw => ?_⟩) (by assumption) ?_
          · (try dsimp only at hSw)
            go_simp
          try simp only [Act.put, List.setIfInBounds_toArray, List.set_cons_zero, List.set_cons_succ]
          refine wpAnyH_take (i := 16) (oi := { dst := some 71, op := Op.move (Operand.tmp 70), type := 4, pos := "law.go:83", after := #[{ on := 15, ground := Ground.data }, { on := 13, ground := Ground.chain }], guard := none }) (v := .bool false) rfl (by kernel_rfl) (by kernel_rfl) (by kernel_rfl) (fun _ _ _ h => h) (Or.inl ⟨by rfl, fun w hSw => ?_⟩) (by assumption) ?_
          · (try dsimp only at hSw)
            go_simp
          try simp only [Act.put, List.setIfInBounds_toArray, List.set_cons_zero, List.set_cons_succ]
          refine wpAnyH_take (i := 17) (oi := { dst := some 72, op := Op.move (Operand.tmp 17), type := 24, pos := "law.go:83", after := #[{ on := 16, ground := Ground.guard }], guard := some (16, false) }) (v := .pointer (some ⟨gc, 0, none⟩)) rfl (by kernel_rfl) (by kernel_rfl) (by kernel_rfl) (fun _ _ _ h => h) (Or.inl ⟨by rfl, fun w hSw => ?_⟩) (by assumption) ?_
          · (try dsimp only at hSw)
            go_simp
          try simp only [Act.put, List.setIfInBounds_toArray, List.set_cons_zero, List.set_cons_succ]
          refine wpAnyH_take (i := 18) (oi := { dst := some 73, op := Op.move (Operand.tmp 10), type := 24, pos := "law.go:83", after := #[{ on := 16, ground := Ground.guard }], guard := some (16, false) }) (v := .pointer (some ⟨k1.heap.size, 0, none⟩)) rfl (by kernel_rfl) (by kernel_rfl) (by kernel_rfl) (fun _ _ _ h => h) (Or.inl ⟨by rfl, fun w hSw => ?_⟩) (by assumption) ?_
          · (try dsimp only at hSw)
            go_simp
          try simp only [Act.put, List.setIfInBounds_toArray, List.set_cons_zero, List.set_cons_succ]
          refine wpAnyH_ready (rs := [19]) (by kernel_rfl) (by simp) ?_
          refine AllReadyH.cons (o := { dst := some 74, op := Op.call { callee := Callee.value (Operand.func 21), args := #[Operand.tmp 72, Operand.tmp 73], argTypes := #[24, 24] }, type := 4, pos := "law.go:83", after := #[{ on := 17, ground := Ground.data }, { on := 18, ground := Ground.data }, { on := 16, ground := Ground.chain }, { on := 16, ground := Ground.guard }], guard := some (16, false) }) rfl (fun K hK => ?_) (AllReadyH.nil)
          go_simp
          go_at_call 21
          refine (leq_is w.heap.size w.heap.size _ _ r r true _ HC.out HD.out (eqD_self _)).mono ?_
          rintro e k16 ⟨rfl, h⟩
          have hk : Below k15.heap.size k15 k16 := HK9 h
          have hz := h.size
          try simp at hz
          replace r0 : k16.cell? ⟨k2.heap.size, 0, none⟩ = some (.slice Ar r.length cr) := (hk.cell (p := ⟨k2.heap.size, 0, none⟩) LT9).trans r0
          replace r0f : k16.frozen? ⟨k2.heap.size, 0, none⟩ = false := (hk.frozen (p := ⟨k2.heap.size, 0, none⟩) LT9).trans r0f
          replace HD := Lib.hid (Dc.below HD.out hk)
          replace HB := Lib.hid (Bx1.below HB.out hk)
          replace HP := Lib.hid (Prs.more (Prs.keep HP.out hk (Nat.le_refl _)) (Below.size hk))
          replace HEL := Lib.hid (ownsRow_below HEL.out hk)
          replace HC := Lib.hid (Dc.below HC.out hk)
          replace HER := Lib.hid (ownsRow_below HER.out hk)
          replace hb : Below w.heap.size w k16 := hb.trans (hk.mono hb.size)
          have hltB : k2.heap.size < k16.heap.size := LT9
          clear h hk
          try dsimp only
          refine hK.out _ _ ?_ (fun hHeld => ?_)
          · exact r0
          clear hK K
          try simp only [Act.put, List.setIfInBounds_toArray, List.set_cons_zero, List.set_cons_succ]
          refine wpAnyH_take (i := 20) (oi := { dst := some 75, op := Op.unOp UnOp.not 4 (Operand.tmp 74), type := 4, pos := "law.go:83", after := #[{ on := 19, ground := Ground.data }, { on := 16, ground := Ground.guard }], guard := some (16, false) }) (v := .bool false) rfl (by kernel_rfl) (by kernel_rfl) (by kernel_rfl) (fun _ _ _ h => h) (Or.inl ⟨by rfl, fun w hSw => ?_⟩) (by assumption) ?_
          · (try dsimp only at hSw)
            go_simp
          try simp only [Act.put, List.setIfInBounds_toArray, List.set_cons_zero, List.set_cons_succ]
          refine wpAnyH_take (i := 21) (oi := { dst := some 76, op := Op.pick (Operand.tmp 71) (Operand.const (Value.bool true)) (Operand.tmp 75), type := 4, pos := "law.go:83", after := #[{ on := 16, ground := Ground.data }, { on := 20, ground := Ground.data }], guard := none }) (v := .bool false) rfl (by kernel_rfl) (by kernel_rfl) (by kernel_rfl) (fun _ _ _ h => h) (Or.inl ⟨by rfl, fun w hSw => ?_⟩) (by assumption) ?_
          · (try dsimp only at hSw)
            go_simp
          try simp only [Act.put, List.setIfInBounds_toArray, List.set_cons_zero, List.set_cons_succ]
          refine wpAnyH_done (by kernel_rfl) ?_ _
          refine NoPanic.normal ?_
          by_cases hat : 0 ≤ a1
          · have HBY := Lib.hid (Byt.of_own HEL.out)
            have HNI := Lib.hid (fun (V : World) => ownB_nil w.heap.size V)
            go_wp2_with (at_builtin; refine wpList_append_byt rfl _ _ rfl w.heap.size _ _ _ [] L rfl (HNI.out _) rfl HBY.out ?x1 ?x2 ?_)
            case x1 => simp; omega
            case x2 => exact hb.size
            intro v5 k50 hO5 h5
            have hb5 : Below w.heap.size w k50 := hb.trans h5
            obtain ⟨g, cg, rfl, -⟩ := hO5.head hL1
            obtain ⟨i, hi, hil⟩ := rem_nat a1 L.length hat hL1
            have hc := hO5.cellAt i hil
            have hf := hO5.frozenAt i
            obtain ⟨z, hz⟩ : ∃ z, L[i] = z := ⟨_, rfl⟩
            rw [hz] at hc
            have hzb := z.toNat_lt
            have hne0 : ((L.length : Int) == 0) = false := by rw [beq_eq_false_iff_ne]; omega
            obtain ⟨y, hy⟩ : ∃ y, bits BinOp.xor .u8 (z.toNat : Int) a2 = y := ⟨_, rfl⟩
            have hy2 := xor_u8 (z.toNat : Int) a2
            rw [hy] at hy2
            have hgB : w.heap.size ≤ g := (hO5.lt g rfl).1
            have hset := hO5.setAt i hil y hy2.1 hy2.2
            obtain ⟨L2, hL2e⟩ : ∃ L2, L.set i (UInt8.ofNat y.toNat) = L2 := ⟨_, rfl⟩
            rw [hL2e] at hset
            have HLEN2 := Lib.hid (show L2.length = L.length by rw [← hL2e, List.length_set])
            have HSET := Lib.hid hset; clear hset hO5
            have hb := hb5.setCell (p := ⟨g, i, none⟩) hgB (.int .u8 y)
            clear hb5 h5
            go_wp2_with fail
            refine (ltells_any _ _ _ _ L2 _ (Byt.of_own HSET.out) (Nat.le_refl _) (by have := HLEN2.out; omega)).mono ?_
            rintro e k61 ⟨rfl, h⟩
            replace hb := hb.trans (h.mono hb.size)
            clear h
            go_wp2_with fail
            refine (short_any A3 a3.length c3 w.heap.size 60 a3 _ (HRAW.out.below hb (Nat.le_refl _)) (by decide)).mono ?_
            rintro e k62 ⟨A4, c4, rfl, hby, rfl⟩
            obtain ⟨L4, hL4⟩ : ∃ L4, a3.take 60 = L4 := ⟨_, rfl⟩
            have hl4 : L4.length ≤ 60 := by rw [← hL4, List.length_take]; omega
            rw [hL4] at hby ⊢
            clear hL4
            go_wp2_with fail
            refine (ltells_any _ _ _ _ L4 _ hby hb.size (by omega)).mono ?_
            rintro e k63 ⟨rfl, h⟩
            replace hb := hb.trans (h.mono hb.size)
            clear h hby
            go_wp2
            go_ret
            exact ⟨rfl, hb⟩
          · go_wp2_with fail
            refine (ltells_any _ _ _ _ L _ (Byt.of_own HEL.out) (Nat.le_refl _) (by omega)).mono ?_
            rintro e k61 ⟨rfl, h⟩
            replace hb := hb.trans (h.mono hb.size)
            clear h
            go_wp2_with fail
            refine (short_any A3 a3.length c3 w.heap.size 60 a3 _ (HRAW.out.below hb (Nat.le_refl _)) (by decide)).mono ?_
            rintro e k62 ⟨A4, c4, rfl, hby, rfl⟩
            obtain ⟨L4, hL4⟩ : ∃ L4, a3.take 60 = L4 := ⟨_, rfl⟩
            have hl4 : L4.length ≤ 60 := by rw [← hL4, List.length_take]; omega
            rw [hL4] at hby ⊢
            clear hL4
            go_wp2_with fail
            refine (ltells_any _ _ _ _ L4 _ hby hb.size (by omega)).mono ?_
            rintro e k63 ⟨rfl, h⟩
            replace hb := hb.trans (h.mono hb.size)
            clear h hby
            go_wp2
            go_ret
            exact ⟨rfl, hb⟩
        · go_simp
          go_at_call 20
          refine (lrenc_is _ _ r L _ HP.out (Nat.le_refl _) hgr9 HL.out).mono ?_
          rintro e k14 ⟨BR, dR, rfl, hE, h⟩
          have hk : Below k13.heap.size k13 k14 := HK9 h
          have hz := h.size
          try simp at hz
          replace r0 : k14.cell? ⟨k2.heap.size, 0, none⟩ = some (.slice Ar r.length cr) := (hk.cell (p := ⟨k2.heap.size, 0, none⟩) LT9).trans r0
          replace r0f : k14.frozen? ⟨k2.heap.size, 0, none⟩ = false := (hk.frozen (p := ⟨k2.heap.size, 0, none⟩) LT9).trans r0f
          replace HD := Lib.hid (Dc.below HD.out hk)
          replace HB := Lib.hid (Bx1.below HB.out hk)
          replace HP := Lib.hid (Prs.more (Prs.keep HP.out hk (Nat.le_refl _)) (Below.size hk))
          replace HEL := Lib.hid (ownsRow_below HEL.out hk)
          replace HC := Lib.hid (Dc.below HC.out hk)
          replace hb : Below w.heap.size w k14 := hb.trans (hk.mono hb.size)
          have hltB : k2.heap.size < k14.heap.size := LT9
          have HER := Lib.hid hE; clear hE
          clear h hk
          try dsimp only
          refine hK.out _ _ ?_ (fun hHeld => ?_)
          · exact r0
          clear hK K
          try simp only [Act.put, List.setIfInBounds_toArray, List.set_cons_zero, List.set_cons_succ]
          refine wpAnyH_ready (rs := [1, 4]) (by kernel_rfl) (by simp) ?_
          refine AllReadyH.cons (o := { dst := some 56, op := Op.convert 37 9 (Operand.tmp 55), type := 9, pos := "law.go:83", after := #[{ on := 0, ground := Ground.data }], guard := none }) rfl (fun K hK => ?_) (AllReadyH.cons (o := { dst := some 59, op := Op.convert 37 9 (Operand.tmp 58), type := 9, pos := "law.go:83", after := #[{ on := 3, ground := Ground.data }], guard := none }) rfl (fun K hK => ?_) (AllReadyH.nil))
          · have hcv := conv6 (Byt.of_own HEL.out) HS.out
            go_simp
            refine hK.out _ _ ?_ (fun hHeld => ?_)
            · exact r0
            clear hK K
            try simp only [Act.put, List.setIfInBounds_toArray, List.set_cons_zero, List.set_cons_succ]
            refine wpAnyH_ready (rs := [4]) (by kernel_rfl) (by simp) ?_
            refine AllReadyH.cons (o := { dst := some 59, op := Op.convert 37 9 (Operand.tmp 58), type := 9, pos := "law.go:83", after := #[{ on := 3, ground := Ground.data }], guard := none }) rfl (fun K hK => ?_) (AllReadyH.nil)
            have hcv := conv6 (Byt.of_own HER.out) HS.out
            go_simp
            refine hK.out _ _ ?_ (fun hHeld => ?_)
            · exact r0
            clear hK K
            try simp only [Act.put, List.setIfInBounds_toArray, List.set_cons_zero, List.set_cons_succ]
            refine wpAnyH_take (i := 5) (oi := { dst := some 60, op := Op.binOp BinOp.neq 9 (Operand.tmp 56) (Operand.tmp 59) 9, type := 4, pos := "law.go:83", after := #[{ on := 1, ground := Ground.data }, { on := 4, ground := Ground.data }], guard := none }) (v := .bool false) rfl (by kernel_rfl) (by kernel_rfl) (by kernel_rfl) (fun _ _ _ h => h) (Or.inl ⟨by rfl, fun w hSw => ?_⟩) (by assumption) ?_
            · (try dsimp only at hSw)
              go_simp
            try simp only [Act.put, List.setIfInBounds_toArray, List.set_cons_zero, List.set_cons_succ]
            refine wpAnyH_take (i := 6) (oi := { dst := some 61, op := Op.move (Operand.tmp 60), type := 4, pos := "law.go:83", after := #[{ on := 5, ground := Ground.data }, { on := 3, ground := Ground.chain }], guard := none }) (v := .bool false) rfl (by kernel_rfl) (by kernel_rfl) (by kernel_rfl) (fun _ _ _ h => h) (Or.inl ⟨by rfl, fun w hSw => ?_⟩) (by assumption) ?_
            · (try dsimp only at hSw)
              go_simp
            try simp only [Act.put, List.setIfInBounds_toArray, List.set_cons_zero, List.set_cons_succ]
            refine wpAnyH_take (i := 7) (oi := { dst := some 62, op := Op.move (Operand.tmp 18), type := 31, pos := "law.go:83", after := #[{ on := 6, ground := Ground.guard }], guard := some (6, false) }) (v := .int .i64 0) rfl (by kernel_rfl) (by kernel_rfl) (by kernel_rfl) (fun _ _ _ h => h) (Or.inl ⟨by rfl, fun w hSw => ?_⟩) (by assumption) ?_
            · (try dsimp only at hSw)
              go_simp
            try simp only [Act.put, List.setIfInBounds_toArray, List.set_cons_zero, List.set_cons_succ]
            refine wpAnyH_take (i := 8) (oi := { dst := some 63, op := Op.binOp BinOp.neq 31 (Operand.tmp 62) (Operand.const (Value.int IntKind.i64 0)) 31, type := 4, pos := "law.go:83", after := #[{ on := 7, ground := Ground.data }, { on := 6, ground := Ground.guard }], guard := some (6, false) }) (v := .bool false) rfl (by kernel_rfl) (by kernel_rfl) (by kernel_rfl) (fun _ _ _ h => h) (Or.inl ⟨by rfl, fun w hSw => ?_⟩) (by assumption) ?_
            · (try dsimp only at hSw)
              go_simp
            try simp only [Act.put, List.setIfInBounds_toArray, List.set_cons_zero, List.set_cons_succ]
            refine wpAnyH_take (i := 9) (oi := { dst := some 64, op := Op.pick (Operand.tmp 61) (Operand.const (Value.bool true)) (Operand.tmp 63), type := 4, pos := "law.go:83", after := #[{ on := 6, ground := Ground.data }, { on := 8, ground := Ground.data }], guard := none }) (v := .bool false) rfl (by kernel_rfl) (by kernel_rfl) (by kernel_rfl) (fun _ _ _ h => h) (Or.inl ⟨by rfl, fun w hSw => ?_⟩) (by assumption) ?_
            · (try dsimp only at hSw)
              go_simp
            try simp only [Act.put, List.setIfInBounds_toArray, List.set_cons_zero, List.set_cons_succ]
            refine wpAnyH_take (i := 10) (oi := { dst := some 65, op := Op.move (Operand.tmp 64), type := 4, pos := "law.go:83", after := #[{ on := 9, ground := Ground.data }, { on := 6, ground := Ground.chain }], guard := none }) (v := .bool false) rfl (by kernel_rfl) (by kernel_rfl) (by kernel_rfl) (fun _ _ _ h => h) (Or.inl ⟨by rfl, fun w hSw => ?_⟩) (by assumption) ?_
            · (try dsimp only at hSw)
              go_simp
            try simp only [Act.put, List.setIfInBounds_toArray, List.set_cons_zero, List.set_cons_succ]
            refine wpAnyH_take (i := 11) (oi := { dst := some 66, op := Op.move (Operand.tmp 17), type := 24, pos := "law.go:83", after := #[{ on := 10, ground := Ground.guard }], guard := some (10, false) }) (v := .pointer (some ⟨gc, 0, none⟩)) rfl (by kernel_rfl) (by kernel_rfl) (by kernel_rfl) (fun _ _ _ h => h) (Or.inl ⟨by rfl, fun w hSw => ?_⟩) (by assumption) ?_
            · (try dsimp only at hSw)
              go_simp
            try simp only [Act.put, List.setIfInBounds_toArray, List.set_cons_zero, List.set_cons_succ]
            refine wpAnyH_take (i := 12) (oi := { dst := some 67, op := Op.load 28 (Operand.tmp 11), type := 28, pos := "law.go:83", after := #[{ on := 10, ground := Ground.guard }], guard := some (10, false) }) (v := .agg #[.slice Ar r.length cr]) rfl (by kernel_rfl) (by kernel_rfl) (by kernel_rfl) (fun _ _ _ h => h) (Or.inl ⟨by rfl, fun w hSw => ?_⟩) (by assumption) ?_
            · (try dsimp only at hSw)
              go_simp
            try simp only [Act.put, List.setIfInBounds_toArray, List.set_cons_zero, List.set_cons_succ]
            refine wpAnyH_ready (rs := [13]) (by kernel_rfl) (by simp) ?_
            refine AllReadyH.cons (o := { dst := some 68, op := Op.call { callee := Callee.value (Operand.func 17), args := #[Operand.tmp 66, Operand.tmp 67], argTypes := #[24, 28] }, type := 4, pos := "law.go:83", after := #[{ on := 11, ground := Ground.data }, { on := 12, ground := Ground.data }, { on := 10, ground := Ground.chain }, { on := 10, ground := Ground.guard }], guard := some (10, false) }) rfl (fun K hK => ?_) (AllReadyH.nil)
            go_simp
            go_at_call 17
            refine (lsame_is w.heap.size _ _ _ r _ HC.out HP.out (Nat.le_refl _)).mono ?_
            rintro e k15 ⟨rfl, h⟩
            have hk : Below k14.heap.size k14 k15 := HK9 h
            have hz := h.size
            try simp at hz
            replace r0 : k15.cell? ⟨k2.heap.size, 0, none⟩ = some (.slice Ar r.length cr) := (hk.cell (p := ⟨k2.heap.size, 0, none⟩) LT9).trans r0
            replace r0f : k15.frozen? ⟨k2.heap.size, 0, none⟩ = false := (hk.frozen (p := ⟨k2.heap.size, 0, none⟩) LT9).trans r0f
            replace HD := Lib.hid (Dc.below HD.out hk)
            replace HB := Lib.hid (Bx1.below HB.out hk)
            replace HP := Lib.hid (Prs.more (Prs.keep HP.out hk (Nat.le_refl _)) (Below.size hk))
            replace HEL := Lib.hid (ownsRow_below HEL.out hk)
            replace HC := Lib.hid (Dc.below HC.out hk)
            replace HER := Lib.hid (ownsRow_below HER.out hk)
            replace hb : Below w.heap.size w k15 := hb.trans (hk.mono hb.size)
            have hltB : k2.heap.size < k15.heap.size := LT9
            clear h hk
            try dsimp only
            refine hK.out _ _ ?_ (fun hHeld => ?_)
            · exact r0
            clear hK K
            try simp only [Act.put, List.setIfInBounds_toArray, List.set_cons_zero, List.set_cons_succ]
            refine wpAnyH_take (i := 14) (oi := { dst := some 69, op := Op.unOp UnOp.not 4 (Operand.tmp 68), type := 4, pos := "law.go:83", after := #[{ on := 13, ground := Ground.data }, { on := 10, ground := Ground.guard }], guard := some (10, false) }) (v := .bool false) rfl (by kernel_rfl) (by kernel_rfl) (by kernel_rfl) (fun _ _ _ h => h) (Or.inl ⟨by rfl, fun w hSw => ?_⟩) (by assumption) ?_
            · (try dsimp only at hSw)
              go_simp
            try simp only [Act.put, List.setIfInBounds_toArray, List.set_cons_zero, List.set_cons_succ]
            refine wpAnyH_take (i := 15) (oi := { dst := some 70, op := Op.pick (Operand.tmp 65) (Operand.const (Value.bool true)) (Operand.tmp 69), type := 4, pos := "law.go:83", after := #[{ on := 10, ground := Ground.data }, { on := 14, ground := Ground.data }], guard := none }) (v := .bool false) rfl (by kernel_rfl) (by kernel_rfl) (by kernel_rfl) (fun _ _ _ h => h) (Or.inl ⟨by rfl, fun w hSw => ?_⟩) (by assumption) ?_
            · (try dsimp only at hSw)
              go_simp
            try simp only [Act.put, List.setIfInBounds_toArray, List.set_cons_zero, List.set_cons_succ]
            refine wpAnyH_take (i := 16) (oi := { dst := some 71, op := Op.move (Operand.tmp 70), type := 4, pos := "law.go:83", after := #[{ on := 15, ground := Ground.data }, { on := 13, ground := Ground.chain }], guard := none }) (v := .bool false) rfl (by kernel_rfl) (by kernel_rfl) (by kernel_rfl) (fun _ _ _ h => h) (Or.inl ⟨by rfl, fun w hSw => ?_⟩) (by assumption) ?_
            · (try dsimp only at hSw)
              go_simp
            try simp only [Act.put, List.setIfInBounds_toArray, List.set_cons_zero, List.set_cons_succ]
            refine wpAnyH_take (i := 17) (oi := { dst := some 72, op := Op.move (Operand.tmp 17), type := 24, pos := "law.go:83", after := #[{ on := 16, ground := Ground.guard }], guard := some (16, false) }) (v := .pointer (some ⟨gc, 0, none⟩)) rfl (by kernel_rfl) (by kernel_rfl) (by kernel_rfl) (fun _ _ _ h => h) (Or.inl ⟨by rfl, fun w hSw => ?_⟩) (by assumption) ?_
            · (try dsimp only at hSw)
              go_simp
            try simp only [Act.put, List.setIfInBounds_toArray, List.set_cons_zero, List.set_cons_succ]
            refine wpAnyH_take (i := 18) (oi := { dst := some 73, op := Op.move (Operand.tmp 10), type := 24, pos := "law.go:83", after := #[{ on := 16, ground := Ground.guard }], guard := some (16, false) }) (v := .pointer (some ⟨k1.heap.size, 0, none⟩)) rfl (by kernel_rfl) (by kernel_rfl) (by kernel_rfl) (fun _ _ _ h => h) (Or.inl ⟨by rfl, fun w hSw => ?_⟩) (by assumption) ?_
            · (try dsimp only at hSw)
              go_simp
            try simp only [Act.put, List.setIfInBounds_toArray, List.set_cons_zero, List.set_cons_succ]
            refine wpAnyH_ready (rs := [19]) (by kernel_rfl) (by simp) ?_
            refine AllReadyH.cons (o := { dst := some 74, op := Op.call { callee := Callee.value (Operand.func 21), args := #[Operand.tmp 72, Operand.tmp 73], argTypes := #[24, 24] }, type := 4, pos := "law.go:83", after := #[{ on := 17, ground := Ground.data }, { on := 18, ground := Ground.data }, { on := 16, ground := Ground.chain }, { on := 16, ground := Ground.guard }], guard := some (16, false) }) rfl (fun K hK => ?_) (AllReadyH.nil)
            go_simp
            go_at_call 21
            refine (leq_is w.heap.size w.heap.size _ _ r r true _ HC.out HD.out (eqD_self _)).mono ?_
            rintro e k16 ⟨rfl, h⟩
            have hk : Below k15.heap.size k15 k16 := HK9 h
            have hz := h.size
            try simp at hz
            replace r0 : k16.cell? ⟨k2.heap.size, 0, none⟩ = some (.slice Ar r.length cr) := (hk.cell (p := ⟨k2.heap.size, 0, none⟩) LT9).trans r0
            replace r0f : k16.frozen? ⟨k2.heap.size, 0, none⟩ = false := (hk.frozen (p := ⟨k2.heap.size, 0, none⟩) LT9).trans r0f
            replace HD := Lib.hid (Dc.below HD.out hk)
            replace HB := Lib.hid (Bx1.below HB.out hk)
            replace HP := Lib.hid (Prs.more (Prs.keep HP.out hk (Nat.le_refl _)) (Below.size hk))
            replace HEL := Lib.hid (ownsRow_below HEL.out hk)
            replace HC := Lib.hid (Dc.below HC.out hk)
            replace HER := Lib.hid (ownsRow_below HER.out hk)
            replace hb : Below w.heap.size w k16 := hb.trans (hk.mono hb.size)
            have hltB : k2.heap.size < k16.heap.size := LT9
            clear h hk
            try dsimp only
            refine hK.out _ _ ?_ (fun hHeld => ?_)
            · exact r0
            clear hK K
            try simp only [Act.put, List.setIfInBounds_toArray, List.set_cons_zero, List.set_cons_succ]
            refine wpAnyH_take (i := 20) (oi := { dst := some 75, op := Op.unOp UnOp.not 4 (Operand.tmp 74), type := 4, pos := "law.go:83", after := #[{ on := 19, ground := Ground.data }, { on := 16, ground := Ground.guard }], guard := some (16, false) }) (v := .bool false) rfl (by kernel_rfl) (by kernel_rfl) (by kernel_rfl) (fun _ _ _ h => h) (Or.inl ⟨by rfl, fun w hSw => ?_⟩) (by assumption) ?_
            · (try dsimp only at hSw)
              go_simp
            try simp only [Act.put, List.setIfInBounds_toArray, List.set_cons_zero, List.set_cons_succ]
            refine wpAnyH_take (i := 21) (oi := { dst := some 76, op := Op.pick (Operand.tmp 71) (Operand.const (Value.bool true)) (Operand.tmp 75), type := 4, pos := "law.go:83", after := #[{ on := 16, ground := Ground.data }, { on := 20, ground := Ground.data }], guard := none }) (v := .bool false) rfl (by kernel_rfl) (by kernel_rfl) (by kernel_rfl) (fun _ _ _ h => h) (Or.inl ⟨by rfl, fun w hSw => ?_⟩) (by assumption) ?_
            · (try dsimp only at hSw)
              go_simp
            try simp only [Act.put, List.setIfInBounds_toArray, List.set_cons_zero, List.set_cons_succ]
            refine wpAnyH_done (by kernel_rfl) ?_ _
            refine NoPanic.normal ?_
            by_cases hat : 0 ≤ a1
            · have HBY := Lib.hid (Byt.of_own HEL.out)
              have HNI := Lib.hid (fun (V : World) => ownB_nil w.heap.size V)
              go_wp2_with (at_builtin; refine wpList_append_byt rfl _ _ rfl w.heap.size _ _ _ [] L rfl (HNI.out _) rfl HBY.out ?x1 ?x2 ?_)
              case x1 => simp; omega
              case x2 => exact hb.size
              intro v5 k50 hO5 h5
              have hb5 : Below w.heap.size w k50 := hb.trans h5
              obtain ⟨g, cg, rfl, -⟩ := hO5.head hL1
              obtain ⟨i, hi, hil⟩ := rem_nat a1 L.length hat hL1
              have hc := hO5.cellAt i hil
              have hf := hO5.frozenAt i
              obtain ⟨z, hz⟩ : ∃ z, L[i] = z := ⟨_, rfl⟩
              rw [hz] at hc
              have hzb := z.toNat_lt
              have hne0 : ((L.length : Int) == 0) = false := by rw [beq_eq_false_iff_ne]; omega
              obtain ⟨y, hy⟩ : ∃ y, bits BinOp.xor .u8 (z.toNat : Int) a2 = y := ⟨_, rfl⟩
              have hy2 := xor_u8 (z.toNat : Int) a2
              rw [hy] at hy2
              have hgB : w.heap.size ≤ g := (hO5.lt g rfl).1
              have hset := hO5.setAt i hil y hy2.1 hy2.2
              obtain ⟨L2, hL2e⟩ : ∃ L2, L.set i (UInt8.ofNat y.toNat) = L2 := ⟨_, rfl⟩
              rw [hL2e] at hset
              have HLEN2 := Lib.hid (show L2.length = L.length by rw [← hL2e, List.length_set])
              have HSET := Lib.hid hset; clear hset hO5
              have hb := hb5.setCell (p := ⟨g, i, none⟩) hgB (.int .u8 y)
              clear hb5 h5
              go_wp2_with fail
              refine (ltells_any _ _ _ _ L2 _ (Byt.of_own HSET.out) (Nat.le_refl _) (by have := HLEN2.out; omega)).mono ?_
              rintro e k61 ⟨rfl, h⟩
              replace hb := hb.trans (h.mono hb.size)
              clear h
              go_wp2_with fail
              refine (short_any A3 a3.length c3 w.heap.size 60 a3 _ (HRAW.out.below hb (Nat.le_refl _)) (by decide)).mono ?_
              rintro e k62 ⟨A4, c4, rfl, hby, rfl⟩
              obtain ⟨L4, hL4⟩ : ∃ L4, a3.take 60 = L4 := ⟨_, rfl⟩
              have hl4 : L4.length ≤ 60 := by rw [← hL4, List.length_take]; omega
              rw [hL4] at hby ⊢
              clear hL4
              go_wp2_with fail
              refine (ltells_any _ _ _ _ L4 _ hby hb.size (by omega)).mono ?_
              rintro e k63 ⟨rfl, h⟩
              replace hb := hb.trans (h.mono hb.size)
              clear h hby
              go_wp2
              go_ret
              exact ⟨rfl, hb⟩
            · go_wp2_with fail
              refine (ltells_any _ _ _ _ L _ (Byt.of_own HEL.out) (Nat.le_refl _) (by omega)).mono ?_
              rintro e k61 ⟨rfl, h⟩
              replace hb := hb.trans (h.mono hb.size)
              clear h
              go_wp2_with fail
              refine (short_any A3 a3.length c3 w.heap.size 60 a3 _ (HRAW.out.below hb (Nat.le_refl _)) (by decide)).mono ?_
              rintro e k62 ⟨A4, c4, rfl, hby, rfl⟩
              obtain ⟨L4, hL4⟩ : ∃ L4, a3.take 60 = L4 := ⟨_, rfl⟩
              have hl4 : L4.length ≤ 60 := by rw [← hL4, List.length_take]; omega
              rw [hL4] at hby ⊢
              clear hL4
              go_wp2_with fail
              refine (ltells_any _ _ _ _ L4 _ hby hb.size (by omega)).mono ?_
              rintro e k63 ⟨rfl, h⟩
              replace hb := hb.trans (h.mono hb.size)
              clear h hby
              go_wp2
              go_ret
              exact ⟨rfl, hb⟩
          · have hcv := conv6 (Byt.of_own HER.out) HS.out
            go_simp
            refine hK.out _ _ ?_ (fun hHeld => ?_)
            · exact r0
            clear hK K
            try simp only [Act.put, List.setIfInBounds_toArray, List.set_cons_zero, List.set_cons_succ]
            refine wpAnyH_ready (rs := [1]) (by kernel_rfl) (by simp) ?_
            refine AllReadyH.cons (o := { dst := some 56, op := Op.convert 37 9 (Operand.tmp 55), type := 9, pos := "law.go:83", after := #[{ on := 0, ground := Ground.data }], guard := none }) rfl (fun K hK => ?_) (AllReadyH.nil)
            have hcv := conv6 (Byt.of_own HEL.out) HS.out
            go_simp
            refine hK.out _ _ ?_ (fun hHeld => ?_)
            · exact r0
            clear hK K
            try simp only [Act.put, List.setIfInBounds_toArray, List.set_cons_zero, List.set_cons_succ]
            refine wpAnyH_take (i := 5) (oi := { dst := some 60, op := Op.binOp BinOp.neq 9 (Operand.tmp 56) (Operand.tmp 59) 9, type := 4, pos := "law.go:83", after := #[{ on := 1, ground := Ground.data }, { on := 4, ground := Ground.data }], guard := none }) (v := .bool false) rfl (by kernel_rfl) (by kernel_rfl) (by kernel_rfl) (fun _ _ _ h => h) (Or.inl ⟨by rfl, fun w hSw => ?_⟩) (by assumption) ?_
            · (try dsimp only at hSw)
              go_simp
            try simp only [Act.put, List.setIfInBounds_toArray, List.set_cons_zero, List.set_cons_succ]
            refine wpAnyH_take (i := 6) (oi := { dst := some 61, op := Op.move (Operand.tmp 60), type := 4, pos := "law.go:83", after := #[{ on := 5, ground := Ground.data }, { on := 3, ground := Ground.chain }], guard := none }) (v := .bool false) rfl (by kernel_rfl) (by kernel_rfl) (by kernel_rfl) (fun _ _ _ h => h) (Or.inl ⟨by rfl, fun w hSw => ?_⟩) (by assumption) ?_
            · (try dsimp only at hSw)
              go_simp
            try simp only [Act.put, List.setIfInBounds_toArray, List.set_cons_zero, List.set_cons_succ]
            refine wpAnyH_take (i := 7) (oi := { dst := some 62, op := Op.move (Operand.tmp 18), type := 31, pos := "law.go:83", after := #[{ on := 6, ground := Ground.guard }], guard := some (6, false) }) (v := .int .i64 0) rfl (by kernel_rfl) (by kernel_rfl) (by kernel_rfl) (fun _ _ _ h => h) (Or.inl ⟨by rfl, fun w hSw => ?_⟩) (by assumption) ?_
            · (try dsimp only at hSw)
              go_simp
            try simp only [Act.put, List.setIfInBounds_toArray, List.set_cons_zero, List.set_cons_succ]
            refine wpAnyH_take (i := 8) (oi := { dst := some 63, op := Op.binOp BinOp.neq 31 (Operand.tmp 62) (Operand.const (Value.int IntKind.i64 0)) 31, type := 4, pos := "law.go:83", after := #[{ on := 7, ground := Ground.data }, { on := 6, ground := Ground.guard }], guard := some (6, false) }) (v := .bool false) rfl (by kernel_rfl) (by kernel_rfl) (by kernel_rfl) (fun _ _ _ h => h) (Or.inl ⟨by rfl, fun w hSw => ?_⟩) (by assumption) ?_
            · (try dsimp only at hSw)
              go_simp
            try simp only [Act.put, List.setIfInBounds_toArray, List.set_cons_zero, List.set_cons_succ]
            refine wpAnyH_take (i := 9) (oi := { dst := some 64, op := Op.pick (Operand.tmp 61) (Operand.const (Value.bool true)) (Operand.tmp 63), type := 4, pos := "law.go:83", after := #[{ on := 6, ground := Ground.data }, { on := 8, ground := Ground.data }], guard := none }) (v := .bool false) rfl (by kernel_rfl) (by kernel_rfl) (by kernel_rfl) (fun _ _ _ h => h) (Or.inl ⟨by rfl, fun w hSw => ?_⟩) (by assumption) ?_
            · (try dsimp only at hSw)
              go_simp
            try simp only [Act.put, List.setIfInBounds_toArray, List.set_cons_zero, List.set_cons_succ]
            refine wpAnyH_take (i := 10) (oi := { dst := some 65, op := Op.move (Operand.tmp 64), type := 4, pos := "law.go:83", after := #[{ on := 9, ground := Ground.data }, { on := 6, ground := Ground.chain }], guard := none }) (v := .bool false) rfl (by kernel_rfl) (by kernel_rfl) (by kernel_rfl) (fun _ _ _ h => h) (Or.inl ⟨by rfl, fun w hSw => ?_⟩) (by assumption) ?_
            · (try dsimp only at hSw)
              go_simp
            try simp only [Act.put, List.setIfInBounds_toArray, List.set_cons_zero, List.set_cons_succ]
            refine wpAnyH_take (i := 11) (oi := { dst := some 66, op := Op.move (Operand.tmp 17), type := 24, pos := "law.go:83", after := #[{ on := 10, ground := Ground.guard }], guard := some (10, false) }) (v := .pointer (some ⟨gc, 0, none⟩)) rfl (by kernel_rfl) (by kernel_rfl) (by kernel_rfl) (fun _ _ _ h => h) (Or.inl ⟨by rfl, fun w hSw => ?_⟩) (by assumption) ?_
            · (try dsimp only at hSw)
              go_simp
            try simp only [Act.put, List.setIfInBounds_toArray, List.set_cons_zero, List.set_cons_succ]
            refine wpAnyH_take (i := 12) (oi := { dst := some 67, op := Op.load 28 (Operand.tmp 11), type := 28, pos := "law.go:83", after := #[{ on := 10, ground := Ground.guard }], guard := some (10, false) }) (v := .agg #[.slice Ar r.length cr]) rfl (by kernel_rfl) (by kernel_rfl) (by kernel_rfl) (fun _ _ _ h => h) (Or.inl ⟨by rfl, fun w hSw => ?_⟩) (by assumption) ?_
            · (try dsimp only at hSw)
              go_simp
            try simp only [Act.put, List.setIfInBounds_toArray, List.set_cons_zero, List.set_cons_succ]
            refine wpAnyH_ready (rs := [13]) (by kernel_rfl) (by simp) ?_
            refine AllReadyH.cons (o := { dst := some 68, op := Op.call { callee := Callee.value (Operand.func 17), args := #[Operand.tmp 66, Operand.tmp 67], argTypes := #[24, 28] }, type := 4, pos := "law.go:83", after := #[{ on := 11, ground := Ground.data }, { on := 12, ground := Ground.data }, { on := 10, ground := Ground.chain }, { on := 10, ground := Ground.guard }], guard := some (10, false) }) rfl (fun K hK => ?_) (AllReadyH.nil)
            go_simp
            go_at_call 17
            refine (lsame_is w.heap.size _ _ _ r _ HC.out HP.out (Nat.le_refl _)).mono ?_
            rintro e k15 ⟨rfl, h⟩
            have hk : Below k14.heap.size k14 k15 := HK9 h
            have hz := h.size
            try simp at hz
            replace r0 : k15.cell? ⟨k2.heap.size, 0, none⟩ = some (.slice Ar r.length cr) := (hk.cell (p := ⟨k2.heap.size, 0, none⟩) LT9).trans r0
            replace r0f : k15.frozen? ⟨k2.heap.size, 0, none⟩ = false := (hk.frozen (p := ⟨k2.heap.size, 0, none⟩) LT9).trans r0f
            replace HD := Lib.hid (Dc.below HD.out hk)
            replace HB := Lib.hid (Bx1.below HB.out hk)
            replace HP := Lib.hid (Prs.more (Prs.keep HP.out hk (Nat.le_refl _)) (Below.size hk))
            replace HEL := Lib.hid (ownsRow_below HEL.out hk)
            replace HC := Lib.hid (Dc.below HC.out hk)
            replace HER := Lib.hid (ownsRow_below HER.out hk)
            replace hb : Below w.heap.size w k15 := hb.trans (hk.mono hb.size)
            have hltB : k2.heap.size < k15.heap.size := LT9
            clear h hk
            try dsimp only
            refine hK.out _ _ ?_ (fun hHeld => ?_)
            · exact r0
            clear hK K
            try simp only [Act.put, List.setIfInBounds_toArray, List.set_cons_zero, List.set_cons_succ]
            refine wpAnyH_take (i := 14) (oi := { dst := some 69, op := Op.unOp UnOp.not 4 (Operand.tmp 68), type := 4, pos := "law.go:83", after := #[{ on := 13, ground := Ground.data }, { on := 10, ground := Ground.guard }], guard := some (10, false) }) (v := .bool false) rfl (by kernel_rfl) (by kernel_rfl) (by kernel_rfl) (fun _ _ _ h => h) (Or.inl ⟨by rfl, fun w hSw => ?_⟩) (by assumption) ?_
            · (try dsimp only at hSw)
              go_simp
            try simp only [Act.put, List.setIfInBounds_toArray, List.set_cons_zero, List.set_cons_succ]
            refine wpAnyH_take (i := 15) (oi := { dst := some 70, op := Op.pick (Operand.tmp 65) (Operand.const (Value.bool true)) (Operand.tmp 69), type := 4, pos := "law.go:83", after := #[{ on := 10, ground := Ground.data }, { on := 14, ground := Ground.data }], guard := none }) (v := .bool false) rfl (by kernel_rfl) (by kernel_rfl) (by kernel_rfl) (fun _ _ _ h => h) (Or.inl ⟨by rfl, fun w hSw => ?_⟩) (by assumption) ?_
            · (try dsimp only at hSw)
              go_simp
            try simp only [Act.put, List.setIfInBounds_toArray, List.set_cons_zero, List.set_cons_succ]
            refine wpAnyH_take (i := 16) (oi := { dst := some 71, op := Op.move (Operand.tmp 70), type := 4, pos := "law.go:83", after := #[{ on := 15, ground := Ground.data }, { on := 13, ground := Ground.chain }], guard := none }) (v := .bool false) rfl (by kernel_rfl) (by kernel_rfl) (by kernel_rfl) (fun _ _ _ h => h) (Or.inl ⟨by rfl, fun w hSw => ?_⟩) (by assumption) ?_
            · (try dsimp only at hSw)
              go_simp
            try simp only [Act.put, List.setIfInBounds_toArray, List.set_cons_zero, List.set_cons_succ]
            refine wpAnyH_take (i := 17) (oi := { dst := some 72, op := Op.move (Operand.tmp 17), type := 24, pos := "law.go:83", after := #[{ on := 16, ground := Ground.guard }], guard := some (16, false) }) (v := .pointer (some ⟨gc, 0, none⟩)) rfl (by kernel_rfl) (by kernel_rfl) (by kernel_rfl) (fun _ _ _ h => h) (Or.inl ⟨by rfl, fun w hSw => ?_⟩) (by assumption) ?_
            · (try dsimp only at hSw)
              go_simp
            try simp only [Act.put, List.setIfInBounds_toArray, List.set_cons_zero, List.set_cons_succ]
            refine wpAnyH_take (i := 18) (oi := { dst := some 73, op := Op.move (Operand.tmp 10), type := 24, pos := "law.go:83", after := #[{ on := 16, ground := Ground.guard }], guard := some (16, false) }) (v := .pointer (some ⟨k1.heap.size, 0, none⟩)) rfl (by kernel_rfl) (by kernel_rfl) (by kernel_rfl) (fun _ _ _ h => h) (Or.inl ⟨by rfl, fun w hSw => ?_⟩) (by assumption) ?_
            · (try dsimp only at hSw)
              go_simp
            try simp only [Act.put, List.setIfInBounds_toArray, List.set_cons_zero, List.set_cons_succ]
            refine wpAnyH_ready (rs := [19]) (by kernel_rfl) (by simp) ?_
            refine AllReadyH.cons (o := { dst := some 74, op := Op.call { callee := Callee.value (Operand.func 21), args := #[Operand.tmp 72, Operand.tmp 73], argTypes := #[24, 24] }, type := 4, pos := "law.go:83", after := #[{ on := 17, ground := Ground.data }, { on := 18, ground := Ground.data }, { on := 16, ground := Ground.chain }, { on := 16, ground := Ground.guard }], guard := some (16, false) }) rfl (fun K hK => ?_) (AllReadyH.nil)
            go_simp
            go_at_call 21
            refine (leq_is w.heap.size w.heap.size _ _ r r true _ HC.out HD.out (eqD_self _)).mono ?_
            rintro e k16 ⟨rfl, h⟩
            have hk : Below k15.heap.size k15 k16 := HK9 h
            have hz := h.size
            try simp at hz
            replace r0 : k16.cell? ⟨k2.heap.size, 0, none⟩ = some (.slice Ar r.length cr) := (hk.cell (p := ⟨k2.heap.size, 0, none⟩) LT9).trans r0
            replace r0f : k16.frozen? ⟨k2.heap.size, 0, none⟩ = false := (hk.frozen (p := ⟨k2.heap.size, 0, none⟩) LT9).trans r0f
            replace HD := Lib.hid (Dc.below HD.out hk)
            replace HB := Lib.hid (Bx1.below HB.out hk)
            replace HP := Lib.hid (Prs.more (Prs.keep HP.out hk (Nat.le_refl _)) (Below.size hk))
            replace HEL := Lib.hid (ownsRow_below HEL.out hk)
            replace HC := Lib.hid (Dc.below HC.out hk)
            replace HER := Lib.hid (ownsRow_below HER.out hk)
            replace hb : Below w.heap.size w k16 := hb.trans (hk.mono hb.size)
            have hltB : k2.heap.size < k16.heap.size := LT9
            clear h hk
            try dsimp only
            refine hK.out _ _ ?_ (fun hHeld => ?_)
            · exact r0
            clear hK K
            try simp only [Act.put, List.setIfInBounds_toArray, List.set_cons_zero, List.set_cons_succ]
            refine wpAnyH_take (i := 20) (oi := { dst := some 75, op := Op.unOp UnOp.not 4 (Operand.tmp 74), type := 4, pos := "law.go:83", after := #[{ on := 19, ground := Ground.data }, { on := 16, ground := Ground.guard }], guard := some (16, false) }) (v := .bool false) rfl (by kernel_rfl) (by kernel_rfl) (by kernel_rfl) (fun _ _ _ h => h) (Or.inl ⟨by rfl, fun w hSw => ?_⟩) (by assumption) ?_
            · (try dsimp only at hSw)
              go_simp
            try simp only [Act.put, List.setIfInBounds_toArray, List.set_cons_zero, List.set_cons_succ]
            refine wpAnyH_take (i := 21) (oi := { dst := some 76, op := Op.pick (Operand.tmp 71) (Operand.const (Value.bool true)) (Operand.tmp 75), type := 4, pos := "law.go:83", after := #[{ on := 16, ground := Ground.data }, { on := 20, ground := Ground.data }], guard := none }) (v := .bool false) rfl (by kernel_rfl) (by kernel_rfl) (by kernel_rfl) (fun _ _ _ h => h) (Or.inl ⟨by rfl, fun w hSw => ?_⟩) (by assumption) ?_
            · (try dsimp only at hSw)
              go_simp
            try simp only [Act.put, List.setIfInBounds_toArray, List.set_cons_zero, List.set_cons_succ]
            refine wpAnyH_done (by kernel_rfl) ?_ _
            refine NoPanic.normal ?_
            by_cases hat : 0 ≤ a1
            · have HBY := Lib.hid (Byt.of_own HEL.out)
              have HNI := Lib.hid (fun (V : World) => ownB_nil w.heap.size V)
              go_wp2_with (at_builtin; refine wpList_append_byt rfl _ _ rfl w.heap.size _ _ _ [] L rfl (HNI.out _) rfl HBY.out ?x1 ?x2 ?_)
              case x1 => simp; omega
              case x2 => exact hb.size
              intro v5 k50 hO5 h5
              have hb5 : Below w.heap.size w k50 := hb.trans h5
              obtain ⟨g, cg, rfl, -⟩ := hO5.head hL1
              obtain ⟨i, hi, hil⟩ := rem_nat a1 L.length hat hL1
              have hc := hO5.cellAt i hil
              have hf := hO5.frozenAt i
              obtain ⟨z, hz⟩ : ∃ z, L[i] = z := ⟨_, rfl⟩
              rw [hz] at hc
              have hzb := z.toNat_lt
              have hne0 : ((L.length : Int) == 0) = false := by rw [beq_eq_false_iff_ne]; omega
              obtain ⟨y, hy⟩ : ∃ y, bits BinOp.xor .u8 (z.toNat : Int) a2 = y := ⟨_, rfl⟩
              have hy2 := xor_u8 (z.toNat : Int) a2
              rw [hy] at hy2
              have hgB : w.heap.size ≤ g := (hO5.lt g rfl).1
              have hset := hO5.setAt i hil y hy2.1 hy2.2
              obtain ⟨L2, hL2e⟩ : ∃ L2, L.set i (UInt8.ofNat y.toNat) = L2 := ⟨_, rfl⟩
              rw [hL2e] at hset
              have HLEN2 := Lib.hid (show L2.length = L.length by rw [← hL2e, List.length_set])
              have HSET := Lib.hid hset; clear hset hO5
              have hb := hb5.setCell (p := ⟨g, i, none⟩) hgB (.int .u8 y)
              clear hb5 h5
              go_wp2_with fail
              refine (ltells_any _ _ _ _ L2 _ (Byt.of_own HSET.out) (Nat.le_refl _) (by have := HLEN2.out; omega)).mono ?_
              rintro e k61 ⟨rfl, h⟩
              replace hb := hb.trans (h.mono hb.size)
              clear h
              go_wp2_with fail
              refine (short_any A3 a3.length c3 w.heap.size 60 a3 _ (HRAW.out.below hb (Nat.le_refl _)) (by decide)).mono ?_
              rintro e k62 ⟨A4, c4, rfl, hby, rfl⟩
              obtain ⟨L4, hL4⟩ : ∃ L4, a3.take 60 = L4 := ⟨_, rfl⟩
              have hl4 : L4.length ≤ 60 := by rw [← hL4, List.length_take]; omega
              rw [hL4] at hby ⊢
              clear hL4
              go_wp2_with fail
              refine (ltells_any _ _ _ _ L4 _ hby hb.size (by omega)).mono ?_
              rintro e k63 ⟨rfl, h⟩
              replace hb := hb.trans (h.mono hb.size)
              clear h hby
              go_wp2
              go_ret
              exact ⟨rfl, hb⟩
            · go_wp2_with fail
              refine (ltells_any _ _ _ _ L _ (Byt.of_own HEL.out) (Nat.le_refl _) (by omega)).mono ?_
              rintro e k61 ⟨rfl, h⟩
              replace hb := hb.trans (h.mono hb.size)
              clear h
              go_wp2_with fail
              refine (short_any A3 a3.length c3 w.heap.size 60 a3 _ (HRAW.out.below hb (Nat.le_refl _)) (by decide)).mono ?_
              rintro e k62 ⟨A4, c4, rfl, hby, rfl⟩
              obtain ⟨L4, hL4⟩ : ∃ L4, a3.take 60 = L4 := ⟨_, rfl⟩
              have hl4 : L4.length ≤ 60 := by rw [← hL4, List.length_take]; omega
              rw [hL4] at hby ⊢
              clear hL4
              go_wp2_with fail
              refine (ltells_any _ _ _ _ L4 _ hby hb.size (by omega)).mono ?_
              rintro e k63 ⟨rfl, h⟩
              replace hb := hb.trans (h.mono hb.size)
              clear h hby
              go_wp2
              go_ret
              exact ⟨rfl, hb⟩

set_option maxRecDepth 100000 in
theorem lifted (os : Os) (started : os.Started) (H : Type) (enc : TypeId × Value → H) :
    ReturnsInHanded {} Try.checked os 4 .any (Rows.docBytesSpec.pre6 enc Try.prog Try.f4 Rows.docBytesRow.domain false) (Rows.docBytesSpec.post enc Try.prog Try.f4 false true false false) := by
  refine returnsInHanded_of_change (C := Try.checked) own started (by kernel_rfl) Try.func4
    (ChangeSpec.witness6 (enc := enc) (C := Try.checked) false ⟨#[], #[.slice none 0 0, .int .i64 0, .int .u8 0, .slice none 0 0], []⟩ 8 (by kernel_rfl) (by kernel_rfl) (by kernel_rfl) (by kernel_rfl)) ?_
  intro W base args ds gs before hval0 hW hcnd _
  have hval : ∀ (j : Nat) t v, Try.f4.params[j]? = some t → args[j]? = some v → Value.okWide Try.prog W .any base t v := hval0
  have hW' := hW
  obtain ⟨p, q, hA0, hV, rfl, hfz, hnd⟩ := hW
  have hA : DataW.TrodAll enc Try.prog W 0 (fun _ => true) true Try.f4.params.toList args.toList ds p := hA0
  have hA1 := hA
  rw [Try.params4] at hA hval
  obtain ⟨v0, vs0, d0, ds0, p0, q0, hargs, rfl, rfl, h0, r0⟩ := trodAll_cons hA
  obtain ⟨v1, vs1, d1, ds1, p1, q1, rfl, rfl, rfl, h1, r1⟩ := trodAll_cons r0
  obtain ⟨v2, vs2, d2, ds2, p2, q2, rfl, rfl, rfl, h2, r2⟩ := trodAll_cons r1
  obtain ⟨v3, vs3, d3, ds3, p3, q3, rfl, rfl, rfl, h3, r3⟩ := trodAll_cons r2
  obtain ⟨rfl, rfl, rfl⟩ := trodAll_nil r3
  obtain rfl : args = #[v0, v1, v2, v3] := by cases args; simp_all
  obtain ⟨rfl, rfl⟩ := trodVars_none hV
  obtain ⟨A0, c0, a0, rfl, w0, x0⟩ := open_opss (hval 0 22 v0 rfl rfl) h0
  obtain ⟨a1, rfl, rfl, rfl, w1⟩ := open_int Try.underlying3 (hval 1 3 v1 rfl rfl) h1
  obtain ⟨a2, rfl, rfl, rfl, w2⟩ := open_int Try.underlying5 (hval 2 5 v2 rfl rfl) h2
  obtain ⟨A3, c3, a3, rfl, w3, x3⟩ := open_bytes (hval 3 37 v3 rfl rfl) h3
  clear hA0 hval0
  simp only [List.append_nil] at hW'
  try simp only [List.append_nil] at hA1
  refine (walk W A0 c0 a0 w0 x0 a1 w1 a2 w2 A3 c3 a3 w3 x3).mono fun e W' ⟨he, hg⟩ => ?_
  subst he
  exact ⟨_, rfl, law_end Try.laidOut (by kernel_rfl) hW' hA1 hg rfl rfl rfl (trodAll_mk1 (shut_bool Try.underlying4 _))⟩

theorem over : Rows.docBytesRow.holds Try.pinned (OpenSpec.ofChange Rows.docBytesSpec) :=
  OpenClaim.holds_of_wide 4 Try.f4 rfl rfl rfl rfl rfl rfl rfl ⟨rfl, rfl, rfl, rfl, rfl⟩ rfl rfl rfl rfl rfl (by kernel_rfl) Try.func4 (by kernel_rfl)
    (of_decide_eq_true (by kernel_rfl)) (by unfold Func.isWrapper; first | (rw [if_pos (by decide +kernel)]; kernel_rfl) | (rw [if_neg (by decide +kernel)]; exact ⟨rfl, rfl⟩))
    (fun os started H enc _ => lifted os started H enc)

/-- the statement -/
theorem proved : Rows.DocBytesSaid := over
#print axioms proved
end Go.Proofs.Ytkgfbfopopmbhaa.docBytes
