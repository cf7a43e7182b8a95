/-
  Groups of operations go one behind the other, each whole or not at all, with the first error. There are no conditions.
-/
import Derived.Test.YtkgfbfopopmbhaaRows
import Derived.Test.YtkgfbfopopmbhaaL6Box
import Derived.Test.YtkgfbfopopmbhaaL6Open
import Derived.Test.YtkgfbfopopmbhaaLawKit
import Derived.WalkKit
import Derived.ProofKit
import Derived.OpenShut
import Derived.ShutString
set_option linter.unusedSimpArgs false
set_option linter.unusedVariables false
namespace Go.Proofs.Ytkgfbfopopmbhaa.docAll
open Go.ChangeShapes Go.WideShapes Go.ChangeAt Go.RowKit
open Go.ChangeMaps (open_string shut_string)
set_option linter.unusedVariables false

theorem own : ownKnob Try.prog.godebug = none := by kernel_rfl

set_option maxRecDepth 100000 in
set_option maxHeartbeats 8000000 in
theorem walk (w : World) (A0 : Option Addr) (c0 : Nat) (a0 : List (List Opn)) (w0 : Opss w w.heap.size (.slice A0 a0.length c0) a0) (x0 : ∀ l ∈ a0, ∀ x ∈ l, x.fit) :
    Calls Try.prog 3 #[.slice A0 a0.length c0] w fun e w' => e = .returned (.bool true) ∧ Below w.heap.size w w' := by
  have HA := Lib.hid w0; clear w0
  have HF := Lib.hid x0; clear x0
  have hb := Below.refl w.heap.size w
  go_enter Try.func3, Try.ntmps3
  go_wp2_with fail
  refine (begun6_any _).mono ?_
  rintro e k1 ⟨rfl, h⟩
  have hk : Below w.heap.size w k1 := HK9 h
  have hz := h.size
  try simp at hz
  replace hb : Below w.heap.size w k1 := hb.trans (hk.mono hb.size)
  clear h hk
  go_wp2_with fail
  refine (lnew_is w.heap.size _ (by have := hb.size; first | omega | exact Nat.le_refl _ | (simp; omega))).mono ?_
  rintro e k2 ⟨rfl, hd9, h⟩
  have hk : Below k1.heap.size k1 k2 := HK9 h
  have hz := h.size
  try simp at hz
  replace hb : Below w.heap.size w k2 := hb.trans (hk.mono hb.size)
  clear h hk
  have HD := Lib.hid hd9; clear hd9
  have hltHD : k1.heap.size < k2.heap.size := HD.out.lt
  go_wp2_with fail
  refine wp_world (fun W => W.cell? ⟨k2.heap.size, 0, none⟩ = some (.slice none 0 0) ∧ W.frozen? ⟨k2.heap.size, 0, none⟩ = false ∧ Bx1 W (k2.heap.size) 28 (.slice none 0 0) ∧ Below (k2.heap.size) k2 W ∧ k2.heap.size + 1 ≤ W.heap.size) ⟨(by go_simp), (by go_simp), (by first | exact Bx1.new _ _ _ | exact Bx1.below (Bx1.new _ _ _) (below_one _ _)), BL9, LT9⟩ ?_
  rintro k3 ⟨r0, r0f, bHB, hk, hz⟩
  replace HD := Lib.hid (Dc.below HD.out hk)
  replace hb : Below w.heap.size w k3 := hb.trans (hk.mono (by first | exact hb.size | omega | (simp; omega)))
  have lt0 : k2.heap.size < k3.heap.size := LT9
  clear hk
  have HB := Lib.hid bHB; clear bHB
  go_loopw [6] (fun i wr => ∃ (k : Nat) (r : List Par) (Ar : Option Addr) (cr : Nat), i = .int .i64 k ∧ k ≤ a0.length ∧ Dc wr w.heap.size (k1.heap.size) r ∧ Bx1 wr (k2.heap.size) 28 (.slice Ar r.length cr) ∧ Prs wr wr.heap.size (.slice Ar r.length cr) r ∧ Below w.heap.size w wr) (fun i _ => a0.length - (intOf i).toNat)
  case atStart => exact ⟨0, [], none, 0, rfl, Nat.zero_le _, HD.out, HB.out, prs_nil _ _, hb⟩
  case round =>
    have hG9 : k1.heap.size < k2.heap.size := by omega
    have hw9 : w.heap.size ≤ k1.heap.size := HD.out.lo
    clear r0 r0f hb HD HB
    obtain ⟨k, r, Ar, cr, rfl, hk, hd, hbx, hp, hb⟩ := hrel
    have HD := Lib.hid hd; clear hd
    have HB := Lib.hid hbx; clear hbx
    have HP := Lib.hid hp; clear hp
    have r0 := HB.out.cell
    have r0f := HB.out.frz
    have hltB := HB.out.lt
    by_cases hkn : k < a0.length ∧ k < 30
    · obtain ⟨hkl, hk30⟩ := hkn
      obtain ⟨ga, oa, Ak, ck, rfl, hga, hcell, hops⟩ := HA.out.at_ k hkl
      have hfit := HF.out a0[k] (List.getElem_mem ..)
      obtain ⟨os, hos⟩ : ∃ os, a0[k] = os := ⟨_, rfl⟩
      rw [hos] at hcell hops hfit
      clear hos
      have hki : (k : Int) < (a0.length : Int) := by omega
      have hki3 : (k : Int) < 30 := by omega
      have c0 := (hb.cell (p := ⟨ga, oa + k, none⟩) hga).trans hcell
      have HO := Lib.hid hops; clear hops hcell
      have HI := Lib.hid hfit; clear hfit
      have hltA : ga < wr.heap.size := Nat.lt_of_lt_of_le hga hb.size
      go_wp2_with fail
      refine (lcut_is w.heap.size w.heap.size _ os _ (HO.out.keep (BB9 hb) (Nat.le_refl _)) (by have := hb.size; first | exact hb.size | omega | (simp; omega)) (by have := hb.size; first | exact hb.size | omega | (simp; omega)) HI.out).mono ?_
      rintro e k11 ⟨Am, cm, m, rfl, ⟨ho9, hlm, hok9⟩, h⟩
      have hk : Below wr.heap.size wr k11 := HK9 h
      have hz := h.size
      try simp at hz
      replace r0 : k11.cell? ⟨k2.heap.size, 0, none⟩ = some (.slice Ar r.length cr) := (hk.cell (p := ⟨k2.heap.size, 0, none⟩) LT9).trans r0
      replace r0f : k11.frozen? ⟨k2.heap.size, 0, none⟩ = false := (hk.frozen (p := ⟨k2.heap.size, 0, none⟩) LT9).trans r0f
      replace c0 : k11.cell? ⟨ga, oa + k, none⟩ = some (.slice Ak os.length ck) := (hk.cell (p := ⟨ga, oa + k, none⟩) LT9).trans c0
      replace HD := Lib.hid (Dc.below HD.out hk)
      replace HB := Lib.hid (Bx1.below HB.out hk)
      replace HP := Lib.hid (Prs.more (Prs.keep HP.out hk (Nat.le_refl _)) (Below.size hk))
      replace hb : Below w.heap.size w k11 := hb.trans (hk.mono hb.size)
      have hltB : k2.heap.size < k11.heap.size := LT9
      have hltA : ga < k11.heap.size := LT9
      have HOm := Lib.hid ho9; clear ho9
      have HOKm := Lib.hid hok9; clear hok9
      clear h hk
      obtain ⟨⟨r2, e1⟩, hr⟩ : ∃ x, dApply r m = x := ⟨_, rfl⟩
      have hgr9 : Gd r := HD.out.1
      have hgr2 : Gd r2 := by have := hgr9.apply HOKm.out; rw [hr] at this; exact this
      have HR := Lib.hid hr; clear hr
      go_wp2_with fail
      refine (lrapply_is _ _ _ _ r r2 m e1 _ (Prs.keep HP.out BL9 (Nat.le_refl _)) (by first | exact Nat.le_refl _ | (simp; done) | (simp; omega) | omega) (Ops.of_own (ownsRow_below HOm.out BL9)) (Nat.le_refl _) hgr9 HOKm.out HR.out).mono ?_
      rintro e k12 ⟨Ax, cx, rfl, hp9, h⟩
      have hk : Below k11.heap.size k11 k12 := HK9 h
      have hz := h.size
      try simp at hz
      replace r0 : k12.cell? ⟨k2.heap.size, 0, none⟩ = some (.slice Ar r.length cr) := (hk.cell (p := ⟨k2.heap.size, 0, none⟩) LT9).trans r0
      replace r0f : k12.frozen? ⟨k2.heap.size, 0, none⟩ = false := (hk.frozen (p := ⟨k2.heap.size, 0, none⟩) LT9).trans r0f
      replace c0 : k12.cell? ⟨ga, oa + k, none⟩ = some (.slice Ak os.length ck) := (hk.cell (p := ⟨ga, oa + k, none⟩) LT9).trans c0
      replace HD := Lib.hid (Dc.below HD.out hk)
      replace HB := Lib.hid (Bx1.below HB.out hk)
      replace HP := Lib.hid (Prs.more (Prs.keep HP.out hk (Nat.le_refl _)) (Below.size hk))
      replace HOm := Lib.hid (ownsRow_below HOm.out hk)
      replace hb : Below w.heap.size w k12 := hb.trans (hk.mono hb.size)
      have hltB : k2.heap.size < k12.heap.size := LT9
      have hltA : ga < k12.heap.size := LT9
      have HPX := Lib.hid hp9; clear hp9
      clear h hk
      go_wp2_with fail
      refine calls_world (fun W => W.cell? ⟨k2.heap.size, 0, none⟩ = some (.slice Ar r.length cr) ∧ W.frozen? ⟨k2.heap.size, 0, none⟩ = false ∧ W.cell? ⟨ga, oa + k, none⟩ = some (.slice Ak os.length ck) ∧ W.cell? ⟨k12.heap.size, 0, none⟩ = some (.slice Ax r2.length cx) ∧ W.frozen? ⟨k12.heap.size, 0, none⟩ = false ∧ Bx1 W (k12.heap.size) 28 (.slice Ax r2.length cx) ∧ Below (k12.heap.size) k12 W ∧ k12.heap.size + 1 ≤ W.heap.size) ⟨(by go_simp), (by go_simp), (by go_simp), (by go_simp), (by go_simp), (by first | exact Bx1.new _ _ _ | exact Bx1.below (Bx1.new _ _ _) (below_one _ _)), BL9, LT9⟩ ?_
      clear r0 r0f c0
      rintro k13 ⟨r0, r0f, c0, x0, x0f, bHX, hk, hz⟩
      replace HD := Lib.hid (Dc.below HD.out hk)
      replace HB := Lib.hid (Bx1.below HB.out hk)
      replace HP := Lib.hid (Prs.more (Prs.keep HP.out hk (Nat.le_refl _)) (Below.size hk))
      replace HOm := Lib.hid (ownsRow_below HOm.out hk)
      replace HPX := Lib.hid (Prs.more (Prs.keep HPX.out hk (Nat.le_refl _)) (Below.size hk))
      replace hb : Below w.heap.size w k13 := hb.trans (hk.mono (by first | exact hb.size | omega | (simp; omega)))
      have hltB : k2.heap.size < k13.heap.size := LT9
      have hltA : ga < k13.heap.size := LT9
      have lt2 : k12.heap.size < k13.heap.size := LT9
      clear hk
      have HX := Lib.hid bHX; clear bHX
      refine (lapply_is w.heap.size _ _ _ r r2 m e1 _ HD.out (Ops.of_own HOm.out) (Nat.le_refl _) HOKm.out HR.out).mono ?_
      rintro e k14 ⟨rfl, hd9, hgr⟩
      have hz9 := hgr.size
      have hbe : Below k13.heap.size k13 _ := Below.refl _ _
      clear hbe
      try simp at hz9
      replace hb : Below w.heap.size w k14 := Dc.frame (w0 := w) (hb := hgr) (h := Dc.below HD.out BL9) (h0 := (BB9 hb)) (hB := by have := hb.size; first | omega | (simp; omega))
      replace HB := Lib.hid (Bx1.grown (hb := hgr) (h := Bx1.below HB.out BL9) (hd := Dc.below HD.out BL9) (ht := by decide))
      replace HP := Lib.hid (Prs.more (prs_grown (hb := hgr) (h := Prs.keep HP.out BL9 (Nat.le_refl _)) (hd := Dc.below HD.out BL9)) (Nat.le_trans LT9 hgr.size))
      replace HOm := Lib.hid (ownsRow_grown (hb := hgr) (h := ownsRow_below HOm.out BL9) (hd := Dc.below HD.out BL9) (hne := by decide))
      replace HPX := Lib.hid (Prs.more (prs_grown (hb := hgr) (h := Prs.keep HPX.out BL9 (Nat.le_refl _)) (hd := Dc.below HD.out BL9)) (Nat.le_trans LT9 hgr.size))
      replace HX := Lib.hid (Bx1.grown (hb := hgr) (h := Bx1.below HX.out BL9) (hd := Dc.below HD.out BL9) (ht := by decide))
      have r0N : k14.cell? ⟨k2.heap.size, 0, none⟩ = some (.slice Ar r.length cr) := (hgr.cell_far ⟨k2.heap.size, 0, none⟩ LT9 (fun e => by injection e with e; simp only at e; omega)).trans (by go_simp)
      clear r0
      have r0 := r0N; clear r0N
      have r0fN : k14.frozen? ⟨k2.heap.size, 0, none⟩ = false := (hgr.frozen_far ⟨k2.heap.size, 0, none⟩ LT9 (fun e => by injection e with e; simp only at e; omega)).trans (by go_simp)
      clear r0f
      have r0f := r0fN; clear r0fN
      have c0N : k14.cell? ⟨ga, oa + k, none⟩ = some (.slice Ak os.length ck) := (hgr.cell_far ⟨ga, oa + k, none⟩ LT9 (fun e => by injection e with e; simp only at e; omega)).trans (by go_simp)
      clear c0
      have c0 := c0N; clear c0N
      have x0N : k14.cell? ⟨k12.heap.size, 0, none⟩ = some (.slice Ax r2.length cx) := (hgr.cell_far ⟨k12.heap.size, 0, none⟩ LT9 (fun e => by injection e with e; simp only at e; omega)).trans (by go_simp)
      clear x0
      have x0 := x0N; clear x0N
      have x0fN : k14.frozen? ⟨k12.heap.size, 0, none⟩ = false := (hgr.frozen_far ⟨k12.heap.size, 0, none⟩ LT9 (fun e => by injection e with e; simp only at e; omega)).trans (by go_simp)
      clear x0f
      have x0f := x0fN; clear x0fN
      replace HD := Lib.hid hd9
      clear hd9
      have hltB : k2.heap.size < k14.heap.size := LT9
      have hltA : ga < k14.heap.size := LT9
      have lt2 : k12.heap.size < k14.heap.size := LT9
      clear hgr
      have hne9 : ((e1 : Int) != (e1 : Int)) = false := by simp
      go_wp2_with fail
      obtain ⟨k15, hk15⟩ : ∃ x, k14.setCell ⟨k2.heap.size, 0, none⟩ (.slice Ax r2.length cx) = x := ⟨_, rfl⟩
      replace HD := Lib.hid (box_doc (u := .slice Ax r2.length cx) HD.out HB.out (by decide) (by decide))
      rw [hk15] at HD
      replace HP := Lib.hid (box_prs (u := .slice Ax r2.length cx) HP.out HB.out)
      rw [hk15] at HP
      replace HOm := Lib.hid (box_own (u := .slice Ax r2.length cx) HOm.out HB.out (by decide))
      rw [hk15] at HOm
      replace HPX := Lib.hid (box_prs (u := .slice Ax r2.length cx) HPX.out HB.out)
      rw [hk15] at HPX
      replace HX := Lib.hid (Bx1.other HX.out (G := k2.heap.size) 0 (.slice Ax r2.length cx) (by omega))
      rw [hk15] at HX
      replace HB := Lib.hid (Bx1.set HB.out (.slice Ax r2.length cx))
      rw [hk15] at HB
      replace r0 : k15.cell? ⟨k2.heap.size, 0, none⟩ = some (.slice Ax r2.length cx) := Bx1.cell HB.out
      replace r0f : k15.frozen? ⟨k2.heap.size, 0, none⟩ = false := Bx1.frz HB.out
      replace c0 : k15.cell? ⟨ga, oa + k, none⟩ = some (.slice Ak os.length ck) := by rw [← hk15]; exact (World.cell?_setCell_other _ _ _ _ (fun e => by injection e with e; omega)).trans c0
      replace x0 : k15.cell? ⟨k12.heap.size, 0, none⟩ = some (.slice Ax r2.length cx) := by rw [← hk15]; exact (World.cell?_setCell_other _ _ _ _ (fun e => by injection e with e; omega)).trans x0
      replace x0f : k15.frozen? ⟨k12.heap.size, 0, none⟩ = false := by rw [← hk15]; exact (World.frozen?_setCell _ _ _ _).trans x0f
      have hzk15 : k15.heap.size = k14.heap.size := by rw [← hk15]; exact nblk_set _ _ _
      replace hb : Below w.heap.size w k15 := by
        rw [← hk15]
        exact hb.setCell (by first | omega | (simp; omega)) _
      rw [← hzk15] at HP
      rw [← hzk15] at HPX
      rw [hk15]
      clear hk15
      have hltB : k2.heap.size < k15.heap.size := LT9
      have hltA : ga < k15.heap.size := LT9
      have lt2 : k12.heap.size < k15.heap.size := LT9
      refine (lsame_is w.heap.size _ _ _ r2 _ HD.out HPX.out (Nat.le_refl _)).mono ?_
      rintro e k16 ⟨rfl, h⟩
      have hk : Below k15.heap.size k15 k16 := HK9 h
      have hz := h.size
      try simp at hz
      replace r0 : k16.cell? ⟨k2.heap.size, 0, none⟩ = some (.slice Ax r2.length cx) := (hk.cell (p := ⟨k2.heap.size, 0, none⟩) LT9).trans r0
      replace r0f : k16.frozen? ⟨k2.heap.size, 0, none⟩ = false := (hk.frozen (p := ⟨k2.heap.size, 0, none⟩) LT9).trans r0f
      replace c0 : k16.cell? ⟨ga, oa + k, none⟩ = some (.slice Ak os.length ck) := (hk.cell (p := ⟨ga, oa + k, none⟩) LT9).trans c0
      replace x0 : k16.cell? ⟨k12.heap.size, 0, none⟩ = some (.slice Ax r2.length cx) := (hk.cell (p := ⟨k12.heap.size, 0, none⟩) LT9).trans x0
      replace x0f : k16.frozen? ⟨k12.heap.size, 0, none⟩ = false := (hk.frozen (p := ⟨k12.heap.size, 0, none⟩) LT9).trans x0f
      replace HD := Lib.hid (Dc.below HD.out hk)
      replace HB := Lib.hid (Bx1.below HB.out hk)
      replace HP := Lib.hid (Prs.more (Prs.keep HP.out hk (Nat.le_refl _)) (Below.size hk))
      replace HOm := Lib.hid (ownsRow_below HOm.out hk)
      replace HPX := Lib.hid (Prs.more (Prs.keep HPX.out hk (Nat.le_refl _)) (Below.size hk))
      replace HX := Lib.hid (Bx1.below HX.out hk)
      replace hb : Below w.heap.size w k16 := hb.trans (hk.mono hb.size)
      have hltB : k2.heap.size < k16.heap.size := LT9
      have hltA : ga < k16.heap.size := LT9
      have lt2 : k12.heap.size < k16.heap.size := LT9
      clear h hk
      go_wp2
      go_roundw
      case rel => exact ⟨k + 1, r2, Ax, cx, by go_num, by omega, HD.out, HB.out, HPX.out, hb⟩
      case measure => simp [intOf]; omega
    · have h2 : ¬ k < a0.length ∨ (k < a0.length ∧ ¬ k < 30) := by omega
      clear hkn
      rcases h2 with h2 | ⟨h2, h3⟩
      all_goals
        go_wp2
        go_ret
        exact ⟨rfl, hb⟩

set_option maxRecDepth 100000 in
theorem lifted (os : Os) (started : os.Started) (H : Type) (enc : TypeId × Value → H) :
    ReturnsInHanded {} Try.checked os 3 .any (Rows.docAllSpec.pre6 enc Try.prog Try.f3 Rows.docAllRow.domain false) (Rows.docAllSpec.post enc Try.prog Try.f3 false true false false) := by
  refine returnsInHanded_of_change (C := Try.checked) own started (by kernel_rfl) Try.func3
    (ChangeSpec.witness6 (enc := enc) (C := Try.checked) false ⟨#[], #[.slice none 0 0], []⟩ 8 (by kernel_rfl) (by kernel_rfl) (by kernel_rfl) (by kernel_rfl)) ?_
  intro W base args ds gs before hval0 hW hcnd _
  have hval : ∀ (j : Nat) t v, Try.f3.params[j]? = some t → args[j]? = some v → Value.okWide Try.prog W .any base t v := hval0
  have hW' := hW
  obtain ⟨p, q, hA0, hV, rfl, hfz, hnd⟩ := hW
  have hA : DataW.TrodAll enc Try.prog W 0 (fun _ => true) true Try.f3.params.toList args.toList ds p := hA0
  have hA1 := hA
  rw [Try.params3] at hA hval
  obtain ⟨v0, vs0, d0, ds0, p0, q0, hargs, rfl, rfl, h0, r0⟩ := trodAll_cons hA
  obtain ⟨rfl, rfl, rfl⟩ := trodAll_nil r0
  obtain rfl : args = #[v0] := by cases args; simp_all
  obtain ⟨rfl, rfl⟩ := trodVars_none hV
  obtain ⟨A0, c0, a0, rfl, w0, x0⟩ := open_opss (hval 0 22 v0 rfl rfl) h0
  clear hA0 hval0
  simp only [List.append_nil] at hW'
  try simp only [List.append_nil] at hA1
  refine (walk W A0 c0 a0 w0 x0).mono fun e W' ⟨he, hg⟩ => ?_
  subst he
  exact ⟨_, rfl, law_end Try.laidOut (by kernel_rfl) hW' hA1 hg rfl rfl rfl (trodAll_mk1 (shut_bool Try.underlying4 _))⟩

theorem over : Rows.docAllRow.holds Try.pinned (OpenSpec.ofChange Rows.docAllSpec) :=
  OpenClaim.holds_of_wide 3 Try.f3 rfl rfl rfl rfl rfl rfl rfl ⟨rfl, rfl, rfl, rfl, rfl⟩ rfl rfl rfl rfl rfl (by kernel_rfl) Try.func3 (by kernel_rfl)
    (of_decide_eq_true (by kernel_rfl)) (by unfold Func.isWrapper; first | (rw [if_pos (by decide +kernel)]; kernel_rfl) | (rw [if_neg (by decide +kernel)]; exact ⟨rfl, rfl⟩))
    (fun os started H enc _ => lifted os started H enc)

/-- the statement -/
theorem proved : Rows.DocAllSaid := over
#print axioms proved
end Go.Proofs.Ytkgfbfopopmbhaa.docAll
