/-
  What is put and deleted again leaves what was there. There are no conditions.
-/
import Derived.Test.YtkgfbfopopmbhaaRows
import Derived.Test.YtkgfbfopopmbhaaL6Box
import Derived.Test.YtkgfbfopopmbhaaLawKit
import Derived.WalkKit
import Derived.ProofKit
import Derived.OpenShut
import Derived.ShutString
set_option linter.unusedSimpArgs false
set_option linter.unusedVariables false
namespace Go.Proofs.Ytkgfbfopopmbhaa.docBack
open Go.ChangeShapes Go.WideShapes Go.ChangeAt Go.RowKit
open Go.ChangeMaps (open_string shut_string)
set_option linter.unusedVariables false

theorem own : ownKnob Try.prog.godebug = none := by kernel_rfl

set_option maxRecDepth 100000 in
set_option maxHeartbeats 8000000 in
theorem walk (w : World) (A0 : Option Addr) (c0 : Nat) (a0 : List Opn) (w0 : Ops w w.heap.size (.slice A0 a0.length c0) a0) (x0 : ∀ x ∈ a0, x.fit) (a1 : ByteArray) (w1 : a1.size ≤ maxLen) :
    Calls Try.prog 10 #[.slice A0 a0.length c0, .string a1] w fun e w' => e = .returned (.bool true) ∧ Below w.heap.size w w' := by
  have HA0 := Lib.hid w0; clear w0
  have HF0 := Lib.hid x0; clear x0
  have hb := Below.refl w.heap.size w
  go_enter Try.func10, Try.ntmps10
  go_wp2_with fail
  refine (begun6_any _).mono ?_
  rintro e k1 ⟨rfl, h⟩
  have hk : Below w.heap.size w k1 := HK9 h
  have hz := h.size
  try simp at hz
  replace hb : Below w.heap.size w k1 := hb.trans (hk.mono hb.size)
  clear h hk
  go_wp2_with fail
  refine (lcut_is w.heap.size w.heap.size _ a0 _ (HA0.out.keep (BB9 hb) (Nat.le_refl _)) (by have := hb.size; first | exact hb.size | omega | (simp; omega)) (by have := hb.size; first | exact hb.size | omega | (simp; omega)) HF0.out).mono ?_
  rintro e k2 ⟨Am, cm, m, rfl, ⟨ho9, hlm, hok9⟩, h⟩
  have hk : Below k1.heap.size k1 k2 := HK9 h
  have hz := h.size
  try simp at hz
  replace hb : Below w.heap.size w k2 := hb.trans (hk.mono hb.size)
  have HOm := Lib.hid ho9; clear ho9
  have HOKm := Lib.hid hok9; clear hok9
  clear h hk
  by_cases hk40 : 40 < a1.size
  · obtain ⟨s, hs⟩ : ∃ s, a1.extract 0 40 = s := ⟨_, rfl⟩
    have hss : s.size ≤ 40 := by rw [← hs, ByteArray.size_extract]; omega
    have hki : (40 : Int) < (a1.size : Int) := by omega
    have hkj : ¬ ((40 : Int) ≤ (a1.size : Int)) = False := by simp; omega
    obtain ⟨x, hx⟩ : ∃ x, Ru.key s.data.toList = x := ⟨_, rfl⟩
    have HX := Lib.hid hx; clear hx
    go_wp2_with fail
    refine (rkey_is s x _ (by omega) HX.out).mono ?_
    rintro e k3 ⟨rfl, h⟩
    have hk : Below k2.heap.size k2 k3 := HK9 h
    have hz := h.size
    try simp at hz
    replace HOm := Lib.hid (ownsRow_below HOm.out hk)
    replace hb : Below w.heap.size w k3 := hb.trans (hk.mono hb.size)
    clear h hk
    cases x
    · go_wp2
      go_ret
      exact ⟨rfl, hb⟩
    · go_wp2_with fail
      refine (lnew_is w.heap.size _ (by have := hb.size; first | omega | exact Nat.le_refl _ | (simp; omega))).mono ?_
      rintro e k4 ⟨rfl, hd9, h⟩
      have hk : Below k3.heap.size k3 k4 := HK9 h
      have hz := h.size
      try simp at hz
      replace HOm := Lib.hid (ownsRow_below HOm.out hk)
      replace hb : Below w.heap.size w k4 := hb.trans (hk.mono hb.size)
      clear h hk
      have HD := Lib.hid hd9; clear hd9
      have hltHD : k3.heap.size < k4.heap.size := HD.out.lt
      obtain ⟨⟨r, e1⟩, hr⟩ : ∃ x, dApply [] m = x := ⟨_, rfl⟩
      have hgr9 : Gd r := by have := gd_nil.apply HOKm.out; rw [hr] at this; exact this
      have hr8 : r.length ≤ 8 := by have := dApply_len m; rw [hr] at this; exact this
      have HR := Lib.hid hr; clear hr
      go_wp2_with fail
      refine (lapply_is w.heap.size _ _ _ [] r m e1 _ (Dc.below HD.out BL9) (Ops.of_own (ownsRow_below HOm.out BL9)) (Nat.le_refl _) HOKm.out HR.out).mono ?_
      rintro e k5 ⟨rfl, hd9, hgr⟩
      have hz9 := hgr.size
      have hbe : Below k4.heap.size k4 _ := Below.refl _ _
      clear hbe
      try simp at hz9
      replace hb : Below w.heap.size w k5 := Dc.frame (w0 := w) (hb := hgr) (h := Dc.below HD.out BL9) (h0 := (BB9 hb)) (hB := by have := hb.size; first | omega | (simp; omega))
      replace HOm := Lib.hid (ownsRow_grown (hb := hgr) (h := ownsRow_below HOm.out BL9) (hd := Dc.below HD.out BL9) (hne := by decide))
      replace HD := Lib.hid hd9
      clear hd9
      clear hgr
      obtain ⟨⟨⟨gk, gn, gt⟩, y⟩, hg⟩ : ∃ x, dGet r s = x := ⟨_, rfl⟩
      have hth := dGet_there hgr9.srt s
      rw [hg] at hth
      simp only at hth
      have HG := Lib.hid hg; clear hg
      go_wp2_with fail
      refine (lget_is w.heap.size _ r s gk gn gt y _ (Dc.below HD.out BL9) (by omega) HG.out).mono ?_
      rintro e k6 ⟨rfl, h⟩
      have hk : Below k5.heap.size k5 k6 := HK9 h
      have hz := h.size
      try simp at hz
      replace HOm := Lib.hid (ownsRow_below HOm.out hk)
      replace HD := Lib.hid (Dc.below HD.out hk)
      replace hb : Below w.heap.size w k6 := hb.trans (hk.mono hb.size)
      clear h hk
      cases y
      · obtain ⟨r2, hr2⟩ : ∃ r2, dSet r s ⟨1, 3, ⟨#[]⟩⟩ = r2 := ⟨_, rfl⟩
        have hpd := put_del hgr9.srt hth.symm 3
        have hpn := put_ne hgr9.srt hth.symm 3
        rw [hr2] at hpd hpn
        have hkx := HX.out
        have o1 : opErr r (putO s 3) = 0 := putO_err hkx (.inl (by omega))
        have a1p : dApply r [putO s 3] = (r2, 0) := by rw [dApply_one _ _ o1, putO_do, hr2]
        have o2 : opErr r2 (delO s) = 0 := delO_err hkx
        have a2p : dApply r2 [delO s] = (r, 0) := by rw [dApply_one _ _ o2, delO_do, hpd]
        have a3p : dApply r [putO s 3, delO s] = (r, 0) := by rw [dApply_two _ _ _ o1 (by rw [putO_do, hr2]; exact o2), putO_do, hr2, delO_do, hpd]
        have hok1 : (putO s 3).ok := putO_ok (by omega) ⟨by decide, by decide⟩
        have hok2 : (delO s).ok := delO_ok (by omega)
        have hgr2 : Gd r2 := by have := hgr9.apply (os := [putO s 3]) (fun o ho => by rw [List.mem_singleton.1 ho]; exact hok1); rw [a1p] at this; exact this
        have hne := eqD_ne hpn
        have K1 := Lib.hid a1p; clear a1p
        have K2 := Lib.hid a2p; clear a2p
        have K3 := Lib.hid a3p; clear a3p
        have KO1 := Lib.hid hok1; clear hok1
        have KO2 := Lib.hid hok2; clear hok2
        have KN := Lib.hid hne; clear hne
        clear hpd hpn hr2 o1 o2 hkx hth
        go_wp2_with fail
        refine (lcopy_is w.heap.size _ r _ (Dc.below HD.out BL9) (by have := hb.size; first | exact hb.size | omega | (simp; omega))).mono ?_
        rintro e k7 ⟨gc, rfl, ⟨hc, hcl⟩, h⟩
        have hk : Below k6.heap.size k6 k7 := HK9 h
        have hz := h.size
        try simp at hz
        replace HOm := Lib.hid (ownsRow_below HOm.out hk)
        replace HD := Lib.hid (Dc.below HD.out hk)
        replace hb : Below w.heap.size w k7 := hb.trans (hk.mono hb.size)
        try simp at hcl
        clear h hk
        have HC := Lib.hid hc
        have hltHC : gc < k7.heap.size := HC.out.lt
        clear hc
        go_wp2_with fail
        refine calls_world (fun W => W.cell? ⟨k7.heap.size, 0, none⟩ = some (.int .i64 1) ∧ W.cell? ⟨k7.heap.size, 1, none⟩ = some (.string s) ∧ W.cell? ⟨k7.heap.size, 2, none⟩ = some (.int .i64 1) ∧ W.cell? ⟨k7.heap.size, 3, none⟩ = some (.int .i64 3) ∧ W.cell? ⟨k7.heap.size, 4, none⟩ = some (.string ⟨#[]⟩) ∧ W.cell? ⟨k7.heap.size, 5, none⟩ = some (.int .i64 0) ∧ W.cell? ⟨k7.heap.size, 6, none⟩ = some (.int .i64 0) ∧ W.cell? ⟨k7.heap.size, 7, none⟩ = some (.string ⟨#[]⟩) ∧ W.cell? ⟨k7.heap.size, 8, none⟩ = some (.int .i64 0) ∧ W.cell? ⟨k7.heap.size + 1, 0, none⟩ = some (.int .i64 2) ∧ W.cell? ⟨k7.heap.size + 1, 1, none⟩ = some (.string s) ∧ W.cell? ⟨k7.heap.size + 1, 2, none⟩ = some (.int .i64 0) ∧ W.cell? ⟨k7.heap.size + 1, 3, none⟩ = some (.int .i64 0) ∧ W.cell? ⟨k7.heap.size + 1, 4, none⟩ = some (.string ⟨#[]⟩) ∧ W.cell? ⟨k7.heap.size + 1, 5, none⟩ = some (.int .i64 0) ∧ W.cell? ⟨k7.heap.size + 1, 6, none⟩ = some (.int .i64 0) ∧ W.cell? ⟨k7.heap.size + 1, 7, none⟩ = some (.string ⟨#[]⟩) ∧ W.cell? ⟨k7.heap.size + 1, 8, none⟩ = some (.int .i64 0) ∧ Ops W (k7.heap.size + 1 + 1 + 1) (.slice (some ⟨k7.heap.size + 1 + 1, 0, none⟩) 2 2) [putO s 3, delO s] ∧ Below (k7.heap.size) k7 W ∧ k7.heap.size + 3 ≤ W.heap.size) ⟨(by go_simp), (by go_simp), (by go_simp), (by go_simp), (by go_simp), (by go_simp), (by go_simp), (by go_simp), (by go_simp), (by go_simp), (by go_simp), (by go_simp), (by go_simp), (by go_simp), (by go_simp), (by go_simp), (by go_simp), (by go_simp), (ops_new _ _ [putO s 3, delO s] (by simp)), BL9, LT9⟩ ?_
        rintro k8 ⟨p0, p1, p2, p3, p4, p5, p6, p7, p8, q0, q1, q2, q3, q4, q5, q6, q7, q8, hop, hk, hz⟩
        replace HOm := Lib.hid (ownsRow_below HOm.out hk)
        replace HD := Lib.hid (Dc.below HD.out hk)
        replace HC := Lib.hid (Dc.below HC.out hk)
        replace hb : Below w.heap.size w k8 := hb.trans (hk.mono (by first | exact hb.size | omega | (simp; omega)))
        have lt0 : k7.heap.size < k8.heap.size := LT9
        have lt1 : k7.heap.size + 1 < k8.heap.size := LT9
        clear hk
        have HOP := Lib.hid hop; clear hop
        refine (lapply_is w.heap.size _ _ _ r r _ 0 _ HD.out HOP.out (by omega) (fun o ho => by simp only [List.mem_cons, List.not_mem_nil, or_false] at ho; rcases ho with rfl | rfl; exact KO1.out; exact KO2.out) K3.out).mono ?_
        rintro e k9 ⟨rfl, hd9, hgr⟩
        have hz9 := hgr.size
        have hbe : Below k8.heap.size k8 _ := Below.refl _ _
        clear hbe
        try simp at hz9
        replace hb : Below w.heap.size w k9 := Dc.frame (w0 := w) (hb := hgr) (h := Dc.below HD.out BL9) (h0 := (BB9 hb)) (hB := by have := hb.size; first | omega | (simp; omega))
        replace HOm := Lib.hid (ownsRow_grown (hb := hgr) (h := ownsRow_below HOm.out BL9) (hd := Dc.below HD.out BL9) (hne := by decide))
        replace HC := Lib.hid (Dc.grown (hb := hgr) (h := Dc.below HC.out BL9) (h2 := Dc.below HD.out BL9) (hne := (by omega)))
        have p0N : k9.cell? ⟨k7.heap.size, 0, none⟩ = some (.int .i64 1) := (hgr.cell_far ⟨k7.heap.size, 0, none⟩ LT9 (fun e => by injection e with e; simp only at e; omega)).trans (by go_simp)
        clear p0
        have p0 := p0N; clear p0N
        have p1N : k9.cell? ⟨k7.heap.size, 1, none⟩ = some (.string s) := (hgr.cell_far ⟨k7.heap.size, 1, none⟩ LT9 (fun e => by injection e with e; simp only at e; omega)).trans (by go_simp)
        clear p1
        have p1 := p1N; clear p1N
        have p2N : k9.cell? ⟨k7.heap.size, 2, none⟩ = some (.int .i64 1) := (hgr.cell_far ⟨k7.heap.size, 2, none⟩ LT9 (fun e => by injection e with e; simp only at e; omega)).trans (by go_simp)
        clear p2
        have p2 := p2N; clear p2N
        have p3N : k9.cell? ⟨k7.heap.size, 3, none⟩ = some (.int .i64 3) := (hgr.cell_far ⟨k7.heap.size, 3, none⟩ LT9 (fun e => by injection e with e; simp only at e; omega)).trans (by go_simp)
        clear p3
        have p3 := p3N; clear p3N
        have p4N : k9.cell? ⟨k7.heap.size, 4, none⟩ = some (.string ⟨#[]⟩) := (hgr.cell_far ⟨k7.heap.size, 4, none⟩ LT9 (fun e => by injection e with e; simp only at e; omega)).trans (by go_simp)
        clear p4
        have p4 := p4N; clear p4N
        have p5N : k9.cell? ⟨k7.heap.size, 5, none⟩ = some (.int .i64 0) := (hgr.cell_far ⟨k7.heap.size, 5, none⟩ LT9 (fun e => by injection e with e; simp only at e; omega)).trans (by go_simp)
        clear p5
        have p5 := p5N; clear p5N
        have p6N : k9.cell? ⟨k7.heap.size, 6, none⟩ = some (.int .i64 0) := (hgr.cell_far ⟨k7.heap.size, 6, none⟩ LT9 (fun e => by injection e with e; simp only at e; omega)).trans (by go_simp)
        clear p6
        have p6 := p6N; clear p6N
        have p7N : k9.cell? ⟨k7.heap.size, 7, none⟩ = some (.string ⟨#[]⟩) := (hgr.cell_far ⟨k7.heap.size, 7, none⟩ LT9 (fun e => by injection e with e; simp only at e; omega)).trans (by go_simp)
        clear p7
        have p7 := p7N; clear p7N
        have p8N : k9.cell? ⟨k7.heap.size, 8, none⟩ = some (.int .i64 0) := (hgr.cell_far ⟨k7.heap.size, 8, none⟩ LT9 (fun e => by injection e with e; simp only at e; omega)).trans (by go_simp)
        clear p8
        have p8 := p8N; clear p8N
        have q0N : k9.cell? ⟨k7.heap.size + 1, 0, none⟩ = some (.int .i64 2) := (hgr.cell_far ⟨k7.heap.size + 1, 0, none⟩ LT9 (fun e => by injection e with e; simp only at e; omega)).trans (by go_simp)
        clear q0
        have q0 := q0N; clear q0N
        have q1N : k9.cell? ⟨k7.heap.size + 1, 1, none⟩ = some (.string s) := (hgr.cell_far ⟨k7.heap.size + 1, 1, none⟩ LT9 (fun e => by injection e with e; simp only at e; omega)).trans (by go_simp)
        clear q1
        have q1 := q1N; clear q1N
        have q2N : k9.cell? ⟨k7.heap.size + 1, 2, none⟩ = some (.int .i64 0) := (hgr.cell_far ⟨k7.heap.size + 1, 2, none⟩ LT9 (fun e => by injection e with e; simp only at e; omega)).trans (by go_simp)
        clear q2
        have q2 := q2N; clear q2N
        have q3N : k9.cell? ⟨k7.heap.size + 1, 3, none⟩ = some (.int .i64 0) := (hgr.cell_far ⟨k7.heap.size + 1, 3, none⟩ LT9 (fun e => by injection e with e; simp only at e; omega)).trans (by go_simp)
        clear q3
        have q3 := q3N; clear q3N
        have q4N : k9.cell? ⟨k7.heap.size + 1, 4, none⟩ = some (.string ⟨#[]⟩) := (hgr.cell_far ⟨k7.heap.size + 1, 4, none⟩ LT9 (fun e => by injection e with e; simp only at e; omega)).trans (by go_simp)
        clear q4
        have q4 := q4N; clear q4N
        have q5N : k9.cell? ⟨k7.heap.size + 1, 5, none⟩ = some (.int .i64 0) := (hgr.cell_far ⟨k7.heap.size + 1, 5, none⟩ LT9 (fun e => by injection e with e; simp only at e; omega)).trans (by go_simp)
        clear q5
        have q5 := q5N; clear q5N
        have q6N : k9.cell? ⟨k7.heap.size + 1, 6, none⟩ = some (.int .i64 0) := (hgr.cell_far ⟨k7.heap.size + 1, 6, none⟩ LT9 (fun e => by injection e with e; simp only at e; omega)).trans (by go_simp)
        clear q6
        have q6 := q6N; clear q6N
        have q7N : k9.cell? ⟨k7.heap.size + 1, 7, none⟩ = some (.string ⟨#[]⟩) := (hgr.cell_far ⟨k7.heap.size + 1, 7, none⟩ LT9 (fun e => by injection e with e; simp only at e; omega)).trans (by go_simp)
        clear q7
        have q7 := q7N; clear q7N
        have q8N : k9.cell? ⟨k7.heap.size + 1, 8, none⟩ = some (.int .i64 0) := (hgr.cell_far ⟨k7.heap.size + 1, 8, none⟩ LT9 (fun e => by injection e with e; simp only at e; omega)).trans (by go_simp)
        clear q8
        have q8 := q8N; clear q8N
        replace HD := Lib.hid hd9
        clear hd9
        have lt0 : k7.heap.size < k9.heap.size := LT9
        have lt1 : k7.heap.size + 1 < k9.heap.size := LT9
        clear hgr
        clear HOP
        go_wp2_with fail
        refine (leq_is w.heap.size w.heap.size _ _ r r true _ (Dc.below HD.out BL9) (Dc.below HC.out BL9) (eqD_self _)).mono ?_
        rintro e k10 ⟨rfl, h⟩
        have hk : Below k9.heap.size k9 k10 := HK9 h
        have hz := h.size
        try simp at hz
        replace p0 : k10.cell? ⟨k7.heap.size, 0, none⟩ = some (.int .i64 1) := (hk.cell (p := ⟨k7.heap.size, 0, none⟩) LT9).trans p0
        replace p1 : k10.cell? ⟨k7.heap.size, 1, none⟩ = some (.string s) := (hk.cell (p := ⟨k7.heap.size, 1, none⟩) LT9).trans p1
        replace p2 : k10.cell? ⟨k7.heap.size, 2, none⟩ = some (.int .i64 1) := (hk.cell (p := ⟨k7.heap.size, 2, none⟩) LT9).trans p2
        replace p3 : k10.cell? ⟨k7.heap.size, 3, none⟩ = some (.int .i64 3) := (hk.cell (p := ⟨k7.heap.size, 3, none⟩) LT9).trans p3
        replace p4 : k10.cell? ⟨k7.heap.size, 4, none⟩ = some (.string ⟨#[]⟩) := (hk.cell (p := ⟨k7.heap.size, 4, none⟩) LT9).trans p4
        replace p5 : k10.cell? ⟨k7.heap.size, 5, none⟩ = some (.int .i64 0) := (hk.cell (p := ⟨k7.heap.size, 5, none⟩) LT9).trans p5
        replace p6 : k10.cell? ⟨k7.heap.size, 6, none⟩ = some (.int .i64 0) := (hk.cell (p := ⟨k7.heap.size, 6, none⟩) LT9).trans p6
        replace p7 : k10.cell? ⟨k7.heap.size, 7, none⟩ = some (.string ⟨#[]⟩) := (hk.cell (p := ⟨k7.heap.size, 7, none⟩) LT9).trans p7
        replace p8 : k10.cell? ⟨k7.heap.size, 8, none⟩ = some (.int .i64 0) := (hk.cell (p := ⟨k7.heap.size, 8, none⟩) LT9).trans p8
        replace q0 : k10.cell? ⟨k7.heap.size + 1, 0, none⟩ = some (.int .i64 2) := (hk.cell (p := ⟨k7.heap.size + 1, 0, none⟩) LT9).trans q0
        replace q1 : k10.cell? ⟨k7.heap.size + 1, 1, none⟩ = some (.string s) := (hk.cell (p := ⟨k7.heap.size + 1, 1, none⟩) LT9).trans q1
        replace q2 : k10.cell? ⟨k7.heap.size + 1, 2, none⟩ = some (.int .i64 0) := (hk.cell (p := ⟨k7.heap.size + 1, 2, none⟩) LT9).trans q2
        replace q3 : k10.cell? ⟨k7.heap.size + 1, 3, none⟩ = some (.int .i64 0) := (hk.cell (p := ⟨k7.heap.size + 1, 3, none⟩) LT9).trans q3
        replace q4 : k10.cell? ⟨k7.heap.size + 1, 4, none⟩ = some (.string ⟨#[]⟩) := (hk.cell (p := ⟨k7.heap.size + 1, 4, none⟩) LT9).trans q4
        replace q5 : k10.cell? ⟨k7.heap.size + 1, 5, none⟩ = some (.int .i64 0) := (hk.cell (p := ⟨k7.heap.size + 1, 5, none⟩) LT9).trans q5
        replace q6 : k10.cell? ⟨k7.heap.size + 1, 6, none⟩ = some (.int .i64 0) := (hk.cell (p := ⟨k7.heap.size + 1, 6, none⟩) LT9).trans q6
        replace q7 : k10.cell? ⟨k7.heap.size + 1, 7, none⟩ = some (.string ⟨#[]⟩) := (hk.cell (p := ⟨k7.heap.size + 1, 7, none⟩) LT9).trans q7
        replace q8 : k10.cell? ⟨k7.heap.size + 1, 8, none⟩ = some (.int .i64 0) := (hk.cell (p := ⟨k7.heap.size + 1, 8, none⟩) LT9).trans q8
        replace HOm := Lib.hid (ownsRow_below HOm.out hk)
        replace HD := Lib.hid (Dc.below HD.out hk)
        replace HC := Lib.hid (Dc.below HC.out hk)
        replace hb : Below w.heap.size w k10 := hb.trans (hk.mono hb.size)
        have lt0 : k7.heap.size < k10.heap.size := LT9
        have lt1 : k7.heap.size + 1 < k10.heap.size := LT9
        clear h hk
        go_wp2_with fail
        refine calls_world (fun W => W.cell? ⟨k7.heap.size, 0, none⟩ = some (.int .i64 1) ∧ W.cell? ⟨k7.heap.size, 1, none⟩ = some (.string s) ∧ W.cell? ⟨k7.heap.size, 2, none⟩ = some (.int .i64 1) ∧ W.cell? ⟨k7.heap.size, 3, none⟩ = some (.int .i64 3) ∧ W.cell? ⟨k7.heap.size, 4, none⟩ = some (.string ⟨#[]⟩) ∧ W.cell? ⟨k7.heap.size, 5, none⟩ = some (.int .i64 0) ∧ W.cell? ⟨k7.heap.size, 6, none⟩ = some (.int .i64 0) ∧ W.cell? ⟨k7.heap.size, 7, none⟩ = some (.string ⟨#[]⟩) ∧ W.cell? ⟨k7.heap.size, 8, none⟩ = some (.int .i64 0) ∧ W.cell? ⟨k7.heap.size + 1, 0, none⟩ = some (.int .i64 2) ∧ W.cell? ⟨k7.heap.size + 1, 1, none⟩ = some (.string s) ∧ W.cell? ⟨k7.heap.size + 1, 2, none⟩ = some (.int .i64 0) ∧ W.cell? ⟨k7.heap.size + 1, 3, none⟩ = some (.int .i64 0) ∧ W.cell? ⟨k7.heap.size + 1, 4, none⟩ = some (.string ⟨#[]⟩) ∧ W.cell? ⟨k7.heap.size + 1, 5, none⟩ = some (.int .i64 0) ∧ W.cell? ⟨k7.heap.size + 1, 6, none⟩ = some (.int .i64 0) ∧ W.cell? ⟨k7.heap.size + 1, 7, none⟩ = some (.string ⟨#[]⟩) ∧ W.cell? ⟨k7.heap.size + 1, 8, none⟩ = some (.int .i64 0) ∧ Ops W (k10.heap.size + 1) (.slice (some ⟨k10.heap.size, 0, none⟩) 1 1) [putO s 3] ∧ Below (k10.heap.size) k10 W ∧ k10.heap.size + 1 ≤ W.heap.size) ⟨(by go_simp), (by go_simp), (by go_simp), (by go_simp), (by go_simp), (by go_simp), (by go_simp), (by go_simp), (by go_simp), (by go_simp), (by go_simp), (by go_simp), (by go_simp), (by go_simp), (by go_simp), (by go_simp), (by go_simp), (by go_simp), (ops_new _ _ [putO s 3] (by simp)), BL9, LT9⟩ ?_
        clear p0 p1 p2 p3 p4 p5 p6 p7 p8 q0 q1 q2 q3 q4 q5 q6 q7 q8
        rintro k11 ⟨p0, p1, p2, p3, p4, p5, p6, p7, p8, q0, q1, q2, q3, q4, q5, q6, q7, q8, hop, hk, hz⟩
        replace HOm := Lib.hid (ownsRow_below HOm.out hk)
        replace HD := Lib.hid (Dc.below HD.out hk)
        replace HC := Lib.hid (Dc.below HC.out hk)
        replace hb : Below w.heap.size w k11 := hb.trans (hk.mono (by first | exact hb.size | omega | (simp; omega)))
        have lt0 : k7.heap.size < k11.heap.size := LT9
        have lt1 : k7.heap.size + 1 < k11.heap.size := LT9
        clear hk
        have HOP := Lib.hid hop; clear hop
        refine (lapply_is w.heap.size _ _ _ r r2 _ 0 _ HD.out HOP.out (by omega) (fun o ho => by simp only [List.mem_cons, List.not_mem_nil, or_false] at ho; subst ho; exact KO1.out) K1.out).mono ?_
        rintro e k12 ⟨rfl, hd9, hgr⟩
        have hz9 := hgr.size
        have hbe : Below k11.heap.size k11 _ := Below.refl _ _
        clear hbe
        try simp at hz9
        replace hb : Below w.heap.size w k12 := Dc.frame (w0 := w) (hb := hgr) (h := Dc.below HD.out BL9) (h0 := (BB9 hb)) (hB := by have := hb.size; first | omega | (simp; omega))
        replace HOm := Lib.hid (ownsRow_grown (hb := hgr) (h := ownsRow_below HOm.out BL9) (hd := Dc.below HD.out BL9) (hne := by decide))
        replace HC := Lib.hid (Dc.grown (hb := hgr) (h := Dc.below HC.out BL9) (h2 := Dc.below HD.out BL9) (hne := (by omega)))
        have p0N : k12.cell? ⟨k7.heap.size, 0, none⟩ = some (.int .i64 1) := (hgr.cell_far ⟨k7.heap.size, 0, none⟩ LT9 (fun e => by injection e with e; simp only at e; omega)).trans (by go_simp)
        clear p0
        have p0 := p0N; clear p0N
        have p1N : k12.cell? ⟨k7.heap.size, 1, none⟩ = some (.string s) := (hgr.cell_far ⟨k7.heap.size, 1, none⟩ LT9 (fun e => by injection e with e; simp only at e; omega)).trans (by go_simp)
        clear p1
        have p1 := p1N; clear p1N
        have p2N : k12.cell? ⟨k7.heap.size, 2, none⟩ = some (.int .i64 1) := (hgr.cell_far ⟨k7.heap.size, 2, none⟩ LT9 (fun e => by injection e with e; simp only at e; omega)).trans (by go_simp)
        clear p2
        have p2 := p2N; clear p2N
        have p3N : k12.cell? ⟨k7.heap.size, 3, none⟩ = some (.int .i64 3) := (hgr.cell_far ⟨k7.heap.size, 3, none⟩ LT9 (fun e => by injection e with e; simp only at e; omega)).trans (by go_simp)
        clear p3
        have p3 := p3N; clear p3N
        have p4N : k12.cell? ⟨k7.heap.size, 4, none⟩ = some (.string ⟨#[]⟩) := (hgr.cell_far ⟨k7.heap.size, 4, none⟩ LT9 (fun e => by injection e with e; simp only at e; omega)).trans (by go_simp)
        clear p4
        have p4 := p4N; clear p4N
        have p5N : k12.cell? ⟨k7.heap.size, 5, none⟩ = some (.int .i64 0) := (hgr.cell_far ⟨k7.heap.size, 5, none⟩ LT9 (fun e => by injection e with e; simp only at e; omega)).trans (by go_simp)
        clear p5
        have p5 := p5N; clear p5N
        have p6N : k12.cell? ⟨k7.heap.size, 6, none⟩ = some (.int .i64 0) := (hgr.cell_far ⟨k7.heap.size, 6, none⟩ LT9 (fun e => by injection e with e; simp only at e; omega)).trans (by go_simp)
        clear p6
        have p6 := p6N; clear p6N
        have p7N : k12.cell? ⟨k7.heap.size, 7, none⟩ = some (.string ⟨#[]⟩) := (hgr.cell_far ⟨k7.heap.size, 7, none⟩ LT9 (fun e => by injection e with e; simp only at e; omega)).trans (by go_simp)
        clear p7
        have p7 := p7N; clear p7N
        have p8N : k12.cell? ⟨k7.heap.size, 8, none⟩ = some (.int .i64 0) := (hgr.cell_far ⟨k7.heap.size, 8, none⟩ LT9 (fun e => by injection e with e; simp only at e; omega)).trans (by go_simp)
        clear p8
        have p8 := p8N; clear p8N
        have q0N : k12.cell? ⟨k7.heap.size + 1, 0, none⟩ = some (.int .i64 2) := (hgr.cell_far ⟨k7.heap.size + 1, 0, none⟩ LT9 (fun e => by injection e with e; simp only at e; omega)).trans (by go_simp)
        clear q0
        have q0 := q0N; clear q0N
        have q1N : k12.cell? ⟨k7.heap.size + 1, 1, none⟩ = some (.string s) := (hgr.cell_far ⟨k7.heap.size + 1, 1, none⟩ LT9 (fun e => by injection e with e; simp only at e; omega)).trans (by go_simp)
        clear q1
        have q1 := q1N; clear q1N
        have q2N : k12.cell? ⟨k7.heap.size + 1, 2, none⟩ = some (.int .i64 0) := (hgr.cell_far ⟨k7.heap.size + 1, 2, none⟩ LT9 (fun e => by injection e with e; simp only at e; omega)).trans (by go_simp)
        clear q2
        have q2 := q2N; clear q2N
        have q3N : k12.cell? ⟨k7.heap.size + 1, 3, none⟩ = some (.int .i64 0) := (hgr.cell_far ⟨k7.heap.size + 1, 3, none⟩ LT9 (fun e => by injection e with e; simp only at e; omega)).trans (by go_simp)
        clear q3
        have q3 := q3N; clear q3N
        have q4N : k12.cell? ⟨k7.heap.size + 1, 4, none⟩ = some (.string ⟨#[]⟩) := (hgr.cell_far ⟨k7.heap.size + 1, 4, none⟩ LT9 (fun e => by injection e with e; simp only at e; omega)).trans (by go_simp)
        clear q4
        have q4 := q4N; clear q4N
        have q5N : k12.cell? ⟨k7.heap.size + 1, 5, none⟩ = some (.int .i64 0) := (hgr.cell_far ⟨k7.heap.size + 1, 5, none⟩ LT9 (fun e => by injection e with e; simp only at e; omega)).trans (by go_simp)
        clear q5
        have q5 := q5N; clear q5N
        have q6N : k12.cell? ⟨k7.heap.size + 1, 6, none⟩ = some (.int .i64 0) := (hgr.cell_far ⟨k7.heap.size + 1, 6, none⟩ LT9 (fun e => by injection e with e; simp only at e; omega)).trans (by go_simp)
        clear q6
        have q6 := q6N; clear q6N
        have q7N : k12.cell? ⟨k7.heap.size + 1, 7, none⟩ = some (.string ⟨#[]⟩) := (hgr.cell_far ⟨k7.heap.size + 1, 7, none⟩ LT9 (fun e => by injection e with e; simp only at e; omega)).trans (by go_simp)
        clear q7
        have q7 := q7N; clear q7N
        have q8N : k12.cell? ⟨k7.heap.size + 1, 8, none⟩ = some (.int .i64 0) := (hgr.cell_far ⟨k7.heap.size + 1, 8, none⟩ LT9 (fun e => by injection e with e; simp only at e; omega)).trans (by go_simp)
        clear q8
        have q8 := q8N; clear q8N
        replace HD := Lib.hid hd9
        clear hd9
        have lt0 : k7.heap.size < k12.heap.size := LT9
        have lt1 : k7.heap.size + 1 < k12.heap.size := LT9
        clear hgr
        clear HOP
        go_wp2_with fail
        refine (leq_is w.heap.size w.heap.size _ _ r2 r false _ (Dc.below HD.out BL9) (Dc.below HC.out BL9) KN.out).mono ?_
        rintro e k13 ⟨rfl, h⟩
        have hk : Below k12.heap.size k12 k13 := HK9 h
        have hz := h.size
        try simp at hz
        replace p0 : k13.cell? ⟨k7.heap.size, 0, none⟩ = some (.int .i64 1) := (hk.cell (p := ⟨k7.heap.size, 0, none⟩) LT9).trans p0
        replace p1 : k13.cell? ⟨k7.heap.size, 1, none⟩ = some (.string s) := (hk.cell (p := ⟨k7.heap.size, 1, none⟩) LT9).trans p1
        replace p2 : k13.cell? ⟨k7.heap.size, 2, none⟩ = some (.int .i64 1) := (hk.cell (p := ⟨k7.heap.size, 2, none⟩) LT9).trans p2
        replace p3 : k13.cell? ⟨k7.heap.size, 3, none⟩ = some (.int .i64 3) := (hk.cell (p := ⟨k7.heap.size, 3, none⟩) LT9).trans p3
        replace p4 : k13.cell? ⟨k7.heap.size, 4, none⟩ = some (.string ⟨#[]⟩) := (hk.cell (p := ⟨k7.heap.size, 4, none⟩) LT9).trans p4
        replace p5 : k13.cell? ⟨k7.heap.size, 5, none⟩ = some (.int .i64 0) := (hk.cell (p := ⟨k7.heap.size, 5, none⟩) LT9).trans p5
        replace p6 : k13.cell? ⟨k7.heap.size, 6, none⟩ = some (.int .i64 0) := (hk.cell (p := ⟨k7.heap.size, 6, none⟩) LT9).trans p6
        replace p7 : k13.cell? ⟨k7.heap.size, 7, none⟩ = some (.string ⟨#[]⟩) := (hk.cell (p := ⟨k7.heap.size, 7, none⟩) LT9).trans p7
        replace p8 : k13.cell? ⟨k7.heap.size, 8, none⟩ = some (.int .i64 0) := (hk.cell (p := ⟨k7.heap.size, 8, none⟩) LT9).trans p8
        replace q0 : k13.cell? ⟨k7.heap.size + 1, 0, none⟩ = some (.int .i64 2) := (hk.cell (p := ⟨k7.heap.size + 1, 0, none⟩) LT9).trans q0
        replace q1 : k13.cell? ⟨k7.heap.size + 1, 1, none⟩ = some (.string s) := (hk.cell (p := ⟨k7.heap.size + 1, 1, none⟩) LT9).trans q1
        replace q2 : k13.cell? ⟨k7.heap.size + 1, 2, none⟩ = some (.int .i64 0) := (hk.cell (p := ⟨k7.heap.size + 1, 2, none⟩) LT9).trans q2
        replace q3 : k13.cell? ⟨k7.heap.size + 1, 3, none⟩ = some (.int .i64 0) := (hk.cell (p := ⟨k7.heap.size + 1, 3, none⟩) LT9).trans q3
        replace q4 : k13.cell? ⟨k7.heap.size + 1, 4, none⟩ = some (.string ⟨#[]⟩) := (hk.cell (p := ⟨k7.heap.size + 1, 4, none⟩) LT9).trans q4
        replace q5 : k13.cell? ⟨k7.heap.size + 1, 5, none⟩ = some (.int .i64 0) := (hk.cell (p := ⟨k7.heap.size + 1, 5, none⟩) LT9).trans q5
        replace q6 : k13.cell? ⟨k7.heap.size + 1, 6, none⟩ = some (.int .i64 0) := (hk.cell (p := ⟨k7.heap.size + 1, 6, none⟩) LT9).trans q6
        replace q7 : k13.cell? ⟨k7.heap.size + 1, 7, none⟩ = some (.string ⟨#[]⟩) := (hk.cell (p := ⟨k7.heap.size + 1, 7, none⟩) LT9).trans q7
        replace q8 : k13.cell? ⟨k7.heap.size + 1, 8, none⟩ = some (.int .i64 0) := (hk.cell (p := ⟨k7.heap.size + 1, 8, none⟩) LT9).trans q8
        replace HOm := Lib.hid (ownsRow_below HOm.out hk)
        replace HD := Lib.hid (Dc.below HD.out hk)
        replace HC := Lib.hid (Dc.below HC.out hk)
        replace hb : Below w.heap.size w k13 := hb.trans (hk.mono hb.size)
        have lt0 : k7.heap.size < k13.heap.size := LT9
        have lt1 : k7.heap.size + 1 < k13.heap.size := LT9
        clear h hk
        go_wp2_with fail
        refine calls_world (fun W => W.cell? ⟨k7.heap.size, 0, none⟩ = some (.int .i64 1) ∧ W.cell? ⟨k7.heap.size, 1, none⟩ = some (.string s) ∧ W.cell? ⟨k7.heap.size, 2, none⟩ = some (.int .i64 1) ∧ W.cell? ⟨k7.heap.size, 3, none⟩ = some (.int .i64 3) ∧ W.cell? ⟨k7.heap.size, 4, none⟩ = some (.string ⟨#[]⟩) ∧ W.cell? ⟨k7.heap.size, 5, none⟩ = some (.int .i64 0) ∧ W.cell? ⟨k7.heap.size, 6, none⟩ = some (.int .i64 0) ∧ W.cell? ⟨k7.heap.size, 7, none⟩ = some (.string ⟨#[]⟩) ∧ W.cell? ⟨k7.heap.size, 8, none⟩ = some (.int .i64 0) ∧ W.cell? ⟨k7.heap.size + 1, 0, none⟩ = some (.int .i64 2) ∧ W.cell? ⟨k7.heap.size + 1, 1, none⟩ = some (.string s) ∧ W.cell? ⟨k7.heap.size + 1, 2, none⟩ = some (.int .i64 0) ∧ W.cell? ⟨k7.heap.size + 1, 3, none⟩ = some (.int .i64 0) ∧ W.cell? ⟨k7.heap.size + 1, 4, none⟩ = some (.string ⟨#[]⟩) ∧ W.cell? ⟨k7.heap.size + 1, 5, none⟩ = some (.int .i64 0) ∧ W.cell? ⟨k7.heap.size + 1, 6, none⟩ = some (.int .i64 0) ∧ W.cell? ⟨k7.heap.size + 1, 7, none⟩ = some (.string ⟨#[]⟩) ∧ W.cell? ⟨k7.heap.size + 1, 8, none⟩ = some (.int .i64 0) ∧ Ops W (k13.heap.size + 1) (.slice (some ⟨k13.heap.size, 0, none⟩) 1 1) [delO s] ∧ Below (k13.heap.size) k13 W ∧ k13.heap.size + 1 ≤ W.heap.size) ⟨(by go_simp), (by go_simp), (by go_simp), (by go_simp), (by go_simp), (by go_simp), (by go_simp), (by go_simp), (by go_simp), (by go_simp), (by go_simp), (by go_simp), (by go_simp), (by go_simp), (by go_simp), (by go_simp), (by go_simp), (by go_simp), (ops_new _ _ [delO s] (by simp)), BL9, LT9⟩ ?_
        clear p0 p1 p2 p3 p4 p5 p6 p7 p8 q0 q1 q2 q3 q4 q5 q6 q7 q8
        rintro k14 ⟨p0, p1, p2, p3, p4, p5, p6, p7, p8, q0, q1, q2, q3, q4, q5, q6, q7, q8, hop, hk, hz⟩
        replace HOm := Lib.hid (ownsRow_below HOm.out hk)
        replace HD := Lib.hid (Dc.below HD.out hk)
        replace HC := Lib.hid (Dc.below HC.out hk)
        replace hb : Below w.heap.size w k14 := hb.trans (hk.mono (by first | exact hb.size | omega | (simp; omega)))
        have lt0 : k7.heap.size < k14.heap.size := LT9
        have lt1 : k7.heap.size + 1 < k14.heap.size := LT9
        clear hk
        have HOP := Lib.hid hop; clear hop
        refine (lapply_is w.heap.size _ _ _ r2 r _ 0 _ HD.out HOP.out (by omega) (fun o ho => by simp only [List.mem_cons, List.not_mem_nil, or_false] at ho; subst ho; exact KO2.out) K2.out).mono ?_
        rintro e k15 ⟨rfl, hd9, hgr⟩
        have hz9 := hgr.size
        have hbe : Below k14.heap.size k14 _ := Below.refl _ _
        clear hbe
        try simp at hz9
        replace hb : Below w.heap.size w k15 := Dc.frame (w0 := w) (hb := hgr) (h := Dc.below HD.out BL9) (h0 := (BB9 hb)) (hB := by have := hb.size; first | omega | (simp; omega))
        replace HOm := Lib.hid (ownsRow_grown (hb := hgr) (h := ownsRow_below HOm.out BL9) (hd := Dc.below HD.out BL9) (hne := by decide))
        replace HC := Lib.hid (Dc.grown (hb := hgr) (h := Dc.below HC.out BL9) (h2 := Dc.below HD.out BL9) (hne := (by omega)))
        have p0N : k15.cell? ⟨k7.heap.size, 0, none⟩ = some (.int .i64 1) := (hgr.cell_far ⟨k7.heap.size, 0, none⟩ LT9 (fun e => by injection e with e; simp only at e; omega)).trans (by go_simp)
        clear p0
        have p0 := p0N; clear p0N
        have p1N : k15.cell? ⟨k7.heap.size, 1, none⟩ = some (.string s) := (hgr.cell_far ⟨k7.heap.size, 1, none⟩ LT9 (fun e => by injection e with e; simp only at e; omega)).trans (by go_simp)
        clear p1
        have p1 := p1N; clear p1N
        have p2N : k15.cell? ⟨k7.heap.size, 2, none⟩ = some (.int .i64 1) := (hgr.cell_far ⟨k7.heap.size, 2, none⟩ LT9 (fun e => by injection e with e; simp only at e; omega)).trans (by go_simp)
        clear p2
        have p2 := p2N; clear p2N
        have p3N : k15.cell? ⟨k7.heap.size, 3, none⟩ = some (.int .i64 3) := (hgr.cell_far ⟨k7.heap.size, 3, none⟩ LT9 (fun e => by injection e with e; simp only at e; omega)).trans (by go_simp)
        clear p3
        have p3 := p3N; clear p3N
        have p4N : k15.cell? ⟨k7.heap.size, 4, none⟩ = some (.string ⟨#[]⟩) := (hgr.cell_far ⟨k7.heap.size, 4, none⟩ LT9 (fun e => by injection e with e; simp only at e; omega)).trans (by go_simp)
        clear p4
        have p4 := p4N; clear p4N
        have p5N : k15.cell? ⟨k7.heap.size, 5, none⟩ = some (.int .i64 0) := (hgr.cell_far ⟨k7.heap.size, 5, none⟩ LT9 (fun e => by injection e with e; simp only at e; omega)).trans (by go_simp)
        clear p5
        have p5 := p5N; clear p5N
        have p6N : k15.cell? ⟨k7.heap.size, 6, none⟩ = some (.int .i64 0) := (hgr.cell_far ⟨k7.heap.size, 6, none⟩ LT9 (fun e => by injection e with e; simp only at e; omega)).trans (by go_simp)
        clear p6
        have p6 := p6N; clear p6N
        have p7N : k15.cell? ⟨k7.heap.size, 7, none⟩ = some (.string ⟨#[]⟩) := (hgr.cell_far ⟨k7.heap.size, 7, none⟩ LT9 (fun e => by injection e with e; simp only at e; omega)).trans (by go_simp)
        clear p7
        have p7 := p7N; clear p7N
        have p8N : k15.cell? ⟨k7.heap.size, 8, none⟩ = some (.int .i64 0) := (hgr.cell_far ⟨k7.heap.size, 8, none⟩ LT9 (fun e => by injection e with e; simp only at e; omega)).trans (by go_simp)
        clear p8
        have p8 := p8N; clear p8N
        have q0N : k15.cell? ⟨k7.heap.size + 1, 0, none⟩ = some (.int .i64 2) := (hgr.cell_far ⟨k7.heap.size + 1, 0, none⟩ LT9 (fun e => by injection e with e; simp only at e; omega)).trans (by go_simp)
        clear q0
        have q0 := q0N; clear q0N
        have q1N : k15.cell? ⟨k7.heap.size + 1, 1, none⟩ = some (.string s) := (hgr.cell_far ⟨k7.heap.size + 1, 1, none⟩ LT9 (fun e => by injection e with e; simp only at e; omega)).trans (by go_simp)
        clear q1
        have q1 := q1N; clear q1N
        have q2N : k15.cell? ⟨k7.heap.size + 1, 2, none⟩ = some (.int .i64 0) := (hgr.cell_far ⟨k7.heap.size + 1, 2, none⟩ LT9 (fun e => by injection e with e; simp only at e; omega)).trans (by go_simp)
        clear q2
        have q2 := q2N; clear q2N
        have q3N : k15.cell? ⟨k7.heap.size + 1, 3, none⟩ = some (.int .i64 0) := (hgr.cell_far ⟨k7.heap.size + 1, 3, none⟩ LT9 (fun e => by injection e with e; simp only at e; omega)).trans (by go_simp)
        clear q3
        have q3 := q3N; clear q3N
        have q4N : k15.cell? ⟨k7.heap.size + 1, 4, none⟩ = some (.string ⟨#[]⟩) := (hgr.cell_far ⟨k7.heap.size + 1, 4, none⟩ LT9 (fun e => by injection e with e; simp only at e; omega)).trans (by go_simp)
        clear q4
        have q4 := q4N; clear q4N
        have q5N : k15.cell? ⟨k7.heap.size + 1, 5, none⟩ = some (.int .i64 0) := (hgr.cell_far ⟨k7.heap.size + 1, 5, none⟩ LT9 (fun e => by injection e with e; simp only at e; omega)).trans (by go_simp)
        clear q5
        have q5 := q5N; clear q5N
        have q6N : k15.cell? ⟨k7.heap.size + 1, 6, none⟩ = some (.int .i64 0) := (hgr.cell_far ⟨k7.heap.size + 1, 6, none⟩ LT9 (fun e => by injection e with e; simp only at e; omega)).trans (by go_simp)
        clear q6
        have q6 := q6N; clear q6N
        have q7N : k15.cell? ⟨k7.heap.size + 1, 7, none⟩ = some (.string ⟨#[]⟩) := (hgr.cell_far ⟨k7.heap.size + 1, 7, none⟩ LT9 (fun e => by injection e with e; simp only at e; omega)).trans (by go_simp)
        clear q7
        have q7 := q7N; clear q7N
        have q8N : k15.cell? ⟨k7.heap.size + 1, 8, none⟩ = some (.int .i64 0) := (hgr.cell_far ⟨k7.heap.size + 1, 8, none⟩ LT9 (fun e => by injection e with e; simp only at e; omega)).trans (by go_simp)
        clear q8
        have q8 := q8N; clear q8N
        replace HD := Lib.hid hd9
        clear hd9
        have lt0 : k7.heap.size < k15.heap.size := LT9
        have lt1 : k7.heap.size + 1 < k15.heap.size := LT9
        clear hgr
        clear HOP
        go_wp2_with fail
        refine (leq_is w.heap.size w.heap.size _ _ r r true _ (Dc.below HD.out BL9) (Dc.below HC.out BL9) (eqD_self _)).mono ?_
        rintro e k16 ⟨rfl, h⟩
        have hk : Below k15.heap.size k15 k16 := HK9 h
        have hz := h.size
        try simp at hz
        replace p0 : k16.cell? ⟨k7.heap.size, 0, none⟩ = some (.int .i64 1) := (hk.cell (p := ⟨k7.heap.size, 0, none⟩) LT9).trans p0
        replace p1 : k16.cell? ⟨k7.heap.size, 1, none⟩ = some (.string s) := (hk.cell (p := ⟨k7.heap.size, 1, none⟩) LT9).trans p1
        replace p2 : k16.cell? ⟨k7.heap.size, 2, none⟩ = some (.int .i64 1) := (hk.cell (p := ⟨k7.heap.size, 2, none⟩) LT9).trans p2
        replace p3 : k16.cell? ⟨k7.heap.size, 3, none⟩ = some (.int .i64 3) := (hk.cell (p := ⟨k7.heap.size, 3, none⟩) LT9).trans p3
        replace p4 : k16.cell? ⟨k7.heap.size, 4, none⟩ = some (.string ⟨#[]⟩) := (hk.cell (p := ⟨k7.heap.size, 4, none⟩) LT9).trans p4
        replace p5 : k16.cell? ⟨k7.heap.size, 5, none⟩ = some (.int .i64 0) := (hk.cell (p := ⟨k7.heap.size, 5, none⟩) LT9).trans p5
        replace p6 : k16.cell? ⟨k7.heap.size, 6, none⟩ = some (.int .i64 0) := (hk.cell (p := ⟨k7.heap.size, 6, none⟩) LT9).trans p6
        replace p7 : k16.cell? ⟨k7.heap.size, 7, none⟩ = some (.string ⟨#[]⟩) := (hk.cell (p := ⟨k7.heap.size, 7, none⟩) LT9).trans p7
        replace p8 : k16.cell? ⟨k7.heap.size, 8, none⟩ = some (.int .i64 0) := (hk.cell (p := ⟨k7.heap.size, 8, none⟩) LT9).trans p8
        replace q0 : k16.cell? ⟨k7.heap.size + 1, 0, none⟩ = some (.int .i64 2) := (hk.cell (p := ⟨k7.heap.size + 1, 0, none⟩) LT9).trans q0
        replace q1 : k16.cell? ⟨k7.heap.size + 1, 1, none⟩ = some (.string s) := (hk.cell (p := ⟨k7.heap.size + 1, 1, none⟩) LT9).trans q1
        replace q2 : k16.cell? ⟨k7.heap.size + 1, 2, none⟩ = some (.int .i64 0) := (hk.cell (p := ⟨k7.heap.size + 1, 2, none⟩) LT9).trans q2
        replace q3 : k16.cell? ⟨k7.heap.size + 1, 3, none⟩ = some (.int .i64 0) := (hk.cell (p := ⟨k7.heap.size + 1, 3, none⟩) LT9).trans q3
        replace q4 : k16.cell? ⟨k7.heap.size + 1, 4, none⟩ = some (.string ⟨#[]⟩) := (hk.cell (p := ⟨k7.heap.size + 1, 4, none⟩) LT9).trans q4
        replace q5 : k16.cell? ⟨k7.heap.size + 1, 5, none⟩ = some (.int .i64 0) := (hk.cell (p := ⟨k7.heap.size + 1, 5, none⟩) LT9).trans q5
        replace q6 : k16.cell? ⟨k7.heap.size + 1, 6, none⟩ = some (.int .i64 0) := (hk.cell (p := ⟨k7.heap.size + 1, 6, none⟩) LT9).trans q6
        replace q7 : k16.cell? ⟨k7.heap.size + 1, 7, none⟩ = some (.string ⟨#[]⟩) := (hk.cell (p := ⟨k7.heap.size + 1, 7, none⟩) LT9).trans q7
        replace q8 : k16.cell? ⟨k7.heap.size + 1, 8, none⟩ = some (.int .i64 0) := (hk.cell (p := ⟨k7.heap.size + 1, 8, none⟩) LT9).trans q8
        replace HOm := Lib.hid (ownsRow_below HOm.out hk)
        replace HD := Lib.hid (Dc.below HD.out hk)
        replace HC := Lib.hid (Dc.below HC.out hk)
        replace hb : Below w.heap.size w k16 := hb.trans (hk.mono hb.size)
        have lt0 : k7.heap.size < k16.heap.size := LT9
        have lt1 : k7.heap.size + 1 < k16.heap.size := LT9
        clear h hk
        go_wp2
        go_ret
        exact ⟨rfl, hb⟩
      · clear hth
        go_wp2
        go_ret
        exact ⟨rfl, hb.alloc hb.size _⟩
  · have hss : a1.size ≤ 40 := by omega
    have hki : ¬ (40 : Int) < (a1.size : Int) := by omega
    obtain ⟨x, hx⟩ : ∃ x, Ru.key a1.data.toList = x := ⟨_, rfl⟩
    have HX := Lib.hid hx; clear hx
    go_wp2_with fail
    refine (rkey_is a1 x _ (by omega) HX.out).mono ?_
    rintro e k3 ⟨rfl, h⟩
    have hk : Below k2.heap.size k2 k3 := HK9 h
    have hz := h.size
    try simp at hz
    replace HOm := Lib.hid (ownsRow_below HOm.out hk)
    replace hb : Below w.heap.size w k3 := hb.trans (hk.mono hb.size)
    clear h hk
    cases x
    · go_wp2
      go_ret
      exact ⟨rfl, hb⟩
    · go_wp2_with fail
      refine (lnew_is w.heap.size _ (by have := hb.size; first | omega | exact Nat.le_refl _ | (simp; omega))).mono ?_
      rintro e k4 ⟨rfl, hd9, h⟩
      have hk : Below k3.heap.size k3 k4 := HK9 h
      have hz := h.size
      try simp at hz
      replace HOm := Lib.hid (ownsRow_below HOm.out hk)
      replace hb : Below w.heap.size w k4 := hb.trans (hk.mono hb.size)
      clear h hk
      have HD := Lib.hid hd9; clear hd9
      have hltHD : k3.heap.size < k4.heap.size := HD.out.lt
      obtain ⟨⟨r, e1⟩, hr⟩ : ∃ x, dApply [] m = x := ⟨_, rfl⟩
      have hgr9 : Gd r := by have := gd_nil.apply HOKm.out; rw [hr] at this; exact this
      have hr8 : r.length ≤ 8 := by have := dApply_len m; rw [hr] at this; exact this
      have HR := Lib.hid hr; clear hr
      go_wp2_with fail
      refine (lapply_is w.heap.size _ _ _ [] r m e1 _ (Dc.below HD.out BL9) (Ops.of_own (ownsRow_below HOm.out BL9)) (Nat.le_refl _) HOKm.out HR.out).mono ?_
      rintro e k5 ⟨rfl, hd9, hgr⟩
      have hz9 := hgr.size
      have hbe : Below k4.heap.size k4 _ := Below.refl _ _
      clear hbe
      try simp at hz9
      replace hb : Below w.heap.size w k5 := Dc.frame (w0 := w) (hb := hgr) (h := Dc.below HD.out BL9) (h0 := (BB9 hb)) (hB := by have := hb.size; first | omega | (simp; omega))
      replace HOm := Lib.hid (ownsRow_grown (hb := hgr) (h := ownsRow_below HOm.out BL9) (hd := Dc.below HD.out BL9) (hne := by decide))
      replace HD := Lib.hid hd9
      clear hd9
      clear hgr
      obtain ⟨⟨⟨gk, gn, gt⟩, y⟩, hg⟩ : ∃ x, dGet r a1 = x := ⟨_, rfl⟩
      have hth := dGet_there hgr9.srt a1
      rw [hg] at hth
      simp only at hth
      have HG := Lib.hid hg; clear hg
      go_wp2_with fail
      refine (lget_is w.heap.size _ r a1 gk gn gt y _ (Dc.below HD.out BL9) (by omega) HG.out).mono ?_
      rintro e k6 ⟨rfl, h⟩
      have hk : Below k5.heap.size k5 k6 := HK9 h
      have hz := h.size
      try simp at hz
      replace HOm := Lib.hid (ownsRow_below HOm.out hk)
      replace HD := Lib.hid (Dc.below HD.out hk)
      replace hb : Below w.heap.size w k6 := hb.trans (hk.mono hb.size)
      clear h hk
      cases y
      · obtain ⟨r2, hr2⟩ : ∃ r2, dSet r a1 ⟨1, 3, ⟨#[]⟩⟩ = r2 := ⟨_, rfl⟩
        have hpd := put_del hgr9.srt hth.symm 3
        have hpn := put_ne hgr9.srt hth.symm 3
        rw [hr2] at hpd hpn
        have hkx := HX.out
        have o1 : opErr r (putO a1 3) = 0 := putO_err hkx (.inl (by omega))
        have a1p : dApply r [putO a1 3] = (r2, 0) := by rw [dApply_one _ _ o1, putO_do, hr2]
        have o2 : opErr r2 (delO a1) = 0 := delO_err hkx
        have a2p : dApply r2 [delO a1] = (r, 0) := by rw [dApply_one _ _ o2, delO_do, hpd]
        have a3p : dApply r [putO a1 3, delO a1] = (r, 0) := by rw [dApply_two _ _ _ o1 (by rw [putO_do, hr2]; exact o2), putO_do, hr2, delO_do, hpd]
        have hok1 : (putO a1 3).ok := putO_ok (by omega) ⟨by decide, by decide⟩
        have hok2 : (delO a1).ok := delO_ok (by omega)
        have hgr2 : Gd r2 := by have := hgr9.apply (os := [putO a1 3]) (fun o ho => by rw [List.mem_singleton.1 ho]; exact hok1); rw [a1p] at this; exact this
        have hne := eqD_ne hpn
        have K1 := Lib.hid a1p; clear a1p
        have K2 := Lib.hid a2p; clear a2p
        have K3 := Lib.hid a3p; clear a3p
        have KO1 := Lib.hid hok1; clear hok1
        have KO2 := Lib.hid hok2; clear hok2
        have KN := Lib.hid hne; clear hne
        clear hpd hpn hr2 o1 o2 hkx hth
        go_wp2_with fail
        refine (lcopy_is w.heap.size _ r _ (Dc.below HD.out BL9) (by have := hb.size; first | exact hb.size | omega | (simp; omega))).mono ?_
        rintro e k7 ⟨gc, rfl, ⟨hc, hcl⟩, h⟩
        have hk : Below k6.heap.size k6 k7 := HK9 h
        have hz := h.size
        try simp at hz
        replace HOm := Lib.hid (ownsRow_below HOm.out hk)
        replace HD := Lib.hid (Dc.below HD.out hk)
        replace hb : Below w.heap.size w k7 := hb.trans (hk.mono hb.size)
        try simp at hcl
        clear h hk
        have HC := Lib.hid hc
        have hltHC : gc < k7.heap.size := HC.out.lt
        clear hc
        go_wp2_with fail
        refine calls_world (fun W => W.cell? ⟨k7.heap.size, 0, none⟩ = some (.int .i64 1) ∧ W.cell? ⟨k7.heap.size, 1, none⟩ = some (.string a1) ∧ W.cell? ⟨k7.heap.size, 2, none⟩ = some (.int .i64 1) ∧ W.cell? ⟨k7.heap.size, 3, none⟩ = some (.int .i64 3) ∧ W.cell? ⟨k7.heap.size, 4, none⟩ = some (.string ⟨#[]⟩) ∧ W.cell? ⟨k7.heap.size, 5, none⟩ = some (.int .i64 0) ∧ W.cell? ⟨k7.heap.size, 6, none⟩ = some (.int .i64 0) ∧ W.cell? ⟨k7.heap.size, 7, none⟩ = some (.string ⟨#[]⟩) ∧ W.cell? ⟨k7.heap.size, 8, none⟩ = some (.int .i64 0) ∧ W.cell? ⟨k7.heap.size + 1, 0, none⟩ = some (.int .i64 2) ∧ W.cell? ⟨k7.heap.size + 1, 1, none⟩ = some (.string a1) ∧ W.cell? ⟨k7.heap.size + 1, 2, none⟩ = some (.int .i64 0) ∧ W.cell? ⟨k7.heap.size + 1, 3, none⟩ = some (.int .i64 0) ∧ W.cell? ⟨k7.heap.size + 1, 4, none⟩ = some (.string ⟨#[]⟩) ∧ W.cell? ⟨k7.heap.size + 1, 5, none⟩ = some (.int .i64 0) ∧ W.cell? ⟨k7.heap.size + 1, 6, none⟩ = some (.int .i64 0) ∧ W.cell? ⟨k7.heap.size + 1, 7, none⟩ = some (.string ⟨#[]⟩) ∧ W.cell? ⟨k7.heap.size + 1, 8, none⟩ = some (.int .i64 0) ∧ Ops W (k7.heap.size + 1 + 1 + 1) (.slice (some ⟨k7.heap.size + 1 + 1, 0, none⟩) 2 2) [putO a1 3, delO a1] ∧ Below (k7.heap.size) k7 W ∧ k7.heap.size + 3 ≤ W.heap.size) ⟨(by go_simp), (by go_simp), (by go_simp), (by go_simp), (by go_simp), (by go_simp), (by go_simp), (by go_simp), (by go_simp), (by go_simp), (by go_simp), (by go_simp), (by go_simp), (by go_simp), (by go_simp), (by go_simp), (by go_simp), (by go_simp), (ops_new _ _ [putO a1 3, delO a1] (by simp)), BL9, LT9⟩ ?_
        rintro k8 ⟨p0, p1, p2, p3, p4, p5, p6, p7, p8, q0, q1, q2, q3, q4, q5, q6, q7, q8, hop, hk, hz⟩
        replace HOm := Lib.hid (ownsRow_below HOm.out hk)
        replace HD := Lib.hid (Dc.below HD.out hk)
        replace HC := Lib.hid (Dc.below HC.out hk)
        replace hb : Below w.heap.size w k8 := hb.trans (hk.mono (by first | exact hb.size | omega | (simp; omega)))
        have lt0 : k7.heap.size < k8.heap.size := LT9
        have lt1 : k7.heap.size + 1 < k8.heap.size := LT9
        clear hk
        have HOP := Lib.hid hop; clear hop
        refine (lapply_is w.heap.size _ _ _ r r _ 0 _ HD.out HOP.out (by omega) (fun o ho => by simp only [List.mem_cons, List.not_mem_nil, or_false] at ho; rcases ho with rfl | rfl; exact KO1.out; exact KO2.out) K3.out).mono ?_
        rintro e k9 ⟨rfl, hd9, hgr⟩
        have hz9 := hgr.size
        have hbe : Below k8.heap.size k8 _ := Below.refl _ _
        clear hbe
        try simp at hz9
        replace hb : Below w.heap.size w k9 := Dc.frame (w0 := w) (hb := hgr) (h := Dc.below HD.out BL9) (h0 := (BB9 hb)) (hB := by have := hb.size; first | omega | (simp; omega))
        replace HOm := Lib.hid (ownsRow_grown (hb := hgr) (h := ownsRow_below HOm.out BL9) (hd := Dc.below HD.out BL9) (hne := by decide))
        replace HC := Lib.hid (Dc.grown (hb := hgr) (h := Dc.below HC.out BL9) (h2 := Dc.below HD.out BL9) (hne := (by omega)))
        have p0N : k9.cell? ⟨k7.heap.size, 0, none⟩ = some (.int .i64 1) := (hgr.cell_far ⟨k7.heap.size, 0, none⟩ LT9 (fun e => by injection e with e; simp only at e; omega)).trans (by go_simp)
        clear p0
        have p0 := p0N; clear p0N
        have p1N : k9.cell? ⟨k7.heap.size, 1, none⟩ = some (.string a1) := (hgr.cell_far ⟨k7.heap.size, 1, none⟩ LT9 (fun e => by injection e with e; simp only at e; omega)).trans (by go_simp)
        clear p1
        have p1 := p1N; clear p1N
        have p2N : k9.cell? ⟨k7.heap.size, 2, none⟩ = some (.int .i64 1) := (hgr.cell_far ⟨k7.heap.size, 2, none⟩ LT9 (fun e => by injection e with e; simp only at e; omega)).trans (by go_simp)
        clear p2
        have p2 := p2N; clear p2N
        have p3N : k9.cell? ⟨k7.heap.size, 3, none⟩ = some (.int .i64 3) := (hgr.cell_far ⟨k7.heap.size, 3, none⟩ LT9 (fun e => by injection e with e; simp only at e; omega)).trans (by go_simp)
        clear p3
        have p3 := p3N; clear p3N
        have p4N : k9.cell? ⟨k7.heap.size, 4, none⟩ = some (.string ⟨#[]⟩) := (hgr.cell_far ⟨k7.heap.size, 4, none⟩ LT9 (fun e => by injection e with e; simp only at e; omega)).trans (by go_simp)
        clear p4
        have p4 := p4N; clear p4N
        have p5N : k9.cell? ⟨k7.heap.size, 5, none⟩ = some (.int .i64 0) := (hgr.cell_far ⟨k7.heap.size, 5, none⟩ LT9 (fun e => by injection e with e; simp only at e; omega)).trans (by go_simp)
        clear p5
        have p5 := p5N; clear p5N
        have p6N : k9.cell? ⟨k7.heap.size, 6, none⟩ = some (.int .i64 0) := (hgr.cell_far ⟨k7.heap.size, 6, none⟩ LT9 (fun e => by injection e with e; simp only at e; omega)).trans (by go_simp)
        clear p6
        have p6 := p6N; clear p6N
        have p7N : k9.cell? ⟨k7.heap.size, 7, none⟩ = some (.string ⟨#[]⟩) := (hgr.cell_far ⟨k7.heap.size, 7, none⟩ LT9 (fun e => by injection e with e; simp only at e; omega)).trans (by go_simp)
        clear p7
        have p7 := p7N; clear p7N
        have p8N : k9.cell? ⟨k7.heap.size, 8, none⟩ = some (.int .i64 0) := (hgr.cell_far ⟨k7.heap.size, 8, none⟩ LT9 (fun e => by injection e with e; simp only at e; omega)).trans (by go_simp)
        clear p8
        have p8 := p8N; clear p8N
        have q0N : k9.cell? ⟨k7.heap.size + 1, 0, none⟩ = some (.int .i64 2) := (hgr.cell_far ⟨k7.heap.size + 1, 0, none⟩ LT9 (fun e => by injection e with e; simp only at e; omega)).trans (by go_simp)
        clear q0
        have q0 := q0N; clear q0N
        have q1N : k9.cell? ⟨k7.heap.size + 1, 1, none⟩ = some (.string a1) := (hgr.cell_far ⟨k7.heap.size + 1, 1, none⟩ LT9 (fun e => by injection e with e; simp only at e; omega)).trans (by go_simp)
        clear q1
        have q1 := q1N; clear q1N
        have q2N : k9.cell? ⟨k7.heap.size + 1, 2, none⟩ = some (.int .i64 0) := (hgr.cell_far ⟨k7.heap.size + 1, 2, none⟩ LT9 (fun e => by injection e with e; simp only at e; omega)).trans (by go_simp)
        clear q2
        have q2 := q2N; clear q2N
        have q3N : k9.cell? ⟨k7.heap.size + 1, 3, none⟩ = some (.int .i64 0) := (hgr.cell_far ⟨k7.heap.size + 1, 3, none⟩ LT9 (fun e => by injection e with e; simp only at e; omega)).trans (by go_simp)
        clear q3
        have q3 := q3N; clear q3N
        have q4N : k9.cell? ⟨k7.heap.size + 1, 4, none⟩ = some (.string ⟨#[]⟩) := (hgr.cell_far ⟨k7.heap.size + 1, 4, none⟩ LT9 (fun e => by injection e with e; simp only at e; omega)).trans (by go_simp)
        clear q4
        have q4 := q4N; clear q4N
        have q5N : k9.cell? ⟨k7.heap.size + 1, 5, none⟩ = some (.int .i64 0) := (hgr.cell_far ⟨k7.heap.size + 1, 5, none⟩ LT9 (fun e => by injection e with e; simp only at e; omega)).trans (by go_simp)
        clear q5
        have q5 := q5N; clear q5N
        have q6N : k9.cell? ⟨k7.heap.size + 1, 6, none⟩ = some (.int .i64 0) := (hgr.cell_far ⟨k7.heap.size + 1, 6, none⟩ LT9 (fun e => by injection e with e; simp only at e; omega)).trans (by go_simp)
        clear q6
        have q6 := q6N; clear q6N
        have q7N : k9.cell? ⟨k7.heap.size + 1, 7, none⟩ = some (.string ⟨#[]⟩) := (hgr.cell_far ⟨k7.heap.size + 1, 7, none⟩ LT9 (fun e => by injection e with e; simp only at e; omega)).trans (by go_simp)
        clear q7
        have q7 := q7N; clear q7N
        have q8N : k9.cell? ⟨k7.heap.size + 1, 8, none⟩ = some (.int .i64 0) := (hgr.cell_far ⟨k7.heap.size + 1, 8, none⟩ LT9 (fun e => by injection e with e; simp only at e; omega)).trans (by go_simp)
        clear q8
        have q8 := q8N; clear q8N
        replace HD := Lib.hid hd9
        clear hd9
        have lt0 : k7.heap.size < k9.heap.size := LT9
        have lt1 : k7.heap.size + 1 < k9.heap.size := LT9
        clear hgr
        clear HOP
        go_wp2_with fail
        refine (leq_is w.heap.size w.heap.size _ _ r r true _ (Dc.below HD.out BL9) (Dc.below HC.out BL9) (eqD_self _)).mono ?_
        rintro e k10 ⟨rfl, h⟩
        have hk : Below k9.heap.size k9 k10 := HK9 h
        have hz := h.size
        try simp at hz
        replace p0 : k10.cell? ⟨k7.heap.size, 0, none⟩ = some (.int .i64 1) := (hk.cell (p := ⟨k7.heap.size, 0, none⟩) LT9).trans p0
        replace p1 : k10.cell? ⟨k7.heap.size, 1, none⟩ = some (.string a1) := (hk.cell (p := ⟨k7.heap.size, 1, none⟩) LT9).trans p1
        replace p2 : k10.cell? ⟨k7.heap.size, 2, none⟩ = some (.int .i64 1) := (hk.cell (p := ⟨k7.heap.size, 2, none⟩) LT9).trans p2
        replace p3 : k10.cell? ⟨k7.heap.size, 3, none⟩ = some (.int .i64 3) := (hk.cell (p := ⟨k7.heap.size, 3, none⟩) LT9).trans p3
        replace p4 : k10.cell? ⟨k7.heap.size, 4, none⟩ = some (.string ⟨#[]⟩) := (hk.cell (p := ⟨k7.heap.size, 4, none⟩) LT9).trans p4
        replace p5 : k10.cell? ⟨k7.heap.size, 5, none⟩ = some (.int .i64 0) := (hk.cell (p := ⟨k7.heap.size, 5, none⟩) LT9).trans p5
        replace p6 : k10.cell? ⟨k7.heap.size, 6, none⟩ = some (.int .i64 0) := (hk.cell (p := ⟨k7.heap.size, 6, none⟩) LT9).trans p6
        replace p7 : k10.cell? ⟨k7.heap.size, 7, none⟩ = some (.string ⟨#[]⟩) := (hk.cell (p := ⟨k7.heap.size, 7, none⟩) LT9).trans p7
        replace p8 : k10.cell? ⟨k7.heap.size, 8, none⟩ = some (.int .i64 0) := (hk.cell (p := ⟨k7.heap.size, 8, none⟩) LT9).trans p8
        replace q0 : k10.cell? ⟨k7.heap.size + 1, 0, none⟩ = some (.int .i64 2) := (hk.cell (p := ⟨k7.heap.size + 1, 0, none⟩) LT9).trans q0
        replace q1 : k10.cell? ⟨k7.heap.size + 1, 1, none⟩ = some (.string a1) := (hk.cell (p := ⟨k7.heap.size + 1, 1, none⟩) LT9).trans q1
        replace q2 : k10.cell? ⟨k7.heap.size + 1, 2, none⟩ = some (.int .i64 0) := (hk.cell (p := ⟨k7.heap.size + 1, 2, none⟩) LT9).trans q2
        replace q3 : k10.cell? ⟨k7.heap.size + 1, 3, none⟩ = some (.int .i64 0) := (hk.cell (p := ⟨k7.heap.size + 1, 3, none⟩) LT9).trans q3
        replace q4 : k10.cell? ⟨k7.heap.size + 1, 4, none⟩ = some (.string ⟨#[]⟩) := (hk.cell (p := ⟨k7.heap.size + 1, 4, none⟩) LT9).trans q4
        replace q5 : k10.cell? ⟨k7.heap.size + 1, 5, none⟩ = some (.int .i64 0) := (hk.cell (p := ⟨k7.heap.size + 1, 5, none⟩) LT9).trans q5
        replace q6 : k10.cell? ⟨k7.heap.size + 1, 6, none⟩ = some (.int .i64 0) := (hk.cell (p := ⟨k7.heap.size + 1, 6, none⟩) LT9).trans q6
        replace q7 : k10.cell? ⟨k7.heap.size + 1, 7, none⟩ = some (.string ⟨#[]⟩) := (hk.cell (p := ⟨k7.heap.size + 1, 7, none⟩) LT9).trans q7
        replace q8 : k10.cell? ⟨k7.heap.size + 1, 8, none⟩ = some (.int .i64 0) := (hk.cell (p := ⟨k7.heap.size + 1, 8, none⟩) LT9).trans q8
        replace HOm := Lib.hid (ownsRow_below HOm.out hk)
        replace HD := Lib.hid (Dc.below HD.out hk)
        replace HC := Lib.hid (Dc.below HC.out hk)
        replace hb : Below w.heap.size w k10 := hb.trans (hk.mono hb.size)
        have lt0 : k7.heap.size < k10.heap.size := LT9
        have lt1 : k7.heap.size + 1 < k10.heap.size := LT9
        clear h hk
        go_wp2_with fail
        refine calls_world (fun W => W.cell? ⟨k7.heap.size, 0, none⟩ = some (.int .i64 1) ∧ W.cell? ⟨k7.heap.size, 1, none⟩ = some (.string a1) ∧ W.cell? ⟨k7.heap.size, 2, none⟩ = some (.int .i64 1) ∧ W.cell? ⟨k7.heap.size, 3, none⟩ = some (.int .i64 3) ∧ W.cell? ⟨k7.heap.size, 4, none⟩ = some (.string ⟨#[]⟩) ∧ W.cell? ⟨k7.heap.size, 5, none⟩ = some (.int .i64 0) ∧ W.cell? ⟨k7.heap.size, 6, none⟩ = some (.int .i64 0) ∧ W.cell? ⟨k7.heap.size, 7, none⟩ = some (.string ⟨#[]⟩) ∧ W.cell? ⟨k7.heap.size, 8, none⟩ = some (.int .i64 0) ∧ W.cell? ⟨k7.heap.size + 1, 0, none⟩ = some (.int .i64 2) ∧ W.cell? ⟨k7.heap.size + 1, 1, none⟩ = some (.string a1) ∧ W.cell? ⟨k7.heap.size + 1, 2, none⟩ = some (.int .i64 0) ∧ W.cell? ⟨k7.heap.size + 1, 3, none⟩ = some (.int .i64 0) ∧ W.cell? ⟨k7.heap.size + 1, 4, none⟩ = some (.string ⟨#[]⟩) ∧ W.cell? ⟨k7.heap.size + 1, 5, none⟩ = some (.int .i64 0) ∧ W.cell? ⟨k7.heap.size + 1, 6, none⟩ = some (.int .i64 0) ∧ W.cell? ⟨k7.heap.size + 1, 7, none⟩ = some (.string ⟨#[]⟩) ∧ W.cell? ⟨k7.heap.size + 1, 8, none⟩ = some (.int .i64 0) ∧ Ops W (k10.heap.size + 1) (.slice (some ⟨k10.heap.size, 0, none⟩) 1 1) [putO a1 3] ∧ Below (k10.heap.size) k10 W ∧ k10.heap.size + 1 ≤ W.heap.size) ⟨(by go_simp), (by go_simp), (by go_simp), (by go_simp), (by go_simp), (by go_simp), (by go_simp), (by go_simp), (by go_simp), (by go_simp), (by go_simp), (by go_simp), (by go_simp), (by go_simp), (by go_simp), (by go_simp), (by go_simp), (by go_simp), (ops_new _ _ [putO a1 3] (by simp)), BL9, LT9⟩ ?_
        clear p0 p1 p2 p3 p4 p5 p6 p7 p8 q0 q1 q2 q3 q4 q5 q6 q7 q8
        rintro k11 ⟨p0, p1, p2, p3, p4, p5, p6, p7, p8, q0, q1, q2, q3, q4, q5, q6, q7, q8, hop, hk, hz⟩
        replace HOm := Lib.hid (ownsRow_below HOm.out hk)
        replace HD := Lib.hid (Dc.below HD.out hk)
        replace HC := Lib.hid (Dc.below HC.out hk)
        replace hb : Below w.heap.size w k11 := hb.trans (hk.mono (by first | exact hb.size | omega | (simp; omega)))
        have lt0 : k7.heap.size < k11.heap.size := LT9
        have lt1 : k7.heap.size + 1 < k11.heap.size := LT9
        clear hk
        have HOP := Lib.hid hop; clear hop
        refine (lapply_is w.heap.size _ _ _ r r2 _ 0 _ HD.out HOP.out (by omega) (fun o ho => by simp only [List.mem_cons, List.not_mem_nil, or_false] at ho; subst ho; exact KO1.out) K1.out).mono ?_
        rintro e k12 ⟨rfl, hd9, hgr⟩
        have hz9 := hgr.size
        have hbe : Below k11.heap.size k11 _ := Below.refl _ _
        clear hbe
        try simp at hz9
        replace hb : Below w.heap.size w k12 := Dc.frame (w0 := w) (hb := hgr) (h := Dc.below HD.out BL9) (h0 := (BB9 hb)) (hB := by have := hb.size; first | omega | (simp; omega))
        replace HOm := Lib.hid (ownsRow_grown (hb := hgr) (h := ownsRow_below HOm.out BL9) (hd := Dc.below HD.out BL9) (hne := by decide))
        replace HC := Lib.hid (Dc.grown (hb := hgr) (h := Dc.below HC.out BL9) (h2 := Dc.below HD.out BL9) (hne := (by omega)))
        have p0N : k12.cell? ⟨k7.heap.size, 0, none⟩ = some (.int .i64 1) := (hgr.cell_far ⟨k7.heap.size, 0, none⟩ LT9 (fun e => by injection e with e; simp only at e; omega)).trans (by go_simp)
        clear p0
        have p0 := p0N; clear p0N
        have p1N : k12.cell? ⟨k7.heap.size, 1, none⟩ = some (.string a1) := (hgr.cell_far ⟨k7.heap.size, 1, none⟩ LT9 (fun e => by injection e with e; simp only at e; omega)).trans (by go_simp)
        clear p1
        have p1 := p1N; clear p1N
        have p2N : k12.cell? ⟨k7.heap.size, 2, none⟩ = some (.int .i64 1) := (hgr.cell_far ⟨k7.heap.size, 2, none⟩ LT9 (fun e => by injection e with e; simp only at e; omega)).trans (by go_simp)
        clear p2
        have p2 := p2N; clear p2N
        have p3N : k12.cell? ⟨k7.heap.size, 3, none⟩ = some (.int .i64 3) := (hgr.cell_far ⟨k7.heap.size, 3, none⟩ LT9 (fun e => by injection e with e; simp only at e; omega)).trans (by go_simp)
        clear p3
        have p3 := p3N; clear p3N
        have p4N : k12.cell? ⟨k7.heap.size, 4, none⟩ = some (.string ⟨#[]⟩) := (hgr.cell_far ⟨k7.heap.size, 4, none⟩ LT9 (fun e => by injection e with e; simp only at e; omega)).trans (by go_simp)
        clear p4
        have p4 := p4N; clear p4N
        have p5N : k12.cell? ⟨k7.heap.size, 5, none⟩ = some (.int .i64 0) := (hgr.cell_far ⟨k7.heap.size, 5, none⟩ LT9 (fun e => by injection e with e; simp only at e; omega)).trans (by go_simp)
        clear p5
        have p5 := p5N; clear p5N
        have p6N : k12.cell? ⟨k7.heap.size, 6, none⟩ = some (.int .i64 0) := (hgr.cell_far ⟨k7.heap.size, 6, none⟩ LT9 (fun e => by injection e with e; simp only at e; omega)).trans (by go_simp)
        clear p6
        have p6 := p6N; clear p6N
        have p7N : k12.cell? ⟨k7.heap.size, 7, none⟩ = some (.string ⟨#[]⟩) := (hgr.cell_far ⟨k7.heap.size, 7, none⟩ LT9 (fun e => by injection e with e; simp only at e; omega)).trans (by go_simp)
        clear p7
        have p7 := p7N; clear p7N
        have p8N : k12.cell? ⟨k7.heap.size, 8, none⟩ = some (.int .i64 0) := (hgr.cell_far ⟨k7.heap.size, 8, none⟩ LT9 (fun e => by injection e with e; simp only at e; omega)).trans (by go_simp)
        clear p8
        have p8 := p8N; clear p8N
        have q0N : k12.cell? ⟨k7.heap.size + 1, 0, none⟩ = some (.int .i64 2) := (hgr.cell_far ⟨k7.heap.size + 1, 0, none⟩ LT9 (fun e => by injection e with e; simp only at e; omega)).trans (by go_simp)
        clear q0
        have q0 := q0N; clear q0N
        have q1N : k12.cell? ⟨k7.heap.size + 1, 1, none⟩ = some (.string a1) := (hgr.cell_far ⟨k7.heap.size + 1, 1, none⟩ LT9 (fun e => by injection e with e; simp only at e; omega)).trans (by go_simp)
        clear q1
        have q1 := q1N; clear q1N
        have q2N : k12.cell? ⟨k7.heap.size + 1, 2, none⟩ = some (.int .i64 0) := (hgr.cell_far ⟨k7.heap.size + 1, 2, none⟩ LT9 (fun e => by injection e with e; simp only at e; omega)).trans (by go_simp)
        clear q2
        have q2 := q2N; clear q2N
        have q3N : k12.cell? ⟨k7.heap.size + 1, 3, none⟩ = some (.int .i64 0) := (hgr.cell_far ⟨k7.heap.size + 1, 3, none⟩ LT9 (fun e => by injection e with e; simp only at e; omega)).trans (by go_simp)
        clear q3
        have q3 := q3N; clear q3N
        have q4N : k12.cell? ⟨k7.heap.size + 1, 4, none⟩ = some (.string ⟨#[]⟩) := (hgr.cell_far ⟨k7.heap.size + 1, 4, none⟩ LT9 (fun e => by injection e with e; simp only at e; omega)).trans (by go_simp)
        clear q4
        have q4 := q4N; clear q4N
        have q5N : k12.cell? ⟨k7.heap.size + 1, 5, none⟩ = some (.int .i64 0) := (hgr.cell_far ⟨k7.heap.size + 1, 5, none⟩ LT9 (fun e => by injection e with e; simp only at e; omega)).trans (by go_simp)
        clear q5
        have q5 := q5N; clear q5N
        have q6N : k12.cell? ⟨k7.heap.size + 1, 6, none⟩ = some (.int .i64 0) := (hgr.cell_far ⟨k7.heap.size + 1, 6, none⟩ LT9 (fun e => by injection e with e; simp only at e; omega)).trans (by go_simp)
        clear q6
        have q6 := q6N; clear q6N
        have q7N : k12.cell? ⟨k7.heap.size + 1, 7, none⟩ = some (.string ⟨#[]⟩) := (hgr.cell_far ⟨k7.heap.size + 1, 7, none⟩ LT9 (fun e => by injection e with e; simp only at e; omega)).trans (by go_simp)
        clear q7
        have q7 := q7N; clear q7N
        have q8N : k12.cell? ⟨k7.heap.size + 1, 8, none⟩ = some (.int .i64 0) := (hgr.cell_far ⟨k7.heap.size + 1, 8, none⟩ LT9 (fun e => by injection e with e; simp only at e; omega)).trans (by go_simp)
        clear q8
        have q8 := q8N; clear q8N
        replace HD := Lib.hid hd9
        clear hd9
        have lt0 : k7.heap.size < k12.heap.size := LT9
        have lt1 : k7.heap.size + 1 < k12.heap.size := LT9
        clear hgr
        clear HOP
        go_wp2_with fail
        refine (leq_is w.heap.size w.heap.size _ _ r2 r false _ (Dc.below HD.out BL9) (Dc.below HC.out BL9) KN.out).mono ?_
        rintro e k13 ⟨rfl, h⟩
        have hk : Below k12.heap.size k12 k13 := HK9 h
        have hz := h.size
        try simp at hz
        replace p0 : k13.cell? ⟨k7.heap.size, 0, none⟩ = some (.int .i64 1) := (hk.cell (p := ⟨k7.heap.size, 0, none⟩) LT9).trans p0
        replace p1 : k13.cell? ⟨k7.heap.size, 1, none⟩ = some (.string a1) := (hk.cell (p := ⟨k7.heap.size, 1, none⟩) LT9).trans p1
        replace p2 : k13.cell? ⟨k7.heap.size, 2, none⟩ = some (.int .i64 1) := (hk.cell (p := ⟨k7.heap.size, 2, none⟩) LT9).trans p2
        replace p3 : k13.cell? ⟨k7.heap.size, 3, none⟩ = some (.int .i64 3) := (hk.cell (p := ⟨k7.heap.size, 3, none⟩) LT9).trans p3
        replace p4 : k13.cell? ⟨k7.heap.size, 4, none⟩ = some (.string ⟨#[]⟩) := (hk.cell (p := ⟨k7.heap.size, 4, none⟩) LT9).trans p4
        replace p5 : k13.cell? ⟨k7.heap.size, 5, none⟩ = some (.int .i64 0) := (hk.cell (p := ⟨k7.heap.size, 5, none⟩) LT9).trans p5
        replace p6 : k13.cell? ⟨k7.heap.size, 6, none⟩ = some (.int .i64 0) := (hk.cell (p := ⟨k7.heap.size, 6, none⟩) LT9).trans p6
        replace p7 : k13.cell? ⟨k7.heap.size, 7, none⟩ = some (.string ⟨#[]⟩) := (hk.cell (p := ⟨k7.heap.size, 7, none⟩) LT9).trans p7
        replace p8 : k13.cell? ⟨k7.heap.size, 8, none⟩ = some (.int .i64 0) := (hk.cell (p := ⟨k7.heap.size, 8, none⟩) LT9).trans p8
        replace q0 : k13.cell? ⟨k7.heap.size + 1, 0, none⟩ = some (.int .i64 2) := (hk.cell (p := ⟨k7.heap.size + 1, 0, none⟩) LT9).trans q0
        replace q1 : k13.cell? ⟨k7.heap.size + 1, 1, none⟩ = some (.string a1) := (hk.cell (p := ⟨k7.heap.size + 1, 1, none⟩) LT9).trans q1
        replace q2 : k13.cell? ⟨k7.heap.size + 1, 2, none⟩ = some (.int .i64 0) := (hk.cell (p := ⟨k7.heap.size + 1, 2, none⟩) LT9).trans q2
        replace q3 : k13.cell? ⟨k7.heap.size + 1, 3, none⟩ = some (.int .i64 0) := (hk.cell (p := ⟨k7.heap.size + 1, 3, none⟩) LT9).trans q3
        replace q4 : k13.cell? ⟨k7.heap.size + 1, 4, none⟩ = some (.string ⟨#[]⟩) := (hk.cell (p := ⟨k7.heap.size + 1, 4, none⟩) LT9).trans q4
        replace q5 : k13.cell? ⟨k7.heap.size + 1, 5, none⟩ = some (.int .i64 0) := (hk.cell (p := ⟨k7.heap.size + 1, 5, none⟩) LT9).trans q5
        replace q6 : k13.cell? ⟨k7.heap.size + 1, 6, none⟩ = some (.int .i64 0) := (hk.cell (p := ⟨k7.heap.size + 1, 6, none⟩) LT9).trans q6
        replace q7 : k13.cell? ⟨k7.heap.size + 1, 7, none⟩ = some (.string ⟨#[]⟩) := (hk.cell (p := ⟨k7.heap.size + 1, 7, none⟩) LT9).trans q7
        replace q8 : k13.cell? ⟨k7.heap.size + 1, 8, none⟩ = some (.int .i64 0) := (hk.cell (p := ⟨k7.heap.size + 1, 8, none⟩) LT9).trans q8
        replace HOm := Lib.hid (ownsRow_below HOm.out hk)
        replace HD := Lib.hid (Dc.below HD.out hk)
        replace HC := Lib.hid (Dc.below HC.out hk)
        replace hb : Below w.heap.size w k13 := hb.trans (hk.mono hb.size)
        have lt0 : k7.heap.size < k13.heap.size := LT9
        have lt1 : k7.heap.size + 1 < k13.heap.size := LT9
        clear h hk
        go_wp2_with fail
        refine calls_world (fun W => W.cell? ⟨k7.heap.size, 0, none⟩ = some (.int .i64 1) ∧ W.cell? ⟨k7.heap.size, 1, none⟩ = some (.string a1) ∧ W.cell? ⟨k7.heap.size, 2, none⟩ = some (.int .i64 1) ∧ W.cell? ⟨k7.heap.size, 3, none⟩ = some (.int .i64 3) ∧ W.cell? ⟨k7.heap.size, 4, none⟩ = some (.string ⟨#[]⟩) ∧ W.cell? ⟨k7.heap.size, 5, none⟩ = some (.int .i64 0) ∧ W.cell? ⟨k7.heap.size, 6, none⟩ = some (.int .i64 0) ∧ W.cell? ⟨k7.heap.size, 7, none⟩ = some (.string ⟨#[]⟩) ∧ W.cell? ⟨k7.heap.size, 8, none⟩ = some (.int .i64 0) ∧ W.cell? ⟨k7.heap.size + 1, 0, none⟩ = some (.int .i64 2) ∧ W.cell? ⟨k7.heap.size + 1, 1, none⟩ = some (.string a1) ∧ W.cell? ⟨k7.heap.size + 1, 2, none⟩ = some (.int .i64 0) ∧ W.cell? ⟨k7.heap.size + 1, 3, none⟩ = some (.int .i64 0) ∧ W.cell? ⟨k7.heap.size + 1, 4, none⟩ = some (.string ⟨#[]⟩) ∧ W.cell? ⟨k7.heap.size + 1, 5, none⟩ = some (.int .i64 0) ∧ W.cell? ⟨k7.heap.size + 1, 6, none⟩ = some (.int .i64 0) ∧ W.cell? ⟨k7.heap.size + 1, 7, none⟩ = some (.string ⟨#[]⟩) ∧ W.cell? ⟨k7.heap.size + 1, 8, none⟩ = some (.int .i64 0) ∧ Ops W (k13.heap.size + 1) (.slice (some ⟨k13.heap.size, 0, none⟩) 1 1) [delO a1] ∧ Below (k13.heap.size) k13 W ∧ k13.heap.size + 1 ≤ W.heap.size) ⟨(by go_simp), (by go_simp), (by go_simp), (by go_simp), (by go_simp), (by go_simp), (by go_simp), (by go_simp), (by go_simp), (by go_simp), (by go_simp), (by go_simp), (by go_simp), (by go_simp), (by go_simp), (by go_simp), (by go_simp), (by go_simp), (ops_new _ _ [delO a1] (by simp)), BL9, LT9⟩ ?_
        clear p0 p1 p2 p3 p4 p5 p6 p7 p8 q0 q1 q2 q3 q4 q5 q6 q7 q8
        rintro k14 ⟨p0, p1, p2, p3, p4, p5, p6, p7, p8, q0, q1, q2, q3, q4, q5, q6, q7, q8, hop, hk, hz⟩
        replace HOm := Lib.hid (ownsRow_below HOm.out hk)
        replace HD := Lib.hid (Dc.below HD.out hk)
        replace HC := Lib.hid (Dc.below HC.out hk)
        replace hb : Below w.heap.size w k14 := hb.trans (hk.mono (by first | exact hb.size | omega | (simp; omega)))
        have lt0 : k7.heap.size < k14.heap.size := LT9
        have lt1 : k7.heap.size + 1 < k14.heap.size := LT9
        clear hk
        have HOP := Lib.hid hop; clear hop
        refine (lapply_is w.heap.size _ _ _ r2 r _ 0 _ HD.out HOP.out (by omega) (fun o ho => by simp only [List.mem_cons, List.not_mem_nil, or_false] at ho; subst ho; exact KO2.out) K2.out).mono ?_
        rintro e k15 ⟨rfl, hd9, hgr⟩
        have hz9 := hgr.size
        have hbe : Below k14.heap.size k14 _ := Below.refl _ _
        clear hbe
        try simp at hz9
        replace hb : Below w.heap.size w k15 := Dc.frame (w0 := w) (hb := hgr) (h := Dc.below HD.out BL9) (h0 := (BB9 hb)) (hB := by have := hb.size; first | omega | (simp; omega))
        replace HOm := Lib.hid (ownsRow_grown (hb := hgr) (h := ownsRow_below HOm.out BL9) (hd := Dc.below HD.out BL9) (hne := by decide))
        replace HC := Lib.hid (Dc.grown (hb := hgr) (h := Dc.below HC.out BL9) (h2 := Dc.below HD.out BL9) (hne := (by omega)))
        have p0N : k15.cell? ⟨k7.heap.size, 0, none⟩ = some (.int .i64 1) := (hgr.cell_far ⟨k7.heap.size, 0, none⟩ LT9 (fun e => by injection e with e; simp only at e; omega)).trans (by go_simp)
        clear p0
        have p0 := p0N; clear p0N
        have p1N : k15.cell? ⟨k7.heap.size, 1, none⟩ = some (.string a1) := (hgr.cell_far ⟨k7.heap.size, 1, none⟩ LT9 (fun e => by injection e with e; simp only at e; omega)).trans (by go_simp)
        clear p1
        have p1 := p1N; clear p1N
        have p2N : k15.cell? ⟨k7.heap.size, 2, none⟩ = some (.int .i64 1) := (hgr.cell_far ⟨k7.heap.size, 2, none⟩ LT9 (fun e => by injection e with e; simp only at e; omega)).trans (by go_simp)
        clear p2
        have p2 := p2N; clear p2N
        have p3N : k15.cell? ⟨k7.heap.size, 3, none⟩ = some (.int .i64 3) := (hgr.cell_far ⟨k7.heap.size, 3, none⟩ LT9 (fun e => by injection e with e; simp only at e; omega)).trans (by go_simp)
        clear p3
        have p3 := p3N; clear p3N
        have p4N : k15.cell? ⟨k7.heap.size, 4, none⟩ = some (.string ⟨#[]⟩) := (hgr.cell_far ⟨k7.heap.size, 4, none⟩ LT9 (fun e => by injection e with e; simp only at e; omega)).trans (by go_simp)
        clear p4
        have p4 := p4N; clear p4N
        have p5N : k15.cell? ⟨k7.heap.size, 5, none⟩ = some (.int .i64 0) := (hgr.cell_far ⟨k7.heap.size, 5, none⟩ LT9 (fun e => by injection e with e; simp only at e; omega)).trans (by go_simp)
        clear p5
        have p5 := p5N; clear p5N
        have p6N : k15.cell? ⟨k7.heap.size, 6, none⟩ = some (.int .i64 0) := (hgr.cell_far ⟨k7.heap.size, 6, none⟩ LT9 (fun e => by injection e with e; simp only at e; omega)).trans (by go_simp)
        clear p6
        have p6 := p6N; clear p6N
        have p7N : k15.cell? ⟨k7.heap.size, 7, none⟩ = some (.string ⟨#[]⟩) := (hgr.cell_far ⟨k7.heap.size, 7, none⟩ LT9 (fun e => by injection e with e; simp only at e; omega)).trans (by go_simp)
        clear p7
        have p7 := p7N; clear p7N
        have p8N : k15.cell? ⟨k7.heap.size, 8, none⟩ = some (.int .i64 0) := (hgr.cell_far ⟨k7.heap.size, 8, none⟩ LT9 (fun e => by injection e with e; simp only at e; omega)).trans (by go_simp)
        clear p8
        have p8 := p8N; clear p8N
        have q0N : k15.cell? ⟨k7.heap.size + 1, 0, none⟩ = some (.int .i64 2) := (hgr.cell_far ⟨k7.heap.size + 1, 0, none⟩ LT9 (fun e => by injection e with e; simp only at e; omega)).trans (by go_simp)
        clear q0
        have q0 := q0N; clear q0N
        have q1N : k15.cell? ⟨k7.heap.size + 1, 1, none⟩ = some (.string a1) := (hgr.cell_far ⟨k7.heap.size + 1, 1, none⟩ LT9 (fun e => by injection e with e; simp only at e; omega)).trans (by go_simp)
        clear q1
        have q1 := q1N; clear q1N
        have q2N : k15.cell? ⟨k7.heap.size + 1, 2, none⟩ = some (.int .i64 0) := (hgr.cell_far ⟨k7.heap.size + 1, 2, none⟩ LT9 (fun e => by injection e with e; simp only at e; omega)).trans (by go_simp)
        clear q2
        have q2 := q2N; clear q2N
        have q3N : k15.cell? ⟨k7.heap.size + 1, 3, none⟩ = some (.int .i64 0) := (hgr.cell_far ⟨k7.heap.size + 1, 3, none⟩ LT9 (fun e => by injection e with e; simp only at e; omega)).trans (by go_simp)
        clear q3
        have q3 := q3N; clear q3N
        have q4N : k15.cell? ⟨k7.heap.size + 1, 4, none⟩ = some (.string ⟨#[]⟩) := (hgr.cell_far ⟨k7.heap.size + 1, 4, none⟩ LT9 (fun e => by injection e with e; simp only at e; omega)).trans (by go_simp)
        clear q4
        have q4 := q4N; clear q4N
        have q5N : k15.cell? ⟨k7.heap.size + 1, 5, none⟩ = some (.int .i64 0) := (hgr.cell_far ⟨k7.heap.size + 1, 5, none⟩ LT9 (fun e => by injection e with e; simp only at e; omega)).trans (by go_simp)
        clear q5
        have q5 := q5N; clear q5N
        have q6N : k15.cell? ⟨k7.heap.size + 1, 6, none⟩ = some (.int .i64 0) := (hgr.cell_far ⟨k7.heap.size + 1, 6, none⟩ LT9 (fun e => by injection e with e; simp only at e; omega)).trans (by go_simp)
        clear q6
        have q6 := q6N; clear q6N
        have q7N : k15.cell? ⟨k7.heap.size + 1, 7, none⟩ = some (.string ⟨#[]⟩) := (hgr.cell_far ⟨k7.heap.size + 1, 7, none⟩ LT9 (fun e => by injection e with e; simp only at e; omega)).trans (by go_simp)
        clear q7
        have q7 := q7N; clear q7N
        have q8N : k15.cell? ⟨k7.heap.size + 1, 8, none⟩ = some (.int .i64 0) := (hgr.cell_far ⟨k7.heap.size + 1, 8, none⟩ LT9 (fun e => by injection e with e; simp only at e; omega)).trans (by go_simp)
        clear q8
        have q8 := q8N; clear q8N
        replace HD := Lib.hid hd9
        clear hd9
        have lt0 : k7.heap.size < k15.heap.size := LT9
        have lt1 : k7.heap.size + 1 < k15.heap.size := LT9
        clear hgr
        clear HOP
        go_wp2_with fail
        refine (leq_is w.heap.size w.heap.size _ _ r r true _ (Dc.below HD.out BL9) (Dc.below HC.out BL9) (eqD_self _)).mono ?_
        rintro e k16 ⟨rfl, h⟩
        have hk : Below k15.heap.size k15 k16 := HK9 h
        have hz := h.size
        try simp at hz
        replace p0 : k16.cell? ⟨k7.heap.size, 0, none⟩ = some (.int .i64 1) := (hk.cell (p := ⟨k7.heap.size, 0, none⟩) LT9).trans p0
        replace p1 : k16.cell? ⟨k7.heap.size, 1, none⟩ = some (.string a1) := (hk.cell (p := ⟨k7.heap.size, 1, none⟩) LT9).trans p1
        replace p2 : k16.cell? ⟨k7.heap.size, 2, none⟩ = some (.int .i64 1) := (hk.cell (p := ⟨k7.heap.size, 2, none⟩) LT9).trans p2
        replace p3 : k16.cell? ⟨k7.heap.size, 3, none⟩ = some (.int .i64 3) := (hk.cell (p := ⟨k7.heap.size, 3, none⟩) LT9).trans p3
        replace p4 : k16.cell? ⟨k7.heap.size, 4, none⟩ = some (.string ⟨#[]⟩) := (hk.cell (p := ⟨k7.heap.size, 4, none⟩) LT9).trans p4
        replace p5 : k16.cell? ⟨k7.heap.size, 5, none⟩ = some (.int .i64 0) := (hk.cell (p := ⟨k7.heap.size, 5, none⟩) LT9).trans p5
        replace p6 : k16.cell? ⟨k7.heap.size, 6, none⟩ = some (.int .i64 0) := (hk.cell (p := ⟨k7.heap.size, 6, none⟩) LT9).trans p6
        replace p7 : k16.cell? ⟨k7.heap.size, 7, none⟩ = some (.string ⟨#[]⟩) := (hk.cell (p := ⟨k7.heap.size, 7, none⟩) LT9).trans p7
        replace p8 : k16.cell? ⟨k7.heap.size, 8, none⟩ = some (.int .i64 0) := (hk.cell (p := ⟨k7.heap.size, 8, none⟩) LT9).trans p8
        replace q0 : k16.cell? ⟨k7.heap.size + 1, 0, none⟩ = some (.int .i64 2) := (hk.cell (p := ⟨k7.heap.size + 1, 0, none⟩) LT9).trans q0
        replace q1 : k16.cell? ⟨k7.heap.size + 1, 1, none⟩ = some (.string a1) := (hk.cell (p := ⟨k7.heap.size + 1, 1, none⟩) LT9).trans q1
        replace q2 : k16.cell? ⟨k7.heap.size + 1, 2, none⟩ = some (.int .i64 0) := (hk.cell (p := ⟨k7.heap.size + 1, 2, none⟩) LT9).trans q2
        replace q3 : k16.cell? ⟨k7.heap.size + 1, 3, none⟩ = some (.int .i64 0) := (hk.cell (p := ⟨k7.heap.size + 1, 3, none⟩) LT9).trans q3
        replace q4 : k16.cell? ⟨k7.heap.size + 1, 4, none⟩ = some (.string ⟨#[]⟩) := (hk.cell (p := ⟨k7.heap.size + 1, 4, none⟩) LT9).trans q4
        replace q5 : k16.cell? ⟨k7.heap.size + 1, 5, none⟩ = some (.int .i64 0) := (hk.cell (p := ⟨k7.heap.size + 1, 5, none⟩) LT9).trans q5
        replace q6 : k16.cell? ⟨k7.heap.size + 1, 6, none⟩ = some (.int .i64 0) := (hk.cell (p := ⟨k7.heap.size + 1, 6, none⟩) LT9).trans q6
        replace q7 : k16.cell? ⟨k7.heap.size + 1, 7, none⟩ = some (.string ⟨#[]⟩) := (hk.cell (p := ⟨k7.heap.size + 1, 7, none⟩) LT9).trans q7
        replace q8 : k16.cell? ⟨k7.heap.size + 1, 8, none⟩ = some (.int .i64 0) := (hk.cell (p := ⟨k7.heap.size + 1, 8, none⟩) LT9).trans q8
        replace HOm := Lib.hid (ownsRow_below HOm.out hk)
        replace HD := Lib.hid (Dc.below HD.out hk)
        replace HC := Lib.hid (Dc.below HC.out hk)
        replace hb : Below w.heap.size w k16 := hb.trans (hk.mono hb.size)
        have lt0 : k7.heap.size < k16.heap.size := LT9
        have lt1 : k7.heap.size + 1 < k16.heap.size := LT9
        clear h hk
        go_wp2
        go_ret
        exact ⟨rfl, hb⟩
      · clear hth
        go_wp2
        go_ret
        exact ⟨rfl, hb.alloc hb.size _⟩

set_option maxRecDepth 100000 in
theorem lifted (os : Os) (started : os.Started) (H : Type) (enc : TypeId × Value → H) :
    ReturnsInHanded {} Try.checked os 10 .any (Rows.docBackSpec.pre6 enc Try.prog Try.f10 Rows.docBackRow.domain false) (Rows.docBackSpec.post enc Try.prog Try.f10 false true false false) := by
  refine returnsInHanded_of_change (C := Try.checked) own started (by kernel_rfl) Try.func10
    (ChangeSpec.witness6 (enc := enc) (C := Try.checked) false ⟨#[], #[.slice none 0 0, .string ByteArray.empty], []⟩ 8 (by kernel_rfl) (by kernel_rfl) (by kernel_rfl) (by kernel_rfl)) ?_
  intro W base args ds gs before hval0 hW hcnd _
  have hval : ∀ (j : Nat) t v, Try.f10.params[j]? = some t → args[j]? = some v → Value.okWide Try.prog W .any base t v := hval0
  have hW' := hW
  obtain ⟨p, q, hA0, hV, rfl, hfz, hnd⟩ := hW
  have hA : DataW.TrodAll enc Try.prog W 0 (fun _ => true) true Try.f10.params.toList args.toList ds p := hA0
  have hA1 := hA
  rw [Try.params10] at hA hval
  obtain ⟨v0, vs0, d0, ds0, p0, q0, hargs, rfl, rfl, h0, r0⟩ := trodAll_cons hA
  obtain ⟨v1, vs1, d1, ds1, p1, q1, rfl, rfl, rfl, h1, r1⟩ := trodAll_cons r0
  obtain ⟨rfl, rfl, rfl⟩ := trodAll_nil r1
  obtain rfl : args = #[v0, v1] := by cases args; simp_all
  obtain ⟨rfl, rfl⟩ := trodVars_none hV
  obtain ⟨A0, c0, a0, rfl, w0, x0⟩ := open_opns (hval 0 29 v0 rfl rfl) h0
  obtain ⟨a1, rfl, rfl, rfl, w1⟩ := open_string Try.underlying9 (hval 1 9 v1 rfl rfl) h1
  clear hA0 hval0
  simp only [List.append_nil] at hW'
  try simp only [List.append_nil] at hA1
  refine (walk W A0 c0 a0 w0 x0 a1 w1).mono fun e W' ⟨he, hg⟩ => ?_
  subst he
  exact ⟨_, rfl, law_end Try.laidOut (by kernel_rfl) hW' hA1 hg rfl rfl rfl (trodAll_mk1 (shut_bool Try.underlying4 _))⟩

theorem over : Rows.docBackRow.holds Try.pinned (OpenSpec.ofChange Rows.docBackSpec) :=
  OpenClaim.holds_of_wide 10 Try.f10 rfl rfl rfl rfl rfl rfl rfl ⟨rfl, rfl, rfl, rfl, rfl⟩ rfl rfl rfl rfl rfl (by kernel_rfl) Try.func10 (by kernel_rfl)
    (of_decide_eq_true (by kernel_rfl)) (by unfold Func.isWrapper; first | (rw [if_pos (by decide +kernel)]; kernel_rfl) | (rw [if_neg (by decide +kernel)]; exact ⟨rfl, rfl⟩))
    (fun os started H enc _ => lifted os started H enc)

/-- the statement -/
theorem proved : Rows.DocBackSaid := over
#print axioms proved
end Go.Proofs.Ytkgfbfopopmbhaa.docBack
