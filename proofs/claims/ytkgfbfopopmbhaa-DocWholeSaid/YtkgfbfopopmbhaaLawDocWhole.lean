/-
  A group that fails at any place changes nothing of what stood. There are no conditions.
-/
import Derived.Test.YtkgfbfopopmbhaaRows
import Derived.Test.YtkgfbfopopmbhaaL6Box
import Derived.Test.YtkgfbfopopmbhaaL6Ops
import Derived.Test.YtkgfbfopopmbhaaLawKit
import Derived.WalkKit
import Derived.ProofKit
import Derived.OpenShut
import Derived.ShutString
set_option linter.unusedSimpArgs false
set_option linter.unusedVariables false
namespace Go.Proofs.Ytkgfbfopopmbhaa.docWhole
open Go.ChangeShapes Go.WideShapes Go.ChangeAt Go.RowKit
open Go.ChangeMaps (open_string shut_string)
set_option linter.unusedVariables false

theorem own : ownKnob Try.prog.godebug = none := by kernel_rfl

set_option maxRecDepth 100000 in
set_option maxHeartbeats 8000000 in
theorem walk (w : World) (A0 : Option Addr) (c0 : Nat) (a0 : List Opn) (w0 : Ops w w.heap.size (.slice A0 a0.length c0) a0) (x0 : ∀ x ∈ a0, x.fit) (A1 : Option Addr) (c1 : Nat) (a1 : List Opn) (w1 : Ops w w.heap.size (.slice A1 a1.length c1) a1) (x1 : ∀ x ∈ a1, x.fit) (a2 : Int) (w2 : (Lit.int .i64 a2).wf = true) :
    Calls Try.prog 8 #[.slice A0 a0.length c0, .slice A1 a1.length c1, .int .i64 a2] w fun e w' => e = .returned (.bool true) ∧ Below w.heap.size w w' := by
  have HA0 := Lib.hid w0; clear w0
  have HF0 := Lib.hid x0; clear x0
  have HA1 := Lib.hid w1; clear w1
  have HF1 := Lib.hid x1; clear x1
  have hn2 := wf_i64 w2
  have hb := Below.refl w.heap.size w
  go_enter Try.func8, Try.ntmps8
  go_wp2_with fail
  refine (begun6_any _).mono ?_
  rintro e k1 ⟨rfl, h⟩
  have hk : Below w.heap.size w k1 := HK9 h
  have hz := h.size
  try simp at hz
  replace hb : Below w.heap.size w k1 := hb.trans (hk.mono hb.size)
  clear h hk
  go_wp2_with fail
  refine (lcut_is w.heap.size w.heap.size _ a0 _ (HA0.out.keep (BB9 hb) (Nat.le_refl _)) (by have := hb.size; first | exact hb.size | omega | (simp; omega)) (by have := hb.size; first | exact hb.size | omega | (simp; omega)) HF0.out).mono ?_
  rintro e k2 ⟨Am, cm, m, rfl, ⟨ho9, hlm, hok9⟩, h⟩
  have hk : Below k1.heap.size k1 k2 := HK9 h
  have hz := h.size
  try simp at hz
  replace hb : Below w.heap.size w k2 := hb.trans (hk.mono hb.size)
  have HOm := Lib.hid ho9; clear ho9
  have HOKm := Lib.hid hok9; clear hok9
  clear h hk
  go_wp2_with fail
  refine (lcut_is w.heap.size w.heap.size _ a1 _ (HA1.out.keep (BB9 hb) (Nat.le_refl _)) (by have := hb.size; first | exact hb.size | omega | (simp; omega)) (by have := hb.size; first | exact hb.size | omega | (simp; omega)) HF1.out).mono ?_
  rintro e k3 ⟨An, cn, n, rfl, ⟨ho9, hln, hok9⟩, h⟩
  have hk : Below k2.heap.size k2 k3 := HK9 h
  have hz := h.size
  try simp at hz
  replace HOm := Lib.hid (ownsRow_below HOm.out hk)
  replace hb : Below w.heap.size w k3 := hb.trans (hk.mono hb.size)
  have HOn := Lib.hid ho9; clear ho9
  have HOKn := Lib.hid hok9; clear hok9
  clear h hk
  go_wp2_with fail
  refine (lnew_is w.heap.size _ (by have := hb.size; first | omega | exact Nat.le_refl _ | (simp; omega))).mono ?_
  rintro e k4 ⟨rfl, hd9, h⟩
  have hk : Below k3.heap.size k3 k4 := HK9 h
  have hz := h.size
  try simp at hz
  replace HOm := Lib.hid (ownsRow_below HOm.out hk)
  replace HOn := Lib.hid (ownsRow_below HOn.out hk)
  replace hb : Below w.heap.size w k4 := hb.trans (hk.mono hb.size)
  clear h hk
  have HD := Lib.hid hd9; clear hd9
  have hltHD : k3.heap.size < k4.heap.size := HD.out.lt
  obtain ⟨⟨r, e1⟩, hr⟩ : ∃ x, dApply [] m = x := ⟨_, rfl⟩
  have hgr9 : Gd r := by have := gd_nil.apply HOKm.out; rw [hr] at this; exact this
  have HR := Lib.hid hr; clear hr
  obtain ⟨L, hL⟩ : ∃ x, bytesD r = x := ⟨_, rfl⟩
  have HL := Lib.hid hL; clear hL
  obtain ⟨S, hS⟩ : ∃ S : ByteArray, ⟨L.toArray⟩ = S := ⟨_, rfl⟩
  have HS := Lib.hid hS; clear hS
  go_wp2_with fail
  refine (lapply_is w.heap.size _ _ _ [] r m e1 _ (Dc.below HD.out BL9) (Ops.of_own (ownsRow_below HOm.out BL9)) (Nat.le_refl _) HOKm.out HR.out).mono ?_
  rintro e k5 ⟨rfl, hd9, hgr⟩
  have hz9 := hgr.size
  have hbe : Below k4.heap.size k4 _ := Below.refl _ _
  clear hbe
  try simp at hz9
  replace hb : Below w.heap.size w k5 := Dc.frame (w0 := w) (hb := hgr) (h := Dc.below HD.out BL9) (h0 := (BB9 hb)) (hB := by have := hb.size; first | omega | (simp; omega))
  replace HOm := Lib.hid (ownsRow_grown (hb := hgr) (h := ownsRow_below HOm.out BL9) (hd := Dc.below HD.out BL9) (hne := by decide))
  replace HOn := Lib.hid (ownsRow_grown (hb := hgr) (h := ownsRow_below HOn.out BL9) (hd := Dc.below HD.out BL9) (hne := by decide))
  replace HD := Lib.hid hd9
  clear hd9
  clear hgr
  go_wp2_with fail
  refine (lenc_is w.heap.size _ r L _ (Dc.below HD.out BL9) HL.out).mono ?_
  rintro e k6 ⟨gb, cb, rfl, hE, h⟩
  have hk : Below k5.heap.size k5 k6 := HK9 h
  have hz := h.size
  try simp at hz
  replace HOm := Lib.hid (ownsRow_below HOm.out hk)
  replace HOn := Lib.hid (ownsRow_below HOn.out hk)
  replace HD := Lib.hid (Dc.below HD.out hk)
  replace hb : Below w.heap.size w k6 := hb.trans (hk.mono hb.size)
  clear h hk
  have hcv := conv6 (Byt.of_own hE) HS.out
  clear hE
  by_cases h7 : 7 < n.length
  · have h7i : (7 : Int) < (n.length : Int) := by omega
    have hc7 : ¬ cn < 7 := by obtain ⟨A', c', hv, hc, _⟩ := Ops.of_own HOn.out; injection hv with _ _ e3; omega
    by_cases hat : 0 ≤ a2 ∧ a2 ≤ 7
    · obtain ⟨t, rfl⟩ : ∃ t : Nat, a2 = (t : Int) := ⟨a2.toNat, by omega⟩
      obtain ⟨hat0, hat1⟩ := hat
      have htn : t ≤ 7 := by omega
      rcases own_cases HOn.out with ⟨rfl, h0, rfl⟩ | ⟨ga, rfl, hnc⟩
      · omega
      · obtain ⟨X0, hX0⟩ : ∃ X, n.take 7 = X := ⟨_, rfl⟩
        have hXl : X0.length = 7 := by rw [← hX0]; rw [List.length_take]; omega
        have hXo : ∀ x ∈ X0, x.ok := fun x hx => HOKn.out x (by rw [← hX0] at hx; exact List.mem_of_mem_take hx)
        have hXops : Ops k6 k6.heap.size (.slice (some ⟨ga, 0, none⟩) X0.length cn) X0 := by rw [hXl, ← hX0]; exact ops_take (Ops.of_own HOn.out) (n := 7) (by omega)
        obtain ⟨T1, hT1⟩ : ∃ T, X0.take t = T := ⟨_, rfl⟩
        obtain ⟨T2, hT2⟩ : ∃ T, X0.drop t = T := ⟨_, rfl⟩
        have hT1l : T1.length = t := by rw [← hT1, List.length_take]; omega
        have hT2l : T2.length = 7 - t := by rw [← hT2, List.length_drop]; omega
        have hT1o : ∀ x ∈ T1, x.ok := fun x hx => hXo x (by rw [← hT1] at hx; exact List.mem_of_mem_take hx)
        have hT2o : ∀ x ∈ T2, x.ok := fun x hx => hXo x (by rw [← hT2] at hx; exact List.mem_of_mem_drop hx)
        have HT1 := Lib.hid (show Ops k6 k6.heap.size (.slice (some ⟨ga, 0, none⟩) t cn) T1 by rw [← hT1]; exact ops_take hXops (by omega))
        have HT2 := Lib.hid (show Ops k6 k6.heap.size (.slice (some ⟨ga, t * 9, none⟩) (7 - t) (cn - t)) T2 by
          rw [← hT2]
          rw [← hXl]; exact ops_drop hXops (by omega) _ (by omega))
        clear hXops hT1 hT2 hX0 hXo
        have hnt : ¬ cn = t := by omega
        have hnt2 : ¬ (cn < t) := by omega
        have hXX : ∀ x ∈ T1 ++ [badO] ++ T2, x.ok := fun x hx => by
          simp only [List.mem_append, List.mem_singleton] at hx
          rcases hx with (hx | rfl) | hx
          · exact hT1o x hx
          · exact badO_ok
          · exact hT2o x hx
        obtain ⟨X, hX⟩ : ∃ X, T1 ++ [badO] ++ T2 = X := ⟨_, rfl⟩
        rw [hX] at hXX
        have HX := Lib.hid hX; clear hX
        have HXX := Lib.hid hXX; clear hXX hT1o hT2o
        have HT1L := Lib.hid hT1l; clear hT1l
        have hT2u : T2.length ≤ 20 := by omega
        have HT2L := Lib.hid hT2u; clear hT2l hT2u
        obtain ⟨⟨r2, e2⟩, hq⟩ : ∃ x, dApply r X = x := ⟨_, rfl⟩
        have hgr2 : Gd r2 := by have := hgr9.apply HXX.out; rw [hq] at this; exact this
        have hsame : e2 ≠ 0 → r2 = r := fun h => by have := dApply_err (l := r) (os := X) (by rw [hq]; exact h); rw [hq] at this; exact this
        have HQ := Lib.hid hq; clear hq
        have HSAME := Lib.hid hsame; clear hsame
        go_wp2_with fail
        refine wp_world (fun W => W.cell? ⟨k6.heap.size, 0, none⟩ = some (.int .i64 3) ∧ W.cell? ⟨k6.heap.size, 1, none⟩ = some (.string ⟨#[110, 111, 32, 115, 117, 99, 104, 32, 107, 101, 121]⟩) ∧ W.cell? ⟨k6.heap.size, 2, none⟩ = some (.int .i64 1) ∧ W.cell? ⟨k6.heap.size, 3, none⟩ = some (.int .i64 2) ∧ W.cell? ⟨k6.heap.size, 4, none⟩ = some (.string ⟨#[]⟩) ∧ W.cell? ⟨k6.heap.size, 5, none⟩ = some (.int .i64 1) ∧ W.cell? ⟨k6.heap.size, 6, none⟩ = some (.int .i64 1) ∧ W.cell? ⟨k6.heap.size, 7, none⟩ = some (.string ⟨#[]⟩) ∧ W.cell? ⟨k6.heap.size, 8, none⟩ = some (.int .i64 0) ∧ Below (k6.heap.size) k6 W ∧ k6.heap.size + 1 ≤ W.heap.size) ⟨(by go_simp), (by go_simp), (by go_simp), (by go_simp), (by go_simp), (by go_simp), (by go_simp), (by go_simp), (by go_simp), BL9, LT9⟩ ?_
        rintro k7 ⟨b0, b1, b2, b3, b4, b5, b6, b7, b8, hk, hz⟩
        replace HOm := Lib.hid (ownsRow_below HOm.out hk)
        replace HOn := Lib.hid (ownsRow_below HOn.out hk)
        replace HD := Lib.hid (Dc.below HD.out hk)
        replace HT1 := Lib.hid (Ops.more (Ops.keep HT1.out hk (Nat.le_refl _)) (Below.size hk))
        replace HT2 := Lib.hid (Ops.more (Ops.keep HT2.out hk (Nat.le_refl _)) (Below.size hk))
        replace hb : Below w.heap.size w k7 := hb.trans (hk.mono (by first | exact hb.size | omega | (simp; omega)))
        have lt0 : k6.heap.size < k7.heap.size := LT9
        clear hk
        have hwR : w.heap.size ≤ k7.heap.size := hb.size
        have hbR := hb
        replace b0 : k7.drew.cell? ⟨k6.heap.size, 0, none⟩ = some (.int .i64 3) := b0
        replace b1 : k7.drew.cell? ⟨k6.heap.size, 1, none⟩ = some (.string ⟨#[110, 111, 32, 115, 117, 99, 104, 32, 107, 101, 121]⟩) := b1
        replace b2 : k7.drew.cell? ⟨k6.heap.size, 2, none⟩ = some (.int .i64 1) := b2
        replace b3 : k7.drew.cell? ⟨k6.heap.size, 3, none⟩ = some (.int .i64 2) := b3
        replace b4 : k7.drew.cell? ⟨k6.heap.size, 4, none⟩ = some (.string ⟨#[]⟩) := b4
        replace b5 : k7.drew.cell? ⟨k6.heap.size, 5, none⟩ = some (.int .i64 1) := b5
        replace b6 : k7.drew.cell? ⟨k6.heap.size, 6, none⟩ = some (.int .i64 1) := b6
        replace b7 : k7.drew.cell? ⟨k6.heap.size, 7, none⟩ = some (.string ⟨#[]⟩) := b7
        replace b8 : k7.drew.cell? ⟨k6.heap.size, 8, none⟩ = some (.int .i64 0) := b8
        have hR : Below k7.heap.size k7 k7.drew := (Below.refl k7.heap.size k7).drew
        refine wp_region_noPanic ?_
        refine wp_region_held_drew (S := fun W => W.cell? ⟨k6.heap.size, 0, none⟩ = some (.int .i64 3) ∧ W.cell? ⟨k6.heap.size, 1, none⟩ = some (.string ⟨#[110, 111, 32, 115, 117, 99, 104, 32, 107, 101, 121]⟩) ∧ W.cell? ⟨k6.heap.size, 2, none⟩ = some (.int .i64 1) ∧ W.cell? ⟨k6.heap.size, 3, none⟩ = some (.int .i64 2) ∧ W.cell? ⟨k6.heap.size, 4, none⟩ = some (.string ⟨#[]⟩) ∧ W.cell? ⟨k6.heap.size, 5, none⟩ = some (.int .i64 1) ∧ W.cell? ⟨k6.heap.size, 6, none⟩ = some (.int .i64 1) ∧ W.cell? ⟨k6.heap.size, 7, none⟩ = some (.string ⟨#[]⟩) ∧ W.cell? ⟨k6.heap.size, 8, none⟩ = some (.int .i64 0) ∧ Below k7.heap.size k7 W) (by kernel_rfl) ?_ (fun hHeld => ?_)
        · exact ⟨b0, b1, b2, b3, b4, b5, b6, b7, b8, hR⟩
        replace hb : Below w.heap.size w k7.drew := hb.drew
        replace lt0 : k6.heap.size < k7.drew.heap.size := lt0
        have hzd : k7.heap.size ≤ k7.drew.heap.size := Nat.le_refl _
        generalize k7.drew = k8 at *
        refine wpAnyH_take (i := 0) (oi := { dst := some 46, op := Op.move (Operand.tmp 1), type := 29, pos := "wide.go:27", after := #[], guard := none }) (v := .slice (some ⟨ga, 0, none⟩) 7 cn) rfl (by kernel_rfl) (by kernel_rfl) (by kernel_rfl) (fun _ _ _ h => h) (Or.inl ⟨by rfl, fun w hSw => ?_⟩) (by assumption) ?_
        · (try dsimp only at hSw)
          go_simp
        try simp only [Act.put, List.setIfInBounds_toArray, List.set_cons_zero, List.set_cons_succ]
        refine wpAnyH_take (i := 1) (oi := { dst := some 47, op := Op.move (Operand.tmp 2), type := 3, pos := "wide.go:27", after := #[], guard := none }) (v := .int .i64 (t : Int)) rfl (by kernel_rfl) (by kernel_rfl) (by kernel_rfl) (fun _ _ _ h => h) (Or.inl ⟨by rfl, fun w hSw => ?_⟩) (by assumption) ?_
        · (try dsimp only at hSw)
          go_simp
        try simp only [Act.put, List.setIfInBounds_toArray, List.set_cons_zero, List.set_cons_succ]
        refine wpAnyH_take (i := 2) (oi := { dst := some 48, op := Op.slice 29 (Operand.tmp 46) none (some (Operand.tmp 47)) none, type := 29, pos := "wide.go:27", after := #[{ on := 0, ground := Ground.data }, { on := 1, ground := Ground.data }], guard := none }) (v := .slice (some ⟨ga, 0, none⟩) t cn) rfl (by kernel_rfl) (by kernel_rfl) (by kernel_rfl) (fun _ _ _ h => h) (Or.inl ⟨by rfl, fun w hSw => ?_⟩) (by assumption) ?_
        · (try dsimp only at hSw)
          go_simp
        try simp only [Act.put, List.setIfInBounds_toArray, List.set_cons_zero, List.set_cons_succ]
        refine wpAnyH_take (i := 4) (oi := { dst := some 50, op := Op.load 49 (Operand.tmp 10), type := 49, pos := "wide.go:27", after := #[], guard := none }) (v := .agg #[.int .i64 3, .string ⟨#[110, 111, 32, 115, 117, 99, 104, 32, 107, 101, 121]⟩, .int .i64 1, .int .i64 2, .string ⟨#[]⟩, .int .i64 1, .int .i64 1, .string ⟨#[]⟩, .int .i64 0]) rfl (by kernel_rfl) (by kernel_rfl) (by kernel_rfl) (fun _ _ _ h => h) (Or.inl ⟨by rfl, fun w hSw => ?_⟩) (by assumption) ?_
        · (try dsimp only at hSw)
          go_simp
        try simp only [Act.put, List.setIfInBounds_toArray, List.set_cons_zero, List.set_cons_succ]
        refine wpAnyH_take (i := 7) (oi := { dst := some 53, op := Op.move (Operand.tmp 1), type := 29, pos := "wide.go:27", after := #[], guard := none }) (v := .slice (some ⟨ga, 0, none⟩) 7 cn) rfl (by kernel_rfl) (by kernel_rfl) (by kernel_rfl) (fun _ _ _ h => h) (Or.inl ⟨by rfl, fun w hSw => ?_⟩) (by assumption) ?_
        · (try dsimp only at hSw)
          go_simp
        try simp only [Act.put, List.setIfInBounds_toArray, List.set_cons_zero, List.set_cons_succ]
        refine wpAnyH_take (i := 8) (oi := { dst := some 54, op := Op.move (Operand.tmp 2), type := 3, pos := "wide.go:27", after := #[], guard := none }) (v := .int .i64 (t : Int)) rfl (by kernel_rfl) (by kernel_rfl) (by kernel_rfl) (fun _ _ _ h => h) (Or.inl ⟨by rfl, fun w hSw => ?_⟩) (by assumption) ?_
        · (try dsimp only at hSw)
          go_simp
        try simp only [Act.put, List.setIfInBounds_toArray, List.set_cons_zero, List.set_cons_succ]
        refine wpAnyH_take (i := 9) (oi := { dst := some 55, op := Op.slice 29 (Operand.tmp 53) (some (Operand.tmp 54)) none none, type := 29, pos := "wide.go:27", after := #[{ on := 7, ground := Ground.data }, { on := 8, ground := Ground.data }], guard := none }) (v := .slice (some ⟨ga, t * 9, none⟩) (7 - t) (cn - t)) rfl (by kernel_rfl) (by kernel_rfl) (by kernel_rfl) (fun _ _ _ h => h) (Or.inl ⟨by rfl, fun w hSw => ?_⟩) (by assumption) ?_
        · (try dsimp only at hSw)
          go_simp
        try simp only [Act.put, List.setIfInBounds_toArray, List.set_cons_zero, List.set_cons_succ]
        refine wpAnyH_ready (rs := [3, 5]) (by kernel_rfl) (by simp) ?_
        refine AllReadyH.cons (o := { dst := some 49, op := Op.call { callee := Callee.builtin Builtin.append, args := #[Operand.const (Value.slice none 0 0), Operand.tmp 48], argTypes := #[29, 29] }, type := 29, pos := "wide.go:27", after := #[{ on := 2, ground := Ground.data }], guard := none }) rfl (fun K hK => ?_) (AllReadyH.cons (o := { dst := some 51, op := Op.buildSlice 29 1 #[(0, Operand.tmp 50)], type := 29, pos := "wide.go:27", after := #[{ on := 4, ground := Ground.data }], guard := none }) rfl (fun K hK => ?_) (AllReadyH.nil))
        · rw [if_pos (by rfl)]
          refine wp_append_ops _ _ rfl k8.heap.size _ (.slice none 0 0) _ [] T1 rfl (World.ownsRow_nil _ _ _ _) rfl (HT1.out.keep hR (Nat.le_refl _)) (by have := HT1L.out; simp; omega) (Nat.le_refl _) ?_
          intro v1 k9 ho1 hk1 hgw
          have hRs := hR.size
          rw [List.nil_append] at ho1
          obtain ⟨A1, c1, hv1⟩ := own_slice ho1
          rw [HT1L.out] at hv1
          subst hv1
          have hz1 := hk1.size
          have HW1 := Lib.hid (ownsRow_down (B := k7.heap.size) ho1 hRs); clear ho1 hRs
          replace b0 := (hk1.cell (p := ⟨k6.heap.size, 0, none⟩) LT9).trans b0
          replace b1 := (hk1.cell (p := ⟨k6.heap.size, 1, none⟩) LT9).trans b1
          replace b2 := (hk1.cell (p := ⟨k6.heap.size, 2, none⟩) LT9).trans b2
          replace b3 := (hk1.cell (p := ⟨k6.heap.size, 3, none⟩) LT9).trans b3
          replace b4 := (hk1.cell (p := ⟨k6.heap.size, 4, none⟩) LT9).trans b4
          replace b5 := (hk1.cell (p := ⟨k6.heap.size, 5, none⟩) LT9).trans b5
          replace b6 := (hk1.cell (p := ⟨k6.heap.size, 6, none⟩) LT9).trans b6
          replace b7 := (hk1.cell (p := ⟨k6.heap.size, 7, none⟩) LT9).trans b7
          replace b8 := (hk1.cell (p := ⟨k6.heap.size, 8, none⟩) LT9).trans b8
          replace hR : Below k7.heap.size k7 k9 := hR.trans (hk1.mono hR.size)
          replace hb : Below w.heap.size w k9 := hb.trans (hk1.mono (by first | exact hwR | exact hb.size))
          have lt0 : k6.heap.size < k9.heap.size := LT9
          clear hk1 hgw
          try dsimp only
          refine hK.out _ _ ?_ (fun hHeld => ?_)
          · exact ⟨b0, b1, b2, b3, b4, b5, b6, b7, b8, hR⟩
          clear hK K
          try simp only [Act.put, List.setIfInBounds_toArray, List.set_cons_zero, List.set_cons_succ]
          refine wpAnyH_ready (rs := [5]) (by kernel_rfl) (by simp) ?_
          refine AllReadyH.cons (o := { dst := some 51, op := Op.buildSlice 29 1 #[(0, Operand.tmp 50)], type := 29, pos := "wide.go:27", after := #[{ on := 4, ground := Ground.data }], guard := none }) rfl (fun K hK => ?_) (AllReadyH.nil)
          go_simp
          have hop := ops_new k9 _ [badO] rfl
          have hk1 := below_one k9 (.cells #[.int .i64 3, .string ⟨#[110, 111, 32, 115, 117, 99, 104, 32, 107, 101, 121]⟩, .int .i64 1, .int .i64 2, .string ⟨#[]⟩, .int .i64 1, .int .i64 1, .string ⟨#[]⟩, .int .i64 0] 49)
          have hz1 : k9.heap.size + 1 = (k9.alloc (.cells #[.int .i64 3, .string ⟨#[110, 111, 32, 115, 117, 99, 104, 32, 107, 101, 121]⟩, .int .i64 1, .int .i64 2, .string ⟨#[]⟩, .int .i64 1, .int .i64 1, .string ⟨#[]⟩, .int .i64 0] 49)).heap.size := by simp
          have hop2 : Ops (k9.alloc (.cells #[.int .i64 3, .string ⟨#[110, 111, 32, 115, 117, 99, 104, 32, 107, 101, 121]⟩, .int .i64 1, .int .i64 2, .string ⟨#[]⟩, .int .i64 1, .int .i64 1, .string ⟨#[]⟩, .int .i64 0] 49)) (k9.heap.size + 1) (.slice (some ⟨k9.heap.size, 0, none⟩) 1 1) [badO] := hop
          clear hop
          obtain ⟨GD, hGD⟩ : ∃ G, k9.heap.size = G := ⟨_, rfl⟩
          obtain ⟨k10, hk9⟩ : ∃ x, k9.alloc (.cells #[.int .i64 3, .string ⟨#[110, 111, 32, 115, 117, 99, 104, 32, 107, 101, 121]⟩, .int .i64 1, .int .i64 2, .string ⟨#[]⟩, .int .i64 1, .int .i64 1, .string ⟨#[]⟩, .int .i64 0] 49) = x := ⟨_, rfl⟩
          rw [hk9] at hop2 hk1 hz1 ⊢
          clear hk9
          have HBD := Lib.hid (Ops.more hop2 (Nat.le_of_eq hz1)); clear hop2
          have hbd9 : GD < k10.heap.size := by omega
          rw [hGD] at HBD ⊢
          replace b0 := (hk1.cell (p := ⟨k6.heap.size, 0, none⟩) LT9).trans b0
          replace b1 := (hk1.cell (p := ⟨k6.heap.size, 1, none⟩) LT9).trans b1
          replace b2 := (hk1.cell (p := ⟨k6.heap.size, 2, none⟩) LT9).trans b2
          replace b3 := (hk1.cell (p := ⟨k6.heap.size, 3, none⟩) LT9).trans b3
          replace b4 := (hk1.cell (p := ⟨k6.heap.size, 4, none⟩) LT9).trans b4
          replace b5 := (hk1.cell (p := ⟨k6.heap.size, 5, none⟩) LT9).trans b5
          replace b6 := (hk1.cell (p := ⟨k6.heap.size, 6, none⟩) LT9).trans b6
          replace b7 := (hk1.cell (p := ⟨k6.heap.size, 7, none⟩) LT9).trans b7
          replace b8 := (hk1.cell (p := ⟨k6.heap.size, 8, none⟩) LT9).trans b8
          replace HW1 := Lib.hid (ownsRow_below HW1.out hk1)
          replace hR : Below k7.heap.size k7 k10 := hR.trans (hk1.mono hR.size)
          replace hb : Below w.heap.size w k10 := hb.trans (hk1.mono (by first | exact hwR | exact hb.size))
          have lt0 : k6.heap.size < k10.heap.size := LT9
          clear hk1
          try dsimp only
          refine hK.out _ _ ?_ (fun hHeld => ?_)
          · exact ⟨b0, b1, b2, b3, b4, b5, b6, b7, b8, hR⟩
          clear hK K
          try simp only [Act.put, List.setIfInBounds_toArray, List.set_cons_zero, List.set_cons_succ]
          refine wpAnyH_ready (rs := [6]) (by kernel_rfl) (by simp) ?_
          refine AllReadyH.cons (o := { dst := some 52, op := Op.call { callee := Callee.builtin Builtin.append, args := #[Operand.tmp 49, Operand.tmp 51], argTypes := #[29, 29] }, type := 29, pos := "wide.go:27", after := #[{ on := 3, ground := Ground.data }, { on := 5, ground := Ground.data }, { on := 3, ground := Ground.chain }], guard := none }) rfl (fun K hK => ?_) (AllReadyH.nil)
          rw [if_pos (by rfl)]
          refine wp_append_ops _ _ rfl k7.heap.size _ (.slice A1 t c1) _ T1 [badO] rfl HW1.out rfl HBD.out (by have := HT1L.out; simp; omega) hR.size ?_
          intro v1 k11 ho1 hk1 hgw
          obtain ⟨A2, c2, hv1⟩ := own_slice ho1
          have hl2 : (T1 ++ [badO]).length = t + 1 := by rw [List.length_append, HT1L.out]; rfl
          rw [hl2] at hv1
          subst hv1
          have HL2 := Lib.hid hl2; clear hl2
          have hz1 := hk1.size
          have HW2 := Lib.hid ho1; clear ho1 HW1 HBD
          replace b0 := (hk1.cell (p := ⟨k6.heap.size, 0, none⟩) LT9).trans b0
          replace b1 := (hk1.cell (p := ⟨k6.heap.size, 1, none⟩) LT9).trans b1
          replace b2 := (hk1.cell (p := ⟨k6.heap.size, 2, none⟩) LT9).trans b2
          replace b3 := (hk1.cell (p := ⟨k6.heap.size, 3, none⟩) LT9).trans b3
          replace b4 := (hk1.cell (p := ⟨k6.heap.size, 4, none⟩) LT9).trans b4
          replace b5 := (hk1.cell (p := ⟨k6.heap.size, 5, none⟩) LT9).trans b5
          replace b6 := (hk1.cell (p := ⟨k6.heap.size, 6, none⟩) LT9).trans b6
          replace b7 := (hk1.cell (p := ⟨k6.heap.size, 7, none⟩) LT9).trans b7
          replace b8 := (hk1.cell (p := ⟨k6.heap.size, 8, none⟩) LT9).trans b8
          replace hR : Below k7.heap.size k7 k11 := hR.trans hk1
          replace hb : Below w.heap.size w k11 := hb.trans (hk1.mono (by first | exact hwR | exact hb.size))
          have lt0 : k6.heap.size < k11.heap.size := LT9
          clear hk1 hgw
          try dsimp only
          refine hK.out _ _ ?_ (fun hHeld => ?_)
          · exact ⟨b0, b1, b2, b3, b4, b5, b6, b7, b8, hR⟩
          clear hK K
          try simp only [Act.put, List.setIfInBounds_toArray, List.set_cons_zero, List.set_cons_succ]
          refine wpAnyH_ready (rs := [10]) (by kernel_rfl) (by simp) ?_
          refine AllReadyH.cons (o := { dst := some 56, op := Op.call { callee := Callee.builtin Builtin.append, args := #[Operand.tmp 52, Operand.tmp 55], argTypes := #[29, 29] }, type := 29, pos := "wide.go:27", after := #[{ on := 6, ground := Ground.data }, { on := 9, ground := Ground.data }, { on := 6, ground := Ground.chain }], guard := none }) rfl (fun K hK => ?_) (AllReadyH.nil)
          rw [if_pos (by rfl)]
          refine wp_append_ops _ _ rfl k7.heap.size _ (.slice A2 (t + 1) c2) _ (T1 ++ [badO]) T2 rfl HW2.out rfl (HT2.out.keep hR (Nat.le_refl _)) (by have := HL2.out; have := HT2L.out; omega) hR.size ?_
          intro v1 k12 ho1 hk1 hgw
          rw [HX.out] at ho1
          obtain ⟨Ax, cx, rfl⟩ := own_slice ho1
          have hz1 := hk1.size
          have HW3 := Lib.hid ho1; clear ho1 HW2
          replace b0 := (hk1.cell (p := ⟨k6.heap.size, 0, none⟩) LT9).trans b0
          replace b1 := (hk1.cell (p := ⟨k6.heap.size, 1, none⟩) LT9).trans b1
          replace b2 := (hk1.cell (p := ⟨k6.heap.size, 2, none⟩) LT9).trans b2
          replace b3 := (hk1.cell (p := ⟨k6.heap.size, 3, none⟩) LT9).trans b3
          replace b4 := (hk1.cell (p := ⟨k6.heap.size, 4, none⟩) LT9).trans b4
          replace b5 := (hk1.cell (p := ⟨k6.heap.size, 5, none⟩) LT9).trans b5
          replace b6 := (hk1.cell (p := ⟨k6.heap.size, 6, none⟩) LT9).trans b6
          replace b7 := (hk1.cell (p := ⟨k6.heap.size, 7, none⟩) LT9).trans b7
          replace b8 := (hk1.cell (p := ⟨k6.heap.size, 8, none⟩) LT9).trans b8
          replace hR : Below k7.heap.size k7 k12 := hR.trans hk1
          replace hb : Below w.heap.size w k12 := hb.trans (hk1.mono (by first | exact hwR | exact hb.size))
          have lt0 : k6.heap.size < k12.heap.size := LT9
          clear hk1 hgw
          try dsimp only
          refine hK.out _ _ ?_ (fun hHeld => ?_)
          · exact ⟨b0, b1, b2, b3, b4, b5, b6, b7, b8, hR⟩
          clear hK K
          try simp only [Act.put, List.setIfInBounds_toArray, List.set_cons_zero, List.set_cons_succ]
          refine wpAnyH_ready (rs := [11]) (by kernel_rfl) (by simp) ?_
          refine AllReadyH.cons (o := { dst := some 11, op := Op.assign (Operand.tmp 56), type := 29, pos := "wide.go:27", after := #[{ on := 10, ground := Ground.data }, { on := 10, ground := Ground.chain }, { on := 0, ground := Ground.phase }, { on := 1, ground := Ground.phase }, { on := 2, ground := Ground.phase }, { on := 3, ground := Ground.phase }, { on := 4, ground := Ground.phase }, { on := 5, ground := Ground.phase }, { on := 6, ground := Ground.phase }, { on := 7, ground := Ground.phase }, { on := 8, ground := Ground.phase }, { on := 9, ground := Ground.phase }, { on := 10, ground := Ground.phase }], guard := none }) rfl (fun K hK => ?_) (AllReadyH.nil)
          go_simp
          refine hK.out _ _ ?_ (fun hHeld => ?_)
          · exact ⟨b0, b1, b2, b3, b4, b5, b6, b7, b8, hR⟩
          clear hK K
          try simp only [Act.put, List.setIfInBounds_toArray, List.set_cons_zero, List.set_cons_succ]
          refine wpAnyH_done (by kernel_rfl) ?_ _
          refine NoPanic.normal ?_
          replace HOm := Lib.hid (ownsRow_below HOm.out hR)
          replace HOn := Lib.hid (ownsRow_below HOn.out hR)
          replace HD := Lib.hid (Dc.below HD.out hR)
          replace HT1 := Lib.hid (Ops.more (Ops.keep HT1.out hR (Nat.le_refl _)) (Below.size hR))
          replace HT2 := Lib.hid (Ops.more (Ops.keep HT2.out hR (Nat.le_refl _)) (Below.size hR))
          clear HT1
          clear HT2
          go_wp2_with fail
          refine (lrapply_is 0 _ _ _ [] r m e1 _ (prs_nil _ _) (Nat.zero_le _) (Ops.of_own (ownsRow_below HOm.out BL9)) (Nat.le_refl _) gd_nil HOKm.out HR.out).mono ?_
          rintro e k13 ⟨Ar, cr, rfl, hp9, h⟩
          have hk : Below k12.heap.size k12 k13 := HK9 h
          have hz := h.size
          try simp at hz
          replace b0 : k13.cell? ⟨k6.heap.size, 0, none⟩ = some (.int .i64 3) := (hk.cell (p := ⟨k6.heap.size, 0, none⟩) LT9).trans b0
          replace b1 : k13.cell? ⟨k6.heap.size, 1, none⟩ = some (.string ⟨#[110, 111, 32, 115, 117, 99, 104, 32, 107, 101, 121]⟩) := (hk.cell (p := ⟨k6.heap.size, 1, none⟩) LT9).trans b1
          replace b2 : k13.cell? ⟨k6.heap.size, 2, none⟩ = some (.int .i64 1) := (hk.cell (p := ⟨k6.heap.size, 2, none⟩) LT9).trans b2
          replace b3 : k13.cell? ⟨k6.heap.size, 3, none⟩ = some (.int .i64 2) := (hk.cell (p := ⟨k6.heap.size, 3, none⟩) LT9).trans b3
          replace b4 : k13.cell? ⟨k6.heap.size, 4, none⟩ = some (.string ⟨#[]⟩) := (hk.cell (p := ⟨k6.heap.size, 4, none⟩) LT9).trans b4
          replace b5 : k13.cell? ⟨k6.heap.size, 5, none⟩ = some (.int .i64 1) := (hk.cell (p := ⟨k6.heap.size, 5, none⟩) LT9).trans b5
          replace b6 : k13.cell? ⟨k6.heap.size, 6, none⟩ = some (.int .i64 1) := (hk.cell (p := ⟨k6.heap.size, 6, none⟩) LT9).trans b6
          replace b7 : k13.cell? ⟨k6.heap.size, 7, none⟩ = some (.string ⟨#[]⟩) := (hk.cell (p := ⟨k6.heap.size, 7, none⟩) LT9).trans b7
          replace b8 : k13.cell? ⟨k6.heap.size, 8, none⟩ = some (.int .i64 0) := (hk.cell (p := ⟨k6.heap.size, 8, none⟩) LT9).trans b8
          have r0 : k13.cell? ⟨k12.heap.size, 0, none⟩ = some (.slice none 0 0) := (h.cell (p := ⟨k12.heap.size, 0, none⟩) LT9).trans (by go_simp)
          have rf : k13.frozen? ⟨k12.heap.size, 0, none⟩ = false := (h.frozen (p := ⟨k12.heap.size, 0, none⟩) LT9).trans (by go_simp)
          replace HOm := Lib.hid (ownsRow_below HOm.out hk)
          replace HOn := Lib.hid (ownsRow_below HOn.out hk)
          replace HD := Lib.hid (Dc.below HD.out hk)
          replace HW3 := Lib.hid (ownsRow_below HW3.out hk)
          replace hb : Below w.heap.size w k13 := hb.trans (hk.mono hb.size)
          have lt0 : k6.heap.size < k13.heap.size := LT9
          have lt1 : k12.heap.size < k13.heap.size := LT9
          have HBR := Lib.hid (Bx1.below (Bx1.new _ 28 (.slice none 0 0)) h)
          have HP := Lib.hid hp9; clear hp9
          clear h hk
          go_wp2_with fail
          obtain ⟨k14, hk14⟩ : ∃ x, k13.setCell ⟨k12.heap.size, 0, none⟩ (.slice Ar r.length cr) = x := ⟨_, rfl⟩
          replace HOm := Lib.hid (box_own (u := .slice Ar r.length cr) HOm.out HBR.out (by decide))
          rw [hk14] at HOm
          replace HOn := Lib.hid (box_own (u := .slice Ar r.length cr) HOn.out HBR.out (by decide))
          rw [hk14] at HOn
          replace HD := Lib.hid (box_doc (u := .slice Ar r.length cr) HD.out HBR.out (by decide) (by decide))
          rw [hk14] at HD
          replace HW3 := Lib.hid (box_own (u := .slice Ar r.length cr) HW3.out HBR.out (by decide))
          rw [hk14] at HW3
          replace HP := Lib.hid (box_prs (u := .slice Ar r.length cr) HP.out HBR.out)
          rw [hk14] at HP
          replace HBR := Lib.hid (Bx1.set HBR.out (.slice Ar r.length cr))
          rw [hk14] at HBR
          replace b0 : k14.cell? ⟨k6.heap.size, 0, none⟩ = some (.int .i64 3) := by rw [← hk14]; exact (World.cell?_setCell_other _ _ _ _ (fun e => by injection e with e; omega)).trans b0
          replace b1 : k14.cell? ⟨k6.heap.size, 1, none⟩ = some (.string ⟨#[110, 111, 32, 115, 117, 99, 104, 32, 107, 101, 121]⟩) := by rw [← hk14]; exact (World.cell?_setCell_other _ _ _ _ (fun e => by injection e with e; omega)).trans b1
          replace b2 : k14.cell? ⟨k6.heap.size, 2, none⟩ = some (.int .i64 1) := by rw [← hk14]; exact (World.cell?_setCell_other _ _ _ _ (fun e => by injection e with e; omega)).trans b2
          replace b3 : k14.cell? ⟨k6.heap.size, 3, none⟩ = some (.int .i64 2) := by rw [← hk14]; exact (World.cell?_setCell_other _ _ _ _ (fun e => by injection e with e; omega)).trans b3
          replace b4 : k14.cell? ⟨k6.heap.size, 4, none⟩ = some (.string ⟨#[]⟩) := by rw [← hk14]; exact (World.cell?_setCell_other _ _ _ _ (fun e => by injection e with e; omega)).trans b4
          replace b5 : k14.cell? ⟨k6.heap.size, 5, none⟩ = some (.int .i64 1) := by rw [← hk14]; exact (World.cell?_setCell_other _ _ _ _ (fun e => by injection e with e; omega)).trans b5
          replace b6 : k14.cell? ⟨k6.heap.size, 6, none⟩ = some (.int .i64 1) := by rw [← hk14]; exact (World.cell?_setCell_other _ _ _ _ (fun e => by injection e with e; omega)).trans b6
          replace b7 : k14.cell? ⟨k6.heap.size, 7, none⟩ = some (.string ⟨#[]⟩) := by rw [← hk14]; exact (World.cell?_setCell_other _ _ _ _ (fun e => by injection e with e; omega)).trans b7
          replace b8 : k14.cell? ⟨k6.heap.size, 8, none⟩ = some (.int .i64 0) := by rw [← hk14]; exact (World.cell?_setCell_other _ _ _ _ (fun e => by injection e with e; omega)).trans b8
          replace r0 : k14.cell? ⟨k12.heap.size, 0, none⟩ = some (.slice Ar r.length cr) := Bx1.cell HBR.out
          replace rf : k14.frozen? ⟨k12.heap.size, 0, none⟩ = false := Bx1.frz HBR.out
          have hzk14 : k14.heap.size = k13.heap.size := by rw [← hk14]; exact nblk_set _ _ _
          replace hb : Below w.heap.size w k14 := by
            rw [← hk14]
            exact hb.setCell (by first | omega | (simp; omega)) _
          rw [← hzk14] at HP
          rw [hk14]
          clear hk14
          have lt0 : k6.heap.size < k14.heap.size := LT9
          have lt1 : k12.heap.size < k14.heap.size := LT9
          refine (lrapply_is _ _ _ _ r r2 X e2 _ (Prs.keep HP.out BL9 (Nat.le_refl _)) (by first | exact Nat.le_refl _ | (simp; done) | (simp; omega) | omega) (Ops.of_own (ownsRow_below HW3.out BL9)) (Nat.le_refl _) hgr9 HXX.out HQ.out).mono ?_
          rintro e k15 ⟨Aq, cq, rfl, hq9, h⟩
          have hk : Below k14.heap.size k14 k15 := HK9 h
          have hz := h.size
          try simp at hz
          replace b0 : k15.cell? ⟨k6.heap.size, 0, none⟩ = some (.int .i64 3) := (hk.cell (p := ⟨k6.heap.size, 0, none⟩) LT9).trans b0
          replace b1 : k15.cell? ⟨k6.heap.size, 1, none⟩ = some (.string ⟨#[110, 111, 32, 115, 117, 99, 104, 32, 107, 101, 121]⟩) := (hk.cell (p := ⟨k6.heap.size, 1, none⟩) LT9).trans b1
          replace b2 : k15.cell? ⟨k6.heap.size, 2, none⟩ = some (.int .i64 1) := (hk.cell (p := ⟨k6.heap.size, 2, none⟩) LT9).trans b2
          replace b3 : k15.cell? ⟨k6.heap.size, 3, none⟩ = some (.int .i64 2) := (hk.cell (p := ⟨k6.heap.size, 3, none⟩) LT9).trans b3
          replace b4 : k15.cell? ⟨k6.heap.size, 4, none⟩ = some (.string ⟨#[]⟩) := (hk.cell (p := ⟨k6.heap.size, 4, none⟩) LT9).trans b4
          replace b5 : k15.cell? ⟨k6.heap.size, 5, none⟩ = some (.int .i64 1) := (hk.cell (p := ⟨k6.heap.size, 5, none⟩) LT9).trans b5
          replace b6 : k15.cell? ⟨k6.heap.size, 6, none⟩ = some (.int .i64 1) := (hk.cell (p := ⟨k6.heap.size, 6, none⟩) LT9).trans b6
          replace b7 : k15.cell? ⟨k6.heap.size, 7, none⟩ = some (.string ⟨#[]⟩) := (hk.cell (p := ⟨k6.heap.size, 7, none⟩) LT9).trans b7
          replace b8 : k15.cell? ⟨k6.heap.size, 8, none⟩ = some (.int .i64 0) := (hk.cell (p := ⟨k6.heap.size, 8, none⟩) LT9).trans b8
          replace r0 : k15.cell? ⟨k12.heap.size, 0, none⟩ = some (.slice Ar r.length cr) := (hk.cell (p := ⟨k12.heap.size, 0, none⟩) LT9).trans r0
          replace rf : k15.frozen? ⟨k12.heap.size, 0, none⟩ = false := (hk.frozen (p := ⟨k12.heap.size, 0, none⟩) LT9).trans rf
          replace HOm := Lib.hid (ownsRow_below HOm.out hk)
          replace HOn := Lib.hid (ownsRow_below HOn.out hk)
          replace HD := Lib.hid (Dc.below HD.out hk)
          replace HW3 := Lib.hid (ownsRow_below HW3.out hk)
          replace HBR := Lib.hid (Bx1.below HBR.out hk)
          replace HP := Lib.hid (Prs.more (Prs.keep HP.out hk (Nat.le_refl _)) (Below.size hk))
          replace hb : Below w.heap.size w k15 := hb.trans (hk.mono hb.size)
          have lt0 : k6.heap.size < k15.heap.size := LT9
          have lt1 : k12.heap.size < k15.heap.size := LT9
          clear h hk
          clear hq9
          go_wp2_with fail
          refine (lapply_is w.heap.size _ _ _ r r2 X e2 _ (Dc.below HD.out BL9) (Ops.of_own (ownsRow_below HW3.out BL9)) (Nat.le_refl _) HXX.out HQ.out).mono ?_
          rintro e k16 ⟨rfl, hd9, hgr⟩
          have hz9 := hgr.size
          have hbe : Below k15.heap.size k15 _ := Below.refl _ _
          clear hbe
          try simp at hz9
          replace hb : Below w.heap.size w k16 := Dc.frame (w0 := w) (hb := hgr) (h := Dc.below HD.out BL9) (h0 := (BB9 hb)) (hB := by have := hb.size; first | omega | (simp; omega))
          replace HOm := Lib.hid (ownsRow_grown (hb := hgr) (h := ownsRow_below HOm.out BL9) (hd := Dc.below HD.out BL9) (hne := by decide))
          replace HOn := Lib.hid (ownsRow_grown (hb := hgr) (h := ownsRow_below HOn.out BL9) (hd := Dc.below HD.out BL9) (hne := by decide))
          replace HW3 := Lib.hid (ownsRow_grown (hb := hgr) (h := ownsRow_below HW3.out BL9) (hd := Dc.below HD.out BL9) (hne := by decide))
          replace HBR := Lib.hid (Bx1.grown (hb := hgr) (h := Bx1.below HBR.out BL9) (hd := Dc.below HD.out BL9) (ht := by decide))
          replace HP := Lib.hid (Prs.more (prs_grown (hb := hgr) (h := Prs.keep HP.out BL9 (Nat.le_refl _)) (hd := Dc.below HD.out BL9)) (Nat.le_trans LT9 hgr.size))
          have b0N : k16.cell? ⟨k6.heap.size, 0, none⟩ = some (.int .i64 3) := (hgr.cell_far ⟨k6.heap.size, 0, none⟩ LT9 (fun e => by injection e with e; simp only at e; omega)).trans (by go_simp)
          clear b0
          have b0 := b0N; clear b0N
          have b1N : k16.cell? ⟨k6.heap.size, 1, none⟩ = some (.string ⟨#[110, 111, 32, 115, 117, 99, 104, 32, 107, 101, 121]⟩) := (hgr.cell_far ⟨k6.heap.size, 1, none⟩ LT9 (fun e => by injection e with e; simp only at e; omega)).trans (by go_simp)
          clear b1
          have b1 := b1N; clear b1N
          have b2N : k16.cell? ⟨k6.heap.size, 2, none⟩ = some (.int .i64 1) := (hgr.cell_far ⟨k6.heap.size, 2, none⟩ LT9 (fun e => by injection e with e; simp only at e; omega)).trans (by go_simp)
          clear b2
          have b2 := b2N; clear b2N
          have b3N : k16.cell? ⟨k6.heap.size, 3, none⟩ = some (.int .i64 2) := (hgr.cell_far ⟨k6.heap.size, 3, none⟩ LT9 (fun e => by injection e with e; simp only at e; omega)).trans (by go_simp)
          clear b3
          have b3 := b3N; clear b3N
          have b4N : k16.cell? ⟨k6.heap.size, 4, none⟩ = some (.string ⟨#[]⟩) := (hgr.cell_far ⟨k6.heap.size, 4, none⟩ LT9 (fun e => by injection e with e; simp only at e; omega)).trans (by go_simp)
          clear b4
          have b4 := b4N; clear b4N
          have b5N : k16.cell? ⟨k6.heap.size, 5, none⟩ = some (.int .i64 1) := (hgr.cell_far ⟨k6.heap.size, 5, none⟩ LT9 (fun e => by injection e with e; simp only at e; omega)).trans (by go_simp)
          clear b5
          have b5 := b5N; clear b5N
          have b6N : k16.cell? ⟨k6.heap.size, 6, none⟩ = some (.int .i64 1) := (hgr.cell_far ⟨k6.heap.size, 6, none⟩ LT9 (fun e => by injection e with e; simp only at e; omega)).trans (by go_simp)
          clear b6
          have b6 := b6N; clear b6N
          have b7N : k16.cell? ⟨k6.heap.size, 7, none⟩ = some (.string ⟨#[]⟩) := (hgr.cell_far ⟨k6.heap.size, 7, none⟩ LT9 (fun e => by injection e with e; simp only at e; omega)).trans (by go_simp)
          clear b7
          have b7 := b7N; clear b7N
          have b8N : k16.cell? ⟨k6.heap.size, 8, none⟩ = some (.int .i64 0) := (hgr.cell_far ⟨k6.heap.size, 8, none⟩ LT9 (fun e => by injection e with e; simp only at e; omega)).trans (by go_simp)
          clear b8
          have b8 := b8N; clear b8N
          have r0N : k16.cell? ⟨k12.heap.size, 0, none⟩ = some (.slice Ar r.length cr) := (hgr.cell_far ⟨k12.heap.size, 0, none⟩ LT9 (fun e => by injection e with e; simp only at e; omega)).trans (by go_simp)
          clear r0
          have r0 := r0N; clear r0N
          have rfN : k16.frozen? ⟨k12.heap.size, 0, none⟩ = false := (hgr.frozen_far ⟨k12.heap.size, 0, none⟩ LT9 (fun e => by injection e with e; simp only at e; omega)).trans (by go_simp)
          clear rf
          have rf := rfN; clear rfN
          replace HD := Lib.hid hd9
          clear hd9
          have lt0 : k6.heap.size < k16.heap.size := LT9
          have lt1 : k12.heap.size < k16.heap.size := LT9
          clear hgr
          have hee : ((e2 : Int) == (e2 : Int)) = true := by simp
          by_cases he0 : e2 = 0
          · have he1 : ((e2 : Int) == 0) = true := by simp [he0]
            have he2 : (e2 : Int) = 0 := by omega
            go_wp2
            go_ret
            exact ⟨by first | rfl | simp, hb⟩
          · have he1 : ((e2 : Int) == 0) = false := by rw [beq_eq_false_iff_ne]; omega
            have he2 : ¬ ((e2 : Int) = 0) := by omega
            rw [HSAME.out he0] at HD
            go_wp2_with fail
            refine (lenc_is w.heap.size _ r L _ (Dc.below HD.out BL9) HL.out).mono ?_
            rintro e k17 ⟨gd2, cd2, rfl, hE, h⟩
            have hk : Below k16.heap.size k16 k17 := HK9 h
            have hz := h.size
            try simp at hz
            replace b0 : k17.cell? ⟨k6.heap.size, 0, none⟩ = some (.int .i64 3) := (hk.cell (p := ⟨k6.heap.size, 0, none⟩) LT9).trans b0
            replace b1 : k17.cell? ⟨k6.heap.size, 1, none⟩ = some (.string ⟨#[110, 111, 32, 115, 117, 99, 104, 32, 107, 101, 121]⟩) := (hk.cell (p := ⟨k6.heap.size, 1, none⟩) LT9).trans b1
            replace b2 : k17.cell? ⟨k6.heap.size, 2, none⟩ = some (.int .i64 1) := (hk.cell (p := ⟨k6.heap.size, 2, none⟩) LT9).trans b2
            replace b3 : k17.cell? ⟨k6.heap.size, 3, none⟩ = some (.int .i64 2) := (hk.cell (p := ⟨k6.heap.size, 3, none⟩) LT9).trans b3
            replace b4 : k17.cell? ⟨k6.heap.size, 4, none⟩ = some (.string ⟨#[]⟩) := (hk.cell (p := ⟨k6.heap.size, 4, none⟩) LT9).trans b4
            replace b5 : k17.cell? ⟨k6.heap.size, 5, none⟩ = some (.int .i64 1) := (hk.cell (p := ⟨k6.heap.size, 5, none⟩) LT9).trans b5
            replace b6 : k17.cell? ⟨k6.heap.size, 6, none⟩ = some (.int .i64 1) := (hk.cell (p := ⟨k6.heap.size, 6, none⟩) LT9).trans b6
            replace b7 : k17.cell? ⟨k6.heap.size, 7, none⟩ = some (.string ⟨#[]⟩) := (hk.cell (p := ⟨k6.heap.size, 7, none⟩) LT9).trans b7
            replace b8 : k17.cell? ⟨k6.heap.size, 8, none⟩ = some (.int .i64 0) := (hk.cell (p := ⟨k6.heap.size, 8, none⟩) LT9).trans b8
            replace r0 : k17.cell? ⟨k12.heap.size, 0, none⟩ = some (.slice Ar r.length cr) := (hk.cell (p := ⟨k12.heap.size, 0, none⟩) LT9).trans r0
            replace rf : k17.frozen? ⟨k12.heap.size, 0, none⟩ = false := (hk.frozen (p := ⟨k12.heap.size, 0, none⟩) LT9).trans rf
            replace HOm := Lib.hid (ownsRow_below HOm.out hk)
            replace HOn := Lib.hid (ownsRow_below HOn.out hk)
            replace HD := Lib.hid (Dc.below HD.out hk)
            replace HW3 := Lib.hid (ownsRow_below HW3.out hk)
            replace HBR := Lib.hid (Bx1.below HBR.out hk)
            replace HP := Lib.hid (Prs.more (Prs.keep HP.out hk (Nat.le_refl _)) (Below.size hk))
            replace hb : Below w.heap.size w k17 := hb.trans (hk.mono hb.size)
            have lt0 : k6.heap.size < k17.heap.size := LT9
            have lt1 : k12.heap.size < k17.heap.size := LT9
            clear h hk
            have hcv2 := conv6 (Byt.of_own hE) HS.out
            clear hE
            go_wp2
            go_ret
            exact ⟨by first | rfl | simp, hb⟩
        · go_simp
          have hop := ops_new k8 _ [badO] rfl
          have hk1 := below_one k8 (.cells #[.int .i64 3, .string ⟨#[110, 111, 32, 115, 117, 99, 104, 32, 107, 101, 121]⟩, .int .i64 1, .int .i64 2, .string ⟨#[]⟩, .int .i64 1, .int .i64 1, .string ⟨#[]⟩, .int .i64 0] 49)
          have hz1 : k8.heap.size + 1 = (k8.alloc (.cells #[.int .i64 3, .string ⟨#[110, 111, 32, 115, 117, 99, 104, 32, 107, 101, 121]⟩, .int .i64 1, .int .i64 2, .string ⟨#[]⟩, .int .i64 1, .int .i64 1, .string ⟨#[]⟩, .int .i64 0] 49)).heap.size := by simp
          have hop2 : Ops (k8.alloc (.cells #[.int .i64 3, .string ⟨#[110, 111, 32, 115, 117, 99, 104, 32, 107, 101, 121]⟩, .int .i64 1, .int .i64 2, .string ⟨#[]⟩, .int .i64 1, .int .i64 1, .string ⟨#[]⟩, .int .i64 0] 49)) (k8.heap.size + 1) (.slice (some ⟨k8.heap.size, 0, none⟩) 1 1) [badO] := hop
          clear hop
          obtain ⟨GD, hGD⟩ : ∃ G, k8.heap.size = G := ⟨_, rfl⟩
          obtain ⟨k9, hk9⟩ : ∃ x, k8.alloc (.cells #[.int .i64 3, .string ⟨#[110, 111, 32, 115, 117, 99, 104, 32, 107, 101, 121]⟩, .int .i64 1, .int .i64 2, .string ⟨#[]⟩, .int .i64 1, .int .i64 1, .string ⟨#[]⟩, .int .i64 0] 49) = x := ⟨_, rfl⟩
          rw [hk9] at hop2 hk1 hz1 ⊢
          clear hk9
          have HBD := Lib.hid (Ops.more hop2 (Nat.le_of_eq hz1)); clear hop2
          have hbd9 : GD < k9.heap.size := by omega
          rw [hGD] at HBD ⊢
          replace b0 := (hk1.cell (p := ⟨k6.heap.size, 0, none⟩) LT9).trans b0
          replace b1 := (hk1.cell (p := ⟨k6.heap.size, 1, none⟩) LT9).trans b1
          replace b2 := (hk1.cell (p := ⟨k6.heap.size, 2, none⟩) LT9).trans b2
          replace b3 := (hk1.cell (p := ⟨k6.heap.size, 3, none⟩) LT9).trans b3
          replace b4 := (hk1.cell (p := ⟨k6.heap.size, 4, none⟩) LT9).trans b4
          replace b5 := (hk1.cell (p := ⟨k6.heap.size, 5, none⟩) LT9).trans b5
          replace b6 := (hk1.cell (p := ⟨k6.heap.size, 6, none⟩) LT9).trans b6
          replace b7 := (hk1.cell (p := ⟨k6.heap.size, 7, none⟩) LT9).trans b7
          replace b8 := (hk1.cell (p := ⟨k6.heap.size, 8, none⟩) LT9).trans b8
          replace hR : Below k7.heap.size k7 k9 := hR.trans (hk1.mono hR.size)
          replace hb : Below w.heap.size w k9 := hb.trans (hk1.mono (by first | exact hwR | exact hb.size))
          have lt0 : k6.heap.size < k9.heap.size := LT9
          clear hk1
          try dsimp only
          refine hK.out _ _ ?_ (fun hHeld => ?_)
          · exact ⟨b0, b1, b2, b3, b4, b5, b6, b7, b8, hR⟩
          clear hK K
          try simp only [Act.put, List.setIfInBounds_toArray, List.set_cons_zero, List.set_cons_succ]
          refine wpAnyH_ready (rs := [3]) (by kernel_rfl) (by simp) ?_
          refine AllReadyH.cons (o := { dst := some 49, op := Op.call { callee := Callee.builtin Builtin.append, args := #[Operand.const (Value.slice none 0 0), Operand.tmp 48], argTypes := #[29, 29] }, type := 29, pos := "wide.go:27", after := #[{ on := 2, ground := Ground.data }], guard := none }) rfl (fun K hK => ?_) (AllReadyH.nil)
          rw [if_pos (by rfl)]
          refine wp_append_ops _ _ rfl k9.heap.size _ (.slice none 0 0) _ [] T1 rfl (World.ownsRow_nil _ _ _ _) rfl (HT1.out.keep hR (Nat.le_refl _)) (by have := HT1L.out; simp; omega) (Nat.le_refl _) ?_
          intro v1 k10 ho1 hk1 hgw
          have hRs := hR.size
          rw [List.nil_append] at ho1
          obtain ⟨A1, c1, hv1⟩ := own_slice ho1
          rw [HT1L.out] at hv1
          subst hv1
          have hz1 := hk1.size
          have HW1 := Lib.hid (ownsRow_down (B := k7.heap.size) ho1 hRs); clear ho1 hRs
          replace b0 := (hk1.cell (p := ⟨k6.heap.size, 0, none⟩) LT9).trans b0
          replace b1 := (hk1.cell (p := ⟨k6.heap.size, 1, none⟩) LT9).trans b1
          replace b2 := (hk1.cell (p := ⟨k6.heap.size, 2, none⟩) LT9).trans b2
          replace b3 := (hk1.cell (p := ⟨k6.heap.size, 3, none⟩) LT9).trans b3
          replace b4 := (hk1.cell (p := ⟨k6.heap.size, 4, none⟩) LT9).trans b4
          replace b5 := (hk1.cell (p := ⟨k6.heap.size, 5, none⟩) LT9).trans b5
          replace b6 := (hk1.cell (p := ⟨k6.heap.size, 6, none⟩) LT9).trans b6
          replace b7 := (hk1.cell (p := ⟨k6.heap.size, 7, none⟩) LT9).trans b7
          replace b8 := (hk1.cell (p := ⟨k6.heap.size, 8, none⟩) LT9).trans b8
          replace HBD := Lib.hid (Ops.more (Ops.keep HBD.out hk1 (Nat.le_refl _)) (Below.size hk1))
          replace hR : Below k7.heap.size k7 k10 := hR.trans (hk1.mono hR.size)
          replace hb : Below w.heap.size w k10 := hb.trans (hk1.mono (by first | exact hwR | exact hb.size))
          have lt0 : k6.heap.size < k10.heap.size := LT9
          clear hk1 hgw
          try dsimp only
          refine hK.out _ _ ?_ (fun hHeld => ?_)
          · exact ⟨b0, b1, b2, b3, b4, b5, b6, b7, b8, hR⟩
          clear hK K
          try simp only [Act.put, List.setIfInBounds_toArray, List.set_cons_zero, List.set_cons_succ]
          refine wpAnyH_ready (rs := [6]) (by kernel_rfl) (by simp) ?_
          refine AllReadyH.cons (o := { dst := some 52, op := Op.call { callee := Callee.builtin Builtin.append, args := #[Operand.tmp 49, Operand.tmp 51], argTypes := #[29, 29] }, type := 29, pos := "wide.go:27", after := #[{ on := 3, ground := Ground.data }, { on := 5, ground := Ground.data }, { on := 3, ground := Ground.chain }], guard := none }) rfl (fun K hK => ?_) (AllReadyH.nil)
          rw [if_pos (by rfl)]
          refine wp_append_ops _ _ rfl k7.heap.size _ (.slice A1 t c1) _ T1 [badO] rfl HW1.out rfl HBD.out (by have := HT1L.out; simp; omega) hR.size ?_
          intro v1 k11 ho1 hk1 hgw
          obtain ⟨A2, c2, hv1⟩ := own_slice ho1
          have hl2 : (T1 ++ [badO]).length = t + 1 := by rw [List.length_append, HT1L.out]; rfl
          rw [hl2] at hv1
          subst hv1
          have HL2 := Lib.hid hl2; clear hl2
          have hz1 := hk1.size
          have HW2 := Lib.hid ho1; clear ho1 HW1 HBD
          replace b0 := (hk1.cell (p := ⟨k6.heap.size, 0, none⟩) LT9).trans b0
          replace b1 := (hk1.cell (p := ⟨k6.heap.size, 1, none⟩) LT9).trans b1
          replace b2 := (hk1.cell (p := ⟨k6.heap.size, 2, none⟩) LT9).trans b2
          replace b3 := (hk1.cell (p := ⟨k6.heap.size, 3, none⟩) LT9).trans b3
          replace b4 := (hk1.cell (p := ⟨k6.heap.size, 4, none⟩) LT9).trans b4
          replace b5 := (hk1.cell (p := ⟨k6.heap.size, 5, none⟩) LT9).trans b5
          replace b6 := (hk1.cell (p := ⟨k6.heap.size, 6, none⟩) LT9).trans b6
          replace b7 := (hk1.cell (p := ⟨k6.heap.size, 7, none⟩) LT9).trans b7
          replace b8 := (hk1.cell (p := ⟨k6.heap.size, 8, none⟩) LT9).trans b8
          replace hR : Below k7.heap.size k7 k11 := hR.trans hk1
          replace hb : Below w.heap.size w k11 := hb.trans (hk1.mono (by first | exact hwR | exact hb.size))
          have lt0 : k6.heap.size < k11.heap.size := LT9
          clear hk1 hgw
          try dsimp only
          refine hK.out _ _ ?_ (fun hHeld => ?_)
          · exact ⟨b0, b1, b2, b3, b4, b5, b6, b7, b8, hR⟩
          clear hK K
          try simp only [Act.put, List.setIfInBounds_toArray, List.set_cons_zero, List.set_cons_succ]
          refine wpAnyH_ready (rs := [10]) (by kernel_rfl) (by simp) ?_
          refine AllReadyH.cons (o := { dst := some 56, op := Op.call { callee := Callee.builtin Builtin.append, args := #[Operand.tmp 52, Operand.tmp 55], argTypes := #[29, 29] }, type := 29, pos := "wide.go:27", after := #[{ on := 6, ground := Ground.data }, { on := 9, ground := Ground.data }, { on := 6, ground := Ground.chain }], guard := none }) rfl (fun K hK => ?_) (AllReadyH.nil)
          rw [if_pos (by rfl)]
          refine wp_append_ops _ _ rfl k7.heap.size _ (.slice A2 (t + 1) c2) _ (T1 ++ [badO]) T2 rfl HW2.out rfl (HT2.out.keep hR (Nat.le_refl _)) (by have := HL2.out; have := HT2L.out; omega) hR.size ?_
          intro v1 k12 ho1 hk1 hgw
          rw [HX.out] at ho1
          obtain ⟨Ax, cx, rfl⟩ := own_slice ho1
          have hz1 := hk1.size
          have HW3 := Lib.hid ho1; clear ho1 HW2
          replace b0 := (hk1.cell (p := ⟨k6.heap.size, 0, none⟩) LT9).trans b0
          replace b1 := (hk1.cell (p := ⟨k6.heap.size, 1, none⟩) LT9).trans b1
          replace b2 := (hk1.cell (p := ⟨k6.heap.size, 2, none⟩) LT9).trans b2
          replace b3 := (hk1.cell (p := ⟨k6.heap.size, 3, none⟩) LT9).trans b3
          replace b4 := (hk1.cell (p := ⟨k6.heap.size, 4, none⟩) LT9).trans b4
          replace b5 := (hk1.cell (p := ⟨k6.heap.size, 5, none⟩) LT9).trans b5
          replace b6 := (hk1.cell (p := ⟨k6.heap.size, 6, none⟩) LT9).trans b6
          replace b7 := (hk1.cell (p := ⟨k6.heap.size, 7, none⟩) LT9).trans b7
          replace b8 := (hk1.cell (p := ⟨k6.heap.size, 8, none⟩) LT9).trans b8
          replace hR : Below k7.heap.size k7 k12 := hR.trans hk1
          replace hb : Below w.heap.size w k12 := hb.trans (hk1.mono (by first | exact hwR | exact hb.size))
          have lt0 : k6.heap.size < k12.heap.size := LT9
          clear hk1 hgw
          try dsimp only
          refine hK.out _ _ ?_ (fun hHeld => ?_)
          · exact ⟨b0, b1, b2, b3, b4, b5, b6, b7, b8, hR⟩
          clear hK K
          try simp only [Act.put, List.setIfInBounds_toArray, List.set_cons_zero, List.set_cons_succ]
          refine wpAnyH_ready (rs := [11]) (by kernel_rfl) (by simp) ?_
          refine AllReadyH.cons (o := { dst := some 11, op := Op.assign (Operand.tmp 56), type := 29, pos := "wide.go:27", after := #[{ on := 10, ground := Ground.data }, { on := 10, ground := Ground.chain }, { on := 0, ground := Ground.phase }, { on := 1, ground := Ground.phase }, { on := 2, ground := Ground.phase }, { on := 3, ground := Ground.phase }, { on := 4, ground := Ground.phase }, { on := 5, ground := Ground.phase }, { on := 6, ground := Ground.phase }, { on := 7, ground := Ground.phase }, { on := 8, ground := Ground.phase }, { on := 9, ground := Ground.phase }, { on := 10, ground := Ground.phase }], guard := none }) rfl (fun K hK => ?_) (AllReadyH.nil)
          go_simp
          refine hK.out _ _ ?_ (fun hHeld => ?_)
          · exact ⟨b0, b1, b2, b3, b4, b5, b6, b7, b8, hR⟩
          clear hK K
          try simp only [Act.put, List.setIfInBounds_toArray, List.set_cons_zero, List.set_cons_succ]
          refine wpAnyH_done (by kernel_rfl) ?_ _
          refine NoPanic.normal ?_
          replace HOm := Lib.hid (ownsRow_below HOm.out hR)
          replace HOn := Lib.hid (ownsRow_below HOn.out hR)
          replace HD := Lib.hid (Dc.below HD.out hR)
          replace HT1 := Lib.hid (Ops.more (Ops.keep HT1.out hR (Nat.le_refl _)) (Below.size hR))
          replace HT2 := Lib.hid (Ops.more (Ops.keep HT2.out hR (Nat.le_refl _)) (Below.size hR))
          clear HT1
          clear HT2
          go_wp2_with fail
          refine (lrapply_is 0 _ _ _ [] r m e1 _ (prs_nil _ _) (Nat.zero_le _) (Ops.of_own (ownsRow_below HOm.out BL9)) (Nat.le_refl _) gd_nil HOKm.out HR.out).mono ?_
          rintro e k13 ⟨Ar, cr, rfl, hp9, h⟩
          have hk : Below k12.heap.size k12 k13 := HK9 h
          have hz := h.size
          try simp at hz
          replace b0 : k13.cell? ⟨k6.heap.size, 0, none⟩ = some (.int .i64 3) := (hk.cell (p := ⟨k6.heap.size, 0, none⟩) LT9).trans b0
          replace b1 : k13.cell? ⟨k6.heap.size, 1, none⟩ = some (.string ⟨#[110, 111, 32, 115, 117, 99, 104, 32, 107, 101, 121]⟩) := (hk.cell (p := ⟨k6.heap.size, 1, none⟩) LT9).trans b1
          replace b2 : k13.cell? ⟨k6.heap.size, 2, none⟩ = some (.int .i64 1) := (hk.cell (p := ⟨k6.heap.size, 2, none⟩) LT9).trans b2
          replace b3 : k13.cell? ⟨k6.heap.size, 3, none⟩ = some (.int .i64 2) := (hk.cell (p := ⟨k6.heap.size, 3, none⟩) LT9).trans b3
          replace b4 : k13.cell? ⟨k6.heap.size, 4, none⟩ = some (.string ⟨#[]⟩) := (hk.cell (p := ⟨k6.heap.size, 4, none⟩) LT9).trans b4
          replace b5 : k13.cell? ⟨k6.heap.size, 5, none⟩ = some (.int .i64 1) := (hk.cell (p := ⟨k6.heap.size, 5, none⟩) LT9).trans b5
          replace b6 : k13.cell? ⟨k6.heap.size, 6, none⟩ = some (.int .i64 1) := (hk.cell (p := ⟨k6.heap.size, 6, none⟩) LT9).trans b6
          replace b7 : k13.cell? ⟨k6.heap.size, 7, none⟩ = some (.string ⟨#[]⟩) := (hk.cell (p := ⟨k6.heap.size, 7, none⟩) LT9).trans b7
          replace b8 : k13.cell? ⟨k6.heap.size, 8, none⟩ = some (.int .i64 0) := (hk.cell (p := ⟨k6.heap.size, 8, none⟩) LT9).trans b8
          have r0 : k13.cell? ⟨k12.heap.size, 0, none⟩ = some (.slice none 0 0) := (h.cell (p := ⟨k12.heap.size, 0, none⟩) LT9).trans (by go_simp)
          have rf : k13.frozen? ⟨k12.heap.size, 0, none⟩ = false := (h.frozen (p := ⟨k12.heap.size, 0, none⟩) LT9).trans (by go_simp)
          replace HOm := Lib.hid (ownsRow_below HOm.out hk)
          replace HOn := Lib.hid (ownsRow_below HOn.out hk)
          replace HD := Lib.hid (Dc.below HD.out hk)
          replace HW3 := Lib.hid (ownsRow_below HW3.out hk)
          replace hb : Below w.heap.size w k13 := hb.trans (hk.mono hb.size)
          have lt0 : k6.heap.size < k13.heap.size := LT9
          have lt1 : k12.heap.size < k13.heap.size := LT9
          have HBR := Lib.hid (Bx1.below (Bx1.new _ 28 (.slice none 0 0)) h)
          have HP := Lib.hid hp9; clear hp9
          clear h hk
          go_wp2_with fail
          obtain ⟨k14, hk14⟩ : ∃ x, k13.setCell ⟨k12.heap.size, 0, none⟩ (.slice Ar r.length cr) = x := ⟨_, rfl⟩
          replace HOm := Lib.hid (box_own (u := .slice Ar r.length cr) HOm.out HBR.out (by decide))
          rw [hk14] at HOm
          replace HOn := Lib.hid (box_own (u := .slice Ar r.length cr) HOn.out HBR.out (by decide))
          rw [hk14] at HOn
          replace HD := Lib.hid (box_doc (u := .slice Ar r.length cr) HD.out HBR.out (by decide) (by decide))
          rw [hk14] at HD
          replace HW3 := Lib.hid (box_own (u := .slice Ar r.length cr) HW3.out HBR.out (by decide))
          rw [hk14] at HW3
          replace HP := Lib.hid (box_prs (u := .slice Ar r.length cr) HP.out HBR.out)
          rw [hk14] at HP
          replace HBR := Lib.hid (Bx1.set HBR.out (.slice Ar r.length cr))
          rw [hk14] at HBR
          replace b0 : k14.cell? ⟨k6.heap.size, 0, none⟩ = some (.int .i64 3) := by rw [← hk14]; exact (World.cell?_setCell_other _ _ _ _ (fun e => by injection e with e; omega)).trans b0
          replace b1 : k14.cell? ⟨k6.heap.size, 1, none⟩ = some (.string ⟨#[110, 111, 32, 115, 117, 99, 104, 32, 107, 101, 121]⟩) := by rw [← hk14]; exact (World.cell?_setCell_other _ _ _ _ (fun e => by injection e with e; omega)).trans b1
          replace b2 : k14.cell? ⟨k6.heap.size, 2, none⟩ = some (.int .i64 1) := by rw [← hk14]; exact (World.cell?_setCell_other _ _ _ _ (fun e => by injection e with e; omega)).trans b2
          replace b3 : k14.cell? ⟨k6.heap.size, 3, none⟩ = some (.int .i64 2) := by rw [← hk14]; exact (World.cell?_setCell_other _ _ _ _ (fun e => by injection e with e; omega)).trans b3
          replace b4 : k14.cell? ⟨k6.heap.size, 4, none⟩ = some (.string ⟨#[]⟩) := by rw [← hk14]; exact (World.cell?_setCell_other _ _ _ _ (fun e => by injection e with e; omega)).trans b4
          replace b5 : k14.cell? ⟨k6.heap.size, 5, none⟩ = some (.int .i64 1) := by rw [← hk14]; exact (World.cell?_setCell_other _ _ _ _ (fun e => by injection e with e; omega)).trans b5
          replace b6 : k14.cell? ⟨k6.heap.size, 6, none⟩ = some (.int .i64 1) := by rw [← hk14]; exact (World.cell?_setCell_other _ _ _ _ (fun e => by injection e with e; omega)).trans b6
          replace b7 : k14.cell? ⟨k6.heap.size, 7, none⟩ = some (.string ⟨#[]⟩) := by rw [← hk14]; exact (World.cell?_setCell_other _ _ _ _ (fun e => by injection e with e; omega)).trans b7
          replace b8 : k14.cell? ⟨k6.heap.size, 8, none⟩ = some (.int .i64 0) := by rw [← hk14]; exact (World.cell?_setCell_other _ _ _ _ (fun e => by injection e with e; omega)).trans b8
          replace r0 : k14.cell? ⟨k12.heap.size, 0, none⟩ = some (.slice Ar r.length cr) := Bx1.cell HBR.out
          replace rf : k14.frozen? ⟨k12.heap.size, 0, none⟩ = false := Bx1.frz HBR.out
          have hzk14 : k14.heap.size = k13.heap.size := by rw [← hk14]; exact nblk_set _ _ _
          replace hb : Below w.heap.size w k14 := by
            rw [← hk14]
            exact hb.setCell (by first | omega | (simp; omega)) _
          rw [← hzk14] at HP
          rw [hk14]
          clear hk14
          have lt0 : k6.heap.size < k14.heap.size := LT9
          have lt1 : k12.heap.size < k14.heap.size := LT9
          refine (lrapply_is _ _ _ _ r r2 X e2 _ (Prs.keep HP.out BL9 (Nat.le_refl _)) (by first | exact Nat.le_refl _ | (simp; done) | (simp; omega) | omega) (Ops.of_own (ownsRow_below HW3.out BL9)) (Nat.le_refl _) hgr9 HXX.out HQ.out).mono ?_
          rintro e k15 ⟨Aq, cq, rfl, hq9, h⟩
          have hk : Below k14.heap.size k14 k15 := HK9 h
          have hz := h.size
          try simp at hz
          replace b0 : k15.cell? ⟨k6.heap.size, 0, none⟩ = some (.int .i64 3) := (hk.cell (p := ⟨k6.heap.size, 0, none⟩) LT9).trans b0
          replace b1 : k15.cell? ⟨k6.heap.size, 1, none⟩ = some (.string ⟨#[110, 111, 32, 115, 117, 99, 104, 32, 107, 101, 121]⟩) := (hk.cell (p := ⟨k6.heap.size, 1, none⟩) LT9).trans b1
          replace b2 : k15.cell? ⟨k6.heap.size, 2, none⟩ = some (.int .i64 1) := (hk.cell (p := ⟨k6.heap.size, 2, none⟩) LT9).trans b2
          replace b3 : k15.cell? ⟨k6.heap.size, 3, none⟩ = some (.int .i64 2) := (hk.cell (p := ⟨k6.heap.size, 3, none⟩) LT9).trans b3
          replace b4 : k15.cell? ⟨k6.heap.size, 4, none⟩ = some (.string ⟨#[]⟩) := (hk.cell (p := ⟨k6.heap.size, 4, none⟩) LT9).trans b4
          replace b5 : k15.cell? ⟨k6.heap.size, 5, none⟩ = some (.int .i64 1) := (hk.cell (p := ⟨k6.heap.size, 5, none⟩) LT9).trans b5
          replace b6 : k15.cell? ⟨k6.heap.size, 6, none⟩ = some (.int .i64 1) := (hk.cell (p := ⟨k6.heap.size, 6, none⟩) LT9).trans b6
          replace b7 : k15.cell? ⟨k6.heap.size, 7, none⟩ = some (.string ⟨#[]⟩) := (hk.cell (p := ⟨k6.heap.size, 7, none⟩) LT9).trans b7
          replace b8 : k15.cell? ⟨k6.heap.size, 8, none⟩ = some (.int .i64 0) := (hk.cell (p := ⟨k6.heap.size, 8, none⟩) LT9).trans b8
          replace r0 : k15.cell? ⟨k12.heap.size, 0, none⟩ = some (.slice Ar r.length cr) := (hk.cell (p := ⟨k12.heap.size, 0, none⟩) LT9).trans r0
          replace rf : k15.frozen? ⟨k12.heap.size, 0, none⟩ = false := (hk.frozen (p := ⟨k12.heap.size, 0, none⟩) LT9).trans rf
          replace HOm := Lib.hid (ownsRow_below HOm.out hk)
          replace HOn := Lib.hid (ownsRow_below HOn.out hk)
          replace HD := Lib.hid (Dc.below HD.out hk)
          replace HW3 := Lib.hid (ownsRow_below HW3.out hk)
          replace HBR := Lib.hid (Bx1.below HBR.out hk)
          replace HP := Lib.hid (Prs.more (Prs.keep HP.out hk (Nat.le_refl _)) (Below.size hk))
          replace hb : Below w.heap.size w k15 := hb.trans (hk.mono hb.size)
          have lt0 : k6.heap.size < k15.heap.size := LT9
          have lt1 : k12.heap.size < k15.heap.size := LT9
          clear h hk
          clear hq9
          go_wp2_with fail
          refine (lapply_is w.heap.size _ _ _ r r2 X e2 _ (Dc.below HD.out BL9) (Ops.of_own (ownsRow_below HW3.out BL9)) (Nat.le_refl _) HXX.out HQ.out).mono ?_
          rintro e k16 ⟨rfl, hd9, hgr⟩
          have hz9 := hgr.size
          have hbe : Below k15.heap.size k15 _ := Below.refl _ _
          clear hbe
          try simp at hz9
          replace hb : Below w.heap.size w k16 := Dc.frame (w0 := w) (hb := hgr) (h := Dc.below HD.out BL9) (h0 := (BB9 hb)) (hB := by have := hb.size; first | omega | (simp; omega))
          replace HOm := Lib.hid (ownsRow_grown (hb := hgr) (h := ownsRow_below HOm.out BL9) (hd := Dc.below HD.out BL9) (hne := by decide))
          replace HOn := Lib.hid (ownsRow_grown (hb := hgr) (h := ownsRow_below HOn.out BL9) (hd := Dc.below HD.out BL9) (hne := by decide))
          replace HW3 := Lib.hid (ownsRow_grown (hb := hgr) (h := ownsRow_below HW3.out BL9) (hd := Dc.below HD.out BL9) (hne := by decide))
          replace HBR := Lib.hid (Bx1.grown (hb := hgr) (h := Bx1.below HBR.out BL9) (hd := Dc.below HD.out BL9) (ht := by decide))
          replace HP := Lib.hid (Prs.more (prs_grown (hb := hgr) (h := Prs.keep HP.out BL9 (Nat.le_refl _)) (hd := Dc.below HD.out BL9)) (Nat.le_trans LT9 hgr.size))
          have b0N : k16.cell? ⟨k6.heap.size, 0, none⟩ = some (.int .i64 3) := (hgr.cell_far ⟨k6.heap.size, 0, none⟩ LT9 (fun e => by injection e with e; simp only at e; omega)).trans (by go_simp)
          clear b0
          have b0 := b0N; clear b0N
          have b1N : k16.cell? ⟨k6.heap.size, 1, none⟩ = some (.string ⟨#[110, 111, 32, 115, 117, 99, 104, 32, 107, 101, 121]⟩) := (hgr.cell_far ⟨k6.heap.size, 1, none⟩ LT9 (fun e => by injection e with e; simp only at e; omega)).trans (by go_simp)
          clear b1
          have b1 := b1N; clear b1N
          have b2N : k16.cell? ⟨k6.heap.size, 2, none⟩ = some (.int .i64 1) := (hgr.cell_far ⟨k6.heap.size, 2, none⟩ LT9 (fun e => by injection e with e; simp only at e; omega)).trans (by go_simp)
          clear b2
          have b2 := b2N; clear b2N
          have b3N : k16.cell? ⟨k6.heap.size, 3, none⟩ = some (.int .i64 2) := (hgr.cell_far ⟨k6.heap.size, 3, none⟩ LT9 (fun e => by injection e with e; simp only at e; omega)).trans (by go_simp)
          clear b3
          have b3 := b3N; clear b3N
          have b4N : k16.cell? ⟨k6.heap.size, 4, none⟩ = some (.string ⟨#[]⟩) := (hgr.cell_far ⟨k6.heap.size, 4, none⟩ LT9 (fun e => by injection e with e; simp only at e; omega)).trans (by go_simp)
          clear b4
          have b4 := b4N; clear b4N
          have b5N : k16.cell? ⟨k6.heap.size, 5, none⟩ = some (.int .i64 1) := (hgr.cell_far ⟨k6.heap.size, 5, none⟩ LT9 (fun e => by injection e with e; simp only at e; omega)).trans (by go_simp)
          clear b5
          have b5 := b5N; clear b5N
          have b6N : k16.cell? ⟨k6.heap.size, 6, none⟩ = some (.int .i64 1) := (hgr.cell_far ⟨k6.heap.size, 6, none⟩ LT9 (fun e => by injection e with e; simp only at e; omega)).trans (by go_simp)
          clear b6
          have b6 := b6N; clear b6N
          have b7N : k16.cell? ⟨k6.heap.size, 7, none⟩ = some (.string ⟨#[]⟩) := (hgr.cell_far ⟨k6.heap.size, 7, none⟩ LT9 (fun e => by injection e with e; simp only at e; omega)).trans (by go_simp)
          clear b7
          have b7 := b7N; clear b7N
          have b8N : k16.cell? ⟨k6.heap.size, 8, none⟩ = some (.int .i64 0) := (hgr.cell_far ⟨k6.heap.size, 8, none⟩ LT9 (fun e => by injection e with e; simp only at e; omega)).trans (by go_simp)
          clear b8
          have b8 := b8N; clear b8N
          have r0N : k16.cell? ⟨k12.heap.size, 0, none⟩ = some (.slice Ar r.length cr) := (hgr.cell_far ⟨k12.heap.size, 0, none⟩ LT9 (fun e => by injection e with e; simp only at e; omega)).trans (by go_simp)
          clear r0
          have r0 := r0N; clear r0N
          have rfN : k16.frozen? ⟨k12.heap.size, 0, none⟩ = false := (hgr.frozen_far ⟨k12.heap.size, 0, none⟩ LT9 (fun e => by injection e with e; simp only at e; omega)).trans (by go_simp)
          clear rf
          have rf := rfN; clear rfN
          replace HD := Lib.hid hd9
          clear hd9
          have lt0 : k6.heap.size < k16.heap.size := LT9
          have lt1 : k12.heap.size < k16.heap.size := LT9
          clear hgr
          have hee : ((e2 : Int) == (e2 : Int)) = true := by simp
          by_cases he0 : e2 = 0
          · have he1 : ((e2 : Int) == 0) = true := by simp [he0]
            have he2 : (e2 : Int) = 0 := by omega
            go_wp2
            go_ret
            exact ⟨by first | rfl | simp, hb⟩
          · have he1 : ((e2 : Int) == 0) = false := by rw [beq_eq_false_iff_ne]; omega
            have he2 : ¬ ((e2 : Int) = 0) := by omega
            rw [HSAME.out he0] at HD
            go_wp2_with fail
            refine (lenc_is w.heap.size _ r L _ (Dc.below HD.out BL9) HL.out).mono ?_
            rintro e k17 ⟨gd2, cd2, rfl, hE, h⟩
            have hk : Below k16.heap.size k16 k17 := HK9 h
            have hz := h.size
            try simp at hz
            replace b0 : k17.cell? ⟨k6.heap.size, 0, none⟩ = some (.int .i64 3) := (hk.cell (p := ⟨k6.heap.size, 0, none⟩) LT9).trans b0
            replace b1 : k17.cell? ⟨k6.heap.size, 1, none⟩ = some (.string ⟨#[110, 111, 32, 115, 117, 99, 104, 32, 107, 101, 121]⟩) := (hk.cell (p := ⟨k6.heap.size, 1, none⟩) LT9).trans b1
            replace b2 : k17.cell? ⟨k6.heap.size, 2, none⟩ = some (.int .i64 1) := (hk.cell (p := ⟨k6.heap.size, 2, none⟩) LT9).trans b2
            replace b3 : k17.cell? ⟨k6.heap.size, 3, none⟩ = some (.int .i64 2) := (hk.cell (p := ⟨k6.heap.size, 3, none⟩) LT9).trans b3
            replace b4 : k17.cell? ⟨k6.heap.size, 4, none⟩ = some (.string ⟨#[]⟩) := (hk.cell (p := ⟨k6.heap.size, 4, none⟩) LT9).trans b4
            replace b5 : k17.cell? ⟨k6.heap.size, 5, none⟩ = some (.int .i64 1) := (hk.cell (p := ⟨k6.heap.size, 5, none⟩) LT9).trans b5
            replace b6 : k17.cell? ⟨k6.heap.size, 6, none⟩ = some (.int .i64 1) := (hk.cell (p := ⟨k6.heap.size, 6, none⟩) LT9).trans b6
            replace b7 : k17.cell? ⟨k6.heap.size, 7, none⟩ = some (.string ⟨#[]⟩) := (hk.cell (p := ⟨k6.heap.size, 7, none⟩) LT9).trans b7
            replace b8 : k17.cell? ⟨k6.heap.size, 8, none⟩ = some (.int .i64 0) := (hk.cell (p := ⟨k6.heap.size, 8, none⟩) LT9).trans b8
            replace r0 : k17.cell? ⟨k12.heap.size, 0, none⟩ = some (.slice Ar r.length cr) := (hk.cell (p := ⟨k12.heap.size, 0, none⟩) LT9).trans r0
            replace rf : k17.frozen? ⟨k12.heap.size, 0, none⟩ = false := (hk.frozen (p := ⟨k12.heap.size, 0, none⟩) LT9).trans rf
            replace HOm := Lib.hid (ownsRow_below HOm.out hk)
            replace HOn := Lib.hid (ownsRow_below HOn.out hk)
            replace HD := Lib.hid (Dc.below HD.out hk)
            replace HW3 := Lib.hid (ownsRow_below HW3.out hk)
            replace HBR := Lib.hid (Bx1.below HBR.out hk)
            replace HP := Lib.hid (Prs.more (Prs.keep HP.out hk (Nat.le_refl _)) (Below.size hk))
            replace hb : Below w.heap.size w k17 := hb.trans (hk.mono hb.size)
            have lt0 : k6.heap.size < k17.heap.size := LT9
            have lt1 : k12.heap.size < k17.heap.size := LT9
            clear h hk
            have hcv2 := conv6 (Byt.of_own hE) HS.out
            clear hE
            go_wp2
            go_ret
            exact ⟨by first | rfl | simp, hb⟩
    · have h2 : a2 < 0 ∨ (0 ≤ a2 ∧ 7 < a2) := by omega
      rcases h2 with h2 | ⟨h2, h3⟩
      all_goals
        go_wp2
        go_ret
        exact ⟨rfl, hb⟩
  · have h7i : ¬ (7 : Int) < (n.length : Int) := by omega
    by_cases hat : 0 ≤ a2 ∧ a2 ≤ n.length
    · obtain ⟨t, rfl⟩ : ∃ t : Nat, a2 = (t : Int) := ⟨a2.toNat, by omega⟩
      obtain ⟨hat0, hat1⟩ := hat
      have htn : t ≤ n.length := by omega
      rcases own_cases HOn.out with ⟨rfl, h0, rfl⟩ | ⟨ga, rfl, hnc⟩
      · obtain rfl : n = [] := List.eq_nil_of_length_eq_zero h0
        simp only [List.length_nil] at *
        have ht0 : t = 0 := by omega
        subst ht0
        obtain ⟨T1, hT1⟩ : ∃ T : List Opn, T = [] := ⟨[], rfl⟩
        obtain ⟨T2, hT2⟩ : ∃ T : List Opn, T = [] := ⟨[], rfl⟩
        have hT1l : T1.length = 0 := by rw [hT1]; rfl
        have hT2l : T2.length = 0 := by rw [hT2]; rfl
        have hT1o : ∀ x ∈ T1, x.ok := fun x hx => by rw [hT1] at hx; cases hx
        have hT2o : ∀ x ∈ T2, x.ok := fun x hx => by rw [hT2] at hx; cases hx
        have HT1 := Lib.hid (show Ops k6 k6.heap.size (.slice none 0 0) T1 by rw [hT1]; exact ops_none _ _ _ _)
        have HT2 := Lib.hid (show Ops k6 k6.heap.size (.slice none 0 0) T2 by rw [hT2]; exact ops_none _ _ _ _)
        clear hT1 hT2
        have hXX : ∀ x ∈ T1 ++ [badO] ++ T2, x.ok := fun x hx => by
          simp only [List.mem_append, List.mem_singleton] at hx
          rcases hx with (hx | rfl) | hx
          · exact hT1o x hx
          · exact badO_ok
          · exact hT2o x hx
        obtain ⟨X, hX⟩ : ∃ X, T1 ++ [badO] ++ T2 = X := ⟨_, rfl⟩
        rw [hX] at hXX
        have HX := Lib.hid hX; clear hX
        have HXX := Lib.hid hXX; clear hXX hT1o hT2o
        have HT1L := Lib.hid hT1l; clear hT1l
        have hT2u : T2.length ≤ 20 := by omega
        have HT2L := Lib.hid hT2u; clear hT2l hT2u
        obtain ⟨⟨r2, e2⟩, hq⟩ : ∃ x, dApply r X = x := ⟨_, rfl⟩
        have hgr2 : Gd r2 := by have := hgr9.apply HXX.out; rw [hq] at this; exact this
        have hsame : e2 ≠ 0 → r2 = r := fun h => by have := dApply_err (l := r) (os := X) (by rw [hq]; exact h); rw [hq] at this; exact this
        have HQ := Lib.hid hq; clear hq
        have HSAME := Lib.hid hsame; clear hsame
        go_wp2_with fail
        refine wp_world (fun W => W.cell? ⟨k6.heap.size, 0, none⟩ = some (.int .i64 3) ∧ W.cell? ⟨k6.heap.size, 1, none⟩ = some (.string ⟨#[110, 111, 32, 115, 117, 99, 104, 32, 107, 101, 121]⟩) ∧ W.cell? ⟨k6.heap.size, 2, none⟩ = some (.int .i64 1) ∧ W.cell? ⟨k6.heap.size, 3, none⟩ = some (.int .i64 2) ∧ W.cell? ⟨k6.heap.size, 4, none⟩ = some (.string ⟨#[]⟩) ∧ W.cell? ⟨k6.heap.size, 5, none⟩ = some (.int .i64 1) ∧ W.cell? ⟨k6.heap.size, 6, none⟩ = some (.int .i64 1) ∧ W.cell? ⟨k6.heap.size, 7, none⟩ = some (.string ⟨#[]⟩) ∧ W.cell? ⟨k6.heap.size, 8, none⟩ = some (.int .i64 0) ∧ Below (k6.heap.size) k6 W ∧ k6.heap.size + 1 ≤ W.heap.size) ⟨(by go_simp), (by go_simp), (by go_simp), (by go_simp), (by go_simp), (by go_simp), (by go_simp), (by go_simp), (by go_simp), BL9, LT9⟩ ?_
        rintro k7 ⟨b0, b1, b2, b3, b4, b5, b6, b7, b8, hk, hz⟩
        replace HOm := Lib.hid (ownsRow_below HOm.out hk)
        replace HOn := Lib.hid (ownsRow_below HOn.out hk)
        replace HD := Lib.hid (Dc.below HD.out hk)
        replace HT1 := Lib.hid (Ops.more (Ops.keep HT1.out hk (Nat.le_refl _)) (Below.size hk))
        replace HT2 := Lib.hid (Ops.more (Ops.keep HT2.out hk (Nat.le_refl _)) (Below.size hk))
        replace hb : Below w.heap.size w k7 := hb.trans (hk.mono (by first | exact hb.size | omega | (simp; omega)))
        have lt0 : k6.heap.size < k7.heap.size := LT9
        clear hk
        have hwR : w.heap.size ≤ k7.heap.size := hb.size
        have hbR := hb
        replace b0 : k7.drew.cell? ⟨k6.heap.size, 0, none⟩ = some (.int .i64 3) := b0
        replace b1 : k7.drew.cell? ⟨k6.heap.size, 1, none⟩ = some (.string ⟨#[110, 111, 32, 115, 117, 99, 104, 32, 107, 101, 121]⟩) := b1
        replace b2 : k7.drew.cell? ⟨k6.heap.size, 2, none⟩ = some (.int .i64 1) := b2
        replace b3 : k7.drew.cell? ⟨k6.heap.size, 3, none⟩ = some (.int .i64 2) := b3
        replace b4 : k7.drew.cell? ⟨k6.heap.size, 4, none⟩ = some (.string ⟨#[]⟩) := b4
        replace b5 : k7.drew.cell? ⟨k6.heap.size, 5, none⟩ = some (.int .i64 1) := b5
        replace b6 : k7.drew.cell? ⟨k6.heap.size, 6, none⟩ = some (.int .i64 1) := b6
        replace b7 : k7.drew.cell? ⟨k6.heap.size, 7, none⟩ = some (.string ⟨#[]⟩) := b7
        replace b8 : k7.drew.cell? ⟨k6.heap.size, 8, none⟩ = some (.int .i64 0) := b8
        have hR : Below k7.heap.size k7 k7.drew := (Below.refl k7.heap.size k7).drew
        refine wp_region_noPanic ?_
        refine wp_region_held_drew (S := fun W => W.cell? ⟨k6.heap.size, 0, none⟩ = some (.int .i64 3) ∧ W.cell? ⟨k6.heap.size, 1, none⟩ = some (.string ⟨#[110, 111, 32, 115, 117, 99, 104, 32, 107, 101, 121]⟩) ∧ W.cell? ⟨k6.heap.size, 2, none⟩ = some (.int .i64 1) ∧ W.cell? ⟨k6.heap.size, 3, none⟩ = some (.int .i64 2) ∧ W.cell? ⟨k6.heap.size, 4, none⟩ = some (.string ⟨#[]⟩) ∧ W.cell? ⟨k6.heap.size, 5, none⟩ = some (.int .i64 1) ∧ W.cell? ⟨k6.heap.size, 6, none⟩ = some (.int .i64 1) ∧ W.cell? ⟨k6.heap.size, 7, none⟩ = some (.string ⟨#[]⟩) ∧ W.cell? ⟨k6.heap.size, 8, none⟩ = some (.int .i64 0) ∧ Below k7.heap.size k7 W) (by kernel_rfl) ?_ (fun hHeld => ?_)
        · exact ⟨b0, b1, b2, b3, b4, b5, b6, b7, b8, hR⟩
        replace hb : Below w.heap.size w k7.drew := hb.drew
        replace lt0 : k6.heap.size < k7.drew.heap.size := lt0
        have hzd : k7.heap.size ≤ k7.drew.heap.size := Nat.le_refl _
        generalize k7.drew = k8 at *
        refine wpAnyH_take (i := 0) (oi := { dst := some 46, op := Op.move (Operand.tmp 1), type := 29, pos := "wide.go:27", after := #[], guard := none }) (v := .slice none 0 0) rfl (by kernel_rfl) (by kernel_rfl) (by kernel_rfl) (fun _ _ _ h => h) (Or.inl ⟨by rfl, fun w hSw => ?_⟩) (by assumption) ?_
        · (try dsimp only at hSw)
          go_simp
        try simp only [Act.put, List.setIfInBounds_toArray, List.set_cons_zero, List.set_cons_succ]
        refine wpAnyH_take (i := 1) (oi := { dst := some 47, op := Op.move (Operand.tmp 2), type := 3, pos := "wide.go:27", after := #[], guard := none }) (v := .int .i64 0) rfl (by kernel_rfl) (by kernel_rfl) (by kernel_rfl) (fun _ _ _ h => h) (Or.inl ⟨by rfl, fun w hSw => ?_⟩) (by assumption) ?_
        · (try dsimp only at hSw)
          go_simp
        try simp only [Act.put, List.setIfInBounds_toArray, List.set_cons_zero, List.set_cons_succ]
        refine wpAnyH_take (i := 2) (oi := { dst := some 48, op := Op.slice 29 (Operand.tmp 46) none (some (Operand.tmp 47)) none, type := 29, pos := "wide.go:27", after := #[{ on := 0, ground := Ground.data }, { on := 1, ground := Ground.data }], guard := none }) (v := .slice none 0 0) rfl (by kernel_rfl) (by kernel_rfl) (by kernel_rfl) (fun _ _ _ h => h) (Or.inl ⟨by rfl, fun w hSw => ?_⟩) (by assumption) ?_
        · (try dsimp only at hSw)
          go_simp
        try simp only [Act.put, List.setIfInBounds_toArray, List.set_cons_zero, List.set_cons_succ]
        refine wpAnyH_take (i := 4) (oi := { dst := some 50, op := Op.load 49 (Operand.tmp 10), type := 49, pos := "wide.go:27", after := #[], guard := none }) (v := .agg #[.int .i64 3, .string ⟨#[110, 111, 32, 115, 117, 99, 104, 32, 107, 101, 121]⟩, .int .i64 1, .int .i64 2, .string ⟨#[]⟩, .int .i64 1, .int .i64 1, .string ⟨#[]⟩, .int .i64 0]) rfl (by kernel_rfl) (by kernel_rfl) (by kernel_rfl) (fun _ _ _ h => h) (Or.inl ⟨by rfl, fun w hSw => ?_⟩) (by assumption) ?_
        · (try dsimp only at hSw)
          go_simp
        try simp only [Act.put, List.setIfInBounds_toArray, List.set_cons_zero, List.set_cons_succ]
        refine wpAnyH_take (i := 7) (oi := { dst := some 53, op := Op.move (Operand.tmp 1), type := 29, pos := "wide.go:27", after := #[], guard := none }) (v := .slice none 0 0) rfl (by kernel_rfl) (by kernel_rfl) (by kernel_rfl) (fun _ _ _ h => h) (Or.inl ⟨by rfl, fun w hSw => ?_⟩) (by assumption) ?_
        · (try dsimp only at hSw)
          go_simp
        try simp only [Act.put, List.setIfInBounds_toArray, List.set_cons_zero, List.set_cons_succ]
        refine wpAnyH_take (i := 8) (oi := { dst := some 54, op := Op.move (Operand.tmp 2), type := 3, pos := "wide.go:27", after := #[], guard := none }) (v := .int .i64 0) rfl (by kernel_rfl) (by kernel_rfl) (by kernel_rfl) (fun _ _ _ h => h) (Or.inl ⟨by rfl, fun w hSw => ?_⟩) (by assumption) ?_
        · (try dsimp only at hSw)
          go_simp
        try simp only [Act.put, List.setIfInBounds_toArray, List.set_cons_zero, List.set_cons_succ]
        refine wpAnyH_take (i := 9) (oi := { dst := some 55, op := Op.slice 29 (Operand.tmp 53) (some (Operand.tmp 54)) none none, type := 29, pos := "wide.go:27", after := #[{ on := 7, ground := Ground.data }, { on := 8, ground := Ground.data }], guard := none }) (v := .slice none 0 0) rfl (by kernel_rfl) (by kernel_rfl) (by kernel_rfl) (fun _ _ _ h => h) (Or.inl ⟨by rfl, fun w hSw => ?_⟩) (by assumption) ?_
        · (try dsimp only at hSw)
          go_simp
        try simp only [Act.put, List.setIfInBounds_toArray, List.set_cons_zero, List.set_cons_succ]
        refine wpAnyH_ready (rs := [3, 5]) (by kernel_rfl) (by simp) ?_
        refine AllReadyH.cons (o := { dst := some 49, op := Op.call { callee := Callee.builtin Builtin.append, args := #[Operand.const (Value.slice none 0 0), Operand.tmp 48], argTypes := #[29, 29] }, type := 29, pos := "wide.go:27", after := #[{ on := 2, ground := Ground.data }], guard := none }) rfl (fun K hK => ?_) (AllReadyH.cons (o := { dst := some 51, op := Op.buildSlice 29 1 #[(0, Operand.tmp 50)], type := 29, pos := "wide.go:27", after := #[{ on := 4, ground := Ground.data }], guard := none }) rfl (fun K hK => ?_) (AllReadyH.nil))
        · rw [if_pos (by rfl)]
          refine wp_append_ops _ _ rfl k8.heap.size _ (.slice none 0 0) _ [] T1 rfl (World.ownsRow_nil _ _ _ _) rfl (HT1.out.keep hR (Nat.le_refl _)) (by have := HT1L.out; simp; omega) (Nat.le_refl _) ?_
          intro v1 k9 ho1 hk1 hgw
          have hRs := hR.size
          rw [List.nil_append] at ho1
          obtain ⟨A1, c1, hv1⟩ := own_slice ho1
          rw [HT1L.out] at hv1
          subst hv1
          have hz1 := hk1.size
          have HW1 := Lib.hid (ownsRow_down (B := k7.heap.size) ho1 hRs); clear ho1 hRs
          replace b0 := (hk1.cell (p := ⟨k6.heap.size, 0, none⟩) LT9).trans b0
          replace b1 := (hk1.cell (p := ⟨k6.heap.size, 1, none⟩) LT9).trans b1
          replace b2 := (hk1.cell (p := ⟨k6.heap.size, 2, none⟩) LT9).trans b2
          replace b3 := (hk1.cell (p := ⟨k6.heap.size, 3, none⟩) LT9).trans b3
          replace b4 := (hk1.cell (p := ⟨k6.heap.size, 4, none⟩) LT9).trans b4
          replace b5 := (hk1.cell (p := ⟨k6.heap.size, 5, none⟩) LT9).trans b5
          replace b6 := (hk1.cell (p := ⟨k6.heap.size, 6, none⟩) LT9).trans b6
          replace b7 := (hk1.cell (p := ⟨k6.heap.size, 7, none⟩) LT9).trans b7
          replace b8 := (hk1.cell (p := ⟨k6.heap.size, 8, none⟩) LT9).trans b8
          replace hR : Below k7.heap.size k7 k9 := hR.trans (hk1.mono hR.size)
          replace hb : Below w.heap.size w k9 := hb.trans (hk1.mono (by first | exact hwR | exact hb.size))
          have lt0 : k6.heap.size < k9.heap.size := LT9
          clear hk1 hgw
          try dsimp only
          refine hK.out _ _ ?_ (fun hHeld => ?_)
          · exact ⟨b0, b1, b2, b3, b4, b5, b6, b7, b8, hR⟩
          clear hK K
          try simp only [Act.put, List.setIfInBounds_toArray, List.set_cons_zero, List.set_cons_succ]
          refine wpAnyH_ready (rs := [5]) (by kernel_rfl) (by simp) ?_
          refine AllReadyH.cons (o := { dst := some 51, op := Op.buildSlice 29 1 #[(0, Operand.tmp 50)], type := 29, pos := "wide.go:27", after := #[{ on := 4, ground := Ground.data }], guard := none }) rfl (fun K hK => ?_) (AllReadyH.nil)
          go_simp
          have hop := ops_new k9 _ [badO] rfl
          have hk1 := below_one k9 (.cells #[.int .i64 3, .string ⟨#[110, 111, 32, 115, 117, 99, 104, 32, 107, 101, 121]⟩, .int .i64 1, .int .i64 2, .string ⟨#[]⟩, .int .i64 1, .int .i64 1, .string ⟨#[]⟩, .int .i64 0] 49)
          have hz1 : k9.heap.size + 1 = (k9.alloc (.cells #[.int .i64 3, .string ⟨#[110, 111, 32, 115, 117, 99, 104, 32, 107, 101, 121]⟩, .int .i64 1, .int .i64 2, .string ⟨#[]⟩, .int .i64 1, .int .i64 1, .string ⟨#[]⟩, .int .i64 0] 49)).heap.size := by simp
          have hop2 : Ops (k9.alloc (.cells #[.int .i64 3, .string ⟨#[110, 111, 32, 115, 117, 99, 104, 32, 107, 101, 121]⟩, .int .i64 1, .int .i64 2, .string ⟨#[]⟩, .int .i64 1, .int .i64 1, .string ⟨#[]⟩, .int .i64 0] 49)) (k9.heap.size + 1) (.slice (some ⟨k9.heap.size, 0, none⟩) 1 1) [badO] := hop
          clear hop
          obtain ⟨GD, hGD⟩ : ∃ G, k9.heap.size = G := ⟨_, rfl⟩
          obtain ⟨k10, hk9⟩ : ∃ x, k9.alloc (.cells #[.int .i64 3, .string ⟨#[110, 111, 32, 115, 117, 99, 104, 32, 107, 101, 121]⟩, .int .i64 1, .int .i64 2, .string ⟨#[]⟩, .int .i64 1, .int .i64 1, .string ⟨#[]⟩, .int .i64 0] 49) = x := ⟨_, rfl⟩
          rw [hk9] at hop2 hk1 hz1 ⊢
          clear hk9
          have HBD := Lib.hid (Ops.more hop2 (Nat.le_of_eq hz1)); clear hop2
          have hbd9 : GD < k10.heap.size := by omega
          rw [hGD] at HBD ⊢
          replace b0 := (hk1.cell (p := ⟨k6.heap.size, 0, none⟩) LT9).trans b0
          replace b1 := (hk1.cell (p := ⟨k6.heap.size, 1, none⟩) LT9).trans b1
          replace b2 := (hk1.cell (p := ⟨k6.heap.size, 2, none⟩) LT9).trans b2
          replace b3 := (hk1.cell (p := ⟨k6.heap.size, 3, none⟩) LT9).trans b3
          replace b4 := (hk1.cell (p := ⟨k6.heap.size, 4, none⟩) LT9).trans b4
          replace b5 := (hk1.cell (p := ⟨k6.heap.size, 5, none⟩) LT9).trans b5
          replace b6 := (hk1.cell (p := ⟨k6.heap.size, 6, none⟩) LT9).trans b6
          replace b7 := (hk1.cell (p := ⟨k6.heap.size, 7, none⟩) LT9).trans b7
          replace b8 := (hk1.cell (p := ⟨k6.heap.size, 8, none⟩) LT9).trans b8
          replace HW1 := Lib.hid (ownsRow_below HW1.out hk1)
          replace hR : Below k7.heap.size k7 k10 := hR.trans (hk1.mono hR.size)
          replace hb : Below w.heap.size w k10 := hb.trans (hk1.mono (by first | exact hwR | exact hb.size))
          have lt0 : k6.heap.size < k10.heap.size := LT9
          clear hk1
          try dsimp only
          refine hK.out _ _ ?_ (fun hHeld => ?_)
          · exact ⟨b0, b1, b2, b3, b4, b5, b6, b7, b8, hR⟩
          clear hK K
          try simp only [Act.put, List.setIfInBounds_toArray, List.set_cons_zero, List.set_cons_succ]
          refine wpAnyH_ready (rs := [6]) (by kernel_rfl) (by simp) ?_
          refine AllReadyH.cons (o := { dst := some 52, op := Op.call { callee := Callee.builtin Builtin.append, args := #[Operand.tmp 49, Operand.tmp 51], argTypes := #[29, 29] }, type := 29, pos := "wide.go:27", after := #[{ on := 3, ground := Ground.data }, { on := 5, ground := Ground.data }, { on := 3, ground := Ground.chain }], guard := none }) rfl (fun K hK => ?_) (AllReadyH.nil)
          rw [if_pos (by rfl)]
          refine wp_append_ops _ _ rfl k7.heap.size _ (.slice A1 0 c1) _ T1 [badO] rfl HW1.out rfl HBD.out (by have := HT1L.out; simp; omega) hR.size ?_
          intro v1 k11 ho1 hk1 hgw
          obtain ⟨A2, c2, hv1⟩ := own_slice ho1
          have hl2 : (T1 ++ [badO]).length = 1 := by rw [List.length_append, HT1L.out]; rfl
          rw [hl2] at hv1
          subst hv1
          have HL2 := Lib.hid hl2; clear hl2
          have hz1 := hk1.size
          have HW2 := Lib.hid ho1; clear ho1 HW1 HBD
          replace b0 := (hk1.cell (p := ⟨k6.heap.size, 0, none⟩) LT9).trans b0
          replace b1 := (hk1.cell (p := ⟨k6.heap.size, 1, none⟩) LT9).trans b1
          replace b2 := (hk1.cell (p := ⟨k6.heap.size, 2, none⟩) LT9).trans b2
          replace b3 := (hk1.cell (p := ⟨k6.heap.size, 3, none⟩) LT9).trans b3
          replace b4 := (hk1.cell (p := ⟨k6.heap.size, 4, none⟩) LT9).trans b4
          replace b5 := (hk1.cell (p := ⟨k6.heap.size, 5, none⟩) LT9).trans b5
          replace b6 := (hk1.cell (p := ⟨k6.heap.size, 6, none⟩) LT9).trans b6
          replace b7 := (hk1.cell (p := ⟨k6.heap.size, 7, none⟩) LT9).trans b7
          replace b8 := (hk1.cell (p := ⟨k6.heap.size, 8, none⟩) LT9).trans b8
          replace hR : Below k7.heap.size k7 k11 := hR.trans hk1
          replace hb : Below w.heap.size w k11 := hb.trans (hk1.mono (by first | exact hwR | exact hb.size))
          have lt0 : k6.heap.size < k11.heap.size := LT9
          clear hk1 hgw
          try dsimp only
          refine hK.out _ _ ?_ (fun hHeld => ?_)
          · exact ⟨b0, b1, b2, b3, b4, b5, b6, b7, b8, hR⟩
          clear hK K
          try simp only [Act.put, List.setIfInBounds_toArray, List.set_cons_zero, List.set_cons_succ]
          refine wpAnyH_ready (rs := [10]) (by kernel_rfl) (by simp) ?_
          refine AllReadyH.cons (o := { dst := some 56, op := Op.call { callee := Callee.builtin Builtin.append, args := #[Operand.tmp 52, Operand.tmp 55], argTypes := #[29, 29] }, type := 29, pos := "wide.go:27", after := #[{ on := 6, ground := Ground.data }, { on := 9, ground := Ground.data }, { on := 6, ground := Ground.chain }], guard := none }) rfl (fun K hK => ?_) (AllReadyH.nil)
          rw [if_pos (by rfl)]
          refine wp_append_ops _ _ rfl k7.heap.size _ (.slice A2 1 c2) _ (T1 ++ [badO]) T2 rfl HW2.out rfl (HT2.out.keep hR (Nat.le_refl _)) (by have := HL2.out; have := HT2L.out; omega) hR.size ?_
          intro v1 k12 ho1 hk1 hgw
          rw [HX.out] at ho1
          obtain ⟨Ax, cx, rfl⟩ := own_slice ho1
          have hz1 := hk1.size
          have HW3 := Lib.hid ho1; clear ho1 HW2
          replace b0 := (hk1.cell (p := ⟨k6.heap.size, 0, none⟩) LT9).trans b0
          replace b1 := (hk1.cell (p := ⟨k6.heap.size, 1, none⟩) LT9).trans b1
          replace b2 := (hk1.cell (p := ⟨k6.heap.size, 2, none⟩) LT9).trans b2
          replace b3 := (hk1.cell (p := ⟨k6.heap.size, 3, none⟩) LT9).trans b3
          replace b4 := (hk1.cell (p := ⟨k6.heap.size, 4, none⟩) LT9).trans b4
          replace b5 := (hk1.cell (p := ⟨k6.heap.size, 5, none⟩) LT9).trans b5
          replace b6 := (hk1.cell (p := ⟨k6.heap.size, 6, none⟩) LT9).trans b6
          replace b7 := (hk1.cell (p := ⟨k6.heap.size, 7, none⟩) LT9).trans b7
          replace b8 := (hk1.cell (p := ⟨k6.heap.size, 8, none⟩) LT9).trans b8
          replace hR : Below k7.heap.size k7 k12 := hR.trans hk1
          replace hb : Below w.heap.size w k12 := hb.trans (hk1.mono (by first | exact hwR | exact hb.size))
          have lt0 : k6.heap.size < k12.heap.size := LT9
          clear hk1 hgw
          try dsimp only
          refine hK.out _ _ ?_ (fun hHeld => ?_)
          · exact ⟨b0, b1, b2, b3, b4, b5, b6, b7, b8, hR⟩
          clear hK K
          try simp only [Act.put, List.setIfInBounds_toArray, List.set_cons_zero, List.set_cons_succ]
          refine wpAnyH_ready (rs := [11]) (by kernel_rfl) (by simp) ?_
          refine AllReadyH.cons (o := { dst := some 11, op := Op.assign (Operand.tmp 56), type := 29, pos := "wide.go:27", after := #[{ on := 10, ground := Ground.data }, { on := 10, ground := Ground.chain }, { on := 0, ground := Ground.phase }, { on := 1, ground := Ground.phase }, { on := 2, ground := Ground.phase }, { on := 3, ground := Ground.phase }, { on := 4, ground := Ground.phase }, { on := 5, ground := Ground.phase }, { on := 6, ground := Ground.phase }, { on := 7, ground := Ground.phase }, { on := 8, ground := Ground.phase }, { on := 9, ground := Ground.phase }, { on := 10, ground := Ground.phase }], guard := none }) rfl (fun K hK => ?_) (AllReadyH.nil)
          go_simp
          refine hK.out _ _ ?_ (fun hHeld => ?_)
          · exact ⟨b0, b1, b2, b3, b4, b5, b6, b7, b8, hR⟩
          clear hK K
          try simp only [Act.put, List.setIfInBounds_toArray, List.set_cons_zero, List.set_cons_succ]
          refine wpAnyH_done (by kernel_rfl) ?_ _
          refine NoPanic.normal ?_
          replace HOm := Lib.hid (ownsRow_below HOm.out hR)
          replace HOn := Lib.hid (ownsRow_below HOn.out hR)
          replace HD := Lib.hid (Dc.below HD.out hR)
          replace HT1 := Lib.hid (Ops.more (Ops.keep HT1.out hR (Nat.le_refl _)) (Below.size hR))
          replace HT2 := Lib.hid (Ops.more (Ops.keep HT2.out hR (Nat.le_refl _)) (Below.size hR))
          clear HT1
          clear HT2
          go_wp2_with fail
          refine (lrapply_is 0 _ _ _ [] r m e1 _ (prs_nil _ _) (Nat.zero_le _) (Ops.of_own (ownsRow_below HOm.out BL9)) (Nat.le_refl _) gd_nil HOKm.out HR.out).mono ?_
          rintro e k13 ⟨Ar, cr, rfl, hp9, h⟩
          have hk : Below k12.heap.size k12 k13 := HK9 h
          have hz := h.size
          try simp at hz
          replace b0 : k13.cell? ⟨k6.heap.size, 0, none⟩ = some (.int .i64 3) := (hk.cell (p := ⟨k6.heap.size, 0, none⟩) LT9).trans b0
          replace b1 : k13.cell? ⟨k6.heap.size, 1, none⟩ = some (.string ⟨#[110, 111, 32, 115, 117, 99, 104, 32, 107, 101, 121]⟩) := (hk.cell (p := ⟨k6.heap.size, 1, none⟩) LT9).trans b1
          replace b2 : k13.cell? ⟨k6.heap.size, 2, none⟩ = some (.int .i64 1) := (hk.cell (p := ⟨k6.heap.size, 2, none⟩) LT9).trans b2
          replace b3 : k13.cell? ⟨k6.heap.size, 3, none⟩ = some (.int .i64 2) := (hk.cell (p := ⟨k6.heap.size, 3, none⟩) LT9).trans b3
          replace b4 : k13.cell? ⟨k6.heap.size, 4, none⟩ = some (.string ⟨#[]⟩) := (hk.cell (p := ⟨k6.heap.size, 4, none⟩) LT9).trans b4
          replace b5 : k13.cell? ⟨k6.heap.size, 5, none⟩ = some (.int .i64 1) := (hk.cell (p := ⟨k6.heap.size, 5, none⟩) LT9).trans b5
          replace b6 : k13.cell? ⟨k6.heap.size, 6, none⟩ = some (.int .i64 1) := (hk.cell (p := ⟨k6.heap.size, 6, none⟩) LT9).trans b6
          replace b7 : k13.cell? ⟨k6.heap.size, 7, none⟩ = some (.string ⟨#[]⟩) := (hk.cell (p := ⟨k6.heap.size, 7, none⟩) LT9).trans b7
          replace b8 : k13.cell? ⟨k6.heap.size, 8, none⟩ = some (.int .i64 0) := (hk.cell (p := ⟨k6.heap.size, 8, none⟩) LT9).trans b8
          have r0 : k13.cell? ⟨k12.heap.size, 0, none⟩ = some (.slice none 0 0) := (h.cell (p := ⟨k12.heap.size, 0, none⟩) LT9).trans (by go_simp)
          have rf : k13.frozen? ⟨k12.heap.size, 0, none⟩ = false := (h.frozen (p := ⟨k12.heap.size, 0, none⟩) LT9).trans (by go_simp)
          replace HOm := Lib.hid (ownsRow_below HOm.out hk)
          replace HOn := Lib.hid (ownsRow_below HOn.out hk)
          replace HD := Lib.hid (Dc.below HD.out hk)
          replace HW3 := Lib.hid (ownsRow_below HW3.out hk)
          replace hb : Below w.heap.size w k13 := hb.trans (hk.mono hb.size)
          have lt0 : k6.heap.size < k13.heap.size := LT9
          have lt1 : k12.heap.size < k13.heap.size := LT9
          have HBR := Lib.hid (Bx1.below (Bx1.new _ 28 (.slice none 0 0)) h)
          have HP := Lib.hid hp9; clear hp9
          clear h hk
          go_wp2_with fail
          obtain ⟨k14, hk14⟩ : ∃ x, k13.setCell ⟨k12.heap.size, 0, none⟩ (.slice Ar r.length cr) = x := ⟨_, rfl⟩
          replace HOm := Lib.hid (box_own (u := .slice Ar r.length cr) HOm.out HBR.out (by decide))
          rw [hk14] at HOm
          replace HOn := Lib.hid (box_own (u := .slice Ar r.length cr) HOn.out HBR.out (by decide))
          rw [hk14] at HOn
          replace HD := Lib.hid (box_doc (u := .slice Ar r.length cr) HD.out HBR.out (by decide) (by decide))
          rw [hk14] at HD
          replace HW3 := Lib.hid (box_own (u := .slice Ar r.length cr) HW3.out HBR.out (by decide))
          rw [hk14] at HW3
          replace HP := Lib.hid (box_prs (u := .slice Ar r.length cr) HP.out HBR.out)
          rw [hk14] at HP
          replace HBR := Lib.hid (Bx1.set HBR.out (.slice Ar r.length cr))
          rw [hk14] at HBR
          replace b0 : k14.cell? ⟨k6.heap.size, 0, none⟩ = some (.int .i64 3) := by rw [← hk14]; exact (World.cell?_setCell_other _ _ _ _ (fun e => by injection e with e; omega)).trans b0
          replace b1 : k14.cell? ⟨k6.heap.size, 1, none⟩ = some (.string ⟨#[110, 111, 32, 115, 117, 99, 104, 32, 107, 101, 121]⟩) := by rw [← hk14]; exact (World.cell?_setCell_other _ _ _ _ (fun e => by injection e with e; omega)).trans b1
          replace b2 : k14.cell? ⟨k6.heap.size, 2, none⟩ = some (.int .i64 1) := by rw [← hk14]; exact (World.cell?_setCell_other _ _ _ _ (fun e => by injection e with e; omega)).trans b2
          replace b3 : k14.cell? ⟨k6.heap.size, 3, none⟩ = some (.int .i64 2) := by rw [← hk14]; exact (World.cell?_setCell_other _ _ _ _ (fun e => by injection e with e; omega)).trans b3
          replace b4 : k14.cell? ⟨k6.heap.size, 4, none⟩ = some (.string ⟨#[]⟩) := by rw [← hk14]; exact (World.cell?_setCell_other _ _ _ _ (fun e => by injection e with e; omega)).trans b4
          replace b5 : k14.cell? ⟨k6.heap.size, 5, none⟩ = some (.int .i64 1) := by rw [← hk14]; exact (World.cell?_setCell_other _ _ _ _ (fun e => by injection e with e; omega)).trans b5
          replace b6 : k14.cell? ⟨k6.heap.size, 6, none⟩ = some (.int .i64 1) := by rw [← hk14]; exact (World.cell?_setCell_other _ _ _ _ (fun e => by injection e with e; omega)).trans b6
          replace b7 : k14.cell? ⟨k6.heap.size, 7, none⟩ = some (.string ⟨#[]⟩) := by rw [← hk14]; exact (World.cell?_setCell_other _ _ _ _ (fun e => by injection e with e; omega)).trans b7
          replace b8 : k14.cell? ⟨k6.heap.size, 8, none⟩ = some (.int .i64 0) := by rw [← hk14]; exact (World.cell?_setCell_other _ _ _ _ (fun e => by injection e with e; omega)).trans b8
          replace r0 : k14.cell? ⟨k12.heap.size, 0, none⟩ = some (.slice Ar r.length cr) := Bx1.cell HBR.out
          replace rf : k14.frozen? ⟨k12.heap.size, 0, none⟩ = false := Bx1.frz HBR.out
          have hzk14 : k14.heap.size = k13.heap.size := by rw [← hk14]; exact nblk_set _ _ _
          replace hb : Below w.heap.size w k14 := by
            rw [← hk14]
            exact hb.setCell (by first | omega | (simp; omega)) _
          rw [← hzk14] at HP
          rw [hk14]
          clear hk14
          have lt0 : k6.heap.size < k14.heap.size := LT9
          have lt1 : k12.heap.size < k14.heap.size := LT9
          refine (lrapply_is _ _ _ _ r r2 X e2 _ (Prs.keep HP.out BL9 (Nat.le_refl _)) (by first | exact Nat.le_refl _ | (simp; done) | (simp; omega) | omega) (Ops.of_own (ownsRow_below HW3.out BL9)) (Nat.le_refl _) hgr9 HXX.out HQ.out).mono ?_
          rintro e k15 ⟨Aq, cq, rfl, hq9, h⟩
          have hk : Below k14.heap.size k14 k15 := HK9 h
          have hz := h.size
          try simp at hz
          replace b0 : k15.cell? ⟨k6.heap.size, 0, none⟩ = some (.int .i64 3) := (hk.cell (p := ⟨k6.heap.size, 0, none⟩) LT9).trans b0
          replace b1 : k15.cell? ⟨k6.heap.size, 1, none⟩ = some (.string ⟨#[110, 111, 32, 115, 117, 99, 104, 32, 107, 101, 121]⟩) := (hk.cell (p := ⟨k6.heap.size, 1, none⟩) LT9).trans b1
          replace b2 : k15.cell? ⟨k6.heap.size, 2, none⟩ = some (.int .i64 1) := (hk.cell (p := ⟨k6.heap.size, 2, none⟩) LT9).trans b2
          replace b3 : k15.cell? ⟨k6.heap.size, 3, none⟩ = some (.int .i64 2) := (hk.cell (p := ⟨k6.heap.size, 3, none⟩) LT9).trans b3
          replace b4 : k15.cell? ⟨k6.heap.size, 4, none⟩ = some (.string ⟨#[]⟩) := (hk.cell (p := ⟨k6.heap.size, 4, none⟩) LT9).trans b4
          replace b5 : k15.cell? ⟨k6.heap.size, 5, none⟩ = some (.int .i64 1) := (hk.cell (p := ⟨k6.heap.size, 5, none⟩) LT9).trans b5
          replace b6 : k15.cell? ⟨k6.heap.size, 6, none⟩ = some (.int .i64 1) := (hk.cell (p := ⟨k6.heap.size, 6, none⟩) LT9).trans b6
          replace b7 : k15.cell? ⟨k6.heap.size, 7, none⟩ = some (.string ⟨#[]⟩) := (hk.cell (p := ⟨k6.heap.size, 7, none⟩) LT9).trans b7
          replace b8 : k15.cell? ⟨k6.heap.size, 8, none⟩ = some (.int .i64 0) := (hk.cell (p := ⟨k6.heap.size, 8, none⟩) LT9).trans b8
          replace r0 : k15.cell? ⟨k12.heap.size, 0, none⟩ = some (.slice Ar r.length cr) := (hk.cell (p := ⟨k12.heap.size, 0, none⟩) LT9).trans r0
          replace rf : k15.frozen? ⟨k12.heap.size, 0, none⟩ = false := (hk.frozen (p := ⟨k12.heap.size, 0, none⟩) LT9).trans rf
          replace HOm := Lib.hid (ownsRow_below HOm.out hk)
          replace HOn := Lib.hid (ownsRow_below HOn.out hk)
          replace HD := Lib.hid (Dc.below HD.out hk)
          replace HW3 := Lib.hid (ownsRow_below HW3.out hk)
          replace HBR := Lib.hid (Bx1.below HBR.out hk)
          replace HP := Lib.hid (Prs.more (Prs.keep HP.out hk (Nat.le_refl _)) (Below.size hk))
          replace hb : Below w.heap.size w k15 := hb.trans (hk.mono hb.size)
          have lt0 : k6.heap.size < k15.heap.size := LT9
          have lt1 : k12.heap.size < k15.heap.size := LT9
          clear h hk
          clear hq9
          go_wp2_with fail
          refine (lapply_is w.heap.size _ _ _ r r2 X e2 _ (Dc.below HD.out BL9) (Ops.of_own (ownsRow_below HW3.out BL9)) (Nat.le_refl _) HXX.out HQ.out).mono ?_
          rintro e k16 ⟨rfl, hd9, hgr⟩
          have hz9 := hgr.size
          have hbe : Below k15.heap.size k15 _ := Below.refl _ _
          clear hbe
          try simp at hz9
          replace hb : Below w.heap.size w k16 := Dc.frame (w0 := w) (hb := hgr) (h := Dc.below HD.out BL9) (h0 := (BB9 hb)) (hB := by have := hb.size; first | omega | (simp; omega))
          replace HOm := Lib.hid (ownsRow_grown (hb := hgr) (h := ownsRow_below HOm.out BL9) (hd := Dc.below HD.out BL9) (hne := by decide))
          replace HOn := Lib.hid (ownsRow_grown (hb := hgr) (h := ownsRow_below HOn.out BL9) (hd := Dc.below HD.out BL9) (hne := by decide))
          replace HW3 := Lib.hid (ownsRow_grown (hb := hgr) (h := ownsRow_below HW3.out BL9) (hd := Dc.below HD.out BL9) (hne := by decide))
          replace HBR := Lib.hid (Bx1.grown (hb := hgr) (h := Bx1.below HBR.out BL9) (hd := Dc.below HD.out BL9) (ht := by decide))
          replace HP := Lib.hid (Prs.more (prs_grown (hb := hgr) (h := Prs.keep HP.out BL9 (Nat.le_refl _)) (hd := Dc.below HD.out BL9)) (Nat.le_trans LT9 hgr.size))
          have b0N : k16.cell? ⟨k6.heap.size, 0, none⟩ = some (.int .i64 3) := (hgr.cell_far ⟨k6.heap.size, 0, none⟩ LT9 (fun e => by injection e with e; simp only at e; omega)).trans (by go_simp)
          clear b0
          have b0 := b0N; clear b0N
          have b1N : k16.cell? ⟨k6.heap.size, 1, none⟩ = some (.string ⟨#[110, 111, 32, 115, 117, 99, 104, 32, 107, 101, 121]⟩) := (hgr.cell_far ⟨k6.heap.size, 1, none⟩ LT9 (fun e => by injection e with e; simp only at e; omega)).trans (by go_simp)
          clear b1
          have b1 := b1N; clear b1N
          have b2N : k16.cell? ⟨k6.heap.size, 2, none⟩ = some (.int .i64 1) := (hgr.cell_far ⟨k6.heap.size, 2, none⟩ LT9 (fun e => by injection e with e; simp only at e; omega)).trans (by go_simp)
          clear b2
          have b2 := b2N; clear b2N
          have b3N : k16.cell? ⟨k6.heap.size, 3, none⟩ = some (.int .i64 2) := (hgr.cell_far ⟨k6.heap.size, 3, none⟩ LT9 (fun e => by injection e with e; simp only at e; omega)).trans (by go_simp)
          clear b3
          have b3 := b3N; clear b3N
          have b4N : k16.cell? ⟨k6.heap.size, 4, none⟩ = some (.string ⟨#[]⟩) := (hgr.cell_far ⟨k6.heap.size, 4, none⟩ LT9 (fun e => by injection e with e; simp only at e; omega)).trans (by go_simp)
          clear b4
          have b4 := b4N; clear b4N
          have b5N : k16.cell? ⟨k6.heap.size, 5, none⟩ = some (.int .i64 1) := (hgr.cell_far ⟨k6.heap.size, 5, none⟩ LT9 (fun e => by injection e with e; simp only at e; omega)).trans (by go_simp)
          clear b5
          have b5 := b5N; clear b5N
          have b6N : k16.cell? ⟨k6.heap.size, 6, none⟩ = some (.int .i64 1) := (hgr.cell_far ⟨k6.heap.size, 6, none⟩ LT9 (fun e => by injection e with e; simp only at e; omega)).trans (by go_simp)
          clear b6
          have b6 := b6N; clear b6N
          have b7N : k16.cell? ⟨k6.heap.size, 7, none⟩ = some (.string ⟨#[]⟩) := (hgr.cell_far ⟨k6.heap.size, 7, none⟩ LT9 (fun e => by injection e with e; simp only at e; omega)).trans (by go_simp)
          clear b7
          have b7 := b7N; clear b7N
          have b8N : k16.cell? ⟨k6.heap.size, 8, none⟩ = some (.int .i64 0) := (hgr.cell_far ⟨k6.heap.size, 8, none⟩ LT9 (fun e => by injection e with e; simp only at e; omega)).trans (by go_simp)
          clear b8
          have b8 := b8N; clear b8N
          have r0N : k16.cell? ⟨k12.heap.size, 0, none⟩ = some (.slice Ar r.length cr) := (hgr.cell_far ⟨k12.heap.size, 0, none⟩ LT9 (fun e => by injection e with e; simp only at e; omega)).trans (by go_simp)
          clear r0
          have r0 := r0N; clear r0N
          have rfN : k16.frozen? ⟨k12.heap.size, 0, none⟩ = false := (hgr.frozen_far ⟨k12.heap.size, 0, none⟩ LT9 (fun e => by injection e with e; simp only at e; omega)).trans (by go_simp)
          clear rf
          have rf := rfN; clear rfN
          replace HD := Lib.hid hd9
          clear hd9
          have lt0 : k6.heap.size < k16.heap.size := LT9
          have lt1 : k12.heap.size < k16.heap.size := LT9
          clear hgr
          have hee : ((e2 : Int) == (e2 : Int)) = true := by simp
          by_cases he0 : e2 = 0
          · have he1 : ((e2 : Int) == 0) = true := by simp [he0]
            have he2 : (e2 : Int) = 0 := by omega
            go_wp2
            go_ret
            exact ⟨by first | rfl | simp, hb⟩
          · have he1 : ((e2 : Int) == 0) = false := by rw [beq_eq_false_iff_ne]; omega
            have he2 : ¬ ((e2 : Int) = 0) := by omega
            rw [HSAME.out he0] at HD
            go_wp2_with fail
            refine (lenc_is w.heap.size _ r L _ (Dc.below HD.out BL9) HL.out).mono ?_
            rintro e k17 ⟨gd2, cd2, rfl, hE, h⟩
            have hk : Below k16.heap.size k16 k17 := HK9 h
            have hz := h.size
            try simp at hz
            replace b0 : k17.cell? ⟨k6.heap.size, 0, none⟩ = some (.int .i64 3) := (hk.cell (p := ⟨k6.heap.size, 0, none⟩) LT9).trans b0
            replace b1 : k17.cell? ⟨k6.heap.size, 1, none⟩ = some (.string ⟨#[110, 111, 32, 115, 117, 99, 104, 32, 107, 101, 121]⟩) := (hk.cell (p := ⟨k6.heap.size, 1, none⟩) LT9).trans b1
            replace b2 : k17.cell? ⟨k6.heap.size, 2, none⟩ = some (.int .i64 1) := (hk.cell (p := ⟨k6.heap.size, 2, none⟩) LT9).trans b2
            replace b3 : k17.cell? ⟨k6.heap.size, 3, none⟩ = some (.int .i64 2) := (hk.cell (p := ⟨k6.heap.size, 3, none⟩) LT9).trans b3
            replace b4 : k17.cell? ⟨k6.heap.size, 4, none⟩ = some (.string ⟨#[]⟩) := (hk.cell (p := ⟨k6.heap.size, 4, none⟩) LT9).trans b4
            replace b5 : k17.cell? ⟨k6.heap.size, 5, none⟩ = some (.int .i64 1) := (hk.cell (p := ⟨k6.heap.size, 5, none⟩) LT9).trans b5
            replace b6 : k17.cell? ⟨k6.heap.size, 6, none⟩ = some (.int .i64 1) := (hk.cell (p := ⟨k6.heap.size, 6, none⟩) LT9).trans b6
            replace b7 : k17.cell? ⟨k6.heap.size, 7, none⟩ = some (.string ⟨#[]⟩) := (hk.cell (p := ⟨k6.heap.size, 7, none⟩) LT9).trans b7
            replace b8 : k17.cell? ⟨k6.heap.size, 8, none⟩ = some (.int .i64 0) := (hk.cell (p := ⟨k6.heap.size, 8, none⟩) LT9).trans b8
            replace r0 : k17.cell? ⟨k12.heap.size, 0, none⟩ = some (.slice Ar r.length cr) := (hk.cell (p := ⟨k12.heap.size, 0, none⟩) LT9).trans r0
            replace rf : k17.frozen? ⟨k12.heap.size, 0, none⟩ = false := (hk.frozen (p := ⟨k12.heap.size, 0, none⟩) LT9).trans rf
            replace HOm := Lib.hid (ownsRow_below HOm.out hk)
            replace HOn := Lib.hid (ownsRow_below HOn.out hk)
            replace HD := Lib.hid (Dc.below HD.out hk)
            replace HW3 := Lib.hid (ownsRow_below HW3.out hk)
            replace HBR := Lib.hid (Bx1.below HBR.out hk)
            replace HP := Lib.hid (Prs.more (Prs.keep HP.out hk (Nat.le_refl _)) (Below.size hk))
            replace hb : Below w.heap.size w k17 := hb.trans (hk.mono hb.size)
            have lt0 : k6.heap.size < k17.heap.size := LT9
            have lt1 : k12.heap.size < k17.heap.size := LT9
            clear h hk
            have hcv2 := conv6 (Byt.of_own hE) HS.out
            clear hE
            go_wp2
            go_ret
            exact ⟨by first | rfl | simp, hb⟩
        · go_simp
          have hop := ops_new k8 _ [badO] rfl
          have hk1 := below_one k8 (.cells #[.int .i64 3, .string ⟨#[110, 111, 32, 115, 117, 99, 104, 32, 107, 101, 121]⟩, .int .i64 1, .int .i64 2, .string ⟨#[]⟩, .int .i64 1, .int .i64 1, .string ⟨#[]⟩, .int .i64 0] 49)
          have hz1 : k8.heap.size + 1 = (k8.alloc (.cells #[.int .i64 3, .string ⟨#[110, 111, 32, 115, 117, 99, 104, 32, 107, 101, 121]⟩, .int .i64 1, .int .i64 2, .string ⟨#[]⟩, .int .i64 1, .int .i64 1, .string ⟨#[]⟩, .int .i64 0] 49)).heap.size := by simp
          have hop2 : Ops (k8.alloc (.cells #[.int .i64 3, .string ⟨#[110, 111, 32, 115, 117, 99, 104, 32, 107, 101, 121]⟩, .int .i64 1, .int .i64 2, .string ⟨#[]⟩, .int .i64 1, .int .i64 1, .string ⟨#[]⟩, .int .i64 0] 49)) (k8.heap.size + 1) (.slice (some ⟨k8.heap.size, 0, none⟩) 1 1) [badO] := hop
          clear hop
          obtain ⟨GD, hGD⟩ : ∃ G, k8.heap.size = G := ⟨_, rfl⟩
          obtain ⟨k9, hk9⟩ : ∃ x, k8.alloc (.cells #[.int .i64 3, .string ⟨#[110, 111, 32, 115, 117, 99, 104, 32, 107, 101, 121]⟩, .int .i64 1, .int .i64 2, .string ⟨#[]⟩, .int .i64 1, .int .i64 1, .string ⟨#[]⟩, .int .i64 0] 49) = x := ⟨_, rfl⟩
          rw [hk9] at hop2 hk1 hz1 ⊢
          clear hk9
          have HBD := Lib.hid (Ops.more hop2 (Nat.le_of_eq hz1)); clear hop2
          have hbd9 : GD < k9.heap.size := by omega
          rw [hGD] at HBD ⊢
          replace b0 := (hk1.cell (p := ⟨k6.heap.size, 0, none⟩) LT9).trans b0
          replace b1 := (hk1.cell (p := ⟨k6.heap.size, 1, none⟩) LT9).trans b1
          replace b2 := (hk1.cell (p := ⟨k6.heap.size, 2, none⟩) LT9).trans b2
          replace b3 := (hk1.cell (p := ⟨k6.heap.size, 3, none⟩) LT9).trans b3
          replace b4 := (hk1.cell (p := ⟨k6.heap.size, 4, none⟩) LT9).trans b4
          replace b5 := (hk1.cell (p := ⟨k6.heap.size, 5, none⟩) LT9).trans b5
          replace b6 := (hk1.cell (p := ⟨k6.heap.size, 6, none⟩) LT9).trans b6
          replace b7 := (hk1.cell (p := ⟨k6.heap.size, 7, none⟩) LT9).trans b7
          replace b8 := (hk1.cell (p := ⟨k6.heap.size, 8, none⟩) LT9).trans b8
          replace hR : Below k7.heap.size k7 k9 := hR.trans (hk1.mono hR.size)
          replace hb : Below w.heap.size w k9 := hb.trans (hk1.mono (by first | exact hwR | exact hb.size))
          have lt0 : k6.heap.size < k9.heap.size := LT9
          clear hk1
          try dsimp only
          refine hK.out _ _ ?_ (fun hHeld => ?_)
          · exact ⟨b0, b1, b2, b3, b4, b5, b6, b7, b8, hR⟩
          clear hK K
          try simp only [Act.put, List.setIfInBounds_toArray, List.set_cons_zero, List.set_cons_succ]
          refine wpAnyH_ready (rs := [3]) (by kernel_rfl) (by simp) ?_
          refine AllReadyH.cons (o := { dst := some 49, op := Op.call { callee := Callee.builtin Builtin.append, args := #[Operand.const (Value.slice none 0 0), Operand.tmp 48], argTypes := #[29, 29] }, type := 29, pos := "wide.go:27", after := #[{ on := 2, ground := Ground.data }], guard := none }) rfl (fun K hK => ?_) (AllReadyH.nil)
          rw [if_pos (by rfl)]
          refine wp_append_ops _ _ rfl k9.heap.size _ (.slice none 0 0) _ [] T1 rfl (World.ownsRow_nil _ _ _ _) rfl (HT1.out.keep hR (Nat.le_refl _)) (by have := HT1L.out; simp; omega) (Nat.le_refl _) ?_
          intro v1 k10 ho1 hk1 hgw
          have hRs := hR.size
          rw [List.nil_append] at ho1
          obtain ⟨A1, c1, hv1⟩ := own_slice ho1
          rw [HT1L.out] at hv1
          subst hv1
          have hz1 := hk1.size
          have HW1 := Lib.hid (ownsRow_down (B := k7.heap.size) ho1 hRs); clear ho1 hRs
          replace b0 := (hk1.cell (p := ⟨k6.heap.size, 0, none⟩) LT9).trans b0
          replace b1 := (hk1.cell (p := ⟨k6.heap.size, 1, none⟩) LT9).trans b1
          replace b2 := (hk1.cell (p := ⟨k6.heap.size, 2, none⟩) LT9).trans b2
          replace b3 := (hk1.cell (p := ⟨k6.heap.size, 3, none⟩) LT9).trans b3
          replace b4 := (hk1.cell (p := ⟨k6.heap.size, 4, none⟩) LT9).trans b4
          replace b5 := (hk1.cell (p := ⟨k6.heap.size, 5, none⟩) LT9).trans b5
          replace b6 := (hk1.cell (p := ⟨k6.heap.size, 6, none⟩) LT9).trans b6
          replace b7 := (hk1.cell (p := ⟨k6.heap.size, 7, none⟩) LT9).trans b7
          replace b8 := (hk1.cell (p := ⟨k6.heap.size, 8, none⟩) LT9).trans b8
          replace HBD := Lib.hid (Ops.more (Ops.keep HBD.out hk1 (Nat.le_refl _)) (Below.size hk1))
          replace hR : Below k7.heap.size k7 k10 := hR.trans (hk1.mono hR.size)
          replace hb : Below w.heap.size w k10 := hb.trans (hk1.mono (by first | exact hwR | exact hb.size))
          have lt0 : k6.heap.size < k10.heap.size := LT9
          clear hk1 hgw
          try dsimp only
          refine hK.out _ _ ?_ (fun hHeld => ?_)
          · exact ⟨b0, b1, b2, b3, b4, b5, b6, b7, b8, hR⟩
          clear hK K
          try simp only [Act.put, List.setIfInBounds_toArray, List.set_cons_zero, List.set_cons_succ]
          refine wpAnyH_ready (rs := [6]) (by kernel_rfl) (by simp) ?_
          refine AllReadyH.cons (o := { dst := some 52, op := Op.call { callee := Callee.builtin Builtin.append, args := #[Operand.tmp 49, Operand.tmp 51], argTypes := #[29, 29] }, type := 29, pos := "wide.go:27", after := #[{ on := 3, ground := Ground.data }, { on := 5, ground := Ground.data }, { on := 3, ground := Ground.chain }], guard := none }) rfl (fun K hK => ?_) (AllReadyH.nil)
          rw [if_pos (by rfl)]
          refine wp_append_ops _ _ rfl k7.heap.size _ (.slice A1 0 c1) _ T1 [badO] rfl HW1.out rfl HBD.out (by have := HT1L.out; simp; omega) hR.size ?_
          intro v1 k11 ho1 hk1 hgw
          obtain ⟨A2, c2, hv1⟩ := own_slice ho1
          have hl2 : (T1 ++ [badO]).length = 1 := by rw [List.length_append, HT1L.out]; rfl
          rw [hl2] at hv1
          subst hv1
          have HL2 := Lib.hid hl2; clear hl2
          have hz1 := hk1.size
          have HW2 := Lib.hid ho1; clear ho1 HW1 HBD
          replace b0 := (hk1.cell (p := ⟨k6.heap.size, 0, none⟩) LT9).trans b0
          replace b1 := (hk1.cell (p := ⟨k6.heap.size, 1, none⟩) LT9).trans b1
          replace b2 := (hk1.cell (p := ⟨k6.heap.size, 2, none⟩) LT9).trans b2
          replace b3 := (hk1.cell (p := ⟨k6.heap.size, 3, none⟩) LT9).trans b3
          replace b4 := (hk1.cell (p := ⟨k6.heap.size, 4, none⟩) LT9).trans b4
          replace b5 := (hk1.cell (p := ⟨k6.heap.size, 5, none⟩) LT9).trans b5
          replace b6 := (hk1.cell (p := ⟨k6.heap.size, 6, none⟩) LT9).trans b6
          replace b7 := (hk1.cell (p := ⟨k6.heap.size, 7, none⟩) LT9).trans b7
          replace b8 := (hk1.cell (p := ⟨k6.heap.size, 8, none⟩) LT9).trans b8
          replace hR : Below k7.heap.size k7 k11 := hR.trans hk1
          replace hb : Below w.heap.size w k11 := hb.trans (hk1.mono (by first | exact hwR | exact hb.size))
          have lt0 : k6.heap.size < k11.heap.size := LT9
          clear hk1 hgw
          try dsimp only
          refine hK.out _ _ ?_ (fun hHeld => ?_)
          · exact ⟨b0, b1, b2, b3, b4, b5, b6, b7, b8, hR⟩
          clear hK K
          try simp only [Act.put, List.setIfInBounds_toArray, List.set_cons_zero, List.set_cons_succ]
          refine wpAnyH_ready (rs := [10]) (by kernel_rfl) (by simp) ?_
          refine AllReadyH.cons (o := { dst := some 56, op := Op.call { callee := Callee.builtin Builtin.append, args := #[Operand.tmp 52, Operand.tmp 55], argTypes := #[29, 29] }, type := 29, pos := "wide.go:27", after := #[{ on := 6, ground := Ground.data }, { on := 9, ground := Ground.data }, { on := 6, ground := Ground.chain }], guard := none }) rfl (fun K hK => ?_) (AllReadyH.nil)
          rw [if_pos (by rfl)]
          refine wp_append_ops _ _ rfl k7.heap.size _ (.slice A2 1 c2) _ (T1 ++ [badO]) T2 rfl HW2.out rfl (HT2.out.keep hR (Nat.le_refl _)) (by have := HL2.out; have := HT2L.out; omega) hR.size ?_
          intro v1 k12 ho1 hk1 hgw
          rw [HX.out] at ho1
          obtain ⟨Ax, cx, rfl⟩ := own_slice ho1
          have hz1 := hk1.size
          have HW3 := Lib.hid ho1; clear ho1 HW2
          replace b0 := (hk1.cell (p := ⟨k6.heap.size, 0, none⟩) LT9).trans b0
          replace b1 := (hk1.cell (p := ⟨k6.heap.size, 1, none⟩) LT9).trans b1
          replace b2 := (hk1.cell (p := ⟨k6.heap.size, 2, none⟩) LT9).trans b2
          replace b3 := (hk1.cell (p := ⟨k6.heap.size, 3, none⟩) LT9).trans b3
          replace b4 := (hk1.cell (p := ⟨k6.heap.size, 4, none⟩) LT9).trans b4
          replace b5 := (hk1.cell (p := ⟨k6.heap.size, 5, none⟩) LT9).trans b5
          replace b6 := (hk1.cell (p := ⟨k6.heap.size, 6, none⟩) LT9).trans b6
          replace b7 := (hk1.cell (p := ⟨k6.heap.size, 7, none⟩) LT9).trans b7
          replace b8 := (hk1.cell (p := ⟨k6.heap.size, 8, none⟩) LT9).trans b8
          replace hR : Below k7.heap.size k7 k12 := hR.trans hk1
          replace hb : Below w.heap.size w k12 := hb.trans (hk1.mono (by first | exact hwR | exact hb.size))
          have lt0 : k6.heap.size < k12.heap.size := LT9
          clear hk1 hgw
          try dsimp only
          refine hK.out _ _ ?_ (fun hHeld => ?_)
          · exact ⟨b0, b1, b2, b3, b4, b5, b6, b7, b8, hR⟩
          clear hK K
          try simp only [Act.put, List.setIfInBounds_toArray, List.set_cons_zero, List.set_cons_succ]
          refine wpAnyH_ready (rs := [11]) (by kernel_rfl) (by simp) ?_
          refine AllReadyH.cons (o := { dst := some 11, op := Op.assign (Operand.tmp 56), type := 29, pos := "wide.go:27", after := #[{ on := 10, ground := Ground.data }, { on := 10, ground := Ground.chain }, { on := 0, ground := Ground.phase }, { on := 1, ground := Ground.phase }, { on := 2, ground := Ground.phase }, { on := 3, ground := Ground.phase }, { on := 4, ground := Ground.phase }, { on := 5, ground := Ground.phase }, { on := 6, ground := Ground.phase }, { on := 7, ground := Ground.phase }, { on := 8, ground := Ground.phase }, { on := 9, ground := Ground.phase }, { on := 10, ground := Ground.phase }], guard := none }) rfl (fun K hK => ?_) (AllReadyH.nil)
          go_simp
          refine hK.out _ _ ?_ (fun hHeld => ?_)
          · exact ⟨b0, b1, b2, b3, b4, b5, b6, b7, b8, hR⟩
          clear hK K
          try simp only [Act.put, List.setIfInBounds_toArray, List.set_cons_zero, List.set_cons_succ]
          refine wpAnyH_done (by kernel_rfl) ?_ _
          refine NoPanic.normal ?_
          replace HOm := Lib.hid (ownsRow_below HOm.out hR)
          replace HOn := Lib.hid (ownsRow_below HOn.out hR)
          replace HD := Lib.hid (Dc.below HD.out hR)
          replace HT1 := Lib.hid (Ops.more (Ops.keep HT1.out hR (Nat.le_refl _)) (Below.size hR))
          replace HT2 := Lib.hid (Ops.more (Ops.keep HT2.out hR (Nat.le_refl _)) (Below.size hR))
          clear HT1
          clear HT2
          go_wp2_with fail
          refine (lrapply_is 0 _ _ _ [] r m e1 _ (prs_nil _ _) (Nat.zero_le _) (Ops.of_own (ownsRow_below HOm.out BL9)) (Nat.le_refl _) gd_nil HOKm.out HR.out).mono ?_
          rintro e k13 ⟨Ar, cr, rfl, hp9, h⟩
          have hk : Below k12.heap.size k12 k13 := HK9 h
          have hz := h.size
          try simp at hz
          replace b0 : k13.cell? ⟨k6.heap.size, 0, none⟩ = some (.int .i64 3) := (hk.cell (p := ⟨k6.heap.size, 0, none⟩) LT9).trans b0
          replace b1 : k13.cell? ⟨k6.heap.size, 1, none⟩ = some (.string ⟨#[110, 111, 32, 115, 117, 99, 104, 32, 107, 101, 121]⟩) := (hk.cell (p := ⟨k6.heap.size, 1, none⟩) LT9).trans b1
          replace b2 : k13.cell? ⟨k6.heap.size, 2, none⟩ = some (.int .i64 1) := (hk.cell (p := ⟨k6.heap.size, 2, none⟩) LT9).trans b2
          replace b3 : k13.cell? ⟨k6.heap.size, 3, none⟩ = some (.int .i64 2) := (hk.cell (p := ⟨k6.heap.size, 3, none⟩) LT9).trans b3
          replace b4 : k13.cell? ⟨k6.heap.size, 4, none⟩ = some (.string ⟨#[]⟩) := (hk.cell (p := ⟨k6.heap.size, 4, none⟩) LT9).trans b4
          replace b5 : k13.cell? ⟨k6.heap.size, 5, none⟩ = some (.int .i64 1) := (hk.cell (p := ⟨k6.heap.size, 5, none⟩) LT9).trans b5
          replace b6 : k13.cell? ⟨k6.heap.size, 6, none⟩ = some (.int .i64 1) := (hk.cell (p := ⟨k6.heap.size, 6, none⟩) LT9).trans b6
          replace b7 : k13.cell? ⟨k6.heap.size, 7, none⟩ = some (.string ⟨#[]⟩) := (hk.cell (p := ⟨k6.heap.size, 7, none⟩) LT9).trans b7
          replace b8 : k13.cell? ⟨k6.heap.size, 8, none⟩ = some (.int .i64 0) := (hk.cell (p := ⟨k6.heap.size, 8, none⟩) LT9).trans b8
          have r0 : k13.cell? ⟨k12.heap.size, 0, none⟩ = some (.slice none 0 0) := (h.cell (p := ⟨k12.heap.size, 0, none⟩) LT9).trans (by go_simp)
          have rf : k13.frozen? ⟨k12.heap.size, 0, none⟩ = false := (h.frozen (p := ⟨k12.heap.size, 0, none⟩) LT9).trans (by go_simp)
          replace HOm := Lib.hid (ownsRow_below HOm.out hk)
          replace HOn := Lib.hid (ownsRow_below HOn.out hk)
          replace HD := Lib.hid (Dc.below HD.out hk)
          replace HW3 := Lib.hid (ownsRow_below HW3.out hk)
          replace hb : Below w.heap.size w k13 := hb.trans (hk.mono hb.size)
          have lt0 : k6.heap.size < k13.heap.size := LT9
          have lt1 : k12.heap.size < k13.heap.size := LT9
          have HBR := Lib.hid (Bx1.below (Bx1.new _ 28 (.slice none 0 0)) h)
          have HP := Lib.hid hp9; clear hp9
          clear h hk
          go_wp2_with fail
          obtain ⟨k14, hk14⟩ : ∃ x, k13.setCell ⟨k12.heap.size, 0, none⟩ (.slice Ar r.length cr) = x := ⟨_, rfl⟩
          replace HOm := Lib.hid (box_own (u := .slice Ar r.length cr) HOm.out HBR.out (by decide))
          rw [hk14] at HOm
          replace HOn := Lib.hid (box_own (u := .slice Ar r.length cr) HOn.out HBR.out (by decide))
          rw [hk14] at HOn
          replace HD := Lib.hid (box_doc (u := .slice Ar r.length cr) HD.out HBR.out (by decide) (by decide))
          rw [hk14] at HD
          replace HW3 := Lib.hid (box_own (u := .slice Ar r.length cr) HW3.out HBR.out (by decide))
          rw [hk14] at HW3
          replace HP := Lib.hid (box_prs (u := .slice Ar r.length cr) HP.out HBR.out)
          rw [hk14] at HP
          replace HBR := Lib.hid (Bx1.set HBR.out (.slice Ar r.length cr))
          rw [hk14] at HBR
          replace b0 : k14.cell? ⟨k6.heap.size, 0, none⟩ = some (.int .i64 3) := by rw [← hk14]; exact (World.cell?_setCell_other _ _ _ _ (fun e => by injection e with e; omega)).trans b0
          replace b1 : k14.cell? ⟨k6.heap.size, 1, none⟩ = some (.string ⟨#[110, 111, 32, 115, 117, 99, 104, 32, 107, 101, 121]⟩) := by rw [← hk14]; exact (World.cell?_setCell_other _ _ _ _ (fun e => by injection e with e; omega)).trans b1
          replace b2 : k14.cell? ⟨k6.heap.size, 2, none⟩ = some (.int .i64 1) := by rw [← hk14]; exact (World.cell?_setCell_other _ _ _ _ (fun e => by injection e with e; omega)).trans b2
          replace b3 : k14.cell? ⟨k6.heap.size, 3, none⟩ = some (.int .i64 2) := by rw [← hk14]; exact (World.cell?_setCell_other _ _ _ _ (fun e => by injection e with e; omega)).trans b3
          replace b4 : k14.cell? ⟨k6.heap.size, 4, none⟩ = some (.string ⟨#[]⟩) := by rw [← hk14]; exact (World.cell?_setCell_other _ _ _ _ (fun e => by injection e with e; omega)).trans b4
          replace b5 : k14.cell? ⟨k6.heap.size, 5, none⟩ = some (.int .i64 1) := by rw [← hk14]; exact (World.cell?_setCell_other _ _ _ _ (fun e => by injection e with e; omega)).trans b5
          replace b6 : k14.cell? ⟨k6.heap.size, 6, none⟩ = some (.int .i64 1) := by rw [← hk14]; exact (World.cell?_setCell_other _ _ _ _ (fun e => by injection e with e; omega)).trans b6
          replace b7 : k14.cell? ⟨k6.heap.size, 7, none⟩ = some (.string ⟨#[]⟩) := by rw [← hk14]; exact (World.cell?_setCell_other _ _ _ _ (fun e => by injection e with e; omega)).trans b7
          replace b8 : k14.cell? ⟨k6.heap.size, 8, none⟩ = some (.int .i64 0) := by rw [← hk14]; exact (World.cell?_setCell_other _ _ _ _ (fun e => by injection e with e; omega)).trans b8
          replace r0 : k14.cell? ⟨k12.heap.size, 0, none⟩ = some (.slice Ar r.length cr) := Bx1.cell HBR.out
          replace rf : k14.frozen? ⟨k12.heap.size, 0, none⟩ = false := Bx1.frz HBR.out
          have hzk14 : k14.heap.size = k13.heap.size := by rw [← hk14]; exact nblk_set _ _ _
          replace hb : Below w.heap.size w k14 := by
            rw [← hk14]
            exact hb.setCell (by first | omega | (simp; omega)) _
          rw [← hzk14] at HP
          rw [hk14]
          clear hk14
          have lt0 : k6.heap.size < k14.heap.size := LT9
          have lt1 : k12.heap.size < k14.heap.size := LT9
          refine (lrapply_is _ _ _ _ r r2 X e2 _ (Prs.keep HP.out BL9 (Nat.le_refl _)) (by first | exact Nat.le_refl _ | (simp; done) | (simp; omega) | omega) (Ops.of_own (ownsRow_below HW3.out BL9)) (Nat.le_refl _) hgr9 HXX.out HQ.out).mono ?_
          rintro e k15 ⟨Aq, cq, rfl, hq9, h⟩
          have hk : Below k14.heap.size k14 k15 := HK9 h
          have hz := h.size
          try simp at hz
          replace b0 : k15.cell? ⟨k6.heap.size, 0, none⟩ = some (.int .i64 3) := (hk.cell (p := ⟨k6.heap.size, 0, none⟩) LT9).trans b0
          replace b1 : k15.cell? ⟨k6.heap.size, 1, none⟩ = some (.string ⟨#[110, 111, 32, 115, 117, 99, 104, 32, 107, 101, 121]⟩) := (hk.cell (p := ⟨k6.heap.size, 1, none⟩) LT9).trans b1
          replace b2 : k15.cell? ⟨k6.heap.size, 2, none⟩ = some (.int .i64 1) := (hk.cell (p := ⟨k6.heap.size, 2, none⟩) LT9).trans b2
          replace b3 : k15.cell? ⟨k6.heap.size, 3, none⟩ = some (.int .i64 2) := (hk.cell (p := ⟨k6.heap.size, 3, none⟩) LT9).trans b3
          replace b4 : k15.cell? ⟨k6.heap.size, 4, none⟩ = some (.string ⟨#[]⟩) := (hk.cell (p := ⟨k6.heap.size, 4, none⟩) LT9).trans b4
          replace b5 : k15.cell? ⟨k6.heap.size, 5, none⟩ = some (.int .i64 1) := (hk.cell (p := ⟨k6.heap.size, 5, none⟩) LT9).trans b5
          replace b6 : k15.cell? ⟨k6.heap.size, 6, none⟩ = some (.int .i64 1) := (hk.cell (p := ⟨k6.heap.size, 6, none⟩) LT9).trans b6
          replace b7 : k15.cell? ⟨k6.heap.size, 7, none⟩ = some (.string ⟨#[]⟩) := (hk.cell (p := ⟨k6.heap.size, 7, none⟩) LT9).trans b7
          replace b8 : k15.cell? ⟨k6.heap.size, 8, none⟩ = some (.int .i64 0) := (hk.cell (p := ⟨k6.heap.size, 8, none⟩) LT9).trans b8
          replace r0 : k15.cell? ⟨k12.heap.size, 0, none⟩ = some (.slice Ar r.length cr) := (hk.cell (p := ⟨k12.heap.size, 0, none⟩) LT9).trans r0
          replace rf : k15.frozen? ⟨k12.heap.size, 0, none⟩ = false := (hk.frozen (p := ⟨k12.heap.size, 0, none⟩) LT9).trans rf
          replace HOm := Lib.hid (ownsRow_below HOm.out hk)
          replace HOn := Lib.hid (ownsRow_below HOn.out hk)
          replace HD := Lib.hid (Dc.below HD.out hk)
          replace HW3 := Lib.hid (ownsRow_below HW3.out hk)
          replace HBR := Lib.hid (Bx1.below HBR.out hk)
          replace HP := Lib.hid (Prs.more (Prs.keep HP.out hk (Nat.le_refl _)) (Below.size hk))
          replace hb : Below w.heap.size w k15 := hb.trans (hk.mono hb.size)
          have lt0 : k6.heap.size < k15.heap.size := LT9
          have lt1 : k12.heap.size < k15.heap.size := LT9
          clear h hk
          clear hq9
          go_wp2_with fail
          refine (lapply_is w.heap.size _ _ _ r r2 X e2 _ (Dc.below HD.out BL9) (Ops.of_own (ownsRow_below HW3.out BL9)) (Nat.le_refl _) HXX.out HQ.out).mono ?_
          rintro e k16 ⟨rfl, hd9, hgr⟩
          have hz9 := hgr.size
          have hbe : Below k15.heap.size k15 _ := Below.refl _ _
          clear hbe
          try simp at hz9
          replace hb : Below w.heap.size w k16 := Dc.frame (w0 := w) (hb := hgr) (h := Dc.below HD.out BL9) (h0 := (BB9 hb)) (hB := by have := hb.size; first | omega | (simp; omega))
          replace HOm := Lib.hid (ownsRow_grown (hb := hgr) (h := ownsRow_below HOm.out BL9) (hd := Dc.below HD.out BL9) (hne := by decide))
          replace HOn := Lib.hid (ownsRow_grown (hb := hgr) (h := ownsRow_below HOn.out BL9) (hd := Dc.below HD.out BL9) (hne := by decide))
          replace HW3 := Lib.hid (ownsRow_grown (hb := hgr) (h := ownsRow_below HW3.out BL9) (hd := Dc.below HD.out BL9) (hne := by decide))
          replace HBR := Lib.hid (Bx1.grown (hb := hgr) (h := Bx1.below HBR.out BL9) (hd := Dc.below HD.out BL9) (ht := by decide))
          replace HP := Lib.hid (Prs.more (prs_grown (hb := hgr) (h := Prs.keep HP.out BL9 (Nat.le_refl _)) (hd := Dc.below HD.out BL9)) (Nat.le_trans LT9 hgr.size))
          have b0N : k16.cell? ⟨k6.heap.size, 0, none⟩ = some (.int .i64 3) := (hgr.cell_far ⟨k6.heap.size, 0, none⟩ LT9 (fun e => by injection e with e; simp only at e; omega)).trans (by go_simp)
          clear b0
          have b0 := b0N; clear b0N
          have b1N : k16.cell? ⟨k6.heap.size, 1, none⟩ = some (.string ⟨#[110, 111, 32, 115, 117, 99, 104, 32, 107, 101, 121]⟩) := (hgr.cell_far ⟨k6.heap.size, 1, none⟩ LT9 (fun e => by injection e with e; simp only at e; omega)).trans (by go_simp)
          clear b1
          have b1 := b1N; clear b1N
          have b2N : k16.cell? ⟨k6.heap.size, 2, none⟩ = some (.int .i64 1) := (hgr.cell_far ⟨k6.heap.size, 2, none⟩ LT9 (fun e => by injection e with e; simp only at e; omega)).trans (by go_simp)
          clear b2
          have b2 := b2N; clear b2N
          have b3N : k16.cell? ⟨k6.heap.size, 3, none⟩ = some (.int .i64 2) := (hgr.cell_far ⟨k6.heap.size, 3, none⟩ LT9 (fun e => by injection e with e; simp only at e; omega)).trans (by go_simp)
          clear b3
          have b3 := b3N; clear b3N
          have b4N : k16.cell? ⟨k6.heap.size, 4, none⟩ = some (.string ⟨#[]⟩) := (hgr.cell_far ⟨k6.heap.size, 4, none⟩ LT9 (fun e => by injection e with e; simp only at e; omega)).trans (by go_simp)
          clear b4
          have b4 := b4N; clear b4N
          have b5N : k16.cell? ⟨k6.heap.size, 5, none⟩ = some (.int .i64 1) := (hgr.cell_far ⟨k6.heap.size, 5, none⟩ LT9 (fun e => by injection e with e; simp only at e; omega)).trans (by go_simp)
          clear b5
          have b5 := b5N; clear b5N
          have b6N : k16.cell? ⟨k6.heap.size, 6, none⟩ = some (.int .i64 1) := (hgr.cell_far ⟨k6.heap.size, 6, none⟩ LT9 (fun e => by injection e with e; simp only at e; omega)).trans (by go_simp)
          clear b6
          have b6 := b6N; clear b6N
          have b7N : k16.cell? ⟨k6.heap.size, 7, none⟩ = some (.string ⟨#[]⟩) := (hgr.cell_far ⟨k6.heap.size, 7, none⟩ LT9 (fun e => by injection e with e; simp only at e; omega)).trans (by go_simp)
          clear b7
          have b7 := b7N; clear b7N
          have b8N : k16.cell? ⟨k6.heap.size, 8, none⟩ = some (.int .i64 0) := (hgr.cell_far ⟨k6.heap.size, 8, none⟩ LT9 (fun e => by injection e with e; simp only at e; omega)).trans (by go_simp)
          clear b8
          have b8 := b8N; clear b8N
          have r0N : k16.cell? ⟨k12.heap.size, 0, none⟩ = some (.slice Ar r.length cr) := (hgr.cell_far ⟨k12.heap.size, 0, none⟩ LT9 (fun e => by injection e with e; simp only at e; omega)).trans (by go_simp)
          clear r0
          have r0 := r0N; clear r0N
          have rfN : k16.frozen? ⟨k12.heap.size, 0, none⟩ = false := (hgr.frozen_far ⟨k12.heap.size, 0, none⟩ LT9 (fun e => by injection e with e; simp only at e; omega)).trans (by go_simp)
          clear rf
          have rf := rfN; clear rfN
          replace HD := Lib.hid hd9
          clear hd9
          have lt0 : k6.heap.size < k16.heap.size := LT9
          have lt1 : k12.heap.size < k16.heap.size := LT9
          clear hgr
          have hee : ((e2 : Int) == (e2 : Int)) = true := by simp
          by_cases he0 : e2 = 0
          · have he1 : ((e2 : Int) == 0) = true := by simp [he0]
            have he2 : (e2 : Int) = 0 := by omega
            go_wp2
            go_ret
            exact ⟨by first | rfl | simp, hb⟩
          · have he1 : ((e2 : Int) == 0) = false := by rw [beq_eq_false_iff_ne]; omega
            have he2 : ¬ ((e2 : Int) = 0) := by omega
            rw [HSAME.out he0] at HD
            go_wp2_with fail
            refine (lenc_is w.heap.size _ r L _ (Dc.below HD.out BL9) HL.out).mono ?_
            rintro e k17 ⟨gd2, cd2, rfl, hE, h⟩
            have hk : Below k16.heap.size k16 k17 := HK9 h
            have hz := h.size
            try simp at hz
            replace b0 : k17.cell? ⟨k6.heap.size, 0, none⟩ = some (.int .i64 3) := (hk.cell (p := ⟨k6.heap.size, 0, none⟩) LT9).trans b0
            replace b1 : k17.cell? ⟨k6.heap.size, 1, none⟩ = some (.string ⟨#[110, 111, 32, 115, 117, 99, 104, 32, 107, 101, 121]⟩) := (hk.cell (p := ⟨k6.heap.size, 1, none⟩) LT9).trans b1
            replace b2 : k17.cell? ⟨k6.heap.size, 2, none⟩ = some (.int .i64 1) := (hk.cell (p := ⟨k6.heap.size, 2, none⟩) LT9).trans b2
            replace b3 : k17.cell? ⟨k6.heap.size, 3, none⟩ = some (.int .i64 2) := (hk.cell (p := ⟨k6.heap.size, 3, none⟩) LT9).trans b3
            replace b4 : k17.cell? ⟨k6.heap.size, 4, none⟩ = some (.string ⟨#[]⟩) := (hk.cell (p := ⟨k6.heap.size, 4, none⟩) LT9).trans b4
            replace b5 : k17.cell? ⟨k6.heap.size, 5, none⟩ = some (.int .i64 1) := (hk.cell (p := ⟨k6.heap.size, 5, none⟩) LT9).trans b5
            replace b6 : k17.cell? ⟨k6.heap.size, 6, none⟩ = some (.int .i64 1) := (hk.cell (p := ⟨k6.heap.size, 6, none⟩) LT9).trans b6
            replace b7 : k17.cell? ⟨k6.heap.size, 7, none⟩ = some (.string ⟨#[]⟩) := (hk.cell (p := ⟨k6.heap.size, 7, none⟩) LT9).trans b7
            replace b8 : k17.cell? ⟨k6.heap.size, 8, none⟩ = some (.int .i64 0) := (hk.cell (p := ⟨k6.heap.size, 8, none⟩) LT9).trans b8
            replace r0 : k17.cell? ⟨k12.heap.size, 0, none⟩ = some (.slice Ar r.length cr) := (hk.cell (p := ⟨k12.heap.size, 0, none⟩) LT9).trans r0
            replace rf : k17.frozen? ⟨k12.heap.size, 0, none⟩ = false := (hk.frozen (p := ⟨k12.heap.size, 0, none⟩) LT9).trans rf
            replace HOm := Lib.hid (ownsRow_below HOm.out hk)
            replace HOn := Lib.hid (ownsRow_below HOn.out hk)
            replace HD := Lib.hid (Dc.below HD.out hk)
            replace HW3 := Lib.hid (ownsRow_below HW3.out hk)
            replace HBR := Lib.hid (Bx1.below HBR.out hk)
            replace HP := Lib.hid (Prs.more (Prs.keep HP.out hk (Nat.le_refl _)) (Below.size hk))
            replace hb : Below w.heap.size w k17 := hb.trans (hk.mono hb.size)
            have lt0 : k6.heap.size < k17.heap.size := LT9
            have lt1 : k12.heap.size < k17.heap.size := LT9
            clear h hk
            have hcv2 := conv6 (Byt.of_own hE) HS.out
            clear hE
            go_wp2
            go_ret
            exact ⟨by first | rfl | simp, hb⟩
      · by_cases hcap : t = cn
        · subst hcap
          obtain ⟨X0, hX0⟩ : ∃ X, n = X := ⟨_, rfl⟩
          have hXl : X0.length = n.length := by rw [← hX0]
          have hXo : ∀ x ∈ X0, x.ok := fun x hx => HOKn.out x (by rw [← hX0] at hx; exact hx)
          have hXops : Ops k6 k6.heap.size (.slice (some ⟨ga, 0, none⟩) X0.length t) X0 := by rw [hXl, ← hX0]; exact Ops.of_own HOn.out
          obtain ⟨T1, hT1⟩ : ∃ T, X0.take t = T := ⟨_, rfl⟩
          obtain ⟨T2, hT2⟩ : ∃ T, X0.drop t = T := ⟨_, rfl⟩
          have hT1l : T1.length = t := by rw [← hT1, List.length_take]; omega
          have hT2l : T2.length = n.length - t := by rw [← hT2, List.length_drop]; omega
          have hT1o : ∀ x ∈ T1, x.ok := fun x hx => hXo x (by rw [← hT1] at hx; exact List.mem_of_mem_take hx)
          have hT2o : ∀ x ∈ T2, x.ok := fun x hx => hXo x (by rw [← hT2] at hx; exact List.mem_of_mem_drop hx)
          have HT1 := Lib.hid (show Ops k6 k6.heap.size (.slice (some ⟨ga, 0, none⟩) t t) T1 by rw [← hT1]; exact ops_take hXops (by omega))
          have HT2 := Lib.hid (show Ops k6 k6.heap.size (.slice (some ⟨ga, 0, none⟩) 0 0) T2 by
            rw [← hT2]
            rw [List.drop_of_length_le (by omega)]; exact ops_none _ _ _ _)
          clear hXops hT1 hT2 hX0 hXo
          have hXX : ∀ x ∈ T1 ++ [badO] ++ T2, x.ok := fun x hx => by
            simp only [List.mem_append, List.mem_singleton] at hx
            rcases hx with (hx | rfl) | hx
            · exact hT1o x hx
            · exact badO_ok
            · exact hT2o x hx
          obtain ⟨X, hX⟩ : ∃ X, T1 ++ [badO] ++ T2 = X := ⟨_, rfl⟩
          rw [hX] at hXX
          have HX := Lib.hid hX; clear hX
          have HXX := Lib.hid hXX; clear hXX hT1o hT2o
          have HT1L := Lib.hid hT1l; clear hT1l
          have hT2u : T2.length ≤ 20 := by omega
          have HT2L := Lib.hid hT2u; clear hT2l hT2u
          obtain ⟨⟨r2, e2⟩, hq⟩ : ∃ x, dApply r X = x := ⟨_, rfl⟩
          have hgr2 : Gd r2 := by have := hgr9.apply HXX.out; rw [hq] at this; exact this
          have hsame : e2 ≠ 0 → r2 = r := fun h => by have := dApply_err (l := r) (os := X) (by rw [hq]; exact h); rw [hq] at this; exact this
          have HQ := Lib.hid hq; clear hq
          have HSAME := Lib.hid hsame; clear hsame
          go_wp2_with fail
          refine wp_world (fun W => W.cell? ⟨k6.heap.size, 0, none⟩ = some (.int .i64 3) ∧ W.cell? ⟨k6.heap.size, 1, none⟩ = some (.string ⟨#[110, 111, 32, 115, 117, 99, 104, 32, 107, 101, 121]⟩) ∧ W.cell? ⟨k6.heap.size, 2, none⟩ = some (.int .i64 1) ∧ W.cell? ⟨k6.heap.size, 3, none⟩ = some (.int .i64 2) ∧ W.cell? ⟨k6.heap.size, 4, none⟩ = some (.string ⟨#[]⟩) ∧ W.cell? ⟨k6.heap.size, 5, none⟩ = some (.int .i64 1) ∧ W.cell? ⟨k6.heap.size, 6, none⟩ = some (.int .i64 1) ∧ W.cell? ⟨k6.heap.size, 7, none⟩ = some (.string ⟨#[]⟩) ∧ W.cell? ⟨k6.heap.size, 8, none⟩ = some (.int .i64 0) ∧ Below (k6.heap.size) k6 W ∧ k6.heap.size + 1 ≤ W.heap.size) ⟨(by go_simp), (by go_simp), (by go_simp), (by go_simp), (by go_simp), (by go_simp), (by go_simp), (by go_simp), (by go_simp), BL9, LT9⟩ ?_
          rintro k7 ⟨b0, b1, b2, b3, b4, b5, b6, b7, b8, hk, hz⟩
          replace HOm := Lib.hid (ownsRow_below HOm.out hk)
          replace HOn := Lib.hid (ownsRow_below HOn.out hk)
          replace HD := Lib.hid (Dc.below HD.out hk)
          replace HT1 := Lib.hid (Ops.more (Ops.keep HT1.out hk (Nat.le_refl _)) (Below.size hk))
          replace HT2 := Lib.hid (Ops.more (Ops.keep HT2.out hk (Nat.le_refl _)) (Below.size hk))
          replace hb : Below w.heap.size w k7 := hb.trans (hk.mono (by first | exact hb.size | omega | (simp; omega)))
          have lt0 : k6.heap.size < k7.heap.size := LT9
          clear hk
          have hwR : w.heap.size ≤ k7.heap.size := hb.size
          have hbR := hb
          replace b0 : k7.drew.cell? ⟨k6.heap.size, 0, none⟩ = some (.int .i64 3) := b0
          replace b1 : k7.drew.cell? ⟨k6.heap.size, 1, none⟩ = some (.string ⟨#[110, 111, 32, 115, 117, 99, 104, 32, 107, 101, 121]⟩) := b1
          replace b2 : k7.drew.cell? ⟨k6.heap.size, 2, none⟩ = some (.int .i64 1) := b2
          replace b3 : k7.drew.cell? ⟨k6.heap.size, 3, none⟩ = some (.int .i64 2) := b3
          replace b4 : k7.drew.cell? ⟨k6.heap.size, 4, none⟩ = some (.string ⟨#[]⟩) := b4
          replace b5 : k7.drew.cell? ⟨k6.heap.size, 5, none⟩ = some (.int .i64 1) := b5
          replace b6 : k7.drew.cell? ⟨k6.heap.size, 6, none⟩ = some (.int .i64 1) := b6
          replace b7 : k7.drew.cell? ⟨k6.heap.size, 7, none⟩ = some (.string ⟨#[]⟩) := b7
          replace b8 : k7.drew.cell? ⟨k6.heap.size, 8, none⟩ = some (.int .i64 0) := b8
          have hR : Below k7.heap.size k7 k7.drew := (Below.refl k7.heap.size k7).drew
          refine wp_region_noPanic ?_
          refine wp_region_held_drew (S := fun W => W.cell? ⟨k6.heap.size, 0, none⟩ = some (.int .i64 3) ∧ W.cell? ⟨k6.heap.size, 1, none⟩ = some (.string ⟨#[110, 111, 32, 115, 117, 99, 104, 32, 107, 101, 121]⟩) ∧ W.cell? ⟨k6.heap.size, 2, none⟩ = some (.int .i64 1) ∧ W.cell? ⟨k6.heap.size, 3, none⟩ = some (.int .i64 2) ∧ W.cell? ⟨k6.heap.size, 4, none⟩ = some (.string ⟨#[]⟩) ∧ W.cell? ⟨k6.heap.size, 5, none⟩ = some (.int .i64 1) ∧ W.cell? ⟨k6.heap.size, 6, none⟩ = some (.int .i64 1) ∧ W.cell? ⟨k6.heap.size, 7, none⟩ = some (.string ⟨#[]⟩) ∧ W.cell? ⟨k6.heap.size, 8, none⟩ = some (.int .i64 0) ∧ Below k7.heap.size k7 W) (by kernel_rfl) ?_ (fun hHeld => ?_)
          · exact ⟨b0, b1, b2, b3, b4, b5, b6, b7, b8, hR⟩
          replace hb : Below w.heap.size w k7.drew := hb.drew
          replace lt0 : k6.heap.size < k7.drew.heap.size := lt0
          have hzd : k7.heap.size ≤ k7.drew.heap.size := Nat.le_refl _
          generalize k7.drew = k8 at *
          refine wpAnyH_take (i := 0) (oi := { dst := some 46, op := Op.move (Operand.tmp 1), type := 29, pos := "wide.go:27", after := #[], guard := none }) (v := .slice (some ⟨ga, 0, none⟩) n.length t) rfl (by kernel_rfl) (by kernel_rfl) (by kernel_rfl) (fun _ _ _ h => h) (Or.inl ⟨by rfl, fun w hSw => ?_⟩) (by assumption) ?_
          · (try dsimp only at hSw)
            go_simp
          try simp only [Act.put, List.setIfInBounds_toArray, List.set_cons_zero, List.set_cons_succ]
          refine wpAnyH_take (i := 1) (oi := { dst := some 47, op := Op.move (Operand.tmp 2), type := 3, pos := "wide.go:27", after := #[], guard := none }) (v := .int .i64 (t : Int)) rfl (by kernel_rfl) (by kernel_rfl) (by kernel_rfl) (fun _ _ _ h => h) (Or.inl ⟨by rfl, fun w hSw => ?_⟩) (by assumption) ?_
          · (try dsimp only at hSw)
            go_simp
          try simp only [Act.put, List.setIfInBounds_toArray, List.set_cons_zero, List.set_cons_succ]
          refine wpAnyH_take (i := 2) (oi := { dst := some 48, op := Op.slice 29 (Operand.tmp 46) none (some (Operand.tmp 47)) none, type := 29, pos := "wide.go:27", after := #[{ on := 0, ground := Ground.data }, { on := 1, ground := Ground.data }], guard := none }) (v := .slice (some ⟨ga, 0, none⟩) t t) rfl (by kernel_rfl) (by kernel_rfl) (by kernel_rfl) (fun _ _ _ h => h) (Or.inl ⟨by rfl, fun w hSw => ?_⟩) (by assumption) ?_
          · (try dsimp only at hSw)
            go_simp
          try simp only [Act.put, List.setIfInBounds_toArray, List.set_cons_zero, List.set_cons_succ]
          refine wpAnyH_take (i := 4) (oi := { dst := some 50, op := Op.load 49 (Operand.tmp 10), type := 49, pos := "wide.go:27", after := #[], guard := none }) (v := .agg #[.int .i64 3, .string ⟨#[110, 111, 32, 115, 117, 99, 104, 32, 107, 101, 121]⟩, .int .i64 1, .int .i64 2, .string ⟨#[]⟩, .int .i64 1, .int .i64 1, .string ⟨#[]⟩, .int .i64 0]) rfl (by kernel_rfl) (by kernel_rfl) (by kernel_rfl) (fun _ _ _ h => h) (Or.inl ⟨by rfl, fun w hSw => ?_⟩) (by assumption) ?_
          · (try dsimp only at hSw)
            go_simp
          try simp only [Act.put, List.setIfInBounds_toArray, List.set_cons_zero, List.set_cons_succ]
          refine wpAnyH_take (i := 7) (oi := { dst := some 53, op := Op.move (Operand.tmp 1), type := 29, pos := "wide.go:27", after := #[], guard := none }) (v := .slice (some ⟨ga, 0, none⟩) n.length t) rfl (by kernel_rfl) (by kernel_rfl) (by kernel_rfl) (fun _ _ _ h => h) (Or.inl ⟨by rfl, fun w hSw => ?_⟩) (by assumption) ?_
          · (try dsimp only at hSw)
            go_simp
          try simp only [Act.put, List.setIfInBounds_toArray, List.set_cons_zero, List.set_cons_succ]
          refine wpAnyH_take (i := 8) (oi := { dst := some 54, op := Op.move (Operand.tmp 2), type := 3, pos := "wide.go:27", after := #[], guard := none }) (v := .int .i64 (t : Int)) rfl (by kernel_rfl) (by kernel_rfl) (by kernel_rfl) (fun _ _ _ h => h) (Or.inl ⟨by rfl, fun w hSw => ?_⟩) (by assumption) ?_
          · (try dsimp only at hSw)
            go_simp
          try simp only [Act.put, List.setIfInBounds_toArray, List.set_cons_zero, List.set_cons_succ]
          refine wpAnyH_take (i := 9) (oi := { dst := some 55, op := Op.slice 29 (Operand.tmp 53) (some (Operand.tmp 54)) none none, type := 29, pos := "wide.go:27", after := #[{ on := 7, ground := Ground.data }, { on := 8, ground := Ground.data }], guard := none }) (v := .slice (some ⟨ga, 0, none⟩) 0 0) rfl (by kernel_rfl) (by kernel_rfl) (by kernel_rfl) (fun _ _ _ h => h) (Or.inl ⟨by rfl, fun w hSw => ?_⟩) (by assumption) ?_
          · (try dsimp only at hSw)
            go_simp
          try simp only [Act.put, List.setIfInBounds_toArray, List.set_cons_zero, List.set_cons_succ]
          refine wpAnyH_ready (rs := [3, 5]) (by kernel_rfl) (by simp) ?_
          refine AllReadyH.cons (o := { dst := some 49, op := Op.call { callee := Callee.builtin Builtin.append, args := #[Operand.const (Value.slice none 0 0), Operand.tmp 48], argTypes := #[29, 29] }, type := 29, pos := "wide.go:27", after := #[{ on := 2, ground := Ground.data }], guard := none }) rfl (fun K hK => ?_) (AllReadyH.cons (o := { dst := some 51, op := Op.buildSlice 29 1 #[(0, Operand.tmp 50)], type := 29, pos := "wide.go:27", after := #[{ on := 4, ground := Ground.data }], guard := none }) rfl (fun K hK => ?_) (AllReadyH.nil))
          · rw [if_pos (by rfl)]
            refine wp_append_ops _ _ rfl k8.heap.size _ (.slice none 0 0) _ [] T1 rfl (World.ownsRow_nil _ _ _ _) rfl (HT1.out.keep hR (Nat.le_refl _)) (by have := HT1L.out; simp; omega) (Nat.le_refl _) ?_
            intro v1 k9 ho1 hk1 hgw
            have hRs := hR.size
            rw [List.nil_append] at ho1
            obtain ⟨A1, c1, hv1⟩ := own_slice ho1
            rw [HT1L.out] at hv1
            subst hv1
            have hz1 := hk1.size
            have HW1 := Lib.hid (ownsRow_down (B := k7.heap.size) ho1 hRs); clear ho1 hRs
            replace b0 := (hk1.cell (p := ⟨k6.heap.size, 0, none⟩) LT9).trans b0
            replace b1 := (hk1.cell (p := ⟨k6.heap.size, 1, none⟩) LT9).trans b1
            replace b2 := (hk1.cell (p := ⟨k6.heap.size, 2, none⟩) LT9).trans b2
            replace b3 := (hk1.cell (p := ⟨k6.heap.size, 3, none⟩) LT9).trans b3
            replace b4 := (hk1.cell (p := ⟨k6.heap.size, 4, none⟩) LT9).trans b4
            replace b5 := (hk1.cell (p := ⟨k6.heap.size, 5, none⟩) LT9).trans b5
            replace b6 := (hk1.cell (p := ⟨k6.heap.size, 6, none⟩) LT9).trans b6
            replace b7 := (hk1.cell (p := ⟨k6.heap.size, 7, none⟩) LT9).trans b7
            replace b8 := (hk1.cell (p := ⟨k6.heap.size, 8, none⟩) LT9).trans b8
            replace hR : Below k7.heap.size k7 k9 := hR.trans (hk1.mono hR.size)
            replace hb : Below w.heap.size w k9 := hb.trans (hk1.mono (by first | exact hwR | exact hb.size))
            have lt0 : k6.heap.size < k9.heap.size := LT9
            clear hk1 hgw
            try dsimp only
            refine hK.out _ _ ?_ (fun hHeld => ?_)
            · exact ⟨b0, b1, b2, b3, b4, b5, b6, b7, b8, hR⟩
            clear hK K
            try simp only [Act.put, List.setIfInBounds_toArray, List.set_cons_zero, List.set_cons_succ]
            refine wpAnyH_ready (rs := [5]) (by kernel_rfl) (by simp) ?_
            refine AllReadyH.cons (o := { dst := some 51, op := Op.buildSlice 29 1 #[(0, Operand.tmp 50)], type := 29, pos := "wide.go:27", after := #[{ on := 4, ground := Ground.data }], guard := none }) rfl (fun K hK => ?_) (AllReadyH.nil)
            go_simp
            have hop := ops_new k9 _ [badO] rfl
            have hk1 := below_one k9 (.cells #[.int .i64 3, .string ⟨#[110, 111, 32, 115, 117, 99, 104, 32, 107, 101, 121]⟩, .int .i64 1, .int .i64 2, .string ⟨#[]⟩, .int .i64 1, .int .i64 1, .string ⟨#[]⟩, .int .i64 0] 49)
            have hz1 : k9.heap.size + 1 = (k9.alloc (.cells #[.int .i64 3, .string ⟨#[110, 111, 32, 115, 117, 99, 104, 32, 107, 101, 121]⟩, .int .i64 1, .int .i64 2, .string ⟨#[]⟩, .int .i64 1, .int .i64 1, .string ⟨#[]⟩, .int .i64 0] 49)).heap.size := by simp
            have hop2 : Ops (k9.alloc (.cells #[.int .i64 3, .string ⟨#[110, 111, 32, 115, 117, 99, 104, 32, 107, 101, 121]⟩, .int .i64 1, .int .i64 2, .string ⟨#[]⟩, .int .i64 1, .int .i64 1, .string ⟨#[]⟩, .int .i64 0] 49)) (k9.heap.size + 1) (.slice (some ⟨k9.heap.size, 0, none⟩) 1 1) [badO] := hop
            clear hop
            obtain ⟨GD, hGD⟩ : ∃ G, k9.heap.size = G := ⟨_, rfl⟩
            obtain ⟨k10, hk9⟩ : ∃ x, k9.alloc (.cells #[.int .i64 3, .string ⟨#[110, 111, 32, 115, 117, 99, 104, 32, 107, 101, 121]⟩, .int .i64 1, .int .i64 2, .string ⟨#[]⟩, .int .i64 1, .int .i64 1, .string ⟨#[]⟩, .int .i64 0] 49) = x := ⟨_, rfl⟩
            rw [hk9] at hop2 hk1 hz1 ⊢
            clear hk9
            have HBD := Lib.hid (Ops.more hop2 (Nat.le_of_eq hz1)); clear hop2
            have hbd9 : GD < k10.heap.size := by omega
            rw [hGD] at HBD ⊢
            replace b0 := (hk1.cell (p := ⟨k6.heap.size, 0, none⟩) LT9).trans b0
            replace b1 := (hk1.cell (p := ⟨k6.heap.size, 1, none⟩) LT9).trans b1
            replace b2 := (hk1.cell (p := ⟨k6.heap.size, 2, none⟩) LT9).trans b2
            replace b3 := (hk1.cell (p := ⟨k6.heap.size, 3, none⟩) LT9).trans b3
            replace b4 := (hk1.cell (p := ⟨k6.heap.size, 4, none⟩) LT9).trans b4
            replace b5 := (hk1.cell (p := ⟨k6.heap.size, 5, none⟩) LT9).trans b5
            replace b6 := (hk1.cell (p := ⟨k6.heap.size, 6, none⟩) LT9).trans b6
            replace b7 := (hk1.cell (p := ⟨k6.heap.size, 7, none⟩) LT9).trans b7
            replace b8 := (hk1.cell (p := ⟨k6.heap.size, 8, none⟩) LT9).trans b8
            replace HW1 := Lib.hid (ownsRow_below HW1.out hk1)
            replace hR : Below k7.heap.size k7 k10 := hR.trans (hk1.mono hR.size)
            replace hb : Below w.heap.size w k10 := hb.trans (hk1.mono (by first | exact hwR | exact hb.size))
            have lt0 : k6.heap.size < k10.heap.size := LT9
            clear hk1
            try dsimp only
            refine hK.out _ _ ?_ (fun hHeld => ?_)
            · exact ⟨b0, b1, b2, b3, b4, b5, b6, b7, b8, hR⟩
            clear hK K
            try simp only [Act.put, List.setIfInBounds_toArray, List.set_cons_zero, List.set_cons_succ]
            refine wpAnyH_ready (rs := [6]) (by kernel_rfl) (by simp) ?_
            refine AllReadyH.cons (o := { dst := some 52, op := Op.call { callee := Callee.builtin Builtin.append, args := #[Operand.tmp 49, Operand.tmp 51], argTypes := #[29, 29] }, type := 29, pos := "wide.go:27", after := #[{ on := 3, ground := Ground.data }, { on := 5, ground := Ground.data }, { on := 3, ground := Ground.chain }], guard := none }) rfl (fun K hK => ?_) (AllReadyH.nil)
            rw [if_pos (by rfl)]
            refine wp_append_ops _ _ rfl k7.heap.size _ (.slice A1 t c1) _ T1 [badO] rfl HW1.out rfl HBD.out (by have := HT1L.out; simp; omega) hR.size ?_
            intro v1 k11 ho1 hk1 hgw
            obtain ⟨A2, c2, hv1⟩ := own_slice ho1
            have hl2 : (T1 ++ [badO]).length = t + 1 := by rw [List.length_append, HT1L.out]; rfl
            rw [hl2] at hv1
            subst hv1
            have HL2 := Lib.hid hl2; clear hl2
            have hz1 := hk1.size
            have HW2 := Lib.hid ho1; clear ho1 HW1 HBD
            replace b0 := (hk1.cell (p := ⟨k6.heap.size, 0, none⟩) LT9).trans b0
            replace b1 := (hk1.cell (p := ⟨k6.heap.size, 1, none⟩) LT9).trans b1
            replace b2 := (hk1.cell (p := ⟨k6.heap.size, 2, none⟩) LT9).trans b2
            replace b3 := (hk1.cell (p := ⟨k6.heap.size, 3, none⟩) LT9).trans b3
            replace b4 := (hk1.cell (p := ⟨k6.heap.size, 4, none⟩) LT9).trans b4
            replace b5 := (hk1.cell (p := ⟨k6.heap.size, 5, none⟩) LT9).trans b5
            replace b6 := (hk1.cell (p := ⟨k6.heap.size, 6, none⟩) LT9).trans b6
            replace b7 := (hk1.cell (p := ⟨k6.heap.size, 7, none⟩) LT9).trans b7
            replace b8 := (hk1.cell (p := ⟨k6.heap.size, 8, none⟩) LT9).trans b8
            replace hR : Below k7.heap.size k7 k11 := hR.trans hk1
            replace hb : Below w.heap.size w k11 := hb.trans (hk1.mono (by first | exact hwR | exact hb.size))
            have lt0 : k6.heap.size < k11.heap.size := LT9
            clear hk1 hgw
            try dsimp only
            refine hK.out _ _ ?_ (fun hHeld => ?_)
            · exact ⟨b0, b1, b2, b3, b4, b5, b6, b7, b8, hR⟩
            clear hK K
            try simp only [Act.put, List.setIfInBounds_toArray, List.set_cons_zero, List.set_cons_succ]
            refine wpAnyH_ready (rs := [10]) (by kernel_rfl) (by simp) ?_
            refine AllReadyH.cons (o := { dst := some 56, op := Op.call { callee := Callee.builtin Builtin.append, args := #[Operand.tmp 52, Operand.tmp 55], argTypes := #[29, 29] }, type := 29, pos := "wide.go:27", after := #[{ on := 6, ground := Ground.data }, { on := 9, ground := Ground.data }, { on := 6, ground := Ground.chain }], guard := none }) rfl (fun K hK => ?_) (AllReadyH.nil)
            rw [if_pos (by rfl)]
            refine wp_append_ops _ _ rfl k7.heap.size _ (.slice A2 (t + 1) c2) _ (T1 ++ [badO]) T2 rfl HW2.out rfl (HT2.out.keep hR (Nat.le_refl _)) (by have := HL2.out; have := HT2L.out; omega) hR.size ?_
            intro v1 k12 ho1 hk1 hgw
            rw [HX.out] at ho1
            obtain ⟨Ax, cx, rfl⟩ := own_slice ho1
            have hz1 := hk1.size
            have HW3 := Lib.hid ho1; clear ho1 HW2
            replace b0 := (hk1.cell (p := ⟨k6.heap.size, 0, none⟩) LT9).trans b0
            replace b1 := (hk1.cell (p := ⟨k6.heap.size, 1, none⟩) LT9).trans b1
            replace b2 := (hk1.cell (p := ⟨k6.heap.size, 2, none⟩) LT9).trans b2
            replace b3 := (hk1.cell (p := ⟨k6.heap.size, 3, none⟩) LT9).trans b3
            replace b4 := (hk1.cell (p := ⟨k6.heap.size, 4, none⟩) LT9).trans b4
            replace b5 := (hk1.cell (p := ⟨k6.heap.size, 5, none⟩) LT9).trans b5
            replace b6 := (hk1.cell (p := ⟨k6.heap.size, 6, none⟩) LT9).trans b6
            replace b7 := (hk1.cell (p := ⟨k6.heap.size, 7, none⟩) LT9).trans b7
            replace b8 := (hk1.cell (p := ⟨k6.heap.size, 8, none⟩) LT9).trans b8
            replace hR : Below k7.heap.size k7 k12 := hR.trans hk1
            replace hb : Below w.heap.size w k12 := hb.trans (hk1.mono (by first | exact hwR | exact hb.size))
            have lt0 : k6.heap.size < k12.heap.size := LT9
            clear hk1 hgw
            try dsimp only
            refine hK.out _ _ ?_ (fun hHeld => ?_)
            · exact ⟨b0, b1, b2, b3, b4, b5, b6, b7, b8, hR⟩
            clear hK K
            try simp only [Act.put, List.setIfInBounds_toArray, List.set_cons_zero, List.set_cons_succ]
            refine wpAnyH_ready (rs := [11]) (by kernel_rfl) (by simp) ?_
            refine AllReadyH.cons (o := { dst := some 11, op := Op.assign (Operand.tmp 56), type := 29, pos := "wide.go:27", after := #[{ on := 10, ground := Ground.data }, { on := 10, ground := Ground.chain }, { on := 0, ground := Ground.phase }, { on := 1, ground := Ground.phase }, { on := 2, ground := Ground.phase }, { on := 3, ground := Ground.phase }, { on := 4, ground := Ground.phase }, { on := 5, ground := Ground.phase }, { on := 6, ground := Ground.phase }, { on := 7, ground := Ground.phase }, { on := 8, ground := Ground.phase }, { on := 9, ground := Ground.phase }, { on := 10, ground := Ground.phase }], guard := none }) rfl (fun K hK => ?_) (AllReadyH.nil)
            go_simp
            refine hK.out _ _ ?_ (fun hHeld => ?_)
            · exact ⟨b0, b1, b2, b3, b4, b5, b6, b7, b8, hR⟩
            clear hK K
            try simp only [Act.put, List.setIfInBounds_toArray, List.set_cons_zero, List.set_cons_succ]
            refine wpAnyH_done (by kernel_rfl) ?_ _
            refine NoPanic.normal ?_
            replace HOm := Lib.hid (ownsRow_below HOm.out hR)
            replace HOn := Lib.hid (ownsRow_below HOn.out hR)
            replace HD := Lib.hid (Dc.below HD.out hR)
            replace HT1 := Lib.hid (Ops.more (Ops.keep HT1.out hR (Nat.le_refl _)) (Below.size hR))
            replace HT2 := Lib.hid (Ops.more (Ops.keep HT2.out hR (Nat.le_refl _)) (Below.size hR))
            clear HT1
            clear HT2
            go_wp2_with fail
            refine (lrapply_is 0 _ _ _ [] r m e1 _ (prs_nil _ _) (Nat.zero_le _) (Ops.of_own (ownsRow_below HOm.out BL9)) (Nat.le_refl _) gd_nil HOKm.out HR.out).mono ?_
            rintro e k13 ⟨Ar, cr, rfl, hp9, h⟩
            have hk : Below k12.heap.size k12 k13 := HK9 h
            have hz := h.size
            try simp at hz
            replace b0 : k13.cell? ⟨k6.heap.size, 0, none⟩ = some (.int .i64 3) := (hk.cell (p := ⟨k6.heap.size, 0, none⟩) LT9).trans b0
            replace b1 : k13.cell? ⟨k6.heap.size, 1, none⟩ = some (.string ⟨#[110, 111, 32, 115, 117, 99, 104, 32, 107, 101, 121]⟩) := (hk.cell (p := ⟨k6.heap.size, 1, none⟩) LT9).trans b1
            replace b2 : k13.cell? ⟨k6.heap.size, 2, none⟩ = some (.int .i64 1) := (hk.cell (p := ⟨k6.heap.size, 2, none⟩) LT9).trans b2
            replace b3 : k13.cell? ⟨k6.heap.size, 3, none⟩ = some (.int .i64 2) := (hk.cell (p := ⟨k6.heap.size, 3, none⟩) LT9).trans b3
            replace b4 : k13.cell? ⟨k6.heap.size, 4, none⟩ = some (.string ⟨#[]⟩) := (hk.cell (p := ⟨k6.heap.size, 4, none⟩) LT9).trans b4
            replace b5 : k13.cell? ⟨k6.heap.size, 5, none⟩ = some (.int .i64 1) := (hk.cell (p := ⟨k6.heap.size, 5, none⟩) LT9).trans b5
            replace b6 : k13.cell? ⟨k6.heap.size, 6, none⟩ = some (.int .i64 1) := (hk.cell (p := ⟨k6.heap.size, 6, none⟩) LT9).trans b6
            replace b7 : k13.cell? ⟨k6.heap.size, 7, none⟩ = some (.string ⟨#[]⟩) := (hk.cell (p := ⟨k6.heap.size, 7, none⟩) LT9).trans b7
            replace b8 : k13.cell? ⟨k6.heap.size, 8, none⟩ = some (.int .i64 0) := (hk.cell (p := ⟨k6.heap.size, 8, none⟩) LT9).trans b8
            have r0 : k13.cell? ⟨k12.heap.size, 0, none⟩ = some (.slice none 0 0) := (h.cell (p := ⟨k12.heap.size, 0, none⟩) LT9).trans (by go_simp)
            have rf : k13.frozen? ⟨k12.heap.size, 0, none⟩ = false := (h.frozen (p := ⟨k12.heap.size, 0, none⟩) LT9).trans (by go_simp)
            replace HOm := Lib.hid (ownsRow_below HOm.out hk)
            replace HOn := Lib.hid (ownsRow_below HOn.out hk)
            replace HD := Lib.hid (Dc.below HD.out hk)
            replace HW3 := Lib.hid (ownsRow_below HW3.out hk)
            replace hb : Below w.heap.size w k13 := hb.trans (hk.mono hb.size)
            have lt0 : k6.heap.size < k13.heap.size := LT9
            have lt1 : k12.heap.size < k13.heap.size := LT9
            have HBR := Lib.hid (Bx1.below (Bx1.new _ 28 (.slice none 0 0)) h)
            have HP := Lib.hid hp9; clear hp9
            clear h hk
            go_wp2_with fail
            obtain ⟨k14, hk14⟩ : ∃ x, k13.setCell ⟨k12.heap.size, 0, none⟩ (.slice Ar r.length cr) = x := ⟨_, rfl⟩
            replace HOm := Lib.hid (box_own (u := .slice Ar r.length cr) HOm.out HBR.out (by decide))
            rw [hk14] at HOm
            replace HOn := Lib.hid (box_own (u := .slice Ar r.length cr) HOn.out HBR.out (by decide))
            rw [hk14] at HOn
            replace HD := Lib.hid (box_doc (u := .slice Ar r.length cr) HD.out HBR.out (by decide) (by decide))
            rw [hk14] at HD
            replace HW3 := Lib.hid (box_own (u := .slice Ar r.length cr) HW3.out HBR.out (by decide))
            rw [hk14] at HW3
            replace HP := Lib.hid (box_prs (u := .slice Ar r.length cr) HP.out HBR.out)
            rw [hk14] at HP
            replace HBR := Lib.hid (Bx1.set HBR.out (.slice Ar r.length cr))
            rw [hk14] at HBR
            replace b0 : k14.cell? ⟨k6.heap.size, 0, none⟩ = some (.int .i64 3) := by rw [← hk14]; exact (World.cell?_setCell_other _ _ _ _ (fun e => by injection e with e; omega)).trans b0
            replace b1 : k14.cell? ⟨k6.heap.size, 1, none⟩ = some (.string ⟨#[110, 111, 32, 115, 117, 99, 104, 32, 107, 101, 121]⟩) := by rw [← hk14]; exact (World.cell?_setCell_other _ _ _ _ (fun e => by injection e with e; omega)).trans b1
            replace b2 : k14.cell? ⟨k6.heap.size, 2, none⟩ = some (.int .i64 1) := by rw [← hk14]; exact (World.cell?_setCell_other _ _ _ _ (fun e => by injection e with e; omega)).trans b2
            replace b3 : k14.cell? ⟨k6.heap.size, 3, none⟩ = some (.int .i64 2) := by rw [← hk14]; exact (World.cell?_setCell_other _ _ _ _ (fun e => by injection e with e; omega)).trans b3
            replace b4 : k14.cell? ⟨k6.heap.size, 4, none⟩ = some (.string ⟨#[]⟩) := by rw [← hk14]; exact (World.cell?_setCell_other _ _ _ _ (fun e => by injection e with e; omega)).trans b4
            replace b5 : k14.cell? ⟨k6.heap.size, 5, none⟩ = some (.int .i64 1) := by rw [← hk14]; exact (World.cell?_setCell_other _ _ _ _ (fun e => by injection e with e; omega)).trans b5
            replace b6 : k14.cell? ⟨k6.heap.size, 6, none⟩ = some (.int .i64 1) := by rw [← hk14]; exact (World.cell?_setCell_other _ _ _ _ (fun e => by injection e with e; omega)).trans b6
            replace b7 : k14.cell? ⟨k6.heap.size, 7, none⟩ = some (.string ⟨#[]⟩) := by rw [← hk14]; exact (World.cell?_setCell_other _ _ _ _ (fun e => by injection e with e; omega)).trans b7
            replace b8 : k14.cell? ⟨k6.heap.size, 8, none⟩ = some (.int .i64 0) := by rw [← hk14]; exact (World.cell?_setCell_other _ _ _ _ (fun e => by injection e with e; omega)).trans b8
            replace r0 : k14.cell? ⟨k12.heap.size, 0, none⟩ = some (.slice Ar r.length cr) := Bx1.cell HBR.out
            replace rf : k14.frozen? ⟨k12.heap.size, 0, none⟩ = false := Bx1.frz HBR.out
            have hzk14 : k14.heap.size = k13.heap.size := by rw [← hk14]; exact nblk_set _ _ _
            replace hb : Below w.heap.size w k14 := by
              rw [← hk14]
              exact hb.setCell (by first | omega | (simp; omega)) _
            rw [← hzk14] at HP
            rw [hk14]
            clear hk14
            have lt0 : k6.heap.size < k14.heap.size := LT9
            have lt1 : k12.heap.size < k14.heap.size := LT9
            refine (lrapply_is _ _ _ _ r r2 X e2 _ (Prs.keep HP.out BL9 (Nat.le_refl _)) (by first | exact Nat.le_refl _ | (simp; done) | (simp; omega) | omega) (Ops.of_own (ownsRow_below HW3.out BL9)) (Nat.le_refl _) hgr9 HXX.out HQ.out).mono ?_
            rintro e k15 ⟨Aq, cq, rfl, hq9, h⟩
            have hk : Below k14.heap.size k14 k15 := HK9 h
            have hz := h.size
            try simp at hz
            replace b0 : k15.cell? ⟨k6.heap.size, 0, none⟩ = some (.int .i64 3) := (hk.cell (p := ⟨k6.heap.size, 0, none⟩) LT9).trans b0
            replace b1 : k15.cell? ⟨k6.heap.size, 1, none⟩ = some (.string ⟨#[110, 111, 32, 115, 117, 99, 104, 32, 107, 101, 121]⟩) := (hk.cell (p := ⟨k6.heap.size, 1, none⟩) LT9).trans b1
            replace b2 : k15.cell? ⟨k6.heap.size, 2, none⟩ = some (.int .i64 1) := (hk.cell (p := ⟨k6.heap.size, 2, none⟩) LT9).trans b2
            replace b3 : k15.cell? ⟨k6.heap.size, 3, none⟩ = some (.int .i64 2) := (hk.cell (p := ⟨k6.heap.size, 3, none⟩) LT9).trans b3
            replace b4 : k15.cell? ⟨k6.heap.size, 4, none⟩ = some (.string ⟨#[]⟩) := (hk.cell (p := ⟨k6.heap.size, 4, none⟩) LT9).trans b4
            replace b5 : k15.cell? ⟨k6.heap.size, 5, none⟩ = some (.int .i64 1) := (hk.cell (p := ⟨k6.heap.size, 5, none⟩) LT9).trans b5
            replace b6 : k15.cell? ⟨k6.heap.size, 6, none⟩ = some (.int .i64 1) := (hk.cell (p := ⟨k6.heap.size, 6, none⟩) LT9).trans b6
            replace b7 : k15.cell? ⟨k6.heap.size, 7, none⟩ = some (.string ⟨#[]⟩) := (hk.cell (p := ⟨k6.heap.size, 7, none⟩) LT9).trans b7
            replace b8 : k15.cell? ⟨k6.heap.size, 8, none⟩ = some (.int .i64 0) := (hk.cell (p := ⟨k6.heap.size, 8, none⟩) LT9).trans b8
            replace r0 : k15.cell? ⟨k12.heap.size, 0, none⟩ = some (.slice Ar r.length cr) := (hk.cell (p := ⟨k12.heap.size, 0, none⟩) LT9).trans r0
            replace rf : k15.frozen? ⟨k12.heap.size, 0, none⟩ = false := (hk.frozen (p := ⟨k12.heap.size, 0, none⟩) LT9).trans rf
            replace HOm := Lib.hid (ownsRow_below HOm.out hk)
            replace HOn := Lib.hid (ownsRow_below HOn.out hk)
            replace HD := Lib.hid (Dc.below HD.out hk)
            replace HW3 := Lib.hid (ownsRow_below HW3.out hk)
            replace HBR := Lib.hid (Bx1.below HBR.out hk)
            replace HP := Lib.hid (Prs.more (Prs.keep HP.out hk (Nat.le_refl _)) (Below.size hk))
            replace hb : Below w.heap.size w k15 := hb.trans (hk.mono hb.size)
            have lt0 : k6.heap.size < k15.heap.size := LT9
            have lt1 : k12.heap.size < k15.heap.size := LT9
            clear h hk
            clear hq9
            go_wp2_with fail
            refine (lapply_is w.heap.size _ _ _ r r2 X e2 _ (Dc.below HD.out BL9) (Ops.of_own (ownsRow_below HW3.out BL9)) (Nat.le_refl _) HXX.out HQ.out).mono ?_
            rintro e k16 ⟨rfl, hd9, hgr⟩
            have hz9 := hgr.size
            have hbe : Below k15.heap.size k15 _ := Below.refl _ _
            clear hbe
            try simp at hz9
            replace hb : Below w.heap.size w k16 := Dc.frame (w0 := w) (hb := hgr) (h := Dc.below HD.out BL9) (h0 := (BB9 hb)) (hB := by have := hb.size; first | omega | (simp; omega))
            replace HOm := Lib.hid (ownsRow_grown (hb := hgr) (h := ownsRow_below HOm.out BL9) (hd := Dc.below HD.out BL9) (hne := by decide))
            replace HOn := Lib.hid (ownsRow_grown (hb := hgr) (h := ownsRow_below HOn.out BL9) (hd := Dc.below HD.out BL9) (hne := by decide))
            replace HW3 := Lib.hid (ownsRow_grown (hb := hgr) (h := ownsRow_below HW3.out BL9) (hd := Dc.below HD.out BL9) (hne := by decide))
            replace HBR := Lib.hid (Bx1.grown (hb := hgr) (h := Bx1.below HBR.out BL9) (hd := Dc.below HD.out BL9) (ht := by decide))
            replace HP := Lib.hid (Prs.more (prs_grown (hb := hgr) (h := Prs.keep HP.out BL9 (Nat.le_refl _)) (hd := Dc.below HD.out BL9)) (Nat.le_trans LT9 hgr.size))
            have b0N : k16.cell? ⟨k6.heap.size, 0, none⟩ = some (.int .i64 3) := (hgr.cell_far ⟨k6.heap.size, 0, none⟩ LT9 (fun e => by injection e with e; simp only at e; omega)).trans (by go_simp)
            clear b0
            have b0 := b0N; clear b0N
            have b1N : k16.cell? ⟨k6.heap.size, 1, none⟩ = some (.string ⟨#[110, 111, 32, 115, 117, 99, 104, 32, 107, 101, 121]⟩) := (hgr.cell_far ⟨k6.heap.size, 1, none⟩ LT9 (fun e => by injection e with e; simp only at e; omega)).trans (by go_simp)
            clear b1
            have b1 := b1N; clear b1N
            have b2N : k16.cell? ⟨k6.heap.size, 2, none⟩ = some (.int .i64 1) := (hgr.cell_far ⟨k6.heap.size, 2, none⟩ LT9 (fun e => by injection e with e; simp only at e; omega)).trans (by go_simp)
            clear b2
            have b2 := b2N; clear b2N
            have b3N : k16.cell? ⟨k6.heap.size, 3, none⟩ = some (.int .i64 2) := (hgr.cell_far ⟨k6.heap.size, 3, none⟩ LT9 (fun e => by injection e with e; simp only at e; omega)).trans (by go_simp)
            clear b3
            have b3 := b3N; clear b3N
            have b4N : k16.cell? ⟨k6.heap.size, 4, none⟩ = some (.string ⟨#[]⟩) := (hgr.cell_far ⟨k6.heap.size, 4, none⟩ LT9 (fun e => by injection e with e; simp only at e; omega)).trans (by go_simp)
            clear b4
            have b4 := b4N; clear b4N
            have b5N : k16.cell? ⟨k6.heap.size, 5, none⟩ = some (.int .i64 1) := (hgr.cell_far ⟨k6.heap.size, 5, none⟩ LT9 (fun e => by injection e with e; simp only at e; omega)).trans (by go_simp)
            clear b5
            have b5 := b5N; clear b5N
            have b6N : k16.cell? ⟨k6.heap.size, 6, none⟩ = some (.int .i64 1) := (hgr.cell_far ⟨k6.heap.size, 6, none⟩ LT9 (fun e => by injection e with e; simp only at e; omega)).trans (by go_simp)
            clear b6
            have b6 := b6N; clear b6N
            have b7N : k16.cell? ⟨k6.heap.size, 7, none⟩ = some (.string ⟨#[]⟩) := (hgr.cell_far ⟨k6.heap.size, 7, none⟩ LT9 (fun e => by injection e with e; simp only at e; omega)).trans (by go_simp)
            clear b7
            have b7 := b7N; clear b7N
            have b8N : k16.cell? ⟨k6.heap.size, 8, none⟩ = some (.int .i64 0) := (hgr.cell_far ⟨k6.heap.size, 8, none⟩ LT9 (fun e => by injection e with e; simp only at e; omega)).trans (by go_simp)
            clear b8
            have b8 := b8N; clear b8N
            have r0N : k16.cell? ⟨k12.heap.size, 0, none⟩ = some (.slice Ar r.length cr) := (hgr.cell_far ⟨k12.heap.size, 0, none⟩ LT9 (fun e => by injection e with e; simp only at e; omega)).trans (by go_simp)
            clear r0
            have r0 := r0N; clear r0N
            have rfN : k16.frozen? ⟨k12.heap.size, 0, none⟩ = false := (hgr.frozen_far ⟨k12.heap.size, 0, none⟩ LT9 (fun e => by injection e with e; simp only at e; omega)).trans (by go_simp)
            clear rf
            have rf := rfN; clear rfN
            replace HD := Lib.hid hd9
            clear hd9
            have lt0 : k6.heap.size < k16.heap.size := LT9
            have lt1 : k12.heap.size < k16.heap.size := LT9
            clear hgr
            have hee : ((e2 : Int) == (e2 : Int)) = true := by simp
            by_cases he0 : e2 = 0
            · have he1 : ((e2 : Int) == 0) = true := by simp [he0]
              have he2 : (e2 : Int) = 0 := by omega
              go_wp2
              go_ret
              exact ⟨by first | rfl | simp, hb⟩
            · have he1 : ((e2 : Int) == 0) = false := by rw [beq_eq_false_iff_ne]; omega
              have he2 : ¬ ((e2 : Int) = 0) := by omega
              rw [HSAME.out he0] at HD
              go_wp2_with fail
              refine (lenc_is w.heap.size _ r L _ (Dc.below HD.out BL9) HL.out).mono ?_
              rintro e k17 ⟨gd2, cd2, rfl, hE, h⟩
              have hk : Below k16.heap.size k16 k17 := HK9 h
              have hz := h.size
              try simp at hz
              replace b0 : k17.cell? ⟨k6.heap.size, 0, none⟩ = some (.int .i64 3) := (hk.cell (p := ⟨k6.heap.size, 0, none⟩) LT9).trans b0
              replace b1 : k17.cell? ⟨k6.heap.size, 1, none⟩ = some (.string ⟨#[110, 111, 32, 115, 117, 99, 104, 32, 107, 101, 121]⟩) := (hk.cell (p := ⟨k6.heap.size, 1, none⟩) LT9).trans b1
              replace b2 : k17.cell? ⟨k6.heap.size, 2, none⟩ = some (.int .i64 1) := (hk.cell (p := ⟨k6.heap.size, 2, none⟩) LT9).trans b2
              replace b3 : k17.cell? ⟨k6.heap.size, 3, none⟩ = some (.int .i64 2) := (hk.cell (p := ⟨k6.heap.size, 3, none⟩) LT9).trans b3
              replace b4 : k17.cell? ⟨k6.heap.size, 4, none⟩ = some (.string ⟨#[]⟩) := (hk.cell (p := ⟨k6.heap.size, 4, none⟩) LT9).trans b4
              replace b5 : k17.cell? ⟨k6.heap.size, 5, none⟩ = some (.int .i64 1) := (hk.cell (p := ⟨k6.heap.size, 5, none⟩) LT9).trans b5
              replace b6 : k17.cell? ⟨k6.heap.size, 6, none⟩ = some (.int .i64 1) := (hk.cell (p := ⟨k6.heap.size, 6, none⟩) LT9).trans b6
              replace b7 : k17.cell? ⟨k6.heap.size, 7, none⟩ = some (.string ⟨#[]⟩) := (hk.cell (p := ⟨k6.heap.size, 7, none⟩) LT9).trans b7
              replace b8 : k17.cell? ⟨k6.heap.size, 8, none⟩ = some (.int .i64 0) := (hk.cell (p := ⟨k6.heap.size, 8, none⟩) LT9).trans b8
              replace r0 : k17.cell? ⟨k12.heap.size, 0, none⟩ = some (.slice Ar r.length cr) := (hk.cell (p := ⟨k12.heap.size, 0, none⟩) LT9).trans r0
              replace rf : k17.frozen? ⟨k12.heap.size, 0, none⟩ = false := (hk.frozen (p := ⟨k12.heap.size, 0, none⟩) LT9).trans rf
              replace HOm := Lib.hid (ownsRow_below HOm.out hk)
              replace HOn := Lib.hid (ownsRow_below HOn.out hk)
              replace HD := Lib.hid (Dc.below HD.out hk)
              replace HW3 := Lib.hid (ownsRow_below HW3.out hk)
              replace HBR := Lib.hid (Bx1.below HBR.out hk)
              replace HP := Lib.hid (Prs.more (Prs.keep HP.out hk (Nat.le_refl _)) (Below.size hk))
              replace hb : Below w.heap.size w k17 := hb.trans (hk.mono hb.size)
              have lt0 : k6.heap.size < k17.heap.size := LT9
              have lt1 : k12.heap.size < k17.heap.size := LT9
              clear h hk
              have hcv2 := conv6 (Byt.of_own hE) HS.out
              clear hE
              go_wp2
              go_ret
              exact ⟨by first | rfl | simp, hb⟩
          · go_simp
            have hop := ops_new k8 _ [badO] rfl
            have hk1 := below_one k8 (.cells #[.int .i64 3, .string ⟨#[110, 111, 32, 115, 117, 99, 104, 32, 107, 101, 121]⟩, .int .i64 1, .int .i64 2, .string ⟨#[]⟩, .int .i64 1, .int .i64 1, .string ⟨#[]⟩, .int .i64 0] 49)
            have hz1 : k8.heap.size + 1 = (k8.alloc (.cells #[.int .i64 3, .string ⟨#[110, 111, 32, 115, 117, 99, 104, 32, 107, 101, 121]⟩, .int .i64 1, .int .i64 2, .string ⟨#[]⟩, .int .i64 1, .int .i64 1, .string ⟨#[]⟩, .int .i64 0] 49)).heap.size := by simp
            have hop2 : Ops (k8.alloc (.cells #[.int .i64 3, .string ⟨#[110, 111, 32, 115, 117, 99, 104, 32, 107, 101, 121]⟩, .int .i64 1, .int .i64 2, .string ⟨#[]⟩, .int .i64 1, .int .i64 1, .string ⟨#[]⟩, .int .i64 0] 49)) (k8.heap.size + 1) (.slice (some ⟨k8.heap.size, 0, none⟩) 1 1) [badO] := hop
            clear hop
            obtain ⟨GD, hGD⟩ : ∃ G, k8.heap.size = G := ⟨_, rfl⟩
            obtain ⟨k9, hk9⟩ : ∃ x, k8.alloc (.cells #[.int .i64 3, .string ⟨#[110, 111, 32, 115, 117, 99, 104, 32, 107, 101, 121]⟩, .int .i64 1, .int .i64 2, .string ⟨#[]⟩, .int .i64 1, .int .i64 1, .string ⟨#[]⟩, .int .i64 0] 49) = x := ⟨_, rfl⟩
            rw [hk9] at hop2 hk1 hz1 ⊢
            clear hk9
            have HBD := Lib.hid (Ops.more hop2 (Nat.le_of_eq hz1)); clear hop2
            have hbd9 : GD < k9.heap.size := by omega
            rw [hGD] at HBD ⊢
            replace b0 := (hk1.cell (p := ⟨k6.heap.size, 0, none⟩) LT9).trans b0
            replace b1 := (hk1.cell (p := ⟨k6.heap.size, 1, none⟩) LT9).trans b1
            replace b2 := (hk1.cell (p := ⟨k6.heap.size, 2, none⟩) LT9).trans b2
            replace b3 := (hk1.cell (p := ⟨k6.heap.size, 3, none⟩) LT9).trans b3
            replace b4 := (hk1.cell (p := ⟨k6.heap.size, 4, none⟩) LT9).trans b4
            replace b5 := (hk1.cell (p := ⟨k6.heap.size, 5, none⟩) LT9).trans b5
            replace b6 := (hk1.cell (p := ⟨k6.heap.size, 6, none⟩) LT9).trans b6
            replace b7 := (hk1.cell (p := ⟨k6.heap.size, 7, none⟩) LT9).trans b7
            replace b8 := (hk1.cell (p := ⟨k6.heap.size, 8, none⟩) LT9).trans b8
            replace hR : Below k7.heap.size k7 k9 := hR.trans (hk1.mono hR.size)
            replace hb : Below w.heap.size w k9 := hb.trans (hk1.mono (by first | exact hwR | exact hb.size))
            have lt0 : k6.heap.size < k9.heap.size := LT9
            clear hk1
            try dsimp only
            refine hK.out _ _ ?_ (fun hHeld => ?_)
            · exact ⟨b0, b1, b2, b3, b4, b5, b6, b7, b8, hR⟩
            clear hK K
            try simp only [Act.put, List.setIfInBounds_toArray, List.set_cons_zero, List.set_cons_succ]
            refine wpAnyH_ready (rs := [3]) (by kernel_rfl) (by simp) ?_
            refine AllReadyH.cons (o := { dst := some 49, op := Op.call { callee := Callee.builtin Builtin.append, args := #[Operand.const (Value.slice none 0 0), Operand.tmp 48], argTypes := #[29, 29] }, type := 29, pos := "wide.go:27", after := #[{ on := 2, ground := Ground.data }], guard := none }) rfl (fun K hK => ?_) (AllReadyH.nil)
            rw [if_pos (by rfl)]
            refine wp_append_ops _ _ rfl k9.heap.size _ (.slice none 0 0) _ [] T1 rfl (World.ownsRow_nil _ _ _ _) rfl (HT1.out.keep hR (Nat.le_refl _)) (by have := HT1L.out; simp; omega) (Nat.le_refl _) ?_
            intro v1 k10 ho1 hk1 hgw
            have hRs := hR.size
            rw [List.nil_append] at ho1
            obtain ⟨A1, c1, hv1⟩ := own_slice ho1
            rw [HT1L.out] at hv1
            subst hv1
            have hz1 := hk1.size
            have HW1 := Lib.hid (ownsRow_down (B := k7.heap.size) ho1 hRs); clear ho1 hRs
            replace b0 := (hk1.cell (p := ⟨k6.heap.size, 0, none⟩) LT9).trans b0
            replace b1 := (hk1.cell (p := ⟨k6.heap.size, 1, none⟩) LT9).trans b1
            replace b2 := (hk1.cell (p := ⟨k6.heap.size, 2, none⟩) LT9).trans b2
            replace b3 := (hk1.cell (p := ⟨k6.heap.size, 3, none⟩) LT9).trans b3
            replace b4 := (hk1.cell (p := ⟨k6.heap.size, 4, none⟩) LT9).trans b4
            replace b5 := (hk1.cell (p := ⟨k6.heap.size, 5, none⟩) LT9).trans b5
            replace b6 := (hk1.cell (p := ⟨k6.heap.size, 6, none⟩) LT9).trans b6
            replace b7 := (hk1.cell (p := ⟨k6.heap.size, 7, none⟩) LT9).trans b7
            replace b8 := (hk1.cell (p := ⟨k6.heap.size, 8, none⟩) LT9).trans b8
            replace HBD := Lib.hid (Ops.more (Ops.keep HBD.out hk1 (Nat.le_refl _)) (Below.size hk1))
            replace hR : Below k7.heap.size k7 k10 := hR.trans (hk1.mono hR.size)
            replace hb : Below w.heap.size w k10 := hb.trans (hk1.mono (by first | exact hwR | exact hb.size))
            have lt0 : k6.heap.size < k10.heap.size := LT9
            clear hk1 hgw
            try dsimp only
            refine hK.out _ _ ?_ (fun hHeld => ?_)
            · exact ⟨b0, b1, b2, b3, b4, b5, b6, b7, b8, hR⟩
            clear hK K
            try simp only [Act.put, List.setIfInBounds_toArray, List.set_cons_zero, List.set_cons_succ]
            refine wpAnyH_ready (rs := [6]) (by kernel_rfl) (by simp) ?_
            refine AllReadyH.cons (o := { dst := some 52, op := Op.call { callee := Callee.builtin Builtin.append, args := #[Operand.tmp 49, Operand.tmp 51], argTypes := #[29, 29] }, type := 29, pos := "wide.go:27", after := #[{ on := 3, ground := Ground.data }, { on := 5, ground := Ground.data }, { on := 3, ground := Ground.chain }], guard := none }) rfl (fun K hK => ?_) (AllReadyH.nil)
            rw [if_pos (by rfl)]
            refine wp_append_ops _ _ rfl k7.heap.size _ (.slice A1 t c1) _ T1 [badO] rfl HW1.out rfl HBD.out (by have := HT1L.out; simp; omega) hR.size ?_
            intro v1 k11 ho1 hk1 hgw
            obtain ⟨A2, c2, hv1⟩ := own_slice ho1
            have hl2 : (T1 ++ [badO]).length = t + 1 := by rw [List.length_append, HT1L.out]; rfl
            rw [hl2] at hv1
            subst hv1
            have HL2 := Lib.hid hl2; clear hl2
            have hz1 := hk1.size
            have HW2 := Lib.hid ho1; clear ho1 HW1 HBD
            replace b0 := (hk1.cell (p := ⟨k6.heap.size, 0, none⟩) LT9).trans b0
            replace b1 := (hk1.cell (p := ⟨k6.heap.size, 1, none⟩) LT9).trans b1
            replace b2 := (hk1.cell (p := ⟨k6.heap.size, 2, none⟩) LT9).trans b2
            replace b3 := (hk1.cell (p := ⟨k6.heap.size, 3, none⟩) LT9).trans b3
            replace b4 := (hk1.cell (p := ⟨k6.heap.size, 4, none⟩) LT9).trans b4
            replace b5 := (hk1.cell (p := ⟨k6.heap.size, 5, none⟩) LT9).trans b5
            replace b6 := (hk1.cell (p := ⟨k6.heap.size, 6, none⟩) LT9).trans b6
            replace b7 := (hk1.cell (p := ⟨k6.heap.size, 7, none⟩) LT9).trans b7
            replace b8 := (hk1.cell (p := ⟨k6.heap.size, 8, none⟩) LT9).trans b8
            replace hR : Below k7.heap.size k7 k11 := hR.trans hk1
            replace hb : Below w.heap.size w k11 := hb.trans (hk1.mono (by first | exact hwR | exact hb.size))
            have lt0 : k6.heap.size < k11.heap.size := LT9
            clear hk1 hgw
            try dsimp only
            refine hK.out _ _ ?_ (fun hHeld => ?_)
            · exact ⟨b0, b1, b2, b3, b4, b5, b6, b7, b8, hR⟩
            clear hK K
            try simp only [Act.put, List.setIfInBounds_toArray, List.set_cons_zero, List.set_cons_succ]
            refine wpAnyH_ready (rs := [10]) (by kernel_rfl) (by simp) ?_
            refine AllReadyH.cons (o := { dst := some 56, op := Op.call { callee := Callee.builtin Builtin.append, args := #[Operand.tmp 52, Operand.tmp 55], argTypes := #[29, 29] }, type := 29, pos := "wide.go:27", after := #[{ on := 6, ground := Ground.data }, { on := 9, ground := Ground.data }, { on := 6, ground := Ground.chain }], guard := none }) rfl (fun K hK => ?_) (AllReadyH.nil)
            rw [if_pos (by rfl)]
            refine wp_append_ops _ _ rfl k7.heap.size _ (.slice A2 (t + 1) c2) _ (T1 ++ [badO]) T2 rfl HW2.out rfl (HT2.out.keep hR (Nat.le_refl _)) (by have := HL2.out; have := HT2L.out; omega) hR.size ?_
            intro v1 k12 ho1 hk1 hgw
            rw [HX.out] at ho1
            obtain ⟨Ax, cx, rfl⟩ := own_slice ho1
            have hz1 := hk1.size
            have HW3 := Lib.hid ho1; clear ho1 HW2
            replace b0 := (hk1.cell (p := ⟨k6.heap.size, 0, none⟩) LT9).trans b0
            replace b1 := (hk1.cell (p := ⟨k6.heap.size, 1, none⟩) LT9).trans b1
            replace b2 := (hk1.cell (p := ⟨k6.heap.size, 2, none⟩) LT9).trans b2
            replace b3 := (hk1.cell (p := ⟨k6.heap.size, 3, none⟩) LT9).trans b3
            replace b4 := (hk1.cell (p := ⟨k6.heap.size, 4, none⟩) LT9).trans b4
            replace b5 := (hk1.cell (p := ⟨k6.heap.size, 5, none⟩) LT9).trans b5
            replace b6 := (hk1.cell (p := ⟨k6.heap.size, 6, none⟩) LT9).trans b6
            replace b7 := (hk1.cell (p := ⟨k6.heap.size, 7, none⟩) LT9).trans b7
            replace b8 := (hk1.cell (p := ⟨k6.heap.size, 8, none⟩) LT9).trans b8
            replace hR : Below k7.heap.size k7 k12 := hR.trans hk1
            replace hb : Below w.heap.size w k12 := hb.trans (hk1.mono (by first | exact hwR | exact hb.size))
            have lt0 : k6.heap.size < k12.heap.size := LT9
            clear hk1 hgw
            try dsimp only
            refine hK.out _ _ ?_ (fun hHeld => ?_)
            · exact ⟨b0, b1, b2, b3, b4, b5, b6, b7, b8, hR⟩
            clear hK K
            try simp only [Act.put, List.setIfInBounds_toArray, List.set_cons_zero, List.set_cons_succ]
            refine wpAnyH_ready (rs := [11]) (by kernel_rfl) (by simp) ?_
            refine AllReadyH.cons (o := { dst := some 11, op := Op.assign (Operand.tmp 56), type := 29, pos := "wide.go:27", after := #[{ on := 10, ground := Ground.data }, { on := 10, ground := Ground.chain }, { on := 0, ground := Ground.phase }, { on := 1, ground := Ground.phase }, { on := 2, ground := Ground.phase }, { on := 3, ground := Ground.phase }, { on := 4, ground := Ground.phase }, { on := 5, ground := Ground.phase }, { on := 6, ground := Ground.phase }, { on := 7, ground := Ground.phase }, { on := 8, ground := Ground.phase }, { on := 9, ground := Ground.phase }, { on := 10, ground := Ground.phase }], guard := none }) rfl (fun K hK => ?_) (AllReadyH.nil)
            go_simp
            refine hK.out _ _ ?_ (fun hHeld => ?_)
            · exact ⟨b0, b1, b2, b3, b4, b5, b6, b7, b8, hR⟩
            clear hK K
            try simp only [Act.put, List.setIfInBounds_toArray, List.set_cons_zero, List.set_cons_succ]
            refine wpAnyH_done (by kernel_rfl) ?_ _
            refine NoPanic.normal ?_
            replace HOm := Lib.hid (ownsRow_below HOm.out hR)
            replace HOn := Lib.hid (ownsRow_below HOn.out hR)
            replace HD := Lib.hid (Dc.below HD.out hR)
            replace HT1 := Lib.hid (Ops.more (Ops.keep HT1.out hR (Nat.le_refl _)) (Below.size hR))
            replace HT2 := Lib.hid (Ops.more (Ops.keep HT2.out hR (Nat.le_refl _)) (Below.size hR))
            clear HT1
            clear HT2
            go_wp2_with fail
            refine (lrapply_is 0 _ _ _ [] r m e1 _ (prs_nil _ _) (Nat.zero_le _) (Ops.of_own (ownsRow_below HOm.out BL9)) (Nat.le_refl _) gd_nil HOKm.out HR.out).mono ?_
            rintro e k13 ⟨Ar, cr, rfl, hp9, h⟩
            have hk : Below k12.heap.size k12 k13 := HK9 h
            have hz := h.size
            try simp at hz
            replace b0 : k13.cell? ⟨k6.heap.size, 0, none⟩ = some (.int .i64 3) := (hk.cell (p := ⟨k6.heap.size, 0, none⟩) LT9).trans b0
            replace b1 : k13.cell? ⟨k6.heap.size, 1, none⟩ = some (.string ⟨#[110, 111, 32, 115, 117, 99, 104, 32, 107, 101, 121]⟩) := (hk.cell (p := ⟨k6.heap.size, 1, none⟩) LT9).trans b1
            replace b2 : k13.cell? ⟨k6.heap.size, 2, none⟩ = some (.int .i64 1) := (hk.cell (p := ⟨k6.heap.size, 2, none⟩) LT9).trans b2
            replace b3 : k13.cell? ⟨k6.heap.size, 3, none⟩ = some (.int .i64 2) := (hk.cell (p := ⟨k6.heap.size, 3, none⟩) LT9).trans b3
            replace b4 : k13.cell? ⟨k6.heap.size, 4, none⟩ = some (.string ⟨#[]⟩) := (hk.cell (p := ⟨k6.heap.size, 4, none⟩) LT9).trans b4
            replace b5 : k13.cell? ⟨k6.heap.size, 5, none⟩ = some (.int .i64 1) := (hk.cell (p := ⟨k6.heap.size, 5, none⟩) LT9).trans b5
            replace b6 : k13.cell? ⟨k6.heap.size, 6, none⟩ = some (.int .i64 1) := (hk.cell (p := ⟨k6.heap.size, 6, none⟩) LT9).trans b6
            replace b7 : k13.cell? ⟨k6.heap.size, 7, none⟩ = some (.string ⟨#[]⟩) := (hk.cell (p := ⟨k6.heap.size, 7, none⟩) LT9).trans b7
            replace b8 : k13.cell? ⟨k6.heap.size, 8, none⟩ = some (.int .i64 0) := (hk.cell (p := ⟨k6.heap.size, 8, none⟩) LT9).trans b8
            have r0 : k13.cell? ⟨k12.heap.size, 0, none⟩ = some (.slice none 0 0) := (h.cell (p := ⟨k12.heap.size, 0, none⟩) LT9).trans (by go_simp)
            have rf : k13.frozen? ⟨k12.heap.size, 0, none⟩ = false := (h.frozen (p := ⟨k12.heap.size, 0, none⟩) LT9).trans (by go_simp)
            replace HOm := Lib.hid (ownsRow_below HOm.out hk)
            replace HOn := Lib.hid (ownsRow_below HOn.out hk)
            replace HD := Lib.hid (Dc.below HD.out hk)
            replace HW3 := Lib.hid (ownsRow_below HW3.out hk)
            replace hb : Below w.heap.size w k13 := hb.trans (hk.mono hb.size)
            have lt0 : k6.heap.size < k13.heap.size := LT9
            have lt1 : k12.heap.size < k13.heap.size := LT9
            have HBR := Lib.hid (Bx1.below (Bx1.new _ 28 (.slice none 0 0)) h)
            have HP := Lib.hid hp9; clear hp9
            clear h hk
            go_wp2_with fail
            obtain ⟨k14, hk14⟩ : ∃ x, k13.setCell ⟨k12.heap.size, 0, none⟩ (.slice Ar r.length cr) = x := ⟨_, rfl⟩
            replace HOm := Lib.hid (box_own (u := .slice Ar r.length cr) HOm.out HBR.out (by decide))
            rw [hk14] at HOm
            replace HOn := Lib.hid (box_own (u := .slice Ar r.length cr) HOn.out HBR.out (by decide))
            rw [hk14] at HOn
            replace HD := Lib.hid (box_doc (u := .slice Ar r.length cr) HD.out HBR.out (by decide) (by decide))
            rw [hk14] at HD
            replace HW3 := Lib.hid (box_own (u := .slice Ar r.length cr) HW3.out HBR.out (by decide))
            rw [hk14] at HW3
            replace HP := Lib.hid (box_prs (u := .slice Ar r.length cr) HP.out HBR.out)
            rw [hk14] at HP
            replace HBR := Lib.hid (Bx1.set HBR.out (.slice Ar r.length cr))
            rw [hk14] at HBR
            replace b0 : k14.cell? ⟨k6.heap.size, 0, none⟩ = some (.int .i64 3) := by rw [← hk14]; exact (World.cell?_setCell_other _ _ _ _ (fun e => by injection e with e; omega)).trans b0
            replace b1 : k14.cell? ⟨k6.heap.size, 1, none⟩ = some (.string ⟨#[110, 111, 32, 115, 117, 99, 104, 32, 107, 101, 121]⟩) := by rw [← hk14]; exact (World.cell?_setCell_other _ _ _ _ (fun e => by injection e with e; omega)).trans b1
            replace b2 : k14.cell? ⟨k6.heap.size, 2, none⟩ = some (.int .i64 1) := by rw [← hk14]; exact (World.cell?_setCell_other _ _ _ _ (fun e => by injection e with e; omega)).trans b2
            replace b3 : k14.cell? ⟨k6.heap.size, 3, none⟩ = some (.int .i64 2) := by rw [← hk14]; exact (World.cell?_setCell_other _ _ _ _ (fun e => by injection e with e; omega)).trans b3
            replace b4 : k14.cell? ⟨k6.heap.size, 4, none⟩ = some (.string ⟨#[]⟩) := by rw [← hk14]; exact (World.cell?_setCell_other _ _ _ _ (fun e => by injection e with e; omega)).trans b4
            replace b5 : k14.cell? ⟨k6.heap.size, 5, none⟩ = some (.int .i64 1) := by rw [← hk14]; exact (World.cell?_setCell_other _ _ _ _ (fun e => by injection e with e; omega)).trans b5
            replace b6 : k14.cell? ⟨k6.heap.size, 6, none⟩ = some (.int .i64 1) := by rw [← hk14]; exact (World.cell?_setCell_other _ _ _ _ (fun e => by injection e with e; omega)).trans b6
            replace b7 : k14.cell? ⟨k6.heap.size, 7, none⟩ = some (.string ⟨#[]⟩) := by rw [← hk14]; exact (World.cell?_setCell_other _ _ _ _ (fun e => by injection e with e; omega)).trans b7
            replace b8 : k14.cell? ⟨k6.heap.size, 8, none⟩ = some (.int .i64 0) := by rw [← hk14]; exact (World.cell?_setCell_other _ _ _ _ (fun e => by injection e with e; omega)).trans b8
            replace r0 : k14.cell? ⟨k12.heap.size, 0, none⟩ = some (.slice Ar r.length cr) := Bx1.cell HBR.out
            replace rf : k14.frozen? ⟨k12.heap.size, 0, none⟩ = false := Bx1.frz HBR.out
            have hzk14 : k14.heap.size = k13.heap.size := by rw [← hk14]; exact nblk_set _ _ _
            replace hb : Below w.heap.size w k14 := by
              rw [← hk14]
              exact hb.setCell (by first | omega | (simp; omega)) _
            rw [← hzk14] at HP
            rw [hk14]
            clear hk14
            have lt0 : k6.heap.size < k14.heap.size := LT9
            have lt1 : k12.heap.size < k14.heap.size := LT9
            refine (lrapply_is _ _ _ _ r r2 X e2 _ (Prs.keep HP.out BL9 (Nat.le_refl _)) (by first | exact Nat.le_refl _ | (simp; done) | (simp; omega) | omega) (Ops.of_own (ownsRow_below HW3.out BL9)) (Nat.le_refl _) hgr9 HXX.out HQ.out).mono ?_
            rintro e k15 ⟨Aq, cq, rfl, hq9, h⟩
            have hk : Below k14.heap.size k14 k15 := HK9 h
            have hz := h.size
            try simp at hz
            replace b0 : k15.cell? ⟨k6.heap.size, 0, none⟩ = some (.int .i64 3) := (hk.cell (p := ⟨k6.heap.size, 0, none⟩) LT9).trans b0
            replace b1 : k15.cell? ⟨k6.heap.size, 1, none⟩ = some (.string ⟨#[110, 111, 32, 115, 117, 99, 104, 32, 107, 101, 121]⟩) := (hk.cell (p := ⟨k6.heap.size, 1, none⟩) LT9).trans b1
            replace b2 : k15.cell? ⟨k6.heap.size, 2, none⟩ = some (.int .i64 1) := (hk.cell (p := ⟨k6.heap.size, 2, none⟩) LT9).trans b2
            replace b3 : k15.cell? ⟨k6.heap.size, 3, none⟩ = some (.int .i64 2) := (hk.cell (p := ⟨k6.heap.size, 3, none⟩) LT9).trans b3
            replace b4 : k15.cell? ⟨k6.heap.size, 4, none⟩ = some (.string ⟨#[]⟩) := (hk.cell (p := ⟨k6.heap.size, 4, none⟩) LT9).trans b4
            replace b5 : k15.cell? ⟨k6.heap.size, 5, none⟩ = some (.int .i64 1) := (hk.cell (p := ⟨k6.heap.size, 5, none⟩) LT9).trans b5
            replace b6 : k15.cell? ⟨k6.heap.size, 6, none⟩ = some (.int .i64 1) := (hk.cell (p := ⟨k6.heap.size, 6, none⟩) LT9).trans b6
            replace b7 : k15.cell? ⟨k6.heap.size, 7, none⟩ = some (.string ⟨#[]⟩) := (hk.cell (p := ⟨k6.heap.size, 7, none⟩) LT9).trans b7
            replace b8 : k15.cell? ⟨k6.heap.size, 8, none⟩ = some (.int .i64 0) := (hk.cell (p := ⟨k6.heap.size, 8, none⟩) LT9).trans b8
            replace r0 : k15.cell? ⟨k12.heap.size, 0, none⟩ = some (.slice Ar r.length cr) := (hk.cell (p := ⟨k12.heap.size, 0, none⟩) LT9).trans r0
            replace rf : k15.frozen? ⟨k12.heap.size, 0, none⟩ = false := (hk.frozen (p := ⟨k12.heap.size, 0, none⟩) LT9).trans rf
            replace HOm := Lib.hid (ownsRow_below HOm.out hk)
            replace HOn := Lib.hid (ownsRow_below HOn.out hk)
            replace HD := Lib.hid (Dc.below HD.out hk)
            replace HW3 := Lib.hid (ownsRow_below HW3.out hk)
            replace HBR := Lib.hid (Bx1.below HBR.out hk)
            replace HP := Lib.hid (Prs.more (Prs.keep HP.out hk (Nat.le_refl _)) (Below.size hk))
            replace hb : Below w.heap.size w k15 := hb.trans (hk.mono hb.size)
            have lt0 : k6.heap.size < k15.heap.size := LT9
            have lt1 : k12.heap.size < k15.heap.size := LT9
            clear h hk
            clear hq9
            go_wp2_with fail
            refine (lapply_is w.heap.size _ _ _ r r2 X e2 _ (Dc.below HD.out BL9) (Ops.of_own (ownsRow_below HW3.out BL9)) (Nat.le_refl _) HXX.out HQ.out).mono ?_
            rintro e k16 ⟨rfl, hd9, hgr⟩
            have hz9 := hgr.size
            have hbe : Below k15.heap.size k15 _ := Below.refl _ _
            clear hbe
            try simp at hz9
            replace hb : Below w.heap.size w k16 := Dc.frame (w0 := w) (hb := hgr) (h := Dc.below HD.out BL9) (h0 := (BB9 hb)) (hB := by have := hb.size; first | omega | (simp; omega))
            replace HOm := Lib.hid (ownsRow_grown (hb := hgr) (h := ownsRow_below HOm.out BL9) (hd := Dc.below HD.out BL9) (hne := by decide))
            replace HOn := Lib.hid (ownsRow_grown (hb := hgr) (h := ownsRow_below HOn.out BL9) (hd := Dc.below HD.out BL9) (hne := by decide))
            replace HW3 := Lib.hid (ownsRow_grown (hb := hgr) (h := ownsRow_below HW3.out BL9) (hd := Dc.below HD.out BL9) (hne := by decide))
            replace HBR := Lib.hid (Bx1.grown (hb := hgr) (h := Bx1.below HBR.out BL9) (hd := Dc.below HD.out BL9) (ht := by decide))
            replace HP := Lib.hid (Prs.more (prs_grown (hb := hgr) (h := Prs.keep HP.out BL9 (Nat.le_refl _)) (hd := Dc.below HD.out BL9)) (Nat.le_trans LT9 hgr.size))
            have b0N : k16.cell? ⟨k6.heap.size, 0, none⟩ = some (.int .i64 3) := (hgr.cell_far ⟨k6.heap.size, 0, none⟩ LT9 (fun e => by injection e with e; simp only at e; omega)).trans (by go_simp)
            clear b0
            have b0 := b0N; clear b0N
            have b1N : k16.cell? ⟨k6.heap.size, 1, none⟩ = some (.string ⟨#[110, 111, 32, 115, 117, 99, 104, 32, 107, 101, 121]⟩) := (hgr.cell_far ⟨k6.heap.size, 1, none⟩ LT9 (fun e => by injection e with e; simp only at e; omega)).trans (by go_simp)
            clear b1
            have b1 := b1N; clear b1N
            have b2N : k16.cell? ⟨k6.heap.size, 2, none⟩ = some (.int .i64 1) := (hgr.cell_far ⟨k6.heap.size, 2, none⟩ LT9 (fun e => by injection e with e; simp only at e; omega)).trans (by go_simp)
            clear b2
            have b2 := b2N; clear b2N
            have b3N : k16.cell? ⟨k6.heap.size, 3, none⟩ = some (.int .i64 2) := (hgr.cell_far ⟨k6.heap.size, 3, none⟩ LT9 (fun e => by injection e with e; simp only at e; omega)).trans (by go_simp)
            clear b3
            have b3 := b3N; clear b3N
            have b4N : k16.cell? ⟨k6.heap.size, 4, none⟩ = some (.string ⟨#[]⟩) := (hgr.cell_far ⟨k6.heap.size, 4, none⟩ LT9 (fun e => by injection e with e; simp only at e; omega)).trans (by go_simp)
            clear b4
            have b4 := b4N; clear b4N
            have b5N : k16.cell? ⟨k6.heap.size, 5, none⟩ = some (.int .i64 1) := (hgr.cell_far ⟨k6.heap.size, 5, none⟩ LT9 (fun e => by injection e with e; simp only at e; omega)).trans (by go_simp)
            clear b5
            have b5 := b5N; clear b5N
            have b6N : k16.cell? ⟨k6.heap.size, 6, none⟩ = some (.int .i64 1) := (hgr.cell_far ⟨k6.heap.size, 6, none⟩ LT9 (fun e => by injection e with e; simp only at e; omega)).trans (by go_simp)
            clear b6
            have b6 := b6N; clear b6N
            have b7N : k16.cell? ⟨k6.heap.size, 7, none⟩ = some (.string ⟨#[]⟩) := (hgr.cell_far ⟨k6.heap.size, 7, none⟩ LT9 (fun e => by injection e with e; simp only at e; omega)).trans (by go_simp)
            clear b7
            have b7 := b7N; clear b7N
            have b8N : k16.cell? ⟨k6.heap.size, 8, none⟩ = some (.int .i64 0) := (hgr.cell_far ⟨k6.heap.size, 8, none⟩ LT9 (fun e => by injection e with e; simp only at e; omega)).trans (by go_simp)
            clear b8
            have b8 := b8N; clear b8N
            have r0N : k16.cell? ⟨k12.heap.size, 0, none⟩ = some (.slice Ar r.length cr) := (hgr.cell_far ⟨k12.heap.size, 0, none⟩ LT9 (fun e => by injection e with e; simp only at e; omega)).trans (by go_simp)
            clear r0
            have r0 := r0N; clear r0N
            have rfN : k16.frozen? ⟨k12.heap.size, 0, none⟩ = false := (hgr.frozen_far ⟨k12.heap.size, 0, none⟩ LT9 (fun e => by injection e with e; simp only at e; omega)).trans (by go_simp)
            clear rf
            have rf := rfN; clear rfN
            replace HD := Lib.hid hd9
            clear hd9
            have lt0 : k6.heap.size < k16.heap.size := LT9
            have lt1 : k12.heap.size < k16.heap.size := LT9
            clear hgr
            have hee : ((e2 : Int) == (e2 : Int)) = true := by simp
            by_cases he0 : e2 = 0
            · have he1 : ((e2 : Int) == 0) = true := by simp [he0]
              have he2 : (e2 : Int) = 0 := by omega
              go_wp2
              go_ret
              exact ⟨by first | rfl | simp, hb⟩
            · have he1 : ((e2 : Int) == 0) = false := by rw [beq_eq_false_iff_ne]; omega
              have he2 : ¬ ((e2 : Int) = 0) := by omega
              rw [HSAME.out he0] at HD
              go_wp2_with fail
              refine (lenc_is w.heap.size _ r L _ (Dc.below HD.out BL9) HL.out).mono ?_
              rintro e k17 ⟨gd2, cd2, rfl, hE, h⟩
              have hk : Below k16.heap.size k16 k17 := HK9 h
              have hz := h.size
              try simp at hz
              replace b0 : k17.cell? ⟨k6.heap.size, 0, none⟩ = some (.int .i64 3) := (hk.cell (p := ⟨k6.heap.size, 0, none⟩) LT9).trans b0
              replace b1 : k17.cell? ⟨k6.heap.size, 1, none⟩ = some (.string ⟨#[110, 111, 32, 115, 117, 99, 104, 32, 107, 101, 121]⟩) := (hk.cell (p := ⟨k6.heap.size, 1, none⟩) LT9).trans b1
              replace b2 : k17.cell? ⟨k6.heap.size, 2, none⟩ = some (.int .i64 1) := (hk.cell (p := ⟨k6.heap.size, 2, none⟩) LT9).trans b2
              replace b3 : k17.cell? ⟨k6.heap.size, 3, none⟩ = some (.int .i64 2) := (hk.cell (p := ⟨k6.heap.size, 3, none⟩) LT9).trans b3
              replace b4 : k17.cell? ⟨k6.heap.size, 4, none⟩ = some (.string ⟨#[]⟩) := (hk.cell (p := ⟨k6.heap.size, 4, none⟩) LT9).trans b4
              replace b5 : k17.cell? ⟨k6.heap.size, 5, none⟩ = some (.int .i64 1) := (hk.cell (p := ⟨k6.heap.size, 5, none⟩) LT9).trans b5
              replace b6 : k17.cell? ⟨k6.heap.size, 6, none⟩ = some (.int .i64 1) := (hk.cell (p := ⟨k6.heap.size, 6, none⟩) LT9).trans b6
              replace b7 : k17.cell? ⟨k6.heap.size, 7, none⟩ = some (.string ⟨#[]⟩) := (hk.cell (p := ⟨k6.heap.size, 7, none⟩) LT9).trans b7
              replace b8 : k17.cell? ⟨k6.heap.size, 8, none⟩ = some (.int .i64 0) := (hk.cell (p := ⟨k6.heap.size, 8, none⟩) LT9).trans b8
              replace r0 : k17.cell? ⟨k12.heap.size, 0, none⟩ = some (.slice Ar r.length cr) := (hk.cell (p := ⟨k12.heap.size, 0, none⟩) LT9).trans r0
              replace rf : k17.frozen? ⟨k12.heap.size, 0, none⟩ = false := (hk.frozen (p := ⟨k12.heap.size, 0, none⟩) LT9).trans rf
              replace HOm := Lib.hid (ownsRow_below HOm.out hk)
              replace HOn := Lib.hid (ownsRow_below HOn.out hk)
              replace HD := Lib.hid (Dc.below HD.out hk)
              replace HW3 := Lib.hid (ownsRow_below HW3.out hk)
              replace HBR := Lib.hid (Bx1.below HBR.out hk)
              replace HP := Lib.hid (Prs.more (Prs.keep HP.out hk (Nat.le_refl _)) (Below.size hk))
              replace hb : Below w.heap.size w k17 := hb.trans (hk.mono hb.size)
              have lt0 : k6.heap.size < k17.heap.size := LT9
              have lt1 : k12.heap.size < k17.heap.size := LT9
              clear h hk
              have hcv2 := conv6 (Byt.of_own hE) HS.out
              clear hE
              go_wp2
              go_ret
              exact ⟨by first | rfl | simp, hb⟩
        · obtain ⟨X0, hX0⟩ : ∃ X, n = X := ⟨_, rfl⟩
          have hXl : X0.length = n.length := by rw [← hX0]
          have hXo : ∀ x ∈ X0, x.ok := fun x hx => HOKn.out x (by rw [← hX0] at hx; exact hx)
          have hXops : Ops k6 k6.heap.size (.slice (some ⟨ga, 0, none⟩) X0.length cn) X0 := by rw [hXl, ← hX0]; exact Ops.of_own HOn.out
          obtain ⟨T1, hT1⟩ : ∃ T, X0.take t = T := ⟨_, rfl⟩
          obtain ⟨T2, hT2⟩ : ∃ T, X0.drop t = T := ⟨_, rfl⟩
          have hT1l : T1.length = t := by rw [← hT1, List.length_take]; omega
          have hT2l : T2.length = n.length - t := by rw [← hT2, List.length_drop]; omega
          have hT1o : ∀ x ∈ T1, x.ok := fun x hx => hXo x (by rw [← hT1] at hx; exact List.mem_of_mem_take hx)
          have hT2o : ∀ x ∈ T2, x.ok := fun x hx => hXo x (by rw [← hT2] at hx; exact List.mem_of_mem_drop hx)
          have HT1 := Lib.hid (show Ops k6 k6.heap.size (.slice (some ⟨ga, 0, none⟩) t cn) T1 by rw [← hT1]; exact ops_take hXops (by omega))
          have HT2 := Lib.hid (show Ops k6 k6.heap.size (.slice (some ⟨ga, t * 9, none⟩) (n.length - t) (cn - t)) T2 by
            rw [← hT2]
            rw [← hXl]; exact ops_drop hXops (by omega) _ (by omega))
          clear hXops hT1 hT2 hX0 hXo
          have hnt : ¬ cn = t := by omega
          have hnt2 : ¬ (cn < t) := by omega
          have hXX : ∀ x ∈ T1 ++ [badO] ++ T2, x.ok := fun x hx => by
            simp only [List.mem_append, List.mem_singleton] at hx
            rcases hx with (hx | rfl) | hx
            · exact hT1o x hx
            · exact badO_ok
            · exact hT2o x hx
          obtain ⟨X, hX⟩ : ∃ X, T1 ++ [badO] ++ T2 = X := ⟨_, rfl⟩
          rw [hX] at hXX
          have HX := Lib.hid hX; clear hX
          have HXX := Lib.hid hXX; clear hXX hT1o hT2o
          have HT1L := Lib.hid hT1l; clear hT1l
          have hT2u : T2.length ≤ 20 := by omega
          have HT2L := Lib.hid hT2u; clear hT2l hT2u
          obtain ⟨⟨r2, e2⟩, hq⟩ : ∃ x, dApply r X = x := ⟨_, rfl⟩
          have hgr2 : Gd r2 := by have := hgr9.apply HXX.out; rw [hq] at this; exact this
          have hsame : e2 ≠ 0 → r2 = r := fun h => by have := dApply_err (l := r) (os := X) (by rw [hq]; exact h); rw [hq] at this; exact this
          have HQ := Lib.hid hq; clear hq
          have HSAME := Lib.hid hsame; clear hsame
          go_wp2_with fail
          refine wp_world (fun W => W.cell? ⟨k6.heap.size, 0, none⟩ = some (.int .i64 3) ∧ W.cell? ⟨k6.heap.size, 1, none⟩ = some (.string ⟨#[110, 111, 32, 115, 117, 99, 104, 32, 107, 101, 121]⟩) ∧ W.cell? ⟨k6.heap.size, 2, none⟩ = some (.int .i64 1) ∧ W.cell? ⟨k6.heap.size, 3, none⟩ = some (.int .i64 2) ∧ W.cell? ⟨k6.heap.size, 4, none⟩ = some (.string ⟨#[]⟩) ∧ W.cell? ⟨k6.heap.size, 5, none⟩ = some (.int .i64 1) ∧ W.cell? ⟨k6.heap.size, 6, none⟩ = some (.int .i64 1) ∧ W.cell? ⟨k6.heap.size, 7, none⟩ = some (.string ⟨#[]⟩) ∧ W.cell? ⟨k6.heap.size, 8, none⟩ = some (.int .i64 0) ∧ Below (k6.heap.size) k6 W ∧ k6.heap.size + 1 ≤ W.heap.size) ⟨(by go_simp), (by go_simp), (by go_simp), (by go_simp), (by go_simp), (by go_simp), (by go_simp), (by go_simp), (by go_simp), BL9, LT9⟩ ?_
          rintro k7 ⟨b0, b1, b2, b3, b4, b5, b6, b7, b8, hk, hz⟩
          replace HOm := Lib.hid (ownsRow_below HOm.out hk)
          replace HOn := Lib.hid (ownsRow_below HOn.out hk)
          replace HD := Lib.hid (Dc.below HD.out hk)
          replace HT1 := Lib.hid (Ops.more (Ops.keep HT1.out hk (Nat.le_refl _)) (Below.size hk))
          replace HT2 := Lib.hid (Ops.more (Ops.keep HT2.out hk (Nat.le_refl _)) (Below.size hk))
          replace hb : Below w.heap.size w k7 := hb.trans (hk.mono (by first | exact hb.size | omega | (simp; omega)))
          have lt0 : k6.heap.size < k7.heap.size := LT9
          clear hk
          have hwR : w.heap.size ≤ k7.heap.size := hb.size
          have hbR := hb
          replace b0 : k7.drew.cell? ⟨k6.heap.size, 0, none⟩ = some (.int .i64 3) := b0
          replace b1 : k7.drew.cell? ⟨k6.heap.size, 1, none⟩ = some (.string ⟨#[110, 111, 32, 115, 117, 99, 104, 32, 107, 101, 121]⟩) := b1
          replace b2 : k7.drew.cell? ⟨k6.heap.size, 2, none⟩ = some (.int .i64 1) := b2
          replace b3 : k7.drew.cell? ⟨k6.heap.size, 3, none⟩ = some (.int .i64 2) := b3
          replace b4 : k7.drew.cell? ⟨k6.heap.size, 4, none⟩ = some (.string ⟨#[]⟩) := b4
          replace b5 : k7.drew.cell? ⟨k6.heap.size, 5, none⟩ = some (.int .i64 1) := b5
          replace b6 : k7.drew.cell? ⟨k6.heap.size, 6, none⟩ = some (.int .i64 1) := b6
          replace b7 : k7.drew.cell? ⟨k6.heap.size, 7, none⟩ = some (.string ⟨#[]⟩) := b7
          replace b8 : k7.drew.cell? ⟨k6.heap.size, 8, none⟩ = some (.int .i64 0) := b8
          have hR : Below k7.heap.size k7 k7.drew := (Below.refl k7.heap.size k7).drew
          refine wp_region_noPanic ?_
          refine wp_region_held_drew (S := fun W => W.cell? ⟨k6.heap.size, 0, none⟩ = some (.int .i64 3) ∧ W.cell? ⟨k6.heap.size, 1, none⟩ = some (.string ⟨#[110, 111, 32, 115, 117, 99, 104, 32, 107, 101, 121]⟩) ∧ W.cell? ⟨k6.heap.size, 2, none⟩ = some (.int .i64 1) ∧ W.cell? ⟨k6.heap.size, 3, none⟩ = some (.int .i64 2) ∧ W.cell? ⟨k6.heap.size, 4, none⟩ = some (.string ⟨#[]⟩) ∧ W.cell? ⟨k6.heap.size, 5, none⟩ = some (.int .i64 1) ∧ W.cell? ⟨k6.heap.size, 6, none⟩ = some (.int .i64 1) ∧ W.cell? ⟨k6.heap.size, 7, none⟩ = some (.string ⟨#[]⟩) ∧ W.cell? ⟨k6.heap.size, 8, none⟩ = some (.int .i64 0) ∧ Below k7.heap.size k7 W) (by kernel_rfl) ?_ (fun hHeld => ?_)
          · exact ⟨b0, b1, b2, b3, b4, b5, b6, b7, b8, hR⟩
          replace hb : Below w.heap.size w k7.drew := hb.drew
          replace lt0 : k6.heap.size < k7.drew.heap.size := lt0
          have hzd : k7.heap.size ≤ k7.drew.heap.size := Nat.le_refl _
          generalize k7.drew = k8 at *
          refine wpAnyH_take (i := 0) (oi := { dst := some 46, op := Op.move (Operand.tmp 1), type := 29, pos := "wide.go:27", after := #[], guard := none }) (v := .slice (some ⟨ga, 0, none⟩) n.length cn) rfl (by kernel_rfl) (by kernel_rfl) (by kernel_rfl) (fun _ _ _ h => h) (Or.inl ⟨by rfl, fun w hSw => ?_⟩) (by assumption) ?_
          · (try dsimp only at hSw)
            go_simp
          try simp only [Act.put, List.setIfInBounds_toArray, List.set_cons_zero, List.set_cons_succ]
          refine wpAnyH_take (i := 1) (oi := { dst := some 47, op := Op.move (Operand.tmp 2), type := 3, pos := "wide.go:27", after := #[], guard := none }) (v := .int .i64 (t : Int)) rfl (by kernel_rfl) (by kernel_rfl) (by kernel_rfl) (fun _ _ _ h => h) (Or.inl ⟨by rfl, fun w hSw => ?_⟩) (by assumption) ?_
          · (try dsimp only at hSw)
            go_simp
          try simp only [Act.put, List.setIfInBounds_toArray, List.set_cons_zero, List.set_cons_succ]
          refine wpAnyH_take (i := 2) (oi := { dst := some 48, op := Op.slice 29 (Operand.tmp 46) none (some (Operand.tmp 47)) none, type := 29, pos := "wide.go:27", after := #[{ on := 0, ground := Ground.data }, { on := 1, ground := Ground.data }], guard := none }) (v := .slice (some ⟨ga, 0, none⟩) t cn) rfl (by kernel_rfl) (by kernel_rfl) (by kernel_rfl) (fun _ _ _ h => h) (Or.inl ⟨by rfl, fun w hSw => ?_⟩) (by assumption) ?_
          · (try dsimp only at hSw)
            go_simp
          try simp only [Act.put, List.setIfInBounds_toArray, List.set_cons_zero, List.set_cons_succ]
          refine wpAnyH_take (i := 4) (oi := { dst := some 50, op := Op.load 49 (Operand.tmp 10), type := 49, pos := "wide.go:27", after := #[], guard := none }) (v := .agg #[.int .i64 3, .string ⟨#[110, 111, 32, 115, 117, 99, 104, 32, 107, 101, 121]⟩, .int .i64 1, .int .i64 2, .string ⟨#[]⟩, .int .i64 1, .int .i64 1, .string ⟨#[]⟩, .int .i64 0]) rfl (by kernel_rfl) (by kernel_rfl) (by kernel_rfl) (fun _ _ _ h => h) (Or.inl ⟨by rfl, fun w hSw => ?_⟩) (by assumption) ?_
          · (try dsimp only at hSw)
            go_simp
          try simp only [Act.put, List.setIfInBounds_toArray, List.set_cons_zero, List.set_cons_succ]
          refine wpAnyH_take (i := 7) (oi := { dst := some 53, op := Op.move (Operand.tmp 1), type := 29, pos := "wide.go:27", after := #[], guard := none }) (v := .slice (some ⟨ga, 0, none⟩) n.length cn) rfl (by kernel_rfl) (by kernel_rfl) (by kernel_rfl) (fun _ _ _ h => h) (Or.inl ⟨by rfl, fun w hSw => ?_⟩) (by assumption) ?_
          · (try dsimp only at hSw)
            go_simp
          try simp only [Act.put, List.setIfInBounds_toArray, List.set_cons_zero, List.set_cons_succ]
          refine wpAnyH_take (i := 8) (oi := { dst := some 54, op := Op.move (Operand.tmp 2), type := 3, pos := "wide.go:27", after := #[], guard := none }) (v := .int .i64 (t : Int)) rfl (by kernel_rfl) (by kernel_rfl) (by kernel_rfl) (fun _ _ _ h => h) (Or.inl ⟨by rfl, fun w hSw => ?_⟩) (by assumption) ?_
          · (try dsimp only at hSw)
            go_simp
          try simp only [Act.put, List.setIfInBounds_toArray, List.set_cons_zero, List.set_cons_succ]
          refine wpAnyH_take (i := 9) (oi := { dst := some 55, op := Op.slice 29 (Operand.tmp 53) (some (Operand.tmp 54)) none none, type := 29, pos := "wide.go:27", after := #[{ on := 7, ground := Ground.data }, { on := 8, ground := Ground.data }], guard := none }) (v := .slice (some ⟨ga, t * 9, none⟩) (n.length - t) (cn - t)) rfl (by kernel_rfl) (by kernel_rfl) (by kernel_rfl) (fun _ _ _ h => h) (Or.inl ⟨by rfl, fun w hSw => ?_⟩) (by assumption) ?_
          · (try dsimp only at hSw)
            go_simp
          try simp only [Act.put, List.setIfInBounds_toArray, List.set_cons_zero, List.set_cons_succ]
          refine wpAnyH_ready (rs := [3, 5]) (by kernel_rfl) (by simp) ?_
          refine AllReadyH.cons (o := { dst := some 49, op := Op.call { callee := Callee.builtin Builtin.append, args := #[Operand.const (Value.slice none 0 0), Operand.tmp 48], argTypes := #[29, 29] }, type := 29, pos := "wide.go:27", after := #[{ on := 2, ground := Ground.data }], guard := none }) rfl (fun K hK => ?_) (AllReadyH.cons (o := { dst := some 51, op := Op.buildSlice 29 1 #[(0, Operand.tmp 50)], type := 29, pos := "wide.go:27", after := #[{ on := 4, ground := Ground.data }], guard := none }) rfl (fun K hK => ?_) (AllReadyH.nil))
          · rw [if_pos (by rfl)]
            refine wp_append_ops _ _ rfl k8.heap.size _ (.slice none 0 0) _ [] T1 rfl (World.ownsRow_nil _ _ _ _) rfl (HT1.out.keep hR (Nat.le_refl _)) (by have := HT1L.out; simp; omega) (Nat.le_refl _) ?_
            intro v1 k9 ho1 hk1 hgw
            have hRs := hR.size
            rw [List.nil_append] at ho1
            obtain ⟨A1, c1, hv1⟩ := own_slice ho1
            rw [HT1L.out] at hv1
            subst hv1
            have hz1 := hk1.size
            have HW1 := Lib.hid (ownsRow_down (B := k7.heap.size) ho1 hRs); clear ho1 hRs
            replace b0 := (hk1.cell (p := ⟨k6.heap.size, 0, none⟩) LT9).trans b0
            replace b1 := (hk1.cell (p := ⟨k6.heap.size, 1, none⟩) LT9).trans b1
            replace b2 := (hk1.cell (p := ⟨k6.heap.size, 2, none⟩) LT9).trans b2
            replace b3 := (hk1.cell (p := ⟨k6.heap.size, 3, none⟩) LT9).trans b3
            replace b4 := (hk1.cell (p := ⟨k6.heap.size, 4, none⟩) LT9).trans b4
            replace b5 := (hk1.cell (p := ⟨k6.heap.size, 5, none⟩) LT9).trans b5
            replace b6 := (hk1.cell (p := ⟨k6.heap.size, 6, none⟩) LT9).trans b6
            replace b7 := (hk1.cell (p := ⟨k6.heap.size, 7, none⟩) LT9).trans b7
            replace b8 := (hk1.cell (p := ⟨k6.heap.size, 8, none⟩) LT9).trans b8
            replace hR : Below k7.heap.size k7 k9 := hR.trans (hk1.mono hR.size)
            replace hb : Below w.heap.size w k9 := hb.trans (hk1.mono (by first | exact hwR | exact hb.size))
            have lt0 : k6.heap.size < k9.heap.size := LT9
            clear hk1 hgw
            try dsimp only
            refine hK.out _ _ ?_ (fun hHeld => ?_)
            · exact ⟨b0, b1, b2, b3, b4, b5, b6, b7, b8, hR⟩
            clear hK K
            try simp only [Act.put, List.setIfInBounds_toArray, List.set_cons_zero, List.set_cons_succ]
            refine wpAnyH_ready (rs := [5]) (by kernel_rfl) (by simp) ?_
            refine AllReadyH.cons (o := { dst := some 51, op := Op.buildSlice 29 1 #[(0, Operand.tmp 50)], type := 29, pos := "wide.go:27", after := #[{ on := 4, ground := Ground.data }], guard := none }) rfl (fun K hK => ?_) (AllReadyH.nil)
            go_simp
            have hop := ops_new k9 _ [badO] rfl
            have hk1 := below_one k9 (.cells #[.int .i64 3, .string ⟨#[110, 111, 32, 115, 117, 99, 104, 32, 107, 101, 121]⟩, .int .i64 1, .int .i64 2, .string ⟨#[]⟩, .int .i64 1, .int .i64 1, .string ⟨#[]⟩, .int .i64 0] 49)
            have hz1 : k9.heap.size + 1 = (k9.alloc (.cells #[.int .i64 3, .string ⟨#[110, 111, 32, 115, 117, 99, 104, 32, 107, 101, 121]⟩, .int .i64 1, .int .i64 2, .string ⟨#[]⟩, .int .i64 1, .int .i64 1, .string ⟨#[]⟩, .int .i64 0] 49)).heap.size := by simp
            have hop2 : Ops (k9.alloc (.cells #[.int .i64 3, .string ⟨#[110, 111, 32, 115, 117, 99, 104, 32, 107, 101, 121]⟩, .int .i64 1, .int .i64 2, .string ⟨#[]⟩, .int .i64 1, .int .i64 1, .string ⟨#[]⟩, .int .i64 0] 49)) (k9.heap.size + 1) (.slice (some ⟨k9.heap.size, 0, none⟩) 1 1) [badO] := hop
            clear hop
            obtain ⟨GD, hGD⟩ : ∃ G, k9.heap.size = G := ⟨_, rfl⟩
            obtain ⟨k10, hk9⟩ : ∃ x, k9.alloc (.cells #[.int .i64 3, .string ⟨#[110, 111, 32, 115, 117, 99, 104, 32, 107, 101, 121]⟩, .int .i64 1, .int .i64 2, .string ⟨#[]⟩, .int .i64 1, .int .i64 1, .string ⟨#[]⟩, .int .i64 0] 49) = x := ⟨_, rfl⟩
            rw [hk9] at hop2 hk1 hz1 ⊢
            clear hk9
            have HBD := Lib.hid (Ops.more hop2 (Nat.le_of_eq hz1)); clear hop2
            have hbd9 : GD < k10.heap.size := by omega
            rw [hGD] at HBD ⊢
            replace b0 := (hk1.cell (p := ⟨k6.heap.size, 0, none⟩) LT9).trans b0
            replace b1 := (hk1.cell (p := ⟨k6.heap.size, 1, none⟩) LT9).trans b1
            replace b2 := (hk1.cell (p := ⟨k6.heap.size, 2, none⟩) LT9).trans b2
            replace b3 := (hk1.cell (p := ⟨k6.heap.size, 3, none⟩) LT9).trans b3
            replace b4 := (hk1.cell (p := ⟨k6.heap.size, 4, none⟩) LT9).trans b4
            replace b5 := (hk1.cell (p := ⟨k6.heap.size, 5, none⟩) LT9).trans b5
            replace b6 := (hk1.cell (p := ⟨k6.heap.size, 6, none⟩) LT9).trans b6
            replace b7 := (hk1.cell (p := ⟨k6.heap.size, 7, none⟩) LT9).trans b7
            replace b8 := (hk1.cell (p := ⟨k6.heap.size, 8, none⟩) LT9).trans b8
            replace HW1 := Lib.hid (ownsRow_below HW1.out hk1)
            replace hR : Below k7.heap.size k7 k10 := hR.trans (hk1.mono hR.size)
            replace hb : Below w.heap.size w k10 := hb.trans (hk1.mono (by first | exact hwR | exact hb.size))
            have lt0 : k6.heap.size < k10.heap.size := LT9
            clear hk1
            try dsimp only
            refine hK.out _ _ ?_ (fun hHeld => ?_)
            · exact ⟨b0, b1, b2, b3, b4, b5, b6, b7, b8, hR⟩
            clear hK K
            try simp only [Act.put, List.setIfInBounds_toArray, List.set_cons_zero, List.set_cons_succ]
            refine wpAnyH_ready (rs := [6]) (by kernel_rfl) (by simp) ?_
            refine AllReadyH.cons (o := { dst := some 52, op := Op.call { callee := Callee.builtin Builtin.append, args := #[Operand.tmp 49, Operand.tmp 51], argTypes := #[29, 29] }, type := 29, pos := "wide.go:27", after := #[{ on := 3, ground := Ground.data }, { on := 5, ground := Ground.data }, { on := 3, ground := Ground.chain }], guard := none }) rfl (fun K hK => ?_) (AllReadyH.nil)
            rw [if_pos (by rfl)]
            refine wp_append_ops _ _ rfl k7.heap.size _ (.slice A1 t c1) _ T1 [badO] rfl HW1.out rfl HBD.out (by have := HT1L.out; simp; omega) hR.size ?_
            intro v1 k11 ho1 hk1 hgw
            obtain ⟨A2, c2, hv1⟩ := own_slice ho1
            have hl2 : (T1 ++ [badO]).length = t + 1 := by rw [List.length_append, HT1L.out]; rfl
            rw [hl2] at hv1
            subst hv1
            have HL2 := Lib.hid hl2; clear hl2
            have hz1 := hk1.size
            have HW2 := Lib.hid ho1; clear ho1 HW1 HBD
            replace b0 := (hk1.cell (p := ⟨k6.heap.size, 0, none⟩) LT9).trans b0
            replace b1 := (hk1.cell (p := ⟨k6.heap.size, 1, none⟩) LT9).trans b1
            replace b2 := (hk1.cell (p := ⟨k6.heap.size, 2, none⟩) LT9).trans b2
            replace b3 := (hk1.cell (p := ⟨k6.heap.size, 3, none⟩) LT9).trans b3
            replace b4 := (hk1.cell (p := ⟨k6.heap.size, 4, none⟩) LT9).trans b4
            replace b5 := (hk1.cell (p := ⟨k6.heap.size, 5, none⟩) LT9).trans b5
            replace b6 := (hk1.cell (p := ⟨k6.heap.size, 6, none⟩) LT9).trans b6
            replace b7 := (hk1.cell (p := ⟨k6.heap.size, 7, none⟩) LT9).trans b7
            replace b8 := (hk1.cell (p := ⟨k6.heap.size, 8, none⟩) LT9).trans b8
            replace hR : Below k7.heap.size k7 k11 := hR.trans hk1
            replace hb : Below w.heap.size w k11 := hb.trans (hk1.mono (by first | exact hwR | exact hb.size))
            have lt0 : k6.heap.size < k11.heap.size := LT9
            clear hk1 hgw
            try dsimp only
            refine hK.out _ _ ?_ (fun hHeld => ?_)
            · exact ⟨b0, b1, b2, b3, b4, b5, b6, b7, b8, hR⟩
            clear hK K
            try simp only [Act.put, List.setIfInBounds_toArray, List.set_cons_zero, List.set_cons_succ]
            refine wpAnyH_ready (rs := [10]) (by kernel_rfl) (by simp) ?_
            refine AllReadyH.cons (o := { dst := some 56, op := Op.call { callee := Callee.builtin Builtin.append, args := #[Operand.tmp 52, Operand.tmp 55], argTypes := #[29, 29] }, type := 29, pos := "wide.go:27", after := #[{ on := 6, ground := Ground.data }, { on := 9, ground := Ground.data }, { on := 6, ground := Ground.chain }], guard := none }) rfl (fun K hK => ?_) (AllReadyH.nil)
            rw [if_pos (by rfl)]
            refine wp_append_ops _ _ rfl k7.heap.size _ (.slice A2 (t + 1) c2) _ (T1 ++ [badO]) T2 rfl HW2.out rfl (HT2.out.keep hR (Nat.le_refl _)) (by have := HL2.out; have := HT2L.out; omega) hR.size ?_
            intro v1 k12 ho1 hk1 hgw
            rw [HX.out] at ho1
            obtain ⟨Ax, cx, rfl⟩ := own_slice ho1
            have hz1 := hk1.size
            have HW3 := Lib.hid ho1; clear ho1 HW2
            replace b0 := (hk1.cell (p := ⟨k6.heap.size, 0, none⟩) LT9).trans b0
            replace b1 := (hk1.cell (p := ⟨k6.heap.size, 1, none⟩) LT9).trans b1
            replace b2 := (hk1.cell (p := ⟨k6.heap.size, 2, none⟩) LT9).trans b2
            replace b3 := (hk1.cell (p := ⟨k6.heap.size, 3, none⟩) LT9).trans b3
            replace b4 := (hk1.cell (p := ⟨k6.heap.size, 4, none⟩) LT9).trans b4
            replace b5 := (hk1.cell (p := ⟨k6.heap.size, 5, none⟩) LT9).trans b5
            replace b6 := (hk1.cell (p := ⟨k6.heap.size, 6, none⟩) LT9).trans b6
            replace b7 := (hk1.cell (p := ⟨k6.heap.size, 7, none⟩) LT9).trans b7
            replace b8 := (hk1.cell (p := ⟨k6.heap.size, 8, none⟩) LT9).trans b8
            replace hR : Below k7.heap.size k7 k12 := hR.trans hk1
            replace hb : Below w.heap.size w k12 := hb.trans (hk1.mono (by first | exact hwR | exact hb.size))
            have lt0 : k6.heap.size < k12.heap.size := LT9
            clear hk1 hgw
            try dsimp only
            refine hK.out _ _ ?_ (fun hHeld => ?_)
            · exact ⟨b0, b1, b2, b3, b4, b5, b6, b7, b8, hR⟩
            clear hK K
            try simp only [Act.put, List.setIfInBounds_toArray, List.set_cons_zero, List.set_cons_succ]
            refine wpAnyH_ready (rs := [11]) (by kernel_rfl) (by simp) ?_
            refine AllReadyH.cons (o := { dst := some 11, op := Op.assign (Operand.tmp 56), type := 29, pos := "wide.go:27", after := #[{ on := 10, ground := Ground.data }, { on := 10, ground := Ground.chain }, { on := 0, ground := Ground.phase }, { on := 1, ground := Ground.phase }, { on := 2, ground := Ground.phase }, { on := 3, ground := Ground.phase }, { on := 4, ground := Ground.phase }, { on := 5, ground := Ground.phase }, { on := 6, ground := Ground.phase }, { on := 7, ground := Ground.phase }, { on := 8, ground := Ground.phase }, { on := 9, ground := Ground.phase }, { on := 10, ground := Ground.phase }], guard := none }) rfl (fun K hK => ?_) (AllReadyH.nil)
            go_simp
            refine hK.out _ _ ?_ (fun hHeld => ?_)
            · exact ⟨b0, b1, b2, b3, b4, b5, b6, b7, b8, hR⟩
            clear hK K
            try simp only [Act.put, List.setIfInBounds_toArray, List.set_cons_zero, List.set_cons_succ]
            refine wpAnyH_done (by kernel_rfl) ?_ _
            refine NoPanic.normal ?_
            replace HOm := Lib.hid (ownsRow_below HOm.out hR)
            replace HOn := Lib.hid (ownsRow_below HOn.out hR)
            replace HD := Lib.hid (Dc.below HD.out hR)
            replace HT1 := Lib.hid (Ops.more (Ops.keep HT1.out hR (Nat.le_refl _)) (Below.size hR))
            replace HT2 := Lib.hid (Ops.more (Ops.keep HT2.out hR (Nat.le_refl _)) (Below.size hR))
            clear HT1
            clear HT2
            go_wp2_with fail
            refine (lrapply_is 0 _ _ _ [] r m e1 _ (prs_nil _ _) (Nat.zero_le _) (Ops.of_own (ownsRow_below HOm.out BL9)) (Nat.le_refl _) gd_nil HOKm.out HR.out).mono ?_
            rintro e k13 ⟨Ar, cr, rfl, hp9, h⟩
            have hk : Below k12.heap.size k12 k13 := HK9 h
            have hz := h.size
            try simp at hz
            replace b0 : k13.cell? ⟨k6.heap.size, 0, none⟩ = some (.int .i64 3) := (hk.cell (p := ⟨k6.heap.size, 0, none⟩) LT9).trans b0
            replace b1 : k13.cell? ⟨k6.heap.size, 1, none⟩ = some (.string ⟨#[110, 111, 32, 115, 117, 99, 104, 32, 107, 101, 121]⟩) := (hk.cell (p := ⟨k6.heap.size, 1, none⟩) LT9).trans b1
            replace b2 : k13.cell? ⟨k6.heap.size, 2, none⟩ = some (.int .i64 1) := (hk.cell (p := ⟨k6.heap.size, 2, none⟩) LT9).trans b2
            replace b3 : k13.cell? ⟨k6.heap.size, 3, none⟩ = some (.int .i64 2) := (hk.cell (p := ⟨k6.heap.size, 3, none⟩) LT9).trans b3
            replace b4 : k13.cell? ⟨k6.heap.size, 4, none⟩ = some (.string ⟨#[]⟩) := (hk.cell (p := ⟨k6.heap.size, 4, none⟩) LT9).trans b4
            replace b5 : k13.cell? ⟨k6.heap.size, 5, none⟩ = some (.int .i64 1) := (hk.cell (p := ⟨k6.heap.size, 5, none⟩) LT9).trans b5
            replace b6 : k13.cell? ⟨k6.heap.size, 6, none⟩ = some (.int .i64 1) := (hk.cell (p := ⟨k6.heap.size, 6, none⟩) LT9).trans b6
            replace b7 : k13.cell? ⟨k6.heap.size, 7, none⟩ = some (.string ⟨#[]⟩) := (hk.cell (p := ⟨k6.heap.size, 7, none⟩) LT9).trans b7
            replace b8 : k13.cell? ⟨k6.heap.size, 8, none⟩ = some (.int .i64 0) := (hk.cell (p := ⟨k6.heap.size, 8, none⟩) LT9).trans b8
            have r0 : k13.cell? ⟨k12.heap.size, 0, none⟩ = some (.slice none 0 0) := (h.cell (p := ⟨k12.heap.size, 0, none⟩) LT9).trans (by go_simp)
            have rf : k13.frozen? ⟨k12.heap.size, 0, none⟩ = false := (h.frozen (p := ⟨k12.heap.size, 0, none⟩) LT9).trans (by go_simp)
            replace HOm := Lib.hid (ownsRow_below HOm.out hk)
            replace HOn := Lib.hid (ownsRow_below HOn.out hk)
            replace HD := Lib.hid (Dc.below HD.out hk)
            replace HW3 := Lib.hid (ownsRow_below HW3.out hk)
            replace hb : Below w.heap.size w k13 := hb.trans (hk.mono hb.size)
            have lt0 : k6.heap.size < k13.heap.size := LT9
            have lt1 : k12.heap.size < k13.heap.size := LT9
            have HBR := Lib.hid (Bx1.below (Bx1.new _ 28 (.slice none 0 0)) h)
            have HP := Lib.hid hp9; clear hp9
            clear h hk
            go_wp2_with fail
            obtain ⟨k14, hk14⟩ : ∃ x, k13.setCell ⟨k12.heap.size, 0, none⟩ (.slice Ar r.length cr) = x := ⟨_, rfl⟩
            replace HOm := Lib.hid (box_own (u := .slice Ar r.length cr) HOm.out HBR.out (by decide))
            rw [hk14] at HOm
            replace HOn := Lib.hid (box_own (u := .slice Ar r.length cr) HOn.out HBR.out (by decide))
            rw [hk14] at HOn
            replace HD := Lib.hid (box_doc (u := .slice Ar r.length cr) HD.out HBR.out (by decide) (by decide))
            rw [hk14] at HD
            replace HW3 := Lib.hid (box_own (u := .slice Ar r.length cr) HW3.out HBR.out (by decide))
            rw [hk14] at HW3
            replace HP := Lib.hid (box_prs (u := .slice Ar r.length cr) HP.out HBR.out)
            rw [hk14] at HP
            replace HBR := Lib.hid (Bx1.set HBR.out (.slice Ar r.length cr))
            rw [hk14] at HBR
            replace b0 : k14.cell? ⟨k6.heap.size, 0, none⟩ = some (.int .i64 3) := by rw [← hk14]; exact (World.cell?_setCell_other _ _ _ _ (fun e => by injection e with e; omega)).trans b0
            replace b1 : k14.cell? ⟨k6.heap.size, 1, none⟩ = some (.string ⟨#[110, 111, 32, 115, 117, 99, 104, 32, 107, 101, 121]⟩) := by rw [← hk14]; exact (World.cell?_setCell_other _ _ _ _ (fun e => by injection e with e; omega)).trans b1
            replace b2 : k14.cell? ⟨k6.heap.size, 2, none⟩ = some (.int .i64 1) := by rw [← hk14]; exact (World.cell?_setCell_other _ _ _ _ (fun e => by injection e with e; omega)).trans b2
            replace b3 : k14.cell? ⟨k6.heap.size, 3, none⟩ = some (.int .i64 2) := by rw [← hk14]; exact (World.cell?_setCell_other _ _ _ _ (fun e => by injection e with e; omega)).trans b3
            replace b4 : k14.cell? ⟨k6.heap.size, 4, none⟩ = some (.string ⟨#[]⟩) := by rw [← hk14]; exact (World.cell?_setCell_other _ _ _ _ (fun e => by injection e with e; omega)).trans b4
            replace b5 : k14.cell? ⟨k6.heap.size, 5, none⟩ = some (.int .i64 1) := by rw [← hk14]; exact (World.cell?_setCell_other _ _ _ _ (fun e => by injection e with e; omega)).trans b5
            replace b6 : k14.cell? ⟨k6.heap.size, 6, none⟩ = some (.int .i64 1) := by rw [← hk14]; exact (World.cell?_setCell_other _ _ _ _ (fun e => by injection e with e; omega)).trans b6
            replace b7 : k14.cell? ⟨k6.heap.size, 7, none⟩ = some (.string ⟨#[]⟩) := by rw [← hk14]; exact (World.cell?_setCell_other _ _ _ _ (fun e => by injection e with e; omega)).trans b7
            replace b8 : k14.cell? ⟨k6.heap.size, 8, none⟩ = some (.int .i64 0) := by rw [← hk14]; exact (World.cell?_setCell_other _ _ _ _ (fun e => by injection e with e; omega)).trans b8
            replace r0 : k14.cell? ⟨k12.heap.size, 0, none⟩ = some (.slice Ar r.length cr) := Bx1.cell HBR.out
            replace rf : k14.frozen? ⟨k12.heap.size, 0, none⟩ = false := Bx1.frz HBR.out
            have hzk14 : k14.heap.size = k13.heap.size := by rw [← hk14]; exact nblk_set _ _ _
            replace hb : Below w.heap.size w k14 := by
              rw [← hk14]
              exact hb.setCell (by first | omega | (simp; omega)) _
            rw [← hzk14] at HP
            rw [hk14]
            clear hk14
            have lt0 : k6.heap.size < k14.heap.size := LT9
            have lt1 : k12.heap.size < k14.heap.size := LT9
            refine (lrapply_is _ _ _ _ r r2 X e2 _ (Prs.keep HP.out BL9 (Nat.le_refl _)) (by first | exact Nat.le_refl _ | (simp; done) | (simp; omega) | omega) (Ops.of_own (ownsRow_below HW3.out BL9)) (Nat.le_refl _) hgr9 HXX.out HQ.out).mono ?_
            rintro e k15 ⟨Aq, cq, rfl, hq9, h⟩
            have hk : Below k14.heap.size k14 k15 := HK9 h
            have hz := h.size
            try simp at hz
            replace b0 : k15.cell? ⟨k6.heap.size, 0, none⟩ = some (.int .i64 3) := (hk.cell (p := ⟨k6.heap.size, 0, none⟩) LT9).trans b0
            replace b1 : k15.cell? ⟨k6.heap.size, 1, none⟩ = some (.string ⟨#[110, 111, 32, 115, 117, 99, 104, 32, 107, 101, 121]⟩) := (hk.cell (p := ⟨k6.heap.size, 1, none⟩) LT9).trans b1
            replace b2 : k15.cell? ⟨k6.heap.size, 2, none⟩ = some (.int .i64 1) := (hk.cell (p := ⟨k6.heap.size, 2, none⟩) LT9).trans b2
            replace b3 : k15.cell? ⟨k6.heap.size, 3, none⟩ = some (.int .i64 2) := (hk.cell (p := ⟨k6.heap.size, 3, none⟩) LT9).trans b3
            replace b4 : k15.cell? ⟨k6.heap.size, 4, none⟩ = some (.string ⟨#[]⟩) := (hk.cell (p := ⟨k6.heap.size, 4, none⟩) LT9).trans b4
            replace b5 : k15.cell? ⟨k6.heap.size, 5, none⟩ = some (.int .i64 1) := (hk.cell (p := ⟨k6.heap.size, 5, none⟩) LT9).trans b5
            replace b6 : k15.cell? ⟨k6.heap.size, 6, none⟩ = some (.int .i64 1) := (hk.cell (p := ⟨k6.heap.size, 6, none⟩) LT9).trans b6
            replace b7 : k15.cell? ⟨k6.heap.size, 7, none⟩ = some (.string ⟨#[]⟩) := (hk.cell (p := ⟨k6.heap.size, 7, none⟩) LT9).trans b7
            replace b8 : k15.cell? ⟨k6.heap.size, 8, none⟩ = some (.int .i64 0) := (hk.cell (p := ⟨k6.heap.size, 8, none⟩) LT9).trans b8
            replace r0 : k15.cell? ⟨k12.heap.size, 0, none⟩ = some (.slice Ar r.length cr) := (hk.cell (p := ⟨k12.heap.size, 0, none⟩) LT9).trans r0
            replace rf : k15.frozen? ⟨k12.heap.size, 0, none⟩ = false := (hk.frozen (p := ⟨k12.heap.size, 0, none⟩) LT9).trans rf
            replace HOm := Lib.hid (ownsRow_below HOm.out hk)
            replace HOn := Lib.hid (ownsRow_below HOn.out hk)
            replace HD := Lib.hid (Dc.below HD.out hk)
            replace HW3 := Lib.hid (ownsRow_below HW3.out hk)
            replace HBR := Lib.hid (Bx1.below HBR.out hk)
            replace HP := Lib.hid (Prs.more (Prs.keep HP.out hk (Nat.le_refl _)) (Below.size hk))
            replace hb : Below w.heap.size w k15 := hb.trans (hk.mono hb.size)
            have lt0 : k6.heap.size < k15.heap.size := LT9
            have lt1 : k12.heap.size < k15.heap.size := LT9
            clear h hk
            clear hq9
            go_wp2_with fail
            refine (lapply_is w.heap.size _ _ _ r r2 X e2 _ (Dc.below HD.out BL9) (Ops.of_own (ownsRow_below HW3.out BL9)) (Nat.le_refl _) HXX.out HQ.out).mono ?_
            rintro e k16 ⟨rfl, hd9, hgr⟩
            have hz9 := hgr.size
            have hbe : Below k15.heap.size k15 _ := Below.refl _ _
            clear hbe
            try simp at hz9
            replace hb : Below w.heap.size w k16 := Dc.frame (w0 := w) (hb := hgr) (h := Dc.below HD.out BL9) (h0 := (BB9 hb)) (hB := by have := hb.size; first | omega | (simp; omega))
            replace HOm := Lib.hid (ownsRow_grown (hb := hgr) (h := ownsRow_below HOm.out BL9) (hd := Dc.below HD.out BL9) (hne := by decide))
            replace HOn := Lib.hid (ownsRow_grown (hb := hgr) (h := ownsRow_below HOn.out BL9) (hd := Dc.below HD.out BL9) (hne := by decide))
            replace HW3 := Lib.hid (ownsRow_grown (hb := hgr) (h := ownsRow_below HW3.out BL9) (hd := Dc.below HD.out BL9) (hne := by decide))
            replace HBR := Lib.hid (Bx1.grown (hb := hgr) (h := Bx1.below HBR.out BL9) (hd := Dc.below HD.out BL9) (ht := by decide))
            replace HP := Lib.hid (Prs.more (prs_grown (hb := hgr) (h := Prs.keep HP.out BL9 (Nat.le_refl _)) (hd := Dc.below HD.out BL9)) (Nat.le_trans LT9 hgr.size))
            have b0N : k16.cell? ⟨k6.heap.size, 0, none⟩ = some (.int .i64 3) := (hgr.cell_far ⟨k6.heap.size, 0, none⟩ LT9 (fun e => by injection e with e; simp only at e; omega)).trans (by go_simp)
            clear b0
            have b0 := b0N; clear b0N
            have b1N : k16.cell? ⟨k6.heap.size, 1, none⟩ = some (.string ⟨#[110, 111, 32, 115, 117, 99, 104, 32, 107, 101, 121]⟩) := (hgr.cell_far ⟨k6.heap.size, 1, none⟩ LT9 (fun e => by injection e with e; simp only at e; omega)).trans (by go_simp)
            clear b1
            have b1 := b1N; clear b1N
            have b2N : k16.cell? ⟨k6.heap.size, 2, none⟩ = some (.int .i64 1) := (hgr.cell_far ⟨k6.heap.size, 2, none⟩ LT9 (fun e => by injection e with e; simp only at e; omega)).trans (by go_simp)
            clear b2
            have b2 := b2N; clear b2N
            have b3N : k16.cell? ⟨k6.heap.size, 3, none⟩ = some (.int .i64 2) := (hgr.cell_far ⟨k6.heap.size, 3, none⟩ LT9 (fun e => by injection e with e; simp only at e; omega)).trans (by go_simp)
            clear b3
            have b3 := b3N; clear b3N
            have b4N : k16.cell? ⟨k6.heap.size, 4, none⟩ = some (.string ⟨#[]⟩) := (hgr.cell_far ⟨k6.heap.size, 4, none⟩ LT9 (fun e => by injection e with e; simp only at e; omega)).trans (by go_simp)
            clear b4
            have b4 := b4N; clear b4N
            have b5N : k16.cell? ⟨k6.heap.size, 5, none⟩ = some (.int .i64 1) := (hgr.cell_far ⟨k6.heap.size, 5, none⟩ LT9 (fun e => by injection e with e; simp only at e; omega)).trans (by go_simp)
            clear b5
            have b5 := b5N; clear b5N
            have b6N : k16.cell? ⟨k6.heap.size, 6, none⟩ = some (.int .i64 1) := (hgr.cell_far ⟨k6.heap.size, 6, none⟩ LT9 (fun e => by injection e with e; simp only at e; omega)).trans (by go_simp)
            clear b6
            have b6 := b6N; clear b6N
            have b7N : k16.cell? ⟨k6.heap.size, 7, none⟩ = some (.string ⟨#[]⟩) := (hgr.cell_far ⟨k6.heap.size, 7, none⟩ LT9 (fun e => by injection e with e; simp only at e; omega)).trans (by go_simp)
            clear b7
            have b7 := b7N; clear b7N
            have b8N : k16.cell? ⟨k6.heap.size, 8, none⟩ = some (.int .i64 0) := (hgr.cell_far ⟨k6.heap.size, 8, none⟩ LT9 (fun e => by injection e with e; simp only at e; omega)).trans (by go_simp)
            clear b8
            have b8 := b8N; clear b8N
            have r0N : k16.cell? ⟨k12.heap.size, 0, none⟩ = some (.slice Ar r.length cr) := (hgr.cell_far ⟨k12.heap.size, 0, none⟩ LT9 (fun e => by injection e with e; simp only at e; omega)).trans (by go_simp)
            clear r0
            have r0 := r0N; clear r0N
            have rfN : k16.frozen? ⟨k12.heap.size, 0, none⟩ = false := (hgr.frozen_far ⟨k12.heap.size, 0, none⟩ LT9 (fun e => by injection e with e; simp only at e; omega)).trans (by go_simp)
            clear rf
            have rf := rfN; clear rfN
            replace HD := Lib.hid hd9
            clear hd9
            have lt0 : k6.heap.size < k16.heap.size := LT9
            have lt1 : k12.heap.size < k16.heap.size := LT9
            clear hgr
            have hee : ((e2 : Int) == (e2 : Int)) = true := by simp
            by_cases he0 : e2 = 0
            · have he1 : ((e2 : Int) == 0) = true := by simp [he0]
              have he2 : (e2 : Int) = 0 := by omega
              go_wp2
              go_ret
              exact ⟨by first | rfl | simp, hb⟩
            · have he1 : ((e2 : Int) == 0) = false := by rw [beq_eq_false_iff_ne]; omega
              have he2 : ¬ ((e2 : Int) = 0) := by omega
              rw [HSAME.out he0] at HD
              go_wp2_with fail
              refine (lenc_is w.heap.size _ r L _ (Dc.below HD.out BL9) HL.out).mono ?_
              rintro e k17 ⟨gd2, cd2, rfl, hE, h⟩
              have hk : Below k16.heap.size k16 k17 := HK9 h
              have hz := h.size
              try simp at hz
              replace b0 : k17.cell? ⟨k6.heap.size, 0, none⟩ = some (.int .i64 3) := (hk.cell (p := ⟨k6.heap.size, 0, none⟩) LT9).trans b0
              replace b1 : k17.cell? ⟨k6.heap.size, 1, none⟩ = some (.string ⟨#[110, 111, 32, 115, 117, 99, 104, 32, 107, 101, 121]⟩) := (hk.cell (p := ⟨k6.heap.size, 1, none⟩) LT9).trans b1
              replace b2 : k17.cell? ⟨k6.heap.size, 2, none⟩ = some (.int .i64 1) := (hk.cell (p := ⟨k6.heap.size, 2, none⟩) LT9).trans b2
              replace b3 : k17.cell? ⟨k6.heap.size, 3, none⟩ = some (.int .i64 2) := (hk.cell (p := ⟨k6.heap.size, 3, none⟩) LT9).trans b3
              replace b4 : k17.cell? ⟨k6.heap.size, 4, none⟩ = some (.string ⟨#[]⟩) := (hk.cell (p := ⟨k6.heap.size, 4, none⟩) LT9).trans b4
              replace b5 : k17.cell? ⟨k6.heap.size, 5, none⟩ = some (.int .i64 1) := (hk.cell (p := ⟨k6.heap.size, 5, none⟩) LT9).trans b5
              replace b6 : k17.cell? ⟨k6.heap.size, 6, none⟩ = some (.int .i64 1) := (hk.cell (p := ⟨k6.heap.size, 6, none⟩) LT9).trans b6
              replace b7 : k17.cell? ⟨k6.heap.size, 7, none⟩ = some (.string ⟨#[]⟩) := (hk.cell (p := ⟨k6.heap.size, 7, none⟩) LT9).trans b7
              replace b8 : k17.cell? ⟨k6.heap.size, 8, none⟩ = some (.int .i64 0) := (hk.cell (p := ⟨k6.heap.size, 8, none⟩) LT9).trans b8
              replace r0 : k17.cell? ⟨k12.heap.size, 0, none⟩ = some (.slice Ar r.length cr) := (hk.cell (p := ⟨k12.heap.size, 0, none⟩) LT9).trans r0
              replace rf : k17.frozen? ⟨k12.heap.size, 0, none⟩ = false := (hk.frozen (p := ⟨k12.heap.size, 0, none⟩) LT9).trans rf
              replace HOm := Lib.hid (ownsRow_below HOm.out hk)
              replace HOn := Lib.hid (ownsRow_below HOn.out hk)
              replace HD := Lib.hid (Dc.below HD.out hk)
              replace HW3 := Lib.hid (ownsRow_below HW3.out hk)
              replace HBR := Lib.hid (Bx1.below HBR.out hk)
              replace HP := Lib.hid (Prs.more (Prs.keep HP.out hk (Nat.le_refl _)) (Below.size hk))
              replace hb : Below w.heap.size w k17 := hb.trans (hk.mono hb.size)
              have lt0 : k6.heap.size < k17.heap.size := LT9
              have lt1 : k12.heap.size < k17.heap.size := LT9
              clear h hk
              have hcv2 := conv6 (Byt.of_own hE) HS.out
              clear hE
              go_wp2
              go_ret
              exact ⟨by first | rfl | simp, hb⟩
          · go_simp
            have hop := ops_new k8 _ [badO] rfl
            have hk1 := below_one k8 (.cells #[.int .i64 3, .string ⟨#[110, 111, 32, 115, 117, 99, 104, 32, 107, 101, 121]⟩, .int .i64 1, .int .i64 2, .string ⟨#[]⟩, .int .i64 1, .int .i64 1, .string ⟨#[]⟩, .int .i64 0] 49)
            have hz1 : k8.heap.size + 1 = (k8.alloc (.cells #[.int .i64 3, .string ⟨#[110, 111, 32, 115, 117, 99, 104, 32, 107, 101, 121]⟩, .int .i64 1, .int .i64 2, .string ⟨#[]⟩, .int .i64 1, .int .i64 1, .string ⟨#[]⟩, .int .i64 0] 49)).heap.size := by simp
            have hop2 : Ops (k8.alloc (.cells #[.int .i64 3, .string ⟨#[110, 111, 32, 115, 117, 99, 104, 32, 107, 101, 121]⟩, .int .i64 1, .int .i64 2, .string ⟨#[]⟩, .int .i64 1, .int .i64 1, .string ⟨#[]⟩, .int .i64 0] 49)) (k8.heap.size + 1) (.slice (some ⟨k8.heap.size, 0, none⟩) 1 1) [badO] := hop
            clear hop
            obtain ⟨GD, hGD⟩ : ∃ G, k8.heap.size = G := ⟨_, rfl⟩
            obtain ⟨k9, hk9⟩ : ∃ x, k8.alloc (.cells #[.int .i64 3, .string ⟨#[110, 111, 32, 115, 117, 99, 104, 32, 107, 101, 121]⟩, .int .i64 1, .int .i64 2, .string ⟨#[]⟩, .int .i64 1, .int .i64 1, .string ⟨#[]⟩, .int .i64 0] 49) = x := ⟨_, rfl⟩
            rw [hk9] at hop2 hk1 hz1 ⊢
            clear hk9
            have HBD := Lib.hid (Ops.more hop2 (Nat.le_of_eq hz1)); clear hop2
            have hbd9 : GD < k9.heap.size := by omega
            rw [hGD] at HBD ⊢
            replace b0 := (hk1.cell (p := ⟨k6.heap.size, 0, none⟩) LT9).trans b0
            replace b1 := (hk1.cell (p := ⟨k6.heap.size, 1, none⟩) LT9).trans b1
            replace b2 := (hk1.cell (p := ⟨k6.heap.size, 2, none⟩) LT9).trans b2
            replace b3 := (hk1.cell (p := ⟨k6.heap.size, 3, none⟩) LT9).trans b3
            replace b4 := (hk1.cell (p := ⟨k6.heap.size, 4, none⟩) LT9).trans b4
            replace b5 := (hk1.cell (p := ⟨k6.heap.size, 5, none⟩) LT9).trans b5
            replace b6 := (hk1.cell (p := ⟨k6.heap.size, 6, none⟩) LT9).trans b6
            replace b7 := (hk1.cell (p := ⟨k6.heap.size, 7, none⟩) LT9).trans b7
            replace b8 := (hk1.cell (p := ⟨k6.heap.size, 8, none⟩) LT9).trans b8
            replace hR : Below k7.heap.size k7 k9 := hR.trans (hk1.mono hR.size)
            replace hb : Below w.heap.size w k9 := hb.trans (hk1.mono (by first | exact hwR | exact hb.size))
            have lt0 : k6.heap.size < k9.heap.size := LT9
            clear hk1
            try dsimp only
            refine hK.out _ _ ?_ (fun hHeld => ?_)
            · exact ⟨b0, b1, b2, b3, b4, b5, b6, b7, b8, hR⟩
            clear hK K
            try simp only [Act.put, List.setIfInBounds_toArray, List.set_cons_zero, List.set_cons_succ]
            refine wpAnyH_ready (rs := [3]) (by kernel_rfl) (by simp) ?_
            refine AllReadyH.cons (o := { dst := some 49, op := Op.call { callee := Callee.builtin Builtin.append, args := #[Operand.const (Value.slice none 0 0), Operand.tmp 48], argTypes := #[29, 29] }, type := 29, pos := "wide.go:27", after := #[{ on := 2, ground := Ground.data }], guard := none }) rfl (fun K hK => ?_) (AllReadyH.nil)
            rw [if_pos (by rfl)]
            refine wp_append_ops _ _ rfl k9.heap.size _ (.slice none 0 0) _ [] T1 rfl (World.ownsRow_nil _ _ _ _) rfl (HT1.out.keep hR (Nat.le_refl _)) (by have := HT1L.out; simp; omega) (Nat.le_refl _) ?_
            intro v1 k10 ho1 hk1 hgw
            have hRs := hR.size
            rw [List.nil_append] at ho1
            obtain ⟨A1, c1, hv1⟩ := own_slice ho1
            rw [HT1L.out] at hv1
            subst hv1
            have hz1 := hk1.size
            have HW1 := Lib.hid (ownsRow_down (B := k7.heap.size) ho1 hRs); clear ho1 hRs
            replace b0 := (hk1.cell (p := ⟨k6.heap.size, 0, none⟩) LT9).trans b0
            replace b1 := (hk1.cell (p := ⟨k6.heap.size, 1, none⟩) LT9).trans b1
            replace b2 := (hk1.cell (p := ⟨k6.heap.size, 2, none⟩) LT9).trans b2
            replace b3 := (hk1.cell (p := ⟨k6.heap.size, 3, none⟩) LT9).trans b3
            replace b4 := (hk1.cell (p := ⟨k6.heap.size, 4, none⟩) LT9).trans b4
            replace b5 := (hk1.cell (p := ⟨k6.heap.size, 5, none⟩) LT9).trans b5
            replace b6 := (hk1.cell (p := ⟨k6.heap.size, 6, none⟩) LT9).trans b6
            replace b7 := (hk1.cell (p := ⟨k6.heap.size, 7, none⟩) LT9).trans b7
            replace b8 := (hk1.cell (p := ⟨k6.heap.size, 8, none⟩) LT9).trans b8
            replace HBD := Lib.hid (Ops.more (Ops.keep HBD.out hk1 (Nat.le_refl _)) (Below.size hk1))
            replace hR : Below k7.heap.size k7 k10 := hR.trans (hk1.mono hR.size)
            replace hb : Below w.heap.size w k10 := hb.trans (hk1.mono (by first | exact hwR | exact hb.size))
            have lt0 : k6.heap.size < k10.heap.size := LT9
            clear hk1 hgw
            try dsimp only
            refine hK.out _ _ ?_ (fun hHeld => ?_)
            · exact ⟨b0, b1, b2, b3, b4, b5, b6, b7, b8, hR⟩
            clear hK K
            try simp only [Act.put, List.setIfInBounds_toArray, List.set_cons_zero, List.set_cons_succ]
            refine wpAnyH_ready (rs := [6]) (by kernel_rfl) (by simp) ?_
            refine AllReadyH.cons (o := { dst := some 52, op := Op.call { callee := Callee.builtin Builtin.append, args := #[Operand.tmp 49, Operand.tmp 51], argTypes := #[29, 29] }, type := 29, pos := "wide.go:27", after := #[{ on := 3, ground := Ground.data }, { on := 5, ground := Ground.data }, { on := 3, ground := Ground.chain }], guard := none }) rfl (fun K hK => ?_) (AllReadyH.nil)
            rw [if_pos (by rfl)]
            refine wp_append_ops _ _ rfl k7.heap.size _ (.slice A1 t c1) _ T1 [badO] rfl HW1.out rfl HBD.out (by have := HT1L.out; simp; omega) hR.size ?_
            intro v1 k11 ho1 hk1 hgw
            obtain ⟨A2, c2, hv1⟩ := own_slice ho1
            have hl2 : (T1 ++ [badO]).length = t + 1 := by rw [List.length_append, HT1L.out]; rfl
            rw [hl2] at hv1
            subst hv1
            have HL2 := Lib.hid hl2; clear hl2
            have hz1 := hk1.size
            have HW2 := Lib.hid ho1; clear ho1 HW1 HBD
            replace b0 := (hk1.cell (p := ⟨k6.heap.size, 0, none⟩) LT9).trans b0
            replace b1 := (hk1.cell (p := ⟨k6.heap.size, 1, none⟩) LT9).trans b1
            replace b2 := (hk1.cell (p := ⟨k6.heap.size, 2, none⟩) LT9).trans b2
            replace b3 := (hk1.cell (p := ⟨k6.heap.size, 3, none⟩) LT9).trans b3
            replace b4 := (hk1.cell (p := ⟨k6.heap.size, 4, none⟩) LT9).trans b4
            replace b5 := (hk1.cell (p := ⟨k6.heap.size, 5, none⟩) LT9).trans b5
            replace b6 := (hk1.cell (p := ⟨k6.heap.size, 6, none⟩) LT9).trans b6
            replace b7 := (hk1.cell (p := ⟨k6.heap.size, 7, none⟩) LT9).trans b7
            replace b8 := (hk1.cell (p := ⟨k6.heap.size, 8, none⟩) LT9).trans b8
            replace hR : Below k7.heap.size k7 k11 := hR.trans hk1
            replace hb : Below w.heap.size w k11 := hb.trans (hk1.mono (by first | exact hwR | exact hb.size))
            have lt0 : k6.heap.size < k11.heap.size := LT9
            clear hk1 hgw
            try dsimp only
            refine hK.out _ _ ?_ (fun hHeld => ?_)
            · exact ⟨b0, b1, b2, b3, b4, b5, b6, b7, b8, hR⟩
            clear hK K
            try simp only [Act.put, List.setIfInBounds_toArray, List.set_cons_zero, List.set_cons_succ]
            refine wpAnyH_ready (rs := [10]) (by kernel_rfl) (by simp) ?_
            refine AllReadyH.cons (o := { dst := some 56, op := Op.call { callee := Callee.builtin Builtin.append, args := #[Operand.tmp 52, Operand.tmp 55], argTypes := #[29, 29] }, type := 29, pos := "wide.go:27", after := #[{ on := 6, ground := Ground.data }, { on := 9, ground := Ground.data }, { on := 6, ground := Ground.chain }], guard := none }) rfl (fun K hK => ?_) (AllReadyH.nil)
            rw [if_pos (by rfl)]
            refine wp_append_ops _ _ rfl k7.heap.size _ (.slice A2 (t + 1) c2) _ (T1 ++ [badO]) T2 rfl HW2.out rfl (HT2.out.keep hR (Nat.le_refl _)) (by have := HL2.out; have := HT2L.out; omega) hR.size ?_
            intro v1 k12 ho1 hk1 hgw
            rw [HX.out] at ho1
            obtain ⟨Ax, cx, rfl⟩ := own_slice ho1
            have hz1 := hk1.size
            have HW3 := Lib.hid ho1; clear ho1 HW2
            replace b0 := (hk1.cell (p := ⟨k6.heap.size, 0, none⟩) LT9).trans b0
            replace b1 := (hk1.cell (p := ⟨k6.heap.size, 1, none⟩) LT9).trans b1
            replace b2 := (hk1.cell (p := ⟨k6.heap.size, 2, none⟩) LT9).trans b2
            replace b3 := (hk1.cell (p := ⟨k6.heap.size, 3, none⟩) LT9).trans b3
            replace b4 := (hk1.cell (p := ⟨k6.heap.size, 4, none⟩) LT9).trans b4
            replace b5 := (hk1.cell (p := ⟨k6.heap.size, 5, none⟩) LT9).trans b5
            replace b6 := (hk1.cell (p := ⟨k6.heap.size, 6, none⟩) LT9).trans b6
            replace b7 := (hk1.cell (p := ⟨k6.heap.size, 7, none⟩) LT9).trans b7
            replace b8 := (hk1.cell (p := ⟨k6.heap.size, 8, none⟩) LT9).trans b8
            replace hR : Below k7.heap.size k7 k12 := hR.trans hk1
            replace hb : Below w.heap.size w k12 := hb.trans (hk1.mono (by first | exact hwR | exact hb.size))
            have lt0 : k6.heap.size < k12.heap.size := LT9
            clear hk1 hgw
            try dsimp only
            refine hK.out _ _ ?_ (fun hHeld => ?_)
            · exact ⟨b0, b1, b2, b3, b4, b5, b6, b7, b8, hR⟩
            clear hK K
            try simp only [Act.put, List.setIfInBounds_toArray, List.set_cons_zero, List.set_cons_succ]
            refine wpAnyH_ready (rs := [11]) (by kernel_rfl) (by simp) ?_
            refine AllReadyH.cons (o := { dst := some 11, op := Op.assign (Operand.tmp 56), type := 29, pos := "wide.go:27", after := #[{ on := 10, ground := Ground.data }, { on := 10, ground := Ground.chain }, { on := 0, ground := Ground.phase }, { on := 1, ground := Ground.phase }, { on := 2, ground := Ground.phase }, { on := 3, ground := Ground.phase }, { on := 4, ground := Ground.phase }, { on := 5, ground := Ground.phase }, { on := 6, ground := Ground.phase }, { on := 7, ground := Ground.phase }, { on := 8, ground := Ground.phase }, { on := 9, ground := Ground.phase }, { on := 10, ground := Ground.phase }], guard := none }) rfl (fun K hK => ?_) (AllReadyH.nil)
            go_simp
            refine hK.out _ _ ?_ (fun hHeld => ?_)
            · exact ⟨b0, b1, b2, b3, b4, b5, b6, b7, b8, hR⟩
            clear hK K
            try simp only [Act.put, List.setIfInBounds_toArray, List.set_cons_zero, List.set_cons_succ]
            refine wpAnyH_done (by kernel_rfl) ?_ _
            refine NoPanic.normal ?_
            replace HOm := Lib.hid (ownsRow_below HOm.out hR)
            replace HOn := Lib.hid (ownsRow_below HOn.out hR)
            replace HD := Lib.hid (Dc.below HD.out hR)
            replace HT1 := Lib.hid (Ops.more (Ops.keep HT1.out hR (Nat.le_refl _)) (Below.size hR))
            replace HT2 := Lib.hid (Ops.more (Ops.keep HT2.out hR (Nat.le_refl _)) (Below.size hR))
            clear HT1
            clear HT2
            go_wp2_with fail
            refine (lrapply_is 0 _ _ _ [] r m e1 _ (prs_nil _ _) (Nat.zero_le _) (Ops.of_own (ownsRow_below HOm.out BL9)) (Nat.le_refl _) gd_nil HOKm.out HR.out).mono ?_
            rintro e k13 ⟨Ar, cr, rfl, hp9, h⟩
            have hk : Below k12.heap.size k12 k13 := HK9 h
            have hz := h.size
            try simp at hz
            replace b0 : k13.cell? ⟨k6.heap.size, 0, none⟩ = some (.int .i64 3) := (hk.cell (p := ⟨k6.heap.size, 0, none⟩) LT9).trans b0
            replace b1 : k13.cell? ⟨k6.heap.size, 1, none⟩ = some (.string ⟨#[110, 111, 32, 115, 117, 99, 104, 32, 107, 101, 121]⟩) := (hk.cell (p := ⟨k6.heap.size, 1, none⟩) LT9).trans b1
            replace b2 : k13.cell? ⟨k6.heap.size, 2, none⟩ = some (.int .i64 1) := (hk.cell (p := ⟨k6.heap.size, 2, none⟩) LT9).trans b2
            replace b3 : k13.cell? ⟨k6.heap.size, 3, none⟩ = some (.int .i64 2) := (hk.cell (p := ⟨k6.heap.size, 3, none⟩) LT9).trans b3
            replace b4 : k13.cell? ⟨k6.heap.size, 4, none⟩ = some (.string ⟨#[]⟩) := (hk.cell (p := ⟨k6.heap.size, 4, none⟩) LT9).trans b4
            replace b5 : k13.cell? ⟨k6.heap.size, 5, none⟩ = some (.int .i64 1) := (hk.cell (p := ⟨k6.heap.size, 5, none⟩) LT9).trans b5
            replace b6 : k13.cell? ⟨k6.heap.size, 6, none⟩ = some (.int .i64 1) := (hk.cell (p := ⟨k6.heap.size, 6, none⟩) LT9).trans b6
            replace b7 : k13.cell? ⟨k6.heap.size, 7, none⟩ = some (.string ⟨#[]⟩) := (hk.cell (p := ⟨k6.heap.size, 7, none⟩) LT9).trans b7
            replace b8 : k13.cell? ⟨k6.heap.size, 8, none⟩ = some (.int .i64 0) := (hk.cell (p := ⟨k6.heap.size, 8, none⟩) LT9).trans b8
            have r0 : k13.cell? ⟨k12.heap.size, 0, none⟩ = some (.slice none 0 0) := (h.cell (p := ⟨k12.heap.size, 0, none⟩) LT9).trans (by go_simp)
            have rf : k13.frozen? ⟨k12.heap.size, 0, none⟩ = false := (h.frozen (p := ⟨k12.heap.size, 0, none⟩) LT9).trans (by go_simp)
            replace HOm := Lib.hid (ownsRow_below HOm.out hk)
            replace HOn := Lib.hid (ownsRow_below HOn.out hk)
            replace HD := Lib.hid (Dc.below HD.out hk)
            replace HW3 := Lib.hid (ownsRow_below HW3.out hk)
            replace hb : Below w.heap.size w k13 := hb.trans (hk.mono hb.size)
            have lt0 : k6.heap.size < k13.heap.size := LT9
            have lt1 : k12.heap.size < k13.heap.size := LT9
            have HBR := Lib.hid (Bx1.below (Bx1.new _ 28 (.slice none 0 0)) h)
            have HP := Lib.hid hp9; clear hp9
            clear h hk
            go_wp2_with fail
            obtain ⟨k14, hk14⟩ : ∃ x, k13.setCell ⟨k12.heap.size, 0, none⟩ (.slice Ar r.length cr) = x := ⟨_, rfl⟩
            replace HOm := Lib.hid (box_own (u := .slice Ar r.length cr) HOm.out HBR.out (by decide))
            rw [hk14] at HOm
            replace HOn := Lib.hid (box_own (u := .slice Ar r.length cr) HOn.out HBR.out (by decide))
            rw [hk14] at HOn
            replace HD := Lib.hid (box_doc (u := .slice Ar r.length cr) HD.out HBR.out (by decide) (by decide))
            rw [hk14] at HD
            replace HW3 := Lib.hid (box_own (u := .slice Ar r.length cr) HW3.out HBR.out (by decide))
            rw [hk14] at HW3
            replace HP := Lib.hid (box_prs (u := .slice Ar r.length cr) HP.out HBR.out)
            rw [hk14] at HP
            replace HBR := Lib.hid (Bx1.set HBR.out (.slice Ar r.length cr))
            rw [hk14] at HBR
            replace b0 : k14.cell? ⟨k6.heap.size, 0, none⟩ = some (.int .i64 3) := by rw [← hk14]; exact (World.cell?_setCell_other _ _ _ _ (fun e => by injection e with e; omega)).trans b0
            replace b1 : k14.cell? ⟨k6.heap.size, 1, none⟩ = some (.string ⟨#[110, 111, 32, 115, 117, 99, 104, 32, 107, 101, 121]⟩) := by rw [← hk14]; exact (World.cell?_setCell_other _ _ _ _ (fun e => by injection e with e; omega)).trans b1
            replace b2 : k14.cell? ⟨k6.heap.size, 2, none⟩ = some (.int .i64 1) := by rw [← hk14]; exact (World.cell?_setCell_other _ _ _ _ (fun e => by injection e with e; omega)).trans b2
            replace b3 : k14.cell? ⟨k6.heap.size, 3, none⟩ = some (.int .i64 2) := by rw [← hk14]; exact (World.cell?_setCell_other _ _ _ _ (fun e => by injection e with e; omega)).trans b3
            replace b4 : k14.cell? ⟨k6.heap.size, 4, none⟩ = some (.string ⟨#[]⟩) := by rw [← hk14]; exact (World.cell?_setCell_other _ _ _ _ (fun e => by injection e with e; omega)).trans b4
            replace b5 : k14.cell? ⟨k6.heap.size, 5, none⟩ = some (.int .i64 1) := by rw [← hk14]; exact (World.cell?_setCell_other _ _ _ _ (fun e => by injection e with e; omega)).trans b5
            replace b6 : k14.cell? ⟨k6.heap.size, 6, none⟩ = some (.int .i64 1) := by rw [← hk14]; exact (World.cell?_setCell_other _ _ _ _ (fun e => by injection e with e; omega)).trans b6
            replace b7 : k14.cell? ⟨k6.heap.size, 7, none⟩ = some (.string ⟨#[]⟩) := by rw [← hk14]; exact (World.cell?_setCell_other _ _ _ _ (fun e => by injection e with e; omega)).trans b7
            replace b8 : k14.cell? ⟨k6.heap.size, 8, none⟩ = some (.int .i64 0) := by rw [← hk14]; exact (World.cell?_setCell_other _ _ _ _ (fun e => by injection e with e; omega)).trans b8
            replace r0 : k14.cell? ⟨k12.heap.size, 0, none⟩ = some (.slice Ar r.length cr) := Bx1.cell HBR.out
            replace rf : k14.frozen? ⟨k12.heap.size, 0, none⟩ = false := Bx1.frz HBR.out
            have hzk14 : k14.heap.size = k13.heap.size := by rw [← hk14]; exact nblk_set _ _ _
            replace hb : Below w.heap.size w k14 := by
              rw [← hk14]
              exact hb.setCell (by first | omega | (simp; omega)) _
            rw [← hzk14] at HP
            rw [hk14]
            clear hk14
            have lt0 : k6.heap.size < k14.heap.size := LT9
            have lt1 : k12.heap.size < k14.heap.size := LT9
            refine (lrapply_is _ _ _ _ r r2 X e2 _ (Prs.keep HP.out BL9 (Nat.le_refl _)) (by first | exact Nat.le_refl _ | (simp; done) | (simp; omega) | omega) (Ops.of_own (ownsRow_below HW3.out BL9)) (Nat.le_refl _) hgr9 HXX.out HQ.out).mono ?_
            rintro e k15 ⟨Aq, cq, rfl, hq9, h⟩
            have hk : Below k14.heap.size k14 k15 := HK9 h
            have hz := h.size
            try simp at hz
            replace b0 : k15.cell? ⟨k6.heap.size, 0, none⟩ = some (.int .i64 3) := (hk.cell (p := ⟨k6.heap.size, 0, none⟩) LT9).trans b0
            replace b1 : k15.cell? ⟨k6.heap.size, 1, none⟩ = some (.string ⟨#[110, 111, 32, 115, 117, 99, 104, 32, 107, 101, 121]⟩) := (hk.cell (p := ⟨k6.heap.size, 1, none⟩) LT9).trans b1
            replace b2 : k15.cell? ⟨k6.heap.size, 2, none⟩ = some (.int .i64 1) := (hk.cell (p := ⟨k6.heap.size, 2, none⟩) LT9).trans b2
            replace b3 : k15.cell? ⟨k6.heap.size, 3, none⟩ = some (.int .i64 2) := (hk.cell (p := ⟨k6.heap.size, 3, none⟩) LT9).trans b3
            replace b4 : k15.cell? ⟨k6.heap.size, 4, none⟩ = some (.string ⟨#[]⟩) := (hk.cell (p := ⟨k6.heap.size, 4, none⟩) LT9).trans b4
            replace b5 : k15.cell? ⟨k6.heap.size, 5, none⟩ = some (.int .i64 1) := (hk.cell (p := ⟨k6.heap.size, 5, none⟩) LT9).trans b5
            replace b6 : k15.cell? ⟨k6.heap.size, 6, none⟩ = some (.int .i64 1) := (hk.cell (p := ⟨k6.heap.size, 6, none⟩) LT9).trans b6
            replace b7 : k15.cell? ⟨k6.heap.size, 7, none⟩ = some (.string ⟨#[]⟩) := (hk.cell (p := ⟨k6.heap.size, 7, none⟩) LT9).trans b7
            replace b8 : k15.cell? ⟨k6.heap.size, 8, none⟩ = some (.int .i64 0) := (hk.cell (p := ⟨k6.heap.size, 8, none⟩) LT9).trans b8
            replace r0 : k15.cell? ⟨k12.heap.size, 0, none⟩ = some (.slice Ar r.length cr) := (hk.cell (p := ⟨k12.heap.size, 0, none⟩) LT9).trans r0
            replace rf : k15.frozen? ⟨k12.heap.size, 0, none⟩ = false := (hk.frozen (p := ⟨k12.heap.size, 0, none⟩) LT9).trans rf
            replace HOm := Lib.hid (ownsRow_below HOm.out hk)
            replace HOn := Lib.hid (ownsRow_below HOn.out hk)
            replace HD := Lib.hid (Dc.below HD.out hk)
            replace HW3 := Lib.hid (ownsRow_below HW3.out hk)
            replace HBR := Lib.hid (Bx1.below HBR.out hk)
            replace HP := Lib.hid (Prs.more (Prs.keep HP.out hk (Nat.le_refl _)) (Below.size hk))
            replace hb : Below w.heap.size w k15 := hb.trans (hk.mono hb.size)
            have lt0 : k6.heap.size < k15.heap.size := LT9
            have lt1 : k12.heap.size < k15.heap.size := LT9
            clear h hk
            clear hq9
            go_wp2_with fail
            refine (lapply_is w.heap.size _ _ _ r r2 X e2 _ (Dc.below HD.out BL9) (Ops.of_own (ownsRow_below HW3.out BL9)) (Nat.le_refl _) HXX.out HQ.out).mono ?_
            rintro e k16 ⟨rfl, hd9, hgr⟩
            have hz9 := hgr.size
            have hbe : Below k15.heap.size k15 _ := Below.refl _ _
            clear hbe
            try simp at hz9
            replace hb : Below w.heap.size w k16 := Dc.frame (w0 := w) (hb := hgr) (h := Dc.below HD.out BL9) (h0 := (BB9 hb)) (hB := by have := hb.size; first | omega | (simp; omega))
            replace HOm := Lib.hid (ownsRow_grown (hb := hgr) (h := ownsRow_below HOm.out BL9) (hd := Dc.below HD.out BL9) (hne := by decide))
            replace HOn := Lib.hid (ownsRow_grown (hb := hgr) (h := ownsRow_below HOn.out BL9) (hd := Dc.below HD.out BL9) (hne := by decide))
            replace HW3 := Lib.hid (ownsRow_grown (hb := hgr) (h := ownsRow_below HW3.out BL9) (hd := Dc.below HD.out BL9) (hne := by decide))
            replace HBR := Lib.hid (Bx1.grown (hb := hgr) (h := Bx1.below HBR.out BL9) (hd := Dc.below HD.out BL9) (ht := by decide))
            replace HP := Lib.hid (Prs.more (prs_grown (hb := hgr) (h := Prs.keep HP.out BL9 (Nat.le_refl _)) (hd := Dc.below HD.out BL9)) (Nat.le_trans LT9 hgr.size))
            have b0N : k16.cell? ⟨k6.heap.size, 0, none⟩ = some (.int .i64 3) := (hgr.cell_far ⟨k6.heap.size, 0, none⟩ LT9 (fun e => by injection e with e; simp only at e; omega)).trans (by go_simp)
            clear b0
            have b0 := b0N; clear b0N
            have b1N : k16.cell? ⟨k6.heap.size, 1, none⟩ = some (.string ⟨#[110, 111, 32, 115, 117, 99, 104, 32, 107, 101, 121]⟩) := (hgr.cell_far ⟨k6.heap.size, 1, none⟩ LT9 (fun e => by injection e with e; simp only at e; omega)).trans (by go_simp)
            clear b1
            have b1 := b1N; clear b1N
            have b2N : k16.cell? ⟨k6.heap.size, 2, none⟩ = some (.int .i64 1) := (hgr.cell_far ⟨k6.heap.size, 2, none⟩ LT9 (fun e => by injection e with e; simp only at e; omega)).trans (by go_simp)
            clear b2
            have b2 := b2N; clear b2N
            have b3N : k16.cell? ⟨k6.heap.size, 3, none⟩ = some (.int .i64 2) := (hgr.cell_far ⟨k6.heap.size, 3, none⟩ LT9 (fun e => by injection e with e; simp only at e; omega)).trans (by go_simp)
            clear b3
            have b3 := b3N; clear b3N
            have b4N : k16.cell? ⟨k6.heap.size, 4, none⟩ = some (.string ⟨#[]⟩) := (hgr.cell_far ⟨k6.heap.size, 4, none⟩ LT9 (fun e => by injection e with e; simp only at e; omega)).trans (by go_simp)
            clear b4
            have b4 := b4N; clear b4N
            have b5N : k16.cell? ⟨k6.heap.size, 5, none⟩ = some (.int .i64 1) := (hgr.cell_far ⟨k6.heap.size, 5, none⟩ LT9 (fun e => by injection e with e; simp only at e; omega)).trans (by go_simp)
            clear b5
            have b5 := b5N; clear b5N
            have b6N : k16.cell? ⟨k6.heap.size, 6, none⟩ = some (.int .i64 1) := (hgr.cell_far ⟨k6.heap.size, 6, none⟩ LT9 (fun e => by injection e with e; simp only at e; omega)).trans (by go_simp)
            clear b6
            have b6 := b6N; clear b6N
            have b7N : k16.cell? ⟨k6.heap.size, 7, none⟩ = some (.string ⟨#[]⟩) := (hgr.cell_far ⟨k6.heap.size, 7, none⟩ LT9 (fun e => by injection e with e; simp only at e; omega)).trans (by go_simp)
            clear b7
            have b7 := b7N; clear b7N
            have b8N : k16.cell? ⟨k6.heap.size, 8, none⟩ = some (.int .i64 0) := (hgr.cell_far ⟨k6.heap.size, 8, none⟩ LT9 (fun e => by injection e with e; simp only at e; omega)).trans (by go_simp)
            clear b8
            have b8 := b8N; clear b8N
            have r0N : k16.cell? ⟨k12.heap.size, 0, none⟩ = some (.slice Ar r.length cr) := (hgr.cell_far ⟨k12.heap.size, 0, none⟩ LT9 (fun e => by injection e with e; simp only at e; omega)).trans (by go_simp)
            clear r0
            have r0 := r0N; clear r0N
            have rfN : k16.frozen? ⟨k12.heap.size, 0, none⟩ = false := (hgr.frozen_far ⟨k12.heap.size, 0, none⟩ LT9 (fun e => by injection e with e; simp only at e; omega)).trans (by go_simp)
            clear rf
            have rf := rfN; clear rfN
            replace HD := Lib.hid hd9
            clear hd9
            have lt0 : k6.heap.size < k16.heap.size := LT9
            have lt1 : k12.heap.size < k16.heap.size := LT9
            clear hgr
            have hee : ((e2 : Int) == (e2 : Int)) = true := by simp
            by_cases he0 : e2 = 0
            · have he1 : ((e2 : Int) == 0) = true := by simp [he0]
              have he2 : (e2 : Int) = 0 := by omega
              go_wp2
              go_ret
              exact ⟨by first | rfl | simp, hb⟩
            · have he1 : ((e2 : Int) == 0) = false := by rw [beq_eq_false_iff_ne]; omega
              have he2 : ¬ ((e2 : Int) = 0) := by omega
              rw [HSAME.out he0] at HD
              go_wp2_with fail
              refine (lenc_is w.heap.size _ r L _ (Dc.below HD.out BL9) HL.out).mono ?_
              rintro e k17 ⟨gd2, cd2, rfl, hE, h⟩
              have hk : Below k16.heap.size k16 k17 := HK9 h
              have hz := h.size
              try simp at hz
              replace b0 : k17.cell? ⟨k6.heap.size, 0, none⟩ = some (.int .i64 3) := (hk.cell (p := ⟨k6.heap.size, 0, none⟩) LT9).trans b0
              replace b1 : k17.cell? ⟨k6.heap.size, 1, none⟩ = some (.string ⟨#[110, 111, 32, 115, 117, 99, 104, 32, 107, 101, 121]⟩) := (hk.cell (p := ⟨k6.heap.size, 1, none⟩) LT9).trans b1
              replace b2 : k17.cell? ⟨k6.heap.size, 2, none⟩ = some (.int .i64 1) := (hk.cell (p := ⟨k6.heap.size, 2, none⟩) LT9).trans b2
              replace b3 : k17.cell? ⟨k6.heap.size, 3, none⟩ = some (.int .i64 2) := (hk.cell (p := ⟨k6.heap.size, 3, none⟩) LT9).trans b3
              replace b4 : k17.cell? ⟨k6.heap.size, 4, none⟩ = some (.string ⟨#[]⟩) := (hk.cell (p := ⟨k6.heap.size, 4, none⟩) LT9).trans b4
              replace b5 : k17.cell? ⟨k6.heap.size, 5, none⟩ = some (.int .i64 1) := (hk.cell (p := ⟨k6.heap.size, 5, none⟩) LT9).trans b5
              replace b6 : k17.cell? ⟨k6.heap.size, 6, none⟩ = some (.int .i64 1) := (hk.cell (p := ⟨k6.heap.size, 6, none⟩) LT9).trans b6
              replace b7 : k17.cell? ⟨k6.heap.size, 7, none⟩ = some (.string ⟨#[]⟩) := (hk.cell (p := ⟨k6.heap.size, 7, none⟩) LT9).trans b7
              replace b8 : k17.cell? ⟨k6.heap.size, 8, none⟩ = some (.int .i64 0) := (hk.cell (p := ⟨k6.heap.size, 8, none⟩) LT9).trans b8
              replace r0 : k17.cell? ⟨k12.heap.size, 0, none⟩ = some (.slice Ar r.length cr) := (hk.cell (p := ⟨k12.heap.size, 0, none⟩) LT9).trans r0
              replace rf : k17.frozen? ⟨k12.heap.size, 0, none⟩ = false := (hk.frozen (p := ⟨k12.heap.size, 0, none⟩) LT9).trans rf
              replace HOm := Lib.hid (ownsRow_below HOm.out hk)
              replace HOn := Lib.hid (ownsRow_below HOn.out hk)
              replace HD := Lib.hid (Dc.below HD.out hk)
              replace HW3 := Lib.hid (ownsRow_below HW3.out hk)
              replace HBR := Lib.hid (Bx1.below HBR.out hk)
              replace HP := Lib.hid (Prs.more (Prs.keep HP.out hk (Nat.le_refl _)) (Below.size hk))
              replace hb : Below w.heap.size w k17 := hb.trans (hk.mono hb.size)
              have lt0 : k6.heap.size < k17.heap.size := LT9
              have lt1 : k12.heap.size < k17.heap.size := LT9
              clear h hk
              have hcv2 := conv6 (Byt.of_own hE) HS.out
              clear hE
              go_wp2
              go_ret
              exact ⟨by first | rfl | simp, hb⟩
    · have h2 : a2 < 0 ∨ (0 ≤ a2 ∧ n.length < a2) := by omega
      rcases h2 with h2 | ⟨h2, h3⟩
      all_goals
        go_wp2
        go_ret
        exact ⟨rfl, hb⟩

set_option maxRecDepth 100000 in
theorem lifted (os : Os) (started : os.Started) (H : Type) (enc : TypeId × Value → H) :
    ReturnsInHanded {} Try.checked os 8 .any (Rows.docWholeSpec.pre6 enc Try.prog Try.f8 Rows.docWholeRow.domain false) (Rows.docWholeSpec.post enc Try.prog Try.f8 false true false false) := by
  refine returnsInHanded_of_change (C := Try.checked) own started (by kernel_rfl) Try.func8
    (ChangeSpec.witness6 (enc := enc) (C := Try.checked) false ⟨#[], #[.slice none 0 0, .slice none 0 0, .int .i64 0], []⟩ 8 (by kernel_rfl) (by kernel_rfl) (by kernel_rfl) (by kernel_rfl)) ?_
  intro W base args ds gs before hval0 hW hcnd _
  have hval : ∀ (j : Nat) t v, Try.f8.params[j]? = some t → args[j]? = some v → Value.okWide Try.prog W .any base t v := hval0
  have hW' := hW
  obtain ⟨p, q, hA0, hV, rfl, hfz, hnd⟩ := hW
  have hA : DataW.TrodAll enc Try.prog W 0 (fun _ => true) true Try.f8.params.toList args.toList ds p := hA0
  have hA1 := hA
  rw [Try.params8] at hA hval
  obtain ⟨v0, vs0, d0, ds0, p0, q0, hargs, rfl, rfl, h0, r0⟩ := trodAll_cons hA
  obtain ⟨v1, vs1, d1, ds1, p1, q1, rfl, rfl, rfl, h1, r1⟩ := trodAll_cons r0
  obtain ⟨v2, vs2, d2, ds2, p2, q2, rfl, rfl, rfl, h2, r2⟩ := trodAll_cons r1
  obtain ⟨rfl, rfl, rfl⟩ := trodAll_nil r2
  obtain rfl : args = #[v0, v1, v2] := by cases args; simp_all
  obtain ⟨rfl, rfl⟩ := trodVars_none hV
  obtain ⟨A0, c0, a0, rfl, w0, x0⟩ := open_opns (hval 0 29 v0 rfl rfl) h0
  obtain ⟨A1, c1, a1, rfl, w1, x1⟩ := open_opns (hval 1 29 v1 rfl rfl) h1
  obtain ⟨a2, rfl, rfl, rfl, w2⟩ := open_int Try.underlying3 (hval 2 3 v2 rfl rfl) h2
  clear hA0 hval0
  simp only [List.append_nil] at hW'
  try simp only [List.append_nil] at hA1
  refine (walk W A0 c0 a0 w0 x0 A1 c1 a1 w1 x1 a2 w2).mono fun e W' ⟨he, hg⟩ => ?_
  subst he
  exact ⟨_, rfl, law_end Try.laidOut (by kernel_rfl) hW' hA1 hg rfl rfl rfl (trodAll_mk1 (shut_bool Try.underlying4 _))⟩

theorem over : Rows.docWholeRow.holds Try.pinned (OpenSpec.ofChange Rows.docWholeSpec) :=
  OpenClaim.holds_of_wide 8 Try.f8 rfl rfl rfl rfl rfl rfl rfl ⟨rfl, rfl, rfl, rfl, rfl⟩ rfl rfl rfl rfl rfl (by kernel_rfl) Try.func8 (by kernel_rfl)
    (of_decide_eq_true (by kernel_rfl)) (by unfold Func.isWrapper; first | (rw [if_pos (by decide +kernel)]; kernel_rfl) | (rw [if_neg (by decide +kernel)]; exact ⟨rfl, rfl⟩))
    (fun os started H enc _ => lifted os started H enc)

/-- the statement -/
theorem proved : Rows.DocWholeSaid := over
#print axioms proved
end Go.Proofs.Ytkgfbfopopmbhaa.docWhole
