/-
  Package frame's Open reads a frame as the plain function says, its body in new memory.
  The bytes are there in memory, at most 1,000,000; package crc's table lies as it was laid.
-/
import Derived.Test.YtmpdjioclalifaaDoorFrHead
import Derived.Test.YtmpdjioclalifaaDoorFrSeal
import Derived.Test.YtmpdjioclalifaaDoorSBytes
import Derived.WalkKit
import Derived.Deep.Cut
import Derived.IntWalk
set_option linter.unusedSimpArgs false
set_option linter.unusedVariables false
namespace Go.Proofs.YtmpdjioclalifaaDoor
open Go.RowKit
set_option maxRecDepth 100000

/-- a frame that was told, its body in memory of its own -/
def GotO (r : Nat × List UInt8 × Nat × Nat) (w : World) (e : Ending) (w' : World) : Prop := ∃ v, e = .returned (.tuple #[.int .i64 (r.1 : Nat), v, .int .i64 (r.2.2.1 : Nat), .int .i64 (r.2.2.2 : Nat)]) ∧ OwnB w.heap.size v r.2.1 w' ∧ Below w.heap.size w w'
set_option maxHeartbeats 1000000 in
theorem fopen_any (A : Option Addr) (c B : Nat) (l : List UInt8) (w : World) (h : Byt w B (.slice A l.length c) l) (hB : B ≤ w.heap.size) (hl : l.length ≤ 1000000) (hT : Tbl w) :
    Calls Tryd.prog 13 #[.slice A l.length c] w (GotO (openB l) w) := by
  have hcap : l.length ≤ c := (byt_len h).2
  have HB := Lib.hid h
  have HT := Lib.hid hT; clear hT
  have hhd := fhead_any A c B l w h hl
  obtain ⟨r, hr⟩ : ∃ r, headP l = r := ⟨_, rfl⟩
  rw [hr] at hhd
  have HHD := Lib.hid hhd; clear hhd
  obtain ⟨a, n, e⟩ := r
  by_cases he : e = 0
  · subst he
    obtain ⟨x, r, hlr, ha, hx, hn⟩ := headP_ok hr
    have hop := openB_at x n r hx hn
    rw [← hlr] at hop
    have hP1 := Nu.put_ne (n : Int)
    have hll : l.length = a + r.length := by rw [hlr, ha]; simp; omega
    obtain ⟨P, hP⟩ : ∃ P, Nu.put (n : Int) = P := ⟨_, rfl⟩
    rw [hP] at hop hlr ha hP1
    clear hr
    have hPm : P.length ≤ 10 := by rw [← hP]; exact Nu.put_len _
    have ha1 : (a : Int) ≤ 11 := by omega
    have hn1 : (n : Int) ≤ 4000 := by omega
    by_cases hfew : r.length < 4 + n
    · rw [if_pos hfew] at hop
      rw [hop]
      have hto : (l.length : Int) < (a : Int) + 4 + n := by omega
      clear hop hlr ha hP1 hP hx h hll hfew hPm
      go_enter Tryd.func13, Tryd.ntmps13
      go_wp2_with fail
      refine HHD.out.mono ?_
      rintro e' w' ⟨rfl, rfl⟩
      go_wp2
      exact bodyPost_ret (v := .tuple #[.int .i64 0, .slice none 0 0, .int .i64 0, .int .i64 2]) (by simp [results, Tryd.results13, go_sem]) rfl ⟨_, rfl, ownB_nil _ _, Below.refl _ _⟩
    · rw [if_neg hfew] at hop
      have hto : (a : Int) + 4 + n ≤ l.length := by omega
      have hbh := byt_take2 (n := a) h (by omega)
      have hbf := byt_sub (i := a) (n := 4) h (by omega)
      have hbb := byt_sub (i := a + 4) (n := n) h (by omega)
      have e1 : l.take a = x :: P := by rw [hlr, ha, Nat.add_comm 1, List.take_succ_cons, List.take_left' rfl]
      have e2 : l.drop a = r := by rw [hlr, ha, Nat.add_comm 1, List.drop_succ_cons, List.drop_left' rfl]
      have e3 : l.drop (a + 4) = r.drop 4 := by rw [← List.drop_drop, e2]
      rw [e1] at hbh
      rw [e2] at hbf
      rw [e3] at hbb
      obtain ⟨bd, hbd⟩ : ∃ bd, (r.drop 4).take n = bd := ⟨_, rfl⟩
      obtain ⟨s, hs⟩ : ∃ s, crcSum (x :: P ++ bd) = s := ⟨_, rfl⟩
      rw [hbd, hs] at hop
      rw [hbd] at hbb
      obtain ⟨g, o, rfl, hg, hcs⟩ : ∃ g o, A = some ⟨g, o, none⟩ ∧ g < B ∧ ∀ j (h : j < l.length), w.cell? ⟨g, o + j, none⟩ = some (.int .u8 (l[j].toNat : Int)) := by
        obtain ⟨A', c', hv, _, hcell⟩ := id h
        injection hv with e1 _ e2; subst e1; subst e2
        exact hcell (by omega)
      have hx0 : w.cell? ⟨g, o, none⟩ = some (.int .u8 (x.toNat : Int)) := by
        have := hcs 0 (by omega)
        rw [Nat.add_zero] at this
        rw [this]; subst hlr; rfl
      rw [if_neg (by omega), add_lit] at hbf
      have hbdl : bd.length ≤ 1000000 := by rw [← hbd, List.length_take, List.length_drop]; omega
      have hPl : (x :: P).length ≤ 1000000 := by simp; omega
      have HOP := Lib.hid hop; have HBH := Lib.hid hbh; have HBF := Lib.hid hbf; have HBB := Lib.hid hbb; have HS := Lib.hid hs; have HA := Lib.hid ha; have HBDL := Lib.hid hbdl; have HPL := Lib.hid hPl
      have hcap4 : (a : Int) + 4 + n ≤ c := by omega
      clear h hcs e1 e2 e3 hlr hbd hop hbh hbf hbb hs hP ha hP1 hPm hx hll hfew hbdl hPl
      obtain ⟨R, hR⟩ : ∃ R, openB l = R := ⟨_, rfl⟩
      rw [hR] at HOP ⊢
      clear hR
      go_enter Tryd.func13, Tryd.ntmps13
      go_wp2_with fail
      refine HHD.out.mono ?_
      rintro e' w' ⟨rfl, rfl⟩
      go_upto_region 9 with fail
      rw [add_lit, show a + 4 + n - (a + 4) = n by omega] at *
      generalize hV : Value.slice (if c = a + 4 then some ⟨g, o, none⟩ else some ⟨g, o + (a + 4), none⟩) n (c - (a + 4)) = V at *
      clear hV
      have hb : Below w.heap.size w w := Below.refl _ _
      have hf1 : 0 ≤ (a : Int) + 4 := by omega
      have hf2 : (a : Int) + 4 ≤ c := by omega
      have hf3 : a ≤ ((a : Int) + 4).toNat := by omega
      have hf4 : ¬ c = a := by omega
      have hf5 : ((a : Int) + 4).toNat - a = 4 := by omega
      have hf7 : ¬ c < a := by omega
      have hf8 : ¬ l = [] := fun e => by rw [e] at hto; simp at hto; omega
      have hf9 : IntKind.i64.wrap (x.toNat : Int) = (x.toNat : Int) := by have := x.toNat_lt; exact IntWalk.i64_in _ (by omega)
      have lt0 : g < w.heap.size := Nat.lt_of_lt_of_le hg hB
      obtain ⟨q, hq⟩ : ∃ q, (r.take 4 == fourB s) = q := ⟨_, rfl⟩
      have HQ := Lib.hid hq; clear hq
      replace hx0 : w.drew.cell? ⟨g, o, none⟩ = some (.int .u8 (x.toNat : Int)) := hx0
      replace HBH := Lib.hid ((HBH.out).below ((Below.refl w.heap.size w).drew) (Nat.le_trans hB hb.size))
      replace HBF := Lib.hid ((HBF.out).below ((Below.refl w.heap.size w).drew) (Nat.le_trans hB hb.size))
      replace HBB := Lib.hid ((HBB.out).below ((Below.refl w.heap.size w).drew) (Nat.le_trans hB hb.size))
      replace HT := Lib.hid (tbl_keep (HT.out) ((Below.refl w.heap.size w).drew))
      refine wp_region_noPanic ?_
      refine wp_region_held_drew (S := fun W => W.cell? ⟨g, o, none⟩ = some (.int .u8 (x.toNat : Int))) (by kernel_rfl) ?_ (fun hHeld => ?_)
      · exact hx0
      replace hb : Below w.heap.size w w.drew := hb.drew
      replace lt0 : g < w.drew.heap.size := lt0
      have hzd : w.heap.size ≤ w.drew.heap.size := Nat.le_refl _
      generalize w.drew = k1 at *
      refine wpAnyH_take (i := 0) (oi := { dst := some 34, op := Op.move (Operand.tmp 0), type := 22, pos := "frame.go:49", after := #[], guard := none }) (v := .slice (some ⟨g, o, none⟩) l.length c) rfl (by kernel_rfl) (by kernel_rfl) (by kernel_rfl) (fun _ _ _ h => h) (Or.inl ⟨by rfl, fun w hSw => ?_⟩) (by assumption) ?_
      · (try dsimp only at hSw)
        go_simp
      try simp only [Act.put, List.setIfInBounds_toArray, List.set_cons_zero, List.set_cons_succ]
      refine wpAnyH_take (i := 1) (oi := { dst := some 35, op := Op.move (Operand.tmp 6), type := 3, pos := "frame.go:49", after := #[], guard := none }) (v := .int .i64 a) rfl (by kernel_rfl) (by kernel_rfl) (by kernel_rfl) (fun _ _ _ h => h) (Or.inl ⟨by rfl, fun w hSw => ?_⟩) (by assumption) ?_
      · (try dsimp only at hSw)
        go_simp
      try simp only [Act.put, List.setIfInBounds_toArray, List.set_cons_zero, List.set_cons_succ]
      refine wpAnyH_take (i := 2) (oi := { dst := some 36, op := Op.move (Operand.tmp 9), type := 3, pos := "frame.go:49", after := #[], guard := none }) (v := .int .i64 ((a : Int) + 4)) rfl (by kernel_rfl) (by kernel_rfl) (by kernel_rfl) (fun _ _ _ h => h) (Or.inl ⟨by rfl, fun w hSw => ?_⟩) (by assumption) ?_
      · (try dsimp only at hSw)
        go_simp
      try simp only [Act.put, List.setIfInBounds_toArray, List.set_cons_zero, List.set_cons_succ]
      refine wpAnyH_take (i := 3) (oi := { dst := some 37, op := Op.slice 22 (Operand.tmp 34) (some (Operand.tmp 35)) (some (Operand.tmp 36)) none, type := 22, pos := "frame.go:49", after := #[{ on := 0, ground := Ground.data }, { on := 1, ground := Ground.data }, { on := 2, ground := Ground.data }], guard := none }) (v := .slice (some ⟨g, o + a, none⟩) 4 (c - a)) rfl (by kernel_rfl) (by kernel_rfl) (by kernel_rfl) (fun _ _ _ h => h) (Or.inl ⟨by rfl, fun w hSw => ?_⟩) (by assumption) ?_
      · (try dsimp only at hSw)
        go_simp
      try simp only [Act.put, List.setIfInBounds_toArray, List.set_cons_zero, List.set_cons_succ]
      refine wpAnyH_take (i := 4) (oi := { dst := some 38, op := Op.move (Operand.tmp 0), type := 22, pos := "frame.go:49", after := #[], guard := none }) (v := .slice (some ⟨g, o, none⟩) l.length c) rfl (by kernel_rfl) (by kernel_rfl) (by kernel_rfl) (fun _ _ _ h => h) (Or.inl ⟨by rfl, fun w hSw => ?_⟩) (by assumption) ?_
      · (try dsimp only at hSw)
        go_simp
      try simp only [Act.put, List.setIfInBounds_toArray, List.set_cons_zero, List.set_cons_succ]
      refine wpAnyH_take (i := 5) (oi := { dst := some 39, op := Op.move (Operand.tmp 6), type := 3, pos := "frame.go:49", after := #[], guard := none }) (v := .int .i64 a) rfl (by kernel_rfl) (by kernel_rfl) (by kernel_rfl) (fun _ _ _ h => h) (Or.inl ⟨by rfl, fun w hSw => ?_⟩) (by assumption) ?_
      · (try dsimp only at hSw)
        go_simp
      try simp only [Act.put, List.setIfInBounds_toArray, List.set_cons_zero, List.set_cons_succ]
      refine wpAnyH_take (i := 6) (oi := { dst := some 40, op := Op.slice 22 (Operand.tmp 38) none (some (Operand.tmp 39)) none, type := 22, pos := "frame.go:49", after := #[{ on := 4, ground := Ground.data }, { on := 5, ground := Ground.data }], guard := none }) (v := .slice (some ⟨g, o, none⟩) a c) rfl (by kernel_rfl) (by kernel_rfl) (by kernel_rfl) (fun _ _ _ h => h) (Or.inl ⟨by rfl, fun w hSw => ?_⟩) (by assumption) ?_
      · (try dsimp only at hSw)
        go_simp
      try simp only [Act.put, List.setIfInBounds_toArray, List.set_cons_zero, List.set_cons_succ]
      refine wpAnyH_take (i := 7) (oi := { dst := some 41, op := Op.move (Operand.tmp 11), type := 22, pos := "frame.go:49", after := #[], guard := none }) (v := V) rfl (by kernel_rfl) (by kernel_rfl) (by kernel_rfl) (fun _ _ _ h => h) (Or.inl ⟨by rfl, fun w hSw => ?_⟩) (by assumption) ?_
      · (try dsimp only at hSw)
        go_simp
      try simp only [Act.put, List.setIfInBounds_toArray, List.set_cons_zero, List.set_cons_succ]
      refine wpAnyH_ready (rs := [8]) (by kernel_rfl) (by simp) ?_
      refine AllReadyH.cons (o := { dst := some 42, op := Op.call { callee := Callee.value (Operand.func 18), args := #[Operand.tmp 40, Operand.tmp 41], argTypes := #[22, 22] }, type := 22, pos := "frame.go:49", after := #[{ on := 6, ground := Ground.data }, { on := 7, ground := Ground.data }], guard := none }) rfl (fun K hK => ?_) (AllReadyH.nil)
      go_simp
      go_at_call 18
      refine (fsum_any _ _ B B (x :: P) bd s _ HBH.out HBB.out HT.out HPL.out HBDL.out HS.out).mono ?_
      rintro e k2 ⟨v8, rfl, ho8, h⟩
      have hk : Below k1.heap.size k1 k2 := by
        refine Below.trans ?_ (h.mono (by first | (simp; done) | (simp; omega) | omega))
        repeat' (first | with_reducible exact Below.refl _ _ | (with_reducible refine Below.alloc ?_ ?_ _) | (with_reducible refine Below.setCell ?_ ?_ _) | exact (by first | (simp; done) | (simp; omega) | omega))
      have hz := h.size
      try simp at hz
      replace hx0 : k2.cell? ⟨g, o, none⟩ = some (.int .u8 (x.toNat : Int)) := (hk.cell (p := ⟨g, o, none⟩) (by first | (simp; done) | (simp; omega) | omega)).trans hx0
      replace HBH := Lib.hid ((HBH.out).below hk (Nat.le_trans hB hb.size))
      replace HBF := Lib.hid ((HBF.out).below hk (Nat.le_trans hB hb.size))
      replace HBB := Lib.hid ((HBB.out).below hk (Nat.le_trans hB hb.size))
      replace HT := Lib.hid (tbl_keep (HT.out) hk)
      replace hb : Below w.heap.size w k2 := hb.trans (hk.mono hb.size)
      have lt0 : g < k2.heap.size := (by first | (simp; done) | (simp; omega) | omega)
      have HS8 := Lib.hid ho8; clear ho8
      clear h hk
      try dsimp only
      refine hK.out _ _ ?_ (fun hHeld => ?_)
      · exact hx0
      clear hK K
      try simp only [Act.put, List.setIfInBounds_toArray, List.set_cons_zero, List.set_cons_succ]
      refine wpAnyH_ready (rs := [9]) (by kernel_rfl) (by simp) ?_
      refine AllReadyH.cons (o := { dst := some 43, op := Op.call { callee := Callee.value (Operand.func 22), args := #[Operand.tmp 37, Operand.tmp 42], argTypes := #[22, 22] }, type := 4, pos := "frame.go:49", after := #[{ on := 3, ground := Ground.data }, { on := 8, ground := Ground.data }, { on := 8, ground := Ground.chain }], guard := none }) rfl (fun K hK => ?_) (AllReadyH.nil)
      go_simp
      go_at_call 22
      refine (bequal_to _ _ B _ (r.take 4) (fourB s) q _ HBF.out (Byt.of_own HS8.out) HQ.out).mono ?_
      rintro e k3 ⟨rfl, h⟩
      have hk : Below k2.heap.size k2 k3 := by
        refine Below.trans ?_ (h.mono (by first | (simp; done) | (simp; omega) | omega))
        repeat' (first | with_reducible exact Below.refl _ _ | (with_reducible refine Below.alloc ?_ ?_ _) | (with_reducible refine Below.setCell ?_ ?_ _) | exact (by first | (simp; done) | (simp; omega) | omega))
      have hz := h.size
      try simp at hz
      replace hx0 : k3.cell? ⟨g, o, none⟩ = some (.int .u8 (x.toNat : Int)) := (hk.cell (p := ⟨g, o, none⟩) (by first | (simp; done) | (simp; omega) | omega)).trans hx0
      replace HBH := Lib.hid ((HBH.out).below hk (Nat.le_trans hB hb.size))
      replace HBF := Lib.hid ((HBF.out).below hk (Nat.le_trans hB hb.size))
      replace HBB := Lib.hid ((HBB.out).below hk (Nat.le_trans hB hb.size))
      replace HT := Lib.hid (tbl_keep (HT.out) hk)
      replace HS8 := Lib.hid ((HS8.out).below hk)
      replace hb : Below w.heap.size w k3 := hb.trans (hk.mono hb.size)
      have lt0 : g < k3.heap.size := (by first | (simp; done) | (simp; omega) | omega)
      clear h hk
      try dsimp only
      refine hK.out _ _ ?_ (fun hHeld => ?_)
      · exact hx0
      clear hK K
      try simp only [Act.put, List.setIfInBounds_toArray, List.set_cons_zero, List.set_cons_succ]
      refine wpAnyH_take (i := 10) (oi := { dst := some 44, op := Op.unOp UnOp.not 4 (Operand.tmp 43), type := 4, pos := "frame.go:49", after := #[{ on := 9, ground := Ground.data }], guard := none }) (v := .bool (!q)) rfl (by kernel_rfl) (by kernel_rfl) (by kernel_rfl) (fun _ _ _ h => h) (Or.inl ⟨by rfl, fun w hSw => ?_⟩) (by assumption) ?_
      · (try dsimp only at hSw)
        go_simp
      try simp only [Act.put, List.setIfInBounds_toArray, List.set_cons_zero, List.set_cons_succ]
      refine wpAnyH_done (by kernel_rfl) ?_ _
      refine NoPanic.normal ?_
      have hbl := hb
      cases q with
      | false =>
        have hne : fourB s ≠ r.take 4 := fun e => by have := HQ.out; rw [e] at this; simp at this
        have hres : R = (0, [], 0, 3) := by rw [HOP.out, if_pos hne]
        go_wp2
        exact bodyPost_ret (v := .tuple #[.int .i64 0, .slice none 0 0, .int .i64 0, .int .i64 3]) (by simp [results, Tryd.results13, go_sem]) rfl ⟨_, by rw [hres]; rfl, by rw [hres]; exact ownB_nil _ _, hbl⟩
      | true =>
        have heq : fourB s = r.take 4 := (beq_iff_eq.1 HQ.out).symm
        have hres : R = (x.toNat, bd, 5 + P.length + n, 0) := by rw [HOP.out, if_neg (fun h => h heq)]
        have HRES := Lib.hid hres
        clear heq hres
        go_upto_region 11 with fail
        replace hx0 : k3.drew.cell? ⟨g, o, none⟩ = some (.int .u8 (x.toNat : Int)) := hx0
        replace HBH := Lib.hid ((HBH.out).below ((Below.refl k3.heap.size k3).drew) (Nat.le_trans hB hb.size))
        replace HBF := Lib.hid ((HBF.out).below ((Below.refl k3.heap.size k3).drew) (Nat.le_trans hB hb.size))
        replace HBB := Lib.hid ((HBB.out).below ((Below.refl k3.heap.size k3).drew) (Nat.le_trans hB hb.size))
        replace HT := Lib.hid (tbl_keep (HT.out) ((Below.refl k3.heap.size k3).drew))
        replace HS8 := Lib.hid ((HS8.out).below ((Below.refl k3.heap.size k3).drew))
        refine wp_region_noPanic ?_
        refine wp_region_held_drew (S := fun W => W.cell? ⟨g, o, none⟩ = some (.int .u8 (x.toNat : Int))) (by kernel_rfl) ?_ (fun hHeld => ?_)
        · exact hx0
        replace hb : Below w.heap.size w k3.drew := hb.drew
        replace lt0 : g < k3.drew.heap.size := lt0
        have hzd : k3.heap.size ≤ k3.drew.heap.size := Nat.le_refl _
        generalize k3.drew = k4 at *
        refine wpAnyH_take (i := 0) (oi := { dst := some 45, op := Op.move (Operand.tmp 0), type := 22, pos := "frame.go:52", after := #[], guard := none }) (v := .slice (some ⟨g, o, none⟩) l.length c) rfl (by kernel_rfl) (by kernel_rfl) (by kernel_rfl) (fun _ _ _ h => h) (Or.inl ⟨by rfl, fun w hSw => ?_⟩) (by assumption) ?_
        · (try dsimp only at hSw)
          go_simp
        try simp only [Act.put, List.setIfInBounds_toArray, List.set_cons_zero, List.set_cons_succ]
        refine wpAnyH_take (i := 1) (oi := { dst := some 46, op := Op.indexAddr 22 (Operand.tmp 45) (Operand.const (Value.int IntKind.i64 0)), type := 0, pos := "frame.go:52", after := #[{ on := 0, ground := Ground.data }], guard := none }) (v := .pointer (some ⟨g, o, none⟩)) rfl (by kernel_rfl) (by kernel_rfl) (by kernel_rfl) (fun _ _ _ h => h) (Or.inl ⟨by rfl, fun w hSw => ?_⟩) (by assumption) ?_
        · (try dsimp only at hSw)
          go_simp
        try simp only [Act.put, List.setIfInBounds_toArray, List.set_cons_zero, List.set_cons_succ]
        refine wpAnyH_take (i := 2) (oi := { dst := some 47, op := Op.load 5 (Operand.tmp 46), type := 5, pos := "frame.go:52", after := #[{ on := 1, ground := Ground.data }], guard := none }) (v := .int .u8 (x.toNat : Int)) rfl (by kernel_rfl) (by kernel_rfl) (by kernel_rfl) (fun _ _ _ h => h) (Or.inl ⟨by rfl, fun w hSw => ?_⟩) (by assumption) ?_
        · (try dsimp only at hSw)
          go_simp
        try simp only [Act.put, List.setIfInBounds_toArray, List.set_cons_zero, List.set_cons_succ]
        refine wpAnyH_take (i := 3) (oi := { dst := some 48, op := Op.convert 5 3 (Operand.tmp 47), type := 3, pos := "frame.go:52", after := #[{ on := 2, ground := Ground.data }], guard := none }) (v := .int .i64 (x.toNat : Int)) rfl (by kernel_rfl) (by kernel_rfl) (by kernel_rfl) (fun _ _ _ h => h) (Or.inl ⟨by rfl, fun w hSw => ?_⟩) (by assumption) ?_
        · (try dsimp only at hSw)
          go_simp
        try simp only [Act.put, List.setIfInBounds_toArray, List.set_cons_zero, List.set_cons_succ]
        refine wpAnyH_take (i := 4) (oi := { dst := some 49, op := Op.move (Operand.tmp 11), type := 22, pos := "frame.go:52", after := #[], guard := none }) (v := V) rfl (by kernel_rfl) (by kernel_rfl) (by kernel_rfl) (fun _ _ _ h => h) (Or.inl ⟨by rfl, fun w hSw => ?_⟩) (by assumption) ?_
        · (try dsimp only at hSw)
          go_simp
        try simp only [Act.put, List.setIfInBounds_toArray, List.set_cons_zero, List.set_cons_succ]
        refine wpAnyH_take (i := 6) (oi := { dst := some 51, op := Op.move (Operand.tmp 10), type := 3, pos := "frame.go:52", after := #[{ on := 8, ground := Ground.gcOnly Departure.lateStores }], guard := none }) (v := .int .i64 ((a : Int) + 4 + n)) rfl (by kernel_rfl) (by kernel_rfl) (by kernel_rfl) (fun _ _ _ h => h) (Or.inl ⟨by rfl, fun w hSw => ?_⟩) (by assumption) ?_
        · (try dsimp only at hSw)
          go_simp
        try simp only [Act.put, List.setIfInBounds_toArray, List.set_cons_zero, List.set_cons_succ]
        refine wpAnyH_ready (rs := [5]) (by kernel_rfl) (by simp) ?_
        refine AllReadyH.cons (o := { dst := some 50, op := Op.call { callee := Callee.value (Operand.func 23), args := #[Operand.tmp 49], argTypes := #[22] }, type := 22, pos := "frame.go:52", after := #[{ on := 4, ground := Ground.data }], guard := none }) rfl (fun K hK => ?_) (AllReadyH.nil)
        go_simp
        go_at_call 23
        refine (bclone_to _ B bd _ HBB.out HBDL.out).mono ?_
        rintro e k5 ⟨v2, rfl, ho2, h⟩
        have hk : Below k4.heap.size k4 k5 := by
          refine Below.trans ?_ (h.mono (by first | (simp; done) | (simp; omega) | omega))
          repeat' (first | with_reducible exact Below.refl _ _ | (with_reducible refine Below.alloc ?_ ?_ _) | (with_reducible refine Below.setCell ?_ ?_ _) | exact (by first | (simp; done) | (simp; omega) | omega))
        have hz := h.size
        try simp at hz
        replace hx0 : k5.cell? ⟨g, o, none⟩ = some (.int .u8 (x.toNat : Int)) := (hk.cell (p := ⟨g, o, none⟩) (by first | (simp; done) | (simp; omega) | omega)).trans hx0
        replace HBH := Lib.hid ((HBH.out).below hk (Nat.le_trans hB hb.size))
        replace HBF := Lib.hid ((HBF.out).below hk (Nat.le_trans hB hb.size))
        replace HBB := Lib.hid ((HBB.out).below hk (Nat.le_trans hB hb.size))
        replace HT := Lib.hid (tbl_keep (HT.out) hk)
        replace HS8 := Lib.hid ((HS8.out).below hk)
        replace hb : Below w.heap.size w k5 := hb.trans (hk.mono hb.size)
        have lt0 : g < k5.heap.size := (by first | (simp; done) | (simp; omega) | omega)
        have HV2 := Lib.hid ho2; clear ho2
        clear h hk
        try dsimp only
        refine hK.out _ _ ?_ (fun hHeld => ?_)
        · exact hx0
        clear hK K
        try simp only [Act.put, List.setIfInBounds_toArray, List.set_cons_zero, List.set_cons_succ]
        refine wpAnyH_take (i := 7) (oi := { dst := some 2, op := Op.assign (Operand.tmp 48), type := 3, pos := "frame.go:52", after := #[{ on := 3, ground := Ground.data }, { on := 5, ground := Ground.chain }, { on := 0, ground := Ground.phase }, { on := 1, ground := Ground.phase }, { on := 2, ground := Ground.phase }, { on := 3, ground := Ground.phase }, { on := 4, ground := Ground.textOnly Departure.lateStores }, { on := 5, ground := Ground.textOnly Departure.lateStoresUnsure }, { on := 6, ground := Ground.textOnly Departure.lateStores }], guard := none }) (v := .int .i64 (x.toNat : Int)) rfl (by kernel_rfl) (by kernel_rfl) (by kernel_rfl) (fun _ _ _ h => h) (Or.inl ⟨by rfl, fun w hSw => ?_⟩) (by assumption) ?_
        · (try dsimp only at hSw)
          go_simp
        try simp only [Act.put, List.setIfInBounds_toArray, List.set_cons_zero, List.set_cons_succ]
        refine wpAnyH_take (i := 8) (oi := { dst := some 3, op := Op.assign (Operand.tmp 50), type := 22, pos := "frame.go:52", after := #[{ on := 5, ground := Ground.data }, { on := 7, ground := Ground.chain }, { on := 0, ground := Ground.phase }, { on := 1, ground := Ground.phase }, { on := 2, ground := Ground.phase }, { on := 3, ground := Ground.phase }, { on := 4, ground := Ground.phase }, { on := 5, ground := Ground.phase }, { on := 6, ground := Ground.textOnly Departure.lateStores }, { on := 7, ground := Ground.phase }], guard := none }) (v := v2) rfl (by kernel_rfl) (by kernel_rfl) (by kernel_rfl) (fun _ _ _ h => h) (Or.inl ⟨by rfl, fun w hSw => ?_⟩) (by assumption) ?_
        · (try dsimp only at hSw)
          go_simp
        try simp only [Act.put, List.setIfInBounds_toArray, List.set_cons_zero, List.set_cons_succ]
        refine wpAnyH_take (i := 9) (oi := { dst := some 4, op := Op.assign (Operand.tmp 51), type := 3, pos := "frame.go:52", after := #[{ on := 6, ground := Ground.data }, { on := 8, ground := Ground.chain }, { on := 0, ground := Ground.phase }, { on := 1, ground := Ground.phase }, { on := 2, ground := Ground.phase }, { on := 3, ground := Ground.phase }, { on := 4, ground := Ground.phase }, { on := 5, ground := Ground.phase }, { on := 6, ground := Ground.phase }, { on := 7, ground := Ground.phase }, { on := 8, ground := Ground.phase }], guard := none }) (v := .int .i64 ((a : Int) + 4 + n)) rfl (by kernel_rfl) (by kernel_rfl) (by kernel_rfl) (fun _ _ _ h => h) (Or.inl ⟨by rfl, fun w hSw => ?_⟩) (by assumption) ?_
        · (try dsimp only at hSw)
          go_simp
        try simp only [Act.put, List.setIfInBounds_toArray, List.set_cons_zero, List.set_cons_succ]
        refine wpAnyH_take (i := 10) (oi := { dst := some 5, op := Op.assign (Operand.const (Value.int IntKind.i64 0)), type := 26, pos := "frame.go:52", after := #[{ on := 9, ground := Ground.chain }, { on := 0, ground := Ground.phase }, { on := 1, ground := Ground.phase }, { on := 2, ground := Ground.phase }, { on := 3, ground := Ground.phase }, { on := 4, ground := Ground.phase }, { on := 5, ground := Ground.phase }, { on := 6, ground := Ground.phase }, { on := 7, ground := Ground.phase }, { on := 8, ground := Ground.phase }, { on := 9, ground := Ground.phase }], guard := none }) (v := .int .i64 0) rfl (by kernel_rfl) (by kernel_rfl) (by kernel_rfl) (fun _ _ _ h => h) (Or.inl ⟨by rfl, fun w hSw => ?_⟩) (by assumption) ?_
        · (try dsimp only at hSw)
          go_simp
        try simp only [Act.put, List.setIfInBounds_toArray, List.set_cons_zero, List.set_cons_succ]
        refine wpAnyH_done (by kernel_rfl) ?_ _
        refine NoPanic.normal ?_
        go_wp2
        refine bodyPost_ret (v := .tuple #[.int .i64 x.toNat, v2, .int .i64 ((a : Int) + 4 + n), .int .i64 0]) (by simp [results, Tryd.results13, go_sem]) rfl ⟨v2, ?_, ?_, hb⟩
        · rw [HRES.out, show (a : Int) + 4 + n = ((5 + P.length + n : Nat) : Int) by have := HA.out; omega]; rfl
        · rw [HRES.out]; exact HV2.out.down (by have := hbl.size; omega)
  · obtain ⟨hop, rfl, rfl⟩ := headP_err hr he
    have hee : ((e : Int) == 0) = false := by rw [beq_eq_false_iff_ne]; omega
    rw [hop]
    clear hr hop h
    go_enter Tryd.func13, Tryd.ntmps13
    go_wp2_with fail
    refine HHD.out.mono ?_
    rintro e' w' ⟨rfl, rfl⟩
    go_wp2
    exact bodyPost_ret (v := .tuple #[.int .i64 0, .slice none 0 0, .int .i64 0, .int .i64 e]) (by simp [results, Tryd.results13, go_sem]) rfl ⟨_, rfl, ownB_nil _ _, Below.refl _ _⟩
end Go.Proofs.YtmpdjioclalifaaDoor
