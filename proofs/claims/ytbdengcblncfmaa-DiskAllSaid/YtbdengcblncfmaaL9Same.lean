/-
  The law's Same: does the program's disk tell what the reference's does?
  The disk has at most 999 files.
-/
import Derived.Test.YtbdengcblncfmaaL9Duo
import Derived.Test.YtbdengcblncfmaaL4Cut
import Derived.Test.YtbdengcblncfmaaL1Cut
set_option linter.unusedSimpArgs false
set_option linter.unusedVariables false
namespace Go.Proofs.Ytbdengcblncfmaa
open Go.RowKit
set_option maxRecDepth 100000

theorem calls9_low (S : Nat → Prop) (g : Nat) (l : List Fil) (c : Nat) (w : World) (h : PD w S g l c) : Calls Try.prog 27 #[.pointer (some ⟨g, 0, none⟩)] w fun e w' => e = .returned (.int .i64 (c : Nat)) ∧ Below w.heap.size w w' := by
  refine (calls9_any S g l c w h).mono ?_
  rintro e w' ⟨rfl, rfl⟩
  exact ⟨rfl, Below.refl _ _⟩
theorem loose9_low (S : Nat → Prop) (g : Nat) (l : List Fil) (c : Nat) (n : ByteArray) (w : World) (x : Int) (h : PD w S g l c) (hn : n.size ≤ maxLen) (hx : loose9 n l = x) :
    Calls Try.prog 25 #[.pointer (some ⟨g, 0, none⟩), .string n] w fun e w' => e = .returned (.int .i64 x) ∧ Below w.heap.size w w' := by
  subst hx
  exact loose9_disk S g l c n w h hn
set_option maxHeartbeats 12000000 in
theorem same9_any {N : Nat → Prop} (S : Nat → Prop) (B gd gr : Nat) (v : Value) (l : List Fil) (c : Nat) (w : World) (hp : PD w S gd l c) (hd : Dsk N w B gr v l c) (hc : c ≤ 1000000) (hl : l.length ≤ 999) :
    Calls Try.prog 24 #[.pointer (some ⟨gd, 0, none⟩), .pointer (some ⟨gr, 0, none⟩)] w fun e w' => e = .returned (.bool true) ∧ Below w.heap.size w w' := by
  obtain ⟨hgs, hgg⟩ := hp.good
  have HGS := Lib.hid hgs
  have HGG := Lib.hid hgg
  have HP := Lib.hid hp
  have HD := Lib.hid hd
  have hcr := hd.cell1
  have hc0 := hd.cell0
  have hgr := hd.lt
  obtain ⟨A, ca, hv⟩ := hd.own.slice
  obtain ⟨z, hz⟩ : ∃ z, l.length = z := ⟨_, rfl⟩
  rw [hz] at hv hl
  subst hv
  have HZ := Lib.hid hz
  have HL := Lib.hid hl
  have hb : Below w.heap.size w w := Below.refl _ _
  clear hp hd hgs hgg hz hl
  go_enter Try.func24, Try.ntmps24
  go_upto_region 1 with fail
  replace hcr : w.drew.cell? ⟨gr, 1, none⟩ = some (.int .i64 (c : Nat)) := hcr
  replace hc0 : w.drew.cell? ⟨gr, 0, none⟩ = some (.slice A z ca) := hc0
  replace HP := Lib.hid (PD.below HP.out ((Below.refl w.heap.size w).drew))
  replace HD := Lib.hid (Dsk.below HD.out ((Below.refl w.heap.size w).drew))
  refine wp_region_noPanic ?_
  refine wp_region_held_drew (S := fun W => W.cell? ⟨gr, 1, none⟩ = some (.int .i64 (c : Nat)) ∧ W.cell? ⟨gr, 0, none⟩ = some (.slice A z ca)) (by kernel_rfl) ?_ (fun hHeld => ?_)
  · exact ⟨hcr, hc0⟩
  replace hb : Below w.heap.size w w.drew := hb.drew
  replace hgr : gr < w.drew.heap.size := hgr
  have hzd : w.heap.size ≤ w.drew.heap.size := Nat.le_refl _
  generalize w.drew = k1 at *
  refine wpAnyH_take (i := 0) (oi := { dst := some 9, op := Op.move (Operand.tmp 0), type := 24, pos := "law.go:32", after := #[], guard := none }) (v := .pointer (some ⟨gd, 0, none⟩)) rfl (by kernel_rfl) (by kernel_rfl) (by kernel_rfl) (fun _ _ _ h => h) (Or.inl ⟨by rfl, fun w hSw => ?_⟩) (by assumption) ?_
  · (try dsimp only at hSw)
    go_simp
  try simp only [Act.put, List.setIfInBounds_toArray, List.set_cons_zero, List.set_cons_succ]
  refine wpAnyH_take (i := 1) (oi := { dst := some 10, op := Op.binOp BinOp.eql 24 (Operand.tmp 9) (Operand.const (Value.pointer none)) 24, type := 4, pos := "law.go:32", after := #[{ on := 0, ground := Ground.data }], guard := none }) (v := .bool false) rfl (by kernel_rfl) (by kernel_rfl) (by kernel_rfl) (fun _ _ _ h => h) (Or.inl ⟨by rfl, fun w hSw => ?_⟩) (by assumption) ?_
  · (try dsimp only at hSw)
    go_simp
  try simp only [Act.put, List.setIfInBounds_toArray, List.set_cons_zero, List.set_cons_succ]
  refine wpAnyH_take (i := 2) (oi := { dst := some 11, op := Op.move (Operand.tmp 10), type := 4, pos := "law.go:32", after := #[{ on := 1, ground := Ground.data }], guard := none }) (v := .bool false) rfl (by kernel_rfl) (by kernel_rfl) (by kernel_rfl) (fun _ _ _ h => h) (Or.inl ⟨by rfl, fun w hSw => ?_⟩) (by assumption) ?_
  · (try dsimp only at hSw)
    go_simp
  try simp only [Act.put, List.setIfInBounds_toArray, List.set_cons_zero, List.set_cons_succ]
  refine wpAnyH_take (i := 3) (oi := { dst := some 12, op := Op.move (Operand.tmp 0), type := 24, pos := "law.go:32", after := #[{ on := 2, ground := Ground.guard }], guard := some (2, false) }) (v := .pointer (some ⟨gd, 0, none⟩)) rfl (by kernel_rfl) (by kernel_rfl) (by kernel_rfl) (fun _ _ _ h => h) (Or.inl ⟨by rfl, fun w hSw => ?_⟩) (by assumption) ?_
  · (try dsimp only at hSw)
    go_simp
  try simp only [Act.put, List.setIfInBounds_toArray, List.set_cons_zero, List.set_cons_succ]
  refine wpAnyH_take (i := 5) (oi := { dst := some 14, op := Op.move (Operand.tmp 1), type := 26, pos := "law.go:32", after := #[{ on := 2, ground := Ground.guard }], guard := some (2, false) }) (v := .pointer (some ⟨gr, 0, none⟩)) rfl (by kernel_rfl) (by kernel_rfl) (by kernel_rfl) (fun _ _ _ h => h) (Or.inl ⟨by rfl, fun w hSw => ?_⟩) (by assumption) ?_
  · (try dsimp only at hSw)
    go_simp
  try simp only [Act.put, List.setIfInBounds_toArray, List.set_cons_zero, List.set_cons_succ]
  refine wpAnyH_take (i := 6) (oi := { dst := some 15, op := Op.nilCheck (Operand.tmp 14), type := 0, pos := "law.go:32", after := #[{ on := 5, ground := Ground.data }, { on := 2, ground := Ground.guard }], guard := some (2, false) }) (v := .pointer (some ⟨gr, 0, none⟩)) rfl (by kernel_rfl) (by kernel_rfl) (by kernel_rfl) (fun _ _ _ h => h) (Or.inl ⟨by rfl, fun w hSw => ?_⟩) (by assumption) ?_
  · (try dsimp only at hSw)
    go_simp
  try simp only [Act.put, List.setIfInBounds_toArray, List.set_cons_zero, List.set_cons_succ]
  refine wpAnyH_take (i := 7) (oi := { dst := some 16, op := Op.fieldAddr 29 (Operand.tmp 15) 1, type := 0, pos := "law.go:32", after := #[{ on := 6, ground := Ground.data }, { on := 2, ground := Ground.guard }], guard := some (2, false) }) (v := .pointer (some ⟨gr, 1, none⟩)) rfl (by kernel_rfl) (by kernel_rfl) (by kernel_rfl) (fun _ _ _ h => h) (Or.inl ⟨by rfl, fun w hSw => ?_⟩) (by assumption) ?_
  · (try dsimp only at hSw)
    go_simp
  try simp only [Act.put, List.setIfInBounds_toArray, List.set_cons_zero, List.set_cons_succ]
  refine wpAnyH_take (i := 8) (oi := { dst := some 17, op := Op.load 3 (Operand.tmp 16), type := 3, pos := "law.go:32", after := #[{ on := 7, ground := Ground.data }, { on := 2, ground := Ground.guard }], guard := some (2, false) }) (v := .int .i64 (c : Nat)) rfl (by kernel_rfl) (by kernel_rfl) (by kernel_rfl) (fun _ _ _ h => h) (Or.inl ⟨by rfl, fun w hSw => ?_⟩) (by assumption) ?_
  · (try dsimp only at hSw)
    go_simp
  try simp only [Act.put, List.setIfInBounds_toArray, List.set_cons_zero, List.set_cons_succ]
  refine wpAnyH_ready (rs := [4]) (by kernel_rfl) (by simp) ?_
  refine AllReadyH.cons (o := { dst := some 13, op := Op.call { callee := Callee.value (Operand.func 27), args := #[Operand.tmp 12], argTypes := #[24] }, type := 3, pos := "law.go:32", after := #[{ on := 3, ground := Ground.data }, { on := 2, ground := Ground.chain }, { on := 2, ground := Ground.guard }], guard := some (2, false) }) rfl (fun K hK => ?_) (AllReadyH.nil)
  go_simp
  go_at_call 27
  refine (calls9_low _ _ _ _ _ HP.out).mono ?_
  rintro e k2 ⟨rfl, h⟩
  have hk : Below k1.heap.size k1 k2 := by
    refine Below.trans ?_ (h.mono (by first | (simp; done) | (simp; omega) | omega))
    repeat' (first | with_reducible exact Below.refl _ _ | (with_reducible refine Below.alloc ?_ ?_ _) | (with_reducible refine Below.setCell ?_ ?_ _) | exact (by first | (simp; done) | (simp; omega) | omega))
  have hz := h.size
  try simp at hz
  replace hcr : k2.cell? ⟨gr, 1, none⟩ = some (.int .i64 (c : Nat)) := (hk.cell (p := ⟨gr, 1, none⟩) (by first | (simp; done) | (simp; omega) | omega)).trans hcr
  replace hc0 : k2.cell? ⟨gr, 0, none⟩ = some (.slice A z ca) := (hk.cell (p := ⟨gr, 0, none⟩) (by first | (simp; done) | (simp; omega) | omega)).trans hc0
  replace HP := Lib.hid (PD.below HP.out hk)
  replace HD := Lib.hid (Dsk.below HD.out hk)
  replace hb : Below w.heap.size w k2 := hb.trans (hk.mono hb.size)
  have hgr : gr < k2.heap.size := (by first | (simp; done) | (simp; omega) | omega)
  clear h hk
  try dsimp only
  refine hK.out _ _ ?_ (fun hHeld => ?_)
  · exact ⟨hcr, hc0⟩
  clear hK K
  try simp only [Act.put, List.setIfInBounds_toArray, List.set_cons_zero, List.set_cons_succ]
  refine wpAnyH_take (i := 9) (oi := { dst := some 18, op := Op.binOp BinOp.neq 3 (Operand.tmp 13) (Operand.tmp 17) 3, type := 4, pos := "law.go:32", after := #[{ on := 4, ground := Ground.data }, { on := 8, ground := Ground.data }, { on := 2, ground := Ground.guard }], guard := some (2, false) }) (v := .bool false) rfl (by kernel_rfl) (by kernel_rfl) (by kernel_rfl) (fun _ _ _ h => h) (Or.inl ⟨by rfl, fun w hSw => ?_⟩) (by assumption) ?_
  · (try dsimp only at hSw)
    go_simp
  try simp only [Act.put, List.setIfInBounds_toArray, List.set_cons_zero, List.set_cons_succ]
  refine wpAnyH_take (i := 10) (oi := { dst := some 19, op := Op.pick (Operand.tmp 11) (Operand.const (Value.bool true)) (Operand.tmp 18), type := 4, pos := "law.go:32", after := #[{ on := 2, ground := Ground.data }, { on := 9, ground := Ground.data }], guard := none }) (v := .bool false) rfl (by kernel_rfl) (by kernel_rfl) (by kernel_rfl) (fun _ _ _ h => h) (Or.inl ⟨by rfl, fun w hSw => ?_⟩) (by assumption) ?_
  · (try dsimp only at hSw)
    go_simp
  try simp only [Act.put, List.setIfInBounds_toArray, List.set_cons_zero, List.set_cons_succ]
  refine wpAnyH_done (by kernel_rfl) ?_ _
  refine NoPanic.normal ?_
  go_wp2_with fail
  refine (names9_disk _ _ _ _ _ HP.out (by rw [HZ.out]; have := HL.out; omega)).mono ?_
  rintro e k3 ⟨v5, rfl, hr, h⟩
  have hk : Below k2.heap.size k2 k3 := by
    refine Below.trans ?_ (h.mono (by first | (simp; done) | (simp; omega) | omega))
    repeat' (first | with_reducible exact Below.refl _ _ | (with_reducible refine Below.alloc ?_ ?_ _) | (with_reducible refine Below.setCell ?_ ?_ _) | exact (by first | (simp; done) | (simp; omega) | omega))
  have hz := h.size
  try simp at hz
  replace hcr : k3.cell? ⟨gr, 1, none⟩ = some (.int .i64 (c : Nat)) := (hk.cell (p := ⟨gr, 1, none⟩) (by first | (simp; done) | (simp; omega) | omega)).trans hcr
  replace hc0 : k3.cell? ⟨gr, 0, none⟩ = some (.slice A z ca) := (hk.cell (p := ⟨gr, 0, none⟩) (by first | (simp; done) | (simp; omega) | omega)).trans hc0
  replace HP := Lib.hid (PD.below HP.out hk)
  replace HD := Lib.hid (Dsk.below HD.out hk)
  replace hb : Below w.heap.size w k3 := hb.trans (hk.mono hb.size)
  have hgr : gr < k3.heap.size := (by first | (simp; done) | (simp; omega) | omega)
  rw [HZ.out] at hr
  obtain ⟨A5, c5, hv5⟩ := own_slice hr
  subst hv5
  have HR5 := Lib.hid hr
  clear hr
  clear h hk
  clear hcr
  have HB5 := Lib.hid hb
  have HP5 := Lib.hid HP.out
  have HD5 := Lib.hid HD.out
  clear hb HP HD
  go_wp2_with fail
  go_loopw [6] (fun i wr => ∃ k : Nat, i = .int .i64 k ∧ k ≤ z ∧ Below k3.heap.size k3 wr) (fun i _ => z - (intOf i).toNat)
  case atStart => exact ⟨0, rfl, Nat.zero_le _, Below.refl _ _⟩
  case round =>
    obtain ⟨j, rfl, hj, hb⟩ := hrel
    have HBJ := Lib.hid hb
    clear hb
    by_cases hlt : j < z
    · have hji : (j : Int) < z := by omega
      have hzz := HL.out
      have hjl : j < l.length := by rw [HZ.out]; exact hlt
      obtain ⟨f, hf⟩ : ∃ f, l[j] = f := ⟨_, rfl⟩
      have hgf := getF_at HGS.out j hjl
      have hfm : f ∈ l := by rw [← hf]; exact List.getElem_mem _
      have hfg := HGG.out f hfm
      have HP := Lib.hid (HP5.out.below HBJ.out)
      have hd := HD5.out.below HBJ.out
      obtain ⟨gl, hA5, hgl, hcl⟩ := names_at (ownsRow_below HR5.out HBJ.out) j hjl HZ.out
      obtain ⟨gf, u, hA, hBf, hgfl, hrg, hu, -⟩ := hd.own.at_ j hjl
      have hgr0 := hd.lt
      have hc0 := hd.cell0
      obtain ⟨Ab, cb, hub⟩ := own_slice hu
      obtain ⟨q, hq⟩ : ∃ q, l[j].b.length = q := ⟨_, rfl⟩
      rw [hq] at hub
      subst hub
      rw [hf] at hgf hcl hrg hu hq
      subst hA5; subst hA
      obtain ⟨nm, hnm⟩ : ∃ nm, f.name = nm := ⟨_, rfl⟩
      obtain ⟨bs, hbs⟩ : ∃ bs, f.b = bs := ⟨_, rfl⟩
      obtain ⟨fa, hfa⟩ : ∃ fa, f.fast = fa := ⟨_, rfl⟩
      have hls : loose9 nm l = (q : Int) - fa := by
        unfold loose9; rw [← hnm, hgf]
        show (f.b.length : Int) - f.fast = _
        rw [hq, hfa]
      obtain ⟨g1, g2, g3, g4⟩ := hfg
      rw [hq, hfa] at g2
      rw [hq] at g3
      rw [hnm] at g1 hgf hcl
      have hnz := (goodN_size g1).2
      have HNM : Hid (nm.size ≤ maxLen) := Lib.hid (by unfold maxLen; omega)
      have hcn0 : wr.cell? ⟨gf, j * 4, none⟩ = some (.string nm) := by rw [← hnm]; exact hrg 0 _ rfl
      have hcb0 : wr.cell? ⟨gf, j * 4 + 1, none⟩ = some (.slice Ab q cb) := hrg 1 _ rfl
      have hcf0 : wr.cell? ⟨gf, j * 4 + 2, none⟩ = some (.int .i64 (fa : Nat)) := by rw [← hfa]; exact hrg 2 _ rfl
      rw [hbs] at hu
      have HU := Lib.hid (Byt.of_own hu)
      have HGF := Lib.hid hgf
      have HLS := Lib.hid hls
      have HFB := Lib.hid hbs
      clear hgf hfm hf hnm hls hbs hrg hu g1 g4 hd hfa hBf
      go_wp2_with fail
      refine (read9_yes _ _ _ _ nm _ _ HP.out HNM.out HGF.out).mono ?_
      rintro e k7 ⟨v7, rfl, hv, hb⟩
      rw [HFB.out] at hv
      replace HP := Lib.hid (HP.out.below hb)
      replace HU := Lib.hid ((HU.out.below hb (Nat.le_refl _)).more hb.size)
      have hcl7 := (hb.cell (p := ⟨gl, j, none⟩) hgl).trans hcl
      have hcn7 := (hb.cell (p := ⟨gf, j * 4, none⟩) hgfl).trans hcn0
      have hcb7 := (hb.cell (p := ⟨gf, j * 4 + 1, none⟩) hgfl).trans hcb0
      have hcf7 := (hb.cell (p := ⟨gf, j * 4 + 2, none⟩) hgfl).trans hcf0
      have hc07 := (hb.cell (p := ⟨gr, 0, none⟩) hgr0).trans hc0
      have hgl7 := Nat.lt_of_lt_of_le hgl hb.size
      have hgf7 := Nat.lt_of_lt_of_le hgfl hb.size
      have hgr7 := Nat.lt_of_lt_of_le hgr0 hb.size
      have HBK := Lib.hid (HBJ.out.trans (hb.mono HBJ.out.size))
      obtain ⟨T, hT⟩ : ∃ T : ByteArray, (⟨bs.toArray⟩ : ByteArray) = T := ⟨_, rfl⟩
      have HT := Lib.hid hT
      have HX7 := Lib.hid (Byt.of_own hv)
      have hb7 := HB5.out.trans (HBK.out.mono HB5.out.size)
      have hss : (T.toList == T.toList) = true := beq_self_eq_true _
      have hnn2 : (nm.toList == nm.toList) = true := beq_self_eq_true _
      have hwr : IntKind.i64.wrap ((q : Int) - fa) = (q : Int) - fa := by rw [IntKind.wrap_i64]; omega
      have heq : (((q : Int) - fa) == ((q : Int) - fa)) = true := beq_self_eq_true _
      have hbb := hb7
      clear hv hb hcl hcn0 hcb0 hcf0 hc0 hgl hgfl hgr0 hT hb7
      have hb := hbb
      clear hbb
      go_upto_region 10 with fail
      replace hcl7 : k7.drew.cell? ⟨gl, j, none⟩ = some (.string nm) := hcl7
      replace hcn7 : k7.drew.cell? ⟨gf, j * 4, none⟩ = some (.string nm) := hcn7
      replace hcb7 : k7.drew.cell? ⟨gf, j * 4 + 1, none⟩ = some (.slice Ab q cb) := hcb7
      replace hcf7 : k7.drew.cell? ⟨gf, j * 4 + 2, none⟩ = some (.int .i64 (fa : Nat)) := hcf7
      replace hc07 : k7.drew.cell? ⟨gr, 0, none⟩ = some (.slice (some ⟨gf, 0, none⟩) z ca) := hc07
      replace HP := Lib.hid (PD.below HP.out ((Below.refl k7.heap.size k7).drew))
      replace HX7 := Lib.hid ((Byt.more (Byt.below HX7.out ((Below.refl k7.heap.size k7).drew) (Nat.le_refl _)) (Below.size ((Below.refl k7.heap.size k7).drew))))
      replace HU := Lib.hid ((Byt.more (Byt.below HU.out ((Below.refl k7.heap.size k7).drew) (Nat.le_refl _)) (Below.size ((Below.refl k7.heap.size k7).drew))))
      replace HBK := Lib.hid (Below.trans HBK.out (Below.mono ((Below.refl k7.heap.size k7).drew) (Below.size HBK.out)))
      have hr7 : (convert 30 9 v7).run Try.prog k7.drew = .ok (.string T) k7.drew := conv9 HX7.out HT.out
      have hr8 : (convert 30 9 (.slice Ab q cb)).run Try.prog k7.drew = .ok (.string T) k7.drew := conv9 HU.out HT.out
      refine wp_region_noPanic ?_
      refine wp_region_held_drew (S := fun W => W.cell? ⟨gl, j, none⟩ = some (.string nm) ∧ W.cell? ⟨gf, j * 4, none⟩ = some (.string nm) ∧ W.cell? ⟨gf, j * 4 + 1, none⟩ = some (.slice Ab q cb) ∧ W.cell? ⟨gf, j * 4 + 2, none⟩ = some (.int .i64 (fa : Nat)) ∧ W.cell? ⟨gr, 0, none⟩ = some (.slice (some ⟨gf, 0, none⟩) z ca) ∧ (convert 30 9 v7).run Try.prog W = .ok (.string T) W ∧ (convert 30 9 (.slice Ab q cb)).run Try.prog W = .ok (.string T) W) (by kernel_rfl) ?_ (fun hHeld => ?_)
      · exact ⟨hcl7, hcn7, hcb7, hcf7, hc07, hr7, hr8⟩
      replace hb : Below w.heap.size w k7.drew := hb.drew
      replace hgl7 : gl < k7.drew.heap.size := hgl7
      replace hgf7 : gf < k7.drew.heap.size := hgf7
      replace hgr7 : gr < k7.drew.heap.size := hgr7
      have hzd : k7.heap.size ≤ k7.drew.heap.size := Nat.le_refl _
      generalize k7.drew = k1 at *
      refine wpAnyH_take (i := 0) (oi := _) (v := .slice (some ⟨gl, 0, none⟩) z c5) rfl (by kernel_rfl) (by kernel_rfl) (by kernel_rfl) (fun _ _ _ h => h) (Or.inl ⟨by kernel_rfl, fun w hSw => ?_⟩) (by assumption) ?_
      · (try dsimp only at hSw)
        go_simp
      try simp only [Act.put, List.setIfInBounds_toArray, List.set_cons_zero, List.set_cons_succ]
      refine wpAnyH_take (i := 1) (oi := _) (v := .int .i64 (j : Nat)) rfl (by kernel_rfl) (by kernel_rfl) (by kernel_rfl) (fun _ _ _ h => h) (Or.inl ⟨by kernel_rfl, fun w hSw => ?_⟩) (by assumption) ?_
      · (try dsimp only at hSw)
        go_simp
      try simp only [Act.put, List.setIfInBounds_toArray, List.set_cons_zero, List.set_cons_succ]
      refine wpAnyH_take (i := 2) (oi := _) (v := .pointer (some ⟨gl, j, none⟩)) rfl (by kernel_rfl) (by kernel_rfl) (by kernel_rfl) (fun _ _ _ h => h) (Or.inl ⟨by kernel_rfl, fun w hSw => ?_⟩) (by assumption) ?_
      · (try dsimp only at hSw)
        go_simp
      try simp only [Act.put, List.setIfInBounds_toArray, List.set_cons_zero, List.set_cons_succ]
      refine wpAnyH_take (i := 3) (oi := _) (v := .string nm) rfl (by kernel_rfl) (by kernel_rfl) (by kernel_rfl) (fun _ _ _ h => h) (Or.inl ⟨by kernel_rfl, fun w hSw => ?_⟩) (by assumption) ?_
      · (try dsimp only at hSw)
        go_simp
      try simp only [Act.put, List.setIfInBounds_toArray, List.set_cons_zero, List.set_cons_succ]
      refine wpAnyH_take (i := 4) (oi := _) (v := .pointer (some ⟨gr, 0, none⟩)) rfl (by kernel_rfl) (by kernel_rfl) (by kernel_rfl) (fun _ _ _ h => h) (Or.inl ⟨by kernel_rfl, fun w hSw => ?_⟩) (by assumption) ?_
      · (try dsimp only at hSw)
        go_simp
      try simp only [Act.put, List.setIfInBounds_toArray, List.set_cons_zero, List.set_cons_succ]
      refine wpAnyH_take (i := 5) (oi := _) (v := .pointer (some ⟨gr, 0, none⟩)) rfl (by kernel_rfl) (by kernel_rfl) (by kernel_rfl) (fun _ _ _ h => h) (Or.inl ⟨by kernel_rfl, fun w hSw => ?_⟩) (by assumption) ?_
      · (try dsimp only at hSw)
        go_simp
      try simp only [Act.put, List.setIfInBounds_toArray, List.set_cons_zero, List.set_cons_succ]
      refine wpAnyH_take (i := 6) (oi := _) (v := .pointer (some ⟨gr, 0, none⟩)) rfl (by kernel_rfl) (by kernel_rfl) (by kernel_rfl) (fun _ _ _ h => h) (Or.inl ⟨by kernel_rfl, fun w hSw => ?_⟩) (by assumption) ?_
      · (try dsimp only at hSw)
        go_simp
      try simp only [Act.put, List.setIfInBounds_toArray, List.set_cons_zero, List.set_cons_succ]
      refine wpAnyH_take (i := 7) (oi := _) (v := .slice (some ⟨gf, 0, none⟩) z ca) rfl (by kernel_rfl) (by kernel_rfl) (by kernel_rfl) (fun _ _ _ h => h) (Or.inl ⟨by kernel_rfl, fun w hSw => ?_⟩) (by assumption) ?_
      · (try dsimp only at hSw)
        go_simp
      try simp only [Act.put, List.setIfInBounds_toArray, List.set_cons_zero, List.set_cons_succ]
      refine wpAnyH_take (i := 8) (oi := _) (v := .int .i64 (j : Nat)) rfl (by kernel_rfl) (by kernel_rfl) (by kernel_rfl) (fun _ _ _ h => h) (Or.inl ⟨by kernel_rfl, fun w hSw => ?_⟩) (by assumption) ?_
      · (try dsimp only at hSw)
        go_simp
      try simp only [Act.put, List.setIfInBounds_toArray, List.set_cons_zero, List.set_cons_succ]
      refine wpAnyH_take (i := 9) (oi := _) (v := .pointer (some ⟨gf, j * 4, none⟩)) rfl (by kernel_rfl) (by kernel_rfl) (by kernel_rfl) (fun _ _ _ h => h) (Or.inl ⟨by kernel_rfl, fun w hSw => ?_⟩) (by assumption) ?_
      · (try dsimp only at hSw)
        go_simp
      try simp only [Act.put, List.setIfInBounds_toArray, List.set_cons_zero, List.set_cons_succ]
      refine wpAnyH_take (i := 10) (oi := _) (v := .pointer (some ⟨gf, j * 4, none⟩)) rfl (by kernel_rfl) (by kernel_rfl) (by kernel_rfl) (fun _ _ _ h => h) (Or.inl ⟨by kernel_rfl, fun w hSw => ?_⟩) (by assumption) ?_
      · (try dsimp only at hSw)
        go_simp
      try simp only [Act.put, List.setIfInBounds_toArray, List.set_cons_zero, List.set_cons_succ]
      refine wpAnyH_take (i := 11) (oi := _) (v := .string nm) rfl (by kernel_rfl) (by kernel_rfl) (by kernel_rfl) (fun _ _ _ h => h) (Or.inl ⟨by kernel_rfl, fun w hSw => ?_⟩) (by assumption) ?_
      · (try dsimp only at hSw)
        go_simp
      try simp only [Act.put, List.setIfInBounds_toArray, List.set_cons_zero, List.set_cons_succ]
      refine wpAnyH_take (i := 12) (oi := _) (v := .bool false) rfl (by kernel_rfl) (by kernel_rfl) (by kernel_rfl) (fun _ _ _ h => h) (Or.inl ⟨by kernel_rfl, fun w hSw => ?_⟩) (by assumption) ?_
      · (try dsimp only at hSw)
        go_simp
      try simp only [Act.put, List.setIfInBounds_toArray, List.set_cons_zero, List.set_cons_succ]
      refine wpAnyH_take (i := 13) (oi := _) (v := .bool false) rfl (by kernel_rfl) (by kernel_rfl) (by kernel_rfl) (fun _ _ _ h => h) (Or.inl ⟨by kernel_rfl, fun w hSw => ?_⟩) (by assumption) ?_
      · (try dsimp only at hSw)
        go_simp
      try simp only [Act.put, List.setIfInBounds_toArray, List.set_cons_zero, List.set_cons_succ]
      refine wpAnyH_take (i := 14) (oi := _) (v := .int .i64 0) rfl (by kernel_rfl) (by kernel_rfl) (by kernel_rfl) (fun _ _ _ h => h) (Or.inl ⟨by kernel_rfl, fun w hSw => ?_⟩) (by assumption) ?_
      · (try dsimp only at hSw)
        go_simp
      try simp only [Act.put, List.setIfInBounds_toArray, List.set_cons_zero, List.set_cons_succ]
      refine wpAnyH_take (i := 15) (oi := _) (v := .bool false) rfl (by kernel_rfl) (by kernel_rfl) (by kernel_rfl) (fun _ _ _ h => h) (Or.inl ⟨by kernel_rfl, fun w hSw => ?_⟩) (by assumption) ?_
      · (try dsimp only at hSw)
        go_simp
      try simp only [Act.put, List.setIfInBounds_toArray, List.set_cons_zero, List.set_cons_succ]
      refine wpAnyH_take (i := 16) (oi := _) (v := .bool false) rfl (by kernel_rfl) (by kernel_rfl) (by kernel_rfl) (fun _ _ _ h => h) (Or.inl ⟨by kernel_rfl, fun w hSw => ?_⟩) (by assumption) ?_
      · (try dsimp only at hSw)
        go_simp
      try simp only [Act.put, List.setIfInBounds_toArray, List.set_cons_zero, List.set_cons_succ]
      refine wpAnyH_take (i := 17) (oi := _) (v := .bool false) rfl (by kernel_rfl) (by kernel_rfl) (by kernel_rfl) (fun _ _ _ h => h) (Or.inl ⟨by kernel_rfl, fun w hSw => ?_⟩) (by assumption) ?_
      · (try dsimp only at hSw)
        go_simp
      try simp only [Act.put, List.setIfInBounds_toArray, List.set_cons_zero, List.set_cons_succ]
      refine wpAnyH_take (i := 18) (oi := _) (v := v7) rfl (by kernel_rfl) (by kernel_rfl) (by kernel_rfl) (fun _ _ _ h => h) (Or.inl ⟨by kernel_rfl, fun w hSw => ?_⟩) (by assumption) ?_
      · (try dsimp only at hSw)
        go_simp
      try simp only [Act.put, List.setIfInBounds_toArray, List.set_cons_zero, List.set_cons_succ]
      refine wpAnyH_take (i := 19) (oi := _) (v := .string T) rfl (by kernel_rfl) (by kernel_rfl) (by kernel_rfl) (fun _ _ _ h => h) (Or.inl ⟨by kernel_rfl, fun w hSw => ?_⟩) (by assumption) ?_
      · (try dsimp only at hSw)
        go_simp
      try simp only [Act.put, List.setIfInBounds_toArray, List.set_cons_zero, List.set_cons_succ]
      refine wpAnyH_take (i := 20) (oi := _) (v := .pointer (some ⟨gr, 0, none⟩)) rfl (by kernel_rfl) (by kernel_rfl) (by kernel_rfl) (fun _ _ _ h => h) (Or.inl ⟨by kernel_rfl, fun w hSw => ?_⟩) (by assumption) ?_
      · (try dsimp only at hSw)
        go_simp
      try simp only [Act.put, List.setIfInBounds_toArray, List.set_cons_zero, List.set_cons_succ]
      refine wpAnyH_take (i := 21) (oi := _) (v := .pointer (some ⟨gr, 0, none⟩)) rfl (by kernel_rfl) (by kernel_rfl) (by kernel_rfl) (fun _ _ _ h => h) (Or.inl ⟨by kernel_rfl, fun w hSw => ?_⟩) (by assumption) ?_
      · (try dsimp only at hSw)
        go_simp
      try simp only [Act.put, List.setIfInBounds_toArray, List.set_cons_zero, List.set_cons_succ]
      refine wpAnyH_take (i := 22) (oi := _) (v := .pointer (some ⟨gr, 0, none⟩)) rfl (by kernel_rfl) (by kernel_rfl) (by kernel_rfl) (fun _ _ _ h => h) (Or.inl ⟨by kernel_rfl, fun w hSw => ?_⟩) (by assumption) ?_
      · (try dsimp only at hSw)
        go_simp
      try simp only [Act.put, List.setIfInBounds_toArray, List.set_cons_zero, List.set_cons_succ]
      refine wpAnyH_take (i := 23) (oi := _) (v := .slice (some ⟨gf, 0, none⟩) z ca) rfl (by kernel_rfl) (by kernel_rfl) (by kernel_rfl) (fun _ _ _ h => h) (Or.inl ⟨by kernel_rfl, fun w hSw => ?_⟩) (by assumption) ?_
      · (try dsimp only at hSw)
        go_simp
      try simp only [Act.put, List.setIfInBounds_toArray, List.set_cons_zero, List.set_cons_succ]
      refine wpAnyH_take (i := 24) (oi := _) (v := .int .i64 (j : Nat)) rfl (by kernel_rfl) (by kernel_rfl) (by kernel_rfl) (fun _ _ _ h => h) (Or.inl ⟨by kernel_rfl, fun w hSw => ?_⟩) (by assumption) ?_
      · (try dsimp only at hSw)
        go_simp
      try simp only [Act.put, List.setIfInBounds_toArray, List.set_cons_zero, List.set_cons_succ]
      refine wpAnyH_take (i := 25) (oi := _) (v := .pointer (some ⟨gf, j * 4, none⟩)) rfl (by kernel_rfl) (by kernel_rfl) (by kernel_rfl) (fun _ _ _ h => h) (Or.inl ⟨by kernel_rfl, fun w hSw => ?_⟩) (by assumption) ?_
      · (try dsimp only at hSw)
        go_simp
      try simp only [Act.put, List.setIfInBounds_toArray, List.set_cons_zero, List.set_cons_succ]
      refine wpAnyH_take (i := 26) (oi := _) (v := .pointer (some ⟨gf, j * 4 + 1, none⟩)) rfl (by kernel_rfl) (by kernel_rfl) (by kernel_rfl) (fun _ _ _ h => h) (Or.inl ⟨by kernel_rfl, fun w hSw => ?_⟩) (by assumption) ?_
      · (try dsimp only at hSw)
        go_simp
      try simp only [Act.put, List.setIfInBounds_toArray, List.set_cons_zero, List.set_cons_succ]
      refine wpAnyH_take (i := 27) (oi := _) (v := .slice Ab q cb) rfl (by kernel_rfl) (by kernel_rfl) (by kernel_rfl) (fun _ _ _ h => h) (Or.inl ⟨by kernel_rfl, fun w hSw => ?_⟩) (by assumption) ?_
      · (try dsimp only at hSw)
        go_simp
      try simp only [Act.put, List.setIfInBounds_toArray, List.set_cons_zero, List.set_cons_succ]
      refine wpAnyH_take (i := 28) (oi := _) (v := .string T) rfl (by kernel_rfl) (by kernel_rfl) (by kernel_rfl) (fun _ _ _ h => h) (Or.inl ⟨by kernel_rfl, fun w hSw => ?_⟩) (by assumption) ?_
      · (try dsimp only at hSw)
        go_simp
      try simp only [Act.put, List.setIfInBounds_toArray, List.set_cons_zero, List.set_cons_succ]
      refine wpAnyH_take (i := 29) (oi := _) (v := .bool false) rfl (by kernel_rfl) (by kernel_rfl) (by kernel_rfl) (fun _ _ _ h => h) (Or.inl ⟨by kernel_rfl, fun w hSw => ?_⟩) (by assumption) ?_
      · (try dsimp only at hSw)
        go_simp
      try simp only [Act.put, List.setIfInBounds_toArray, List.set_cons_zero, List.set_cons_succ]
      refine wpAnyH_take (i := 30) (oi := _) (v := .bool false) rfl (by kernel_rfl) (by kernel_rfl) (by kernel_rfl) (fun _ _ _ h => h) (Or.inl ⟨by kernel_rfl, fun w hSw => ?_⟩) (by assumption) ?_
      · (try dsimp only at hSw)
        go_simp
      try simp only [Act.put, List.setIfInBounds_toArray, List.set_cons_zero, List.set_cons_succ]
      refine wpAnyH_take (i := 31) (oi := _) (v := .bool false) rfl (by kernel_rfl) (by kernel_rfl) (by kernel_rfl) (fun _ _ _ h => h) (Or.inl ⟨by kernel_rfl, fun w hSw => ?_⟩) (by assumption) ?_
      · (try dsimp only at hSw)
        go_simp
      try simp only [Act.put, List.setIfInBounds_toArray, List.set_cons_zero, List.set_cons_succ]
      refine wpAnyH_take (i := 32) (oi := _) (v := .pointer (some ⟨gd, 0, none⟩)) rfl (by kernel_rfl) (by kernel_rfl) (by kernel_rfl) (fun _ _ _ h => h) (Or.inl ⟨by kernel_rfl, fun w hSw => ?_⟩) (by assumption) ?_
      · (try dsimp only at hSw)
        go_simp
      try simp only [Act.put, List.setIfInBounds_toArray, List.set_cons_zero, List.set_cons_succ]
      refine wpAnyH_take (i := 33) (oi := _) (v := .slice (some ⟨gl, 0, none⟩) z c5) rfl (by kernel_rfl) (by kernel_rfl) (by kernel_rfl) (fun _ _ _ h => h) (Or.inl ⟨by kernel_rfl, fun w hSw => ?_⟩) (by assumption) ?_
      · (try dsimp only at hSw)
        go_simp
      try simp only [Act.put, List.setIfInBounds_toArray, List.set_cons_zero, List.set_cons_succ]
      refine wpAnyH_take (i := 34) (oi := _) (v := .int .i64 (j : Nat)) rfl (by kernel_rfl) (by kernel_rfl) (by kernel_rfl) (fun _ _ _ h => h) (Or.inl ⟨by kernel_rfl, fun w hSw => ?_⟩) (by assumption) ?_
      · (try dsimp only at hSw)
        go_simp
      try simp only [Act.put, List.setIfInBounds_toArray, List.set_cons_zero, List.set_cons_succ]
      refine wpAnyH_take (i := 35) (oi := _) (v := .pointer (some ⟨gl, j, none⟩)) rfl (by kernel_rfl) (by kernel_rfl) (by kernel_rfl) (fun _ _ _ h => h) (Or.inl ⟨by kernel_rfl, fun w hSw => ?_⟩) (by assumption) ?_
      · (try dsimp only at hSw)
        go_simp
      try simp only [Act.put, List.setIfInBounds_toArray, List.set_cons_zero, List.set_cons_succ]
      refine wpAnyH_take (i := 36) (oi := _) (v := .string nm) rfl (by kernel_rfl) (by kernel_rfl) (by kernel_rfl) (fun _ _ _ h => h) (Or.inl ⟨by kernel_rfl, fun w hSw => ?_⟩) (by assumption) ?_
      · (try dsimp only at hSw)
        go_simp
      try simp only [Act.put, List.setIfInBounds_toArray, List.set_cons_zero, List.set_cons_succ]
      refine wpAnyH_take (i := 38) (oi := _) (v := .pointer (some ⟨gr, 0, none⟩)) rfl (by kernel_rfl) (by kernel_rfl) (by kernel_rfl) (fun _ _ _ h => h) (Or.inl ⟨by kernel_rfl, fun w hSw => ?_⟩) (by assumption) ?_
      · (try dsimp only at hSw)
        go_simp
      try simp only [Act.put, List.setIfInBounds_toArray, List.set_cons_zero, List.set_cons_succ]
      refine wpAnyH_take (i := 39) (oi := _) (v := .pointer (some ⟨gr, 0, none⟩)) rfl (by kernel_rfl) (by kernel_rfl) (by kernel_rfl) (fun _ _ _ h => h) (Or.inl ⟨by kernel_rfl, fun w hSw => ?_⟩) (by assumption) ?_
      · (try dsimp only at hSw)
        go_simp
      try simp only [Act.put, List.setIfInBounds_toArray, List.set_cons_zero, List.set_cons_succ]
      refine wpAnyH_take (i := 40) (oi := _) (v := .pointer (some ⟨gr, 0, none⟩)) rfl (by kernel_rfl) (by kernel_rfl) (by kernel_rfl) (fun _ _ _ h => h) (Or.inl ⟨by kernel_rfl, fun w hSw => ?_⟩) (by assumption) ?_
      · (try dsimp only at hSw)
        go_simp
      try simp only [Act.put, List.setIfInBounds_toArray, List.set_cons_zero, List.set_cons_succ]
      refine wpAnyH_take (i := 41) (oi := _) (v := .slice (some ⟨gf, 0, none⟩) z ca) rfl (by kernel_rfl) (by kernel_rfl) (by kernel_rfl) (fun _ _ _ h => h) (Or.inl ⟨by kernel_rfl, fun w hSw => ?_⟩) (by assumption) ?_
      · (try dsimp only at hSw)
        go_simp
      try simp only [Act.put, List.setIfInBounds_toArray, List.set_cons_zero, List.set_cons_succ]
      refine wpAnyH_take (i := 42) (oi := _) (v := .int .i64 (j : Nat)) rfl (by kernel_rfl) (by kernel_rfl) (by kernel_rfl) (fun _ _ _ h => h) (Or.inl ⟨by kernel_rfl, fun w hSw => ?_⟩) (by assumption) ?_
      · (try dsimp only at hSw)
        go_simp
      try simp only [Act.put, List.setIfInBounds_toArray, List.set_cons_zero, List.set_cons_succ]
      refine wpAnyH_take (i := 43) (oi := _) (v := .pointer (some ⟨gf, j * 4, none⟩)) rfl (by kernel_rfl) (by kernel_rfl) (by kernel_rfl) (fun _ _ _ h => h) (Or.inl ⟨by kernel_rfl, fun w hSw => ?_⟩) (by assumption) ?_
      · (try dsimp only at hSw)
        go_simp
      try simp only [Act.put, List.setIfInBounds_toArray, List.set_cons_zero, List.set_cons_succ]
      refine wpAnyH_take (i := 44) (oi := _) (v := .pointer (some ⟨gf, j * 4 + 1, none⟩)) rfl (by kernel_rfl) (by kernel_rfl) (by kernel_rfl) (fun _ _ _ h => h) (Or.inl ⟨by kernel_rfl, fun w hSw => ?_⟩) (by assumption) ?_
      · (try dsimp only at hSw)
        go_simp
      try simp only [Act.put, List.setIfInBounds_toArray, List.set_cons_zero, List.set_cons_succ]
      refine wpAnyH_take (i := 45) (oi := _) (v := .slice Ab q cb) rfl (by kernel_rfl) (by kernel_rfl) (by kernel_rfl) (fun _ _ _ h => h) (Or.inl ⟨by kernel_rfl, fun w hSw => ?_⟩) (by assumption) ?_
      · (try dsimp only at hSw)
        go_simp
      try simp only [Act.put, List.setIfInBounds_toArray, List.set_cons_zero, List.set_cons_succ]
      refine wpAnyH_take (i := 46) (oi := _) (v := .int .i64 (q : Nat)) rfl (by kernel_rfl) (by kernel_rfl) (by kernel_rfl) (fun _ _ _ h => h) (Or.inl ⟨by kernel_rfl, fun w hSw => ?_⟩) (by assumption) ?_
      · (try dsimp only at hSw)
        go_simp
      try simp only [Act.put, List.setIfInBounds_toArray, List.set_cons_zero, List.set_cons_succ]
      refine wpAnyH_take (i := 47) (oi := _) (v := .pointer (some ⟨gr, 0, none⟩)) rfl (by kernel_rfl) (by kernel_rfl) (by kernel_rfl) (fun _ _ _ h => h) (Or.inl ⟨by kernel_rfl, fun w hSw => ?_⟩) (by assumption) ?_
      · (try dsimp only at hSw)
        go_simp
      try simp only [Act.put, List.setIfInBounds_toArray, List.set_cons_zero, List.set_cons_succ]
      refine wpAnyH_take (i := 48) (oi := _) (v := .pointer (some ⟨gr, 0, none⟩)) rfl (by kernel_rfl) (by kernel_rfl) (by kernel_rfl) (fun _ _ _ h => h) (Or.inl ⟨by kernel_rfl, fun w hSw => ?_⟩) (by assumption) ?_
      · (try dsimp only at hSw)
        go_simp
      try simp only [Act.put, List.setIfInBounds_toArray, List.set_cons_zero, List.set_cons_succ]
      refine wpAnyH_take (i := 49) (oi := _) (v := .pointer (some ⟨gr, 0, none⟩)) rfl (by kernel_rfl) (by kernel_rfl) (by kernel_rfl) (fun _ _ _ h => h) (Or.inl ⟨by kernel_rfl, fun w hSw => ?_⟩) (by assumption) ?_
      · (try dsimp only at hSw)
        go_simp
      try simp only [Act.put, List.setIfInBounds_toArray, List.set_cons_zero, List.set_cons_succ]
      refine wpAnyH_take (i := 50) (oi := _) (v := .slice (some ⟨gf, 0, none⟩) z ca) rfl (by kernel_rfl) (by kernel_rfl) (by kernel_rfl) (fun _ _ _ h => h) (Or.inl ⟨by kernel_rfl, fun w hSw => ?_⟩) (by assumption) ?_
      · (try dsimp only at hSw)
        go_simp
      try simp only [Act.put, List.setIfInBounds_toArray, List.set_cons_zero, List.set_cons_succ]
      refine wpAnyH_take (i := 51) (oi := _) (v := .int .i64 (j : Nat)) rfl (by kernel_rfl) (by kernel_rfl) (by kernel_rfl) (fun _ _ _ h => h) (Or.inl ⟨by kernel_rfl, fun w hSw => ?_⟩) (by assumption) ?_
      · (try dsimp only at hSw)
        go_simp
      try simp only [Act.put, List.setIfInBounds_toArray, List.set_cons_zero, List.set_cons_succ]
      refine wpAnyH_take (i := 52) (oi := _) (v := .pointer (some ⟨gf, j * 4, none⟩)) rfl (by kernel_rfl) (by kernel_rfl) (by kernel_rfl) (fun _ _ _ h => h) (Or.inl ⟨by kernel_rfl, fun w hSw => ?_⟩) (by assumption) ?_
      · (try dsimp only at hSw)
        go_simp
      try simp only [Act.put, List.setIfInBounds_toArray, List.set_cons_zero, List.set_cons_succ]
      refine wpAnyH_take (i := 53) (oi := _) (v := .pointer (some ⟨gf, j * 4 + 2, none⟩)) rfl (by kernel_rfl) (by kernel_rfl) (by kernel_rfl) (fun _ _ _ h => h) (Or.inl ⟨by kernel_rfl, fun w hSw => ?_⟩) (by assumption) ?_
      · (try dsimp only at hSw)
        go_simp
      try simp only [Act.put, List.setIfInBounds_toArray, List.set_cons_zero, List.set_cons_succ]
      refine wpAnyH_take (i := 54) (oi := _) (v := .int .i64 (fa : Nat)) rfl (by kernel_rfl) (by kernel_rfl) (by kernel_rfl) (fun _ _ _ h => h) (Or.inl ⟨by kernel_rfl, fun w hSw => ?_⟩) (by assumption) ?_
      · (try dsimp only at hSw)
        go_simp
      try simp only [Act.put, List.setIfInBounds_toArray, List.set_cons_zero, List.set_cons_succ]
      refine wpAnyH_take (i := 55) (oi := _) (v := .int .i64 ((q : Int) - fa)) rfl (by kernel_rfl) (by kernel_rfl) (by kernel_rfl) (fun _ _ _ h => h) (Or.inl ⟨by kernel_rfl, fun w hSw => ?_⟩) (by assumption) ?_
      · (try dsimp only at hSw)
        go_simp
      try simp only [Act.put, List.setIfInBounds_toArray, List.set_cons_zero, List.set_cons_succ]
      refine wpAnyH_ready (rs := [37]) (by kernel_rfl) (by simp) ?_
      refine AllReadyH.cons (o := { dst := some 82, op := Op.call { callee := Callee.value (Operand.func 25), args := #[Operand.tmp 77, Operand.tmp 81], argTypes := #[24, 9] }, type := 3, pos := "law.go:41", after := #[{ on := 32, ground := Ground.data }, { on := 36, ground := Ground.data }, { on := 31, ground := Ground.chain }, { on := 31, ground := Ground.guard }], guard := some (31, false) }) rfl (fun K hK => ?_) (AllReadyH.nil)
      go_simp
      go_at_call 25
      refine (loose9_low _ _ _ _ nm _ ((q : Int) - fa) HP.out HNM.out HLS.out).mono ?_
      rintro e k2 ⟨rfl, h⟩
      have hk : Below k1.heap.size k1 k2 := by
        refine Below.trans ?_ (h.mono (by first | (simp; done) | (simp; omega) | omega))
        repeat' (first | with_reducible exact Below.refl _ _ | (with_reducible refine Below.alloc ?_ ?_ _) | (with_reducible refine Below.setCell ?_ ?_ _) | exact (by first | (simp; done) | (simp; omega) | omega))
      have hz := h.size
      try simp at hz
      replace hcl7 : k2.cell? ⟨gl, j, none⟩ = some (.string nm) := (hk.cell (p := ⟨gl, j, none⟩) (by first | (simp; done) | (simp; omega) | omega)).trans hcl7
      replace hcn7 : k2.cell? ⟨gf, j * 4, none⟩ = some (.string nm) := (hk.cell (p := ⟨gf, j * 4, none⟩) (by first | (simp; done) | (simp; omega) | omega)).trans hcn7
      replace hcb7 : k2.cell? ⟨gf, j * 4 + 1, none⟩ = some (.slice Ab q cb) := (hk.cell (p := ⟨gf, j * 4 + 1, none⟩) (by first | (simp; done) | (simp; omega) | omega)).trans hcb7
      replace hcf7 : k2.cell? ⟨gf, j * 4 + 2, none⟩ = some (.int .i64 (fa : Nat)) := (hk.cell (p := ⟨gf, j * 4 + 2, none⟩) (by first | (simp; done) | (simp; omega) | omega)).trans hcf7
      replace hc07 : k2.cell? ⟨gr, 0, none⟩ = some (.slice (some ⟨gf, 0, none⟩) z ca) := (hk.cell (p := ⟨gr, 0, none⟩) (by first | (simp; done) | (simp; omega) | omega)).trans hc07
      replace HP := Lib.hid (PD.below HP.out hk)
      replace HX7 := Lib.hid ((Byt.more (Byt.below HX7.out hk (Nat.le_refl _)) (Below.size hk)))
      replace HU := Lib.hid ((Byt.more (Byt.below HU.out hk (Nat.le_refl _)) (Below.size hk)))
      replace HBK := Lib.hid (Below.trans HBK.out (Below.mono hk (Below.size HBK.out)))
      replace hb : Below w.heap.size w k2 := hb.trans (hk.mono hb.size)
      have hgl7 : gl < k2.heap.size := (by first | (simp; done) | (simp; omega) | omega)
      have hgf7 : gf < k2.heap.size := (by first | (simp; done) | (simp; omega) | omega)
      have hgr7 : gr < k2.heap.size := (by first | (simp; done) | (simp; omega) | omega)
      clear h hk
      have hr7 : (convert 30 9 v7).run Try.prog k2 = .ok (.string T) k2 := conv9 HX7.out HT.out
      have hr8 : (convert 30 9 (.slice Ab q cb)).run Try.prog k2 = .ok (.string T) k2 := conv9 HU.out HT.out
      try dsimp only
      refine hK.out _ _ ?_ (fun hHeld => ?_)
      · exact ⟨hcl7, hcn7, hcb7, hcf7, hc07, hr7, hr8⟩
      clear hK K
      try simp only [Act.put, List.setIfInBounds_toArray, List.set_cons_zero, List.set_cons_succ]
      refine wpAnyH_take (i := 56) (oi := _) (v := .bool false) rfl (by kernel_rfl) (by kernel_rfl) (by kernel_rfl) (fun _ _ _ h => h) (Or.inl ⟨by kernel_rfl, fun w hSw => ?_⟩) (by assumption) ?_
      · (try dsimp only at hSw)
        go_simp
      try simp only [Act.put, List.setIfInBounds_toArray, List.set_cons_zero, List.set_cons_succ]
      refine wpAnyH_take (i := 57) (oi := _) (v := .bool false) rfl (by kernel_rfl) (by kernel_rfl) (by kernel_rfl) (fun _ _ _ h => h) (Or.inl ⟨by kernel_rfl, fun w hSw => ?_⟩) (by assumption) ?_
      · (try dsimp only at hSw)
        go_simp
      try simp only [Act.put, List.setIfInBounds_toArray, List.set_cons_zero, List.set_cons_succ]
      refine wpAnyH_done (by kernel_rfl) ?_ _
      refine NoPanic.normal ?_
      go_wp2
      go_roundw
      case rel => exact ⟨j + 1, by go_num, by omega, HBK.out⟩
      case measure => simp [intOf]; omega
    · have hge2 : (z : Int) ≤ j := by omega
      clear hlt
      go_wp2
      go_ret
      exact ⟨rfl, HB5.out.trans (HBJ.out.mono HB5.out.size)⟩
end Go.Proofs.Ytbdengcblncfmaa
