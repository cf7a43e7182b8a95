/-
  A document's set: a key is given a value, or goes; there is no place for a fifty-first key.
  The document is a good one, in memory of its own; the key and the value may be.
-/
import Derived.Test.YtegkhkcnoahhdaaDOps
import Derived.Test.YtegkhkcnoahhdaaDIns
set_option linter.unusedSimpArgs false
set_option linter.unusedVariables false
namespace Go.Proofs.Ytegkhkcnoahhdaa
open Go.RowKit Go.Lib
set_option maxRecDepth 100000

/-- block g is a document whose rows are its own; it and they lie from block B on -/
structure DocO (w : World) (B g : Nat) (v : Value) (l : List Par) : Prop where
  lo : B ≤ g
  here : w.heap[g]? = some (.cells #[v] 59 (0, 0))
  own : OwnR B v l w
theorem own_slice3 {B : Nat} {v : Value} {l : List Par} {w : World} (h : OwnR B v l w) : ∃ A m c, v = .slice A m c := by
  obtain ⟨A, c, h⟩ := own_slice h
  exact ⟨A, _, c, h⟩
theorem row_ne_doc : (80 : TypeId) ≠ 59 := by decide
theorem own_ne {w : World} {B g : Nat} {v : Value} {l : List Par} {cs : Array Value} {fz : Nat × Nat} (ho : OwnR B v l w) (h2 : w.heap[g]? = some (.cells cs 59 fz)) : v.ownBlock ≠ some g := fun e => by
  unfold OwnR at ho
  rcases ho.2 with ⟨rfl, _⟩ | ⟨g', c, cur, rfl, _, hg, _⟩
  · cases e
  · injection e with e
    simp only at e
    subst e
    rw [hg] at h2
    injection h2 with h2
    injection h2 with h2 h3 h4
    exact row_ne_doc h3
theorem DocO.ne {w : World} {B g : Nat} {v : Value} {l : List Par} (h : DocO w B g v l) : v.ownBlock ≠ some g := own_ne h.own h.here
theorem DocO.lt {w : World} {B g : Nat} {v : Value} {l : List Par} (h : DocO w B g v l) : g < w.heap.size := (Array.getElem?_eq_some_iff.1 h.here).1
theorem cell_one {w : World} {g : Nat} {v : Value} {t : TypeId} (h : w.heap[g]? = some (.cells #[v] t (0, 0))) : w.cell? ⟨g, 0, none⟩ = some v := by
  rw [cell_of_row w g 0 [v].toArray t (0, 0) h]; rfl
theorem frozen_one {w : World} {g : Nat} {v : Value} {t : TypeId} (h : w.heap[g]? = some (.cells #[v] t (0, 0))) : w.frozen? ⟨g, 0, none⟩ = false := by
  simp [World.frozen?, h]
theorem DocO.docR {w : World} {B g : Nat} {v : Value} {l : List Par} (h : DocO w B g v l) : DocR w w.heap.size g l := ⟨h.lt, v, cell_one h.here, Rws.of_own h.own⟩
theorem DocO.below {w w' : World} {B g : Nat} {v : Value} {l : List Par} (h : DocO w B g v l) (hb : Below w.heap.size w w') : DocO w' B g v l :=
  ⟨h.lo, (hb.block g h.lt).trans h.here, ownsRow_below h.own hb⟩
theorem rcs_set : ∀ (l : List Par) (i : Nat) (x : Raw) (h : i < l.length), (l.flatMap Par.rc).set (i * 2 + 1) (vaOf x).ins = (l.take i ++ ⟨(l[i]'h).k, x⟩ :: l.drop (i + 1)).flatMap Par.rc
  | p :: t, 0, x, h => by simp [Par.rc]
  | p :: t, i + 1, x, h => by
    have ih := rcs_set t i x (by simpa using h)
    have hl : p.rc.length = 2 := rfl
    rw [List.flatMap_cons, List.set_append_right _ _ (by rw [hl]; omega), hl, show (i + 1) * 2 + 1 - 2 = i * 2 + 1 by omega, ih]
    simp
theorem docO_store {w : World} {B g : Nat} {u v : Value} {l : List Par} (h : w.heap[g]? = some (.cells #[u] 59 (0, 0))) (ho : OwnR B v l w) (hB : B ≤ g) : DocO (w.setCell ⟨g, 0, none⟩ v) B g v l :=
  ⟨hB, by rw [heap_setCell_same w g 0 _ _ v h]; rfl, World.ownsRow.kept ho (setCell_grown w _ _) (.inr (own_ne ho h))⟩
/-- what set answers, and what is there behind it -/
def SetR (B g : Nat) (l : List Par) (key : ByteArray) (x : Raw) (w : World) (e : Ending) (w' : World) : Prop :=
  ∃ (k : Nat) (v' : Value), e = .returned (.int .i64 k) ∧ ((k = 6 ∧ (x.kind ≠ 0 ∧ hasK l key = false ∧ 50 ≤ l.length)) ∨ (k = 0 ∧ ¬ (x.kind ≠ 0 ∧ hasK l key = false ∧ 50 ≤ l.length) ∧ DocO w' B g v' (dSet l key x))) ∧ Below B w w'
set_option maxHeartbeats 1000000 in
theorem dset_any (B g : Nat) (v : Value) (l : List Par) (key : ByteArray) (x : Raw) (vi : Value) (k : Int) (w : World) (h : DocO w B g v l) (hg : Gd l) (hks : key.size ≤ 1000000) (hx : (vaOf x).ins = vi) (hm : mayR x = true) (hk : x.kind = k) :
    Calls Try.prog 57 #[.pointer (some ⟨g, 0, none⟩), .string key, .agg #[vi]] w (SetR B g l key x w) := by
  have hpl := fun W (hb : Below w.heap.size w W) => dplace_any w.heap.size g l key W (h.docR.keep hb (Nat.le_refl _)) hb.size hg.srt (Nat.le_trans hg.len (by decide)) hg.small (Nat.le_trans hks (by decide))
  obtain ⟨p, hp⟩ : ∃ p, pos l key = p := ⟨_, rfl⟩
  obtain ⟨y, hy⟩ : ∃ y, hasK l key = y := ⟨_, rfl⟩
  rw [hp, hy] at hpl
  have HP := Lib.hid hpl
  have hst := fun a m W => ins_store (vaOf x) vi hx a m W
  have hkd := fun W => vkind_is (.agg #[vi]) (vaOf x) k W (by rw [hx]) (by rw [← hk, (va_back hm).1])
  have HK := Lib.hid hkd
  have hbw : Below w.heap.size w (w.alloc (.cells #[vi] 74)) := below_one w _
  have hgw := h.lt
  obtain ⟨A, c, rfl⟩ := own_slice h.own
  obtain ⟨n, hn⟩ : ∃ n, l.length = n := ⟨_, rfl⟩
  have hn50 : n ≤ 50 := by rw [← hn]; exact hg.len
  have r0 := cell_one h.here
  have r1 := frozen_one h.here
  rw [hn] at r0
  rw [hn] at h
  have R0 := Lib.hid r0
  have HXX := Lib.hid hx
  have HN := Lib.hid hn
  have HY := Lib.hid hy
  have HPP := Lib.hid hp
  have HKK := Lib.hid hk
  have HG := Lib.hid hg
  have HH := Lib.hid h
  clear hpl hkd h hn hy hp hk hg
  have hkc : (k == 0) = true ∨ (k == 0) = false := by cases (k == 0) <;> simp
  cases y with
  | false =>
    go_enter Try.func57, Try.ntmps57
    go_wp2_with fail
    refine (HP.out _ hbw).mono ?_
    rintro e k1 ⟨rfl, h⟩
    have q0 : k1.cell? ⟨w.heap.size, 0, none⟩ = some vi := (h.cell (p := ⟨w.heap.size, 0, none⟩) (by simp)).trans (by go_simp)
    have hb : Below w.heap.size w k1 := hbw.trans (h.mono (by simp))
    have hz := h.size
    simp at hz
    clear h
    go_wp2_with fail
    refine (HK.out _).mono ?_
    rintro e k2 ⟨rfl, h⟩
    replace q0 : k2.cell? ⟨w.heap.size, 0, none⟩ = some vi := (h.cell (p := ⟨w.heap.size, 0, none⟩) (by simp; omega)).trans q0
    replace hb : Below w.heap.size w k2 := hb.trans (h.mono hb.size)
    have hz2 := h.size
    clear h
    rcases hkc with hk0 | hk0
    · have hD : k = 0 := by simpa using hk0
      go_wp2_with fail
      go_ret
      refine ⟨0, .slice A n c, rfl, .inr ⟨rfl, by rw [HKK.out]; simp [hD], ?_⟩, hb.mono (Nat.le_trans HH.out.lo (Nat.le_of_lt hgw))⟩
      have e : dSet l key x = l := by
        rw [dSet_is HG.out.srt, HKK.out, hk0, HY.out]; simp
      rw [e]
      exact HH.out.below hb
    · have r0 : k2.cell? ⟨g, 0, none⟩ = some (.slice A n c) := (hb.cell (p := ⟨g, 0, none⟩) hgw).trans r0
      by_cases hf : 50 ≤ n
      · have hi : (50 : Int) ≤ (n : Int) := by omega
        go_wp2_with fail
        go_ret
        exact ⟨6, .slice none 0 0, rfl, .inl ⟨rfl, by rw [HKK.out]; simpa using hk0, HY.out, by rw [HN.out]; exact hf⟩, hb.mono (Nat.le_trans HH.out.lo (Nat.le_of_lt hgw))⟩
      · have hi : ¬ (50 : Int) ≤ (n : Int) := by omega
        go_wp2_with fail
        clear r0 r1
        have lt0 : w.heap.size < k2.heap.size := by omega
        replace q0 : k2.drew.cell? ⟨w.heap.size, 0, none⟩ = some (vi) := q0
        refine wp_region_noPanic ?_
        refine wp_region_held_drew (S := fun W => W.cell? ⟨w.heap.size, 0, none⟩ = some (vi)) (by kernel_rfl) ?_ (fun hHeld => ?_)
        · exact q0
        replace hb : Below w.heap.size w k2.drew := hb.drew
        replace lt0 : w.heap.size < k2.drew.heap.size := lt0
        have hzd : k2.heap.size ≤ k2.drew.heap.size := Nat.le_refl _
        generalize k2.drew = k3 at *
        refine wpAnyH_take (i := 0) (oi := { dst := some 19, op := Op.move (Operand.tmp 0), type := 49, pos := "doc.go:125", after := #[], guard := none }) (v := .pointer (some ⟨g, 0, none⟩)) rfl (by kernel_rfl) (by kernel_rfl) (by kernel_rfl) (fun _ _ _ h => h) (Or.inl ⟨by rfl, fun w hSw => ?_⟩) (by assumption) ?_
        · (try dsimp only at hSw)
          go_simp
        try simp only [Act.put, List.setIfInBounds_toArray, List.set_cons_zero, List.set_cons_succ]
        refine wpAnyH_take (i := 1) (oi := { dst := some 20, op := Op.move (Operand.tmp 0), type := 49, pos := "doc.go:125", after := #[], guard := none }) (v := .pointer (some ⟨g, 0, none⟩)) rfl (by kernel_rfl) (by kernel_rfl) (by kernel_rfl) (fun _ _ _ h => h) (Or.inl ⟨by rfl, fun w hSw => ?_⟩) (by assumption) ?_
        · (try dsimp only at hSw)
          go_simp
        try simp only [Act.put, List.setIfInBounds_toArray, List.set_cons_zero, List.set_cons_succ]
        refine wpAnyH_take (i := 2) (oi := { dst := some 21, op := Op.nilCheck (Operand.tmp 20), type := 0, pos := "doc.go:125", after := #[{ on := 1, ground := Ground.data }], guard := none }) (v := .pointer (some ⟨g, 0, none⟩)) rfl (by kernel_rfl) (by kernel_rfl) (by kernel_rfl) (fun _ _ _ h => h) (Or.inl ⟨by rfl, fun w hSw => ?_⟩) (by assumption) ?_
        · (try dsimp only at hSw)
          go_simp
        try simp only [Act.put, List.setIfInBounds_toArray, List.set_cons_zero, List.set_cons_succ]
        refine wpAnyH_take (i := 3) (oi := { dst := some 22, op := Op.fieldAddr 59 (Operand.tmp 21) 0, type := 0, pos := "doc.go:125", after := #[{ on := 2, ground := Ground.data }], guard := none }) (v := .pointer (some ⟨g, 0, none⟩)) rfl (by kernel_rfl) (by kernel_rfl) (by kernel_rfl) (fun _ _ _ h => h) (Or.inl ⟨by rfl, fun w hSw => ?_⟩) (by assumption) ?_
        · (try dsimp only at hSw)
          go_simp
        try simp only [Act.put, List.setIfInBounds_toArray, List.set_cons_zero, List.set_cons_succ]
        refine wpAnyH_take (i := 5) (oi := { dst := some 24, op := Op.move (Operand.tmp 7), type := 3, pos := "doc.go:125", after := #[], guard := none }) (v := .int .i64 p) rfl (by kernel_rfl) (by kernel_rfl) (by kernel_rfl) (fun _ _ _ h => h) (Or.inl ⟨by rfl, fun w hSw => ?_⟩) (by assumption) ?_
        · (try dsimp only at hSw)
          go_simp
        try simp only [Act.put, List.setIfInBounds_toArray, List.set_cons_zero, List.set_cons_succ]
        refine wpAnyH_take (i := 6) (oi := { dst := some 25, op := Op.move (Operand.tmp 1), type := 9, pos := "doc.go:125", after := #[], guard := none }) (v := .string key) rfl (by kernel_rfl) (by kernel_rfl) (by kernel_rfl) (fun _ _ _ h => h) (Or.inl ⟨by rfl, fun w hSw => ?_⟩) (by assumption) ?_
        · (try dsimp only at hSw)
          go_simp
        try simp only [Act.put, List.setIfInBounds_toArray, List.set_cons_zero, List.set_cons_succ]
        refine wpAnyH_take (i := 8) (oi := { dst := some 27, op := Op.load 74 (Operand.tmp 5), type := 74, pos := "doc.go:125", after := #[], guard := none }) (v := .agg #[vi]) rfl (by kernel_rfl) (by kernel_rfl) (by kernel_rfl) (fun _ _ _ h => h) (Or.inl ⟨by rfl, fun w hSw => ?_⟩) (by assumption) ?_
        · (try dsimp only at hSw)
          go_simp
        try simp only [Act.put, List.setIfInBounds_toArray, List.set_cons_zero, List.set_cons_succ]
        refine wpAnyH_ready (rs := [4, 7]) (by kernel_rfl) (by simp) ?_
        refine AllReadyH.cons (o := { dst := some 23, op := Op.load 57 (Operand.tmp 22), type := 57, pos := "doc.go:125", after := #[{ on := 3, ground := Ground.data }], guard := none }) rfl (fun K hK => ?_) (AllReadyH.cons (o := { dst := some 26, op := Op.call { callee := Callee.value (Operand.func 34), args := #[Operand.tmp 25], argTypes := #[9] }, type := 9, pos := "doc.go:125", after := #[{ on := 6, ground := Ground.data }], guard := none }) rfl (fun K hK => ?_) (AllReadyH.nil))
        · have r0 : k3.cell? ⟨g, 0, none⟩ = some (.slice A n c) := (hb.cell (p := ⟨g, 0, none⟩) hgw).trans R0.out
          have r0a : (k3.alloc (.cells #[.string key, vi] 80)).cell? ⟨g, 0, none⟩ = some (.slice A n c) := Lib.cell?_alloc_some _ r0
          go_simp
          clear r0 r0a
          refine hK.out _ _ ?_ (fun hHeld => ?_)
          · exact q0
          clear hK K
          try simp only [Act.put, List.setIfInBounds_toArray, List.set_cons_zero, List.set_cons_succ]
          refine wpAnyH_ready (rs := [7]) (by kernel_rfl) (by simp) ?_
          refine AllReadyH.cons (o := { dst := some 26, op := Op.call { callee := Callee.value (Operand.func 34), args := #[Operand.tmp 25], argTypes := #[9] }, type := 9, pos := "doc.go:125", after := #[{ on := 6, ground := Ground.data }], guard := none }) rfl (fun K hK => ?_) (AllReadyH.nil)
          go_simp
          go_at_call 34
          refine (clone_any key _ (Nat.le_trans hks (by decide))).mono ?_
          rintro e k4 ⟨rfl, h⟩
          have hk : Below k3.heap.size k3 k4 := by
            refine Below.trans ?_ (h.mono (by first | (simp; done) | (simp; omega) | omega))
            repeat' (first | with_reducible exact Below.refl _ _ | (with_reducible refine Below.alloc ?_ ?_ _) | (with_reducible refine Below.setCell ?_ ?_ _) | exact (by first | (simp; done) | (simp; omega) | omega))
          have hz := h.size
          try simp at hz
          replace q0 : k4.cell? ⟨w.heap.size, 0, none⟩ = some (vi) := (hk.cell (p := ⟨w.heap.size, 0, none⟩) (by first | (simp; done) | (simp; omega) | omega)).trans q0
          replace hb : Below w.heap.size w k4 := hb.trans (hk.mono hb.size)
          have lt0 : w.heap.size < k4.heap.size := (by first | (simp; done) | (simp; omega) | omega)
          clear h hk
          try dsimp only
          refine hK.out _ _ ?_ (fun hHeld => ?_)
          · exact q0
          clear hK K
          try simp only [Act.put, List.setIfInBounds_toArray, List.set_cons_zero, List.set_cons_succ]
          refine wpAnyH_take (i := 9) (oi := { dst := some 28, op := Op.build 80 #[(0, Operand.tmp 26), (1, Operand.tmp 27)], type := 80, pos := "doc.go:125", after := #[{ on := 7, ground := Ground.data }, { on := 8, ground := Ground.data }], guard := none }) (v := .agg #[.string key, vi]) rfl (by kernel_rfl) (by kernel_rfl) (by kernel_rfl) (fun _ _ _ h => h) (Or.inl ⟨by rfl, fun w hSw => ?_⟩) (by assumption) ?_
          · (try dsimp only at hSw)
            go_simp
          try simp only [Act.put, List.setIfInBounds_toArray, List.set_cons_zero, List.set_cons_succ]
          refine wpAnyH_ready (rs := [10]) (by kernel_rfl) (by simp) ?_
          refine AllReadyH.cons (o := { dst := some 29, op := Op.buildSlice 57 1 #[(0, Operand.tmp 28)], type := 57, pos := "doc.go:125", after := #[{ on := 9, ground := Ground.data }], guard := none }) rfl (fun K hK => ?_) (AllReadyH.nil)
          go_simp
          replace q0 : (k4.alloc (.cells #[.string key, vi] 80)).cell? ⟨w.heap.size, 0, none⟩ = some vi := by go_simp
          refine hK.out _ _ ?_ (fun hHeld => ?_)
          · exact q0
          clear hK K
          try simp only [Act.put, List.setIfInBounds_toArray, List.set_cons_zero, List.set_cons_succ]
          refine wpAnyH_ready (rs := [11]) (by kernel_rfl) (by simp) ?_
          refine AllReadyH.cons (o := { dst := some 30, op := Op.call { callee := Callee.value (Operand.func 77), args := #[Operand.tmp 23, Operand.tmp 24, Operand.tmp 29], argTypes := #[57, 3, 57] }, type := 57, pos := "doc.go:125", after := #[{ on := 4, ground := Ground.data }, { on := 5, ground := Ground.data }, { on := 10, ground := Ground.data }, { on := 7, ground := Ground.chain }], guard := none }) rfl (fun K hK => ?_) (AllReadyH.nil)
          go_simp
          go_at_call 77
          have hba : Below w.heap.size w (k4.alloc (.cells #[.string key, vi] 80)) := hb.alloc hb.size _
          refine (dins_any B p (.slice A n c) l ⟨key, x⟩ k4.heap.size _ (HH.out.below hba).own (by have := pos_le l key; rw [HPP.out] at this; exact this) (Nat.le_trans HG.out.len (by decide)) (Nat.le_trans HH.out.lo (Nat.le_trans (Nat.le_of_lt hgw) hba.size)) (by unfold Lone; rw [heap_alloc_new]; unfold Par.rc; rw [HXX.out]) (fun e => by have := (World.ownsRow.lt HH.out.own _ e).2; have := hb.size; omega)).mono ?_
          rintro e k9 ⟨v9, rfl, hown, hgr⟩
          obtain ⟨A9, m9, c9, rfl⟩ := own_slice3 hown
          have hh : k9.heap[g]? = some (.cells #[.slice A n c] 59 (0, 0)) := (hgr.block g (Nat.lt_of_lt_of_le hgw hba.size) (fun e => HH.out.ne e.symm)).trans (HH.out.below hba).here
          have hq9 : k9.cell? ⟨w.heap.size, 0, none⟩ = some vi := hgr.cell (a := ⟨w.heap.size, 0, none⟩) q0 (fun e => by have := (World.ownsRow.lt HH.out.own _ e.symm).2; simp only at this; omega)
          have hb9 : Below B w k9 := (hba.mono (Nat.le_trans HH.out.lo (Nat.le_of_lt hgw))).trans (grownBy_below hgr (fun k hk => (World.ownsRow.lt HH.out.own _ hk).1) (Nat.le_trans HH.out.lo (Nat.le_trans (Nat.le_of_lt hgw) hba.size)))
          have hz9 := Nat.lt_of_lt_of_le (Nat.lt_of_lt_of_le lt0 (by first | exact Nat.le_refl _ | (simp; done) | (simp; omega))) hgr.size
          clear q0 hb
          have q0 := hq9
          clear hq9 hba hgr
          have s9 := frozen_one hh
          have r9 := cell_one hh
          have OWN := Lib.hid hown; clear hown
          have HH9 := Lib.hid hh; clear hh
          refine hK.out _ _ ?_ (fun hHeld => ?_)
          · exact q0
          clear hK K
          try simp only [Act.put, List.setIfInBounds_toArray, List.set_cons_zero, List.set_cons_succ]
          refine wpAnyH_take (i := 12) (oi := { dst := some 31, op := Op.nilCheck (Operand.tmp 19), type := 0, pos := "doc.go:125", after := #[{ on := 0, ground := Ground.data }, { on := 0, ground := Ground.phase }, { on := 1, ground := Ground.phase }, { on := 2, ground := Ground.phase }, { on := 3, ground := Ground.phase }, { on := 4, ground := Ground.phase }, { on := 5, ground := Ground.phase }, { on := 6, ground := Ground.phase }, { on := 7, ground := Ground.phase }, { on := 8, ground := Ground.phase }, { on := 9, ground := Ground.phase }, { on := 10, ground := Ground.phase }, { on := 11, ground := Ground.phase }], guard := none }) (v := .pointer (some ⟨g, 0, none⟩)) rfl (by kernel_rfl) (by kernel_rfl) (by kernel_rfl) (fun _ _ _ h => h) (Or.inl ⟨by rfl, fun w hSw => ?_⟩) (by assumption) ?_
          · (try dsimp only at hSw)
            go_simp
          try simp only [Act.put, List.setIfInBounds_toArray, List.set_cons_zero, List.set_cons_succ]
          refine wpAnyH_take (i := 13) (oi := { dst := some 32, op := Op.fieldAddr 59 (Operand.tmp 31) 0, type := 0, pos := "doc.go:125", after := #[{ on := 12, ground := Ground.data }, { on := 0, ground := Ground.phase }, { on := 1, ground := Ground.phase }, { on := 2, ground := Ground.phase }, { on := 3, ground := Ground.phase }, { on := 4, ground := Ground.phase }, { on := 5, ground := Ground.phase }, { on := 6, ground := Ground.phase }, { on := 7, ground := Ground.phase }, { on := 8, ground := Ground.phase }, { on := 9, ground := Ground.phase }, { on := 10, ground := Ground.phase }, { on := 11, ground := Ground.phase }], guard := none }) (v := .pointer (some ⟨g, 0, none⟩)) rfl (by kernel_rfl) (by kernel_rfl) (by kernel_rfl) (fun _ _ _ h => h) (Or.inl ⟨by rfl, fun w hSw => ?_⟩) (by assumption) ?_
          · (try dsimp only at hSw)
            go_simp
          try simp only [Act.put, List.setIfInBounds_toArray, List.set_cons_zero, List.set_cons_succ]
          refine wpAnyH_ready (rs := [14]) (by kernel_rfl) (by simp) ?_
          refine AllReadyH.cons (o := { dst := none, op := Op.store 57 (Operand.tmp 32) (Operand.tmp 30), type := 0, pos := "doc.go:125", after := #[{ on := 13, ground := Ground.data }, { on := 11, ground := Ground.data }, { on := 11, ground := Ground.chain }, { on := 0, ground := Ground.phase }, { on := 1, ground := Ground.phase }, { on := 2, ground := Ground.phase }, { on := 3, ground := Ground.phase }, { on := 4, ground := Ground.phase }, { on := 5, ground := Ground.phase }, { on := 6, ground := Ground.phase }, { on := 7, ground := Ground.phase }, { on := 8, ground := Ground.phase }, { on := 9, ground := Ground.phase }, { on := 10, ground := Ground.phase }, { on := 11, ground := Ground.phase }], guard := none }) rfl (fun K hK => ?_) (AllReadyH.nil)
          go_simp
          replace q0 := (setCell_grown k9 ⟨g, 0, none⟩ (.slice A9 m9 c9)).cell (a := ⟨w.heap.size, 0, none⟩) q0 (fun e => by injection e with e; simp only at e; omega)
          refine hK.out _ _ ?_ (fun hHeld => ?_)
          · exact q0
          clear hK K
          try simp only [Act.put, List.setIfInBounds_toArray, List.set_cons_zero, List.set_cons_succ]
          refine wpAnyH_done (by kernel_rfl) ?_ _
          refine NoPanic.normal ?_
          go_wp2
          go_ret
          refine ⟨0, .slice A9 m9 c9, rfl, .inr ⟨rfl, ?_, ?_⟩, ?_⟩
          · rw [HN.out]; omega
          · have e : dSet l key x = l.take p ++ ⟨key, x⟩ :: l.drop p := by
              rw [dSet_is HG.out.srt, HKK.out, hk0, HY.out, HPP.out]; simp
            rw [e]
            exact docO_store HH9.out OWN.out HH.out.lo
          · exact hb9.setCell HH.out.lo _
        · go_simp
          go_at_call 34
          refine (clone_any key _ (Nat.le_trans hks (by decide))).mono ?_
          rintro e k4 ⟨rfl, h⟩
          have hk : Below k3.heap.size k3 k4 := by
            refine Below.trans ?_ (h.mono (by first | (simp; done) | (simp; omega) | omega))
            repeat' (first | with_reducible exact Below.refl _ _ | (with_reducible refine Below.alloc ?_ ?_ _) | (with_reducible refine Below.setCell ?_ ?_ _) | exact (by first | (simp; done) | (simp; omega) | omega))
          have hz := h.size
          try simp at hz
          replace q0 : k4.cell? ⟨w.heap.size, 0, none⟩ = some (vi) := (hk.cell (p := ⟨w.heap.size, 0, none⟩) (by first | (simp; done) | (simp; omega) | omega)).trans q0
          replace hb : Below w.heap.size w k4 := hb.trans (hk.mono hb.size)
          have lt0 : w.heap.size < k4.heap.size := (by first | (simp; done) | (simp; omega) | omega)
          clear h hk
          try dsimp only
          refine hK.out _ _ ?_ (fun hHeld => ?_)
          · exact q0
          clear hK K
          try simp only [Act.put, List.setIfInBounds_toArray, List.set_cons_zero, List.set_cons_succ]
          refine wpAnyH_take (i := 9) (oi := { dst := some 28, op := Op.build 80 #[(0, Operand.tmp 26), (1, Operand.tmp 27)], type := 80, pos := "doc.go:125", after := #[{ on := 7, ground := Ground.data }, { on := 8, ground := Ground.data }], guard := none }) (v := .agg #[.string key, vi]) rfl (by kernel_rfl) (by kernel_rfl) (by kernel_rfl) (fun _ _ _ h => h) (Or.inl ⟨by rfl, fun w hSw => ?_⟩) (by assumption) ?_
          · (try dsimp only at hSw)
            go_simp
          try simp only [Act.put, List.setIfInBounds_toArray, List.set_cons_zero, List.set_cons_succ]
          refine wpAnyH_ready (rs := [4, 10]) (by kernel_rfl) (by simp) ?_
          refine AllReadyH.cons (o := { dst := some 23, op := Op.load 57 (Operand.tmp 22), type := 57, pos := "doc.go:125", after := #[{ on := 3, ground := Ground.data }], guard := none }) rfl (fun K hK => ?_) (AllReadyH.cons (o := { dst := some 29, op := Op.buildSlice 57 1 #[(0, Operand.tmp 28)], type := 57, pos := "doc.go:125", after := #[{ on := 9, ground := Ground.data }], guard := none }) rfl (fun K hK => ?_) (AllReadyH.nil))
          · have r0 : k4.cell? ⟨g, 0, none⟩ = some (.slice A n c) := (hb.cell (p := ⟨g, 0, none⟩) hgw).trans R0.out
            have r0a : (k4.alloc (.cells #[.string key, vi] 80)).cell? ⟨g, 0, none⟩ = some (.slice A n c) := Lib.cell?_alloc_some _ r0
            go_simp
            clear r0 r0a
            refine hK.out _ _ ?_ (fun hHeld => ?_)
            · exact q0
            clear hK K
            try simp only [Act.put, List.setIfInBounds_toArray, List.set_cons_zero, List.set_cons_succ]
            refine wpAnyH_ready (rs := [10]) (by kernel_rfl) (by simp) ?_
            refine AllReadyH.cons (o := { dst := some 29, op := Op.buildSlice 57 1 #[(0, Operand.tmp 28)], type := 57, pos := "doc.go:125", after := #[{ on := 9, ground := Ground.data }], guard := none }) rfl (fun K hK => ?_) (AllReadyH.nil)
            go_simp
            replace q0 : (k4.alloc (.cells #[.string key, vi] 80)).cell? ⟨w.heap.size, 0, none⟩ = some vi := by go_simp
            refine hK.out _ _ ?_ (fun hHeld => ?_)
            · exact q0
            clear hK K
            try simp only [Act.put, List.setIfInBounds_toArray, List.set_cons_zero, List.set_cons_succ]
            refine wpAnyH_ready (rs := [11]) (by kernel_rfl) (by simp) ?_
            refine AllReadyH.cons (o := { dst := some 30, op := Op.call { callee := Callee.value (Operand.func 77), args := #[Operand.tmp 23, Operand.tmp 24, Operand.tmp 29], argTypes := #[57, 3, 57] }, type := 57, pos := "doc.go:125", after := #[{ on := 4, ground := Ground.data }, { on := 5, ground := Ground.data }, { on := 10, ground := Ground.data }, { on := 7, ground := Ground.chain }], guard := none }) rfl (fun K hK => ?_) (AllReadyH.nil)
            go_simp
            go_at_call 77
            have hba : Below w.heap.size w (k4.alloc (.cells #[.string key, vi] 80)) := hb.alloc hb.size _
            refine (dins_any B p (.slice A n c) l ⟨key, x⟩ k4.heap.size _ (HH.out.below hba).own (by have := pos_le l key; rw [HPP.out] at this; exact this) (Nat.le_trans HG.out.len (by decide)) (Nat.le_trans HH.out.lo (Nat.le_trans (Nat.le_of_lt hgw) hba.size)) (by unfold Lone; rw [heap_alloc_new]; unfold Par.rc; rw [HXX.out]) (fun e => by have := (World.ownsRow.lt HH.out.own _ e).2; have := hb.size; omega)).mono ?_
            rintro e k9 ⟨v9, rfl, hown, hgr⟩
            obtain ⟨A9, m9, c9, rfl⟩ := own_slice3 hown
            have hh : k9.heap[g]? = some (.cells #[.slice A n c] 59 (0, 0)) := (hgr.block g (Nat.lt_of_lt_of_le hgw hba.size) (fun e => HH.out.ne e.symm)).trans (HH.out.below hba).here
            have hq9 : k9.cell? ⟨w.heap.size, 0, none⟩ = some vi := hgr.cell (a := ⟨w.heap.size, 0, none⟩) q0 (fun e => by have := (World.ownsRow.lt HH.out.own _ e.symm).2; simp only at this; omega)
            have hb9 : Below B w k9 := (hba.mono (Nat.le_trans HH.out.lo (Nat.le_of_lt hgw))).trans (grownBy_below hgr (fun k hk => (World.ownsRow.lt HH.out.own _ hk).1) (Nat.le_trans HH.out.lo (Nat.le_trans (Nat.le_of_lt hgw) hba.size)))
            have hz9 := Nat.lt_of_lt_of_le (Nat.lt_of_lt_of_le lt0 (by first | exact Nat.le_refl _ | (simp; done) | (simp; omega))) hgr.size
            clear q0 hb
            have q0 := hq9
            clear hq9 hba hgr
            have s9 := frozen_one hh
            have r9 := cell_one hh
            have OWN := Lib.hid hown; clear hown
            have HH9 := Lib.hid hh; clear hh
            refine hK.out _ _ ?_ (fun hHeld => ?_)
            · exact q0
            clear hK K
            try simp only [Act.put, List.setIfInBounds_toArray, List.set_cons_zero, List.set_cons_succ]
            refine wpAnyH_take (i := 12) (oi := { dst := some 31, op := Op.nilCheck (Operand.tmp 19), type := 0, pos := "doc.go:125", after := #[{ on := 0, ground := Ground.data }, { on := 0, ground := Ground.phase }, { on := 1, ground := Ground.phase }, { on := 2, ground := Ground.phase }, { on := 3, ground := Ground.phase }, { on := 4, ground := Ground.phase }, { on := 5, ground := Ground.phase }, { on := 6, ground := Ground.phase }, { on := 7, ground := Ground.phase }, { on := 8, ground := Ground.phase }, { on := 9, ground := Ground.phase }, { on := 10, ground := Ground.phase }, { on := 11, ground := Ground.phase }], guard := none }) (v := .pointer (some ⟨g, 0, none⟩)) rfl (by kernel_rfl) (by kernel_rfl) (by kernel_rfl) (fun _ _ _ h => h) (Or.inl ⟨by rfl, fun w hSw => ?_⟩) (by assumption) ?_
            · (try dsimp only at hSw)
              go_simp
            try simp only [Act.put, List.setIfInBounds_toArray, List.set_cons_zero, List.set_cons_succ]
            refine wpAnyH_take (i := 13) (oi := { dst := some 32, op := Op.fieldAddr 59 (Operand.tmp 31) 0, type := 0, pos := "doc.go:125", after := #[{ on := 12, ground := Ground.data }, { on := 0, ground := Ground.phase }, { on := 1, ground := Ground.phase }, { on := 2, ground := Ground.phase }, { on := 3, ground := Ground.phase }, { on := 4, ground := Ground.phase }, { on := 5, ground := Ground.phase }, { on := 6, ground := Ground.phase }, { on := 7, ground := Ground.phase }, { on := 8, ground := Ground.phase }, { on := 9, ground := Ground.phase }, { on := 10, ground := Ground.phase }, { on := 11, ground := Ground.phase }], guard := none }) (v := .pointer (some ⟨g, 0, none⟩)) rfl (by kernel_rfl) (by kernel_rfl) (by kernel_rfl) (fun _ _ _ h => h) (Or.inl ⟨by rfl, fun w hSw => ?_⟩) (by assumption) ?_
            · (try dsimp only at hSw)
              go_simp
            try simp only [Act.put, List.setIfInBounds_toArray, List.set_cons_zero, List.set_cons_succ]
            refine wpAnyH_ready (rs := [14]) (by kernel_rfl) (by simp) ?_
            refine AllReadyH.cons (o := { dst := none, op := Op.store 57 (Operand.tmp 32) (Operand.tmp 30), type := 0, pos := "doc.go:125", after := #[{ on := 13, ground := Ground.data }, { on := 11, ground := Ground.data }, { on := 11, ground := Ground.chain }, { on := 0, ground := Ground.phase }, { on := 1, ground := Ground.phase }, { on := 2, ground := Ground.phase }, { on := 3, ground := Ground.phase }, { on := 4, ground := Ground.phase }, { on := 5, ground := Ground.phase }, { on := 6, ground := Ground.phase }, { on := 7, ground := Ground.phase }, { on := 8, ground := Ground.phase }, { on := 9, ground := Ground.phase }, { on := 10, ground := Ground.phase }, { on := 11, ground := Ground.phase }], guard := none }) rfl (fun K hK => ?_) (AllReadyH.nil)
            go_simp
            replace q0 := (setCell_grown k9 ⟨g, 0, none⟩ (.slice A9 m9 c9)).cell (a := ⟨w.heap.size, 0, none⟩) q0 (fun e => by injection e with e; simp only at e; omega)
            refine hK.out _ _ ?_ (fun hHeld => ?_)
            · exact q0
            clear hK K
            try simp only [Act.put, List.setIfInBounds_toArray, List.set_cons_zero, List.set_cons_succ]
            refine wpAnyH_done (by kernel_rfl) ?_ _
            refine NoPanic.normal ?_
            go_wp2
            go_ret
            refine ⟨0, .slice A9 m9 c9, rfl, .inr ⟨rfl, ?_, ?_⟩, ?_⟩
            · rw [HN.out]; omega
            · have e : dSet l key x = l.take p ++ ⟨key, x⟩ :: l.drop p := by
                rw [dSet_is HG.out.srt, HKK.out, hk0, HY.out, HPP.out]; simp
              rw [e]
              exact docO_store HH9.out OWN.out HH.out.lo
            · exact hb9.setCell HH.out.lo _
          · go_simp
            replace q0 : (k4.alloc (.cells #[.string key, vi] 80)).cell? ⟨w.heap.size, 0, none⟩ = some vi := by go_simp
            refine hK.out _ _ ?_ (fun hHeld => ?_)
            · exact q0
            clear hK K
            try simp only [Act.put, List.setIfInBounds_toArray, List.set_cons_zero, List.set_cons_succ]
            refine wpAnyH_ready (rs := [4]) (by kernel_rfl) (by simp) ?_
            refine AllReadyH.cons (o := { dst := some 23, op := Op.load 57 (Operand.tmp 22), type := 57, pos := "doc.go:125", after := #[{ on := 3, ground := Ground.data }], guard := none }) rfl (fun K hK => ?_) (AllReadyH.nil)
            have r0 : k4.cell? ⟨g, 0, none⟩ = some (.slice A n c) := (hb.cell (p := ⟨g, 0, none⟩) hgw).trans R0.out
            have r0a : (k4.alloc (.cells #[.string key, vi] 80)).cell? ⟨g, 0, none⟩ = some (.slice A n c) := Lib.cell?_alloc_some _ r0
            go_simp
            clear r0 r0a
            refine hK.out _ _ ?_ (fun hHeld => ?_)
            · exact q0
            clear hK K
            try simp only [Act.put, List.setIfInBounds_toArray, List.set_cons_zero, List.set_cons_succ]
            refine wpAnyH_ready (rs := [11]) (by kernel_rfl) (by simp) ?_
            refine AllReadyH.cons (o := { dst := some 30, op := Op.call { callee := Callee.value (Operand.func 77), args := #[Operand.tmp 23, Operand.tmp 24, Operand.tmp 29], argTypes := #[57, 3, 57] }, type := 57, pos := "doc.go:125", after := #[{ on := 4, ground := Ground.data }, { on := 5, ground := Ground.data }, { on := 10, ground := Ground.data }, { on := 7, ground := Ground.chain }], guard := none }) rfl (fun K hK => ?_) (AllReadyH.nil)
            go_simp
            go_at_call 77
            have hba : Below w.heap.size w (k4.alloc (.cells #[.string key, vi] 80)) := hb.alloc hb.size _
            refine (dins_any B p (.slice A n c) l ⟨key, x⟩ k4.heap.size _ (HH.out.below hba).own (by have := pos_le l key; rw [HPP.out] at this; exact this) (Nat.le_trans HG.out.len (by decide)) (Nat.le_trans HH.out.lo (Nat.le_trans (Nat.le_of_lt hgw) hba.size)) (by unfold Lone; rw [heap_alloc_new]; unfold Par.rc; rw [HXX.out]) (fun e => by have := (World.ownsRow.lt HH.out.own _ e).2; have := hb.size; omega)).mono ?_
            rintro e k9 ⟨v9, rfl, hown, hgr⟩
            obtain ⟨A9, m9, c9, rfl⟩ := own_slice3 hown
            have hh : k9.heap[g]? = some (.cells #[.slice A n c] 59 (0, 0)) := (hgr.block g (Nat.lt_of_lt_of_le hgw hba.size) (fun e => HH.out.ne e.symm)).trans (HH.out.below hba).here
            have hq9 : k9.cell? ⟨w.heap.size, 0, none⟩ = some vi := hgr.cell (a := ⟨w.heap.size, 0, none⟩) q0 (fun e => by have := (World.ownsRow.lt HH.out.own _ e.symm).2; simp only at this; omega)
            have hb9 : Below B w k9 := (hba.mono (Nat.le_trans HH.out.lo (Nat.le_of_lt hgw))).trans (grownBy_below hgr (fun k hk => (World.ownsRow.lt HH.out.own _ hk).1) (Nat.le_trans HH.out.lo (Nat.le_trans (Nat.le_of_lt hgw) hba.size)))
            have hz9 := Nat.lt_of_lt_of_le (Nat.lt_of_lt_of_le lt0 (by first | exact Nat.le_refl _ | (simp; done) | (simp; omega))) hgr.size
            clear q0 hb
            have q0 := hq9
            clear hq9 hba hgr
            have s9 := frozen_one hh
            have r9 := cell_one hh
            have OWN := Lib.hid hown; clear hown
            have HH9 := Lib.hid hh; clear hh
            refine hK.out _ _ ?_ (fun hHeld => ?_)
            · exact q0
            clear hK K
            try simp only [Act.put, List.setIfInBounds_toArray, List.set_cons_zero, List.set_cons_succ]
            refine wpAnyH_take (i := 12) (oi := { dst := some 31, op := Op.nilCheck (Operand.tmp 19), type := 0, pos := "doc.go:125", after := #[{ on := 0, ground := Ground.data }, { on := 0, ground := Ground.phase }, { on := 1, ground := Ground.phase }, { on := 2, ground := Ground.phase }, { on := 3, ground := Ground.phase }, { on := 4, ground := Ground.phase }, { on := 5, ground := Ground.phase }, { on := 6, ground := Ground.phase }, { on := 7, ground := Ground.phase }, { on := 8, ground := Ground.phase }, { on := 9, ground := Ground.phase }, { on := 10, ground := Ground.phase }, { on := 11, ground := Ground.phase }], guard := none }) (v := .pointer (some ⟨g, 0, none⟩)) rfl (by kernel_rfl) (by kernel_rfl) (by kernel_rfl) (fun _ _ _ h => h) (Or.inl ⟨by rfl, fun w hSw => ?_⟩) (by assumption) ?_
            · (try dsimp only at hSw)
              go_simp
            try simp only [Act.put, List.setIfInBounds_toArray, List.set_cons_zero, List.set_cons_succ]
            refine wpAnyH_take (i := 13) (oi := { dst := some 32, op := Op.fieldAddr 59 (Operand.tmp 31) 0, type := 0, pos := "doc.go:125", after := #[{ on := 12, ground := Ground.data }, { on := 0, ground := Ground.phase }, { on := 1, ground := Ground.phase }, { on := 2, ground := Ground.phase }, { on := 3, ground := Ground.phase }, { on := 4, ground := Ground.phase }, { on := 5, ground := Ground.phase }, { on := 6, ground := Ground.phase }, { on := 7, ground := Ground.phase }, { on := 8, ground := Ground.phase }, { on := 9, ground := Ground.phase }, { on := 10, ground := Ground.phase }, { on := 11, ground := Ground.phase }], guard := none }) (v := .pointer (some ⟨g, 0, none⟩)) rfl (by kernel_rfl) (by kernel_rfl) (by kernel_rfl) (fun _ _ _ h => h) (Or.inl ⟨by rfl, fun w hSw => ?_⟩) (by assumption) ?_
            · (try dsimp only at hSw)
              go_simp
            try simp only [Act.put, List.setIfInBounds_toArray, List.set_cons_zero, List.set_cons_succ]
            refine wpAnyH_ready (rs := [14]) (by kernel_rfl) (by simp) ?_
            refine AllReadyH.cons (o := { dst := none, op := Op.store 57 (Operand.tmp 32) (Operand.tmp 30), type := 0, pos := "doc.go:125", after := #[{ on := 13, ground := Ground.data }, { on := 11, ground := Ground.data }, { on := 11, ground := Ground.chain }, { on := 0, ground := Ground.phase }, { on := 1, ground := Ground.phase }, { on := 2, ground := Ground.phase }, { on := 3, ground := Ground.phase }, { on := 4, ground := Ground.phase }, { on := 5, ground := Ground.phase }, { on := 6, ground := Ground.phase }, { on := 7, ground := Ground.phase }, { on := 8, ground := Ground.phase }, { on := 9, ground := Ground.phase }, { on := 10, ground := Ground.phase }, { on := 11, ground := Ground.phase }], guard := none }) rfl (fun K hK => ?_) (AllReadyH.nil)
            go_simp
            replace q0 := (setCell_grown k9 ⟨g, 0, none⟩ (.slice A9 m9 c9)).cell (a := ⟨w.heap.size, 0, none⟩) q0 (fun e => by injection e with e; simp only at e; omega)
            refine hK.out _ _ ?_ (fun hHeld => ?_)
            · exact q0
            clear hK K
            try simp only [Act.put, List.setIfInBounds_toArray, List.set_cons_zero, List.set_cons_succ]
            refine wpAnyH_done (by kernel_rfl) ?_ _
            refine NoPanic.normal ?_
            go_wp2
            go_ret
            refine ⟨0, .slice A9 m9 c9, rfl, .inr ⟨rfl, ?_, ?_⟩, ?_⟩
            · rw [HN.out]; omega
            · have e : dSet l key x = l.take p ++ ⟨key, x⟩ :: l.drop p := by
                rw [dSet_is HG.out.srt, HKK.out, hk0, HY.out, HPP.out]; simp
              rw [e]
              exact docO_store HH9.out OWN.out HH.out.lo
            · exact hb9.setCell HH.out.lo _
  | true =>
    go_enter Try.func57, Try.ntmps57
    go_wp2_with fail
    refine (HP.out _ hbw).mono ?_
    rintro e k1 ⟨rfl, h⟩
    have q0 : k1.cell? ⟨w.heap.size, 0, none⟩ = some vi := (h.cell (p := ⟨w.heap.size, 0, none⟩) (by simp)).trans (by go_simp)
    have hb : Below w.heap.size w k1 := hbw.trans (h.mono (by simp))
    have hz := h.size
    simp at hz
    clear h
    go_wp2_with fail
    refine (HK.out _).mono ?_
    rintro e k2 ⟨rfl, h⟩
    replace q0 : k2.cell? ⟨w.heap.size, 0, none⟩ = some vi := (h.cell (p := ⟨w.heap.size, 0, none⟩) (by simp; omega)).trans q0
    replace hb : Below w.heap.size w k2 := hb.trans (h.mono hb.size)
    have hz2 := h.size
    clear h
    have r0 : k2.cell? ⟨g, 0, none⟩ = some (.slice A n c) := (hb.cell (p := ⟨g, 0, none⟩) hgw).trans r0
    have hlt := hasK_lt HY.out
    rw [HPP.out, HN.out] at hlt
    rcases hkc with hk0 | hk0
    · go_wp2_with fail
      have hd := ddel_any B p (.slice A n c) l k2 (HH.out.below hb).own (by rw [HN.out]; exact hlt) (Nat.le_trans HG.out.len (by decide))
      rw [show ((p + 1 : Nat) : Int) = (p : Int) + 1 from rfl] at hd
      refine hd.mono ?_
      rintro e k9 ⟨v9, rfl, hown, hgr, hvo⟩
      obtain ⟨A9, m9, c9, rfl⟩ := own_slice3 hown
      have hh : k9.heap[g]? = some (.cells #[.slice A n c] 59 (0, 0)) := (hgr.block g (Nat.lt_of_lt_of_le hgw hb.size) (fun e => HH.out.ne e.symm)).trans (HH.out.below hb).here
      have hb9 : Below B w k9 := (hb.mono (Nat.le_trans HH.out.lo (Nat.le_of_lt hgw))).trans (grownBy_below hgr (fun k hk => (World.ownsRow.lt HH.out.own _ hk).1) (Nat.le_trans HH.out.lo (Nat.le_trans (Nat.le_of_lt hgw) hb.size)))
      clear hd hgr hb q0 r0 hvo
      have s9 := frozen_one hh
      have r9 := cell_one hh
      have OWN := Lib.hid hown; clear hown
      have HH9 := Lib.hid hh; clear hh
      go_wp2
      go_ret
      refine ⟨0, .slice A9 m9 c9, rfl, .inr ⟨rfl, ?_, ?_⟩, ?_⟩
      · rw [HY.out]; simp
      · have e : dSet l key x = l.take p ++ l.drop (p + 1) := by
          rw [dSet_is HG.out.srt, HKK.out, hk0, HY.out, HPP.out]; simp
        rw [e]
        exact docO_store HH9.out OWN.out HH.out.lo
      · exact hb9.setCell HH.out.lo _
    · go_wp2_with fail

      obtain ⟨gr, cr, hv, hgr0⟩ : ∃ gr cr, Value.slice A n c = .slice (some ⟨gr, 0, none⟩) n cr ∧ B ≤ gr := by
        rcases HH.out.own.2 with ⟨hv, h0⟩ | ⟨gr, cr, cur, hv, hB, _⟩
        · rw [HN.out] at h0; omega
        · rw [HN.out] at hv; exact ⟨gr, cr, hv, hB⟩
      injection hv with hv1 hv2 hv3
      subst hv1 hv3
      have hpi : (p : Int) < (n : Int) := by omega
      have hst2 := fun W => hst ⟨gr, p * 2 + 1, none⟩ .plain W
      have lt0 : w.heap.size < k2.heap.size := by omega
      have lt1 : g < k2.heap.size := by omega
      replace q0 : k2.drew.cell? ⟨w.heap.size, 0, none⟩ = some (vi) := q0
      replace r0 : k2.drew.cell? ⟨g, 0, none⟩ = some (.slice (some ⟨gr, 0, none⟩) n c) := r0
      refine wp_region_noPanic ?_
      refine wp_region_held_drew (S := fun W => W.cell? ⟨w.heap.size, 0, none⟩ = some (vi) ∧ W.cell? ⟨g, 0, none⟩ = some (.slice (some ⟨gr, 0, none⟩) n c)) (by kernel_rfl) ?_ (fun hHeld => ?_)
      · exact ⟨q0, r0⟩
      replace hb : Below w.heap.size w k2.drew := hb.drew
      replace lt0 : w.heap.size < k2.drew.heap.size := lt0
      replace lt1 : g < k2.drew.heap.size := lt1
      have hzd : k2.heap.size ≤ k2.drew.heap.size := Nat.le_refl _
      generalize k2.drew = k3 at *
      refine wpAnyH_take (i := 0) (oi := { dst := some 51, op := Op.move (Operand.tmp 0), type := 49, pos := "doc.go:119", after := #[], guard := none }) (v := .pointer (some ⟨g, 0, none⟩)) rfl (by kernel_rfl) (by kernel_rfl) (by kernel_rfl) (fun _ _ _ h => h) (Or.inl ⟨by rfl, fun w hSw => ?_⟩) (by assumption) ?_
      · (try dsimp only at hSw)
        go_simp
      try simp only [Act.put, List.setIfInBounds_toArray, List.set_cons_zero, List.set_cons_succ]
      refine wpAnyH_take (i := 1) (oi := { dst := some 52, op := Op.nilCheck (Operand.tmp 51), type := 0, pos := "doc.go:119", after := #[{ on := 0, ground := Ground.data }], guard := none }) (v := .pointer (some ⟨g, 0, none⟩)) rfl (by kernel_rfl) (by kernel_rfl) (by kernel_rfl) (fun _ _ _ h => h) (Or.inl ⟨by rfl, fun w hSw => ?_⟩) (by assumption) ?_
      · (try dsimp only at hSw)
        go_simp
      try simp only [Act.put, List.setIfInBounds_toArray, List.set_cons_zero, List.set_cons_succ]
      refine wpAnyH_take (i := 2) (oi := { dst := some 53, op := Op.fieldAddr 59 (Operand.tmp 52) 0, type := 0, pos := "doc.go:119", after := #[{ on := 1, ground := Ground.data }], guard := none }) (v := .pointer (some ⟨g, 0, none⟩)) rfl (by kernel_rfl) (by kernel_rfl) (by kernel_rfl) (fun _ _ _ h => h) (Or.inl ⟨by rfl, fun w hSw => ?_⟩) (by assumption) ?_
      · (try dsimp only at hSw)
        go_simp
      try simp only [Act.put, List.setIfInBounds_toArray, List.set_cons_zero, List.set_cons_succ]
      refine wpAnyH_take (i := 3) (oi := { dst := some 54, op := Op.load 57 (Operand.tmp 53), type := 57, pos := "doc.go:119", after := #[{ on := 2, ground := Ground.data }], guard := none }) (v := .slice (some ⟨gr, 0, none⟩) n c) rfl (by kernel_rfl) (by kernel_rfl) (by kernel_rfl) (fun _ _ _ h => h) (Or.inl ⟨by rfl, fun w hSw => ?_⟩) (by assumption) ?_
      · (try dsimp only at hSw)
        go_simp
      try simp only [Act.put, List.setIfInBounds_toArray, List.set_cons_zero, List.set_cons_succ]
      refine wpAnyH_take (i := 4) (oi := { dst := some 55, op := Op.move (Operand.tmp 7), type := 3, pos := "doc.go:119", after := #[], guard := none }) (v := .int .i64 p) rfl (by kernel_rfl) (by kernel_rfl) (by kernel_rfl) (fun _ _ _ h => h) (Or.inl ⟨by rfl, fun w hSw => ?_⟩) (by assumption) ?_
      · (try dsimp only at hSw)
        go_simp
      try simp only [Act.put, List.setIfInBounds_toArray, List.set_cons_zero, List.set_cons_succ]
      refine wpAnyH_take (i := 5) (oi := { dst := some 56, op := Op.load 74 (Operand.tmp 5), type := 74, pos := "doc.go:119", after := #[], guard := none }) (v := .agg #[vi]) rfl (by kernel_rfl) (by kernel_rfl) (by kernel_rfl) (fun _ _ _ h => h) (Or.inl ⟨by rfl, fun w hSw => ?_⟩) (by assumption) ?_
      · (try dsimp only at hSw)
        go_simp
      try simp only [Act.put, List.setIfInBounds_toArray, List.set_cons_zero, List.set_cons_succ]
      refine wpAnyH_take (i := 6) (oi := { dst := some 57, op := Op.indexAddr 57 (Operand.tmp 54) (Operand.tmp 55), type := 0, pos := "doc.go:119", after := #[{ on := 3, ground := Ground.data }, { on := 4, ground := Ground.data }, { on := 0, ground := Ground.phase }, { on := 1, ground := Ground.phase }, { on := 2, ground := Ground.phase }, { on := 3, ground := Ground.phase }, { on := 4, ground := Ground.phase }, { on := 5, ground := Ground.phase }], guard := none }) (v := .pointer (some ⟨gr, p * 2, none⟩)) rfl (by kernel_rfl) (by kernel_rfl) (by kernel_rfl) (fun _ _ _ h => h) (Or.inl ⟨by rfl, fun w hSw => ?_⟩) (by assumption) ?_
      · (try dsimp only at hSw)
        go_simp
      try simp only [Act.put, List.setIfInBounds_toArray, List.set_cons_zero, List.set_cons_succ]
      refine wpAnyH_take (i := 7) (oi := { dst := some 58, op := Op.fieldAddr 80 (Operand.tmp 57) 1, type := 0, pos := "doc.go:119", after := #[{ on := 6, ground := Ground.data }, { on := 0, ground := Ground.phase }, { on := 1, ground := Ground.phase }, { on := 2, ground := Ground.phase }, { on := 3, ground := Ground.phase }, { on := 4, ground := Ground.phase }, { on := 5, ground := Ground.phase }], guard := none }) (v := .pointer (some ⟨gr, p * 2 + 1, none⟩)) rfl (by kernel_rfl) (by kernel_rfl) (by kernel_rfl) (fun _ _ _ h => h) (Or.inl ⟨by rfl, fun w hSw => ?_⟩) (by assumption) ?_
      · (try dsimp only at hSw)
        go_simp
      try simp only [Act.put, List.setIfInBounds_toArray, List.set_cons_zero, List.set_cons_succ]
      refine wpAnyH_ready (rs := [8]) (by kernel_rfl) (by simp) ?_
      refine AllReadyH.cons (o := { dst := none, op := Op.store 74 (Operand.tmp 58) (Operand.tmp 56), type := 0, pos := "doc.go:119", after := #[{ on := 7, ground := Ground.data }, { on := 5, ground := Ground.data }, { on := 0, ground := Ground.phase }, { on := 1, ground := Ground.phase }, { on := 2, ground := Ground.phase }, { on := 3, ground := Ground.phase }, { on := 4, ground := Ground.phase }, { on := 5, ground := Ground.phase }], guard := none }) rfl (fun K hK => ?_) (AllReadyH.nil)
      have hown := (HH.out.below hb).own
      unfold OwnR at hown
      rw [HN.out] at hown
      have hs1 := hown.cellAt (p * 2 + 1) (by omega)
      have hs2 := hown.frozenAt (p * 2 + 1)
      obtain ⟨u, hu⟩ : ∃ u, (l.flatMap Par.rc)[p * 2 + 1]? = some u := ⟨_, List.getElem?_eq_getElem (by rw [hown.1]; omega)⟩
      rw [hu] at hs1
      have hsto := hown.stored (p * 2 + 1) vi
      have hng : gr ≠ g := fun e => HH.out.ne (by rw [e]; rfl)
      have hgrw := (World.ownsRow.lt hown gr rfl).2
      have STO := Lib.hid hsto
      clear hsto hown hu
      go_simp
      replace q0 := STO.out.2.cell (a := ⟨w.heap.size, 0, none⟩) q0 (fun e => by have := (World.ownsRow.lt HH.out.own gr rfl).2; injection e with e; simp only at e; omega)
      replace r0 := STO.out.2.cell (a := ⟨g, 0, none⟩) r0 (fun e => by injection e with e; simp only at e; exact hng e.symm)
      refine hK.out _ _ ?_ (fun hHeld => ?_)
      · exact ⟨q0, r0⟩
      clear hK K
      try simp only [Act.put, List.setIfInBounds_toArray, List.set_cons_zero, List.set_cons_succ]
      refine wpAnyH_done (by kernel_rfl) ?_ _
      refine NoPanic.normal ?_
      go_wp2
      go_ret
      refine ⟨0, .slice (some ⟨gr, 0, none⟩) n c, rfl, .inr ⟨rfl, ?_, HH.out.lo, ?_, ?_⟩, ?_⟩
      · rw [HY.out]; simp
      · rw [heap_setCell_other _ _ _ _ (by exact hng.symm)]
        exact (HH.out.below hb).here
      · have e : dSet l key x = l.take p ++ ⟨key, x⟩ :: l.drop (p + 1) := by
          rw [dSet_is HG.out.srt, HKK.out, hk0, HY.out, HPP.out]; simp
        have hk2 := hasK_at HY.out
        have hp2 : p < l.length := by rw [HN.out]; exact hlt
        have e3 : (l[p]'hp2).k = key := by
          have h9 := HPP.out
          subst h9; exact hk2
        have e2 := rcs_set l p x hp2
        rw [e3, HXX.out] at e2
        unfold OwnR
        rw [e, ← e2, show (l.take p ++ ⟨key, x⟩ :: l.drop (p + 1)).length = n by rw [List.length_append, List.length_take, List.length_cons, List.length_drop, HN.out]; omega]
        exact STO.out.1
      · exact (hb.mono (Nat.le_trans HH.out.lo (Nat.le_of_lt hgw))).setCell hgr0 _
end Go.Proofs.Ytegkhkcnoahhdaa
