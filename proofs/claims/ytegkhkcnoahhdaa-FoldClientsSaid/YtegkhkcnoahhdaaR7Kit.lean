/-
  Whole rows in blocks, their cells being any list: what is read, stored and left, whole or cell by cell.
  There are no conditions beyond those that each lemma names.
-/
import Derived.Test.YtegkhkcnoahhdaaR7Row
import Derived.Test.YtegkhkcnoahhdaaReApply
import Derived.Deep.MidRow
set_option linter.unusedSimpArgs false
set_option linter.unusedVariables false
namespace Go.Proofs.Ytegkhkcnoahhdaa
open Go.RowKit
set_option maxRecDepth 100000

/-- block g is a row of type t, and holds the cells cs -/
def Rb (w : World) (g : Nat) (t : TypeId) (cs : List Value) : Prop := w.heap[g]? = some (.cells cs.toArray t (0, 0))
theorem Rb.lt {w : World} {g : Nat} {t : TypeId} {cs : List Value} (h : Rb w g t cs) : g < w.heap.size := (Array.getElem?_eq_some_iff.1 h).1
theorem Rb.new (w : World) (t : TypeId) (cs : List Value) : Rb (w.alloc (.cells cs.toArray t)) w.heap.size t cs := heap_alloc_new _ _
theorem Rb.below {w w' : World} {g : Nat} {t : TypeId} {cs : List Value} (h : Rb w g t cs) (hb : Below w.heap.size w w') : Rb w' g t cs := (hb.block g h.lt).trans h
theorem Rb.range {w : World} {g : Nat} {t : TypeId} {cs : List Value} (h : Rb w g t cs) : w.rangeAt g 0 cs := fun j v hj => by
  rw [cell_of_row w g _ cs.toArray t (0, 0) h, Nat.zero_add]
  simpa using hj
theorem Rb.cell {w : World} {g j : Nat} {t : TypeId} {cs : List Value} {v : Value} (h : Rb w g t cs) (hj : cs[j]? = some v) : w.cell? ⟨g, j, none⟩ = some v := by
  have := h.range j v hj; rwa [Nat.zero_add] at this
theorem Rb.frz {w : World} {g : Nat} {t : TypeId} {cs : List Value} (h : Rb w g t cs) (j : Nat) : w.frozen? ⟨g, j, none⟩ = false := frozen_of_row w g j cs.toArray t h
theorem Rb.there {w : World} {g o n : Nat} {t : TypeId} {cs : List Value} (h : Rb w g t cs) (hn : o + n ≤ cs.length) : w.there g o n := fun j hj => by
  have hlt : o + j < cs.length := by omega
  exact ⟨by rw [h.cell (List.getElem?_eq_getElem hlt)]; rfl, h.frz _⟩
theorem Rb.set {w : World} {g : Nat} {t : TypeId} {cs : List Value} (h : Rb w g t cs) (j : Nat) (u : Value) : Rb (w.setCell ⟨g, j, none⟩ u) g t (cs.set j u) := by
  unfold Rb at *
  rw [heap_setCell_same w g j _ _ u h]
  simp
theorem Rb.other {w : World} {g g' : Nat} {t : TypeId} {cs : List Value} (h : Rb w g t cs) (j : Nat) (u : Value) (hne : g ≠ g') : Rb (w.setCell ⟨g', j, none⟩ u) g t cs := by
  unfold Rb at *
  exact (Below.heap_setCell w _ u g (fun e => hne e)).trans h
/-- cells laid into a list from o on -/
def setL : List Value → Nat → List Value → List Value
  | cs, _, [] => cs
  | cs, o, v :: r => setL (cs.set o v) (o + 1) r
theorem Rb.sets {g : Nat} {t : TypeId} : ∀ (vs : List Value) (o : Nat) (w : World) (cs : List Value), Rb w g t cs → Rb (w.setCells g o vs) g t (setL cs o vs)
  | [], _, _, _, h => h
  | v :: r, o, w, cs, h => Rb.sets r (o + 1) _ _ (h.set o v)
theorem Rb.others {g g' : Nat} {t : TypeId} {cs : List Value} (hne : g ≠ g') : ∀ (vs : List Value) (o : Nat) (w : World), Rb w g t cs → Rb (w.setCells g' o vs) g t cs
  | [], _, _, h => h
  | v :: r, o, w, h => Rb.others hne r (o + 1) _ (h.other o v hne)
theorem setL_len : ∀ (vs : List Value) (cs : List Value) (o : Nat), (setL cs o vs).length = cs.length
  | [], _, _ => rfl
  | v :: r, cs, o => by unfold setL; rw [setL_len r]; simp
theorem setL_out : ∀ (vs : List Value) (cs : List Value) (o j : Nat), j < o → (setL cs o vs)[j]? = cs[j]?
  | [], _, _, _, _ => rfl
  | v :: r, cs, o, j, h => by unfold setL; rw [setL_out r _ (o + 1) j (by omega), List.getElem?_set_ne (by omega)]
theorem setL_in : ∀ (vs : List Value) (cs : List Value) (o j : Nat), o + vs.length ≤ cs.length → j < vs.length → (setL cs o vs)[o + j]? = vs[j]?
  | v :: r, cs, o, 0, h, _ => by
    unfold setL
    rw [setL_out r _ (o + 1) _ (by omega)]
    simp at h
    rw [Nat.add_zero, List.getElem?_set_self (by omega)]; rfl
  | v :: r, cs, o, j + 1, h, hj => by
    unfold setL
    have := setL_in r (cs.set o v) (o + 1) j (by simp at h ⊢; omega) (by simpa using hj)
    rw [show o + (j + 1) = o + 1 + j by omega, this]; rfl
/-- a row stored whole -/
theorem setL_all {cs vs : List Value} (h : vs.length = cs.length) : setL cs 0 vs = vs := by
  refine List.ext_getElem? (fun j => ?_)
  by_cases hj : j < vs.length
  · have := setL_in vs cs 0 j (by omega) hj
    rwa [Nat.zero_add] at this
  · rw [List.getElem?_eq_none (by rw [setL_len]; omega), List.getElem?_eq_none (by omega)]
theorem Rb.whole {w : World} {g : Nat} {t : TypeId} {cs vs : List Value} (h : Rb w g t cs) (hl : vs.length = cs.length) : Rb (w.setCells g 0 vs) g t vs := by
  have := Rb.sets vs 0 w cs h
  rwa [setL_all hl] at this
theorem body_world7 {P : Program} {f : Func} {Q : Ending → World → Prop} {ex : Exit} {a : Act} {w : World} (R : World → Prop) (h : R w) (k : ∀ W, R W → bodyPost P f Q ex a W) : bodyPost P f Q ex a w := k w h
theorem below_sets {B g : Nat} {w0 : World} (hg : B ≤ g) : ∀ (vs : List Value) (o : Nat) (w : World), Below B w0 w → Below B w0 (w.setCells g o vs)
  | [], _, _, h => h
  | v :: r, o, w, h => below_sets hg r (o + 1) _ (h.setCell hg v)
theorem results_cct {P : Program} {fn : Func} {tmps : Array Value} {a b t : Nat} {ta tb : TypeId} {pa pb : Addr} {va vb vt : Value} {w : World} (hf : fn.results = #[.cell a ta, .cell b tb, .tmp t]) (ha : tmps[a]?.getD undef = .pointer (some pa)) (hb : tmps[b]?.getD undef = .pointer (some pb)) (ht : tmps[t]?.getD undef = vt) (h1 : (loadVar ta pa).run P w = .ok va w) (h2 : (loadVar tb pb).run P w = .ok vb w) : (results fn tmps).run P w = .ok (.tuple #[va, vb, vt]) w := by
  unfold results
  rw [hf]
  simp [ha, hb, ht, h1, h2, asAddr, Array.mapM_eq_mapM_toList, Sem.run_bind]
theorem Rb.new_at (w : World) (g : Nat) (t : TypeId) (cs : List Value) (hg : w.heap.size = g) : Rb (w.alloc (.cells cs.toArray t)) g t cs := by rw [← hg]; exact Rb.new w t cs
/-- no cell is a text -/
def NoStr (cs : List Value) : Prop := ∀ (j : Nat) (s : ByteArray), cs[j]? ≠ some (.string s)
theorem NoStr.set {cs : List Value} (h : NoStr cs) (j : Nat) {u : Value} (hu : ∀ s, u ≠ .string s) : NoStr (cs.set j u) := fun i s e => by
  by_cases hij : j = i
  · subst hij
    by_cases hl : j < cs.length
    · rw [List.getElem?_set_self hl] at e; injection e with e; exact hu s e
    · rw [List.getElem?_eq_none (by rw [List.length_set]; omega)] at e; cases e
  · rw [List.getElem?_set_ne hij] at e; exact h i s e
theorem NoStr.sets : ∀ (vs : List Value) (cs : List Value) (o : Nat), NoStr cs → (∀ v ∈ vs, ∀ s, v ≠ .string s) → NoStr (setL cs o vs)
  | [], _, _, h, _ => h
  | v :: r, cs, o, h, hv => NoStr.sets r _ (o + 1) (h.set o (hv v (by simp))) (fun x hx => hv x (by simp [hx]))
/-- pairs stand where a cell of a row without texts is written -/
theorem prs_row {w : World} {B g j : Nat} {t : TypeId} {cs : List Value} {v u : Value} {l : List Par} (h : Prs w B v l) (hr : Rb w g t cs) (hn : NoStr cs) : Prs (w.setCell ⟨g, j, none⟩ u) B v l := by
  obtain ⟨A, c, hv, hc, hcell⟩ := h
  refine ⟨A, c, hv, hc, fun h0 => ?_⟩
  obtain ⟨g', o, hA, hg, hcs⟩ := hcell h0
  have hne : g' ≠ g := fun e => by
    subst e
    have h1 := hcs 0 h0 0 (.string l[0].k) rfl
    rw [cell_of_row w g' _ cs.toArray t (0, 0) hr] at h1
    exact hn _ _ (by simpa using h1)
  refine ⟨g', o, hA, hg, fun k hk i z hz => ?_⟩
  exact (World.cell?_setCell_other _ _ _ _ (fun e => hne (by injection e with e; exact e.symm))).trans (hcs k hk i z hz)
theorem prs_rows {g : Nat} {t : TypeId} {B : Nat} {v : Value} {l : List Par} : ∀ (vs : List Value) (o : Nat) (w : World) (cs : List Value), Prs w B v l → Rb w g t cs → NoStr cs → (∀ x ∈ vs, ∀ s, x ≠ .string s) → Prs (w.setCells g o vs) B v l
  | [], _, _, _, h, _, _, _ => h
  | x :: r, o, w, cs, h, hr, hn, hv => prs_rows r (o + 1) _ _ (prs_row h hr hn) (hr.set o x) (hn.set o (hv x (by simp))) (fun y hy => hv y (by simp [hy]))
theorem noStr_of {cs : List Value} (h : ∀ v ∈ cs, ∀ s, v ≠ .string s) : NoStr cs := fun j s e => h _ (List.mem_of_getElem? e) s rfl
/-- four rows laid one behind the other -/
theorem four_is (w : World) (A B C D : List Value) (ta tb tc td : TypeId) (n : Nat) (hC : C.length = n) (hNC : NoStr C) :
    ∃ z : List Value, z.length = n ∧ NoStr z ∧ Rb ((((w.alloc (.cells A.toArray ta)).alloc (.cells B.toArray tb)).alloc (.cells C.toArray tc)).alloc (.cells D.toArray td)) w.heap.size ta A ∧
      Rb ((((w.alloc (.cells A.toArray ta)).alloc (.cells B.toArray tb)).alloc (.cells C.toArray tc)).alloc (.cells D.toArray td)) (w.heap.size + 1) tb B ∧
      Rb ((((w.alloc (.cells A.toArray ta)).alloc (.cells B.toArray tb)).alloc (.cells C.toArray tc)).alloc (.cells D.toArray td)) (w.heap.size + 1 + 1) tc z ∧
      Rb ((((w.alloc (.cells A.toArray ta)).alloc (.cells B.toArray tb)).alloc (.cells C.toArray tc)).alloc (.cells D.toArray td)) (w.heap.size + 1 + 1 + 1) td D ∧
      Below w.heap.size w ((((w.alloc (.cells A.toArray ta)).alloc (.cells B.toArray tb)).alloc (.cells C.toArray tc)).alloc (.cells D.toArray td)) ∧
      w.heap.size + 4 ≤ ((((w.alloc (.cells A.toArray ta)).alloc (.cells B.toArray tb)).alloc (.cells C.toArray tc)).alloc (.cells D.toArray td)).heap.size := by
  have hA := Rb.new w ta A
  have hB := Rb.new (w.alloc (.cells A.toArray ta)) tb B
  have hC2 := Rb.new ((w.alloc (.cells A.toArray ta)).alloc (.cells B.toArray tb)) tc C
  have hD := Rb.new (((w.alloc (.cells A.toArray ta)).alloc (.cells B.toArray tb)).alloc (.cells C.toArray tc)) td D
  have s1 : (w.alloc (.cells A.toArray ta)).heap.size = w.heap.size + 1 := by simp
  have s2 : ((w.alloc (.cells A.toArray ta)).alloc (.cells B.toArray tb)).heap.size = w.heap.size + 1 + 1 := by simp
  have s3 : (((w.alloc (.cells A.toArray ta)).alloc (.cells B.toArray tb)).alloc (.cells C.toArray tc)).heap.size = w.heap.size + 1 + 1 + 1 := by simp
  rw [s1] at hB
  rw [s2] at hC2
  rw [s3] at hD
  refine ⟨C, hC, hNC, ((hA.below (below_one _ _)).below (below_one _ _)).below (below_one _ _), (hB.below (below_one _ _)).below (below_one _ _), hC2.below (below_one _ _), hD, ?_, by simp⟩
  exact ((((Below.refl _ _).alloc (Nat.le_refl _) _).alloc (by simp) _).alloc (by simp; omega) _).alloc (by simp; omega) _
end Go.Proofs.Ytegkhkcnoahhdaa
