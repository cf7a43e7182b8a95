/-
  The reference's disk in memory: a box that holds a row of files and a count; the files' bytes lie in rows of one's own.
  There are no conditions beyond those that each lemma names.
-/
import Derived.Test.YtbdengcblncfmaaQ9Good
import Derived.Test.YtbdengcblncfmaaL5Own
import Derived.Test.YtbdengcblncfmaaWAppend
import Derived.Deep.AppendLies
import Derived.Deep.MidRow
set_option linter.unusedSimpArgs false
set_option linter.unusedVariables false
namespace Go.Proofs.Ytbdengcblncfmaa
open Go.RowKit
set_option maxRecDepth 100000

def flc (p : Fil × Value) : List Value := [.string p.1.name, p.2, .int .i64 (p.1.fast : Nat), .bool p.1.there]
/-- a value whose row is none of those of which N speaks -/
def Av (N : Nat → Prop) (v : Value) : Prop := ∀ k, v.ownBlock = some k → ¬ N k
theorem Av.nil (N : Nat → Prop) : Av N (.slice none 0 0) := fun k hk => by cases hk
theorem Av.new {N : Nat → Prop} {v : Value} {b : Nat} (h : ∀ k, v.ownBlock = some k → b ≤ k) (hN : ∀ k, N k → k < b) : Av N v := fun k hk hn => by
  have h1 := h k hk
  have h2 := hN k hn
  omega
/-- bytes of one's own, in none of the blocks of which N speaks -/
def OwnQ (N : Nat → Prop) (v : Value) (b : List UInt8) (w : World) : Prop := OwnB 0 v b w ∧ Av N v
theorem ownN_of {N : Nat → Prop} {B : Nat} {v : Value} {b : List UInt8} {w : World} (h : OwnB B v b w) (hN : ∀ k, N k → k < B) : OwnQ N v b w := ⟨h.down (Nat.zero_le _), Av.new (fun k hk => (h.lt k hk).1) hN⟩
theorem OwnQ.below {N : Nat → Prop} {v : Value} {b : List UInt8} {w w' : World} (h : OwnQ N v b w) (hb : Below w.heap.size w w') : OwnQ N v b w' := ⟨h.1.below hb, h.2⟩
theorem ownN_nil (N : Nat → Prop) (w : World) : OwnQ N (.slice none 0 0) [] w := ⟨ownB_nil 0 w, Av.nil N⟩
/-- a row of files of one's own, their bytes rows of one's own, too; N: blocks that are somebody else's -/
def OwnL (N : Nat → Prop) (B : Nat) (v : Value) (l : List Fil) (w : World) : Prop :=
  ∃ ps : List (Fil × Value), ps.map (·.1) = l ∧ (w.ownsRow B 64 4 v l.length (ps.flatMap flc) ∧ Av N v) ∧ ∀ p ∈ ps, OwnQ N p.2 p.1.b w
/-- a disk's box at block g: its files' row is v -/
structure Dsk (N : Nat → Prop) (w : World) (B g : Nat) (v : Value) (l : List Fil) (c : Nat) : Prop where
  lo : B ≤ g
  av : ¬ N g
  here : w.heap[g]? = some (.cells #[v, .int .i64 ((c : Nat) : Int)] 29 (0, 0))
  own : OwnL N B v l w
theorem OwnL.nil (N : Nat → Prop) (B : Nat) (w : World) : OwnL N B (.slice none 0 0) [] w := ⟨[], rfl, ⟨World.ownsRow_nil _ _ _ _, Av.nil N⟩, fun p hp => by cases hp⟩
theorem OwnL.below {N : Nat → Prop} {B : Nat} {v : Value} {l : List Fil} {w w' : World} (h : OwnL N B v l w) (hb : Below w.heap.size w w') : OwnL N B v l w' := by
  obtain ⟨ps, e, h1, h2⟩ := h
  exact ⟨ps, e, ⟨ownsRow_below h1.1 hb, h1.2⟩, fun p hp => (h2 p hp).below hb⟩
theorem OwnL.down {N : Nat → Prop} {B C : Nat} {v : Value} {l : List Fil} {w : World} (h : OwnL N B v l w) (hC : C ≤ B) : OwnL N C v l w := by
  obtain ⟨ps, e, h1, h2⟩ := h
  exact ⟨ps, e, ⟨ownsRow_down h1.1 hC, h1.2⟩, h2⟩
theorem OwnL.slice {N : Nat → Prop} {B : Nat} {v : Value} {l : List Fil} {w : World} (h : OwnL N B v l w) : ∃ A c, v = .slice A l.length c := by
  obtain ⟨ps, e, h1, _⟩ := h
  exact own_slice h1.1
theorem OwnL.slice9 {N : Nat → Prop} {B n c : Nat} {A : Option Addr} {l : List Fil} {w : World} (h : OwnL N B (.slice A n c) l w) : (A = none ∧ c = 0 ∧ n = 0) ∨ ∃ g, A = some ⟨g, 0, none⟩ := by
  obtain ⟨ps, _, ⟨h1, _⟩, _⟩ := h
  rcases h1.2 with ⟨hv, _⟩ | ⟨g, c', cur, hv, _⟩
  · injection hv with e1 e2 e3; exact .inl ⟨e1, e3, e2⟩
  · injection hv with e1 _ _; exact .inr ⟨g, e1⟩
theorem lflat_at : ∀ (l : List (Fil × Value)) (k : Nat) (h : k < l.length) (j : Nat) (v : Value), (flc l[k])[j]? = some v → (l.flatMap flc)[k * 4 + j]? = some v
  | x :: t, 0, _, j, v, hv => by
    have hj : j < (flc x).length := (List.getElem?_eq_some_iff.1 hv).1
    rw [List.flatMap_cons, Nat.zero_mul, Nat.zero_add, List.getElem?_append_left hj]; exact hv
  | x :: t, k + 1, h, j, v, hv => by
    have h3 : (flc x).length = 4 := rfl
    rw [List.flatMap_cons, List.getElem?_append_right (by omega), h3, show (k + 1) * 4 + j - 4 = k * 4 + j by omega]
    exact lflat_at t k (by simpa using h) j v hv
theorem flc_len (l : List (Fil × Value)) : (l.flatMap flc).length = l.length * 4 := by
  induction l with
  | nil => rfl
  | cons x t ih =>
    have h3 : (flc x).length = 4 := rfl
    rw [List.flatMap_cons, List.length_append, ih, h3, List.length_cons]; omega
/-- the file at place k: its cells, its bytes -/
theorem OwnL.at_ {N : Nat → Prop} {B n c : Nat} {A : Option Addr} {l : List Fil} {w : World} (h : OwnL N B (.slice A n c) l w) (k : Nat) (hk : k < l.length) :
    ∃ g u, A = some ⟨g, 0, Option.none⟩ ∧ B ≤ g ∧ g < w.heap.size ∧ w.rangeAt g (k * 4) (flc (l[k], u)) ∧ OwnB 0 u l[k].b w ∧ ∀ j, w.frozen? ⟨g, j, none⟩ = false := by
  obtain ⟨ps, rfl, ⟨h1, _⟩, h2⟩ := h
  have hkp : k < ps.length := by simpa using hk
  have e : (ps.map (·.1))[k] = ps[k].1 := by simp
  have ho := (h2 ps[k] (List.getElem_mem hkp)).1
  have hc := fun (g : Nat) (hg : (Value.slice A n c).ownBlock = some g) => World.ownsRow.cells h1 hg
  have hlt := World.ownsRow.lt h1
  rcases h1.2 with ⟨_, h0⟩ | ⟨g, c', cur, hv2, hB, hh, _⟩
  · omega
  · injection hv2 with e1 _ _
    subst e1
    refine ⟨g, ps[k].2, rfl, hB, (hlt g rfl).2, fun j z hj => ?_, by rw [e]; exact ho, fun j => frozen_of_row w g j cur _ hh⟩
    rw [e] at hj
    have h3 := hc g rfl (k * 4 + j) z (lflat_at ps k hkp j z hj)
    rw [Addr.add_mid] at h3
    rw [← h3]; congr 2; omega
/-- a row stands where a cell of a row of another type is written -/
theorem row_far {w : World} {B e s n g j : Nat} {v u : Value} {xs : List Value} {cs : Array Value} {t : TypeId} (h : w.ownsRow B e s v n xs) (hg : w.heap[g]? = some (.cells cs t (0, 0))) (hne : t ≠ e) : (w.setCell ⟨g, j, none⟩ u).ownsRow B e s v n xs := by
  refine World.ownsRow.kept h (setCell_grown w _ _) (.inr (fun ee => ?_))
  rcases h.2 with ⟨hv, _⟩ | ⟨g2, c2, cur2, hv, _, hg2, _⟩
  · rw [hv] at ee; cases ee
  · rw [hv] at ee
    have e3 : g2 = g := Option.some.inj (show some g2 = some g from ee)
    subst e3
    rw [hg] at hg2
    injection hg2 with hg2
    injection hg2 with _ h4 _
    exact hne h4
/-- a cell of a row of one's own is written -/
theorem row_set {w : World} {B e s n c g j : Nat} {u : Value} {xs : List Value} (h : w.ownsRow B e s (.slice (some ⟨g, 0, none⟩) n c) n xs) (hj : j < xs.length) : (w.setCell ⟨g, j, none⟩ u).ownsRow B e s (.slice (some ⟨g, 0, none⟩) n c) n (xs.set j u) := by
  refine ⟨by rw [List.length_set]; exact h.1, ?_⟩
  rcases h.2 with ⟨hv, _⟩ | ⟨g2, c2, cur, hv, hB, hg2, h1, h2, h3, h4⟩
  · cases hv
  · injection hv with e1 _ e3
    injection e1 with e1
    injection e1 with e1 _
    subst e1; subst e3
    refine .inr ⟨g, c, cur.setIfInBounds j u, rfl, hB, heap_setCell_same w g j cur e u hg2, h1, h2, by simpa using h3, ?_⟩
    rw [Array.toList_setIfInBounds, List.take_set, h4]
theorem disk_ne_file : (29 : TypeId) ≠ 64 := by decide
theorem disk_ne_u8 : (29 : TypeId) ≠ 5 := by decide
theorem file_ne_u8 : (64 : TypeId) ≠ 5 := by decide
theorem Dsk.lt {N : Nat → Prop} {w : World} {B g : Nat} {v : Value} {l : List Fil} {c : Nat} (h : Dsk N w B g v l c) : g < w.heap.size := (Array.getElem?_eq_some_iff.1 h.here).1
theorem Dsk.below {N : Nat → Prop} {w w' : World} {B g : Nat} {v : Value} {l : List Fil} {c : Nat} (h : Dsk N w B g v l c) (hb : Below w.heap.size w w') : Dsk N w' B g v l c :=
  ⟨h.lo, h.av, (hb.block g h.lt).trans h.here, h.own.below hb⟩
theorem Dsk.cell0 {N : Nat → Prop} {w : World} {B g : Nat} {v : Value} {l : List Fil} {c : Nat} (h : Dsk N w B g v l c) : w.cell? ⟨g, 0, none⟩ = some v := by rw [cell_of_row w g 0 _ _ _ h.here]; rfl
theorem Dsk.cell1 {N : Nat → Prop} {w : World} {B g : Nat} {v : Value} {l : List Fil} {c : Nat} (h : Dsk N w B g v l c) : w.cell? ⟨g, 1, none⟩ = some (.int .i64 ((c : Nat) : Int)) := by rw [cell_of_row w g 1 _ _ _ h.here]; rfl
theorem Dsk.frz {N : Nat → Prop} {w : World} {B g : Nat} {v : Value} {l : List Fil} {c : Nat} (h : Dsk N w B g v l c) (j : Nat) : w.frozen? ⟨g, j, none⟩ = false := frozen_of_row w g j _ _ h.here
theorem OwnL.far {N : Nat → Prop} {w : World} {B g j : Nat} {v u : Value} {l : List Fil} {cs : Array Value} {t : TypeId} (h : OwnL N B v l w) (hg : w.heap[g]? = some (.cells cs t (0, 0))) (h1 : t ≠ 64) (h2 : t ≠ 5) : OwnL N B v l (w.setCell ⟨g, j, none⟩ u) := by
  obtain ⟨ps, e, h3, h4⟩ := h
  exact ⟨ps, e, ⟨row_far h3.1 hg h1, h3.2⟩, fun p hp => ⟨row_far (h4 p hp).1 hg h2, (h4 p hp).2⟩⟩
/-- the count is written -/
theorem Dsk.count {N : Nat → Prop} {w : World} {B g : Nat} {v : Value} {l : List Fil} {c : Nat} (h : Dsk N w B g v l c) (c' : Nat) : Dsk N (w.setCell ⟨g, 1, none⟩ (.int .i64 ((c' : Nat) : Int))) B g v l c' :=
  ⟨h.lo, h.av, by rw [heap_setCell_same w g 1 _ _ _ h.here]; rfl, h.own.far h.here disk_ne_file disk_ne_u8⟩
/-- another row is put in the box -/
theorem Dsk.row {N : Nat → Prop} {w : World} {B g : Nat} {v v' : Value} {l l' : List Fil} {c : Nat} (h : Dsk N w B g v l c) (h' : OwnL N B v' l' w) : Dsk N (w.setCell ⟨g, 0, none⟩ v') B g v' l' c :=
  ⟨h.lo, h.av, by rw [heap_setCell_same w g 0 _ _ _ h.here]; rfl, h'.far h.here disk_ne_file disk_ne_u8⟩
theorem lflat_set : ∀ (l : List (Fil × Value)) (k : Nat) (_ : k < l.length) (j : Nat) (u : Value) (q : Fil × Value), j < 4 → flc q = (flc l[k]).set j u → (l.set k q).flatMap flc = (l.flatMap flc).set (k * 4 + j) u
  | x :: t, 0, _, j, u, q, hj, h => by
    have hl : (flc x).length = 4 := rfl
    rw [List.set_cons_zero, List.flatMap_cons, List.flatMap_cons, Nat.zero_mul, Nat.zero_add, List.set_append_left _ _ (by omega), h]; rfl
  | x :: t, k + 1, hk, j, u, q, hj, h => by
    have hl : (flc x).length = 4 := rfl
    rw [List.set_cons_succ, List.flatMap_cons, List.flatMap_cons, List.set_append_right _ _ (by rw [hl]; omega), hl, show (k + 1) * 4 + j - 4 = k * 4 + j by omega]
    rw [lflat_set t k (by simpa using hk) j u q hj h]
/-- a cell of a file is written -/
theorem OwnL.set {N : Nat → Prop} {w : World} {B n c g k j : Nat} {u : Value} {l : List Fil} (h : OwnL N B (.slice (some ⟨g, 0, none⟩) n c) l w) (hk : k < l.length) (f : Fil) (hj : j < 4)
    (hq : ∀ v, OwnQ N v l[k].b w → ∃ v', flc (f, v') = (flc (l[k], v)).set j u ∧ OwnQ N v' f.b w) : OwnL N B (.slice (some ⟨g, 0, none⟩) n c) (l.set k f) (w.setCell ⟨g, k * 4 + j, none⟩ u) := by
  obtain ⟨ps, rfl, ⟨h1, hav⟩, h2⟩ := h
  have hkp : k < ps.length := by simpa using hk
  have e : (ps.map (·.1))[k] = ps[k].1 := by simp
  obtain ⟨v', hv1, hv2⟩ := hq ps[k].2 (by rw [e]; exact h2 ps[k] (List.getElem_mem hkp))
  rw [e] at hv1
  have hn : n = (ps.map (·.1)).length := by
    rcases h1.2 with ⟨hv, _⟩ | ⟨g2, c2, cur, hv, _⟩
    · cases hv
    · injection hv
  have hh : ∃ cur, w.heap[g]? = some (.cells cur 64 (0, 0)) := by
    rcases h1.2 with ⟨hv, _⟩ | ⟨g2, c2, cur, hv, _, hg2, _⟩
    · cases hv
    · injection hv with e1 _ _
      injection e1 with e1
      injection e1 with e1 _
      subst e1
      exact ⟨cur, hg2⟩
  obtain ⟨cur, hcur⟩ := hh
  refine ⟨ps.set k (f, v'), by rw [List.map_set], ⟨?_, hav⟩, fun p hp => ?_⟩
  · rw [lflat_set ps k hkp j u (f, v') hj hv1, List.length_set]
    subst hn
    exact row_set h1 (by rw [flc_len]; omega)
  · rcases List.mem_or_eq_of_mem_set hp with hp | hp
    · exact ⟨row_far (h2 p hp).1 hcur file_ne_u8, (h2 p hp).2⟩
    · subst hp; exact ⟨row_far hv2.1 hcur file_ne_u8, hv2.2⟩
end Go.Proofs.Ytbdengcblncfmaa
