/-
  The program's disk in memory: a box with a map and a count; the map holds a file a name; the files' bytes lie in rows of one's own. What a step on it leaves alone.
  There are no conditions beyond those that each lemma names.
-/
import Derived.Test.YtbdengcblncfmaaD9Plain
import Derived.Test.YtbdengcblncfmaaD9Bytes
set_option linter.unusedSimpArgs false
set_option linter.unusedVariables false
namespace Go.Proofs.Ytbdengcblncfmaa
open Go.RowKit
set_option maxRecDepth 100000

/-- all that was there stands, but for blocks of which S holds -/
structure Off (S : Nat → Prop) (w w' : World) : Prop where
  os : w'.os = w.os
  tape : w'.tape = w.tape
  output : w'.output = w.output
  size : w.heap.size ≤ w'.heap.size
  block : ∀ k, k < w.heap.size → ¬ S k → w'.heap[k]? = w.heap[k]?
theorem Off.refl (S : Nat → Prop) (w : World) : Off S w w := ⟨rfl, rfl, rfl, Nat.le_refl _, fun _ _ _ => rfl⟩
theorem Off.of_below {S : Nat → Prop} {w w' : World} (h : Below w.heap.size w w') : Off S w w' := ⟨h.os, h.tape, h.output, h.size, fun k hk _ => h.block k hk⟩
theorem Off.trans {S T : Nat → Prop} {w w1 w2 : World} (h : Off S w w1) (h2 : Off T w1 w2) (hT : ∀ k, T k → S k ∨ w.heap.size ≤ k) : Off S w w2 :=
  ⟨h2.os.trans h.os, h2.tape.trans h.tape, h2.output.trans h.output, Nat.le_trans h.size h2.size, fun k hk hS => (h2.block k (Nat.lt_of_lt_of_le hk h.size) (fun ht => by
    rcases hT k ht with h3 | h3
    · exact hS h3
    · omega)).trans (h.block k hk hS)⟩
theorem Off.then_ {S : Nat → Prop} {w w1 w2 : World} (h : Off S w w1) (h2 : Below w1.heap.size w1 w2) : Off S w w2 := h.trans (Off.of_below (S := S) h2) fun _ h => .inl h
theorem Off.mono {S T : Nat → Prop} {w w' : World} (h : Off S w w') (hT : ∀ k, S k → T k ∨ w.heap.size ≤ k) : Off T w w' := ⟨h.os, h.tape, h.output, h.size, fun k hk ht => h.block k hk fun hs => by
    rcases hT k hs with h3 | h3
    · exact ht h3
    · omega⟩
theorem Off.alloc {S : Nat → Prop} {w w1 : World} (h : Off S w w1) (o : Obj) : Off S w (w1.alloc o) := h.then_ (below_new _ _)
theorem Off.drew {S : Nat → Prop} {w w1 : World} (h : Off S w w1) : Off S w w1.drew := ⟨h.os, h.tape, h.output, h.size, h.block⟩
theorem Off.set {S : Nat → Prop} {w w1 : World} {g j : Nat} {u : Value} (h : Off S w w1) (hg : S g ∨ w.heap.size ≤ g) : Off S w (w1.setCell ⟨g, j, none⟩ u) :=
  h.trans (T := fun k => k = g) ⟨rfl, rfl, rfl, Nat.le_of_eq (by simp [World.setCell]), fun k _ hk => Below.heap_setCell _ _ _ _ hk⟩ fun k hk => by subst hk; exact hg
theorem Off.grown {S : Nat → Prop} {w w1 w2 : World} {row : Option Nat} (h : Off S w w1) (h2 : w1.grownBy w2 row) (hr : ∀ k, row = some k → S k ∨ w.heap.size ≤ k) : Off S w w2 :=
  h.trans (T := fun k => row = some k) ⟨h2.os, h2.tape, h2.output, h2.size, fun k hk hne => h2.block k hk fun e => hne e.symm⟩ hr
theorem Off.below {S : Nat → Prop} {B : Nat} {w w' : World} (h : Off S w w') (hS : ∀ k, S k → B ≤ k) (hB : B ≤ w.heap.size) : Below B w w' :=
  ⟨h.os, h.tape, h.output, h.size, fun k hk => h.block k (Nat.lt_of_lt_of_le hk hB) fun hs => by have := hS k hs; omega⟩
theorem Off.cell {S : Nat → Prop} {w w' : World} {p : Addr} (h : Off S w w') (hp : p.block < w.heap.size) (hS : ¬ S p.block) : w'.cell? p = w.cell? p := World.cell?_of_block (w := w) (h.block p.block hp hS)
theorem Off.ownsRow {S : Nat → Prop} {w w' : World} {B e s n : Nat} {v : Value} {xs : List Value} (h : Off S w w') (hr : w.ownsRow B e s v n xs) (hS : ∀ k, v.ownBlock = some k → ¬ S k) : w'.ownsRow B e s v n xs := by
  have hlt := World.ownsRow.lt hr
  refine ⟨hr.1, ?_⟩
  rcases hr.2 with h2 | ⟨g, c, cur, hv, hB, hg, r⟩
  · exact .inl h2
  · subst hv
    exact .inr ⟨g, c, cur, rfl, hB, (h.block g (hlt g rfl).2 (hS g rfl)).trans hg, r⟩
theorem Off.map {S : Nat → Prop} {w w' : World} {P : Program} {k b n : Nat} {R : Value → Option (DataW Value × List MemPlace)} {D : DataW Value} (h : Off S w w') (ho : w.ownsMap P k R b n D) (hS : ¬ S b) : w'.ownsMap P k R b n D := by
  have hlt := ho.lt
  obtain ⟨es, clock, hb, r⟩ := ho
  exact ⟨es, clock, (h.block b hlt hS).trans hb, r⟩

/-- a row of bytes lies in a block of its type -/
theorem own_type {w : World} {B : Nat} {v : Value} {l : List UInt8} {g : Nat} (h : OwnB B v l w) (hg : v.ownBlock = some g) : ∃ cur, w.heap[g]? = some (.cells cur 5 (0, 0)) := by
  rcases h.2 with ⟨hv, _⟩ | ⟨g2, c2, cur, hv, _, hh, _⟩
  · rw [hv] at hg; cases hg
  · rw [hv] at hg
    have e3 : g2 = g := Option.some.inj (show some g2 = some g from hg)
    subst e3
    exact ⟨cur, hh⟩
/-- a block of cells that may be written -/
def Blk (w : World) (g : Nat) (cs : Array Value) (t : TypeId) : Prop := w.heap[g]? = some (.cells cs t (0, 0))
theorem Blk.new (w : World) (cs : Array Value) (t : TypeId) : Blk (w.alloc (.cells cs t)) w.heap.size cs t := heap_alloc_new _ _
theorem Blk.lt {w : World} {g : Nat} {cs : Array Value} {t : TypeId} (h : Blk w g cs t) : g < w.heap.size := (Array.getElem?_eq_some_iff.1 h).1
theorem Blk.cell {w : World} {g j : Nat} {cs : Array Value} {t : TypeId} {v : Value} (h : Blk w g cs t) (hj : cs[j]? = some v) : w.cell? ⟨g, j, none⟩ = some v := by rw [cell_of_row w g j _ _ _ h]; exact hj
theorem Blk.frz {w : World} {g : Nat} {cs : Array Value} {t : TypeId} (h : Blk w g cs t) (j : Nat) : w.frozen? ⟨g, j, none⟩ = false := frozen_of_row w g j _ _ h
theorem Blk.below {w w' : World} {g : Nat} {cs : Array Value} {t : TypeId} (h : Blk w g cs t) (hb : Below w.heap.size w w') : Blk w' g cs t := (hb.block g h.lt).trans h
theorem Blk.off {S : Nat → Prop} {w w' : World} {g : Nat} {cs : Array Value} {t : TypeId} (h : Blk w g cs t) (ho : Off S w w') (hS : ¬ S g) : Blk w' g cs t := (ho.block g h.lt hS).trans h
theorem Blk.set {w : World} {g j : Nat} {cs : Array Value} {t : TypeId} (h : Blk w g cs t) (v : Value) : Blk (w.setCell ⟨g, j, none⟩ v) g (cs.setIfInBounds j v) t := heap_setCell_same w g j _ _ _ h
theorem Blk.far {w : World} {g g2 j : Nat} {cs : Array Value} {t : TypeId} (h : Blk w g cs t) (hne : g ≠ g2) (v : Value) : Blk (w.setCell ⟨g2, j, none⟩ v) g cs t := (Below.heap_setCell w ⟨g2, j, none⟩ v g hne).trans h
/-- the box of a disk -/
def Box9 (w : World) (g : Nat) (m : Option Nat) (c : Nat) : Prop := w.heap[g]? = some (.cells #[.map m, .int .i64 ((c : Nat) : Int)] 57 (0, 0))
/-- the map of a disk -/
def Map9 (w : World) (m : Option Nat) (ps : List (Fil × Value)) : Prop :=
  match m with
  | none => ps = []
  | some b => w.ownsMap Try.prog 9 RH b ps.length (DD ps)
/-- a disk: all its blocks are blocks of which S holds -/
def PD (w : World) (S : Nat → Prop) (g : Nat) (l : List Fil) (c : Nat) : Prop :=
  ∃ (m : Option Nat) (ps : List (Fil × Value)), ps.map (·.1) = l ∧ S g ∧ Box9 w g m c ∧ (∀ b, m = some b → S b) ∧ Map9 w m ps ∧
    (∀ p ∈ ps, OwnB 0 p.2 p.1.b w ∧ ∀ k, p.2.ownBlock = some k → S k) ∧ ps.Pairwise (fun p q => ∀ k, p.2.ownBlock = some k → q.2.ownBlock ≠ some k) ∧
    Sorted9 l ∧ (∀ f ∈ l, Good9 f) ∧ ∀ k, S k → k < w.heap.size
theorem disk9_ne_u8 : (57 : TypeId) ≠ 5 := by decide
theorem Box9.lt {w : World} {g c : Nat} {m : Option Nat} (h : Box9 w g m c) : g < w.heap.size := (Array.getElem?_eq_some_iff.1 h).1
theorem Box9.cell0 {w : World} {g c : Nat} {m : Option Nat} (h : Box9 w g m c) : w.cell? ⟨g, 0, none⟩ = some (.map m) := by rw [cell_of_row w g 0 _ _ _ h]; rfl
theorem Box9.cell1 {w : World} {g c : Nat} {m : Option Nat} (h : Box9 w g m c) : w.cell? ⟨g, 1, none⟩ = some (.int .i64 ((c : Nat) : Int)) := by rw [cell_of_row w g 1 _ _ _ h]; rfl
theorem Box9.frz {w : World} {g c : Nat} {m : Option Nat} (h : Box9 w g m c) (j : Nat) : w.frozen? ⟨g, j, none⟩ = false := frozen_of_row w g j _ _ h
theorem Box9.off {S : Nat → Prop} {w w' : World} {g c : Nat} {m : Option Nat} (h : Box9 w g m c) (ho : Off S w w') (hS : ¬ S g) : Box9 w' g m c := (ho.block g h.lt hS).trans h
theorem Box9.below {w w' : World} {g c : Nat} {m : Option Nat} (h : Box9 w g m c) (hb : Below w.heap.size w w') : Box9 w' g m c := (hb.block g h.lt).trans h
theorem Box9.set0 {w : World} {g c : Nat} {m : Option Nat} (h : Box9 w g m c) (m' : Option Nat) : Box9 (w.setCell ⟨g, 0, none⟩ (.map m')) g m' c := by
  unfold Box9; rw [heap_setCell_same w g 0 _ _ _ h]; rfl
theorem Box9.set1 {w : World} {g c : Nat} {m : Option Nat} (h : Box9 w g m c) (c' : Nat) : Box9 (w.setCell ⟨g, 1, none⟩ (.int .i64 ((c' : Nat) : Int))) g m c' := by
  unfold Box9; rw [heap_setCell_same w g 1 _ _ _ h]; rfl
theorem Box9.ne_map {w : World} {g c b n : Nat} {m : Option Nat} {D : DataW Value} {P : Program} {k : TypeId} {R : Value → Option (DataW Value × List MemPlace)} (h : Box9 w g m c) (ho : w.ownsMap P k R b n D) : g ≠ b := by
  rintro rfl
  obtain ⟨es, clock, hb, _⟩ := ho
  unfold Box9 at h
  rw [h] at hb; cases hb
theorem blk_ne_map {w : World} {g n : Nat} {cs : Array Value} {t k : TypeId} {D : DataW Value} {P : Program} {R : Value → Option (DataW Value × List MemPlace)} (h : Blk w g cs t) (ho : w.ownsMap P k R g n D) : False := by
  obtain ⟨es, clock, hb, _⟩ := ho
  unfold Blk at h
  rw [h] at hb; cases hb
theorem Map9.off {S : Nat → Prop} {w w' : World} {m : Option Nat} {ps : List (Fil × Value)} (h : Map9 w m ps) (ho : Off S w w') (hS : ∀ b, m = some b → ¬ S b) : Map9 w' m ps := by
  cases m with
  | none => exact h
  | some b => exact ho.map h (hS b rfl)
theorem Map9.below {w w' : World} {m : Option Nat} {ps : List (Fil × Value)} (h : Map9 w m ps) (hb : Below w.heap.size w w') : Map9 w' m ps := h.off (Off.of_below (S := fun _ => False) hb) fun _ _ h => h
theorem PD.below {w w' : World} {S : Nat → Prop} {g : Nat} {l : List Fil} {c : Nat} (h : PD w S g l c) (hb : Below w.heap.size w w') : PD w' S g l c := by
  obtain ⟨m, ps, h1, h2, h3, h4, h5, h6, h7, h8, h9, h10⟩ := h
  exact ⟨m, ps, h1, h2, h3.below hb, h4, h5.below hb, fun p hp => ⟨(h6 p hp).1.below hb, (h6 p hp).2⟩, h7, h8, h9, fun k hk => Nat.lt_of_lt_of_le (h10 k hk) hb.size⟩
/-- a disk stands where none of its blocks is written -/
theorem PD.off {w w' : World} {S T : Nat → Prop} {g : Nat} {l : List Fil} {c : Nat} (h : PD w S g l c) (ho : Off T w w') (hT : ∀ k, S k → ¬ T k) : PD w' S g l c := by
  obtain ⟨m, ps, h1, h2, h3, h4, h5, h6, h7, h8, h9, h10⟩ := h
  exact ⟨m, ps, h1, h2, h3.off ho (hT g h2), h4, h5.off ho (fun b hb => hT b (h4 b hb)), fun p hp => ⟨ho.ownsRow (h6 p hp).1 (fun k hk => hT k ((h6 p hp).2 k hk)), (h6 p hp).2⟩, h7, h8, h9, fun k hk => Nat.lt_of_lt_of_le (h10 k hk) ho.size⟩
theorem PD.drew {w : World} {S : Nat → Prop} {g : Nat} {l : List Fil} {c : Nat} (h : PD w S g l c) : PD w.drew S g l c := h
theorem PD.lt {w : World} {S : Nat → Prop} {g : Nat} {l : List Fil} {c : Nat} (h : PD w S g l c) : ∀ k, S k → k < w.heap.size := by
  obtain ⟨m, ps, h1, h2, h3, h4, h5, h6, h7, h8, h9, h10⟩ := h
  exact h10
theorem PD.good {w : World} {S : Nat → Prop} {g : Nat} {l : List Fil} {c : Nat} (h : PD w S g l c) : Sorted9 l ∧ ∀ f ∈ l, Good9 f := by
  obtain ⟨m, ps, h1, h2, h3, h4, h5, h6, h7, h8, h9, h10⟩ := h
  exact ⟨h8, h9⟩
/-- more blocks may be called a disk's -/
theorem PD.more {w : World} {S T : Nat → Prop} {g : Nat} {l : List Fil} {c : Nat} (h : PD w S g l c) (hT : ∀ k, S k → T k) (hlt : ∀ k, T k → k < w.heap.size) : PD w T g l c := by
  obtain ⟨m, ps, h1, h2, h3, h4, h5, h6, h7, h8, h9, h10⟩ := h
  exact ⟨m, ps, h1, hT g h2, h3, fun b hb => hT b (h4 b hb), h5, fun p hp => ⟨(h6 p hp).1, fun k hk => hT k ((h6 p hp).2 k hk)⟩, h7, h8, h9, hlt⟩
theorem Try.lawStr9 : Maps.Keyed Try.prog 9 := Maps.string_keyed Try.underlying9
theorem Try.zeroFile9 (w : World) : (zeroValue 59).run Try.prog w = .ok (.agg #[.slice none 0 0, .int .i64 0, .bool false]) w := by kernel_rfl
theorem key9 {n : ByteArray} (h : n.size ≤ maxLen) : keyOf Try.prog 9 (.string n) = some (.string n.data.toList) := WideMaps.keyOf_string_mk Try.underlying9 h
/-- what a file's cells hold -/
def fileV (p : Fil × Value) : Value := .agg #[p.2, .int .i64 ((p.1.fast : Nat) : Int), .bool p.1.there]
/-- what the map answers of a name: files that are not there read as nought -/
def lookV (n : ByteArray) (ps : List (Fil × Value)) : Value := match ps.find? (fun p => decide (p.1.name = n)) with
  | some p => fileV p
  | none => .agg #[.slice none 0 0, .int .i64 0, .bool false]
theorem look9 {w : World} {m : Option Nat} {ps : List (Fil × Value)} {n : ByteArray} (c : Bool) (h : Map9 w m ps) (hn : n.size ≤ maxLen) :
    (Instr.lookup 55 (.map m) (.string n) c).run Try.prog w = .ok (if c then .tuple #[lookV n ps, .bool (ps.any fun p => decide (p.1.name = n))] else lookV n ps) w := by
  cases m with
  | none =>
    have h : ps = [] := h
    subst h
    rw [Maps.look_nil c Try.lawStr9 Try.underlying55 (Try.zeroFile9 w) (key9 hn)]; rfl
  | some b =>
    have h : w.ownsMap Try.prog 9 RH b ps.length (DD ps) := h
    obtain ⟨es, clock, hb, F, _, hD⟩ := h
    rcases Maps.fit_look c Try.lawStr9 Try.underlying55 (Try.zeroFile9 w) hb F (key9 hn) with ⟨hr, _, hat⟩ | ⟨e0, y, _, _, hr, hy, hat, _⟩
    · rw [← hD] at hat
      have h1 := hat (.held (.bool true))
      have h2 := hat (.held (.bool false))
      rw [dd_at] at h1 h2
      have hf : ps.find? (fun p => decide (p.1.name = n)) = none := by
        cases hf : ps.find? (fun p => decide (p.1.name = n)) with
        | none => rfl
        | some p => rw [hf] at h1 h2; simp only at h1 h2; rw [h1] at h2; cases h2
      have ha : (ps.any fun p => decide (p.1.name = n)) = false := List.any_eq_false.2 (List.find?_eq_none.1 hf)
      rw [hr]; unfold lookV; rw [hf, ha]
    · rw [← hD] at hat
      have h1 := hat (.held (.bool true))
      have h2 := hat (.held (.bool false))
      rw [dd_at] at h1 h2
      cases hf : ps.find? (fun p => decide (p.1.name = n)) with
      | none => rw [hf] at h1 h2; simp only at h1 h2; rw [← h1] at h2; cases h2
      | some p =>
        rw [hf] at h1
        simp only at h1
        have ha : (ps.any fun p => decide (p.1.name = n)) = true := List.any_eq_true.2 ⟨p, List.mem_of_find?_eq_some hf, by simpa using List.find?_some hf⟩
        have hv : e0.val = fileV p := by
          have : (DataW.held e0.val : DataW Value) = y.1 := by rw [← (Option.some.inj hy)]
          rw [← h1] at this
          injection this
        rw [hr]; unfold lookV; rw [hf, ha, hv]
end Go.Proofs.Ytbdengcblncfmaa
