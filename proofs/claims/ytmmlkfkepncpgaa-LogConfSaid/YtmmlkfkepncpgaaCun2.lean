/-
  Contracts of the program's functions, of the reference's, and plain lemmas on what they answer (part 2 of 3).
  Each lemma names its conditions.
-/
import Derived.Test.YtmmlkfkepncpgaaCun1
import Derived.Deep.AppendLies
import Derived.Great.Walk
import Derived.Shelf.LaysM
import Derived.Shelf.Strconv.Clone
import Derived.Test.YtmmlkfkepncpgaaProg
import Derived.Deep.MidRow
import Derived.Deep.RegionHeld3
import Derived.Deep.Slices
import Derived.Lib.SliceRun
import Derived.Laws.OwnMore
import Derived.Lib.AppendZeros
import Derived.RangeFuncNested
import Derived.RangeFuncBox
import Derived.RangeFuncBound
import Derived.RangeFuncCalls
import Derived.RangeFuncLeaves
import Derived.Shelf.Abstract
import Derived.Shelf.RegionOpen
import Derived.WalkKit
import Derived.OwnWalkIn
import Derived.TacticsInMore
import Derived.LoopNIn
import Derived.LoopIn
import Derived.Laws.AppendOwnNone
import Derived.Maps.AppendAt
import Derived.Lib.Hide
import Derived.LoopTactic
import Derived.IntWalk
import Derived.Deep.OwnRows
/-
  Whole rows in blocks: what a block holds, and what of it stays where another block is turned.
  There are no conditions beyond those that each lemma names.
-/
set_option linter.unusedSimpArgs false
set_option linter.unusedVariables false
namespace Go.Proofs.Ytmmlkfkepncpgaa
open Go.RowKit
set_option maxRecDepth 100000

/-- block g is a row of type t, and holds the cells cs -/
def Rt (w : World) (g : Nat) (t : TypeId) (cs : List Value) : Prop := w.heap[g]? = some (.cells cs.toArray t (0, 0))
theorem Rt.lt {w : World} {g : Nat} {t : TypeId} {cs : List Value} (h : Rt w g t cs) : g < w.heap.size := (Array.getElem?_eq_some_iff.1 h).1
theorem Rt.new (w : World) (t : TypeId) (cs : List Value) : Rt (w.alloc (.cells cs.toArray t)) w.heap.size t cs := heap_alloc_new _ _
theorem Rt.new_at (w : World) (g : Nat) (t : TypeId) (cs : List Value) (hg : w.heap.size = g) : Rt (w.alloc (.cells cs.toArray t)) g t cs := by rw [← hg]; exact Rt.new w t cs
theorem Rt.below {w w' : World} {g : Nat} {t : TypeId} {cs : List Value} (h : Rt w g t cs) (hb : Below w.heap.size w w') : Rt w' g t cs := (hb.block g h.lt).trans h
theorem Rt.under {w w' : World} {B g : Nat} {t : TypeId} {cs : List Value} (h : Rt w g t cs) (hb : Below B w w') (hg : g < B) : Rt w' g t cs := (hb.block g hg).trans h
theorem Rt.cell {w : World} {g j : Nat} {t : TypeId} {cs : List Value} {v : Value} (h : Rt w g t cs) (hj : cs[j]? = some v) : w.cell? ⟨g, j, none⟩ = some v := by
  rw [cell_of_row w g _ cs.toArray t (0, 0) h]
  simpa using hj
theorem Rt.frz {w : World} {g : Nat} {t : TypeId} {cs : List Value} (h : Rt w g t cs) (j : Nat) : w.frozen? ⟨g, j, none⟩ = false := frozen_of_row w g j cs.toArray t h
theorem Rt.set {w : World} {g : Nat} {t : TypeId} {cs : List Value} (h : Rt w g t cs) (j : Nat) (u : Value) : Rt (w.setCell ⟨g, j, none⟩ u) g t (cs.set j u) := by
  unfold Rt at *
  rw [heap_setCell_same w g j _ _ u h]
  simp
theorem Rt.other {w : World} {g g' : Nat} {t : TypeId} {cs : List Value} (h : Rt w g t cs) (j : Nat) (u : Value) (hne : g ≠ g') : Rt (w.setCell ⟨g', j, none⟩ u) g t cs := by
  unfold Rt at *
  exact (Below.heap_setCell w _ u g (fun e => hne e)).trans h
theorem grown_trans10 {a b c : World} {row : Option Nat} (h : a.grownBy b row) (k : b.grownBy c row) : a.grownBy c row :=
  ⟨k.os.trans h.os, k.tape.trans h.tape, k.output.trans h.output, Nat.le_trans h.size k.size, fun j hj hne => (k.block j (Nat.lt_of_lt_of_le hj h.size) hne).trans (h.block j hj hne)⟩
theorem Rt.grown {w w' : World} {g g' : Nat} {t : TypeId} {cs : List Value} (h : Rt w g t cs) (hb : w.grownBy w' (some g')) (hne : g ≠ g') : Rt w' g t cs := (hb.block g h.lt (by simpa using hne)).trans h
theorem byt_grown10 {w w' : World} {B g : Nat} {v : Value} {l : List UInt8} (h : Byt w B v l) (hg : w.grownBy w' (some g)) (hB : B ≤ g) (hw : g < w.heap.size) : Byt w' B v l := h.keep fun p hp => hg.cell_far p (by omega) (by simp; omega)
theorem below_grown10 {w w' : World} {B g : Nat} (hg : w.grownBy w' (some g)) (hB : B ≤ g) (hw : g < w.heap.size) : Below B w w' := (Below.refl B w).grown hg (by omega) (fun k e => by cases e; exact hB)
theorem add_lit_10 (g o j : Nat) : (some (⟨g, o, Option.none⟩ : Addr)).map (·.add j) = some ⟨g, o + j, Option.none⟩ := by
  show some (Addr.add ⟨g, o, Option.none⟩ j) = _
  unfold Addr.add; split
  · subst_vars; rfl
  · rfl
end Go.Proofs.Ytmmlkfkepncpgaa
/-
  Contracts of library functions, as the shelf lays them.
-/
namespace Go.Proofs
open Go.Shelf
def Try.laysM316_ren : Go.Shelf.Ren := ⟨fun | 316 => 58 | n => n, fun | 9 => 9 | 3 => 3 | 4 => 4 | 37 => 88 | 0 => 0 | 127 => 89 | 5 => 5 | n => n, fun | n => n⟩
theorem Try.laysM316 : Go.Proofs.LaysM.n316 Try.prog Try.laysM316_ren := {
  mixed := by kernel_rfl
  f316 := Try.func58.trans (congrArg some (by kernel_rfl))
  t0 := Try.underlying0
  a0 := Try.isAgg0
  z0 := Try.sizeOf0
  v0 := Try.zeroValue0
  t3 := Try.underlying3
  a3 := Try.isAgg3
  z3 := Try.sizeOf3
  v3 := Try.zeroValue3
  t4 := Try.underlying4
  a4 := Try.isAgg4
  z4 := Try.sizeOf4
  v4 := Try.zeroValue4
  t9 := Try.underlying9
  a9 := Try.isAgg9
  z9 := Try.sizeOf9
  v9 := Try.zeroValue9
  t37 := Try.underlying88
  a37 := Try.isAgg88
  z37 := Try.sizeOf88
  v37 := Try.zeroValue88
  t127 := Try.underlying89
  a127 := Try.isAgg89
  z127 := Try.sizeOf89
  v127 := Try.zeroValue89
  t5 := Try.underlying5
  a5 := Try.isAgg5
  z5 := Try.sizeOf5
  v5 := Try.zeroValue5
  i0 := by kernel_rfl
  i3 := by kernel_rfl
  i4 := by kernel_rfl
  i5 := by kernel_rfl
  i9 := by kernel_rfl
  i37 := by kernel_rfl
  i127 := by kernel_rfl }
open Go.RowKit in
theorem Try.stringslite_Clone (s : ByteArray) (w : World) (hlim : s.size ≤ 281474976710656) :
    Calls Try.prog 58 #[.string s] w fun e w' => e = .returned (.string s) ∧ Below w.heap.size w w' := Any.stringslite_Clone Try.laysM316 s w hlim
end Go.Proofs
/-
  bytes.Clone at any bytes; bytes turned into a text; a slice's beginning.
  The bytes are no more than 2^47.
-/
set_option linter.unusedSimpArgs false
set_option linter.unusedVariables false
namespace Go.Proofs.Ytmmlkfkepncpgaa
open Go.RowKit
set_option maxRecDepth 100000

theorem conv9 {w : World} {B : Nat} {v : Value} {l : List UInt8} {S : ByteArray} (h : Byt w B v l) (hS : (⟨l.toArray⟩ : ByteArray) = S) : (convert 88 9 v).run Try.prog w = .ok (.string S) w := by
  obtain ⟨A, c, rfl, _, hcell⟩ := id h
  subst hS
  have e : strOfNums (l.map fun x => (x.toNat : Int)) = ⟨l.toArray⟩ := by
    unfold strOfNums
    rw [List.map_map]
    congr 2
    conv => rhs; rw [← List.map_id l]
    apply List.map_congr_left; intro x _; simp
  rcases Nat.eq_zero_or_pos l.length with h0 | h0
  · have hl : l = [] := List.eq_nil_of_length_eq_zero h0
    subst hl
    simp [convert, run_underlying Try.underlying88, run_underlying Try.underlying5, run_underlying Try.underlying9, Result.andThen]
    cases A <;> simp [Conv.bytesToString, loadCells] <;> rfl
  · obtain ⟨g, o, rfl, _, hc⟩ := hcell h0
    rw [← e]
    refine run_convert_bytes_arg w 88 5 Try.underlying88 Try.underlying5 g o l.length c _ (by simp) (fun i hi => ?_) 9 Try.underlying9
    rw [hc i hi]; simp [hi, List.getD]
theorem byt_take9 {w : World} {B : Nat} {A : Option Addr} {c j : Nat} {l : List UInt8} (h : Byt w B (.slice A l.length c) l) (hj : j ≤ l.length) : Byt w B (.slice A j c) (l.take j) := by
  obtain ⟨A', c', hv, hc, hcell⟩ := h
  injection hv with e1 _ e3
  subst e1; subst e3
  refine ⟨A, c, by rw [List.length_take, Nat.min_eq_left hj], by rw [List.length_take]; omega, fun h0 => ?_⟩
  rw [List.length_take] at h0
  obtain ⟨g, o, hA, hg, hk⟩ := hcell (by omega)
  refine ⟨g, o, hA, hg, fun k h1 => ?_⟩
  rw [List.length_take] at h1
  rw [hk k (by omega), List.getElem_take]
theorem byt_cap9 {w : World} {B : Nat} {A : Option Addr} {m c : Nat} {l : List UInt8} (h : Byt w B (.slice A m c) l) : m = l.length ∧ m ≤ c := by
  obtain ⟨A', c', hv, hc, _⟩ := h
  injection hv with _ e2 e3
  omega
end Go.Proofs.Ytmmlkfkepncpgaa
/-
  The program's disk in memory: a box with a map and a count; the map holds a file a name; the files' bytes lie in rows of one's own. What a step on it leaves alone.
  There are no conditions beyond those that each lemma names.
-/
set_option linter.unusedSimpArgs false
set_option linter.unusedVariables false
namespace Go.Proofs.Ytmmlkfkepncpgaa
open Go.RowKit
set_option maxRecDepth 100000

/-- all that was there stands, but for blocks of which S holds -/
structure Off (S : Nat → Prop) (w w' : World) : Prop where
  os : w'.os = w.os
  tape : w'.tape = w.tape
  output : w'.output = w.output
  size : w.heap.size ≤ w'.heap.size
  block : ∀ k, k < w.heap.size → ¬ S k → w'.heap[k]? = w.heap[k]?
theorem Off.refl (S : Nat → Prop) (w : World) : Off S w w := ⟨rfl, rfl, rfl, Nat.le_refl _, fun _ _ _ => rfl⟩
theorem Off.of_below {S : Nat → Prop} {w w' : World} (h : Below w.heap.size w w') : Off S w w' := ⟨h.os, h.tape, h.output, h.size, fun k hk _ => h.block k hk⟩
theorem Off.trans {S T : Nat → Prop} {w w1 w2 : World} (h : Off S w w1) (h2 : Off T w1 w2) (hT : ∀ k, T k → S k ∨ w.heap.size ≤ k) : Off S w w2 :=
  ⟨h2.os.trans h.os, h2.tape.trans h.tape, h2.output.trans h.output, Nat.le_trans h.size h2.size, fun k hk hS => (h2.block k (Nat.lt_of_lt_of_le hk h.size) (fun ht => by
    rcases hT k ht with h3 | h3
    · exact hS h3
    · omega)).trans (h.block k hk hS)⟩
theorem Off.then_ {S : Nat → Prop} {w w1 w2 : World} (h : Off S w w1) (h2 : Below w1.heap.size w1 w2) : Off S w w2 := h.trans (Off.of_below (S := S) h2) fun _ h => .inl h
theorem Off.mono {S T : Nat → Prop} {w w' : World} (h : Off S w w') (hT : ∀ k, S k → T k ∨ w.heap.size ≤ k) : Off T w w' := ⟨h.os, h.tape, h.output, h.size, fun k hk ht => h.block k hk fun hs => by
    rcases hT k hs with h3 | h3
    · exact ht h3
    · omega⟩
theorem Off.alloc {S : Nat → Prop} {w w1 : World} (h : Off S w w1) (o : Obj) : Off S w (w1.alloc o) := h.then_ (below_new _ _)
theorem Off.drew {S : Nat → Prop} {w w1 : World} (h : Off S w w1) : Off S w w1.drew := ⟨h.os, h.tape, h.output, h.size, h.block⟩
theorem Off.set {S : Nat → Prop} {w w1 : World} {g j : Nat} {u : Value} (h : Off S w w1) (hg : S g ∨ w.heap.size ≤ g) : Off S w (w1.setCell ⟨g, j, none⟩ u) :=
  h.trans (T := fun k => k = g) ⟨rfl, rfl, rfl, Nat.le_of_eq (by simp [World.setCell]), fun k _ hk => Below.heap_setCell _ _ _ _ hk⟩ fun k hk => by subst hk; exact hg
theorem Off.grown {S : Nat → Prop} {w w1 w2 : World} {row : Option Nat} (h : Off S w w1) (h2 : w1.grownBy w2 row) (hr : ∀ k, row = some k → S k ∨ w.heap.size ≤ k) : Off S w w2 :=
  h.trans (T := fun k => row = some k) ⟨h2.os, h2.tape, h2.output, h2.size, fun k hk hne => h2.block k hk fun e => hne e.symm⟩ hr
theorem Off.below {S : Nat → Prop} {B : Nat} {w w' : World} (h : Off S w w') (hS : ∀ k, S k → B ≤ k) (hB : B ≤ w.heap.size) : Below B w w' :=
  ⟨h.os, h.tape, h.output, h.size, fun k hk => h.block k (Nat.lt_of_lt_of_le hk hB) fun hs => by have := hS k hs; omega⟩
theorem Off.cell {S : Nat → Prop} {w w' : World} {p : Addr} (h : Off S w w') (hp : p.block < w.heap.size) (hS : ¬ S p.block) : w'.cell? p = w.cell? p := World.cell?_of_block (w := w) (h.block p.block hp hS)
theorem Off.ownsRow {S : Nat → Prop} {w w' : World} {B e s n : Nat} {v : Value} {xs : List Value} (h : Off S w w') (hr : w.ownsRow B e s v n xs) (hS : ∀ k, v.ownBlock = some k → ¬ S k) : w'.ownsRow B e s v n xs := by
  have hlt := World.ownsRow.lt hr
  refine ⟨hr.1, ?_⟩
  rcases hr.2 with h2 | ⟨g, c, cur, hv, hB, hg, r⟩
  · exact .inl h2
  · subst hv
    exact .inr ⟨g, c, cur, rfl, hB, (h.block g (hlt g rfl).2 (hS g rfl)).trans hg, r⟩
theorem Off.map {S : Nat → Prop} {w w' : World} {P : Program} {k b n : Nat} {R : Value → Option (DataW Value × List MemPlace)} {D : DataW Value} (h : Off S w w') (ho : w.ownsMap P k R b n D) (hS : ¬ S b) : w'.ownsMap P k R b n D := by
  have hlt := ho.lt
  obtain ⟨es, clock, hb, r⟩ := ho
  exact ⟨es, clock, (h.block b hlt hS).trans hb, r⟩

/-- a row of bytes lies in a block of its type -/
theorem own_type {w : World} {B : Nat} {v : Value} {l : List UInt8} {g : Nat} (h : OwnB B v l w) (hg : v.ownBlock = some g) : ∃ cur, w.heap[g]? = some (.cells cur 5 (0, 0)) := by
  rcases h.2 with ⟨hv, _⟩ | ⟨g2, c2, cur, hv, _, hh, _⟩
  · rw [hv] at hg; cases hg
  · rw [hv] at hg
    have e3 : g2 = g := Option.some.inj (show some g2 = some g from hg)
    subst e3
    exact ⟨cur, hh⟩
/-- a block of cells that may be written -/
def Blk (w : World) (g : Nat) (cs : Array Value) (t : TypeId) : Prop := w.heap[g]? = some (.cells cs t (0, 0))
theorem Blk.new (w : World) (cs : Array Value) (t : TypeId) : Blk (w.alloc (.cells cs t)) w.heap.size cs t := heap_alloc_new _ _
theorem Blk.lt {w : World} {g : Nat} {cs : Array Value} {t : TypeId} (h : Blk w g cs t) : g < w.heap.size := (Array.getElem?_eq_some_iff.1 h).1
theorem Blk.cell {w : World} {g j : Nat} {cs : Array Value} {t : TypeId} {v : Value} (h : Blk w g cs t) (hj : cs[j]? = some v) : w.cell? ⟨g, j, none⟩ = some v := by rw [cell_of_row w g j _ _ _ h]; exact hj
theorem Blk.frz {w : World} {g : Nat} {cs : Array Value} {t : TypeId} (h : Blk w g cs t) (j : Nat) : w.frozen? ⟨g, j, none⟩ = false := frozen_of_row w g j _ _ h
theorem Blk.below {w w' : World} {g : Nat} {cs : Array Value} {t : TypeId} (h : Blk w g cs t) (hb : Below w.heap.size w w') : Blk w' g cs t := (hb.block g h.lt).trans h
theorem Blk.off {S : Nat → Prop} {w w' : World} {g : Nat} {cs : Array Value} {t : TypeId} (h : Blk w g cs t) (ho : Off S w w') (hS : ¬ S g) : Blk w' g cs t := (ho.block g h.lt hS).trans h
theorem Blk.set {w : World} {g j : Nat} {cs : Array Value} {t : TypeId} (h : Blk w g cs t) (v : Value) : Blk (w.setCell ⟨g, j, none⟩ v) g (cs.setIfInBounds j v) t := heap_setCell_same w g j _ _ _ h
theorem Blk.far {w : World} {g g2 j : Nat} {cs : Array Value} {t : TypeId} (h : Blk w g cs t) (hne : g ≠ g2) (v : Value) : Blk (w.setCell ⟨g2, j, none⟩ v) g cs t := (Below.heap_setCell w ⟨g2, j, none⟩ v g hne).trans h
/-- the map of a disk -/
def Map9 (w : World) (m : Option Nat) (ps : List (Fil × Value)) : Prop :=
  match m with
  | none => ps = []
  | some b => w.ownsMap Try.prog 9 RH b ps.length (DD ps)
theorem blk_ne_map {w : World} {g n : Nat} {cs : Array Value} {t k : TypeId} {D : DataW Value} {P : Program} {R : Value → Option (DataW Value × List MemPlace)} (h : Blk w g cs t) (ho : w.ownsMap P k R g n D) : False := by
  obtain ⟨es, clock, hb, _⟩ := ho
  unfold Blk at h
  rw [h] at hb; cases hb
theorem Map9.off {S : Nat → Prop} {w w' : World} {m : Option Nat} {ps : List (Fil × Value)} (h : Map9 w m ps) (ho : Off S w w') (hS : ∀ b, m = some b → ¬ S b) : Map9 w' m ps := by
  cases m with
  | none => exact h
  | some b => exact ho.map h (hS b rfl)
theorem Map9.below {w w' : World} {m : Option Nat} {ps : List (Fil × Value)} (h : Map9 w m ps) (hb : Below w.heap.size w w') : Map9 w' m ps := h.off (Off.of_below (S := fun _ => False) hb) fun _ _ h => h
theorem Try.lawStr9 : Maps.Keyed Try.prog 9 := Maps.string_keyed Try.underlying9
theorem key9 {n : ByteArray} (h : n.size ≤ maxLen) : keyOf Try.prog 9 (.string n) = some (.string n.data.toList) := WideMaps.keyOf_string_mk Try.underlying9 h
/-- what a file's cells hold -/
def fileV (p : Fil × Value) : Value := .agg #[p.2, .int .i64 ((p.1.fast : Nat) : Int), .bool p.1.there]
/-- what the map answers of a name: files that are not there read as nought -/
def lookV (n : ByteArray) (ps : List (Fil × Value)) : Value := match ps.find? (fun p => decide (p.1.name = n)) with
  | some p => fileV p
  | none => .agg #[.slice none 0 0, .int .i64 0, .bool false]
end Go.Proofs.Ytmmlkfkepncpgaa
/-
  Entries in memory: rows that read as entries, rows of entries of one's own; appends onto these; what is cleared behind them.
  There are no conditions beyond those that each lemma names.
-/
set_option linter.unusedSimpArgs false
set_option linter.unusedVariables false
namespace Go.Proofs.Ytmmlkfkepncpgaa
open Go.RowKit Go.Deep
set_option maxRecDepth 100000

def Ent.cs (e : Ent) : List Value := [.int .i64 e.ix, .int .i64 e.et, .int .i64 e.kd, .string e.data]
theorem ents_len (L : List Ent) : (L.flatMap Ent.cs).length = L.length * 4 := by
  induction L with
  | nil => rfl
  | cons x t ih =>
    have h3 : (Ent.cs x).length = 4 := rfl
    rw [List.flatMap_cons, List.length_append, ih, h3, List.length_cons]; omega
theorem ent_one (e : Ent) : ∀ v ∈ e.cs, v.oneCell' = true := by
  intro v hv
  simp only [Ent.cs, List.mem_cons, List.not_mem_nil, or_false] at hv
  rcases hv with rfl | rfl | rfl | rfl <;> rfl
theorem ents_one (L : List Ent) : ∀ v ∈ L.flatMap Ent.cs, v.oneCell' = true := by
  intro v hv
  obtain ⟨e, _, he⟩ := List.mem_flatMap.1 hv
  exact ent_one e v he
theorem eflat_at : ∀ (L : List Ent) (k : Nat) (h : k < L.length) (j : Nat) (v : Value), (Ent.cs L[k])[j]? = some v → (L.flatMap Ent.cs)[k * 4 + j]? = some v
  | x :: t, 0, _, j, v, hv => by
    have hj : j < (Ent.cs x).length := (List.getElem?_eq_some_iff.1 hv).1
    rw [List.flatMap_cons, Nat.zero_mul, Nat.zero_add, List.getElem?_append_left hj]; exact hv
  | x :: t, k + 1, h, j, v, hv => by
    have h3 : (Ent.cs x).length = 4 := rfl
    rw [List.flatMap_cons, List.getElem?_append_right (by omega), h3, show (k + 1) * 4 + j - 4 = k * 4 + j by omega]
    exact eflat_at t k (by simpa using h) j v hv
/-- a slice that reads as entries, in a block of which N holds -/
def Ens (N : Nat → Prop) (w : World) (v : Value) (L : List Ent) : Prop :=
  ∃ A c, v = .slice A L.length c ∧ L.length ≤ c ∧ (0 < L.length → ∃ g o, A = some ⟨g, o, Option.none⟩ ∧ N g ∧ ∀ k (h : k < L.length), w.rangeAt g (o + k * 4) L[k].cs)
theorem Ens.slice {N : Nat → Prop} {w : World} {v : Value} {L : List Ent} (h : Ens N w v L) : ∃ A c, v = .slice A L.length c ∧ L.length ≤ c := by
  obtain ⟨A, c, h1, h2, _⟩ := h; exact ⟨A, c, h1, h2⟩
theorem Ens.nil (N : Nat → Prop) (w : World) : Ens N w (.slice none 0 0) [] := ⟨none, 0, rfl, Nat.le_refl _, fun h => absurd h (by simp)⟩
theorem Ens.keep {N : Nat → Prop} {w w' : World} {v : Value} {L : List Ent} (h : Ens N w v L) (hk : ∀ p : Addr, N p.block → p.block < w.heap.size → w'.cell? p = w.cell? p) : Ens N w' v L := by
  obtain ⟨A, c, h1, h2, h3⟩ := h
  refine ⟨A, c, h1, h2, fun h => ?_⟩
  obtain ⟨g, o, hA, hN, hc⟩ := h3 h
  refine ⟨g, o, hA, hN, fun k hk' j z hj => ?_⟩
  have := hc k hk' j z hj
  rw [← this]
  exact hk _ hN (cell_lt this)
theorem Ens.mono {N M : Nat → Prop} {w : World} {v : Value} {L : List Ent} (h : Ens N w v L) (hM : ∀ g, N g → g < w.heap.size → M g) : Ens M w v L := by
  obtain ⟨A, c, h1, h2, h3⟩ := h
  refine ⟨A, c, h1, h2, fun h => ?_⟩
  obtain ⟨g, o, hA, hN, hc⟩ := h3 h
  refine ⟨g, o, hA, hM g hN ?_, hc⟩
  exact cell_lt (hc 0 h 0 _ rfl)
theorem Ens.below {N : Nat → Prop} {w w' : World} {v : Value} {L : List Ent} (h : Ens N w v L) (hb : Below w.heap.size w w') : Ens N w' v L := h.keep fun _ _ hp => hb.cell hp
theorem Ens.under {B C : Nat} {w w' : World} {v : Value} {L : List Ent} (h : Ens (fun g => g < B) w v L) (hb : Below C w w') (hC : B ≤ C) : Ens (fun g => g < B) w' v L := h.keep fun _ hp _ => hb.cell (Nat.lt_of_lt_of_le hp hC)
theorem Ens.off {S : Nat → Prop} {w w' : World} {v : Value} {L : List Ent} (h : Ens (fun g => ¬ S g) w v L) (ho : Off S w w') : Ens (fun g => ¬ S g) w' v L := h.keep fun _ hp hl => ho.cell hl hp
theorem Ens.at_ {N : Nat → Prop} {w : World} {n c : Nat} {A : Option Addr} {L : List Ent} (h : Ens N w (.slice A n c) L) (k : Nat) (hk : k < L.length) : ∃ g o, A = some ⟨g, o, Option.none⟩ ∧ N g ∧ g < w.heap.size ∧ w.rangeAt g (o + k * 4) L[k].cs := by
  obtain ⟨A', c', h1, _, h3⟩ := h
  injection h1 with e1 e2 e3
  subst e1
  obtain ⟨g, o, hA, hN, hc⟩ := h3 (by omega)
  exact ⟨g, o, hA, hN, cell_lt (hc k hk 0 _ rfl), hc k hk⟩
theorem Ens.len {N : Nat → Prop} {w : World} {n c : Nat} {A : Option Addr} {L : List Ent} (h : Ens N w (.slice A n c) L) : n = L.length ∧ n ≤ c := by
  obtain ⟨A', c', h1, h2, _⟩ := h
  injection h1 with e1 e2 e3
  subst e2; subst e3
  exact ⟨rfl, h2⟩
theorem Ens.take {N : Nat → Prop} {w : World} {n c : Nat} {A : Option Addr} {L : List Ent} (h : Ens N w (.slice A n c) L) (j : Nat) (hj : j ≤ L.length) : Ens N w (.slice A j c) (L.take j) := by
  obtain ⟨A', c', h1, h2, h3⟩ := h
  injection h1 with e1 e2 e3
  subst e1; subst e3
  have hl : (L.take j).length = j := by rw [List.length_take]; omega
  refine ⟨A, c, by rw [hl], by omega, fun h0 => ?_⟩
  rw [hl] at h0
  obtain ⟨g, o, hA, hN, hc⟩ := h3 (by omega)
  refine ⟨g, o, hA, hN, fun k hk => ?_⟩
  rw [hl] at hk
  rw [List.getElem_take]
  exact hc k (by omega)
/-- the part from j on -/
theorem Ens.drop {N : Nat → Prop} {w : World} {n c : Nat} {A : Option Addr} {L : List Ent} (h : Ens N w (.slice A n c) L) (j : Nat) (hj : j ≤ L.length) : Ens N w (.slice (if c = j then A else A.map (·.add (j * 4))) (L.length - j) (c - j)) (L.drop j) := by
  obtain ⟨A', c', h1, h2, h3⟩ := h
  injection h1 with e1 e2 e3
  subst e1; subst e3
  have hl : (L.drop j).length = L.length - j := List.length_drop
  refine ⟨_, _, by rw [hl], by omega, fun h0 => ?_⟩
  rw [hl] at h0
  obtain ⟨g, o, hA, hN, hc⟩ := h3 (by omega)
  subst hA
  rw [if_neg (by omega)]
  refine ⟨g, o + j * 4, add_lit_10 g o (j * 4), hN, fun k hk => ?_⟩
  rw [hl] at hk
  rw [List.getElem_drop, show o + j * 4 + k * 4 = o + (j + k) * 4 by omega]
  exact hc (j + k) (by omega)
/-- a row of entries of one's own -/
def OwnEn (B : Nat) (v : Value) (L : List Ent) (w : World) : Prop := w.ownsRow B 51 4 v L.length (L.flatMap Ent.cs)
theorem OwnEn.nil (B : Nat) (w : World) : OwnEn B (.slice none 0 0) [] w := World.ownsRow_nil _ _ _ _
theorem OwnEn.below {B : Nat} {v : Value} {L : List Ent} {w w' : World} (h : OwnEn B v L w) (hb : Below w.heap.size w w') : OwnEn B v L w' := ownsRow_below h hb
theorem OwnEn.down {B C : Nat} {v : Value} {L : List Ent} {w : World} (h : OwnEn C v L w) (hB : B ≤ C) : OwnEn B v L w := ownsRow_down h hB
theorem OwnEn.slice {B : Nat} {v : Value} {L : List Ent} {w : World} (h : OwnEn B v L w) : ∃ A c, v = .slice A L.length c := own_slice h
theorem OwnEn.lt {B : Nat} {v : Value} {L : List Ent} {w : World} (h : OwnEn B v L w) : ∀ k, v.ownBlock = some k → B ≤ k ∧ k < w.heap.size := World.ownsRow.lt h
theorem OwnEn.off {S : Nat → Prop} {w w' : World} {B : Nat} {v : Value} {L : List Ent} (h : OwnEn B v L w) (ho : Off S w w') (hS : ∀ k, v.ownBlock = some k → ¬ S k) : OwnEn B v L w' := ho.ownsRow h hS
theorem Ens.of_own {B : Nat} {v : Value} {L : List Ent} {w : World} (h : OwnEn B v L w) : Ens (fun g => v.ownBlock = some g) w v L := by
  have hlt := OwnEn.lt h
  obtain ⟨A, c, rfl⟩ := h.slice
  have hc := fun (g : Nat) (hg : (Value.slice A L.length c).ownBlock = some g) => World.ownsRow.cells h hg
  rcases h.2 with ⟨hv, h0⟩ | ⟨g, c', cur, hv, hB, _, hnc, _⟩
  · injection hv with e1 e2 e3
    subst e1
    exact ⟨none, c, rfl, by omega, fun h => absurd h (by omega)⟩
  · injection hv with e1 _ e3
    subst e1; subst e3
    refine ⟨_, _, rfl, hnc, fun _ => ⟨g, 0, rfl, rfl, fun k hk j z hj => ?_⟩⟩
    have h3 := hc g rfl (k * 4 + j) z (eflat_at L k hk j z hj)
    rw [Addr.add_mid] at h3
    rw [← h3]; congr 2; omega
theorem eflat_take (L : List Ent) (j : Nat) : (L.take j).flatMap Ent.cs = (L.flatMap Ent.cs).take (j * 4) := by
  induction L generalizing j with
  | nil => simp
  | cons x t ih =>
    cases j with
    | zero => simp
    | succ j =>
      have h3 : (Ent.cs x).length = 4 := rfl
      rw [List.take_succ_cons, List.flatMap_cons, List.flatMap_cons, ih j, List.take_append (i := (j + 1) * 4), List.take_of_length_le (l := x.cs) (by omega)]
      congr 2; rw [h3]; omega
/-- the beginning of a row of one's own -/
theorem OwnEn.take {B n c j : Nat} {A : Option Addr} {L : List Ent} {w : World} (h : OwnEn B (.slice A n c) L w) (hj : j ≤ L.length) : OwnEn B (.slice A j c) (L.take j) w := by
  have hl : (L.take j).length = j := by rw [List.length_take]; omega
  refine ⟨by rw [ents_len], ?_⟩
  rw [hl, eflat_take]
  rcases h.2 with ⟨hv, h0⟩ | ⟨g, c', cur, hv, hB, hg, hnc, hm, hs, hx⟩
  · injection hv with e1 e2 e3
    subst e1; subst e2; subst e3
    exact .inl ⟨by rw [show j = 0 by omega], by omega⟩
  · injection hv with e1 e2 e3
    subst e1; subst e2; subst e3
    refine .inr ⟨g, c, cur, rfl, hB, hg, by omega, hm, hs, ?_⟩
    rw [← hx, List.take_take, Nat.min_eq_left (by omega)]
theorem Try.infoEn : (Try.prog.info? 51).map (fun i => (i.zero, i.size, i.bytes)) = some (some (.agg #[.int .i64 0, .int .i64 0, .int .i64 0, .string ⟨#[]⟩]), 4, 40) := by kernel_rfl
/-- entries appended onto a row of one's own -/
theorem run_append_En (w : World) (B : Nat) (v : Value) (L M : List Ent) (ty : TypeId) (a : Addr) (n c : Nat) (hown : OwnEn B v L w) (N : Nat → Prop) (hM : Ens N w (.slice (some a) n c) M) (hl : L.length + M.length ≤ 1050000) (hB : B ≤ w.heap.size) :
    ∃ v' w', (Builtin.append_ #[24, 24] ty #[v, .slice (some a) n c]).run Try.prog w = .ok v' w' ∧ OwnEn B v' (L ++ M) w' ∧ Grew v w v' w' ∧ Below B w w' := by
  obtain ⟨iO, hiO, hzO0, hzO1, hzO2⟩ := info_parts Try.infoEn
  obtain ⟨rfl, _⟩ := hM.len
  obtain ⟨A', c', hv, hc, hx⟩ := hM
  injection hv with e1 _ e3
  subst e1; subst e3
  have hlm := ents_len M
  have hgr := fun (w' : World) (hg : w.grownBy w' v.ownBlock) => (Below.refl B w).grown hg hB (fun g hg => (World.ownsRow.lt hown g hg).1)
  obtain ⟨v', w', hr, h2, h3, _, h5⟩ := run_append_own_at (P := Try.prog) w B 24 ty 51 iO _ 4 40 Try.underlying24 hiO hzO0 hzO1 hzO2 rfl (by decide) v L.length _ hown a M.length c (M.flatMap Ent.cs) hlm
    (by
      intro j z hj
      have hjl : j < M.length * 4 := by rw [← hlm]; exact (List.getElem?_eq_some_iff.1 hj).1
      have hq : j / 4 < M.length := by omega
      obtain ⟨g, o, e1, _, hcs⟩ := hx (by omega)
      injection e1 with e1
      subst e1
      have hm : (Ent.cs M[j / 4])[j % 4]? = some z := by
        have hlt : j % 4 < (Ent.cs M[j / 4]).length := by show j % 4 < 4; omega
        have := eflat_at M (j / 4) hq (j % 4) _ (List.getElem?_eq_getElem hlt)
        rw [show j / 4 * 4 + j % 4 = j by omega, hj] at this
        rw [List.getElem?_eq_getElem hlt]; exact this.symm
      have := hcs (j / 4) hq (j % 4) z hm
      rw [Addr.add_mid, ← this]
      congr 2; omega) (ents_one M) (by unfold maxLen; omega) (by omega) hB
  refine ⟨v', w', hr, ?_, ⟨h3, h5⟩, hgr w' h3⟩
  unfold OwnEn
  rw [List.length_append, List.flatMap_append]
  exact h2
theorem Ens.four {N : Nat → Prop} {w : World} {n c : Nat} {A : Option Addr} {L : List Ent} (h : Ens N w (.slice A n c) L) (k : Nat) (hk : k < L.length) {ix et kd : Int} {dt : ByteArray} (he : L[k] = ⟨ix, et, kd, dt⟩) : ∃ g o, A = some ⟨g, o, Option.none⟩ ∧ g < w.heap.size ∧
    w.cell? ⟨g, o + k * 4, none⟩ = some (.int .i64 ix) ∧ w.cell? ⟨g, o + k * 4 + 1, none⟩ = some (.int .i64 et) ∧ w.cell? ⟨g, o + k * 4 + 2, none⟩ = some (.int .i64 kd) ∧ w.cell? ⟨g, o + k * 4 + 3, none⟩ = some (.string dt) := by
  obtain ⟨g, o, hA, _, hl, hr⟩ := h.at_ k hk
  rw [he] at hr
  exact ⟨g, o, hA, hl, hr 0 _ rfl, hr 1 _ rfl, hr 2 _ rfl, hr 3 _ rfl⟩
theorem OwnEn.set_same {B n c k : Nat} {g : Nat} {L : List Ent} {w : World} {dt : ByteArray} (h : OwnEn B (.slice (some ⟨g, 0, none⟩) n c) L w) (hk : k < L.length) (hd : L[k].data = dt) : OwnEn B (.slice (some ⟨g, 0, none⟩) n c) L (w.setCell ⟨g, k * 4 + 3, none⟩ (.string dt)) := by
  refine ⟨h.1, ?_⟩
  rcases h.2 with ⟨hv, _⟩ | ⟨g', c', cur, hv, hB, hg, h1, h2, h3, h4⟩
  · cases hv
  · injection hv with e1 e2 e3
    injection e1 with e1; injection e1 with e1
    subst e1; subst e3; subst e2
    have hf := eflat_at L k hk 3 (.string dt) (by rw [← hd]; rfl)
    have hcur : cur.toList[k * 4 + 3]? = some (.string dt) := by
      have h5 := List.getElem?_take (l := cur.toList) (i := L.length * 4) (j := k * 4 + 3)
      rw [h4, if_pos (by omega)] at h5
      rw [← h5]; exact hf
    have hs : cur.setIfInBounds (k * 4 + 3) (.string dt) = cur := by
      apply Array.ext_getElem?
      intro i
      rw [Array.getElem?_setIfInBounds]
      split
      · rename_i he
        subst he
        rw [Array.getElem?_toList] at hcur
        split
        · exact hcur.symm
        · rename_i hx
          rw [Array.getElem?_eq_none (by omega)] at hcur; cases hcur
      · rfl
    refine .inr ⟨g, c, cur, rfl, hB, ?_, h1, h2, h3, h4⟩
    have := heap_setCell_same w g (k * 4 + 3) _ _ (.string dt) hg
    rw [hs] at this; exact this
theorem own_ne11 {T : TypeId} {g B : Nat} {cs : List Value} {v : Value} {L : List Ent} {w : World} (hT : T ≠ 51) (hx : Rt w g T cs) (hO : OwnEn B v L w) : v.ownBlock ≠ some g := by
  intro h
  rcases hO.2 with ⟨hv, _⟩ | ⟨g', c', cur, hv, _, hg, _⟩
  · rw [hv] at h; cases h
  · rw [hv] at h
    have e : g' = g := Option.some.inj (show some g' = some g from h)
    subst e
    unfold Rt at hx
    rw [hx] at hg
    injection hg with hg
    injection hg with _ h4 _
    exact hT h4
theorem Rt.grown11 {w w' : World} {g : Nat} {r : Option Nat} {t : TypeId} {cs : List Value} (h : Rt w g t cs) (hb : w.grownBy w' r) (hne : r ≠ some g) : Rt w' g t cs := (hb.block g h.lt (fun e => hne e.symm)).trans h
end Go.Proofs.Ytmmlkfkepncpgaa
/-
  slices.Clone, Insert and Replace on rows of entries.
  There are no conditions beyond those that each lemma names.
-/
set_option linter.unusedSimpArgs false
set_option linter.unusedVariables false
namespace Go.Proofs.Ytmmlkfkepncpgaa
open Go.RowKit Go.Deep
set_option maxRecDepth 100000

theorem append_En {w : World} {ops : Array Oper} {rest : List Oper} {o : Oper} {a : Act} {Q : Exit → Act → World → Prop} (hgd : o.guard = none) (s x : Operand)
    (ho : o.op = .call { callee := .builtin .append, args := #[s, x], argTypes := #[24, 24] })
    (B : Nat) (v : Value) (L M : List Ent) (p : Addr) (n c : Nat) (N : Nat → Prop) (hs : a.eval s = v) (hown : OwnEn B v L w) (hx : a.eval x = .slice (some p) n c) (hM : Ens N w (.slice (some p) n c) M) (hl : L.length + M.length ≤ 1050000) (hB : B ≤ w.heap.size)
    (h : ∀ v' w', OwnEn B v' (L ++ M) w' → Grew v w v' w' → Below B w w' → wpList Try.prog ops Q rest (a.put o.dst v') w') : wpList Try.prog ops Q (o :: rest) a w := by
  refine wpList_plain hgd fun K hK => ?_
  obtain ⟨v', w', hr, h1, h2, h3⟩ := run_append_En w B v L M o.type p n c hown N hM hl hB
  unfold Oper.wp execOp
  simp only [ho, resolve, invoke, builtin, Sem.run_bind, Sem.run_pure, Result.andThen_ok, List.map_toArray, List.map_cons, List.map_nil, hs, hx, hr]
  exact hK _ _ (h v' w' h1 h2 h3)
theorem Try.zeroEn (w : World) : (zeroValue 51).run Try.prog w = .ok (.agg #[.int .i64 0, .int .i64 0, .int .i64 0, .string ⟨#[]⟩]) w := by kernel_rfl
theorem zcells_len (n : Nat) : (Builtin.zeroCells (Value.agg #[.int .i64 0, .int .i64 0, .int .i64 0, .string ⟨#[]⟩]).cells n).toList.length = n * 4 := by
  rw [Array.length_toList, size_zeroCells]; rfl
theorem zcells_one (n : Nat) : ∀ z ∈ (Builtin.zeroCells (Value.agg #[.int .i64 0, .int .i64 0, .int .i64 0, .string ⟨#[]⟩]).cells n).toList, z.oneCell' = true := by
  intro z hz
  rw [Array.mem_toList_iff] at hz
  unfold Builtin.zeroCells at hz
  obtain ⟨i, _, rfl⟩ := Array.mem_map.1 hz
  have h4 : (Value.agg #[.int .i64 0, .int .i64 0, .int .i64 0, .string ⟨#[]⟩]).cells = #[.int .i64 0, .int .i64 0, .int .i64 0, .string ⟨#[]⟩] := by kernel_rfl
  rw [h4]
  have : i % (#[Value.int .i64 0, .int .i64 0, .int .i64 0, .string ⟨#[]⟩] : Array Value).size < 4 := Nat.mod_lt _ (by decide)
  obtain ⟨j, hj⟩ : ∃ j, i % (#[Value.int .i64 0, .int .i64 0, .int .i64 0, .string ⟨#[]⟩] : Array Value).size = j := ⟨_, rfl⟩
  rw [hj] at this ⊢
  match j, this with
  | 0, _ => rfl
  | 1, _ => rfl
  | 2, _ => rfl
  | 3, _ => rfl
/-- clear on a row of entries -/
theorem run_clear_En (w : World) (g o m c : Nat) (hm : 0 < m) (hc : ∀ j, j < m * 4 → (w.cell? ⟨g, o + j, none⟩).isSome = true) (hf : ∀ j, j < m * 4 → w.frozen? ⟨g, o + j, none⟩ = false) :
    ∃ zs : List Value, zs.length = m * 4 ∧ ∀ ty, (Builtin.clear_ #[24] ty #[.slice (some ⟨g, o, none⟩) m c]).run Try.prog w = .ok (.tuple #[]) (w.setCells g o zs) := by
  refine ⟨_, zcells_len m, fun ty => ?_⟩
  have hst := run_storeCells_cells (P := Try.prog) g o (Builtin.zeroCells (Value.agg #[.int .i64 0, .int .i64 0, .int .i64 0, .string ⟨#[]⟩]).cells m).toList 0 w (by rw [zcells_len]; simpa using hc) (by rw [zcells_len]; simpa using hf) (zcells_one m)
  simp only [Nat.add_zero] at hst
  obtain ⟨k, rfl⟩ : ∃ k, m = k + 1 := ⟨m - 1, by omega⟩
  simp [Builtin.clear_, run_underlying Try.underlying24, Try.zeroEn, hst]
/-- what stands ahead of cells that are stored stands -/
theorem own_clear {w : World} {B j c o g : Nat} {L : List Ent} {zs : List Value} (h : OwnEn B (.slice (some ⟨g, 0, none⟩) j c) L w) (ho : L.length * 4 ≤ o) : OwnEn B (.slice (some ⟨g, 0, none⟩) j c) L (w.setCells g o zs) := by
  have key : ∀ (zs : List Value) (o : Nat) (w : World), OwnEn B (.slice (some ⟨g, 0, none⟩) j c) L w → L.length * 4 ≤ o → OwnEn B (.slice (some ⟨g, 0, none⟩) j c) L (w.setCells g o zs) := by
    intro zs
    induction zs with
    | nil => intro o w h _; exact h
    | cons z t ih =>
      intro o w h ho
      refine ih (o + 1) _ ?_ (by omega)
      refine ⟨h.1, ?_⟩
      rcases h.2 with ⟨hv, _⟩ | ⟨g', c', cur, hv, hB, hg, h1, h2, h3, h4⟩
      · cases hv
      · injection hv with e1 e2 e3
        injection e1 with e1; injection e1 with e1
        subst e1; subst e3
        refine .inr ⟨g, c, cur.setIfInBounds o z, by rw [e2], hB, heap_setCell_same w g o _ _ _ hg, h1, h2, by simpa using h3, ?_⟩
        rw [Array.toList_setIfInBounds, List.take_set, List.set_eq_of_length_le (by rw [List.length_take]; omega)]
        exact h4
  exact key zs o w h ho
theorem below_setCells11 {B g : Nat} (hg : B ≤ g) : ∀ (vs : List Value) (o : Nat) (w : World), Below B w (w.setCells g o vs)
  | [], _, w => Below.refl _ _
  | v :: r, o, w => ((Below.refl B w).setCell (p := ⟨g, o, none⟩) hg v).trans (below_setCells11 hg r (o + 1) _)
theorem grown_setCells11 {g : Nat} : ∀ (vs : List Value) (o : Nat) (w : World), w.grownBy (w.setCells g o vs) (some g)
  | [], _, w => ⟨rfl, rfl, rfl, Nat.le_refl _, fun _ _ _ => rfl⟩
  | v :: r, o, w => grown_trans10 (setCell_grown w ⟨g, o, none⟩ v) (grown_setCells11 r (o + 1) _)
set_option maxHeartbeats 400000 in
theorem kclone_any (N : Nat → Prop) (A : Option Addr) (n c : Nat) (L : List Ent) (w : World) (h : Ens N w (.slice A n c) L) (hl : L.length ≤ 1050000) :
    Calls Try.prog 53 #[.slice A n c] w fun e w' => ∃ v, e = .returned v ∧ OwnEn w.heap.size v L w' ∧ Below w.heap.size w w' := by
  have k0 := fun w => Lib.run_eql_slice_nil (P := Try.prog) w 24 51 A n c 0 0 Try.underlying24
  cases A with
  | none =>
    have hL : L = [] := by
      cases L with
      | nil => rfl
      | cons x t => obtain ⟨g, o, e, _⟩ := h.at_ 0 (by simp); cases e
    subst hL
    go_enter Try.func53, Try.ntmps53
    go_wp2
    go_ret
    exact ⟨_, rfl, OwnEn.nil _ _, Below.refl _ _⟩
  | some a =>
    have h1 := h.below (below_new w (.cells #[] 51))
    have hO : OwnEn w.heap.size (.slice (some ⟨w.heap.size, 0, none⟩) 0 0) [] (w.alloc (.cells #[] 51)) := ⟨rfl, .inr ⟨w.heap.size, 0, #[], rfl, Nat.le_refl _, heap_alloc_new _ _, Nat.le_refl _, Nat.zero_le _, rfl, rfl⟩⟩
    have hB := below_new w (.cells #[] 51)
    have H1 := Lib.hid h1
    have HO := Lib.hid hO
    clear h1 hO h
    go_enter Try.func53, Try.ntmps53
    go_wp2_with (at_builtin; refine append_En rfl _ _ rfl w.heap.size _ _ _ _ _ _ _ rfl HO.out rfl H1.out (by simpa using hl) hB.size ?_; intro v' w' g1 g2 g3)
    go_ret
    exact ⟨_, rfl, g1, hB.trans g3⟩
/-- what came of writing onto a row of one's own -/
def Rew (v : Value) (L : List Ent) (w : World) (e : Ending) (w' : World) : Prop := ∃ v', e = .returned v' ∧ OwnEn 0 v' L w' ∧ Grew v w v' w'
theorem Grew.refl (v : Value) (w : World) : Grew v w v w := ⟨grownBy_refl w _, .inl rfl⟩
set_option maxHeartbeats 400000 in
/-- Insert at the end -/
theorem kinsert_any (N : Nat → Prop) (A : Option Addr) (n c m d : Nat) (a : Addr) (L M : List Ent) (w : World) (hL : OwnEn 0 (.slice A n c) L w) (hM : Ens N w (.slice (some a) m d) M) (h0 : 0 < m) (hl : L.length + M.length ≤ 1050000) :
    Calls Try.prog 59 #[.slice A n c, .int .i64 n, .slice (some a) m d] w (Rew (.slice A n c) (L ++ M) w) := by
  have hn : n ≤ c := (Ens.of_own hL).len.2
  have H1 := Lib.hid hM
  have HO := Lib.hid hL
  have HL := Lib.hid hl
  have hx : ¬ m = 0 := by omega
  clear hM hL hl
  go_enter Try.func59, Try.ntmps59
  by_cases hcn : c = n
  · subst hcn
    go_wp2_with (at_builtin; refine append_En rfl _ _ rfl 0 (.slice A c c) _ _ _ _ _ _ rfl HO.out rfl H1.out HL.out (Nat.zero_le _) ?_; intro v' w' g1 g2 g3)
    go_ret
    exact ⟨v', rfl, g1, g2⟩
  · go_wp2_with (at_builtin; refine append_En rfl _ _ rfl 0 (.slice A n c) _ _ _ _ _ _ rfl HO.out rfl H1.out HL.out (Nat.zero_le _) ?_; intro v' w' g1 g2 g3)
    go_ret
    exact ⟨v', rfl, g1, g2⟩
theorem En.news {N : Nat → Prop} {w : World} {a : Addr} {n c : Nat} {M : List Ent} (hM : Ens N w (.slice (some a) n c) M) : ∀ j u, (M.flatMap Ent.cs)[j]? = some u → w.cell? (a.add j) = some u := by
  have hlm := ents_len M
  intro j z hj
  have hjl : j < M.length * 4 := by rw [← hlm]; exact (List.getElem?_eq_some_iff.1 hj).1
  have hq : j / 4 < M.length := by omega
  obtain ⟨g, o, e1, _, _, hcs⟩ := hM.at_ (j / 4) hq
  injection e1 with e1
  subst e1
  have hm : (Ent.cs M[j / 4])[j % 4]? = some z := by
    have hlt : j % 4 < (Ent.cs M[j / 4]).length := by show j % 4 < 4; omega
    have := eflat_at M (j / 4) hq (j % 4) _ (List.getElem?_eq_getElem hlt)
    rw [show j / 4 * 4 + j % 4 = j by omega, hj] at this
    rw [List.getElem?_eq_getElem hlt]; exact this.symm
  have := hcs (j % 4) z hm
  rw [Addr.add_mid, ← this]
  congr 2; omega
/-- entries appended where there is room -/
theorem append_fits_En {w : World} {ops : Array Oper} {rest : List Oper} {o : Oper} {a : Act} {Q : Exit → Act → World → Prop} (hgd : o.guard = none) (s x : Operand)
    (ho : o.op = .call { callee := .builtin .append, args := #[s, x], argTypes := #[24, 24] })
    (g i cap : Nat) (L M : List Ent) (p : Addr) (m c : Nat) (N : Nat → Prop) (hs : a.eval s = .slice (some ⟨g, 0, none⟩) i cap) (hown : OwnEn 0 (.slice (some ⟨g, 0, none⟩) i cap) L w) (hx : a.eval x = .slice (some p) m c) (hM : Ens N w (.slice (some p) m c) M) (hl : i + m ≤ cap)
    (h : ∀ w', OwnEn 0 (.slice (some ⟨g, 0, none⟩) (i + m) cap) (L ++ M) w' → w.grownBy w' (some g) → wpList Try.prog ops Q rest (a.put o.dst (.slice (some ⟨g, 0, none⟩) (i + m) cap)) w') : wpList Try.prog ops Q (o :: rest) a w := by
  refine wpList_plain hgd fun K hK => ?_
  obtain ⟨iO, hiO, hzO0, hzO1, hzO2⟩ := info_parts Try.infoEn
  have h1 := (Ens.of_own hown).len.1
  have h2 := hM.len.1
  have hown' : w.ownsRow 0 51 4 (.slice (some ⟨g, 0, none⟩) i cap) i (L.flatMap Ent.cs) := by rw [h1] at hown ⊢; exact hown
  obtain ⟨w', hr, g1, g2⟩ := run_append_fits (P := Try.prog) w 0 24 o.type 51 iO 4 Try.underlying24 hiO hzO1 g i cap _ hown' p m c (M.flatMap Ent.cs) (by rw [ents_len, h2]) (En.news hM) (ents_one M) hl
  unfold Oper.wp execOp
  simp only [ho, resolve, invoke, builtin, Sem.run_bind, Sem.run_pure, Result.andThen_ok, List.map_toArray, List.map_cons, List.map_nil, hs, hx, hr]
  refine hK _ _ (h w' ?_ g2)
  unfold OwnEn
  rw [List.length_append, List.flatMap_append, ← h1, ← h2]
  exact g1
theorem OwnEn.cells {B g i cap : Nat} {L : List Ent} {w : World} (h : OwnEn B (.slice (some ⟨g, 0, none⟩) i cap) L w) : (∀ j, j < cap * 4 → (w.cell? ⟨g, j, none⟩).isSome = true) ∧ ∀ j, w.frozen? ⟨g, j, none⟩ = false := by
  rcases h.2 with ⟨hv, _⟩ | ⟨g', c', cur, hv, hB, hg, h1, h2, h3, h4⟩
  · cases hv
  · injection hv with e1 e2 e3
    injection e1 with e1; injection e1 with e1
    subst e1; subst e3
    refine ⟨fun j hj => ?_, fun j => frozen_of_row w g j _ _ hg⟩
    rw [cell_of_row w g j _ _ _ hg, Array.getElem?_eq_getElem (by omega)]; rfl
set_option maxHeartbeats 400000 in
/-- Replace of all from i on -/
theorem kreplace_any (N : Nat → Prop) (A : Option Addr) (i n c m d : Nat) (a : Addr) (L M : List Ent) (w : World) (hL : OwnEn 0 (.slice A n c) L w) (hM : Ens N w (.slice (some a) m d) M) (h0 : 0 < m) (hi : i ≤ n) (hl : L.length + M.length ≤ 1050000) :
    Calls Try.prog 54 #[.slice A n c, .int .i64 i, .int .i64 n, .slice (some a) m d] w (Rew (.slice A n c) (L.take i ++ M) w) := by
  have hn : n ≤ c := (Ens.of_own hL).len.2
  have hnL : n = L.length := (Ens.of_own hL).len.1
  have hmM : m = M.length := hM.len.1
  have hx : ¬ m = 0 := by omega
  by_cases hin : i = n
  · subst hin
    have ht : L.take i = L := by rw [hnL, List.take_length]
    rw [ht]
    have H1 := Lib.hid hM
    have HO := Lib.hid hL
    have HL := Lib.hid hl
    clear hM hL ht hnL hl hi hmM
    go_enter Try.func54, Try.ntmps54
    by_cases hci : c = i
    · subst hci
      go_wp2_with fail
      refine (kinsert_any N A c c m d a L M w HO.out H1.out h0 HL.out).mono ?_
      rintro e w1 ⟨v', rfl, g1, g2⟩
      go_wp2
      go_ret
      exact ⟨_, rfl, g1, g2⟩
    · go_wp2_with fail
      refine (kinsert_any N A i c m d a L M w HO.out H1.out h0 HL.out).mono ?_
      rintro e w1 ⟨v', rfl, g1, g2⟩
      go_wp2
      go_ret
      exact ⟨_, rfl, g1, g2⟩
  · have HT := Lib.hid (hL.take (j := i) (by omega))
    have H1 := Lib.hid hM
    have hlt : (L.take i).length = i := by rw [List.length_take]; omega
    have HLT := Lib.hid (show (L.take i).length + M.length ≤ 1050000 by omega)
    have hii : i < n := by omega
    have hbi : ((i : Int) == (n : Int)) = false := by simp; omega
    obtain ⟨g, rfl⟩ : ∃ g, A = some ⟨g, 0, Option.none⟩ := by
      rcases hL.2 with ⟨hv, h2⟩ | ⟨g', c', cur, hv, _⟩
      · omega
      · injection hv with e1 _ _
        exact ⟨g', e1⟩
    have hlq : (L.take i ++ M).length = i + m := by rw [List.length_append, hlt, hmM]
    by_cases hq : i + m < n
    · have HQ := Lib.hid hlq
      have hbq : decide (((i + m : Nat) : Int) < (n : Int)) = true := by simp; omega
      have hbc : ¬ c = i + m := by omega
      clear hM hL hlt hl hnL hlq hmM
      go_enter Try.func54, Try.ntmps54
      go_wp2_with (at_builtin; refine append_fits_En rfl _ _ rfl g i c _ _ _ _ _ _ rfl HT.out rfl H1.out (by omega) ?_; intro w' g1 g2; (have C := g1.cells); (obtain ⟨zs, hz, hcl⟩ := run_clear_En w' g ((i + m) * 4) (n - (i + m)) (c - (i + m)) (by omega) (fun j hj => C.1 _ (by omega)) (fun j _ => C.2 _)); clear C)
      go_ret
      exact ⟨_, rfl, own_clear g1 (by rw [HQ.out]; exact Nat.le_refl _), grown_trans10 g2 (grown_setCells11 _ _ _), .inl rfl⟩
    · have HQ := Lib.hid hlq
      have hq2 : n ≤ i + m := by omega
      have HMM := Lib.hid hmM
      clear hM hL hlt hl hnL hlq hmM
      go_enter Try.func54, Try.ntmps54
      go_wp2_with (at_builtin; refine append_En rfl _ _ rfl 0 (.slice (some ⟨g, 0, none⟩) i c) _ _ _ _ _ _ rfl HT.out rfl H1.out HLT.out (Nat.zero_le _) ?_; intro v' w' g1 g2 g3; (obtain ⟨A2, c2, e2⟩ := g1.slice); rw [HQ.out] at e2; subst e2)
      go_ret
      exact ⟨_, rfl, g1, g2⟩
end Go.Proofs.Ytmmlkfkepncpgaa
/-
  A function returns what the plain functions say: SClone.
-/
set_option linter.unusedSimpArgs false
set_option linter.unusedVariables false
namespace Go.Proofs.Ytmmlkfkepncpgaa
open Go.RowKit
set_option maxRecDepth 100000

theorem clone_any (s : ByteArray) (w : World) (hs : s.size ≤ 281474976710656) : Calls Try.prog 52 #[.string s] w fun e w' => e = .returned (.string s) ∧ Below w.heap.size w w' := by
  go_enter Try.func52, Try.ntmps52
  go_wp2_with (go_at_call 58; refine (Try.stringslite_Clone s w hs).mono ?_; rintro e w' ⟨rfl, hb⟩)
  go_ret
  exact ⟨rfl, hb⟩
end Go.Proofs.Ytmmlkfkepncpgaa
/-
  Package rlog's copies of a snapshot and of entries.
  The conditions: texts and rows have at most 1,050,000 bytes and entries.
-/
set_option linter.unusedSimpArgs false
set_option linter.unusedVariables false
namespace Go.Proofs.Ytmmlkfkepncpgaa
open Go.RowKit Go.Deep
set_option maxRecDepth 100000

set_option maxHeartbeats 400000 in
theorem lcopyS_any (ix st : Int) (cf dt : ByteArray) (w : World) (hc : cf.size ≤ 1050000) (hd : dt.size ≤ 1050000) :
    Calls Try.prog 36 #[.agg #[.int .i64 ix, .int .i64 st, .string cf, .string dt]] w fun e w' => e = .returned (.agg #[.int .i64 ix, .int .i64 st, .string cf, .string dt]) ∧ Below w.heap.size w w' := by
  go_enter Try.func36, Try.ntmps36
  go_wp2_with fail
  obtain ⟨b, hb⟩ : ∃ b, w.heap.size = b := ⟨_, rfl⟩
  obtain ⟨W, hW⟩ : ∃ W, (w.alloc (.cells #[.int .i64 ix, .int .i64 st, .string cf, .string dt] 23)).alloc (.cells #[.int .i64 0, .int .i64 0, .string ⟨#[]⟩, .string ⟨#[]⟩] 23) = W := ⟨_, rfl⟩
  have hbW : Below b w W := by rw [← hW, ← hb]; exact below_two _ _ _
  have hx : Rt W b 23 [.int .i64 ix, .int .i64 st, .string cf, .string dt] := by
    rw [← hW, ← hb]; exact Rt.below (Rt.new w _ _) (below_new _ _)
  have hy : Rt W (b + 1) 23 [.int .i64 0, .int .i64 0, .string ⟨#[]⟩, .string ⟨#[]⟩] := by
    rw [← hW, ← hb]; exact Rt.new_at _ _ _ _ (by simp)
  rw [hW, hb]
  clear hW
  refine (clone_any cf W (by omega)).mono ?_
  rintro e k1 ⟨rfl, hb1⟩
  have hx1 := hx.below hb1
  have hy1 := hy.below hb1
  have hB1 := hbW.trans (hb1.mono (Nat.le_trans (by omega) hbW.size))
  clear hx hy hbW hb1
  have c0 := hx1.cell (j := 2) rfl
  have c1 := hx1.cell (j := 3) rfl
  have f0 := hx1.frz 2
  go_wp2_with fail
  have hx2 := hx1.set 2 (.string cf)
  have hy2 := hy1.other (g' := b) 2 (.string cf) (by omega)
  obtain ⟨W2, hW2⟩ : ∃ W2, k1.setCell ⟨b, 2, none⟩ (.string cf) = W2 := ⟨_, rfl⟩
  have hB2 : Below b w W2 := by rw [← hW2]; exact hB1.setCell (Nat.le_refl _) _
  rw [hW2] at hx2 hy2 ⊢
  clear hW2 hx1 hy1 hB1 c0 c1 f0
  refine (clone_any dt W2 (by omega)).mono ?_
  rintro e k2 ⟨rfl, hb2⟩
  have hx3 := hx2.below hb2
  have hy3 := hy2.below hb2
  have hB3 := hB2.trans (hb2.mono (Nat.le_trans (by omega) hB2.size))
  clear hx2 hy2 hB2 hb2
  have c0 := hx3.cell (j := 0) rfl
  have c1 := hx3.cell (j := 1) rfl
  have c2 := hx3.cell (j := 2) rfl
  have c3 := hx3.cell (j := 3) rfl
  have f3 := hx3.frz 3
  have d0 := hy3.cell (j := 0) rfl
  have d1 := hy3.cell (j := 1) rfl
  have d2 := hy3.cell (j := 2) rfl
  have d3 := hy3.cell (j := 3) rfl
  have e0 := hy3.frz 0
  have e1 := hy3.frz 1
  have e2 := hy3.frz 2
  have e3 := hy3.frz 3
  have hB4 := ((((hB3.setCell (p := ⟨b, 3, none⟩) (Nat.le_refl b) (.string dt)).setCell (p := ⟨b + 1, 0, none⟩) (Nat.le_succ b) (.int .i64 ix)).setCell (p := ⟨b + 1, 1, none⟩) (Nat.le_succ b) (.int .i64 st)).setCell (p := ⟨b + 1, 2, none⟩) (Nat.le_succ b) (.string cf)).setCell (p := ⟨b + 1, 3, none⟩) (Nat.le_succ b) (.string dt)
  have hy4 := ((((hy3.other (g' := b) 3 (.string dt) (by omega)).set 0 (.int .i64 ix)).set 1 (.int .i64 st)).set 2 (.string cf)).set 3 (.string dt)
  obtain ⟨W4, hW4⟩ : ∃ W4, ((((k2.setCell ⟨b, 3, none⟩ (.string dt)).setCell ⟨b + 1, 0, none⟩ (.int .i64 ix)).setCell ⟨b + 1, 1, none⟩ (.int .i64 st)).setCell ⟨b + 1, 2, none⟩ (.string cf)).setCell ⟨b + 1, 3, none⟩ (.string dt) = W4 := ⟨_, rfl⟩
  rw [hW4] at hB4 hy4
  have g0 := hy4.cell (j := 0) rfl
  have g1 := hy4.cell (j := 1) rfl
  have g2 := hy4.cell (j := 2) rfl
  have g3 := hy4.cell (j := 3) rfl
  have HW4 := Lib.hid hW4
  clear hx3 hy3 hy4 hW4 hB3
  go_wp2
  rw [HW4.out]
  exact bodyPost_ret (v := .agg #[.int .i64 ix, .int .i64 st, .string cf, .string dt]) (by simp [results, Try.results36, go_sem, g0, g1, g2, g3]) rfl ⟨rfl, by rw [hb]; exact hB4⟩
set_option maxHeartbeats 400000 in
theorem lcopyE_any (N : Nat → Prop) (A : Option Addr) (n c : Nat) (L : List Ent) (w : World) (h : Ens N w (.slice A n c) L) (hl : L.length ≤ 1050000) (hd : ∀ e ∈ L, e.data.size ≤ 1050000) :
    Calls Try.prog 37 #[.slice A n c] w fun e w' => ∃ v, e = .returned v ∧ OwnEn w.heap.size v L w' ∧ Below w.heap.size w w' := by
  go_enter Try.func37, Try.ntmps37
  go_wp2_with fail
  refine (kclone_any N A n c L w h hl).mono ?_
  rintro e w1 ⟨v, rfl, hO, hB⟩
  obtain ⟨A1, c1, rfl⟩ := hO.slice
  obtain ⟨q, hq⟩ : ∃ q, L.length = q := ⟨_, rfl⟩
  rw [hq] at hO hl ⊢
  have HQ := Lib.hid hq
  clear hq h
  go_wp2_with fail
  go_loopw [10] (fun i wr => ∃ k : Nat, i = .int .i64 k ∧ k ≤ q ∧ OwnEn w.heap.size (.slice A1 q c1) L wr ∧ Below w.heap.size w wr) (fun i _ => q - (intOf i).toNat)
  case atStart => exact ⟨0, rfl, Nat.zero_le _, hO, hB⟩
  case round =>
    clear hO hB
    obtain ⟨k, rfl, hk, hO, hB⟩ := hrel
    by_cases hkn : k < q
    · have hkL : k < L.length := by rw [HQ.out]; exact hkn
      have hki : (k : Int) < (q : Int) := by omega
      obtain ⟨⟨xk, yk, zk, dk⟩, hxk⟩ : ∃ x, L[k] = x := ⟨_, rfl⟩
      obtain ⟨g, o, e2, hg, b0, b1, b2, b3⟩ := (Ens.of_own hO).four k hkL hxk
      have ho : o = 0 := by
        rcases hO.2 with ⟨hv, _⟩ | ⟨g', c', cur, hv, _⟩
        · rw [e2] at hv; cases hv
        · rw [e2] at hv; injection hv with e1; injection e1 with e1; injection e1
      subst ho; subst e2
      have hdk : dk.size ≤ 1050000 := by have := hd L[k] (List.getElem_mem hkL); rw [hxk] at this; exact this
      have hgB : w.heap.size ≤ g := (hO.lt g rfl).1
      have HXK := Lib.hid hxk
      rw [Nat.zero_add] at b0 b1 b2 b3
      clear hxk
      go_wp2_with fail
      obtain ⟨b, hb⟩ : ∃ b, wr.heap.size = b := ⟨_, rfl⟩
      obtain ⟨W, hW⟩ : ∃ W, wr.alloc (.cells #[.int .i64 xk, .int .i64 yk, .int .i64 zk, .string dk] 51) = W := ⟨_, rfl⟩
      have hO2 : OwnEn w.heap.size (.slice (some ⟨g, 0, none⟩) q c1) L W := by rw [← hW]; exact hO.below (below_new _ _)
      have hB2 : Below w.heap.size w W := by rw [← hW]; exact hB.alloc hB.size _
      rw [hW, hb]
      clear hW hO hB b0 b1 b2 b3 hb hg
      refine (clone_any dk W (by omega)).mono ?_
      rintro e w2 ⟨rfl, h2⟩
      have hO3 := hO2.below h2
      have hB3 := hB2.trans (h2.mono hB2.size)
      have hc3 := hO3.cells
      have f3 := hc3.2 (k * 4 + 3)
      obtain ⟨u3, hu3⟩ := Option.isSome_iff_exists.1 (hc3.1 (k * 4 + 3) (by have := (Ens.of_own hO3).len.2; omega))
      have hO4 := hO3.set_same (dt := dk) hkL (by rw [HXK.out])
      have hB4 := hB3.setCell (p := ⟨g, k * 4 + 3, none⟩) hgB (.string dk)
      clear hO2 hB2 h2 hO3 hB3 hc3
      go_wp2
      go_roundw
      case rel => exact ⟨k + 1, by go_num, by omega, hO4, hB4⟩
      case measure => first | (simp [intOf]; omega) | (simp [intOf]; done)
    · have hkn2 : k = q := by omega
      subst hkn2
      go_wp2
      go_ret
      exact ⟨_, rfl, hO, hB⟩
end Go.Proofs.Ytmmlkfkepncpgaa
/-
  Blocks that stand: what a step leaves alone, by a predicate of blocks.
  There are no conditions.
-/
set_option linter.unusedSimpArgs false
set_option linter.unusedVariables false
namespace Go.Proofs.Ytmmlkfkepncpgaa
open Go.RowKit Go.Deep
set_option maxRecDepth 100000

/-- blocks of which N holds stand -/
def Std (N : Nat → Prop) (w w' : World) : Prop := Off (fun j => ¬ N j) w w'
theorem Std.size {N : Nat → Prop} {w w' : World} (h : Std N w w') : w.heap.size ≤ w'.heap.size := Off.size h
theorem Std.cell {N : Nat → Prop} {w w' : World} (h : Std N w w') {p : Addr} (hN : N p.block) (hl : p.block < w.heap.size) : w'.cell? p = w.cell? p := Off.cell h hl fun e => e hN
theorem Std.block {N : Nat → Prop} {w w' : World} (h : Std N w w') {j : Nat} (hN : N j) (hl : j < w.heap.size) : w'.heap[j]? = w.heap[j]? := Off.block h j hl fun e => e hN
theorem Std.rt {N : Nat → Prop} {w w' : World} {g : Nat} {t : TypeId} {cs : List Value} (h : Std N w w') (hx : Rt w g t cs) (hN : N g) : Rt w' g t cs := (h.block hN hx.lt).trans hx
theorem Std.refl (N : Nat → Prop) (w : World) : Std N w w := Off.refl _ _
theorem Std.of_below {N : Nat → Prop} {w w' : World} (h : Below w.heap.size w w') : Std N w w' := Off.of_below h
theorem Std.trans {N : Nat → Prop} {a b c : World} (h : Std N a b) (k : Std N b c) : Std N a c := Off.trans h k fun _ hj => .inl hj
theorem Std.less {N M : Nat → Prop} {a b : World} (h : Std N a b) (hM : ∀ j, M j → N j) : Std M a b := Off.mono h fun j hj => .inl fun e => hj (hM j e)
theorem Std.below {N : Nat → Prop} {w w' : World} {B : Nat} (h : Std N w w') (hB : B ≤ w.heap.size) (hN : ∀ j, j < B → N j) : Below B w w' := Off.below h (fun j hj => by
  rcases Nat.lt_or_ge j B with h1 | h1
  · exact absurd (hN j h1) hj
  · exact h1) hB
theorem Std.ens {N : Nat → Prop} {w w' : World} {v : Value} {L : List Ent} (h : Std N w w') (hE : Ens N w v L) : Ens N w' v L := hE.keep fun _ hp hl => h.cell hp hl
end Go.Proofs.Ytmmlkfkepncpgaa
/-
  A server's log in memory: its box and its row of entries; its First, Last, Term, Fits, Newer.
  The conditions: its numbers are far from the end, its entries at most 200.
-/
namespace Go.Proofs.Ytmmlkfkepncpgaa
open Go.RowKit Go.Deep
set_option maxRecDepth 100000

def lcs13 (r : Lg) (v : Value) : List Value := [.int .i64 r.s.ix, .int .i64 r.s.st, .string r.s.conf, .string r.s.data, v]
structure LB (w : World) (g : Nat) (v : Value) (r : Lg) : Prop where
  box : Rt w g 67 (lcs13 r v)
  own : OwnEn 0 v r.L w
theorem LB.below {w w' : World} {g : Nat} {v : Value} {r : Lg} (h : LB w g v r) (hb : Below w.heap.size w w') : LB w' g v r := ⟨h.box.below hb, h.own.below hb⟩
theorem LB.parts {w : World} {g : Nat} {v : Value} {r : Lg} (h : LB w g v r) : ∃ A c, v = .slice A r.L.length c ∧ r.L.length ≤ c ∧ w.cell? ⟨g, 0, none⟩ = some (.int .i64 r.s.ix) ∧ w.cell? ⟨g, 1, none⟩ = some (.int .i64 r.s.st) ∧ w.cell? ⟨g, 2, none⟩ = some (.string r.s.conf) ∧ w.cell? ⟨g, 3, none⟩ = some (.string r.s.data) ∧ w.cell? ⟨g, 4, none⟩ = some (.slice A r.L.length c) := by
  obtain ⟨A, c, rfl, hc⟩ := (Ens.of_own h.own).slice
  exact ⟨A, c, rfl, hc, h.box.cell rfl, h.box.cell rfl, h.box.cell rfl, h.box.cell rfl, h.box.cell rfl⟩
theorem below_drewN13 (w : World) (n B : Nat) : Below B w (w.drewN n) := ⟨rfl, rfl, rfl, Nat.le_refl _, fun _ _ => rfl⟩
theorem below_id (w : World) : Below w.heap.size w w := Below.refl _ _
set_option maxHeartbeats 400000 in
theorem llast_any {w : World} {g : Nat} {v : Value} {r : Lg} (h : LB w g v r) (hk : Lok 1000000 r) :
    Calls Try.prog 31 #[.pointer (some ⟨g, 0, none⟩)] w fun e w' => e = .returned (.int .i64 (lst13 r)) ∧ Below w.heap.size w w' := by
  obtain ⟨A, c, rfl, hc, c0, c1, c2, c3, c4⟩ := h.parts
  obtain ⟨h0, h1, h2⟩ := hk.ends
  unfold lst13
  obtain ⟨n, hn⟩ : ∃ n, r.L.length = n := ⟨_, rfl⟩
  rw [hn] at h2 c4 hc ⊢
  obtain ⟨ix, hix⟩ : ∃ ix, r.s.ix = ix := ⟨_, rfl⟩
  rw [hix] at h0 h1 c0 ⊢
  clear h hk hn hix c1 c2 c3
  go_enter Try.func31, Try.ntmps31
  go_wp2
  go_quiet (fail)
  go_wp2
  go_ret
  exact ⟨rfl, ⟨rfl, rfl, rfl, Nat.le_refl _, fun _ _ => rfl⟩⟩
set_option maxHeartbeats 400000 in
theorem lfirst_any {w : World} {g : Nat} {v : Value} {r : Lg} (h : LB w g v r) (hk : Lok 1000000 r) :
    Calls Try.prog 30 #[.pointer (some ⟨g, 0, none⟩)] w fun e w' => e = .returned (.int .i64 (r.s.ix + 1)) ∧ Below w.heap.size w w' := by
  obtain ⟨A, c, rfl, hc, c0, c1, c2, c3, c4⟩ := h.parts
  obtain ⟨h0, h1, h2⟩ := hk.ends
  obtain ⟨ix, hix⟩ : ∃ ix, r.s.ix = ix := ⟨_, rfl⟩
  rw [hix] at h0 h1 c0 ⊢
  have hm : min ix 9223372036854775806 = ix := by omega
  clear h hk hix c1 c2 c3 c4
  go_enter Try.func30, Try.ntmps30
  go_wp2
  go_ret
  exact ⟨rfl, ⟨rfl, rfl, rfl, Nat.le_refl _, fun _ _ => rfl⟩⟩
set_option maxHeartbeats 400000 in
/-- the entries from i on: a part of the log's own row -/
theorem lfrom_any {w : World} {g : Nat} {v : Value} {r : Lg} (h : LB w g v r) (hk : Lok 1000000 r) (i : Int) :
    Calls Try.prog 45 #[.pointer (some ⟨g, 0, none⟩), .int .i64 i] w fun e w' => ∃ A c, e = .returned (.slice A (frm13 r i).length c) ∧ Ens (fun j => v.ownBlock = some j) w' (.slice A (frm13 r i).length c) (frm13 r i) ∧ Below w.heap.size w w' := by
  have hlast := fun W (hb : Below w.heap.size w W) => llast_any (h.below hb) hk
  have hE := Ens.of_own h.own
  obtain ⟨A, c, rfl, hc, c0, c1, c2, c3, c4⟩ := h.parts
  obtain ⟨h0, h1, h2⟩ := hk.ends
  have hg := h.box.lt
  by_cases hi : r.s.ix < i
  · by_cases hl : i ≤ lst13 r
    · have hat := at13 ⟨hi, hl⟩
      have hd := hE.drop (i - r.s.ix - 1).toNat (by omega)
      rw [frm13_in ⟨hi, hl⟩]
      obtain ⟨L, hL⟩ : ∃ L, r.L.drop (i - r.s.ix - 1).toNat = L := ⟨_, rfl⟩
      have hLl : L.length = r.L.length - (i - r.s.ix - 1).toNat := by rw [← hL, List.length_drop]
      rw [hL] at hd ⊢
      obtain ⟨k, hk2⟩ : ∃ k, (i - r.s.ix - 1).toNat = k := ⟨_, rfl⟩
      rw [hk2] at hat hd hLl
      have hik : i - r.s.ix - 1 = (k : Int) := by omega
      rw [if_neg (by omega)] at hd
      rw [hLl]
      obtain ⟨a, rfl⟩ : ∃ a, A = some ⟨a, 0, Option.none⟩ := by
        rcases h.own.2 with ⟨hv, _⟩ | ⟨g', c', cur, hv, _⟩
        · injection hv with e1 e2 e3
          omega
        · injection hv with e1
          exact ⟨g', e1⟩
      rw [add_lit_10, Nat.zero_add] at hd
      obtain ⟨n, hn⟩ : ∃ n, r.L.length = n := ⟨_, rfl⟩
      obtain ⟨ix, hix⟩ : ∃ ix, r.s.ix = ix := ⟨_, rfl⟩
      obtain ⟨lst, hlst⟩ : ∃ lst, lst13 r = lst := ⟨_, rfl⟩
      have hls2 : lst = ix + (n : Int) := by rw [← hlst, ← hix, ← hn]; rfl
      simp only [hlst] at hlast hl
      rw [hn] at c4 hat hd h2 hc ⊢
      rw [hix] at hi h0 h1 c0 hik
      have HD := Lib.hid hd
      have HL := Lib.hid hlast
      have HLL := Lib.hid hLl
      have HS := Lib.hid hls2
      have hkc : ¬ c = k := by omega
      clear h hk hn hix hlst hLl hd hE hlast c1 c2 c3 hL hk2 hls2
      go_enter Try.func45, Try.ntmps45
      go_wp2_with fail
      refine (HL.out _ (below_id _)).mono ?_
      rintro e w1 ⟨rfl, hb⟩
      have d0 := (hb.cell (p := ⟨g, 0, none⟩) hg).trans c0
      have d4 := (hb.cell (p := ⟨g, 4, none⟩) hg).trans c4
      go_wp2
      go_quiet (fail)
      go_wp2
      go_ret
      have hb2 := hb.trans (below_drewN13 w1 nq _)
      exact ⟨_, _, rfl, HD.out.below hb2, hb2⟩
    · have hf := frm13_out (r := r) (i := i) (by omega)
      rw [hf]
      obtain ⟨lst, hlst⟩ : ∃ lst, lst13 r = lst := ⟨_, rfl⟩
      simp only [hlst] at hlast hl
      obtain ⟨ix, hix⟩ : ∃ ix, r.s.ix = ix := ⟨_, rfl⟩
      rw [hix] at hi c0
      have HL := Lib.hid hlast
      clear h hk hlst hix hE hlast c1 c2 c3 hf
      go_enter Try.func45, Try.ntmps45
      go_wp2_with fail
      refine (HL.out _ (below_id _)).mono ?_
      rintro e w1 ⟨rfl, hb⟩
      go_wp2
      go_ret
      exact ⟨none, 0, rfl, Ens.nil _ _, hb⟩
  · have hf := frm13_out (r := r) (i := i) (by omega)
    rw [hf]
    obtain ⟨ix, hix⟩ : ∃ ix, r.s.ix = ix := ⟨_, rfl⟩
    rw [hix] at hi c0
    clear h hk hix hE hlast c1 c2 c3 hf
    go_enter Try.func45, Try.ntmps45
    go_wp2
    go_ret
    exact ⟨none, 0, rfl, Ens.nil _ _, Below.refl _ _⟩
theorem trm13_nil {r : Lg} {i : Int} (h : i ≠ r.s.ix) (hf : frm13 r i = []) : trm13 r i = (0, false) := by unfold trm13; rw [if_neg h, hf]
theorem trm13_cons {r : Lg} {i : Int} {x : Ent} {l : List Ent} (h : i ≠ r.s.ix) (hf : frm13 r i = x :: l) : trm13 r i = (x.et, true) := by unfold trm13; rw [if_neg h, hf]
set_option maxHeartbeats 400000 in
theorem lterm_any {w : World} {g : Nat} {v : Value} {r : Lg} (h : LB w g v r) (hk : Lok 1000000 r) (i t : Int) (b : Bool) (ht : trm13 r i = (t, b)) :
    Calls Try.prog 19 #[.pointer (some ⟨g, 0, none⟩), .int .i64 i] w fun e w' => e = .returned (.tuple #[.int .i64 t, .bool b]) ∧ Below w.heap.size w w' := by
  have hfrom := lfrom_any h hk i
  obtain ⟨A, c, rfl, hc, c0, c1, c2, c3, c4⟩ := h.parts
  obtain ⟨st, hst⟩ : ∃ st, r.s.st = st := ⟨_, rfl⟩
  obtain ⟨ix, hix⟩ : ∃ ix, r.s.ix = ix := ⟨_, rfl⟩
  by_cases hi : i = r.s.ix
  · have ht2 := trm13_own r
    rw [← hi, ht] at ht2
    injection ht2 with e1 e2
    subst e2
    rw [hst] at e1 c1
    rw [hix] at hi c0
    subst e1; subst hi
    clear h hk hix hst hfrom c2 c3 c4 ht
    go_enter Try.func19, Try.ntmps19
    go_wp2
    go_ret2
    exact ⟨rfl, Below.refl _ _⟩
  · have hn := fun hf => trm13_nil (r := r) hi hf
    have hx := fun (x : Ent) (l : List Ent) hf => trm13_cons (r := r) (x := x) (l := l) hi hf
    rw [ht] at hn hx
    obtain ⟨f, hf⟩ : ∃ f, frm13 r i = f := ⟨_, rfl⟩
    rw [hf] at hfrom hn hx
    rw [hix] at hi c0
    have HF := Lib.hid hfrom
    cases f with
    | nil =>
      have hn := hn rfl
      injection hn with e1 e2
      subst e1; subst e2
      clear h hk hix hst hfrom hx ht hf c1 c2 c3 c4
      go_enter Try.func19, Try.ntmps19
      go_wp2_with fail
      refine HF.out.mono ?_
      rintro e w1 ⟨A1, c1, rfl, hE, hb⟩
      clear hE
      go_wp2
      go_ret2
      exact ⟨rfl, hb⟩
    | cons x l =>
      have hx := hx x l rfl
      injection hx with e1 e2
      subst e1; subst e2
      clear h hk hix hst hfrom hn ht hf c1 c2 c3 c4
      go_enter Try.func19, Try.ntmps19
      go_wp2_with fail
      refine HF.out.mono ?_
      rintro e w1 ⟨A1, c1, rfl, hE, hb⟩
      obtain ⟨xi, xt, xk, xd⟩ := x
      obtain ⟨a, o, rfl, hg, b0, b1, b2, b3⟩ := hE.four 0 (by simp) rfl
      obtain ⟨m, hm⟩ : ∃ m, (List.cons ⟨xi, xt, xk, xd⟩ l : List Ent).length = m := ⟨_, rfl⟩
      have hm0 : 0 < m := by rw [← hm]; simp
      rw [hm]
      simp only [Nat.zero_mul, Nat.add_zero] at b0 b1 b2 b3
      clear hE hm
      go_wp2
      go_ret2
      exact ⟨rfl, hb⟩
set_option maxHeartbeats 400000 in
theorem lfits_any {w : World} {g : Nat} {v : Value} {r : Lg} (h : LB w g v r) (hk : Lok 1000000 r) (i t : Int) (b : Bool) (hb : fts13 r i t = b) :
    Calls Try.prog 21 #[.pointer (some ⟨g, 0, none⟩), .int .i64 i, .int .i64 t] w fun e w' => e = .returned (.bool b) ∧ Below w.heap.size w w' := by
  obtain ⟨⟨x, y⟩, hxy⟩ : ∃ p, trm13 r i = p := ⟨_, rfl⟩
  have HT := Lib.hid (lterm_any h hk i x y hxy)
  unfold fts13 at hb
  rw [hxy] at hb
  have hb : (y && x == t) = b := hb
  clear h hk hxy
  go_enter Try.func21, Try.ntmps21
  go_wp2_with fail
  refine HT.out.mono ?_
  rintro e w1 ⟨rfl, hb1⟩
  cases y with
  | false =>
    subst hb
    go_wp2
    go_ret
    exact ⟨rfl, hb1⟩
  | true =>
    subst hb
    go_wp2
    go_ret
    exact ⟨by simp, hb1⟩
set_option maxHeartbeats 400000 in
theorem lnewer_any {w : World} {g : Nat} {v : Value} {r : Lg} (h : LB w g v r) (hk : Lok 1000000 r) (i t : Int) (b : Bool) (hb : nwr13 r i t = b) :
    Calls Try.prog 23 #[.pointer (some ⟨g, 0, none⟩), .int .i64 i, .int .i64 t] w fun e w' => e = .returned (.bool b) ∧ Below w.heap.size w w' := by
  obtain ⟨⟨x, y⟩, hxy⟩ : ∃ p, trm13 r (lst13 r) = p := ⟨_, rfl⟩
  have hT := fun W (hb : Below w.heap.size w W) => lterm_any (h.below hb) hk _ x y hxy
  have hL := llast_any h hk
  unfold nwr13 at hb
  rw [hxy] at hb
  obtain ⟨l, hl⟩ : ∃ l, lst13 r = l := ⟨_, rfl⟩
  rw [hl] at hL hb
  simp only [hl] at hT
  have HT := Lib.hid hT
  have HL := Lib.hid hL
  clear h hk hxy hT hL hl
  have hb : (decide (x < t) || (t == x && decide (l ≤ i))) = b := hb
  go_enter Try.func23, Try.ntmps23
  go_wp2_with fail
  refine HL.out.mono ?_
  rintro e w1 ⟨rfl, hb1⟩
  go_wp2_with fail
  refine (HT.out w1 hb1).mono ?_
  rintro e w2 ⟨rfl, hb2⟩
  have hb3 := hb1.trans (hb2.mono hb1.size)
  subst hb
  go_wp2
  all_goals go_ret
  all_goals exact ⟨by simp_all, hb3⟩
set_option maxHeartbeats 400000 in
theorem lgap_any {w : World} {g : Nat} {v : Value} {r : Lg} (h : LB w g v r) (hk : Lok 1000000 r) (i : Int) (hi : -9223372036854775808 ≤ i ∧ i ≤ 9223372036854775807) (b : Bool) (hb : decide (lst13 r + 1 < i) = b) :
    Calls Try.prog 38 #[.pointer (some ⟨g, 0, none⟩), .int .i64 i] w fun e w' => e = .returned (.bool b) ∧ Below w.heap.size w w' := by
  have HL := Lib.hid (llast_any h hk)
  have h0 : 0 ≤ lst13 r := by unfold lst13; have := hk.1; omega
  obtain ⟨l, hl⟩ : ∃ l, lst13 r = l := ⟨_, rfl⟩
  rw [hl] at HL h0 hb
  clear h hk hl
  go_enter Try.func38, Try.ntmps38
  go_wp2_with fail
  refine HL.out.mono ?_
  rintro e w1 ⟨rfl, hb1⟩
  subst hb
  by_cases h1 : l < i
  · go_wp2
    go_ret
    have hd : decide (l + 1 < i) = decide (l < i - 1) := by rw [decide_eq_decide]; omega
    rw [hd]
    exact ⟨rfl, hb1⟩
  · go_wp2
    go_ret
    exact ⟨by simp; omega, hb1⟩
end Go.Proofs.Ytmmlkfkepncpgaa
/-
  Package rlog's follow and mayNumber: entries one behind the other; a number that may be.
  The conditions: 1,000 entries at most.
-/
namespace Go.Proofs.Ytmmlkfkepncpgaa
open Go.RowKit Go.Deep
set_option maxRecDepth 100000

theorem lmay_any (n : Int) (b : Bool) (hb : (decide (0 ≤ n) && decide (n ≤ 1099511627776)) = b) (w : World) :
    Calls Try.prog 34 #[.int .i64 n] w fun e w' => e = .returned (.bool b) ∧ Below w.heap.size w w' := by
  subst hb
  go_enter Try.func34, Try.ntmps34
  by_cases h0 : 0 ≤ n
  · go_wp2
    all_goals go_ret
    all_goals exact ⟨by simp [h0], Below.refl _ _⟩
  · go_wp2
    all_goals go_ret
    all_goals exact ⟨by rw [show decide (0 ≤ n) = false from decide_eq_false (by omega)]; rfl, Below.refl _ _⟩
theorem flw13_drop {L : List Ent} {k : Nat} (h : k < L.length) (i t : Int) : flw13 i t (L.drop k) = ((L[k].ix == i + 1 && decide (t ≤ L[k].et)) && flw13 L[k].ix L[k].et (L.drop (k + 1))) := by
  rw [List.drop_eq_getElem_cons h]; rfl
set_option maxHeartbeats 400000 in
theorem lfollow_any (N : Nat → Prop) (A : Option Addr) (n c : Nat) (L : List Ent) (i0 t0 : Int) (w : World) (h : Ens N w (.slice A n c) L) (hl : L.length ≤ 1000) (hi0 : -9223372036854775808 ≤ i0 ∧ i0 ≤ 9223372036854775807) (hd : ∀ e ∈ L, -9223372036854775808 ≤ e.ix ∧ e.ix ≤ 9223372036854775807) (b : Bool) (hb : flw13 i0 t0 L = b) :
    Calls Try.prog 35 #[.int .i64 i0, .int .i64 t0, .slice A n c] w fun e w' => e = .returned (.bool b) ∧ Below w.heap.size w w' := by
  have hnL : n = L.length := h.len.1
  have HE := Lib.hid h
  have HD := Lib.hid hd
  have HN := Lib.hid hnL
  have HB := Lib.hid hb
  have hn4 : n ≤ 1000 := by omega
  clear h hd hnL hb
  go_enter Try.func35, Try.ntmps35
  go_wp2_with fail
  go_loopw [0, 1, 11] (fun u v i wr => ∃ (x y : Int) (k : Nat), u = .int .i64 x ∧ v = .int .i64 y ∧ i = .int .i64 k ∧ k ≤ n ∧ (-9223372036854775808 ≤ x ∧ x ≤ 9223372036854775807) ∧ flw13 x y (L.drop k) = b ∧ Below w.heap.size w wr) (fun _ _ i _ => n - (intOf i).toNat)
  case atStart => exact ⟨i0, t0, 0, rfl, rfl, rfl, Nat.zero_le _, hi0, HB.out, Below.refl _ _⟩
  case round =>
    obtain ⟨x, y, k, rfl, rfl, rfl, hk, hxb, hf, hbw⟩ := hrel
    clear hi0
    by_cases hkn : k < n
    · have hkL : k < L.length := by rw [← HN.out]; exact hkn
      have hki : (k : Int) < (n : Int) := by omega
      obtain ⟨⟨xk, yk, zk, dk⟩, hxk⟩ : ∃ x, L[k] = x := ⟨_, rfl⟩
      have hxb2 := HD.out _ (List.getElem_mem hkL)
      obtain ⟨g, o, rfl, hg, b0, b1, b2, b3⟩ := (HE.out.below hbw).four k hkL hxk
      rw [flw13_drop hkL] at hf
      rw [hxk] at hf hxb2
      simp only at hf hxb2
      by_cases h1 : x = 9223372036854775807
      · have hbf : b = false := by
          rw [← hf, show (xk == x + 1) = false by rw [beq_eq_false_iff_ne]; omega]; rfl
        subst hbf
        clear hf hxk
        go_wp2
        go_ret
        exact ⟨rfl, hbw.alloc hbw.size _⟩
      · have hw1 : IntKind.i64.wrap (x + 1) = x + 1 := by rw [IntKind.wrap_i64]; omega
        by_cases h2 : xk = x + 1
        · by_cases h3 : yk < y
          · have hbf : b = false := by
              rw [← hf, show decide (y ≤ yk) = false from decide_eq_false (by omega), Bool.and_false, Bool.false_and]
            subst hbf
            clear hf hxk
            go_wp2
            go_ret
            exact ⟨rfl, hbw.alloc hbw.size _⟩
          · rw [show (xk == x + 1) = true by simpa using h2, show decide (y ≤ yk) = true from decide_eq_true (by omega), Bool.true_and, Bool.true_and] at hf
            have HF := Lib.hid hf
            clear hf hxk
            go_wp2
            go_quiet (fail)
            go_wp2
            go_roundw
            case rel => exact ⟨xk, yk, k + 1, by go_num, by go_num, by go_num, by omega, hxb2, HF.out, (hbw.alloc hbw.size _).trans (below_drewN13 _ _ _)⟩
            case measure => first | (simp [intOf]; omega) | (simp [intOf]; done)
        · have hbf : b = false := by
            rw [← hf, show (xk == x + 1) = false by simpa using h2]; rfl
          subst hbf
          clear hf hxk
          go_wp2
          go_ret
          exact ⟨rfl, hbw.alloc hbw.size _⟩
    · have hkn2 : k = n := by omega
      subst hkn2
      have hbt : b = true := by
        rw [← hf, List.drop_of_length_le (by rw [← HN.out]; exact Nat.le_refl _)]; rfl
      subst hbt
      clear hf
      go_wp2
      go_ret
      exact ⟨rfl, hbw⟩
end Go.Proofs.Ytmmlkfkepncpgaa
/-
  Package rlog's lacks: is an entry neither there nor one that the snapshot stands for.
  There are no conditions beyond those of its log.
-/
namespace Go.Proofs.Ytmmlkfkepncpgaa
open Go.RowKit Go.Deep
set_option maxRecDepth 100000

set_option maxHeartbeats 400000 in
theorem llacks_any {w : World} {g : Nat} {v : Value} {r : Lg} (h : LB w g v r) (hk : Lok 1000000 r) (x : Ent) (b : Bool) (hb : lck13 r x = b) :
    Calls Try.prog 40 #[.pointer (some ⟨g, 0, none⟩), x.val] w fun e w' => e = .returned (.bool b) ∧ Below w.heap.size w w' := by
  obtain ⟨xi, xt, xk, xd⟩ := x
  obtain ⟨y, hy⟩ : ∃ y, fts13 r xi xt = y := ⟨_, rfl⟩
  have HF := Lib.hid fun W (hb : Below w.heap.size w W) => lfits_any (h.below hb) hk xi xt y hy
  obtain ⟨A, c, rfl, hc, c0, c1, c2, c3, c4⟩ := h.parts
  obtain ⟨ix, hix⟩ : ∃ ix, r.s.ix = ix := ⟨_, rfl⟩
  have hb : (decide (ix < xi) && !y) = b := by rw [← hb, ← hy, ← hix]; rfl
  have hg := h.box.lt
  rw [hix] at c0
  clear h hk hy hix c1 c2 c3 c4
  obtain ⟨b, hb0⟩ : ∃ b, w.heap.size = b := ⟨_, rfl⟩
  obtain ⟨W0, hW0⟩ : ∃ W0, w.alloc (.cells #[.int .i64 xi, .int .i64 xt, .int .i64 xk, .string xd] 51) = W0 := ⟨_, rfl⟩
  have hx : Rt W0 b 51 [.int .i64 xi, .int .i64 xt, .int .i64 xk, .string xd] := by rw [← hW0, ← hb0]; exact Rt.new _ _ _
  have hb1 : Below w.heap.size w W0 := by rw [← hW0]; exact below_new _ _
  have c0' := (hb1.cell (p := ⟨g, 0, none⟩) hg).trans c0
  have d0 := hx.cell (j := 0) rfl
  have d1 := hx.cell (j := 1) rfl
  clear c0
  show Calls _ _ #[_, .agg #[.int .i64 xi, .int .i64 xt, .int .i64 xk, .string xd]] w _
  go_enter Try.func40, Try.ntmps40
  subst hb
  by_cases h1 : ix < xi
  · go_wp2_with fail
    have hb1 : Below w.heap.size w W0.drew := hb1.drew
    replace d0 : W0.drew.cell? ⟨b, 0, none⟩ = _ := d0
    replace d1 : W0.drew.cell? ⟨b, 1, none⟩ = _ := d1
    replace c0' : W0.drew.cell? ⟨g, 0, none⟩ = _ := c0'
    have hbl : b < W0.drew.heap.size := hx.lt
    have hgl : g < W0.drew.heap.size := Nat.lt_of_lt_of_le hg hb1.size
    refine wp_region_noPanic ?_
    refine wp_region_held_drew (S := fun W => W.cell? ⟨b, 0, none⟩ = some (.int .i64 xi) ∧ W.cell? ⟨b, 1, none⟩ = some (.int .i64 xt) ∧ W.cell? ⟨g, 0, none⟩ = some (.int .i64 ix)) (by kernel_rfl) ?_ (fun hHeld => ?_)
    · exact ⟨d0, d1, c0'⟩
    generalize W0.drew = k5 at *
    refine tkH 0 (.pointer (some ⟨b, 0, none⟩)) rfl (fun w hSw => ?_) ?_
    · (try dsimp only at hSw)
      obtain ⟨q0, q1, q2⟩ := hSw
      go_simp
    try simp only [Act.put, List.setIfInBounds_toArray, List.set_cons_zero, List.set_cons_succ]
    refine tkH 1 (.int .i64 xi) rfl (fun w hSw => ?_) ?_
    · (try dsimp only at hSw)
      obtain ⟨q0, q1, q2⟩ := hSw
      go_simp
    try simp only [Act.put, List.setIfInBounds_toArray, List.set_cons_zero, List.set_cons_succ]
    refine tkH 2 (.pointer (some ⟨g, 0, none⟩)) rfl (fun w hSw => ?_) ?_
    · (try dsimp only at hSw)
      obtain ⟨q0, q1, q2⟩ := hSw
      go_simp
    try simp only [Act.put, List.setIfInBounds_toArray, List.set_cons_zero, List.set_cons_succ]
    refine tkH 3 (.pointer (some ⟨g, 0, none⟩)) rfl (fun w hSw => ?_) ?_
    · (try dsimp only at hSw)
      obtain ⟨q0, q1, q2⟩ := hSw
      go_simp
    try simp only [Act.put, List.setIfInBounds_toArray, List.set_cons_zero, List.set_cons_succ]
    refine tkH 4 (.pointer (some ⟨g, 0, none⟩)) rfl (fun w hSw => ?_) ?_
    · (try dsimp only at hSw)
      obtain ⟨q0, q1, q2⟩ := hSw
      go_simp
    try simp only [Act.put, List.setIfInBounds_toArray, List.set_cons_zero, List.set_cons_succ]
    refine tkH 5 (.pointer (some ⟨g, 0, none⟩)) rfl (fun w hSw => ?_) ?_
    · (try dsimp only at hSw)
      obtain ⟨q0, q1, q2⟩ := hSw
      go_simp
    try simp only [Act.put, List.setIfInBounds_toArray, List.set_cons_zero, List.set_cons_succ]
    refine tkH 6 (.int .i64 ix) rfl (fun w hSw => ?_) ?_
    · (try dsimp only at hSw)
      obtain ⟨q0, q1, q2⟩ := hSw
      go_simp
    try simp only [Act.put, List.setIfInBounds_toArray, List.set_cons_zero, List.set_cons_succ]
    refine tkH 7 (.bool true) rfl (fun w hSw => ?_) ?_
    · (try dsimp only at hSw)
      obtain ⟨q0, q1, q2⟩ := hSw
      go_simp
    try simp only [Act.put, List.setIfInBounds_toArray, List.set_cons_zero, List.set_cons_succ]
    refine tkH 8 (.bool true) rfl (fun w hSw => ?_) ?_
    · (try dsimp only at hSw)
      obtain ⟨q0, q1, q2⟩ := hSw
      go_simp
    try simp only [Act.put, List.setIfInBounds_toArray, List.set_cons_zero, List.set_cons_succ]
    refine tkH 9 (.pointer (some ⟨g, 0, none⟩)) rfl (fun w hSw => ?_) ?_
    · (try dsimp only at hSw)
      obtain ⟨q0, q1, q2⟩ := hSw
      go_simp
    try simp only [Act.put, List.setIfInBounds_toArray, List.set_cons_zero, List.set_cons_succ]
    refine tkH 10 (.pointer (some ⟨b, 0, none⟩)) rfl (fun w hSw => ?_) ?_
    · (try dsimp only at hSw)
      obtain ⟨q0, q1, q2⟩ := hSw
      go_simp
    try simp only [Act.put, List.setIfInBounds_toArray, List.set_cons_zero, List.set_cons_succ]
    refine tkH 11 (.int .i64 xi) rfl (fun w hSw => ?_) ?_
    · (try dsimp only at hSw)
      obtain ⟨q0, q1, q2⟩ := hSw
      go_simp
    try simp only [Act.put, List.setIfInBounds_toArray, List.set_cons_zero, List.set_cons_succ]
    refine tkH 12 (.pointer (some ⟨b, 1, none⟩)) rfl (fun w hSw => ?_) ?_
    · (try dsimp only at hSw)
      obtain ⟨q0, q1, q2⟩ := hSw
      go_simp
    try simp only [Act.put, List.setIfInBounds_toArray, List.set_cons_zero, List.set_cons_succ]
    refine tkH 13 (.int .i64 xt) rfl (fun w hSw => ?_) ?_
    · (try dsimp only at hSw)
      obtain ⟨q0, q1, q2⟩ := hSw
      go_simp
    try simp only [Act.put, List.setIfInBounds_toArray, List.set_cons_zero, List.set_cons_succ]
    refine stH 14 rfl (fun K hK => ?_)
    go_simp
    go_at_call 21
    refine (HF.out _ hb1).mono ?_
    rintro e k9 ⟨rfl, hb2⟩
    replace d0 := (hb2.cell (p := ⟨b, 0, none⟩) hbl).trans d0
    replace d1 := (hb2.cell (p := ⟨b, 1, none⟩) hbl).trans d1
    replace c0' := (hb2.cell (p := ⟨g, 0, none⟩) hgl).trans c0'
    replace hb1 := hb1.trans (hb2.mono hb1.size)
    refine hK.out _ _ ?_ (fun hHeld => ?_)
    · exact ⟨d0, d1, c0'⟩
    clear hK K
    try simp only [Act.put, List.setIfInBounds_toArray, List.set_cons_zero, List.set_cons_succ]
    refine tkH 15 (.bool (!y)) rfl (fun w hSw => ?_) ?_
    · (try dsimp only at hSw)
      obtain ⟨q0, q1, q2⟩ := hSw
      go_simp
    try simp only [Act.put, List.setIfInBounds_toArray, List.set_cons_zero, List.set_cons_succ]
    refine tkH 16 (.bool (!y)) rfl (fun w hSw => ?_) ?_
    · (try dsimp only at hSw)
      obtain ⟨q0, q1, q2⟩ := hSw
      go_simp
    try simp only [Act.put, List.setIfInBounds_toArray, List.set_cons_zero, List.set_cons_succ]
    refine tkH 17 (.bool (!y)) rfl (fun w hSw => ?_) ?_
    · (try dsimp only at hSw)
      obtain ⟨q0, q1, q2⟩ := hSw
      go_simp
    try simp only [Act.put, List.setIfInBounds_toArray, List.set_cons_zero, List.set_cons_succ]
    refine wpAnyH_done (by kernel_rfl) ?_ _
    refine NoPanic.normal ?_
    go_wp2
    go_ret
    exact ⟨by simp [h1], hb1⟩
  · go_wp2_with fail
    have hb1 : Below w.heap.size w W0.drew := hb1.drew
    replace d0 : W0.drew.cell? ⟨b, 0, none⟩ = _ := d0
    replace d1 : W0.drew.cell? ⟨b, 1, none⟩ = _ := d1
    replace c0' : W0.drew.cell? ⟨g, 0, none⟩ = _ := c0'
    have hbl : b < W0.drew.heap.size := hx.lt
    have hgl : g < W0.drew.heap.size := Nat.lt_of_lt_of_le hg hb1.size
    refine wp_region_noPanic ?_
    refine wp_region_held_drew (S := fun W => W.cell? ⟨b, 0, none⟩ = some (.int .i64 xi) ∧ W.cell? ⟨b, 1, none⟩ = some (.int .i64 xt) ∧ W.cell? ⟨g, 0, none⟩ = some (.int .i64 ix)) (by kernel_rfl) ?_ (fun hHeld => ?_)
    · exact ⟨d0, d1, c0'⟩
    generalize W0.drew = k5 at *
    refine tkH 0 (.pointer (some ⟨b, 0, none⟩)) rfl (fun w hSw => ?_) ?_
    · (try dsimp only at hSw)
      obtain ⟨q0, q1, q2⟩ := hSw
      go_simp
    try simp only [Act.put, List.setIfInBounds_toArray, List.set_cons_zero, List.set_cons_succ]
    refine tkH 1 (.int .i64 xi) rfl (fun w hSw => ?_) ?_
    · (try dsimp only at hSw)
      obtain ⟨q0, q1, q2⟩ := hSw
      go_simp
    try simp only [Act.put, List.setIfInBounds_toArray, List.set_cons_zero, List.set_cons_succ]
    refine tkH 2 (.pointer (some ⟨g, 0, none⟩)) rfl (fun w hSw => ?_) ?_
    · (try dsimp only at hSw)
      obtain ⟨q0, q1, q2⟩ := hSw
      go_simp
    try simp only [Act.put, List.setIfInBounds_toArray, List.set_cons_zero, List.set_cons_succ]
    refine tkH 3 (.pointer (some ⟨g, 0, none⟩)) rfl (fun w hSw => ?_) ?_
    · (try dsimp only at hSw)
      obtain ⟨q0, q1, q2⟩ := hSw
      go_simp
    try simp only [Act.put, List.setIfInBounds_toArray, List.set_cons_zero, List.set_cons_succ]
    refine tkH 4 (.pointer (some ⟨g, 0, none⟩)) rfl (fun w hSw => ?_) ?_
    · (try dsimp only at hSw)
      obtain ⟨q0, q1, q2⟩ := hSw
      go_simp
    try simp only [Act.put, List.setIfInBounds_toArray, List.set_cons_zero, List.set_cons_succ]
    refine tkH 5 (.pointer (some ⟨g, 0, none⟩)) rfl (fun w hSw => ?_) ?_
    · (try dsimp only at hSw)
      obtain ⟨q0, q1, q2⟩ := hSw
      go_simp
    try simp only [Act.put, List.setIfInBounds_toArray, List.set_cons_zero, List.set_cons_succ]
    refine tkH 6 (.int .i64 ix) rfl (fun w hSw => ?_) ?_
    · (try dsimp only at hSw)
      obtain ⟨q0, q1, q2⟩ := hSw
      go_simp
    try simp only [Act.put, List.setIfInBounds_toArray, List.set_cons_zero, List.set_cons_succ]
    refine tkH 7 (.bool false) rfl (fun w hSw => ?_) ?_
    · (try dsimp only at hSw)
      obtain ⟨q0, q1, q2⟩ := hSw
      go_simp
    try simp only [Act.put, List.setIfInBounds_toArray, List.set_cons_zero, List.set_cons_succ]
    refine tkH 8 (.bool false) rfl (fun w hSw => ?_) ?_
    · (try dsimp only at hSw)
      obtain ⟨q0, q1, q2⟩ := hSw
      go_simp
    try simp only [Act.put, List.setIfInBounds_toArray, List.set_cons_zero, List.set_cons_succ]
    refine skH 9 rfl ?_
    try simp only [Act.put, List.setIfInBounds_toArray, List.set_cons_zero, List.set_cons_succ]
    refine skH 10 rfl ?_
    try simp only [Act.put, List.setIfInBounds_toArray, List.set_cons_zero, List.set_cons_succ]
    refine skH 11 rfl ?_
    try simp only [Act.put, List.setIfInBounds_toArray, List.set_cons_zero, List.set_cons_succ]
    refine skH 12 rfl ?_
    try simp only [Act.put, List.setIfInBounds_toArray, List.set_cons_zero, List.set_cons_succ]
    refine skH 13 rfl ?_
    try simp only [Act.put, List.setIfInBounds_toArray, List.set_cons_zero, List.set_cons_succ]
    refine skH 14 rfl ?_
    try simp only [Act.put, List.setIfInBounds_toArray, List.set_cons_zero, List.set_cons_succ]
    refine skH 15 rfl ?_
    try simp only [Act.put, List.setIfInBounds_toArray, List.set_cons_zero, List.set_cons_succ]
    refine tkH 16 (.bool false) rfl (fun w hSw => ?_) ?_
    · (try dsimp only at hSw)
      obtain ⟨q0, q1, q2⟩ := hSw
      go_simp
    try simp only [Act.put, List.setIfInBounds_toArray, List.set_cons_zero, List.set_cons_succ]
    refine tkH 17 (.bool false) rfl (fun w hSw => ?_) ?_
    · (try dsimp only at hSw)
      obtain ⟨q0, q1, q2⟩ := hSw
      go_simp
    try simp only [Act.put, List.setIfInBounds_toArray, List.set_cons_zero, List.set_cons_succ]
    refine wpAnyH_done (by kernel_rfl) ?_ _
    refine NoPanic.normal ?_
    go_wp2
    go_ret
    exact ⟨by rw [show decide (ix < xi) = false from decide_eq_false (by omega)]; rfl, hb1⟩
end Go.Proofs.Ytmmlkfkepncpgaa
/-
  Package rlog's New, Snap, Get, Set.
  The conditions: a row has at most 1,000 entries, texts at most 100,000 bytes.
-/
namespace Go.Proofs.Ytmmlkfkepncpgaa
open Go.RowKit Go.Deep
set_option maxRecDepth 100000

/-- a log none of whose blocks is one of N -/
def LK (N : Nat → Prop) (m : Nat) (w : World) (g : Nat) (r : Lg) : Prop := Lok m r ∧ (∃ v, LB w g v r ∧ ∀ j, v.ownBlock = some j → ¬ N j) ∧ ¬ N g ∧ ∀ j, N j → j < w.heap.size
theorem log_ne_entry : (67 : TypeId) ≠ 51 := by decide
theorem LB.ne {w : World} {g : Nat} {v : Value} {r : Lg} (h : LB w g v r) : v.ownBlock ≠ some g := own_ne11 log_ne_entry h.box h.own
theorem LK.others {N : Nat → Prop} {m : Nat} {w w' : World} {g : Nat} {r : Lg} (h : LK N m w g r) (hb : Below w.heap.size w w') : LK (fun j => N j ∨ (w.heap.size ≤ j ∧ j < w'.heap.size)) m w' g r := by
  obtain ⟨h1, ⟨v, h2, h3⟩, h4, h5⟩ := h
  refine ⟨h1, ⟨v, h2.below hb, fun j hj hn => ?_⟩, fun hn => ?_, fun j hj => ?_⟩
  · rcases hn with hn | hn
    · exact h3 j hj hn
    · have := (h2.own.lt j hj).2; omega
  · rcases hn with hn | hn
    · exact h4 hn
    · have := h2.box.lt; omega
  · rcases hj with hj | hj
    · exact Nat.lt_of_lt_of_le (h5 j hj) hb.size
    · exact hj.2
theorem LK.below {N : Nat → Prop} {m : Nat} {w w' : World} {g : Nat} {r : Lg} (h : LK N m w g r) (hb : Below w.heap.size w w') : LK N m w' g r := by
  obtain ⟨h1, ⟨v, h2, h3⟩, h4, h5⟩ := h
  exact ⟨h1, ⟨v, h2.below hb, h3⟩, h4, fun j hj => Nat.lt_of_lt_of_le (h5 j hj) hb.size⟩
theorem LK.less {N M : Nat → Prop} {m : Nat} {w : World} {g : Nat} {r : Lg} (h : LK N m w g r) (hM : ∀ j, M j → N j) : LK M m w g r := by
  obtain ⟨h1, ⟨v, h2, h3⟩, h4, h5⟩ := h
  exact ⟨h1, ⟨v, h2, fun j hj hm => h3 j hj (hM j hm)⟩, fun hm => h4 (hM g hm), fun j hj => h5 j (hM j hj)⟩
theorem LK.more {N : Nat → Prop} {m n : Nat} {w : World} {g : Nat} {r : Lg} (h : LK N m w g r) (hn : m ≤ n) : LK N n w g r := ⟨h.1.more hn, h.2⟩
/-- what is written into a block of N leaves a log alone -/
theorem LK.set {N : Nat → Prop} {m : Nat} {w : World} {g : Nat} {r : Lg} (h : LK N m w g r) {p : Addr} (u : Value) (hp : N p.block) (hsp : p.spot = none) : LK N m (w.setCell p u) g r := by
  obtain ⟨h1, ⟨v, h2, h3⟩, h4, h5⟩ := h
  obtain ⟨pb, po, ps⟩ := p
  simp only at hsp hp
  subst hsp
  have ho : Off (fun j => j = pb) w (w.setCell ⟨pb, po, none⟩ u) := (Off.refl _ w).set (.inl rfl)
  exact ⟨h1, ⟨v, ⟨(ho.block g h2.box.lt (fun e => h4 (by rw [e]; exact hp))).trans h2.box, h2.own.off ho (fun j hj e => h3 j hj (by rw [e]; exact hp))⟩, h3⟩, h4, fun j hj => Nat.lt_of_lt_of_le (h5 j hj) ho.size⟩
theorem LK.get {N : Nat → Prop} {m : Nat} {w : World} {g : Nat} {r : Lg} (h : LK N m w g r) (hm : m ≤ 1000000) : ∃ v, LB w g v r ∧ Lok 1000000 r := by
  obtain ⟨h1, ⟨v, h2, _⟩, _⟩ := h
  exact ⟨v, h2, h1.more hm⟩
set_option maxHeartbeats 1000000 in
theorem lnew_any (N : Nat → Prop) (s : Snp) (A : Option Addr) (n c : Nat) (L : List Ent) (w : World) (hE : Ens N w (.slice A n c) L) (hl : L.length ≤ 1000) (hix : -9223372036854775808 ≤ s.ix ∧ s.ix ≤ 9223372036854775807) (hd : ∀ e ∈ L, e.data.size ≤ 100000 ∧ -9223372036854775808 ≤ e.ix ∧ e.ix ≤ 9223372036854775807) (h1 : s.conf.size ≤ 100000) (h2 : s.data.size ≤ 100000) (b : Bool) (hb : new13 s L = b) :
    Calls Try.prog 12 #[s.val, .slice A n c] w fun e w' => Below w.heap.size w w' ∧ ((b = false ∧ e = .returned (.pointer none)) ∨ (b = true ∧ ∃ g v, e = .returned (.pointer (some ⟨g, 0, none⟩)) ∧ w.heap.size ≤ g ∧ OwnEn w.heap.size v L w' ∧ LB w' g v ⟨s, L⟩)) := by
  obtain ⟨ix, st, cf, dt⟩ := s
  simp only at hix h1 h2
  have hnL : n = L.length := hE.len.1
  have HM1 := Lib.hid fun b hb w => lmay_any ix b hb w
  have HM2 := Lib.hid fun b hb w => lmay_any st b hb w
  have HF := Lib.hid fun W (hb : Below w.heap.size w W) b (hq : flw13 ix st L = b) => lfollow_any N A n c L ix st W (hE.below hb) hl hix (fun e he => (hd e he).2) b hq
  have HCE := Lib.hid fun W (hb : Below w.heap.size w W) => lcopyE_any N A n c L W (hE.below hb) (by omega) (fun e he => Nat.le_trans (hd e he).1 (by decide))
  have HCS := Lib.hid fun W => lcopyS_any ix st cf dt W (by omega) (by omega)
  obtain ⟨m1, hm1⟩ : ∃ m1, (decide (0 ≤ ix) && decide (ix ≤ 1099511627776)) = m1 := ⟨_, rfl⟩
  obtain ⟨m2, hm2⟩ : ∃ m2, (decide (0 ≤ st) && decide (st ≤ 1099511627776)) = m2 := ⟨_, rfl⟩
  obtain ⟨m3, hm3⟩ : ∃ m3, flw13 ix st L = m3 := ⟨_, rfl⟩
  have hb : (m1 && m2 && decide (n ≤ 200) && m3) = b := by rw [← hb, ← hm1, ← hm2, ← hm3, hnL]; rfl
  have HM1 := HM1.out _ hm1
  have HM2 := HM2.out _ hm2
  have HF := Lib.hid fun W hb => HF.out W hb _ hm3
  have HN := Lib.hid hnL
  have hn4 : n ≤ 1000 := by omega
  clear hE hd hnL hix hm1 hm2 hm3
  obtain ⟨b0, hb0⟩ : ∃ b0, w.heap.size = b0 := ⟨_, rfl⟩
  obtain ⟨W0, hW0⟩ : ∃ W0, w.alloc (.cells #[.int .i64 ix, .int .i64 st, .string cf, .string dt] 23) = W0 := ⟨_, rfl⟩
  have hx : Rt W0 b0 23 [.int .i64 ix, .int .i64 st, .string cf, .string dt] := by rw [← hW0, ← hb0]; exact Rt.new _ _ _
  have hB : Below b0 w W0 := by rw [← hW0, ← hb0]; exact below_new _ _
  have d0 := hx.cell (j := 0) rfl
  have HM1 := Lib.hid HM1
  have HM2 := Lib.hid HM2
  show Calls _ _ #[.agg #[.int .i64 ix, .int .i64 st, .string cf, .string dt], .slice A n c] w _
  go_enter Try.func12, Try.ntmps12
  go_wp2_with fail
  refine (HM1.out _).mono ?_
  rintro e w1 ⟨rfl, q1⟩
  have hx1 := hx.below q1
  have hB1 := hB.trans (q1.mono (Nat.le_trans (by omega) hB.size))
  have d1 := hx1.cell (j := 1) rfl
  clear hx hB d0 q1
  cases m1 with
  | false =>
    go_wp2
    go_ret
    exact ⟨by rw [hb0]; exact hB1, .inl ⟨hb.symm, rfl⟩⟩
  | true =>
    go_wp2_with fail
    refine (HM2.out _).mono ?_
    rintro e w2 ⟨rfl, q2⟩
    have hx2 := hx1.below q2
    have hB2 := hB1.trans (q2.mono (Nat.le_trans (by omega) hB1.size))
    have d0 := hx2.cell (j := 0) rfl
    have d1 := hx2.cell (j := 1) rfl
    clear hx1 hB1 q2
    cases m2 with
    | false =>
      go_wp2
      go_ret
      exact ⟨by rw [hb0]; exact hB2, .inl ⟨hb.symm, rfl⟩⟩
    | true =>
      by_cases h200 : n ≤ 200
      · go_wp2_with fail
        refine (HF.out _ (by rw [hb0]; exact hB2)).mono ?_
        rintro e w3 ⟨rfl, q3⟩
        have hx3 := hx2.below q3
        have hB3 := hB2.trans (q3.mono (Nat.le_trans (by omega) hB2.size))
        clear hx2 hB2 q3 d0 d1
        cases m3 with
        | false =>
          go_wp2
          go_ret
          exact ⟨by rw [hb0]; exact hB3, .inl ⟨by rw [← hb]; simp, rfl⟩⟩
        | true =>
          have hbt : b = true := by rw [← hb]; simpa using h200
          subst hbt
          clear hb
          have d0 := hx3.cell (j := 0) rfl
          have d1 := hx3.cell (j := 1) rfl
          have d2 := hx3.cell (j := 2) rfl
          have d3 := hx3.cell (j := 3) rfl
          obtain ⟨zs, hzs⟩ : ∃ zs, w3.heap.size = zs := ⟨_, rfl⟩
          have hS0 : Below zs w3 w3 := Below.refl _ _
          go_wp2_with fail
          refine (HCS.out _).mono ?_
          rintro e k9 ⟨rfl, h⟩
          replace hS0 := hS0.trans (h.mono (by omega))
          clear h
          go_wp2_with fail
          refine (HCE.out _ (by rw [hb0]; exact hB3.trans (hS0.mono (by have := hB3.size; omega)))).mono ?_
          rintro e k10 ⟨v, rfl, hO, h⟩
          have hb9 : b0 ≤ k9.heap.size := Nat.le_trans (by have := hB3.size; omega) hS0.size
          replace hO := hO.down hb9
          replace hS0 := hS0.trans (h.mono (by rw [← hzs]; exact hS0.size))
          obtain ⟨A9, c9, hv9⟩ := hO.slice
          rw [← HN.out] at hv9
          subst hv9
          obtain ⟨W9, hW9⟩ : ∃ W9, k10.alloc (.cells #[.int .i64 ix, .int .i64 st, .string cf, .string dt, .slice A9 n c9] 67) = W9 := ⟨_, rfl⟩
          obtain ⟨g, hg⟩ : ∃ g, k10.heap.size = g := ⟨_, rfl⟩
          have hzg : zs ≤ g := by rw [← hg, ← hzs]; exact hS0.size
          have hRt : Rt W9 g 67 [.int .i64 ix, .int .i64 st, .string cf, .string dt, .slice A9 n c9] := by rw [← hW9, ← hg]; exact Rt.new _ _ _
          have hO9 : OwnEn b0 (.slice A9 n c9) L W9 := by rw [← hW9]; exact hO.below (below_new _ _)
          replace hS0 : Below zs w3 W9 := by rw [← hW9]; exact hS0.trans ((below_new _ _).mono (by omega))
          have HW9 := Lib.hid hW9
          clear hW9 hO h
          go_wp2
          rw [HW9.out]
          go_ret
          exact ⟨hB3.trans (hS0.mono (by have := hB3.size; omega)), g, rfl, by have := hB3.size; omega, _, hO9, ⟨hRt, hO9.down (Nat.zero_le _)⟩⟩
      · have hbf : b = false := by rw [← hb, show decide (n ≤ 200) = false from decide_eq_false h200]; cases m3 <;> rfl
        subst hbf
        go_wp2
        go_ret
        exact ⟨hB2, rfl⟩
end Go.Proofs.Ytmmlkfkepncpgaa
/-
  Package rlog's Snap, Get, Set.
  The conditions: those of its log.
-/
namespace Go.Proofs.Ytmmlkfkepncpgaa
open Go.RowKit Go.Deep
set_option maxRecDepth 100000

set_option maxHeartbeats 400000 in
theorem lsnap_any {w : World} {g : Nat} {v : Value} {r : Lg} (h : LB w g v r) (hk : Lok 1000000 r) :
    Calls Try.prog 32 #[.pointer (some ⟨g, 0, none⟩)] w fun e w' => e = .returned r.s.val ∧ Below w.heap.size w w' := by
  obtain ⟨A, c, rfl, hc, c0, c1, c2, c3, c4⟩ := h.parts
  have hz := hk.2.2.2.2
  obtain ⟨⟨ix, st, cf, dt⟩, hs⟩ : ∃ s, r.s = s := ⟨_, rfl⟩
  rw [hs] at c0 c1 c2 c3 hz ⊢
  simp only at c0 c1 c2 c3 hz
  have HC := Lib.hid fun W => lcopyS_any ix st cf dt W (by omega) (by omega)
  have hg := h.box.lt
  obtain ⟨b, hb0⟩ : ∃ b, w.heap.size = b := ⟨_, rfl⟩
  obtain ⟨W0, hW0⟩ : ∃ W0, w.alloc (.cells #[.int .i64 0, .int .i64 0, .string ⟨#[]⟩, .string ⟨#[]⟩] 23) = W0 := ⟨_, rfl⟩
  have hy : Rt W0 b 23 [.int .i64 0, .int .i64 0, .string ⟨#[]⟩, .string ⟨#[]⟩] := by rw [← hW0, ← hb0]; exact Rt.new _ _ _
  have hB : Below b w W0 := by rw [← hW0, ← hb0]; exact below_new _ _
  rw [hb0] at hg
  replace c0 := (hB.cell (p := ⟨g, 0, none⟩) hg).trans c0
  replace c1 := (hB.cell (p := ⟨g, 1, none⟩) hg).trans c1
  replace c2 := (hB.cell (p := ⟨g, 2, none⟩) hg).trans c2
  replace c3 := (hB.cell (p := ⟨g, 3, none⟩) hg).trans c3
  clear h hk hs
  show Calls _ _ _ _ fun e w' => e = .returned (.agg #[.int .i64 ix, .int .i64 st, .string cf, .string dt]) ∧ _
  go_enter Try.func32, Try.ntmps32
  go_wp2_with fail
  refine (HC.out _).mono ?_
  rintro e w1 ⟨rfl, hb⟩
  have hy1 := hy.below hb
  have hB1 := hB.trans (hb.mono (Nat.le_trans (by omega) hB.size))
  have d0 := hy1.cell (j := 0) rfl
  have d1 := hy1.cell (j := 1) rfl
  have d2 := hy1.cell (j := 2) rfl
  have d3 := hy1.cell (j := 3) rfl
  have f0 := hy1.frz 0
  have f1 := hy1.frz 1
  have f2 := hy1.frz 2
  have f3 := hy1.frz 3
  have hB4 := (((hB1.setCell (p := ⟨b, 0, none⟩) (Nat.le_refl b) (.int .i64 ix)).setCell (p := ⟨b, 1, none⟩) (Nat.le_refl b) (.int .i64 st)).setCell (p := ⟨b, 2, none⟩) (Nat.le_refl b) (.string cf)).setCell (p := ⟨b, 3, none⟩) (Nat.le_refl b) (.string dt)
  have hy4 := (((hy1.set 0 (.int .i64 ix)).set 1 (.int .i64 st)).set 2 (.string cf)).set 3 (.string dt)
  obtain ⟨W4, hW4⟩ : ∃ W4, (((w1.setCell ⟨b, 0, none⟩ (.int .i64 ix)).setCell ⟨b, 1, none⟩ (.int .i64 st)).setCell ⟨b, 2, none⟩ (.string cf)).setCell ⟨b, 3, none⟩ (.string dt) = W4 := ⟨_, rfl⟩
  rw [hW4] at hB4 hy4
  have g0 := hy4.cell (j := 0) rfl
  have g1 := hy4.cell (j := 1) rfl
  have g2 := hy4.cell (j := 2) rfl
  have g3 := hy4.cell (j := 3) rfl
  have HW4 := Lib.hid hW4
  clear hy hy1 hy4 hW4 hB hB1 hW0
  go_wp2
  rw [HW4.out]
  exact bodyPost_ret (v := .agg #[.int .i64 ix, .int .i64 st, .string cf, .string dt]) (by simp [results, Try.results32, go_sem, g0, g1, g2, g3]) rfl ⟨rfl, by first | exact hB4 | (rw [hb0]; exact hB4)⟩
set_option maxHeartbeats 400000 in
theorem lget_any {w : World} {g : Nat} {v : Value} {r : Lg} (h : LB w g v r) (hk : Lok 1000000 r) (i n : Int) (hn : -9223372036854775808 ≤ n ∧ n ≤ 9223372036854775807) :
    Calls Try.prog 26 #[.pointer (some ⟨g, 0, none⟩), .int .i64 i, .int .i64 n] w fun e w' => ∃ v', e = .returned v' ∧ OwnEn w.heap.size v' (get13 r i n) w' ∧ Below w.heap.size w w' := by
  have HF := Lib.hid (lfrom_any h hk i)
  have hsz : ∀ e ∈ frm13 r i, e.data.size ≤ 100000 := by
    intro e he
    unfold frm13 at he
    split at he
    · exact hk.2.2.2.1 e (List.mem_of_mem_drop he)
    · cases he
  have hfl : (frm13 r i).length ≤ 200 := by
    unfold frm13
    split
    · rw [List.length_drop]; have := hk.2.2.1; omega
    · simp
  unfold get13
  obtain ⟨F, hF⟩ : ∃ F, frm13 r i = F := ⟨_, rfl⟩
  rw [hF] at HF hsz hfl ⊢
  have HS := Lib.hid hsz
  have HL := Lib.hid hfl
  obtain ⟨S, hS⟩ : ∃ S : Nat → Prop, (fun j => v.ownBlock = some j) = S := ⟨_, rfl⟩
  rw [hS] at HF
  clear h hk hF hsz hfl hS
  obtain ⟨m, hm⟩ : ∃ m, F.length = m := ⟨_, rfl⟩
  have hfl := HL.out
  rw [hm] at hfl HF
  obtain ⟨q, hq⟩ : ∃ q : Nat, min (max n 0) (m : Int) = (q : Int) := ⟨(min (max n 0) (m : Int)).toNat, by omega⟩
  have hqm : q ≤ m := by omega
  have hqt : F.take n.toNat = F.take q := by
    by_cases h1 : n.toNat ≤ m
    · rw [show q = n.toNat by omega]
    · rw [List.take_of_length_le (by omega), List.take_of_length_le (by omega)]
  rw [hqt]
  have HM := Lib.hid hm
  have HQ := Lib.hid hq
  have hq2 : (max n 0 < (m : Int) → max n 0 = (q : Int)) ∧ (¬ max n 0 < (m : Int) → m = q) := by omega
  clear hqt hm
  go_enter Try.func26, Try.ntmps26
  go_wp2_with fail
  refine HF.out.mono ?_
  rintro e w1 ⟨A, c, rfl, hE, hb⟩
  have hmc := hE.len.2
  have hT := hE.take q (by rw [HM.out]; exact hqm)
  have HC := Lib.hid fun W (hb : Below w1.heap.size w1 W) => lcopyE_any S A q c (F.take q) W (hT.below hb) (by rw [List.length_take]; omega) (fun e he => Nat.le_trans (HS.out e (List.mem_of_mem_take he)) (by decide))
  clear hT hE
  go_wp2_with fail
  refine (HC.out w1 (Below.refl _ _)).mono ?_
  rintro e w2 ⟨v', rfl, hO, hb2⟩
  obtain ⟨A9, c9, hv9⟩ := hO.slice
  obtain ⟨q9, hq9⟩ : ∃ q9, (F.take q).length = q9 := ⟨_, rfl⟩
  rw [hq9] at hv9
  subst hv9
  have HO := Lib.hid hO
  clear hO hq9
  go_wp2
  go_ret
  exact ⟨_, rfl, HO.out.down hb.size, hb.trans (hb2.mono hb.size)⟩
set_option maxHeartbeats 400000 in
theorem lset_any {N : Nat → Prop} {m m' : Nat} {w : World} {g : Nat} {r : Lg} (h : LK N m w g r) (s : Snp) (hs : Lok m' ⟨s, []⟩) :
    Calls Try.prog 18 #[.pointer (some ⟨g, 0, none⟩), s.val] w fun e w' => (∃ v, e = .returned v) ∧ LK N m' w' g ⟨s, []⟩ ∧ Std N w w' := by
  obtain ⟨hk, ⟨v, hL, hv⟩, hg, hN⟩ := h
  have hz := hs.2.2.2.2
  have HS := Lib.hid hs
  obtain ⟨ix, st, cf, dt⟩ := s
  simp only at hz
  have HC := Lib.hid fun W => lcopyS_any ix st cf dt W (by omega) (by omega)
  have hgl := hL.box.lt
  obtain ⟨b, hb0⟩ : ∃ b, w.heap.size = b := ⟨_, rfl⟩
  obtain ⟨W0, hW0⟩ : ∃ W0, w.alloc (.cells #[.int .i64 ix, .int .i64 st, .string cf, .string dt] 23) = W0 := ⟨_, rfl⟩
  have hy : Rt W0 b 23 [.int .i64 ix, .int .i64 st, .string cf, .string dt] := by rw [← hW0, ← hb0]; exact Rt.new _ _ _
  have hB : Below w.heap.size w W0 := by rw [← hW0]; exact below_new _ _
  have d0 := hy.cell (j := 0) rfl
  have d1 := hy.cell (j := 1) rfl
  have d2 := hy.cell (j := 2) rfl
  have d3 := hy.cell (j := 3) rfl
  have HB := Lib.hid hB
  have HBOX := Lib.hid hL.box
  have HOWN := Lib.hid hv
  clear hs hk hL hB
  show Calls _ _ #[_, .agg #[.int .i64 ix, .int .i64 st, .string cf, .string dt]] w _
  go_enter Try.func18, Try.ntmps18
  go_wp2_with fail
  refine (HC.out _).mono ?_
  rintro e w1 ⟨rfl, hb⟩
  have hB1 := HB.out.trans (hb.mono HB.out.size)
  have hx := HBOX.out.below hB1
  have c0 := hx.cell (j := 0) rfl
  have c1 := hx.cell (j := 1) rfl
  have c2 := hx.cell (j := 2) rfl
  have c3 := hx.cell (j := 3) rfl
  have c4 := hx.cell (j := 4) rfl
  have f0 := hx.frz 0
  have f1 := hx.frz 1
  have f2 := hx.frz 2
  have f3 := hx.frz 3
  have f4 := hx.frz 4
  have hx5 := ((((hx.set 0 (.int .i64 ix)).set 1 (.int .i64 st)).set 2 (.string cf)).set 3 (.string dt)).set 4 (.slice none 0 0)
  have ho5 : Std N w (((((w1.setCell ⟨g, 0, none⟩ (.int .i64 ix)).setCell ⟨g, 1, none⟩ (.int .i64 st)).setCell ⟨g, 2, none⟩ (.string cf)).setCell ⟨g, 3, none⟩ (.string dt)).setCell ⟨g, 4, none⟩ (.slice none 0 0)) := Off.set (Off.set (Off.set (Off.set (Off.set (Std.of_below (N := N) hB1) (.inl hg)) (.inl hg)) (.inl hg)) (.inl hg)) (.inl hg)
  obtain ⟨W5, hW5⟩ : ∃ W5, ((((w1.setCell ⟨g, 0, none⟩ (.int .i64 ix)).setCell ⟨g, 1, none⟩ (.int .i64 st)).setCell ⟨g, 2, none⟩ (.string cf)).setCell ⟨g, 3, none⟩ (.string dt)).setCell ⟨g, 4, none⟩ (.slice none 0 0) = W5 := ⟨_, rfl⟩
  rw [hW5] at hx5 ho5
  have HW5 := Lib.hid hW5
  have HX5 := Lib.hid hx5
  have HO5 := Lib.hid ho5
  clear hx hx5 ho5 hb hB1 hy hW5
  go_wp2
  rw [HW5.out]
  go_end0
  exact ⟨⟨_, rfl⟩, ⟨HS.out, ⟨.slice none 0 0, ⟨HX5.out, OwnEn.nil _ _⟩, fun j hj => by cases hj⟩, hg, fun j hj => Nat.lt_of_lt_of_le (hN j hj) HO5.out.size⟩, HO5.out⟩
end Go.Proofs.Ytmmlkfkepncpgaa
/-
  Package rlog's put and Put.
  The conditions: those of its log; the row that is put has at most 1,000 entries.
-/
namespace Go.Proofs.Ytmmlkfkepncpgaa
open Go.RowKit Go.Deep
set_option maxRecDepth 100000

set_option maxHeartbeats 1000000 in
/-- put: all that follows its first entry's Index goes, or nothing changes -/
theorem lput_any (N : Nat → Prop) (m : Nat) (A : Option Addr) (n c : Nat) (e0 : Ent) (t : List Ent) {w : World} {g : Nat} {r : Lg} (h : LK N m w g r) (hm : m ≤ 900000) (hE : Ens N w (.slice A n c) (e0 :: t)) (hl : (e0 :: t).length ≤ 1000) (hd : ∀ e ∈ e0 :: t, e.data.size ≤ 100000) (hi : r.s.ix < e0.ix ∧ e0.ix ≤ lst13 r + 1) (b : Bool)
    (hb : (!(decide (e0.et < (trm13 r (e0.ix - 1)).1) || decide (200 < (e0.ix - 1 - r.s.ix).toNat + (e0 :: t).length))) = b) :
    Calls Try.prog 41 #[.pointer (some ⟨g, 0, none⟩), .slice A n c] w fun e w' => e = .returned (.bool b) ∧ LK N (m + 1000) w' g (if b = true then ⟨r.s, r.L.take (e0.ix - 1 - r.s.ix).toNat ++ e0 :: t⟩ else r) ∧ Std N w w' := by
  obtain ⟨r', hr'⟩ : ∃ r', (if b = true then ⟨r.s, r.L.take (e0.ix - 1 - r.s.ix).toNat ++ e0 :: t⟩ else r) = r' := ⟨_, rfl⟩
  rw [hr']
  obtain ⟨hk, ⟨v, hL, hv⟩, hg, hN⟩ := h
  obtain ⟨⟨x, y⟩, hxy⟩ : ∃ p, trm13 r (e0.ix - 1) = p := ⟨_, rfl⟩
  have hT := fun W (hb : Below w.heap.size w W) => lterm_any (hL.below hb) (hk.more (by omega)) (e0.ix - 1) x y hxy
  rw [hxy] at hb
  have HLK := Lib.hid hk
  obtain ⟨A1, c1, rfl, hc1, k0, k1, k2, k3, k4⟩ := hL.parts
  obtain ⟨h0, h1, h2⟩ := hk.ends
  have hnL : n = (e0 :: t).length := hE.len.1
  obtain ⟨⟨xi, xt, xk, xd⟩, hx⟩ : ∃ x, e0 = x := ⟨_, rfl⟩
  obtain ⟨a, o, rfl, ha, b0, b1, b2, b3⟩ := hE.four 0 (by simp) (by show e0 = _; exact hx)
  simp only [Nat.zero_mul, Nat.add_zero] at b0 b1 b2 b3
  have hgl := hL.box.lt
  obtain ⟨q, hq⟩ : ∃ q : Nat, xi - 1 - r.s.ix = (q : Int) := ⟨(xi - 1 - r.s.ix).toNat, by rw [hx] at hi; simp only at hi; omega⟩
  have hqL : q ≤ r.L.length := by rw [hx] at hi; simp only at hi; have := hi.2; unfold lst13 at this; omega
  have hee : e0.ix = xi := by rw [hx]
  have het : e0.et = xt := by rw [hx]
  rw [hee, het, hq, Int.toNat_natCast, ← hnL] at hb
  rw [hee, hq, Int.toNat_natCast] at hr'
  simp only [hee] at hT
  rw [hee] at hi
  have hn0 : 0 < n := by rw [hnL]; simp
  have hn4 : n ≤ 1000 := by omega
  have hbxi : -9223372036854775808 ≤ xi - 1 ∧ xi ≤ 9223372036854775807 := by
    have := hi.2; unfold lst13 at this; omega
  obtain ⟨ix, hix⟩ : ∃ ix, r.s.ix = ix := ⟨_, rfl⟩
  rw [hix] at k0 hq h0 h1
  obtain ⟨rn, hrn⟩ : ∃ rn, r.L.length = rn := ⟨_, rfl⟩
  rw [hrn] at k4 hqL hc1 h2
  have HT := Lib.hid hT
  have HR := Lib.hid hr'
  have HE := Lib.hid hE
  have HD := Lib.hid hd
  have HL := Lib.hid hL
  have HV := Lib.hid hv
  have HNL := Lib.hid hnL
  have HRN := Lib.hid hrn
  have HQ := Lib.hid hqL
  have HI := Lib.hid hi
  have HIX := Lib.hid hix
  clear hr' hT hE hd hL hv hnL hx hxy hk hrn hee het hi k1 k2 k3 hix
  go_enter Try.func41, Try.ntmps41
  go_wp2_with fail
  refine (HT.out w (Below.refl _ _)).mono ?_
  rintro e w1 ⟨rfl, hb1⟩
  have d0 := (hb1.cell (p := ⟨a, o, none⟩) ha).trans b0
  have d1 := (hb1.cell (p := ⟨a, o + 1, none⟩) ha).trans b1
  have l4 := (hb1.cell (p := ⟨g, 4, none⟩) hgl).trans k4
  by_cases hxt : xt < x
  · have hbf : b = false := by rw [← hb, show decide (xt < x) = true from decide_eq_true hxt]; rfl
    subst hbf
    clear hb
    have hrr : r' = r := HR.out.symm
    subst hrr
    go_wp2
    go_ret
    exact ⟨rfl, ⟨HLK.out.more (by omega), ⟨_, HL.out.below hb1, HV.out⟩, hg, fun j hj => Nat.lt_of_lt_of_le (hN j hj) hb1.size⟩, Std.of_below hb1⟩
  · by_cases hqn : 200 < q + n
    · have hbf : b = false := by rw [← hb, show decide (200 < q + n) = true from decide_eq_true hqn]; simp
      subst hbf
      clear hb
      have hrr : r' = r := HR.out.symm
      subst hrr
      have hqi : 200 < (q : Int) + (n : Int) := by omega
      go_wp2
      go_ret
      exact ⟨rfl, ⟨HLK.out.more (by omega), ⟨_, HL.out.below hb1, HV.out⟩, hg, fun j hj => Nat.lt_of_lt_of_le (hN j hj) hb1.size⟩, Std.of_below hb1⟩
    · have hbt : b = true := by rw [← hb, show decide (xt < x) = false from decide_eq_false hxt, show decide (200 < q + n) = false from decide_eq_false hqn]; rfl
      subst hbt
      clear hb
      go_wp2_with fail
      obtain ⟨zs, hzs⟩ : ∃ zs, w1.heap.size = zs := ⟨_, rfl⟩
      have hbz : Below w.heap.size w w1.drew := hb1.drew
      replace l4 : w1.drew.cell? ⟨g, 4, none⟩ = some (.slice A1 rn c1) := l4
      refine wp_region_noPanic ?_
      refine region_g 16 (fun W => W.cell? ⟨g, 4, none⟩ = some (.slice A1 rn c1)) (by kernel_rfl) ?_
      generalize w1.drew = k5 at *
      have hHeld : (fun W : World => W.cell? ⟨g, 4, none⟩ = some (.slice A1 rn c1)) k5 := l4
      refine tkL 0 (.pointer (some ⟨g, 0, none⟩)) rfl (fun w hSw => ?_) ?_
      · (try dsimp only at hSw)
        go_simp
      try simp only [Act.put, List.setIfInBounds_toArray, List.set_cons_zero, List.set_cons_succ]
      refine tkL 1 (.pointer (some ⟨g, 0, none⟩)) rfl (fun w hSw => ?_) ?_
      · (try dsimp only at hSw)
        go_simp
      try simp only [Act.put, List.setIfInBounds_toArray, List.set_cons_zero, List.set_cons_succ]
      refine tkL 2 (.pointer (some ⟨g, 0, none⟩)) rfl (fun w hSw => ?_) ?_
      · (try dsimp only at hSw)
        go_simp
      try simp only [Act.put, List.setIfInBounds_toArray, List.set_cons_zero, List.set_cons_succ]
      refine tkL 3 (.pointer (some ⟨g, 4, none⟩)) rfl (fun w hSw => ?_) ?_
      · (try dsimp only at hSw)
        go_simp
      try simp only [Act.put, List.setIfInBounds_toArray, List.set_cons_zero, List.set_cons_succ]
      refine tkL 4 (.slice A1 rn c1) rfl (fun w hSw => ?_) ?_
      · (try dsimp only at hSw)
        go_simp
      try simp only [Act.put, List.setIfInBounds_toArray, List.set_cons_zero, List.set_cons_succ]
      refine tkL 5 (.int .i64 q) rfl (fun w hSw => ?_) ?_
      · (try dsimp only at hSw)
        go_simp
      try simp only [Act.put, List.setIfInBounds_toArray, List.set_cons_zero, List.set_cons_succ]
      refine tkL 6 (.pointer (some ⟨g, 0, none⟩)) rfl (fun w hSw => ?_) ?_
      · (try dsimp only at hSw)
        go_simp
      try simp only [Act.put, List.setIfInBounds_toArray, List.set_cons_zero, List.set_cons_succ]
      refine tkL 7 (.pointer (some ⟨g, 0, none⟩)) rfl (fun w hSw => ?_) ?_
      · (try dsimp only at hSw)
        go_simp
      try simp only [Act.put, List.setIfInBounds_toArray, List.set_cons_zero, List.set_cons_succ]
      refine tkL 8 (.pointer (some ⟨g, 4, none⟩)) rfl (fun w hSw => ?_) ?_
      · (try dsimp only at hSw)
        go_simp
      try simp only [Act.put, List.setIfInBounds_toArray, List.set_cons_zero, List.set_cons_succ]
      refine tkL 9 (.slice A1 rn c1) rfl (fun w hSw => ?_) ?_
      · (try dsimp only at hSw)
        go_simp
      try simp only [Act.put, List.setIfInBounds_toArray, List.set_cons_zero, List.set_cons_succ]
      refine tkL 10 (.int .i64 rn) rfl (fun w hSw => ?_) ?_
      · (try dsimp only at hSw)
        go_simp
      try simp only [Act.put, List.setIfInBounds_toArray, List.set_cons_zero, List.set_cons_succ]
      refine tkL 11 (.slice (some ⟨a, o, none⟩) n c) rfl (fun w hSw => ?_) ?_
      · (try dsimp only at hSw)
        go_simp
      try simp only [Act.put, List.setIfInBounds_toArray, List.set_cons_zero, List.set_cons_succ]
      refine stM 12 rfl (fun K hK => ?_)
      go_simp
      go_at_call 37
      refine (lcopyE_any N _ n c (e0 :: t) _ (HE.out.below hbz) (by omega) (fun e he => Nat.le_trans (HD.out e he) (by decide))).mono ?_
      rintro e k9 ⟨v9, rfl, hO9, h9⟩
      have hb9 := hbz.trans (h9.mono hbz.size)
      have hL9 := HL.out.below hb9
      have l4 := hL9.box.cell (j := 4) (v := .slice A1 rn c1) (by rw [← HRN.out]; rfl)
      obtain ⟨a9, c9, rfl⟩ : ∃ a9 c9, v9 = .slice (some a9) n c9 := by
        obtain ⟨A9, c9, hv9⟩ := hO9.slice
        rw [← HNL.out] at hv9
        rcases hO9.2 with ⟨e1, e2⟩ | ⟨g', c', cur, e1, _⟩
        · rw [← HNL.out] at e2; omega
        · exact ⟨_, c', by rw [e1, ← HNL.out]⟩
      have HO9 := Lib.hid hO9
      have HL9 := Lib.hid hL9
      clear hO9 hL9 h9
      clear hHeld
      have hHeld : (fun W : World => W.cell? ⟨g, 4, none⟩ = some (.slice A1 rn c1)) _ := l4
      refine hK.out _ _ (.inr hHeld) ?_
      clear hK K
      try simp only [Act.put, List.setIfInBounds_toArray, List.set_cons_zero, List.set_cons_succ]
      refine stM 13 rfl (fun K hK => ?_)
      go_simp
      go_at_call 54
      refine (kreplace_any _ A1 q rn c1 n c9 a9 r.L (e0 :: t) k9 (by have := HL9.out.own; rw [HRN.out] at this; exact this) (Ens.of_own HO9.out) hn0 hqL (by rw [HRN.out, ← HNL.out]; omega)).mono ?_
      rintro e k10 ⟨v10, rfl, hO10, hG10⟩
      have hgb : ∀ j, (Value.slice A1 rn c1).ownBlock = some j → j ≠ g := fun j hj e => by
        subst e
        have := HL9.out.ne
        rw [HRN.out] at this
        exact this hj
      have hx10 : Rt k10 g 67 (lcs13 r (.slice A1 rn c1)) := by
        have := (hG10.1.block g HL9.out.box.lt (fun e => hgb g e.symm rfl)).trans HL9.out.box
        rw [HRN.out] at this; exact this
      have l4 := hx10.cell (j := 4) (v := .slice A1 rn c1) rfl
      have f4 := hx10.frz 4
      have ho10 : Std N w k10 := (Std.of_below hb9).grown hG10.1 (fun j hj => .inl fun hn => HV.out j (by rw [HRN.out]; exact hj) hn)
      have hnew : ∀ j, v10.ownBlock = some j → ¬ N j := by
        intro j hj hn
        rcases hG10.2 with e | e
        · exact HV.out j (by rw [HRN.out, ← e]; exact hj) hn
        · rw [e] at hj; injection hj with hj
          have := hN j hn
          have := hb9.size
          omega
      have hx11 := hx10.set 4 v10
      have ho11 : Std N w (k10.setCell ⟨g, 4, none⟩ v10) := Off.set ho10 (.inl hg)
      have hO11 : OwnEn 0 v10 (r.L.take q ++ e0 :: t) (k10.setCell ⟨g, 4, none⟩ v10) := hO10.off (S := fun j => j = g) ((Off.refl _ k10).set (.inl rfl)) (fun j hj e => by subst e; exact own_ne11 log_ne_entry hx10 hO10 hj)
      obtain ⟨A10, c10, hv10⟩ := hO10.slice
      obtain ⟨n10, hn10⟩ : ∃ n10, (r.L.take q ++ e0 :: t).length = n10 := ⟨_, rfl⟩
      rw [hn10] at hv10
      subst hv10
      have HX11 := Lib.hid hx11
      have HO11 := Lib.hid ho11
      have HW11 := Lib.hid hO11
      clear hx11 ho11 hO11 hO10 hG10 ho10 hn10
      clear hHeld
      have hHeld : (fun W : World => W.cell? ⟨g, 4, none⟩ = some (.slice A1 rn c1)) _ := l4
      refine hK.out _ _ (.inr hHeld) ?_
      clear hK K
      try simp only [Act.put, List.setIfInBounds_toArray, List.set_cons_zero, List.set_cons_succ]
      refine stM 14 rfl (fun K hK => ?_)
      go_simp
      clear hHeld
      have hHeld : (fun W : World => W.cell? ⟨g, 4, none⟩ = some (.slice A1 rn c1)) _ := l4
      refine hK.out _ _ (.inr hHeld) ?_
      clear hK K
      try simp only [Act.put, List.setIfInBounds_toArray, List.set_cons_zero, List.set_cons_succ]
      refine stM 15 rfl (fun K hK => ?_)
      go_simp
      clear hHeld
      have hHeld : (fun W : World => W.cell? ⟨g, 4, none⟩ = some (.slice A1 rn c1)) _ := l4
      refine hK.out _ _ (.inr hHeld) ?_
      clear hK K
      try simp only [Act.put, List.setIfInBounds_toArray, List.set_cons_zero, List.set_cons_succ]
      refine stM 16 rfl (fun K hK => ?_)
      go_simp
      obtain ⟨W11, hW11⟩ : ∃ W11, k10.setCell ⟨g, 4, none⟩ (.slice A10 n10 c10) = W11 := ⟨_, rfl⟩
      rw [hW11]
      rw [hW11] at HX11 HO11 HW11
      clear hW11
      refine hK.out _ _ (.inl (by decide)) ?_
      clear hK K
      try simp only [Act.put, List.setIfInBounds_toArray, List.set_cons_zero, List.set_cons_succ]
      refine anyG_done (by kernel_rfl) ?_ _
      refine NoPanic.normal ?_
      go_wp2
      go_ret
      have hr2 : r' = ⟨r.s, r.L.take q ++ e0 :: t⟩ := HR.out.symm
      have hk := HLK.out
      refine ⟨rfl, ⟨?_, ⟨_, ⟨by rw [hr2]; exact HX11.out, by rw [hr2]; exact HW11.out⟩, hnew⟩, hg, fun j hj => Nat.lt_of_lt_of_le (hN j hj) HO11.out.size⟩, HO11.out⟩
      rw [hr2]
      have h9 := hk.2.1
      refine ⟨hk.1, ?_, ?_, fun e he => ?_, hk.2.2.2.2⟩
      · unfold lst13 at h9 ⊢
        simp only [List.length_append, List.length_take]
        rw [HRN.out] at h9 ⊢
        rw [← HNL.out]
        omega
      · simp only [List.length_append, List.length_take]
        rw [HRN.out, ← HNL.out]
        omega
      · rcases List.mem_append.1 he with h | h
        · exact hk.2.2.2.1 e (List.mem_of_mem_take h)
        · exact HD.out e h
end Go.Proofs.Ytmmlkfkepncpgaa
/-
  slices.IndexFunc of a row of entries, by what a log lacks.
  The conditions: 1,000 entries at most, and those of the log.
-/
namespace Go.Proofs.Ytmmlkfkepncpgaa
open Go.RowKit Go.Deep
set_option maxRecDepth 100000

/-- the place of the first entry that is not there -/
def idx13 (r : Lg) (L : List Ent) : Option Nat := L.findIdx? (lck13 r)
def idxI13 (r : Lg) (L : List Ent) : Int := match idx13 r L with | none => -1 | some k => (k : Int)
theorem rst13_idx (r : Lg) (L : List Ent) : rst13 r L = match idx13 r L with | none => [] | some k => L.drop k := by
  unfold rst13 idx13
  induction L with
  | nil => rfl
  | cons x t ih =>
    rw [List.dropWhile_cons, List.findIdx?_cons]
    cases hx : lck13 r x with
    | true => rfl
    | false =>
      simp only [Bool.not_false, if_true, Bool.false_eq_true, if_false]
      rw [ih]
      cases t.findIdx? (lck13 r) <;> rfl
theorem idx13_lt {r : Lg} {L : List Ent} {k : Nat} (h : idx13 r L = some k) : k < L.length := by
  unfold idx13 at h
  exact (List.findIdx?_eq_some_iff_getElem.1 h).1
theorem idxI13_at {r : Lg} {L : List Ent} {k : Nat} (hk : k < L.length) (h : ∀ j (hj : j < k), lck13 r (L[j]'(by omega)) = false) (h2 : lck13 r L[k] = true) : idxI13 r L = (k : Int) := by
  have : idx13 r L = some k := List.findIdx?_eq_some_iff_getElem.2 ⟨hk, h2, fun j hj => by simpa using h j hj⟩
  unfold idxI13; rw [this]
theorem idxI13_none {r : Lg} {L : List Ent} (h : ∀ j (hj : j < L.length), lck13 r L[j] = false) : idxI13 r L = -1 := by
  have : idx13 r L = none := List.findIdx?_eq_none_iff.2 fun x hx => by
    obtain ⟨j, hj, e⟩ := List.mem_iff_getElem.1 hx
    rw [← e]; exact h j hj
  unfold idxI13; rw [this]
set_option maxHeartbeats 1000000 in
theorem lindex_any (N : Nat → Prop) (A : Option Addr) (n c : Nat) (L : List Ent) {w : World} {g : Nat} {v : Value} {r : Lg} (h : LB w g v r) (hk : Lok 1000000 r) (hE : Ens N w (.slice A n c) L) (hl : L.length ≤ 1000) (i : Int) (hi : idxI13 r L = i) :
    Calls Try.prog 39 #[.slice A n c, .func (.func 40) #[.pointer (some ⟨g, 0, none⟩)] #[]] w fun e w' => e = .returned (.int .i64 i) ∧ Below w.heap.size w w' := by
  have hnL : n = L.length := hE.len.1
  have HK := Lib.hid fun W (hb : Below w.heap.size w W) x b hq => llacks_any (h.below hb) hk x b hq
  have HE := Lib.hid hE
  have HN := Lib.hid hnL
  have HI := Lib.hid hi
  have hn4 : n ≤ 1000 := by omega
  clear h hk hE hnL hi
  go_enter Try.func39, Try.ntmps39
  go_wp2_with fail
  go_loopw [8] (fun i wr => ∃ k : Nat, i = .int .i64 k ∧ k ≤ n ∧ Below w.heap.size w wr ∧ ∀ j (hj : j < L.length), j < k → lck13 r L[j] = false) (fun i _ => n - (intOf i).toNat)
  case atStart => exact ⟨0, rfl, Nat.zero_le _, Below.refl _ _, fun j _ h => absurd h (Nat.not_lt_zero _)⟩
  case round =>
    obtain ⟨k, rfl, hk, hb, hno⟩ := hrel
    have HNO := Lib.hid hno
    clear hno
    by_cases hkn : k < n
    · have hkL : k < L.length := by rw [← HN.out]; exact hkn
      have hki : (k : Int) < (n : Int) := by omega
      obtain ⟨⟨xk, yk, zk, dk⟩, hxk⟩ : ∃ x, L[k] = x := ⟨_, rfl⟩
      obtain ⟨a, o, rfl, ha, b0, b1, b2, b3⟩ := (HE.out.below hb).four k hkL hxk
      obtain ⟨q, hq⟩ : ∃ q, lck13 r ⟨xk, yk, zk, dk⟩ = q := ⟨_, rfl⟩
      have HC := Lib.hid (HK.out wr hb ⟨xk, yk, zk, dk⟩ q hq)
      have HX := Lib.hid hxk
      have HQ := Lib.hid hq
      clear hxk hq
      go_wp2_with fail
      refine HC.out.mono ?_
      rintro e w1 ⟨rfl, hb1⟩
      have hb2 := hb.trans (hb1.mono hb.size)
      cases q with
      | true =>
        have hz : i = (k : Int) := by
          rw [← HI.out]
          exact idxI13_at hkL (fun j hj => HNO.out j (by omega) hj) (by rw [HX.out]; exact HQ.out)
        subst hz
        go_wp2
        go_ret
        exact ⟨rfl, hb2⟩
      | false =>
        go_wp2
        go_roundw
        case rel =>
          refine ⟨k + 1, by go_num, by omega, hb2, fun j hj hjk => ?_⟩
          by_cases e : j = k
          · subst e; rw [HX.out]; exact HQ.out
          · exact HNO.out j hj (by omega)
        case measure => first | (simp [intOf]; omega) | (simp [intOf]; done)
    · have hkn2 : k = n := by omega
      subst hkn2
      have hz : i = -1 := by
        rw [← HI.out]
        exact idxI13_none fun j hj => HNO.out j hj (by rw [HN.out]; exact hj)
      subst hz
      go_wp2
      go_ret
      exact ⟨rfl, hb⟩
end Go.Proofs.Ytmmlkfkepncpgaa
/-
  Package rlog's Put.
  The conditions: those of its log; the row that is put has at most 200 entries.
-/
namespace Go.Proofs.Ytmmlkfkepncpgaa
open Go.RowKit Go.Deep
set_option maxRecDepth 100000

set_option maxHeartbeats 1000000 in
theorem lPut_any (N : Nat → Prop) (m : Nat) (A : Option Addr) (n c : Nat) (L : List Ent) {w : World} {g : Nat} {r : Lg} (h : LK N m w g r) (hm : m ≤ 900000) (hE : Ens N w (.slice A n c) L) (hl : L.length ≤ 1000) (hd : ∀ e ∈ L, e.data.size ≤ 100000 ∧ -9223372036854775808 ≤ e.ix ∧ e.ix ≤ 9223372036854775807) (r' : Lg) (i : Int) (b : Bool) (hp : put13 r L = (r', i, b)) :
    Calls Try.prog 14 #[.pointer (some ⟨g, 0, none⟩), .slice A n c] w fun e w' => e = .returned (.tuple #[.int .i64 i, .bool b]) ∧ LK N (m + 1000) w' g r' ∧ Std N w w' := by
  obtain ⟨v, hL, hk⟩ := h.get (by omega)
  cases L with
  | nil =>
    have hn : n = 0 := hE.len.1
    subst hn
    have hp : (r, (0 : Int), true) = (r', i, b) := hp
    injection hp with e1 e2
    injection e2 with e2 e3
    subst e1; subst e2; subst e3
    clear hE hd hL hk
    go_enter Try.func14, Try.ntmps14
    go_wp2
    go_ret2
    exact ⟨rfl, h.more (by omega), Std.refl _ _⟩
  | cons e0 t =>
    obtain ⟨⟨xi, xt, xk, xd⟩, hx⟩ : ∃ x, e0 = x := ⟨_, rfl⟩
    have hx0 := (hd e0 (by simp)).2
    have hnL : n = t.length + 1 := hE.len.1
    obtain ⟨a, o, rfl, ha, b0, b1, b2, b3⟩ := hE.four 0 (by simp) (by show e0 = _; exact hx)
    simp only [Nat.zero_mul, Nat.add_zero] at b0 b1 b2 b3
    have hnc := hE.len.2
    obtain ⟨U, hU, hdr⟩ : ∃ U : Value, ((c = 1 ∧ n = 1 ∧ U = .slice (some ⟨a, o, none⟩) 0 0) ∨ (1 < c ∧ U = .slice (some ⟨a, o + 4, none⟩) (n - 1) (c - 1))) ∧ ∃ A' n' c', U = .slice A' n' c' ∧ Ens N w (.slice A' n' c') t := by
      have hd1 := hE.drop 1 (by simp)
      by_cases hc1 : c = 1
      · refine ⟨.slice (some ⟨a, o, none⟩) 0 0, .inl ⟨hc1, by omega, rfl⟩, _, 0, 0, rfl, ?_⟩
        have ht : t = [] := by
          have : t.length = 0 := by omega
          exact List.length_eq_zero_iff.1 this
        subst ht
        exact ⟨_, _, rfl, Nat.le_refl _, fun h => absurd h (by simp)⟩
      · rw [if_neg hc1, add_lit_10] at hd1
        refine ⟨.slice (some ⟨a, o + 4, none⟩) (n - 1) (c - 1), .inr ⟨by omega, rfl⟩, _, _, _, rfl, ?_⟩
        have e1 : n - 1 = (e0 :: t).length - 1 := by simp; omega
        rw [e1]
        exact hd1
    obtain ⟨Au, nu, cu, rfl, hdr⟩ := hdr
    obtain ⟨gp, hgp⟩ : ∃ gp, decide (lst13 r + 1 < xi) = gp := ⟨_, rfl⟩
    have hG := fun W (hb : Below w.heap.size w W) => lgap_any (hL.below hb) hk xi (by rw [hx] at hx0; simp only at hx0; omega) gp hgp
    obtain ⟨fl, hfl⟩ : ∃ fl, flw13 xi xt t = fl := ⟨_, rfl⟩
    have hF := fun W (hb : Below w.heap.size w W) => lfollow_any N Au nu cu t xi xt W (hdr.below hb) (by simp only [List.length_cons] at hl; omega) (by rw [hx] at hx0; exact hx0) (fun e he => (hd e (by simp [he])).2) fl hfl
    have hee : e0.ix = xi := by rw [hx]
    have het : e0.et = xt := by rw [hx]
    have hp2 : (if gp = true ∨ fl = false then (r, (0 : Int), false) else match rst13 r (e0 :: t) with
      | [] => (r, (0 : Int), true)
      | e :: u => if e.et < (trm13 r (e.ix - 1)).1 ∨ 200 < (e.ix - 1 - r.s.ix).toNat + (e :: u).length then (r, 0, false) else (⟨r.s, r.L.take (e.ix - 1 - r.s.ix).toNat ++ e :: u⟩, e.ix, true)) = (r', i, b) := by
      rw [← hp, ← hgp, ← hfl]
      unfold put13
      simp only [hee, het, decide_eq_true_eq]
      rfl
    have HG := Lib.hid hG
    have HU := Lib.hid hU
    have HF := Lib.hid hF
    have HP := Lib.hid hp2
    have HE := Lib.hid hE
    have HH := Lib.hid h
    have HD := Lib.hid hd
    have HX := Lib.hid hx
    have HGP := Lib.hid hgp
    have HFL := Lib.hid hfl
    have HLB := Lib.hid hL
    have HNL := Lib.hid hnL
    clear hU hG hF hp hp2 hE h hd hx hgp hfl hL hnL hdr hee het
    have hn1 : 1 ≤ n := by rw [HNL.out]; omega
    have hn0 : 0 < n := hn1
    have hnz : ¬ n = 0 := by omega
    obtain ⟨iq, hiq⟩ : ∃ iq, idxI13 r (e0 :: t) = iq := ⟨_, rfl⟩
    have HIQ := Lib.hid hiq
    clear hiq
    go_enter Try.func14, Try.ntmps14
    cases gp with
    | true =>
      have hp3 : (r, (0 : Int), false) = (r', i, b) := by have := HP.out; rw [if_pos (.inl rfl)] at this; exact this
      injection hp3 with e1 e2
      injection e2 with e2 e3
      subst e1; subst e2; subst e3
      go_wp2_with fail
      have B0 := Lib.hid b0
      have B1 := Lib.hid b1
      have hb1 : Below w.heap.size w w.drew := (Below.refl _ _).drew
      replace b0 : w.drew.cell? ⟨a, o, none⟩ = some (.int .i64 xi) := b0
      replace b1 : w.drew.cell? ⟨a, o + 1, none⟩ = some (.int .i64 xt) := b1
      refine wp_region_noPanic ?_
      refine wp_region_held_drew (S := fun W => W.cell? ⟨a, o, none⟩ = some (.int .i64 xi) ∧ W.cell? ⟨a, o + 1, none⟩ = some (.int .i64 xt)) (by kernel_rfl) ?_ (fun hHeld => ?_)
      · exact ⟨b0, b1⟩
      generalize w.drew = k5 at *
      refine tkH 0 (.pointer (some ⟨g, 0, none⟩)) rfl (fun w hSw => ?_) ?_
      · (try dsimp only at hSw)
        obtain ⟨q0, q1⟩ := hSw
        go_simp
      try simp only [Act.put, List.setIfInBounds_toArray, List.set_cons_zero, List.set_cons_succ]
      refine tkH 1 (.slice (some ⟨a, o, none⟩) n c) rfl (fun w hSw => ?_) ?_
      · (try dsimp only at hSw)
        obtain ⟨q0, q1⟩ := hSw
        go_simp
      try simp only [Act.put, List.setIfInBounds_toArray, List.set_cons_zero, List.set_cons_succ]
      refine tkH 2 (.pointer (some ⟨a, o, none⟩)) rfl (fun w hSw => ?_) ?_
      · (try dsimp only at hSw)
        obtain ⟨q0, q1⟩ := hSw
        go_simp
      try simp only [Act.put, List.setIfInBounds_toArray, List.set_cons_zero, List.set_cons_succ]
      refine tkH 3 (.pointer (some ⟨a, o, none⟩)) rfl (fun w hSw => ?_) ?_
      · (try dsimp only at hSw)
        obtain ⟨q0, q1⟩ := hSw
        go_simp
      try simp only [Act.put, List.setIfInBounds_toArray, List.set_cons_zero, List.set_cons_succ]
      refine tkH 4 (.int .i64 xi) rfl (fun w hSw => ?_) ?_
      · (try dsimp only at hSw)
        obtain ⟨q0, q1⟩ := hSw
        go_simp
      try simp only [Act.put, List.setIfInBounds_toArray, List.set_cons_zero, List.set_cons_succ]
      refine stH 5 rfl (fun K hK => ?_)
      go_simp
      go_at_call 38
      refine (HG.out _ hb1).mono ?_
      rintro e k9 ⟨rfl, h⟩
      replace hb1 := hb1.trans (h.mono hb1.size)
      replace b0 := (hb1.cell (p := ⟨a, o, none⟩) ha).trans B0.out
      replace b1 := (hb1.cell (p := ⟨a, o + 1, none⟩) ha).trans B1.out
      clear h
      refine hK.out _ _ ?_ (fun hHeld => ?_)
      · exact ⟨b0, b1⟩
      clear hK K
      try simp only [Act.put, List.setIfInBounds_toArray, List.set_cons_zero, List.set_cons_succ]
      refine tkH 6 (.bool true) rfl (fun w hSw => ?_) ?_
      · (try dsimp only at hSw)
        obtain ⟨q0, q1⟩ := hSw
        go_simp
      try simp only [Act.put, List.setIfInBounds_toArray, List.set_cons_zero, List.set_cons_succ]
      refine skH 7 rfl ?_
      try simp only [Act.put, List.setIfInBounds_toArray, List.set_cons_zero, List.set_cons_succ]
      refine skH 8 rfl ?_
      try simp only [Act.put, List.setIfInBounds_toArray, List.set_cons_zero, List.set_cons_succ]
      refine skH 9 rfl ?_
      try simp only [Act.put, List.setIfInBounds_toArray, List.set_cons_zero, List.set_cons_succ]
      refine skH 10 rfl ?_
      try simp only [Act.put, List.setIfInBounds_toArray, List.set_cons_zero, List.set_cons_succ]
      refine skH 11 rfl ?_
      try simp only [Act.put, List.setIfInBounds_toArray, List.set_cons_zero, List.set_cons_succ]
      refine skH 12 rfl ?_
      try simp only [Act.put, List.setIfInBounds_toArray, List.set_cons_zero, List.set_cons_succ]
      refine skH 13 rfl ?_
      try simp only [Act.put, List.setIfInBounds_toArray, List.set_cons_zero, List.set_cons_succ]
      refine skH 14 rfl ?_
      try simp only [Act.put, List.setIfInBounds_toArray, List.set_cons_zero, List.set_cons_succ]
      refine skH 15 rfl ?_
      try simp only [Act.put, List.setIfInBounds_toArray, List.set_cons_zero, List.set_cons_succ]
      refine skH 16 rfl ?_
      try simp only [Act.put, List.setIfInBounds_toArray, List.set_cons_zero, List.set_cons_succ]
      refine skH 17 rfl ?_
      try simp only [Act.put, List.setIfInBounds_toArray, List.set_cons_zero, List.set_cons_succ]
      refine skH 18 rfl ?_
      try simp only [Act.put, List.setIfInBounds_toArray, List.set_cons_zero, List.set_cons_succ]
      refine tkH 19 (.bool true) rfl (fun w hSw => ?_) ?_
      · (try dsimp only at hSw)
        obtain ⟨q0, q1⟩ := hSw
        go_simp
      try simp only [Act.put, List.setIfInBounds_toArray, List.set_cons_zero, List.set_cons_succ]
      refine wpAnyH_done (by kernel_rfl) ?_ _
      refine NoPanic.normal ?_
      go_wp2
      go_ret2
      exact ⟨rfl, (HH.out.more (by omega)).below hb1, Std.of_below hb1⟩
    | false =>
      go_wp2_with fail
      have B0 := Lib.hid b0
      have B1 := Lib.hid b1
      have hb1 : Below w.heap.size w w.drew := (Below.refl _ _).drew
      replace b0 : w.drew.cell? ⟨a, o, none⟩ = some (.int .i64 xi) := b0
      replace b1 : w.drew.cell? ⟨a, o + 1, none⟩ = some (.int .i64 xt) := b1
      refine wp_region_noPanic ?_
      refine wp_region_held_drew (S := fun W => W.cell? ⟨a, o, none⟩ = some (.int .i64 xi) ∧ W.cell? ⟨a, o + 1, none⟩ = some (.int .i64 xt)) (by kernel_rfl) ?_ (fun hHeld => ?_)
      · exact ⟨b0, b1⟩
      generalize w.drew = k5 at *
      refine tkH 0 (.pointer (some ⟨g, 0, none⟩)) rfl (fun w hSw => ?_) ?_
      · (try dsimp only at hSw)
        obtain ⟨q0, q1⟩ := hSw
        go_simp
      try simp only [Act.put, List.setIfInBounds_toArray, List.set_cons_zero, List.set_cons_succ]
      refine tkH 1 (.slice (some ⟨a, o, none⟩) n c) rfl (fun w hSw => ?_) ?_
      · (try dsimp only at hSw)
        obtain ⟨q0, q1⟩ := hSw
        go_simp
      try simp only [Act.put, List.setIfInBounds_toArray, List.set_cons_zero, List.set_cons_succ]
      refine tkH 2 (.pointer (some ⟨a, o, none⟩)) rfl (fun w hSw => ?_) ?_
      · (try dsimp only at hSw)
        obtain ⟨q0, q1⟩ := hSw
        go_simp
      try simp only [Act.put, List.setIfInBounds_toArray, List.set_cons_zero, List.set_cons_succ]
      refine tkH 3 (.pointer (some ⟨a, o, none⟩)) rfl (fun w hSw => ?_) ?_
      · (try dsimp only at hSw)
        obtain ⟨q0, q1⟩ := hSw
        go_simp
      try simp only [Act.put, List.setIfInBounds_toArray, List.set_cons_zero, List.set_cons_succ]
      refine tkH 4 (.int .i64 xi) rfl (fun w hSw => ?_) ?_
      · (try dsimp only at hSw)
        obtain ⟨q0, q1⟩ := hSw
        go_simp
      try simp only [Act.put, List.setIfInBounds_toArray, List.set_cons_zero, List.set_cons_succ]
      refine stH 5 rfl (fun K hK => ?_)
      go_simp
      go_at_call 38
      refine (HG.out _ hb1).mono ?_
      rintro e k9 ⟨rfl, h⟩
      replace hb1 := hb1.trans (h.mono hb1.size)
      replace b0 := (hb1.cell (p := ⟨a, o, none⟩) ha).trans B0.out
      replace b1 := (hb1.cell (p := ⟨a, o + 1, none⟩) ha).trans B1.out
      clear h
      refine hK.out _ _ ?_ (fun hHeld => ?_)
      · exact ⟨b0, b1⟩
      clear hK K
      try simp only [Act.put, List.setIfInBounds_toArray, List.set_cons_zero, List.set_cons_succ]
      refine tkH 6 (.bool false) rfl (fun w hSw => ?_) ?_
      · (try dsimp only at hSw)
        obtain ⟨q0, q1⟩ := hSw
        go_simp
      try simp only [Act.put, List.setIfInBounds_toArray, List.set_cons_zero, List.set_cons_succ]
      refine tkH 7 (.slice (some ⟨a, o, none⟩) n c) rfl (fun w hSw => ?_) ?_
      · (try dsimp only at hSw)
        obtain ⟨q0, q1⟩ := hSw
        go_simp
      try simp only [Act.put, List.setIfInBounds_toArray, List.set_cons_zero, List.set_cons_succ]
      refine tkH 8 (.pointer (some ⟨a, o, none⟩)) rfl (fun w hSw => ?_) ?_
      · (try dsimp only at hSw)
        obtain ⟨q0, q1⟩ := hSw
        go_simp
      try simp only [Act.put, List.setIfInBounds_toArray, List.set_cons_zero, List.set_cons_succ]
      refine tkH 9 (.pointer (some ⟨a, o, none⟩)) rfl (fun w hSw => ?_) ?_
      · (try dsimp only at hSw)
        obtain ⟨q0, q1⟩ := hSw
        go_simp
      try simp only [Act.put, List.setIfInBounds_toArray, List.set_cons_zero, List.set_cons_succ]
      refine tkH 10 (.int .i64 xi) rfl (fun w hSw => ?_) ?_
      · (try dsimp only at hSw)
        obtain ⟨q0, q1⟩ := hSw
        go_simp
      try simp only [Act.put, List.setIfInBounds_toArray, List.set_cons_zero, List.set_cons_succ]
      refine tkH 11 (.slice (some ⟨a, o, none⟩) n c) rfl (fun w hSw => ?_) ?_
      · (try dsimp only at hSw)
        obtain ⟨q0, q1⟩ := hSw
        go_simp
      try simp only [Act.put, List.setIfInBounds_toArray, List.set_cons_zero, List.set_cons_succ]
      refine tkH 12 (.pointer (some ⟨a, o, none⟩)) rfl (fun w hSw => ?_) ?_
      · (try dsimp only at hSw)
        obtain ⟨q0, q1⟩ := hSw
        go_simp
      try simp only [Act.put, List.setIfInBounds_toArray, List.set_cons_zero, List.set_cons_succ]
      refine tkH 13 (.pointer (some ⟨a, o + 1, none⟩)) rfl (fun w hSw => ?_) ?_
      · (try dsimp only at hSw)
        obtain ⟨q0, q1⟩ := hSw
        go_simp
      try simp only [Act.put, List.setIfInBounds_toArray, List.set_cons_zero, List.set_cons_succ]
      refine tkH 14 (.int .i64 xt) rfl (fun w hSw => ?_) ?_
      · (try dsimp only at hSw)
        obtain ⟨q0, q1⟩ := hSw
        go_simp
      try simp only [Act.put, List.setIfInBounds_toArray, List.set_cons_zero, List.set_cons_succ]
      refine tkH 15 (.slice (some ⟨a, o, none⟩) n c) rfl (fun w hSw => ?_) ?_
      · (try dsimp only at hSw)
        obtain ⟨q0, q1⟩ := hSw
        go_simp
      try simp only [Act.put, List.setIfInBounds_toArray, List.set_cons_zero, List.set_cons_succ]
      refine tkH 16 (.slice Au nu cu) rfl (fun w hSw => ?_) ?_
      · (try dsimp only at hSw)
        obtain ⟨q0, q1⟩ := hSw
        rcases HU.out with ⟨q2, q3, q4⟩ | ⟨q2, q4⟩
        · injection q4 with e1 e2 e3; subst q2; subst q3; subst e1; subst e2; subst e3; go_simp
        injection q4 with e1 e2 e3
        subst e1; subst e2; subst e3
        have hc2 : ¬ c = 1 := by omega
        have hni : (1 : Int) ≤ (n : Int) := by omega
        go_simp
      try simp only [Act.put, List.setIfInBounds_toArray, List.set_cons_zero, List.set_cons_succ]
      refine stH 17 rfl (fun K hK => ?_)
      go_simp
      go_at_call 35
      refine (HF.out _ hb1).mono ?_
      rintro e k10 ⟨rfl, h⟩
      replace hb1 := hb1.trans (h.mono hb1.size)
      replace b0 := (hb1.cell (p := ⟨a, o, none⟩) ha).trans B0.out
      replace b1 := (hb1.cell (p := ⟨a, o + 1, none⟩) ha).trans B1.out
      clear h
      refine hK.out _ _ ?_ (fun hHeld => ?_)
      · exact ⟨b0, b1⟩
      clear hK K
      try simp only [Act.put, List.setIfInBounds_toArray, List.set_cons_zero, List.set_cons_succ]
      refine tkH 18 (.bool (!fl)) rfl (fun w hSw => ?_) ?_
      · (try dsimp only at hSw)
        obtain ⟨q0, q1⟩ := hSw
        go_simp
      try simp only [Act.put, List.setIfInBounds_toArray, List.set_cons_zero, List.set_cons_succ]
      refine tkH 19 (.bool (!fl)) rfl (fun w hSw => ?_) ?_
      · (try dsimp only at hSw)
        obtain ⟨q0, q1⟩ := hSw
        go_simp
      try simp only [Act.put, List.setIfInBounds_toArray, List.set_cons_zero, List.set_cons_succ]
      refine wpAnyH_done (by kernel_rfl) ?_ _
      refine NoPanic.normal ?_
      cases fl with
      | false =>
        have hp3 : (r, (0 : Int), false) = (r', i, b) := by have := HP.out; rw [if_pos (.inr rfl)] at this; exact this
        injection hp3 with e1 e2
        injection e2 with e2 e3
        subst e1; subst e2; subst e3
        go_wp2
        go_ret2
        exact ⟨rfl, (HH.out.more (by omega)).below hb1, Std.of_below hb1⟩
      | true =>
        have hp3 := HP.out
        rw [if_neg (by simp)] at hp3
        go_wp2_with fail
        refine (lindex_any N _ n c (e0 :: t) (HLB.out.below hb1) hk (HE.out.below hb1) (by omega) iq HIQ.out).mono ?_
        rintro e w3 ⟨rfl, h3⟩
        replace hb1 := hb1.trans (h3.mono hb1.size)
        clear h3
        rw [rst13_idx] at hp3
        have hiq := HIQ.out
        unfold idxI13 at hiq
        cases hix : idx13 r (e0 :: t) with
        | none =>
          rw [hix] at hp3 hiq
          have hp4 : (r, (0 : Int), true) = (r', i, b) := hp3
          have hq1 : -1 = iq := hiq
          injection hp4 with e1 e2
          injection e2 with e2 e3
          subst e1; subst e2; subst e3; subst hq1
          clear hp3 hix hiq
          go_wp2
          go_ret2
          exact ⟨rfl, (HH.out.more (by omega)).below hb1, Std.of_below hb1⟩
        | some k =>
          rw [hix] at hp3 hiq
          have hq1 : (k : Int) = iq := hiq
          subst hq1
          have hkl := idx13_lt hix
          have hrst : rst13 r (e0 :: t) = (e0 :: t).drop k := by rw [rst13_idx, hix]
          have hHX := HX.out
          obtain ⟨e9, u9, hdk⟩ : ∃ e9 u9, (e0 :: t).drop k = e9 :: u9 := ⟨_, _, List.drop_eq_getElem_cons hkl⟩
          have hek : (e0 :: t)[k] = e9 := by
            rw [List.drop_eq_getElem_cons hkl] at hdk
            injection hdk
          have hgp2 : ¬ lst13 r + 1 < xi := by simpa using HGP.out
          have hin := rst13_ix (r := r) (e0 := e0) (t := t) (by rw [hHX]; show xi ≤ lst13 r + 1; omega) (by rw [hHX]; exact HFL.out) (hrst.trans hdk)
          have hEk := (HE.out.below hb1).drop k (by omega)
          have hkn : k < n := by rw [HNL.out]; simpa using hkl
          rw [if_neg (by have := HE.out.len.2; omega), add_lit_10, hdk] at hEk
          have hdk2 : ∀ e ∈ e9 :: u9, e.data.size ≤ 100000 := fun e he => (HD.out e (List.mem_of_mem_drop (by rw [hdk]; exact he))).1
          have hlk : (e9 :: u9).length = n - k := by
            have h7 : ((e0 :: t).drop k).length = (e0 :: t).length - k := List.length_drop
            rw [hdk] at h7
            rw [h7, HNL.out]; rfl
          simp only [hdk] at hp3
          obtain ⟨c9, hc9⟩ : ∃ c9, (!(decide (e9.et < (trm13 r (e9.ix - 1)).1) || decide (200 < (e9.ix - 1 - r.s.ix).toNat + (e9 :: u9).length))) = c9 := ⟨_, rfl⟩
          have hlen2 : (e0 :: t).length - k = n - k := by rw [HNL.out]; rfl
          rw [hlen2] at hEk
          have hput := lput_any N m _ (n - k) (c - k) e9 u9 (HH.out.below hb1) hm hEk (by rw [hlk]; omega) hdk2 hin c9 hc9
          obtain ⟨⟨yi, yt, yk, yd⟩, hy9⟩ : ∃ y, e9 = y := ⟨_, rfl⟩
          obtain ⟨a2, o2, ea, ha2, y0, y1, y2, y3⟩ := (HE.out).four k hkl (by first | exact hek.trans hy9 | (rw [hek]; exact hy9))
          injection ea with ea; injection ea with ea1 ea2
          subst ea1; subst ea2
          have hki : (k : Int) < (n : Int) := by omega
          have hki2 : (k : Int) ≤ (n : Int) := by omega
          have hkc : ¬ c = k := by have := HE.out.len.2; omega
          have HPUT := Lib.hid hput
          have hy9i : e9.ix = yi := by rw [hy9]
          have HP3 := Lib.hid hp3
          have HC9 := Lib.hid hc9
          have HNE := Lib.hid (fun W (ho : Std N w W) => (ho.ens HE.out).four k hkl (by first | exact hek.trans hy9 | (rw [hek]; exact hy9)))
          have HB1 := Lib.hid hb1
          have HYI := Lib.hid hy9i
          clear hp3 hix hiq hkl hrst hHX hdk hek hgp2 hin hEk hdk2 hlk hc9 hlen2 hput hy9 y0 y1 y2 y3 hb1 hy9i
          go_wp2_with fail
          refine HPUT.out.mono ?_
          rintro e w4 ⟨rfl, hLK4, hS4⟩
          cases c9 with
          | false =>
            have hp5 : (r, (0 : Int), false) = (r', i, b) := by
              have h1 := HC9.out
              rw [← HP3.out, if_pos (by
                have h2 : e9.et < (trm13 r (e9.ix - 1)).1 ∨ 200 < (e9.ix - 1 - r.s.ix).toNat + (e9 :: u9).length := by
                  rcases Bool.eq_false_or_eq_true (decide (e9.et < (trm13 r (e9.ix - 1)).1)) with h3 | h3
                  · exact .inl (of_decide_eq_true h3)
                  · rw [h3, Bool.false_or] at h1
                    exact .inr (of_decide_eq_true (by simpa only [Bool.not_eq_false'] using h1))
                exact h2)]
            injection hp5 with e1 e2
            injection e2 with e2 e3
            subst e1; subst e2; subst e3
            have HL4 := Lib.hid hLK4
            clear hLK4
            go_wp2
            go_ret2
            exact ⟨rfl, HL4.out, (Std.of_below HB1.out).trans hS4⟩
          | true =>
            have hp5 : (⟨r.s, r.L.take (e9.ix - 1 - r.s.ix).toNat ++ e9 :: u9⟩, e9.ix, true) = (r', i, b) := by
              have h1 := HC9.out
              rw [← HP3.out, if_neg (by simpa [Bool.or_eq_true] using h1)]
            rw [HYI.out] at hp5
            injection hp5 with e1 e2
            injection e2 with e2 e3
            subst e1; subst e2; subst e3
            have hS5 := (Std.of_below (N := N) HB1.out).trans hS4
            obtain ⟨a3, o3, ea, ha3, y0, y1, y2, y3⟩ := HNE.out w4 hS5
            injection ea with ea; injection ea with ea1 ea2
            subst ea1; subst ea2
            have HL4 := Lib.hid hLK4
            clear hLK4
            go_wp2
            go_ret2
            exact ⟨by first | rfl | (rw [HYI.out]; rfl) | (rw [← HYI.out]; rfl), by have := HL4.out; first | exact this | (rw [HYI.out] at this; exact this), hS5⟩
end Go.Proofs.Ytmmlkfkepncpgaa
/-
  slices.Delete of the first entries of a row; package rlog's Pack.
  The conditions: those of its log.
-/
namespace Go.Proofs.Ytmmlkfkepncpgaa
open Go.RowKit Go.Deep
set_option maxRecDepth 100000

theorem nat_back13 (m j : Nat) : m + j - j = m := Nat.add_sub_cancel _ _
/-- entries appended where there is room, as one operation -/
theorem wp_append_fits {w : World} {o : Oper} {a : Act} {K : Act → World → Prop} {Q : Exit → Act → World → Prop} (s x : Operand)
    (ho : o.op = .call { callee := .builtin .append, args := #[s, x], argTypes := #[24, 24] })
    (g i cap : Nat) (L M : List Ent) (p : Addr) (m c : Nat) (N : Nat → Prop) (hs : a.eval s = .slice (some ⟨g, 0, none⟩) i cap) (hown : OwnEn 0 (.slice (some ⟨g, 0, none⟩) i cap) L w) (hx : a.eval x = .slice (some p) m c) (hM : Ens N w (.slice (some p) m c) M) (hl : i + m ≤ cap)
    (h : ∀ w', OwnEn 0 (.slice (some ⟨g, 0, none⟩) (i + m) cap) (L ++ M) w' → w.grownBy w' (some g) → K (a.put o.dst (.slice (some ⟨g, 0, none⟩) (i + m) cap)) w') : o.wp Try.prog a w K Q := by
  obtain ⟨iO, hiO, hzO0, hzO1, hzO2⟩ := info_parts Try.infoEn
  have h1 := (Ens.of_own hown).len.1
  have h2 := hM.len.1
  have hown' : w.ownsRow 0 51 4 (.slice (some ⟨g, 0, none⟩) i cap) i (L.flatMap Ent.cs) := by rw [h1] at hown ⊢; exact hown
  obtain ⟨w', hr, g1, g2⟩ := run_append_fits (P := Try.prog) w 0 24 o.type 51 iO 4 Try.underlying24 hiO hzO1 g i cap _ hown' p m c (M.flatMap Ent.cs) (by rw [ents_len, h2]) (En.news hM) (ents_one M) hl
  unfold Oper.wp
  simp only [execOp, ho, resolve, invoke, builtin, Sem.run_bind, Sem.run_pure, Result.andThen_ok, List.map_toArray, List.map_cons, List.map_nil, hs, hx, hr]
  refine h w' ?_ g2
  unfold OwnEn
  rw [List.length_append, List.flatMap_append, ← h1, ← h2]
  exact g1
set_option maxHeartbeats 400000 in
theorem ldelete_any (A : Option Addr) (m c j : Nat) (L : List Ent) (w : World) (hL : OwnEn 0 (.slice A (m + j) c) L w) (h1 : 1 ≤ j) (hl : L.length ≤ 1050000) :
    Calls Try.prog 44 #[.slice A (m + j) c, .int .i64 0, .int .i64 j] w (Rew (.slice A (m + j) c) (L.drop j) w) := by
  have hn : m + j ≤ c := (Ens.of_own hL).len.2
  have hnL : m + j = L.length := (Ens.of_own hL).len.1
  obtain ⟨g, rfl⟩ : ∃ g, A = some ⟨g, 0, Option.none⟩ := by
    rcases hL.2 with ⟨hv, h2⟩ | ⟨g', c', cur, hv, _⟩
    · omega
    · injection hv with e1 _ _
      exact ⟨g', e1⟩
  have HT := Lib.hid (hL.take (j := 0) (Nat.zero_le _))
  have hdl : (L.drop j).length = m := by rw [List.length_drop, ← hnL]; omega
  have hd := (Ens.of_own hL).drop j (by omega)
  rw [← hnL, nat_back13] at hd
  obtain ⟨M, hM⟩ : ∃ M, L.drop j = M := ⟨_, rfl⟩
  rw [hM] at hd hdl ⊢
  have HDL := Lib.hid hdl
  have hij : ((0 : Int) == (j : Int)) = false := by simp; omega
  have hji : (j : Int) ≤ ((m + j : Nat) : Int) := by omega
  have hj0 : ¬ (j : Int) < 0 := by omega
  have hcm : ¬ c = m := by omega
  clear hL hdl hnL hM
  obtain ⟨B, hB, hd⟩ : ∃ B, (if c = j then some (⟨g, 0, none⟩ : Addr) else (some (⟨g, 0, none⟩ : Addr)).map (·.add (j * 4))) = some B ∧ Ens (fun i => (Value.slice (some ⟨g, 0, none⟩) (m + j) c).ownBlock = some i) w (.slice (some B) m (c - j)) M := by
    by_cases hcj : c = j
    · rw [if_pos hcj] at hd ⊢
      exact ⟨_, rfl, hd⟩
    · rw [if_neg hcj, add_lit_10] at hd ⊢
      exact ⟨_, rfl, hd⟩
  have HD := Lib.hid hd
  rw [add_lit_10, Nat.zero_add] at hB
  clear hd
  go_enter Try.func44, Try.ntmps44
  have hjm : ¬ ((m : Int) + (j : Int) < (j : Int)) := by omega
  go_wp2_with fail
  have HT := Lib.hid (HT.out.below (show Below w.heap.size w w.drew from (Below.refl _ _).drew))
  have HD := Lib.hid (HD.out.below (show Below w.heap.size w w.drew from (Below.refl _ _).drew))
  have hgd : w.grownBy w.drew (some g) := ⟨rfl, rfl, rfl, Nat.le_refl _, fun _ _ _ => rfl⟩
  refine wp_region_noPanic ?_
  refine wp_region_held_drew (S := fun W => True) (by kernel_rfl) ?_ (fun hHeld => ?_)
  · exact trivial
  generalize w.drew = k5 at *
  refine tkH 0 (.slice (some ⟨g, 0, none⟩) (m + j) c) rfl (fun w hSw => ?_) ?_
  · (try dsimp only at hSw)
    go_simp
  try simp only [Act.put, List.setIfInBounds_toArray, List.set_cons_zero, List.set_cons_succ]
  refine tkH 1 (.int .i64 0) rfl (fun w hSw => ?_) ?_
  · (try dsimp only at hSw)
    go_simp
  try simp only [Act.put, List.setIfInBounds_toArray, List.set_cons_zero, List.set_cons_succ]
  refine tkH 2 (.slice (some ⟨g, 0, none⟩) 0 c) rfl (fun w hSw => ?_) ?_
  · (try dsimp only at hSw)
    go_simp
  try simp only [Act.put, List.setIfInBounds_toArray, List.set_cons_zero, List.set_cons_succ]
  refine tkH 3 (.slice (some ⟨g, 0, none⟩) (m + j) c) rfl (fun w hSw => ?_) ?_
  · (try dsimp only at hSw)
    go_simp
  try simp only [Act.put, List.setIfInBounds_toArray, List.set_cons_zero, List.set_cons_succ]
  refine tkH 4 (.int .i64 j) rfl (fun w hSw => ?_) ?_
  · (try dsimp only at hSw)
    go_simp
  try simp only [Act.put, List.setIfInBounds_toArray, List.set_cons_zero, List.set_cons_succ]
  refine tkH 5 (.slice (some B) m (c - j)) rfl (fun w hSw => ?_) ?_
  · (try dsimp only at hSw)
    go_simp
  try simp only [Act.put, List.setIfInBounds_toArray, List.set_cons_zero, List.set_cons_succ]
  refine stH 6 rfl (fun K hK => ?_)
  refine wp_append_fits (.tmp 22) (.tmp 25) rfl g 0 c _ _ _ _ _ _ rfl HT.out rfl HD.out (by omega) ?_
  intro w' g1 g2
  rw [Nat.zero_add] at g1 ⊢
  refine hK.out _ _ ?_ (fun hHeld => ?_)
  · exact trivial
  clear hK K
  try simp only [Act.put, List.setIfInBounds_toArray, List.set_cons_zero, List.set_cons_succ]
  refine tkH 7 (.slice (some ⟨g, 0, none⟩) m c) rfl (fun w hSw => ?_) ?_
  · (try dsimp only at hSw)
    go_simp
  try simp only [Act.put, List.setIfInBounds_toArray, List.set_cons_zero, List.set_cons_succ]
  refine wpAnyH_done (by kernel_rfl) ?_ _
  refine NoPanic.normal ?_
  have C := g1.cells
  obtain ⟨zs, hz, hcl⟩ := run_clear_En w' g (m * 4) j (c - m) (by omega) (fun i hi => C.1 _ (by omega)) (fun i _ => C.2 _)
  clear C
  have hmj : ¬ (m : Int) < 0 := by omega
  have hmj2 : (m : Int) ≤ (m : Int) + (j : Int) := by omega
  have hmc : (m : Int) + (j : Int) ≤ (c : Int) := by omega
  go_wp2
  go_ret
  exact ⟨_, rfl, own_clear g1 (by rw [HDL.out]; exact Nat.le_refl _), grown_trans10 hgd (grown_trans10 g2 (grown_setCells11 _ _ _)), .inl rfl⟩
end Go.Proofs.Ytmmlkfkepncpgaa
/-
  Package rlog's Pack.
  The conditions: those of its log; the snapshot's texts have at most 100,000 bytes.
-/
namespace Go.Proofs.Ytmmlkfkepncpgaa
open Go.RowKit Go.Deep
set_option maxRecDepth 100000

set_option maxHeartbeats 1000000 in
theorem lpack_any {N : Nat → Prop} {m : Nat} {w : World} {g : Nat} {r : Lg} (h : LK N m w g r) (hm : m ≤ 900000) (s : Snp) (hc : s.conf.size ≤ 100000) (hd : s.data.size ≤ 100000) (r' : Lg) (b : Bool) (hp : pck13 r s = (r', b)) :
    Calls Try.prog 17 #[.pointer (some ⟨g, 0, none⟩), s.val] w fun e w' => e = .returned (.bool b) ∧ LK N m w' g r' ∧ Std N w w' := by
  have hok := pck13_ok h.1 hc hd
  rw [hp] at hok
  have HOK := Lib.hid hok
  obtain ⟨hk, ⟨v, hL, hv⟩, hg, hN⟩ := h
  obtain ⟨fb, hfb⟩ : ∃ fb, fts13 r s.ix s.st = fb := ⟨_, rfl⟩
  have hF := fun W (hb : Below w.heap.size w W) => lfits_any (hL.below hb) (hk.more (by omega)) s.ix s.st fb hfb
  obtain ⟨A1, c1, rfl, hc1, k0, k1, k2, k3, k4⟩ := hL.parts
  obtain ⟨h0, h1, h2⟩ := hk.ends
  have hin : fb = true → r.s.ix < s.ix → s.ix ≤ lst13 r := by
    intro hf hi
    apply Classical.byContradiction
    intro hn
    rw [hf] at hfb
    unfold fts13 at hfb
    rw [trm13_out (by omega) (by omega)] at hfb
    simp at hfb
  obtain ⟨ix, st, cf, dt⟩ := s
  simp only at hc hd hfb hF hin
  have HC := Lib.hid fun W => lcopyS_any ix st cf dt W (by omega) (by omega)
  have hgl := hL.box.lt
  obtain ⟨b0, hb0⟩ : ∃ b0, w.heap.size = b0 := ⟨_, rfl⟩
  obtain ⟨W0, hW0⟩ : ∃ W0, w.alloc (.cells #[.int .i64 ix, .int .i64 st, .string cf, .string dt] 23) = W0 := ⟨_, rfl⟩
  have hy : Rt W0 b0 23 [.int .i64 ix, .int .i64 st, .string cf, .string dt] := by rw [← hW0, ← hb0]; exact Rt.new _ _ _
  have hb1 : Below w.heap.size w W0 := by rw [← hW0]; exact below_new _ _
  obtain ⟨rx, hrx⟩ : ∃ rx, r.s.ix = rx := ⟨_, rfl⟩
  rw [hrx] at k0 h0 h1 hin
  obtain ⟨n, hn⟩ : ∃ n, r.L.length = n := ⟨_, rfl⟩
  rw [hn] at k4 hc1 h2
  have d0 := hy.cell (j := 0) rfl
  have d1 := hy.cell (j := 1) rfl
  replace k0 := (hb1.cell (p := ⟨g, 0, none⟩) hgl).trans k0
  have hbl : b0 < W0.heap.size := hy.lt
  have HF := Lib.hid hF
  have HL := Lib.hid hL
  have HV := Lib.hid hv
  have HN := Lib.hid hn
  have HRX := Lib.hid hrx
  have HFB := Lib.hid hfb
  have HP := Lib.hid hp
  have HY := Lib.hid hy
  have HIN := Lib.hid hin
  have HK := Lib.hid hk
  clear hF hL hv hn hrx hfb hp hy hin hk hok k1 k2 k3 k4
  show Calls _ _ #[_, .agg #[.int .i64 ix, .int .i64 st, .string cf, .string dt]] w _
  go_enter Try.func17, Try.ntmps17
  by_cases hlt : rx < ix
  · go_wp2_with fail
    have hb1 : Below w.heap.size w W0.drew := hb1.drew
    have hy : Rt W0.drew b0 23 [.int .i64 ix, .int .i64 st, .string cf, .string dt] := HY.out
    replace hgl : g < W0.drew.heap.size := Nat.lt_of_lt_of_le hgl hb1.size
    replace k0 : W0.drew.cell? ⟨g, 0, none⟩ = some (.int .i64 rx) := k0
    replace d0 : W0.drew.cell? ⟨b0, 0, none⟩ = some (.int .i64 ix) := d0
    replace d1 : W0.drew.cell? ⟨b0, 1, none⟩ = some (.int .i64 st) := d1
    refine wp_region_noPanic ?_
    refine wp_region_held_drew (S := fun W => W.cell? ⟨g, 0, none⟩ = some (.int .i64 rx) ∧ W.cell? ⟨b0, 0, none⟩ = some (.int .i64 ix) ∧ W.cell? ⟨b0, 1, none⟩ = some (.int .i64 st)) (by kernel_rfl) ?_ (fun hHeld => ?_)
    · exact ⟨k0, d0, d1⟩
    generalize W0.drew = k5 at *
    refine tkH 0 (.pointer (some ⟨g, 0, none⟩)) rfl (fun w hSw => ?_) ?_
    · (try dsimp only at hSw)
      obtain ⟨q0, q1, q2⟩ := hSw
      go_simp
    try simp only [Act.put, List.setIfInBounds_toArray, List.set_cons_zero, List.set_cons_succ]
    refine tkH 1 (.bool false) rfl (fun w hSw => ?_) ?_
    · (try dsimp only at hSw)
      obtain ⟨q0, q1, q2⟩ := hSw
      go_simp
    try simp only [Act.put, List.setIfInBounds_toArray, List.set_cons_zero, List.set_cons_succ]
    refine tkH 2 (.bool false) rfl (fun w hSw => ?_) ?_
    · (try dsimp only at hSw)
      obtain ⟨q0, q1, q2⟩ := hSw
      go_simp
    try simp only [Act.put, List.setIfInBounds_toArray, List.set_cons_zero, List.set_cons_succ]
    refine tkH 3 (.pointer (some ⟨b0, 0, none⟩)) rfl (fun w hSw => ?_) ?_
    · (try dsimp only at hSw)
      obtain ⟨q0, q1, q2⟩ := hSw
      go_simp
    try simp only [Act.put, List.setIfInBounds_toArray, List.set_cons_zero, List.set_cons_succ]
    refine tkH 4 (.int .i64 ix) rfl (fun w hSw => ?_) ?_
    · (try dsimp only at hSw)
      obtain ⟨q0, q1, q2⟩ := hSw
      go_simp
    try simp only [Act.put, List.setIfInBounds_toArray, List.set_cons_zero, List.set_cons_succ]
    refine tkH 5 (.pointer (some ⟨g, 0, none⟩)) rfl (fun w hSw => ?_) ?_
    · (try dsimp only at hSw)
      obtain ⟨q0, q1, q2⟩ := hSw
      go_simp
    try simp only [Act.put, List.setIfInBounds_toArray, List.set_cons_zero, List.set_cons_succ]
    refine tkH 6 (.pointer (some ⟨g, 0, none⟩)) rfl (fun w hSw => ?_) ?_
    · (try dsimp only at hSw)
      obtain ⟨q0, q1, q2⟩ := hSw
      go_simp
    try simp only [Act.put, List.setIfInBounds_toArray, List.set_cons_zero, List.set_cons_succ]
    refine tkH 7 (.pointer (some ⟨g, 0, none⟩)) rfl (fun w hSw => ?_) ?_
    · (try dsimp only at hSw)
      obtain ⟨q0, q1, q2⟩ := hSw
      go_simp
    try simp only [Act.put, List.setIfInBounds_toArray, List.set_cons_zero, List.set_cons_succ]
    refine tkH 8 (.pointer (some ⟨g, 0, none⟩)) rfl (fun w hSw => ?_) ?_
    · (try dsimp only at hSw)
      obtain ⟨q0, q1, q2⟩ := hSw
      go_simp
    try simp only [Act.put, List.setIfInBounds_toArray, List.set_cons_zero, List.set_cons_succ]
    refine tkH 9 (.int .i64 rx) rfl (fun w hSw => ?_) ?_
    · (try dsimp only at hSw)
      obtain ⟨q0, q1, q2⟩ := hSw
      go_simp
    try simp only [Act.put, List.setIfInBounds_toArray, List.set_cons_zero, List.set_cons_succ]
    refine tkH 10 (.bool false) rfl (fun w hSw => ?_) ?_
    · (try dsimp only at hSw)
      obtain ⟨q0, q1, q2⟩ := hSw
      go_simp
    try simp only [Act.put, List.setIfInBounds_toArray, List.set_cons_zero, List.set_cons_succ]
    refine tkH 11 (.bool false) rfl (fun w hSw => ?_) ?_
    · (try dsimp only at hSw)
      obtain ⟨q0, q1, q2⟩ := hSw
      go_simp
    try simp only [Act.put, List.setIfInBounds_toArray, List.set_cons_zero, List.set_cons_succ]
    refine tkH 12 (.bool false) rfl (fun w hSw => ?_) ?_
    · (try dsimp only at hSw)
      obtain ⟨q0, q1, q2⟩ := hSw
      go_simp
    try simp only [Act.put, List.setIfInBounds_toArray, List.set_cons_zero, List.set_cons_succ]
    refine tkH 13 (.pointer (some ⟨g, 0, none⟩)) rfl (fun w hSw => ?_) ?_
    · (try dsimp only at hSw)
      obtain ⟨q0, q1, q2⟩ := hSw
      go_simp
    try simp only [Act.put, List.setIfInBounds_toArray, List.set_cons_zero, List.set_cons_succ]
    refine tkH 14 (.pointer (some ⟨b0, 0, none⟩)) rfl (fun w hSw => ?_) ?_
    · (try dsimp only at hSw)
      obtain ⟨q0, q1, q2⟩ := hSw
      go_simp
    try simp only [Act.put, List.setIfInBounds_toArray, List.set_cons_zero, List.set_cons_succ]
    refine tkH 15 (.int .i64 ix) rfl (fun w hSw => ?_) ?_
    · (try dsimp only at hSw)
      obtain ⟨q0, q1, q2⟩ := hSw
      go_simp
    try simp only [Act.put, List.setIfInBounds_toArray, List.set_cons_zero, List.set_cons_succ]
    refine tkH 16 (.pointer (some ⟨b0, 1, none⟩)) rfl (fun w hSw => ?_) ?_
    · (try dsimp only at hSw)
      obtain ⟨q0, q1, q2⟩ := hSw
      go_simp
    try simp only [Act.put, List.setIfInBounds_toArray, List.set_cons_zero, List.set_cons_succ]
    refine tkH 17 (.int .i64 st) rfl (fun w hSw => ?_) ?_
    · (try dsimp only at hSw)
      obtain ⟨q0, q1, q2⟩ := hSw
      go_simp
    try simp only [Act.put, List.setIfInBounds_toArray, List.set_cons_zero, List.set_cons_succ]
    refine stH 18 rfl (fun K hK => ?_)
    go_simp
    go_at_call 21
    refine (HF.out _ hb1).mono ?_
    rintro e k9 ⟨rfl, h⟩
    replace hb1 := hb1.trans (h.mono hb1.size)
    replace hy := hy.below h
    replace k0 := (h.cell (p := ⟨g, 0, none⟩) hgl).trans k0
    replace d0 := hy.cell (j := 0) rfl
    replace d1 := hy.cell (j := 1) rfl
    clear h
    refine hK.out _ _ ?_ (fun hHeld => ?_)
    · exact ⟨k0, d0, d1⟩
    clear hK K
    try simp only [Act.put, List.setIfInBounds_toArray, List.set_cons_zero, List.set_cons_succ]
    refine tkH 19 (.bool (!fb)) rfl (fun w hSw => ?_) ?_
    · (try dsimp only at hSw)
      obtain ⟨q0, q1, q2⟩ := hSw
      go_simp
    try simp only [Act.put, List.setIfInBounds_toArray, List.set_cons_zero, List.set_cons_succ]
    refine tkH 20 (.bool (!fb)) rfl (fun w hSw => ?_) ?_
    · (try dsimp only at hSw)
      obtain ⟨q0, q1, q2⟩ := hSw
      go_simp
    try simp only [Act.put, List.setIfInBounds_toArray, List.set_cons_zero, List.set_cons_succ]
    refine wpAnyH_done (by kernel_rfl) ?_ _
    refine NoPanic.normal ?_
    cases fb with
    | false =>
      have hp2 : (r, false) = (r', b) := by
        rw [← HP.out]; unfold pck13
        rw [if_neg (by rintro ⟨_, h⟩; rw [HFB.out] at h; exact absurd h (by simp))]
      injection hp2 with e1 e2
      subst e1; subst e2
      go_wp2
      go_ret
      exact ⟨rfl, ⟨HOK.out, ⟨_, HL.out.below hb1, HV.out⟩, hg, fun j hj => Nat.lt_of_lt_of_le (hN j hj) hb1.size⟩, Std.of_below hb1⟩
    | true =>
      have hp2 : (⟨⟨ix, st, cf, dt⟩, r.L.drop (ix - rx).toNat⟩, true) = (r', b) := by
        rw [← HP.out]; unfold pck13
        rw [if_pos ⟨by rw [HRX.out]; exact hlt, HFB.out⟩, HRX.out]
      injection hp2 with e1 e2
      subst e1; subst e2
      have hil := HIN.out rfl hlt
      have hil2 : ix ≤ rx + (n : Int) := by rw [← HRX.out, ← HN.out]; exact hil
      obtain ⟨q, hq⟩ : ∃ q : Nat, ix - rx = (q : Int) := ⟨(ix - rx).toNat, by omega⟩
      have hq1 : 1 ≤ q := by omega
      obtain ⟨mm, hmm⟩ : ∃ mm, n = mm + q := ⟨n - q, by omega⟩
      subst hmm
      have hk1 := HL.out.below hb1
      have k4 := hk1.box.cell (j := 4) rfl
      have f4 := hk1.box.frz 4
      rw [HN.out] at k4
      have HQ := Lib.hid hq
      have HK1 := Lib.hid hk1
      have hixb : -9223372036854775808 ≤ ix - rx ∧ ix - rx ≤ 9223372036854775807 := by omega
      clear hk1 hil hq1
      go_wp2_with fail
      have hb6 : Below w.heap.size w k9.drew := hb1.drew
      have HK6 := Lib.hid (HK1.out.below (show Below k9.heap.size k9 k9.drew from (Below.refl _ _).drew))
      have HY6 := Lib.hid (show Rt k9.drew b0 23 [.int .i64 ix, .int .i64 st, .string cf, .string dt] from hy)
      have hq1 : 1 ≤ q := by have := HQ.out; omega
      have hwq : IntKind.i64.wrap (q : Int) = (q : Int) := by rw [IntKind.wrap_i64]; have := HQ.out; omega
      replace k4 : k9.drew.cell? ⟨g, 4, none⟩ = some (.slice A1 (mm + q) c1) := k4
      replace k0 : k9.drew.cell? ⟨g, 0, none⟩ = some (.int .i64 rx) := k0
      replace d0 : k9.drew.cell? ⟨b0, 0, none⟩ = some (.int .i64 ix) := d0
      clear d1
      refine wp_region_noPanic ?_
      refine region_g 16 (fun W => W.cell? ⟨g, 4, none⟩ = some (.slice A1 (mm + q) c1) ∧ W.cell? ⟨b0, 0, none⟩ = some (.int .i64 ix) ∧ W.cell? ⟨g, 0, none⟩ = some (.int .i64 rx)) (by kernel_rfl) ?_
      generalize k9.drew = k6 at *
      have hHeld : (fun W : World => W.cell? ⟨g, 4, none⟩ = some (.slice A1 (mm + q) c1) ∧ W.cell? ⟨b0, 0, none⟩ = some (.int .i64 ix) ∧ W.cell? ⟨g, 0, none⟩ = some (.int .i64 rx)) k6 := ⟨k4, d0, k0⟩
      refine tkL 0 (.pointer (some ⟨g, 0, none⟩)) rfl (fun w hSw => ?_) ?_
      · (try dsimp only at hSw)
        obtain ⟨q0, q1, q2⟩ := hSw
        go_simp
      try simp only [Act.put, List.setIfInBounds_toArray, List.set_cons_zero, List.set_cons_succ]
      refine tkL 1 (.pointer (some ⟨g, 0, none⟩)) rfl (fun w hSw => ?_) ?_
      · (try dsimp only at hSw)
        obtain ⟨q0, q1, q2⟩ := hSw
        go_simp
      try simp only [Act.put, List.setIfInBounds_toArray, List.set_cons_zero, List.set_cons_succ]
      refine tkL 2 (.pointer (some ⟨g, 0, none⟩)) rfl (fun w hSw => ?_) ?_
      · (try dsimp only at hSw)
        obtain ⟨q0, q1, q2⟩ := hSw
        go_simp
      try simp only [Act.put, List.setIfInBounds_toArray, List.set_cons_zero, List.set_cons_succ]
      refine tkL 3 (.pointer (some ⟨g, 4, none⟩)) rfl (fun w hSw => ?_) ?_
      · (try dsimp only at hSw)
        obtain ⟨q0, q1, q2⟩ := hSw
        go_simp
      try simp only [Act.put, List.setIfInBounds_toArray, List.set_cons_zero, List.set_cons_succ]
      refine tkL 4 (.slice A1 (mm + q) c1) rfl (fun w hSw => ?_) ?_
      · (try dsimp only at hSw)
        obtain ⟨q0, q1, q2⟩ := hSw
        go_simp
      try simp only [Act.put, List.setIfInBounds_toArray, List.set_cons_zero, List.set_cons_succ]
      refine tkL 5 (.pointer (some ⟨b0, 0, none⟩)) rfl (fun w hSw => ?_) ?_
      · (try dsimp only at hSw)
        obtain ⟨q0, q1, q2⟩ := hSw
        go_simp
      try simp only [Act.put, List.setIfInBounds_toArray, List.set_cons_zero, List.set_cons_succ]
      refine tkL 6 (.int .i64 ix) rfl (fun w hSw => ?_) ?_
      · (try dsimp only at hSw)
        obtain ⟨q0, q1, q2⟩ := hSw
        go_simp
      try simp only [Act.put, List.setIfInBounds_toArray, List.set_cons_zero, List.set_cons_succ]
      refine tkL 7 (.pointer (some ⟨g, 0, none⟩)) rfl (fun w hSw => ?_) ?_
      · (try dsimp only at hSw)
        obtain ⟨q0, q1, q2⟩ := hSw
        go_simp
      try simp only [Act.put, List.setIfInBounds_toArray, List.set_cons_zero, List.set_cons_succ]
      refine tkL 8 (.pointer (some ⟨g, 0, none⟩)) rfl (fun w hSw => ?_) ?_
      · (try dsimp only at hSw)
        obtain ⟨q0, q1, q2⟩ := hSw
        go_simp
      try simp only [Act.put, List.setIfInBounds_toArray, List.set_cons_zero, List.set_cons_succ]
      refine tkL 9 (.pointer (some ⟨g, 0, none⟩)) rfl (fun w hSw => ?_) ?_
      · (try dsimp only at hSw)
        obtain ⟨q0, q1, q2⟩ := hSw
        go_simp
      try simp only [Act.put, List.setIfInBounds_toArray, List.set_cons_zero, List.set_cons_succ]
      refine tkL 10 (.pointer (some ⟨g, 0, none⟩)) rfl (fun w hSw => ?_) ?_
      · (try dsimp only at hSw)
        obtain ⟨q0, q1, q2⟩ := hSw
        go_simp
      try simp only [Act.put, List.setIfInBounds_toArray, List.set_cons_zero, List.set_cons_succ]
      refine tkL 11 (.int .i64 rx) rfl (fun w hSw => ?_) ?_
      · (try dsimp only at hSw)
        obtain ⟨q0, q1, q2⟩ := hSw
        go_simp
      try simp only [Act.put, List.setIfInBounds_toArray, List.set_cons_zero, List.set_cons_succ]
      refine tkL 12 (.int .i64 q) rfl (fun w hSw => ?_) ?_
      · (try dsimp only at hSw)
        obtain ⟨q0, q1, q2⟩ := hSw
        go_simp
      try simp only [Act.put, List.setIfInBounds_toArray, List.set_cons_zero, List.set_cons_succ]
      refine stM 13 rfl (fun K hK => ?_)
      go_simp
      go_at_call 44
      refine (ldelete_any A1 mm c1 q r.L k6 (by have := HK6.out.own; rw [HN.out] at this; exact this) hq1 (by rw [HN.out]; omega)).mono ?_
      rintro e k10 ⟨v10, rfl, hO10, hG10⟩
      have hown : ∀ j, (Value.slice A1 (mm + q) c1).ownBlock = some j → j ≠ g ∧ j ≠ b0 ∧ ¬ N j := fun j hj => by
        have hj2 : (Value.slice A1 r.L.length c1).ownBlock = some j := by rw [HN.out]; exact hj
        refine ⟨fun e => ?_, fun e => ?_, HV.out j hj2⟩
        · subst e; exact HL.out.ne hj2
        · have := (HL.out.own.lt j hj2).2; omega
      have hx10 : Rt k10 g 67 (lcs13 r (.slice A1 (mm + q) c1)) := by
        have := (hG10.1.block g HK6.out.box.lt (fun e => (hown g e.symm).1 rfl)).trans HK6.out.box
        rw [HN.out] at this; exact this
      have hy10 : Rt k10 b0 23 [.int .i64 ix, .int .i64 st, .string cf, .string dt] := (hG10.1.block b0 HY6.out.lt (fun e => (hown b0 e.symm).2.1 rfl)).trans HY6.out
      have ho10 : Std N w k10 := (Std.of_below hb6).grown hG10.1 (fun j hj => .inl (hown j hj).2.2)
      have hnew : ∀ j, v10.ownBlock = some j → ¬ N j := by
        intro j hj hn
        rcases hG10.2 with e | e
        · exact (hown j (e ▸ hj)).2.2 hn
        · rw [e] at hj; injection hj with hj
          have := hN j hn
          have := hb6.size
          omega
      have hdl : (r.L.drop q).length = mm := by rw [List.length_drop, HN.out]; omega
      obtain ⟨A10, c10, hv10⟩ := hO10.slice
      rw [hdl] at hv10
      subst hv10
      have k4 := hx10.cell (j := 4) (v := .slice A1 (mm + q) c1) rfl
      have k0 := hx10.cell (j := 0) (v := .int .i64 rx) (by rw [← HRX.out]; rfl)
      have d0 := hy10.cell (j := 0) rfl
      have f4 := hx10.frz 4
      have hx11 := hx10.set 4 (.slice A10 mm c10)
      have hgb : g ≠ b0 := by have := HL.out.box.lt; omega
      have hy11 := hy10.other (g' := g) 4 (.slice A10 mm c10) (Ne.symm hgb)
      have ho11 : Std N w (k10.setCell ⟨g, 4, none⟩ (.slice A10 mm c10)) := Off.set ho10 (.inl hg)
      have hO11 : OwnEn 0 (.slice A10 mm c10) (r.L.drop q) (k10.setCell ⟨g, 4, none⟩ (.slice A10 mm c10)) := hO10.off (S := fun j => j = g) ((Off.refl _ k10).set (.inl rfl)) (fun j hj e => by subst e; exact own_ne11 log_ne_entry hx10 hO10 hj)
      have HX11 := Lib.hid hx11
      have HY11 := Lib.hid hy11
      have HO11 := Lib.hid ho11
      have HW11 := Lib.hid hO11
      clear hx11 ho11 hO11 hO10 hG10 ho10 hy11 hy10 hx10
      clear hHeld
      have hHeld : (fun W : World => W.cell? ⟨g, 4, none⟩ = some (.slice A1 (mm + q) c1) ∧ W.cell? ⟨b0, 0, none⟩ = some (.int .i64 ix) ∧ W.cell? ⟨g, 0, none⟩ = some (.int .i64 rx)) _ := ⟨k4, d0, k0⟩
      refine hK.out _ _ (.inr hHeld) ?_
      clear hK K
      try simp only [Act.put, List.setIfInBounds_toArray, List.set_cons_zero, List.set_cons_succ]
      refine stM 14 rfl (fun K hK => ?_)
      go_simp
      clear hHeld
      have hHeld : (fun W : World => W.cell? ⟨g, 4, none⟩ = some (.slice A1 (mm + q) c1) ∧ W.cell? ⟨b0, 0, none⟩ = some (.int .i64 ix) ∧ W.cell? ⟨g, 0, none⟩ = some (.int .i64 rx)) _ := ⟨k4, d0, k0⟩
      refine hK.out _ _ (.inr hHeld) ?_
      clear hK K
      try simp only [Act.put, List.setIfInBounds_toArray, List.set_cons_zero, List.set_cons_succ]
      refine stM 15 rfl (fun K hK => ?_)
      go_simp
      clear hHeld
      have hHeld : (fun W : World => W.cell? ⟨g, 4, none⟩ = some (.slice A1 (mm + q) c1) ∧ W.cell? ⟨b0, 0, none⟩ = some (.int .i64 ix) ∧ W.cell? ⟨g, 0, none⟩ = some (.int .i64 rx)) _ := ⟨k4, d0, k0⟩
      refine hK.out _ _ (.inr hHeld) ?_
      clear hK K
      try simp only [Act.put, List.setIfInBounds_toArray, List.set_cons_zero, List.set_cons_succ]
      refine stM 16 rfl (fun K hK => ?_)
      go_simp
      obtain ⟨W11, hW11⟩ : ∃ W11, k10.setCell ⟨g, 4, none⟩ (.slice A10 mm c10) = W11 := ⟨_, rfl⟩
      rw [hW11]
      rw [hW11] at HX11 HO11 HW11 HY11
      clear hW11
      refine hK.out _ _ (.inl (by decide)) ?_
      clear hK K
      try simp only [Act.put, List.setIfInBounds_toArray, List.set_cons_zero, List.set_cons_succ]
      refine anyG_done (by kernel_rfl) ?_ _
      refine NoPanic.normal ?_
      clear k4 k0 d0 f4
      have d0 := HY11.out.cell (j := 0) rfl
      have d1 := HY11.out.cell (j := 1) rfl
      have d2 := HY11.out.cell (j := 2) rfl
      have d3 := HY11.out.cell (j := 3) rfl
      go_wp2_with fail
      refine (HC.out _).mono ?_
      rintro e k12 ⟨rfl, h12⟩
      have hx12 := HX11.out.below h12
      have ho12 := HO11.out.trans (Std.of_below h12)
      have hw12 := HW11.out.below h12
      have c0 := hx12.cell (j := 0) rfl
      have c1' := hx12.cell (j := 1) rfl
      have c2 := hx12.cell (j := 2) rfl
      have c3 := hx12.cell (j := 3) rfl
      have f0 := hx12.frz 0
      have f1 := hx12.frz 1
      have f2 := hx12.frz 2
      have f3 := hx12.frz 3
      have hx13 := (((hx12.set 0 (.int .i64 ix)).set 1 (.int .i64 st)).set 2 (.string cf)).set 3 (.string dt)
      have ho13 : Std N w ((((k12.setCell ⟨g, 0, none⟩ (.int .i64 ix)).setCell ⟨g, 1, none⟩ (.int .i64 st)).setCell ⟨g, 2, none⟩ (.string cf)).setCell ⟨g, 3, none⟩ (.string dt)) := Off.set (Off.set (Off.set (Off.set ho12 (.inl hg)) (.inl hg)) (.inl hg)) (.inl hg)
      have hsg : Off (fun j => j = g) k12 ((((k12.setCell ⟨g, 0, none⟩ (.int .i64 ix)).setCell ⟨g, 1, none⟩ (.int .i64 st)).setCell ⟨g, 2, none⟩ (.string cf)).setCell ⟨g, 3, none⟩ (.string dt)) := Off.set (Off.set (Off.set (Off.set (Off.refl _ k12) (.inl rfl)) (.inl rfl)) (.inl rfl)) (.inl rfl)
      have hw13 := hw12.off hsg (fun j hj e => by subst e; exact own_ne11 log_ne_entry hx12 hw12 hj)
      obtain ⟨W13, hW13⟩ : ∃ W13, (((k12.setCell ⟨g, 0, none⟩ (.int .i64 ix)).setCell ⟨g, 1, none⟩ (.int .i64 st)).setCell ⟨g, 2, none⟩ (.string cf)).setCell ⟨g, 3, none⟩ (.string dt) = W13 := ⟨_, rfl⟩
      rw [hW13] at hx13 ho13 hw13
      have HX13 := Lib.hid hx13
      have HO13 := Lib.hid ho13
      have HW13 := Lib.hid hw13
      have HE13 := Lib.hid hW13
      clear hx12 hx13 ho12 ho13 hw12 hw13 hsg hW13 h12
      go_wp2
      rw [HE13.out]
      go_ret
      have hdr : r.L.drop (ix - rx).toNat = r.L.drop q := by rw [HQ.out, Int.toNat_natCast]
      exact ⟨rfl, ⟨HOK.out, ⟨_, ⟨HX13.out, by rw [hdr]; exact HW13.out⟩, hnew⟩, hg, fun j hj => Nat.lt_of_lt_of_le (hN j hj) HO13.out.size⟩, HO13.out⟩
  · have hp2 : (r, false) = (r', b) := by
      rw [← HP.out]; unfold pck13
      rw [if_neg (by rintro ⟨h, _⟩; rw [HRX.out] at h; exact hlt h)]
    injection hp2 with e1 e2
    subst e1; subst e2
    go_wp2_with fail
    have hb1 : Below w.heap.size w W0.drew := hb1.drew
    have hy : Rt W0.drew b0 23 [.int .i64 ix, .int .i64 st, .string cf, .string dt] := HY.out
    replace hgl : g < W0.drew.heap.size := Nat.lt_of_lt_of_le hgl hb1.size
    replace k0 : W0.drew.cell? ⟨g, 0, none⟩ = some (.int .i64 rx) := k0
    replace d0 : W0.drew.cell? ⟨b0, 0, none⟩ = some (.int .i64 ix) := d0
    replace d1 : W0.drew.cell? ⟨b0, 1, none⟩ = some (.int .i64 st) := d1
    refine wp_region_noPanic ?_
    refine wp_region_held_drew (S := fun W => W.cell? ⟨g, 0, none⟩ = some (.int .i64 rx) ∧ W.cell? ⟨b0, 0, none⟩ = some (.int .i64 ix) ∧ W.cell? ⟨b0, 1, none⟩ = some (.int .i64 st)) (by kernel_rfl) ?_ (fun hHeld => ?_)
    · exact ⟨k0, d0, d1⟩
    generalize W0.drew = k5 at *
    refine tkH 0 (.pointer (some ⟨g, 0, none⟩)) rfl (fun w hSw => ?_) ?_
    · (try dsimp only at hSw)
      obtain ⟨q0, q1, q2⟩ := hSw
      go_simp
    try simp only [Act.put, List.setIfInBounds_toArray, List.set_cons_zero, List.set_cons_succ]
    refine tkH 1 (.bool false) rfl (fun w hSw => ?_) ?_
    · (try dsimp only at hSw)
      obtain ⟨q0, q1, q2⟩ := hSw
      go_simp
    try simp only [Act.put, List.setIfInBounds_toArray, List.set_cons_zero, List.set_cons_succ]
    refine tkH 2 (.bool false) rfl (fun w hSw => ?_) ?_
    · (try dsimp only at hSw)
      obtain ⟨q0, q1, q2⟩ := hSw
      go_simp
    try simp only [Act.put, List.setIfInBounds_toArray, List.set_cons_zero, List.set_cons_succ]
    refine tkH 3 (.pointer (some ⟨b0, 0, none⟩)) rfl (fun w hSw => ?_) ?_
    · (try dsimp only at hSw)
      obtain ⟨q0, q1, q2⟩ := hSw
      go_simp
    try simp only [Act.put, List.setIfInBounds_toArray, List.set_cons_zero, List.set_cons_succ]
    refine tkH 4 (.int .i64 ix) rfl (fun w hSw => ?_) ?_
    · (try dsimp only at hSw)
      obtain ⟨q0, q1, q2⟩ := hSw
      go_simp
    try simp only [Act.put, List.setIfInBounds_toArray, List.set_cons_zero, List.set_cons_succ]
    refine tkH 5 (.pointer (some ⟨g, 0, none⟩)) rfl (fun w hSw => ?_) ?_
    · (try dsimp only at hSw)
      obtain ⟨q0, q1, q2⟩ := hSw
      go_simp
    try simp only [Act.put, List.setIfInBounds_toArray, List.set_cons_zero, List.set_cons_succ]
    refine tkH 6 (.pointer (some ⟨g, 0, none⟩)) rfl (fun w hSw => ?_) ?_
    · (try dsimp only at hSw)
      obtain ⟨q0, q1, q2⟩ := hSw
      go_simp
    try simp only [Act.put, List.setIfInBounds_toArray, List.set_cons_zero, List.set_cons_succ]
    refine tkH 7 (.pointer (some ⟨g, 0, none⟩)) rfl (fun w hSw => ?_) ?_
    · (try dsimp only at hSw)
      obtain ⟨q0, q1, q2⟩ := hSw
      go_simp
    try simp only [Act.put, List.setIfInBounds_toArray, List.set_cons_zero, List.set_cons_succ]
    refine tkH 8 (.pointer (some ⟨g, 0, none⟩)) rfl (fun w hSw => ?_) ?_
    · (try dsimp only at hSw)
      obtain ⟨q0, q1, q2⟩ := hSw
      go_simp
    try simp only [Act.put, List.setIfInBounds_toArray, List.set_cons_zero, List.set_cons_succ]
    refine tkH 9 (.int .i64 rx) rfl (fun w hSw => ?_) ?_
    · (try dsimp only at hSw)
      obtain ⟨q0, q1, q2⟩ := hSw
      go_simp
    try simp only [Act.put, List.setIfInBounds_toArray, List.set_cons_zero, List.set_cons_succ]
    refine tkH 10 (.bool true) rfl (fun w hSw => ?_) ?_
    · (try dsimp only at hSw)
      obtain ⟨q0, q1, q2⟩ := hSw
      go_simp
    try simp only [Act.put, List.setIfInBounds_toArray, List.set_cons_zero, List.set_cons_succ]
    refine tkH 11 (.bool true) rfl (fun w hSw => ?_) ?_
    · (try dsimp only at hSw)
      obtain ⟨q0, q1, q2⟩ := hSw
      go_simp
    try simp only [Act.put, List.setIfInBounds_toArray, List.set_cons_zero, List.set_cons_succ]
    refine tkH 12 (.bool true) rfl (fun w hSw => ?_) ?_
    · (try dsimp only at hSw)
      obtain ⟨q0, q1, q2⟩ := hSw
      go_simp
    try simp only [Act.put, List.setIfInBounds_toArray, List.set_cons_zero, List.set_cons_succ]
    refine skH 13 rfl ?_
    try simp only [Act.put, List.setIfInBounds_toArray, List.set_cons_zero, List.set_cons_succ]
    refine skH 14 rfl ?_
    try simp only [Act.put, List.setIfInBounds_toArray, List.set_cons_zero, List.set_cons_succ]
    refine skH 15 rfl ?_
    try simp only [Act.put, List.setIfInBounds_toArray, List.set_cons_zero, List.set_cons_succ]
    refine skH 16 rfl ?_
    try simp only [Act.put, List.setIfInBounds_toArray, List.set_cons_zero, List.set_cons_succ]
    refine skH 17 rfl ?_
    try simp only [Act.put, List.setIfInBounds_toArray, List.set_cons_zero, List.set_cons_succ]
    refine skH 18 rfl ?_
    try simp only [Act.put, List.setIfInBounds_toArray, List.set_cons_zero, List.set_cons_succ]
    refine skH 19 rfl ?_
    try simp only [Act.put, List.setIfInBounds_toArray, List.set_cons_zero, List.set_cons_succ]
    refine tkH 20 (.bool true) rfl (fun w hSw => ?_) ?_
    · (try dsimp only at hSw)
      obtain ⟨q0, q1, q2⟩ := hSw
      go_simp
    try simp only [Act.put, List.setIfInBounds_toArray, List.set_cons_zero, List.set_cons_succ]
    refine wpAnyH_done (by kernel_rfl) ?_ _
    refine NoPanic.normal ?_
    go_wp2
    go_ret
    exact ⟨rfl, ⟨HOK.out, ⟨_, HL.out.below hb1, HV.out⟩, hg, fun j hj => Nat.lt_of_lt_of_le (hN j hj) hb1.size⟩, Std.of_below hb1⟩
end Go.Proofs.Ytmmlkfkepncpgaa
/-
  The reference's EqEntries: two slices of entries.
  The conditions: both are no longer than 220.
-/
set_option linter.unusedSimpArgs false
set_option linter.unusedVariables false
namespace Go.Proofs.Ytmmlkfkepncpgaa
open Go.RowKit Go.Deep
set_option maxRecDepth 100000

def eqEs11 : List Ent → List Ent → Bool
  | [], [] => true
  | a :: l, b :: m => eqEnt10 a b && eqEs11 l m
  | _, _ => false
theorem eqEnt10_self (a : Ent) : eqEnt10 a a = true := by simp [eqEnt10]
theorem eqEs11_self (l : List Ent) : eqEs11 l l = true := by
  induction l with
  | nil => rfl
  | cons a t ih => simp [eqEs11, eqEnt10_self, ih]
theorem eqEs11_drop {a b : List Ent} (k : Nat) (h1 : k < a.length) (h2 : k < b.length) : eqEs11 (a.drop k) (b.drop k) = (eqEnt10 (a[k]'h1) (b[k]'h2) && eqEs11 (a.drop (k + 1)) (b.drop (k + 1))) := by
  rw [List.drop_eq_getElem_cons h1, List.drop_eq_getElem_cons h2]
  rfl
theorem eqEs11_len {a : List Ent} : ∀ {b : List Ent}, a.length ≠ b.length → eqEs11 a b = false := by
  induction a with
  | nil => intro b h; cases b with
    | nil => exact absurd rfl h
    | cons x t => rfl
  | cons y l ih => intro b h; cases b with
    | nil => rfl
    | cons x t => simp only [eqEs11]; rw [ih (fun e => h (by simp [e]))]; simp
set_option maxHeartbeats 1000000 in
theorem reqEnts_any (N M : Nat → Prop) (A C : Option Addr) (c d : Nat) (a b : List Ent) (w : World) (ha : Ens N w (.slice A a.length c) a) (hb : Ens M w (.slice C b.length d) b) (hl : a.length ≤ 1000) :
    Calls Try.prog 25 #[.slice A a.length c, .slice C b.length d] w (Bl (eqEs11 a b) w) := by
  have HA := Lib.hid ha
  have HC := Lib.hid hb
  clear ha hb
  by_cases hlen : a.length = b.length
  · obtain ⟨n, hn⟩ : ∃ n, b.length = n := ⟨_, rfl⟩
    rw [hn] at HC hlen ⊢
    rw [hlen] at HA hl ⊢
    have HN := Lib.hid (And.intro hlen hn)
    clear hlen hn
    go_enter Try.func25, Try.ntmps25
    go_wp2_with fail
    go_loopw [5] (fun i wr => ∃ k : Nat, i = .int .i64 (k : Int) ∧ k ≤ n ∧ eqEs11 (a.drop k) (b.drop k) = eqEs11 a b ∧ Below w.heap.size w wr) (fun i _ => n - (intOf i).toNat)
    case atStart => exact ⟨0, rfl, by omega, rfl, Below.refl _ _⟩
    case round =>
      obtain ⟨k, rfl, hk, he, hb⟩ := hrel
      have HE := Lib.hid he
      have HB := Lib.hid hb
      clear he hb
      by_cases hlt : k < n
      · have hki : (k : Int) < n := by omega
        have h1 : k < a.length := by rw [HN.out.1]; exact hlt
        have h2 : k < b.length := by rw [HN.out.2]; exact hlt
        have hdr := eqEs11_drop k h1 h2
        obtain ⟨x, hx⟩ : ∃ x, a[k]'h1 = x := ⟨_, rfl⟩
        obtain ⟨y, hy⟩ : ∃ y, b[k]'h2 = y := ⟨_, rfl⟩
        rw [hx, hy] at hdr
        have hq := fun W => reqEntry_any x y W
        obtain ⟨ix, et, kd, dt⟩ := x
        obtain ⟨jx, jt, jk, jd⟩ := y
        obtain ⟨g, o, rfl, hg, c0, c1, c2, c3⟩ := (HA.out.below HB.out).four k h1 hx
        obtain ⟨g', o', rfl, hg', d0, d1, d2, d3⟩ := (HC.out.below HB.out).four k h2 hy
        obtain ⟨bq, hbq⟩ : ∃ bq, eqEnt10 ⟨ix, et, kd, dt⟩ ⟨jx, jt, jk, jd⟩ = bq := ⟨_, rfl⟩
        simp only [hbq] at hq hdr
        have HQ := Lib.hid hq
        have HD := Lib.hid hdr
        clear hq hdr hx hy h1 h2 hbq
        replace HB := Lib.hid HB.out.drew
        go_wp2_with fail
        go_region_held3 (fun W => W.cell? ⟨g, o + k * 4, none⟩ = some (.int .i64 ix) ∧ W.cell? ⟨g, o + k * 4 + 1, none⟩ = some (.int .i64 et) ∧ W.cell? ⟨g, o + k * 4 + 2, none⟩ = some (.int .i64 kd) ∧ W.cell? ⟨g, o + k * 4 + 3, none⟩ = some (.string dt) ∧ W.cell? ⟨g', o' + k * 4, none⟩ = some (.int .i64 jx) ∧ W.cell? ⟨g', o' + k * 4 + 1, none⟩ = some (.int .i64 jt) ∧ W.cell? ⟨g', o' + k * 4 + 2, none⟩ = some (.int .i64 jk) ∧ W.cell? ⟨g', o' + k * 4 + 3, none⟩ = some (.string jd)) (first | exact ⟨c0, c1, c2, c3, d0, d1, d2, d3⟩ | assumption) (first | (go_at_call 47; refine (HQ.out _).mono ?_; rintro e k9 ⟨rfl, h⟩; replace c0 := (h.cell (p := ⟨g, o + k * 4, none⟩) hg).trans c0; replace c1 := (h.cell (p := ⟨g, o + k * 4 + 1, none⟩) hg).trans c1; replace c2 := (h.cell (p := ⟨g, o + k * 4 + 2, none⟩) hg).trans c2; replace c3 := (h.cell (p := ⟨g, o + k * 4 + 3, none⟩) hg).trans c3; replace d0 := (h.cell (p := ⟨g', o' + k * 4, none⟩) hg').trans d0; replace d1 := (h.cell (p := ⟨g', o' + k * 4 + 1, none⟩) hg').trans d1; replace d2 := (h.cell (p := ⟨g', o' + k * 4 + 2, none⟩) hg').trans d2; replace d3 := (h.cell (p := ⟨g', o' + k * 4 + 3, none⟩) hg').trans d3; replace HB := Lib.hid (HB.out.trans (h.mono HB.out.size)); clear h))
        cases bq with
        | false =>
          go_wp2_with fail
          go_ret
          have hz : eqEs11 a b = false := by rw [← HE.out, HD.out, Bool.false_and]
          exact ⟨by rw [hz]; rfl, HB.out⟩
        | true =>
          go_wp2_with fail
          go_roundw
          case rel => exact ⟨k + 1, by go_num, by omega, by rw [← HE.out, HD.out, Bool.true_and], HB.out⟩
          case measure => simp [intOf]; omega
      · have hge : (n : Int) ≤ k := by omega
        have hkn : k = n := by omega
        subst hkn
        have hz : eqEs11 a b = true := by
          rw [← HE.out, List.drop_of_length_le (by rw [HN.out.1]; omega), List.drop_of_length_le (by rw [HN.out.2]; omega)]
          rfl
        go_wp2_with fail
        go_ret
        exact ⟨by rw [hz]; rfl, HB.out⟩
  · have hz := eqEs11_len hlen
    rw [hz]
    have hli : ((a.length : Int) != (b.length : Int)) = true := by
      rw [bne_iff_ne]; omega
    have hlj : ¬ ((a.length : Int) = (b.length : Int)) := by omega
    go_enter Try.func25, Try.ntmps25
    go_wp2_with fail
    go_ret
    exact ⟨rfl, Below.refl _ _⟩
end Go.Proofs.Ytmmlkfkepncpgaa
/-
  A log as the laws hold it: none of its blocks is one of those that must stand; what is asked of it, and steps on it.
  There are no conditions beyond those that each lemma names.
-/
namespace Go.Proofs.Ytmmlkfkepncpgaa
open Go.RowKit Go.Deep
set_option maxRecDepth 100000

section
variable {N : Nat → Prop} {m : Nat} {w : World} {g : Nat} {r : Lg}
theorem first_lk (h : LK N m w g r) (hm : m ≤ 900000) (i : Int) (hi : r.s.ix + 1 = i) : Calls Try.prog 30 #[.pointer (some ⟨g, 0, none⟩)] w fun e w' => e = .returned (.int .i64 i) ∧ Below w.heap.size w w' := by
  obtain ⟨v, hL, hk⟩ := h.get (by omega)
  subst hi
  exact lfirst_any hL hk
theorem last_lk (h : LK N m w g r) (hm : m ≤ 900000) (i : Int) (hi : lst13 r = i) : Calls Try.prog 31 #[.pointer (some ⟨g, 0, none⟩)] w fun e w' => e = .returned (.int .i64 i) ∧ Below w.heap.size w w' := by
  obtain ⟨v, hL, hk⟩ := h.get (by omega)
  subst hi
  exact llast_any hL hk
theorem term_lk (h : LK N m w g r) (hm : m ≤ 900000) (i t : Int) (b : Bool) (ht : trm13 r i = (t, b)) : Calls Try.prog 19 #[.pointer (some ⟨g, 0, none⟩), .int .i64 i] w fun e w' => e = .returned (.tuple #[.int .i64 t, .bool b]) ∧ Below w.heap.size w w' := by
  obtain ⟨v, hL, hk⟩ := h.get (by omega)
  exact lterm_any hL hk i t b ht
theorem fits_lk (h : LK N m w g r) (hm : m ≤ 900000) (i t : Int) (b : Bool) (hb : fts13 r i t = b) : Calls Try.prog 21 #[.pointer (some ⟨g, 0, none⟩), .int .i64 i, .int .i64 t] w fun e w' => e = .returned (.bool b) ∧ Below w.heap.size w w' := by
  obtain ⟨v, hL, hk⟩ := h.get (by omega)
  exact lfits_any hL hk i t b hb
theorem newer_lk (h : LK N m w g r) (hm : m ≤ 900000) (i t : Int) (b : Bool) (hb : nwr13 r i t = b) : Calls Try.prog 23 #[.pointer (some ⟨g, 0, none⟩), .int .i64 i, .int .i64 t] w fun e w' => e = .returned (.bool b) ∧ Below w.heap.size w w' := by
  obtain ⟨v, hL, hk⟩ := h.get (by omega)
  exact lnewer_any hL hk i t b hb
theorem get_lk (h : LK N m w g r) (hm : m ≤ 900000) (i n : Int) (hn : -9223372036854775808 ≤ n ∧ n ≤ 9223372036854775807) (L : List Ent) (hL : get13 r i n = L) : Calls Try.prog 26 #[.pointer (some ⟨g, 0, none⟩), .int .i64 i, .int .i64 n] w fun e w' => ∃ A c, e = .returned (.slice A L.length c) ∧ OwnEn w.heap.size (.slice A L.length c) L w' ∧ Below w.heap.size w w' := by
  obtain ⟨v, hLB, hk⟩ := h.get (by omega)
  refine (lget_any hLB hk i n hn).mono ?_
  rintro e w' ⟨v', rfl, hO, hb⟩
  rw [hL] at hO
  obtain ⟨A, c, rfl⟩ := hO.slice
  exact ⟨A, c, rfl, hO, hb⟩
theorem snap_lk (h : LK N m w g r) (hm : m ≤ 900000) : Calls Try.prog 32 #[.pointer (some ⟨g, 0, none⟩)] w fun e w' => e = .returned r.s.val ∧ Below w.heap.size w w' := by
  obtain ⟨v, hL, hk⟩ := h.get (by omega)
  exact lsnap_any hL hk
end
/-- New: nil, or a log all of whose blocks are new -/
theorem new_lk (N : Nat → Prop) (s : Snp) (A : Option Addr) (n c : Nat) (L : List Ent) (w : World) (hN : ∀ j, N j → j < w.heap.size) (hE : Ens N w (.slice A n c) L) (hl : L.length ≤ 1000) (hix : -9223372036854775808 ≤ s.ix ∧ s.ix ≤ 9223372036854775807) (hd : ∀ e ∈ L, e.data.size ≤ 100000 ∧ -9223372036854775808 ≤ e.ix ∧ e.ix ≤ 9223372036854775807) (h1 : s.conf.size ≤ 100000) (h2 : s.data.size ≤ 100000) (b : Bool) (hb : new13 s L = b) :
    Calls Try.prog 12 #[s.val, .slice A n c] w fun e w' => Below w.heap.size w w' ∧ ((b = false ∧ e = .returned (.pointer none)) ∨ (b = true ∧ ∃ g, e = .returned (.pointer (some ⟨g, 0, none⟩)) ∧ LK N 200 w' g ⟨s, L⟩)) := by
  refine (lnew_any N s A n c L w hE hl hix hd h1 h2 b hb).mono ?_
  rintro e w' ⟨hB, h | ⟨hb2, g, v, rfl, hg, hO, hL⟩⟩
  · exact ⟨hB, .inl h⟩
  · subst hb2
    refine ⟨hB, .inr ⟨rfl, g, rfl, new13_ok hb (fun e he => (hd e he).1) h1 h2, ⟨v, hL, fun j hj hn => ?_⟩, fun hn => ?_, fun j hj => Nat.lt_of_lt_of_le (hN j hj) hB.size⟩⟩
    · have := (hO.lt j hj).1
      have := hN j hn
      omega
    · have := hN g hn
      omega
/-- a row of entries that was laid -/
theorem ens_at {w k : World} (cs : List Value) (t : TypeId) (L : List Ent) (n : Nat) (hc : cs = L.flatMap Ent.cs) (hn : L.length = n) (hk : w.alloc (.cells cs.toArray t) = k) : Ens (fun j => j = w.heap.size) k (.slice (some ⟨w.heap.size, 0, none⟩) n n) L := by
  subst hn
  refine ⟨_, _, rfl, Nat.le_refl _, fun _ => ⟨_, 0, rfl, rfl, fun j hj i z hz => ?_⟩⟩
  have hR : Rt k w.heap.size t cs := by rw [← hk]; exact Rt.new _ _ _
  have := eflat_at L j hj i z hz
  rw [← hc] at this
  have := hR.cell this
  rw [← this]
  congr 2; omega
/-- what stands, and new blocks -/
abbrev Nw (N : Nat → Prop) (w w' : World) : Nat → Prop := fun j => N j ∨ (w.heap.size ≤ j ∧ j < w'.heap.size)
end Go.Proofs.Ytmmlkfkepncpgaa
/-
  Law 13's begun.
  There are no conditions.
-/
namespace Go.Proofs.Ytmmlkfkepncpgaa
open Go.RowKit Go.Deep
set_option maxRecDepth 100000

def bgS : Snp := ⟨4, 2, ⟨#[]⟩, ⟨#[]⟩⟩
def bgA : Lg := ⟨bgS, [⟨5, 2, 0, ⟨#[]⟩⟩, ⟨6, 3, 0, ⟨#[]⟩⟩]⟩
def bgB : Lg := ⟨bgS, [⟨5, 2, 0, ⟨#[]⟩⟩, ⟨6, 4, 0, ⟨#[]⟩⟩, ⟨7, 4, 0, ⟨#[]⟩⟩]⟩
def bgC : Lg := ⟨⟨6, 4, ⟨#[]⟩, ⟨#[]⟩⟩, [⟨7, 4, 0, ⟨#[]⟩⟩]⟩
theorem bg_new : new13 bgS [⟨5, 2, 0, ⟨#[]⟩⟩, ⟨6, 3, 0, ⟨#[]⟩⟩] = true := by decide
theorem bg_put : put13 bgA [⟨6, 4, 0, ⟨#[]⟩⟩, ⟨7, 4, 0, ⟨#[]⟩⟩] = (bgB, 6, true) := by rfl
theorem bg_pack : pck13 bgB ⟨6, 4, ⟨#[]⟩, ⟨#[]⟩⟩ = (bgC, true) := by rfl
set_option maxHeartbeats 1000000 in
theorem begun13_any (w : World) : Calls Try.prog 9 #[] w fun e w' => e = .returned (.bool true) ∧ Below w.heap.size w w' := by
  obtain ⟨k1, hk1⟩ : ∃ k1, w.alloc (.cells #[.int .i64 5, .int .i64 2, .int .i64 0, .string ⟨#[]⟩, .int .i64 6, .int .i64 3, .int .i64 0, .string ⟨#[]⟩] 51) = k1 := ⟨_, rfl⟩
  have hb1 : Below w.heap.size w k1 := by rw [← hk1]; exact below_new _ _
  have hE1 := ens_at [.int .i64 5, .int .i64 2, .int .i64 0, .string ⟨#[]⟩, .int .i64 6, .int .i64 3, .int .i64 0, .string ⟨#[]⟩] 51 [⟨5, 2, 0, ⟨#[]⟩⟩, ⟨6, 3, 0, ⟨#[]⟩⟩] 2 rfl rfl hk1
  have HE1 := Lib.hid hE1
  clear hE1
  go_enter Try.func9, Try.ntmps9
  go_wp2_with fail
  refine (new_lk (fun j => j < k1.heap.size) bgS _ 2 2 [⟨5, 2, 0, ⟨#[]⟩⟩, ⟨6, 3, 0, ⟨#[]⟩⟩] k1 (fun _ h => h) (HE1.out.mono fun j hj hl => hl) (by decide) (by decide) (by decide) (by decide) (by decide) true bg_new).mono ?_
  rintro e w1 ⟨hb2, ⟨h, _⟩ | ⟨_, g, rfl, hL1⟩⟩
  · cases h
  have hb2 := hb1.trans (hb2.mono hb1.size)
  have HL1 := Lib.hid (show LK _ 200 w1 g bgA from hL1)
  obtain ⟨k2, hk2⟩ : ∃ k2, w1.alloc (.cells #[.int .i64 6, .int .i64 4, .int .i64 0, .string ⟨#[]⟩, .int .i64 7, .int .i64 4, .int .i64 0, .string ⟨#[]⟩] 51) = k2 := ⟨_, rfl⟩
  have hb3 : Below w1.heap.size w1 k2 := by rw [← hk2]; exact below_new _ _
  have HE2 := Lib.hid (ens_at [.int .i64 6, .int .i64 4, .int .i64 0, .string ⟨#[]⟩, .int .i64 7, .int .i64 4, .int .i64 0, .string ⟨#[]⟩] 51 [⟨6, 4, 0, ⟨#[]⟩⟩, ⟨7, 4, 0, ⟨#[]⟩⟩] 2 rfl rfl hk2)
  have HL2 := Lib.hid (HL1.out.others hb3)
  have hz1 := hb1.size
  have hb4 := hb2.trans (hb3.mono hb2.size)
  clear hL1 HL1 HE1 hb1 hk1
  go_wp2_with fail
  refine (lPut_any _ 200 _ 2 2 [⟨6, 4, 0, ⟨#[]⟩⟩, ⟨7, 4, 0, ⟨#[]⟩⟩] HL2.out (by decide) (HE2.out.mono fun j hj hl => .inr ⟨by omega, hl⟩) (by decide) (by decide) bgB 6 true bg_put).mono ?_
  rintro e w2 ⟨rfl, hL3, hS3⟩
  have HL3 := Lib.hid hL3
  have hb5 : Below w.heap.size w w2 := hb4.trans (hS3.below hb4.size fun j hj => .inl (by omega))
  clear hL3 hS3 HL2 HE2 hb2 hb3 hb4 hk2
  go_wp2_with fail
  refine (term_lk HL3.out (by decide) 6 4 true (by rfl)).mono ?_
  rintro e w3 ⟨rfl, h⟩
  have HL4 := Lib.hid (HL3.out.below h)
  have hb6 := hb5.trans (h.mono hb5.size)
  clear HL3 hb5 h
  go_wp2_with fail
  refine (first_lk HL4.out (by decide) 5 rfl).mono ?_
  rintro e w4 ⟨rfl, h⟩
  have HL5 := Lib.hid (HL4.out.below h)
  have hb7 := hb6.trans (h.mono hb6.size)
  clear HL4 hb6 h
  go_wp2_with fail
  refine (last_lk HL5.out (by decide) 7 rfl).mono ?_
  rintro e w5 ⟨rfl, h⟩
  have HL6 := Lib.hid (HL5.out.below h)
  have hb8 := hb7.trans (h.mono hb7.size)
  clear HL5 hb7 h
  go_wp2_with fail
  refine (get_lk HL6.out (by decide) 6 9 (by decide) [⟨6, 4, 0, ⟨#[]⟩⟩, ⟨7, 4, 0, ⟨#[]⟩⟩] rfl).mono ?_
  rintro e w6 ⟨A9, c9, rfl, hO, h⟩
  have HL7 := Lib.hid (HL6.out.below h)
  have hb9 := hb8.trans (h.mono hb8.size)
  clear HL6 hb8 h hO
  go_wp2_with fail
  refine (fits_lk HL7.out (by decide) 4 2 true rfl).mono ?_
  rintro e w7 ⟨rfl, h⟩
  have HL8 := Lib.hid (HL7.out.below h)
  have hb10 := hb9.trans (h.mono hb9.size)
  clear HL7 hb9 h
  go_wp2_with fail
  refine (newer_lk HL8.out (by decide) 7 4 true rfl).mono ?_
  rintro e w8 ⟨rfl, h⟩
  have HL9 := Lib.hid (HL8.out.below h)
  have hb11 := hb10.trans (h.mono hb10.size)
  clear HL8 hb10 h
  go_wp2_with fail
  refine (newer_lk HL9.out (by decide) 6 4 false rfl).mono ?_
  rintro e w9 ⟨rfl, h⟩
  have HL10 := Lib.hid (HL9.out.below h)
  have hb12 := hb11.trans (h.mono hb11.size)
  clear HL9 hb11 h
  go_wp2_with fail
  refine (lpack_any HL10.out (by decide) ⟨6, 4, ⟨#[]⟩, ⟨#[]⟩⟩ (by decide) (by decide) bgC true bg_pack).mono ?_
  rintro e w10 ⟨rfl, hL, hS⟩
  have HL11 := Lib.hid hL
  have hb13 : Below w.heap.size w w10 := hb12.trans (hS.below hb12.size fun j hj => .inl (by omega))
  clear hL hS HL10 hb12
  go_wp2_with fail
  refine (first_lk HL11.out (by decide) 7 rfl).mono ?_
  rintro e w11 ⟨rfl, h⟩
  have HL12 := Lib.hid (HL11.out.below h)
  have hb14 := hb13.trans (h.mono hb13.size)
  clear HL11 hb13 h
  go_wp2
  go_ret
  exact ⟨rfl, hb14⟩
end Go.Proofs.Ytmmlkfkepncpgaa
/-
  slices.Backward of entries: what its iterator hands to a loop's body: the entries, the last one first.
  The row has at most 1,000 entries.
-/
namespace Go.Proofs.Ytmmlkfkepncpgaa
open Go.RowKit Go.Shelf
attribute [local go_sem] Oper.semAt_some
set_option maxRecDepth 100000

/-- the entries with their places, the last one first -/
def revs (L : List Ent) : List (Ent × Nat) := L.zipIdx.reverse
theorem revs_len (L : List Ent) : (revs L).length = L.length := by unfold revs; rw [List.length_reverse, List.length_zipIdx]
theorem revs_at {L : List Ent} {k : Nat} (h : k < L.length) : (revs L)[k]'(by rw [revs_len]; exact h) = (L[L.length - 1 - k]'(by omega), L.length - 1 - k) := by
  unfold revs
  rw [List.getElem_reverse]
  simp [List.getElem_zipIdx]
theorem revs_take {L : List Ent} {k : Nat} (h : k < L.length) : (revs L).take (k + 1) = (revs L).take k ++ [(L[L.length - 1 - k]'(by omega), L.length - 1 - k)] := by
  rw [List.take_succ_eq_append_getElem (by rw [revs_len]; exact h), revs_at h]
def encR13 (p : Ent × Nat) : Array Value := #[.int .i64 (p.2 : Int), p.1.val]
set_option maxHeartbeats 2000000 in
theorem backward1_in (F : Fence) (n : Nat) (hf : F.fn 56) (hro : F.round = none) (hn : 1 ≤ n) (l Bs n₀ : Nat) (A : Option Addr) (c : Nat) (L : List Ent) (hL : L.length ≤ 1000) (J Jx : List (Ent × Nat) → World → Prop)
    (hY : ∀ pre x W, J pre W → pre.length < L.length → YieldAt F (n - 1) Try.prog l (encR13 x) W fun e W' =>
      (e = .returned (.bool true) ∧ J (pre ++ [x]) W' ∧ Below n₀ W W') ∨ (e = .returned (.bool false) ∧ Jx (pre ++ [x]) W'))
    (W : World) (hBs : W.cell? ⟨Bs, 0, none⟩ = some (.slice A L.length c)) (hBn : Bs < n₀) (hI : Ens (fun j => j < n₀) W (.slice A L.length c) L) (h0 : J [] W) :
    CallsIn F n Try.prog 56 #[.func (.yield l) #[] #[], .pointer (some ⟨Bs, 0, none⟩)] W fun e W' => (∃ v, e = .returned v) ∧
      ((∃ ys, ys = revs L ∧ J ys W') ∨ (∃ pre, pre <+: revs L ∧ Jx pre W')) := by
  obtain ⟨len, hlen⟩ : ∃ len, L.length = len := ⟨_, rfl⟩
  rw [hlen] at hBs hI hL
  have HI := Lib.hid hI
  have HL := Lib.hid hlen
  clear hI
  refine callsIn_of_wp Try.func56 rfl hf ?_ hro
  simp only [Try.ntmps56, List.size_toArray, List.length_cons, List.length_nil, Nat.reduceAdd, Nat.reduceSub, Array.replicate_succ, Array.replicate_zero, List.push_toArray, List.append_toArray, List.nil_append, List.cons_append]
  clear hlen
  gi_wp2
  gi_loopw [3] (fun i wr => ∃ k : Nat, k ≤ len ∧ i = .int .i64 ((len : Int) - 1 - (k : Int)) ∧ J ((revs L).take k) wr ∧ Below n₀ W wr) (fun i _ => ((intOf i) + 1).toNat)
  case atStart => exact ⟨0, Nat.zero_le _, by simp, h0, Below.refl _ _⟩
  case round =>
    obtain ⟨k, hk, rfl, hJs, hnx⟩ := hrel
    have hbs := (hnx.cell (p := ⟨Bs, 0, none⟩) hBn).trans hBs
    by_cases hlt : k < len
    · have hkl : k < L.length := by rw [HL.out]; exact hlt
      obtain ⟨q, hq⟩ : ∃ q, len - 1 - k = q := ⟨_, rfl⟩
      have hqi : (len : Int) - 1 - (k : Int) = (q : Int) := by omega
      have hqL : q < L.length := by rw [HL.out]; omega
      have hqn : q < len := by omega
      have hqn2 : (q : Int) < (len : Int) := by omega
      have hq0 : (0 : Int) ≤ (q : Int) := by omega
      rw [hqi]
      obtain ⟨⟨xk, yk, zk, dk⟩, hxk⟩ : ∃ x, L[q] = x := ⟨_, rfl⟩
      obtain ⟨g, o, hA, hg, b0, b1, b2, b3⟩ := (HI.out.under hnx (Nat.le_refl _)).four q hqL hxk
      subst hA
      have hts := revs_take hkl
      rw [show L[L.length - 1 - k]'(by omega) = ⟨xk, yk, zk, dk⟩ by rw [← hxk]; congr 1; rw [HL.out]; omega, show L.length - 1 - k = q by rw [HL.out]; exact hq] at hts
      obtain ⟨fn, tmps, assign, body, hy, hR⟩ := hY _ (⟨xk, yk, zk, dk⟩, q) wr hJs (by rw [List.length_take, revs_len]; omega)
      rw [← hts] at hR
      have HTS := Lib.hid hts
      have HQI := Lib.hid hqi
      have hwq : IntKind.i64.wrap ((q : Int) - 1) = (q : Int) - 1 := by rw [IntKind.wrap_i64]; omega
      replace hy : (Instr.yield l #[.int .i64 (q : Int), .agg #[.int .i64 xk, .int .i64 yk, .int .i64 zk, .string dk]]).run Try.prog wr = _ := hy
      clear hts hxk hqi
      gi_wp2
      refine hR.mono ?_
      rintro e W3 (⟨rfl, hJ3, hk3⟩ | ⟨rfl, hJx3⟩)
      · gi_wp2
        go_roundw
        case rel => exact ⟨k + 1, by omega, by congr 1; have := HQI.out; push_cast; omega, hJ3, hnx.trans hk3⟩
        case measure => first | (simp [intOf]; omega) | (simp [intOf]; done)
      · gi_wp2
        refine bodyPost_ret (results_none rfl _ _ _) rfl ?_
        exact ⟨⟨_, rfl⟩, .inr ⟨_, List.take_prefix _ _, hJx3⟩⟩
    · obtain rfl : k = len := by omega
      have hfin : (revs L).take k = revs L := List.take_of_length_le (by rw [revs_len, HL.out]; exact Nat.le_refl _)
      rw [hfin] at hJs
      have hneg : (k : Int) - 1 - (k : Int) = -1 := by omega
      rw [hneg]
      clear hfin
      gi_wp2
      go_end0
      exact ⟨⟨_, rfl⟩, .inl ⟨_, rfl, hJs⟩⟩
set_option maxHeartbeats 1000000 in
theorem backward_in (F : Fence) (n : Nat) (hf : F.fn 50) (hro : F.round = none) (A : Option Addr) (len cap : Nat) (w : World) :
    CallsIn F n Try.prog 50 #[.slice A len cap] w fun e w' => e = .returned (.func (.func 56) #[] #[.pointer (some ⟨w.heap.size, 0, none⟩)]) ∧ w' = w.alloc (.cells #[.slice A len cap] 24) := by
  refine callsIn_of_wp Try.func50 rfl hf ?_ hro
  simp only [Try.ntmps50, List.size_toArray, List.length_cons, List.length_nil, Nat.reduceAdd, Nat.reduceSub, Array.replicate_succ, Array.replicate_zero, List.push_toArray, List.append_toArray, List.nil_append, List.cons_append]
  gi_wp2
  go_ret
  exact ⟨rfl, rfl⟩
theorem backward_stops (F : Fence) (n : Nat) (hf : F.fn 56) (hro : F.round = none) (hn : 1 ≤ n) (Bs n₀ : Nat) (A : Option Addr) (c : Nat) (L : List Ent) (hL : L.length ≤ 1000) (w : World) (hBs : Bs < n₀) (hn₀ : n₀ ≤ w.heap.size)
    (hc : w.cell? ⟨Bs, 0, none⟩ = some (.slice A L.length c)) (hI : Ens (fun j => j < n₀) w (.slice A L.length c) L) :
    SeqStopsK F n Try.prog 56 #[.pointer (some ⟨Bs, 0, none⟩)] encR13 (Below n₀) (fun ys => ys = revs L) (fun pre => pre <+: revs L) L.length w := fun l J Jx W hW _ _ hY h0 =>
  backward1_in F n hf hro hn l Bs n₀ A c L hL J Jx hY W ((hW.cell (p := ⟨Bs, 0, none⟩) (Nat.lt_of_lt_of_le hBs hn₀)).trans hc) hBs (hI.under hW hn₀) h0
end Go.Proofs.Ytmmlkfkepncpgaa
/-
  Rows of ints: slices that read as ints, their parts, rows of one's own, appends onto these.
  The rows are shorter than the model's bound on what append makes.
-/
set_option linter.unusedSimpArgs false
set_option linter.unusedVariables false
namespace Go.Proofs.Ytmmlkfkepncpgaa
open Go.RowKit Go.Deep
set_option maxRecDepth 100000

def intCells (l : List Int) : List Value := l.map (Value.int .i64)
theorem intCells_len (l : List Int) : (intCells l).length = l.length := by simp [intCells]
theorem intCells_append (l m : List Int) : intCells (l ++ m) = intCells l ++ intCells m := by simp [intCells]
theorem intCells_one (l : List Int) : ∀ v ∈ intCells l, v.oneCell' = true := by
  intro v hv
  obtain ⟨x, _, rfl⟩ := List.mem_map.1 hv
  rfl
theorem Try.infoInt : (Try.prog.info? 3).map (fun i => (i.zero, i.size, i.bytes)) = some (some (.int .i64 0), 1, 8) := by kernel_rfl
/-- a row of ints of one's own -/
def OwnZ (B : Nat) (v : Value) (l : List Int) (w : World) : Prop := w.ownsRow B 3 1 v l.length (intCells l)
theorem OwnZ.nil (B : Nat) (w : World) : OwnZ B (.slice none 0 0) [] w := World.ownsRow_nil _ _ _ _
theorem OwnZ.below {B : Nat} {v : Value} {l : List Int} {w w' : World} (h : OwnZ B v l w) (hb : Below w.heap.size w w') : OwnZ B v l w' := ownsRow_below h hb
theorem OwnZ.down {B C : Nat} {v : Value} {l : List Int} {w : World} (h : OwnZ C v l w) (hB : B ≤ C) : OwnZ B v l w := ownsRow_down h hB
theorem OwnZ.slice {B : Nat} {v : Value} {l : List Int} {w : World} (h : OwnZ B v l w) : ∃ A c, v = .slice A l.length c := own_slice h
theorem Ints.of_own {B : Nat} {v : Value} {l : List Int} {w : World} (h : OwnZ B v l w) : Ints w w.heap.size v l := by
  have hlt := World.ownsRow.lt h
  obtain ⟨A, c, rfl⟩ := h.slice
  have hc := fun (g : Nat) (hg : (Value.slice A l.length c).ownBlock = some g) => World.ownsRow.cells h hg
  rcases h.2 with ⟨hv, h0⟩ | ⟨g, c', cur, hv, hB, _, hnc, _⟩
  · injection hv with e1 e2 e3
    subst e1
    exact ⟨none, c, rfl, by omega, fun h => absurd h (by omega)⟩
  · injection hv with e1 _ e3
    subst e1; subst e3
    refine ⟨_, _, rfl, hnc, fun _ => ⟨g, 0, rfl, (hlt g rfl).2, fun k hk => ?_⟩⟩
    have h3 := hc g rfl k (.int .i64 l[k]) (by unfold intCells; rw [List.getElem?_map, List.getElem?_eq_getElem hk]; rfl)
    rw [add7] at h3
    exact h3
theorem Ints.more {w : World} {B C : Nat} {v : Value} {l : List Int} (h : Ints w B v l) (hC : B ≤ C) : Ints w C v l := by
  obtain ⟨A, c, h1, h2, h3⟩ := h
  exact ⟨A, c, h1, h2, fun h0 => by obtain ⟨g, o, hA, hg, hc⟩ := h3 h0; exact ⟨g, o, hA, by omega, hc⟩⟩
theorem Ints.nil (w : World) (B : Nat) : Ints w B (.slice none 0 0) [] := ⟨none, 0, rfl, Nat.le_refl _, fun h => absurd h (by simp)⟩
theorem Ints.cap {w : World} {B n c : Nat} {A : Option Addr} {l : List Int} (h : Ints w B (.slice A n c) l) : n = l.length ∧ n ≤ c := by
  obtain ⟨A', c', h1, h2, _⟩ := h
  injection h1 with e1 e2 e3
  subst e2; subst e3
  exact ⟨rfl, h2⟩
theorem Ints.take {w : World} {B n c : Nat} {A : Option Addr} {l : List Int} (h : Ints w B (.slice A n c) l) (j : Nat) (hj : j ≤ l.length) : Ints w B (.slice A j c) (l.take j) := by
  obtain ⟨A', c', h1, h2, h3⟩ := h
  injection h1 with e1 e2 e3
  subst e1; subst e3
  have hl : (l.take j).length = j := by rw [List.length_take]; omega
  refine ⟨A, c, by rw [hl], by omega, fun h0 => ?_⟩
  rw [hl] at h0
  obtain ⟨g, o, hA, hg, hc⟩ := h3 (by omega)
  refine ⟨g, o, hA, hg, fun k hk => ?_⟩
  rw [hl] at hk
  rw [List.getElem_take]
  exact hc k (by omega)
theorem Ints.drop {w : World} {B n c : Nat} {A : Option Addr} {l : List Int} (h : Ints w B (.slice A n c) l) (j : Nat) (hj : j ≤ l.length) : Ints w B (.slice (if c = j then A else A.map (·.add j)) (l.length - j) (c - j)) (l.drop j) := by
  obtain ⟨A', c', h1, h2, h3⟩ := h
  injection h1 with e1 e2 e3
  subst e1; subst e3
  have hl : (l.drop j).length = l.length - j := List.length_drop
  refine ⟨_, _, by rw [hl], by omega, fun h0 => ?_⟩
  rw [hl] at h0
  obtain ⟨g, o, hA, hg, hc⟩ := h3 (by omega)
  subst hA
  rw [if_neg (by omega)]
  refine ⟨g, o + j, by simp [add7], hg, fun k hk => ?_⟩
  rw [hl] at hk
  rw [List.getElem_drop, show o + j + k = o + (j + k) by omega]
  exact hc (j + k) (by omega)
/-- ints that have just been laid in a block of their own -/
theorem ints_new (w : World) (C : Array Value) (t : TypeId) (l : List Int) (hC : C = (intCells l).toArray) : Ints (w.alloc (.cells C t)) (w.heap.size + 1) (.slice (some ⟨w.heap.size, 0, Option.none⟩) l.length l.length) l := by
  refine ⟨_, _, rfl, Nat.le_refl _, fun _ => ⟨w.heap.size, 0, rfl, by omega, fun k hk => ?_⟩⟩
  rw [World.cell?_alloc_mark, hC]
  simp [intCells, hk]
theorem append_nil12 {w : World} {B n c : Nat} {v : Value} {xs : List Value} (ty : TypeId) (hown : w.ownsRow B 3 1 v n xs) :
    (Builtin.append_ #[52, 52] ty #[v, .slice none 0 c]).run Try.prog w = .ok v w := by
  obtain ⟨iR, hiR, _, _, _⟩ := info_parts Try.infoInt
  rcases hown.2 with ⟨rfl, rfl⟩ | ⟨g, cap, cur, rfl, _, _, hnc, _⟩
  · simp [Builtin.append_, run_underlying Try.underlying52, sizeOf, typeInfo, hiR, Builtin.lenOf, Builtin.firstCells]
  · simp [Builtin.append_, run_underlying Try.underlying52, sizeOf, typeInfo, hiR, Builtin.lenOf, Builtin.firstCells, hnc, storeCells]
/-- what stands in a slice is put behind a row of one's own -/
theorem wp_append_ints {w : World} {o : Oper} {a : Act} {K : Act → World → Prop} {Q : Exit → Act → World → Prop} (s x : Operand)
    (ho : o.op = .call { callee := .builtin .append, args := #[s, x], argTypes := #[52, 52] })
    (B C : Nat) (v u : Value) (l m : List Int) (hs : a.eval s = v) (hown : OwnZ B v l w) (hx : a.eval x = u) (hu : Ints w C u m) (hlm : l.length + m.length ≤ 1000000) (hB : B ≤ w.heap.size)
    (h : ∀ v' w', OwnZ B v' (l ++ m) w' → Below B w w' → w.grownBy w' v.ownBlock → (v'.ownBlock = v.ownBlock ∨ v'.ownBlock = some w.heap.size) → K (a.put o.dst v') w') : o.wp Try.prog a w K Q := by
  obtain ⟨iR, hiR, hzR0, hzR1, hzR2⟩ := info_parts Try.infoInt
  obtain ⟨A, c, rfl, hc, hcell⟩ := hu
  have hgr := fun (w' : World) (hg : w.grownBy w' v.ownBlock) => (Below.refl B w).grown hg hB (fun g hg => (World.ownsRow.lt hown g hg).1)
  unfold OwnZ at hown
  cases A with
  | some ad =>
    obtain ⟨v', w', hr, h2, h3, _, h5⟩ := run_append_own_at (P := Try.prog) w B 52 o.type 3 iR (.int .i64 0) 1 8 Try.underlying52 hiR hzR0 hzR1 hzR2 rfl (by decide) v l.length _ hown ad m.length c (intCells m) (by rw [intCells_len]; omega)
      (by
        intro j z hj
        have hjm : j < m.length := by
          have := (List.getElem?_eq_some_iff.1 hj).1; rwa [intCells_len] at this
        obtain ⟨g, oo, hA, _, hcs⟩ := hcell (by omega)
        injection hA with hA; subst hA
        rw [add7, hcs j hjm]
        unfold intCells at hj; rw [List.getElem?_map, List.getElem?_eq_getElem hjm] at hj; simpa using hj) (intCells_one m) (by unfold maxLen; omega) (by omega) hB
    unfold Oper.wp execOp
    simp only [ho, resolve, invoke, builtin, Sem.run_bind, Sem.run_pure, Result.andThen_ok, List.map_toArray, List.map_cons, List.map_nil, hs, hx, hr]
    refine h v' w' ?_ (hgr w' h3) h3 h5
    unfold OwnZ; rw [intCells_append, List.length_append]; exact h2
  | none =>
    have hm : m = [] := by
      cases m with
      | nil => rfl
      | cons y t => obtain ⟨g, oo, hA, _⟩ := hcell (by simp); cases hA
    subst hm
    have hrun := append_nil12 (c := c) o.type hown
    unfold Oper.wp
    simp [execOp, ho, resolve, invoke, builtin, hs, hx, hrun, Result.andThen]
    refine h v w ?_ (Below.refl _ _) (grownBy_refl _ _) (.inl rfl)
    unfold OwnZ; rw [List.append_nil]; exact hown
theorem wpList_append_ints {w : World} {ops : Array Oper} {rest : List Oper} {o : Oper} {a : Act} {Q : Exit → Act → World → Prop} (hgd : o.guard = none) (s x : Operand)
    (ho : o.op = .call { callee := .builtin .append, args := #[s, x], argTypes := #[52, 52] })
    (B C : Nat) (v u : Value) (l m : List Int) (hs : a.eval s = v) (hown : OwnZ B v l w) (hx : a.eval x = u) (hu : Ints w C u m) (hlm : l.length + m.length ≤ 1000000) (hB : B ≤ w.heap.size)
    (h : ∀ v' w', OwnZ B v' (l ++ m) w' → Below B w w' → wpList Try.prog ops Q rest (a.put o.dst v') w') : wpList Try.prog ops Q (o :: rest) a w :=
  wpList_plain hgd fun _ hK => wp_append_ints s x ho B C v u l m hs hown hx hu hlm hB fun v' w' h1 h2 _ _ => hK _ _ (h v' w' h1 h2)
/-- an empty row with room, that has just been made -/
theorem own_room12 (w : World) (n : Nat) (hn : n ≤ 1000000) (B : Nat) (hB : B ≤ w.heap.size) :
    OwnZ B (.slice (some ⟨w.heap.size, 0, none⟩) 0 (grownCap w n 0 3)) [] (w.drew.alloc (.cells (Builtin.zeroCells #[.int .i64 0] n ++ Builtin.zeroCells #[.int .i64 0] (grownCap w n 0 3 - n)) 3)) := by
  have h1 := grownCap_ge w n 0 3
  have h2 := grownCap_le_maxLen w n 0 3 (by unfold maxLen; omega)
  exact World.ownsRow_made (base := B) (e := 3) (size := 1) w.drew _ _ hB h2 (by
    have hz : ∀ k, (Builtin.zeroCells #[.int .i64 0] k).size = k := fun k => by simp [Builtin.zeroCells]
    rw [Array.size_append, hz, hz]; omega)
end Go.Proofs.Ytmmlkfkepncpgaa
/-
  Package conf's May, Has, missing and Near say what the plain functions say.
  Lists have at most 1,000 servers.
-/
set_option linter.unusedSimpArgs false
set_option linter.unusedVariables false
namespace Go.Proofs.Ytmmlkfkepncpgaa
open Go.RowKit Go.Deep
set_option maxRecDepth 100000

theorem bool_ret {a b : Bool} (h : a = b) : Ending.returned (.bool a) = .returned (.bool b) := by rw [h]
theorem drop_cons12 {L : List Int} {k : Nat} (h : k < L.length) : L.drop k = L[k] :: L.drop (k + 1) := List.drop_eq_getElem_cons h
set_option maxHeartbeats 1000000 in
theorem may12_w (A : Option Addr) (c B : Nat) (L : List Int) (w : World) (h : Ints w B (.slice A L.length c) L) (hl : L.length ≤ 1000) :
    Calls Try.prog 57 #[.slice A L.length c] w fun e w' => e = .returned (.bool (may12 L)) ∧ w = w' := by
  obtain ⟨n, hn⟩ : ∃ n, L.length = n := ⟨_, rfl⟩
  rw [hn] at h hl ⊢
  have HI := Lib.hid h
  have HN := Lib.hid hn
  clear h hn
  go_enter Try.func57, Try.ntmps57
  go_wp2
  go_loop [3, 8] (fun last i => ∃ (k : Nat) (p : Int), k ≤ n ∧ i = .int .i64 k ∧ last = .int .i64 p ∧ mayF 0 L = mayF p (L.drop k)) (fun _ i => n - (intOf i).toNat)
  case atStart => exact ⟨0, 0, Nat.zero_le _, rfl, rfl, rfl⟩
  case round =>
    obtain ⟨k, p, hk, rfl, rfl, hrec⟩ := hrel
    have HR := Lib.hid hrec
    clear hrec
    by_cases hlt : k < n
    · have hkl : k < L.length := by rw [HN.out]; exact hlt
      obtain ⟨g, o, hA, _, hcell⟩ := HI.out.at_ k hkl
      subst hA
      have hd := drop_cons12 hkl
      obtain ⟨x, hx⟩ : ∃ x, L[k] = x := ⟨_, rfl⟩
      rw [hx] at hcell hd
      have HD := Lib.hid hd
      clear hd hx hkl
      by_cases h1 : x ≤ p
      · go_wp2
        go_ret
        refine ⟨bool_ret ?_, rfl⟩
        unfold may12
        rw [HR.out, HD.out]
        simp [mayF]; omega
      · by_cases h2 : 7 < x
        · go_wp2
          go_ret
          refine ⟨bool_ret ?_, rfl⟩
          unfold may12
          rw [HR.out, HD.out]
          simp [mayF]; omega
        · go_wp2
          go_round
          case rel => exact ⟨k + 1, x, by omega, by go_num, rfl, by rw [HR.out, HD.out]; simp [mayF]; omega⟩
          case measure => simp [intOf]; omega
    · have hkn : k = n := by omega
      have hf : mayF 0 L = true := by rw [HR.out, List.drop_of_length_le (by rw [HN.out]; omega)]; rfl
      have HF := Lib.hid hf
      clear hf
      by_cases h0 : 0 < n
      · go_wp2
        go_ret
        refine ⟨bool_ret ?_, rfl⟩
        unfold may12
        rw [HF.out, HN.out]; simp; omega
      · go_wp2
        go_ret
        refine ⟨bool_ret ?_, rfl⟩
        unfold may12
        rw [HF.out, HN.out]; simp; omega
theorem countP_take12 (L : List Int) (q : Int → Bool) (k : Nat) (h : k < L.length) : (L.take (k + 1)).countP q = (L.take k).countP q + (if q L[k] = true then 1 else 0) := by
  rw [List.take_succ_eq_append_getElem h, List.countP_append, List.countP_singleton]
theorem countP_take_le12 (L : List Int) (q : Int → Bool) (k : Nat) : (L.take k).countP q ≤ k := Nat.le_trans List.countP_le_length (List.length_take_le _ _)
theorem near12_no {a b : List Int} (h : may12 a = false) : near12 a b = false := by unfold near12; rw [h]; rfl
theorem near12_no2 {a b : List Int} (h : may12 b = false) : near12 a b = false := by unfold near12; rw [h]; simp
theorem near12_yes {a b : List Int} (h : may12 a = true) (h2 : may12 b = true) : near12 a b = decide (miss12 a b + miss12 b a ≤ 1) := by unfold near12; rw [h, h2]; rfl
theorem miss12_le (a b : List Int) : miss12 a b ≤ a.length := List.countP_le_length
end Go.Proofs.Ytmmlkfkepncpgaa
/-
  The reference's Open reads a frame as the plain function says.
  The bytes are there in memory, at most 1,000,000.
-/
set_option linter.unusedSimpArgs false
set_option linter.unusedVariables false
namespace Go.Proofs.Ytmmlkfkepncpgaa
open Go.RowKit
set_option maxRecDepth 100000

/-- a frame at the beginning of bytes: its kind, its body, how many bytes, the error -/
def openB (l : List UInt8) : Nat × List UInt8 × Nat × Nat :=
  if l.length = 0 then (0, [], 0, 2)
  else if (l.headD 0).toNat = 0 then (0, [], 0, 3)
  else if (Nu.get (l.drop 1)).2.2 = 2 ∧ 2 < l.length then (0, [], 0, 3)
  else if (Nu.get (l.drop 1)).2.2 = 2 then (0, [], 0, 2)
  else if (Nu.get (l.drop 1)).2.2 ≠ 0 ∨ (Nu.get (l.drop 1)).1 < 0 ∨ 4000 < (Nu.get (l.drop 1)).1 then (0, [], 0, 3)
  else if (l.length : Int) < 5 + (Nu.get (l.drop 1)).2.1 + (Nu.get (l.drop 1)).1 then (0, [], 0, 2)
  else if sealB (l.headD 0).toNat ((l.drop (5 + (Nu.get (l.drop 1)).2.1)).take (Nu.get (l.drop 1)).1.toNat) ≠ l.take (5 + (Nu.get (l.drop 1)).2.1 + (Nu.get (l.drop 1)).1.toNat) then (0, [], 0, 3)
  else ((l.headD 0).toNat, (l.drop (5 + (Nu.get (l.drop 1)).2.1)).take (Nu.get (l.drop 1)).1.toNat, 5 + (Nu.get (l.drop 1)).2.1 + (Nu.get (l.drop 1)).1.toNat, 0)
def GotF (B : Nat) (r : Nat × List UInt8 × Nat × Nat) (w : World) (e : Ending) (w' : World) : Prop := ∃ v, e = .returned (.tuple #[.int .i64 r.1, v, .int .i64 r.2.2.1, .int .i64 r.2.2.2]) ∧ Byt w' B v r.2.1 ∧ Below w.heap.size w w'
/-- a slice of bytes whose cells are there, turned into a text -/
theorem conv_cells (w : World) (g o cap : Nat) (l : List UInt8) (n : Nat) (hn : n ≤ l.length) (hcell : ∀ j (h : j < l.length), w.cell? ⟨g, o + j, Option.none⟩ = some (.int .u8 (l[j].toNat : Int))) :
    (convert 88 9 (.slice (some ⟨g, o, Option.none⟩) n cap)).run Try.prog w = .ok (.string ⟨(l.take n).toArray⟩) w := by
  have := conv_part w g o l 0 n cap (by omega) hcell
  simpa using this
theorem conv_own {w : World} {B : Nat} {v : Value} {l : List UInt8} (h : OwnB B v l w) (hl : 1 ≤ l.length) : (convert 88 9 v).run Try.prog w = .ok (.string ⟨l.toArray⟩) w := by
  obtain ⟨g, c, rfl, _, hcs⟩ := h.at_ hl
  have := conv_cells w g 0 c l l.length (Nat.le_refl _) (fun j hj => by
    have := hcs j (.int .u8 (l[j].toNat : Int)) (by simp [Lib.byteCells, hj])
    rw [Addr.add_mid] at this; exact this)
  rw [List.take_length] at this; exact this
theorem list_ne {a b : List UInt8} (h : a ≠ b) : ((ByteArray.mk a.toArray).toList == (ByteArray.mk b.toArray).toList) = false := by
  rw [ByteArray.toList_eq, ByteArray.toList_eq, beq_eq_false_iff_ne]; simpa using h
theorem list_same {a b : List UInt8} (h : a = b) : ((ByteArray.mk a.toArray).toList == (ByteArray.mk b.toArray).toList) = true := by rw [h]; simp
theorem byt_nil (w : World) (B : Nat) : Byt w B (.slice none 0 0) [] := ⟨none, 0, rfl, Nat.le_refl _, fun h => absurd h (by simp)⟩
end Go.Proofs.Ytmmlkfkepncpgaa
/-
  Rows that a call has made, cell by cell: a store into them, what they read as.
  There are no conditions beyond those that each lemma names.
-/
set_option linter.unusedSimpArgs false
set_option linter.unusedVariables false
namespace Go.Proofs.Ytmmlkfkepncpgaa
open Go.RowKit Go.Deep
set_option maxRecDepth 100000

/-- a block's cells, which may be written -/
def RowC (w : World) (g : Nat) (M : List Value) : Prop := g < w.heap.size ∧ ∀ j (h : j < M.length), w.cell? ⟨g, j, Option.none⟩ = some M[j] ∧ w.frozen? ⟨g, j, Option.none⟩ = false
theorem RowC.set {w : World} {g : Nat} {M : List Value} (h : RowC w g M) (k : Nat) (v : Value) : RowC (w.setCell ⟨g, k, Option.none⟩ v) g (M.set k v) := by
  refine ⟨by simp [World.setCell]; exact h.1, fun j hj => ?_⟩
  rw [List.length_set] at hj
  obtain ⟨h1, h2⟩ := h.2 j hj
  refine ⟨?_, (World.frozen?_setCell _ _ _ _).trans h2⟩
  by_cases e : j = k
  · subst e
    rw [List.getElem_set_self]
    exact World.cell?_setCell_same _ _ _ h1
  · rw [List.getElem_set_ne (fun e' => e e'.symm)]
    exact (World.cell?_setCell_other _ _ _ _ (by first | (simp; done) | (simp; omega))).trans h1
theorem RowC.below {w w' : World} {g : Nat} {M : List Value} (h : RowC w g M) (hb : Below w.heap.size w w') : RowC w' g M :=
  ⟨Nat.lt_of_lt_of_le h.1 hb.size, fun j hj => ⟨(hb.cell (p := ⟨g, j, Option.none⟩) h.1).trans (h.2 j hj).1, (hb.frozen (p := ⟨g, j, Option.none⟩) h.1).trans (h.2 j hj).2⟩⟩
theorem madeCells_one (z : Value) (n : Nat) : (madeCells #[z] n).toList = List.replicate n z := by
  unfold madeCells
  apply List.ext_getElem
  · simp
  · intro i h1 h2
    simp [Nat.mod_one]
theorem RowC.made (w : World) (z : Value) (n : Nat) (t : TypeId) : RowC (w.alloc (.cells (madeCells #[z] n) t)) w.heap.size (List.replicate n z) := by
  refine ⟨by simp, fun j hj => ?_⟩
  have hs : (madeCells #[z] n).size = n := by rw [← Array.length_toList, madeCells_one]; simp
  have hj' : j < (madeCells #[z] n).size := by rw [hs]; simpa using hj
  constructor
  · rw [World.cell?_alloc_mark]
    have : (madeCells #[z] n)[j]? = some z := by
      rw [← Array.getElem?_toList, madeCells_one, List.getElem?_replicate, if_pos (by simpa using hj)]
    simp [this]
  · exact World.frozen?_alloc_at _ _ _ _ rfl
/-- the ints that a block's cells read as -/
theorem RowC.ints {w : World} {g : Nat} {l : List Int} {n : Nat} (h : RowC w g (intCells l)) (hn : l.length = n) (c : Nat) (hc : n ≤ c) : Ints w (g + 1) (.slice (some ⟨g, 0, Option.none⟩) n c) l := by
  subst hn
  refine ⟨_, c, rfl, hc, fun _ => ⟨g, 0, rfl, by omega, fun k hk => ?_⟩⟩
  have := (h.2 k (by rw [intCells_len]; exact hk)).1
  rw [Nat.zero_add, this]
  simp [intCells]
theorem set_snoc12 {α β : Type} (f : α → β) (L : List α) (z : β) (k : Nat) (h : k < L.length) : ((L.take k).map f ++ List.replicate (L.length - k) z).set k (f L[k]) = (L.take (k + 1)).map f ++ List.replicate (L.length - (k + 1)) z := by
  have hl : ((L.take k).map f).length = k := by simp; omega
  rw [List.set_append_right _ _ (by omega), hl, Nat.sub_self, List.take_succ_eq_append_getElem h, List.map_append]
  have : L.length - k = (L.length - (k + 1)) + 1 := by omega
  rw [this, List.replicate_succ, List.set_cons_zero]
  simp
end Go.Proofs.Ytmmlkfkepncpgaa
/-
  Package conf's Encode and Decode make what the plain functions say.
  Lists have at most 1,000 servers, texts at most 1,000,000 bytes.
-/
set_option linter.unusedSimpArgs false
set_option linter.unusedVariables false
namespace Go.Proofs.Ytmmlkfkepncpgaa
open Go.RowKit Go.Deep
set_option maxRecDepth 100000

def digit12 (x : Int) : UInt8 := UInt8.ofNat (48 + x.toNat)
def encL (l : List Int) : List UInt8 := l.map digit12
def enc12 (l : List Int) : ByteArray := if may12 l = true then ⟨(encL l).toArray⟩ else ⟨#[]⟩
def decL (s : ByteArray) : List Int := s.data.toList.map fun c => (c.toNat : Int) - 48
def dec12 (s : ByteArray) : Option (List Int) := if may12 (decL s) = true then some (decL s) else none
theorem digit12_is {x : Int} (h0 : 1 ≤ x) (h1 : x ≤ 7) : ((digit12 x).toNat : Int) = 48 + x := by
  unfold digit12
  rw [UInt8.toNat_ofNat']
  omega
theorem decL_len (s : ByteArray) : (decL s).length = s.size := by unfold decL; simp
theorem dec12_long {s : ByteArray} (h : 7 < s.size) : dec12 s = none := by
  unfold dec12
  rw [if_neg]
  intro h2
  have := may12_len h2
  rw [decL_len] at this; omega
theorem make_bytes12 (n : Nat) (hn : n ≤ 1000) (w : World) : (Instr.makeSlice 88 (.int .i64 (n : Int)) (.int .i64 (n : Int))).run Try.prog w = .ok (.slice (some ⟨w.heap.size, 0, none⟩) n n) (w.alloc (.cells (madeCells #[.int .u8 0] n) 5)) :=
  run_make_row' _ _ _ 1 Try.underlying88 Try.infoU8 rfl .i64 .i64 n (by omega) (by omega) w
theorem make_ints12 (n : Nat) (hn : n ≤ 1000) (w : World) : (Instr.makeSlice 52 (.int .i64 (n : Int)) (.int .i64 (n : Int))).run Try.prog w = .ok (.slice (some ⟨w.heap.size, 0, none⟩) n n) (w.alloc (.cells (madeCells #[.int .i64 0] n) 3)) :=
  run_make_row' _ _ _ 8 Try.underlying52 Try.infoInt rfl .i64 .i64 n (by omega) (by omega) w
theorem below_new12 (w : World) (o : Obj) : Below w.heap.size w (w.alloc o) := (Below.refl _ w).alloc (Nat.le_refl _) o
def encV (x : Int) : Value := .int .u8 (48 + x)
theorem encV_bytes {l : List Int} (h : ∀ x ∈ l, 1 ≤ x ∧ x ≤ 7) (j : Nat) (hj : j < l.length) : encV l[j] = .int .u8 (((encL l)[j]'(by unfold encL; simpa using hj)).toNat : Int) := by
  unfold encV encL
  have := h l[j] (List.getElem_mem hj)
  rw [List.getElem_map, digit12_is this.1 this.2]
theorem decL_at (s : ByteArray) (k : Nat) (h : k < s.size) : (decL s)[k]'(by rw [decL_len]; exact h) = (s[k].toNat : Int) - 48 := by unfold decL; simp; rfl
/-- what came of Decode -/
def Dec12 (r : Option (List Int)) (w : World) (e : Ending) (w' : World) : Prop := Below w.heap.size w w' ∧ match r with
  | none => e = .returned (.tuple #[.slice none 0 0, .bool false])
  | some l => ∃ A c, e = .returned (.tuple #[.slice A l.length c, .bool true]) ∧ Ints w' w'.heap.size (.slice A l.length c) l
set_option maxHeartbeats 2000000 in
theorem decode12_w (s : ByteArray) (w : World) (hs : s.size ≤ 1000000) :
    Calls Try.prog 51 #[.string s] w (Dec12 (dec12 s) w) := by
  by_cases h7 : 7 < s.size
  · have hd := dec12_long h7
    have h7' : (7 : Int) < s.size := by omega
    have HD := Lib.hid hd
    clear hd
    go_enter Try.func51, Try.ntmps51
    go_wp2
    go_ret2
    rw [HD.out]
    exact ⟨Below.refl _ _, rfl⟩
  · obtain ⟨n, hn⟩ : ∃ n, s.size = n := ⟨_, rfl⟩
    have hn7 : n ≤ 7 := by omega
    have hmk := make_ints12 n (by omega) w
    obtain ⟨W1, hW1⟩ : ∃ W1, w.alloc (.cells (madeCells #[.int .i64 0] n) 3) = W1 := ⟨_, rfl⟩
    have hr1 : RowC W1 w.heap.size (List.replicate n (.int .i64 0)) := by rw [← hW1]; exact RowC.made w _ n _
    have hb1 : Below w.heap.size w W1 := by rw [← hW1]; exact below_new12 w _
    rw [hW1] at hmk
    have HN := Lib.hid hn
    have HR1 := Lib.hid hr1
    have HB1 := Lib.hid hb1
    rw [← hn] at hmk
    have h7i : ¬ (7 : Int) < s.size := by omega
    clear hn hr1 hb1 hW1 h7
    go_enter Try.func51, Try.ntmps51
    go_wp2
    go_loopw [14] (fun i wr => ∃ k : Nat, k ≤ s.size ∧ i = .int .i64 k ∧ RowC wr w.heap.size (((decL s).take k).map (Value.int .i64) ++ List.replicate ((decL s).length - k) (.int .i64 0)) ∧ Below w.heap.size w wr) (fun i _ => s.size - (intOf i).toNat)
    case atStart => exact ⟨0, Nat.zero_le _, rfl, by rw [decL_len, HN.out]; exact HR1.out, HB1.out⟩
    case round =>
      obtain ⟨k, hk, rfl, hrow, hbw⟩ := hrel
      have HRW := Lib.hid hrow
      have HBW := Lib.hid hbw
      clear hrow hbw HR1 HB1
      by_cases hlt : k < s.size
      · have hkl : k < (decL s).length := by rw [decL_len]; exact hlt
        have hsn := set_snoc12 (Value.int .i64) (decL s) (Value.int .i64 0) k hkl
        have hrl : (((decL s).take k).map (Value.int .i64) ++ List.replicate ((decL s).length - k) (Value.int .i64 0)).length = s.size := by simp; have := decL_len s; omega
        obtain ⟨hold, hfr⟩ := HRW.out.2 k (by rw [hrl]; exact hlt)
        have hrs := HRW.out.set k (.int .i64 (decL s)[k])
        rw [hsn, decL_at s k hlt] at hrs
        generalize (((decL s).take k).map (Value.int .i64) ++ List.replicate ((decL s).length - k) (Value.int .i64 0))[k]'(by rw [hrl]; exact hlt) = old at hold
        have HRS := Lib.hid hrs
        have hx9 : (s[k].toNat : Int) ≤ 255 := by have := s[k].toNat_lt; omega
        clear hsn hrl hrs hkl
        go_wp2
        go_roundw
        case rel => exact ⟨k + 1, by omega, by go_num, HRS.out, HBW.out.setCell (Nat.le_refl _) _⟩
        case measure => simp [intOf]; omega
      · have hkn : k = s.size := by omega
        have hrow := HRW.out
        rw [hkn, ← decL_len s, List.take_length, Nat.sub_self, List.replicate_zero, List.append_nil] at hrow
        have hin := RowC.ints (l := decL s) hrow (decL_len s) s.size (Nat.le_refl _)
        have hin' := hin
        rw [← decL_len s] at hin'
        have hmy := may12_w _ _ _ _ _ hin' (by rw [decL_len]; omega)
        rw [decL_len] at hmy
        have HIN := Lib.hid hin'
        cases hb : may12 (decL s) with
        | false =>
          rw [hb] at hmy
          have hd : dec12 s = none := by unfold dec12; rw [if_neg (by rw [hb]; decide)]
          have HD := Lib.hid hd
          clear hrow hin hin' hb hd
          go_wp2_with fail
          refine hmy.mono ?_
          rintro e w' ⟨rfl, rfl⟩
          go_wp2
          go_ret2
          rw [HD.out]
          exact ⟨HBW.out, rfl⟩
        | true =>
          rw [hb] at hmy
          have hd : dec12 s = some (decL s) := by unfold dec12; rw [if_pos hb]
          have HD := Lib.hid hd
          clear hin hin' hb hd
          have hlt9 := hrow.1
          clear hrow
          go_wp2_with fail
          refine hmy.mono ?_
          rintro e w' ⟨rfl, rfl⟩
          go_wp2
          go_ret2
          rw [HD.out]
          refine ⟨HBW.out, _, _, ?_, HIN.out.more (by omega)⟩
          rw [decL_len]
          rfl
end Go.Proofs.Ytmmlkfkepncpgaa
/-
  Package rlog's Conf.
  The conditions: those of its log.
-/
namespace Go.Proofs.Ytmmlkfkepncpgaa
open Go.RowKit Go.Shelf
attribute [local go_sem] Oper.semAt_some
set_option maxRecDepth 100000

/-- the servers that an entry names, and its place -/
def cnfE (e : Ent) : Option (List Int × Int) := if e.kd = 3 then (dec12 e.data).map fun l => (l, e.ix) else none
def cnf13 (r : Lg) : Option (List Int × Int) := match r.L.reverse.findSome? cnfE with
  | some p => some p
  | none => (dec12 r.s.conf).map fun l => (l, r.s.ix)
/-- what Conf answers -/
def CnfR (q : Option (List Int × Int)) (w : World) (e : Ending) (w' : World) : Prop := Below w.heap.size w w' ∧ match q with
  | none => e = .returned (.tuple #[.slice none 0 0, .int .i64 0])
  | some p => ∃ A c, e = .returned (.tuple #[.slice A p.1.length c, .int .i64 p.2]) ∧ Ints w' w'.heap.size (.slice A p.1.length c) p.1
theorem rt_ownFrom {β : Type} (B be : Nat) (t : TypeId) (cs : List Value) : OwnFrom B (fun (_ : β) W => Rt W be t cs) := fun _ X Y row hs hg hr => by
  refine (hg.block be hs.lt (fun e => ?_)).trans hs
  obtain ⟨_, o, ho, hc⟩ := hr be e.symm
  rw [show X.heap[be]? = _ from hs] at ho
  cases ho
  cases hc
theorem ints_ownFrom {β : Type} (B : Nat) (v : Value) (L : List Int) : OwnFrom B (fun (_ : β) W => ∃ n, n ≤ W.heap.size ∧ Ints W n v L) := fun _ X Y row hs hg hr => by
  obtain ⟨n, hn, A, c, h1, h2, h3⟩ := hs
  refine ⟨n, Nat.le_trans hn hg.size, A, c, h1, h2, fun h => ?_⟩
  obtain ⟨g, o, hA, hlt, hc⟩ := h3 h
  refine ⟨g, o, hA, hlt, fun k hk => ?_⟩
  exact cell_kept (hc k hk) hg (fun r e => (hr r e).2)
/-- Decode of any text -/
theorem decode13_any (s : ByteArray) (w : World) : Calls Try.prog 51 #[.string s] w (Dec12 (dec12 s) w) := by
  by_cases h7 : 7 < s.size
  · have hd := dec12_long h7
    have h7' : (7 : Int) < s.size := by omega
    have HD := Lib.hid hd
    clear hd
    go_enter Try.func51, Try.ntmps51
    go_wp2
    go_ret2
    rw [HD.out]
    exact ⟨Below.refl _ _, rfl⟩
  · exact decode12_w s w (by omega)
theorem keeps_below {B : Nat} {W W' : World} (h : Below W.heap.size W W') : KeepsFrom B W W' := ⟨h.size, fun k _ _ hk _ => (h.block k (Array.getElem?_eq_some_iff.1 hk).1).trans hk⟩
theorem cnfE_no {e : Ent} (h : ¬ e.kd = 3) : cnfE e = none := by unfold cnfE; rw [if_neg h]
theorem cnfE_bad {e : Ent} (h : dec12 e.data = none) : cnfE e = none := by unfold cnfE; split <;> simp [h]
theorem cnfE_yes {e : Ent} {l : List Int} (h : e.kd = 3) (h2 : dec12 e.data = some l) : cnfE e = some (l, e.ix) := by unfold cnfE; rw [if_pos h, h2]; rfl
theorem find_none {pre : List (Ent × Nat)} {x : Ent × Nat} (h : pre.findSome? (fun p => cnfE p.1) = none) (hx : cnfE x.1 = none) : (pre ++ [x]).findSome? (fun p => cnfE p.1) = none := by
  rw [List.findSome?_append, h]
  simp [hx]
theorem find_some {pre : List (Ent × Nat)} {x : Ent × Nat} {q : List Int × Int} (h : pre.findSome? (fun p => cnfE p.1) = none) (hx : cnfE x.1 = some q) : (pre ++ [x]).findSome? (fun p => cnfE p.1) = some q := by
  rw [List.findSome?_append, h]
  simp [hx]
/-- a row of servers lies in no box of one value that is none of them; what is written into such a box leaves it alone -/
theorem ints_box {W : World} {b n m c : Nat} {t : TypeId} {u z : Value} {A : Option Addr} {L : List Int} (hb : Boxed W b t u) (hI : Ints W n (.slice A m c) L) (h0 : ∀ x ∈ L, Value.int .i64 x ≠ u) : Ints (W.setCell ⟨b, 0, none⟩ z) n (.slice A m c) L := by
  obtain ⟨A', c', h1, h2, h3⟩ := hI
  refine ⟨A', c', h1, h2, fun h => ?_⟩
  obtain ⟨g, o, hA, hlt, hc⟩ := h3 h
  have hne : g ≠ b := by
    intro e
    subst e
    have hc0 := hc 0 h
    have hB : W.heap[g]? = some (.cells #[u] t (0, 0)) := hb
    rw [cell_of_row W g _ _ t (0, 0) hB] at hc0
    have ho : o + 0 = 0 := by
      rcases Nat.eq_zero_or_pos (o + 0) with e | e
      · exact e
      · rw [Array.getElem?_eq_none (by simp; omega)] at hc0; cases hc0
    rw [ho] at hc0
    have : u = .int .i64 L[0] := by simpa using hc0
    exact h0 _ (List.getElem_mem h) this.symm
  exact ⟨g, o, hA, hlt, fun k hk => ((Off.refl (S := fun j => j = b) W).set (j := 0) (u := z) (.inl rfl)).cell (p := ⟨g, o + k, none⟩) (cell_lt (hc k hk)) hne |>.trans (hc k hk)⟩
theorem dec12_pos {s : ByteArray} {l : List Int} (h : dec12 s = some l) : ∀ x ∈ l, 1 ≤ x := by
  unfold dec12 at h
  split at h
  · rename_i hm
    injection h with h
    subst h
    intro x hx
    have := mayF_mem (may12_F hm) x hx
    omega
  · cases h
/-- at the function's end: both boxes are told, the block of the rounds' deferred calls is turned -/
theorem conf_boxes {W : World} {b D : Nat} {v : Value} {i : Int} (hD : b + 3 ≤ D) (bx : Boxed W b 52 v) (yx : Boxed W (b + 1) 2 (.int .i64 i)) : (W.putObj D (.deferred none)).cell? ⟨b, 0, none⟩ = some v ∧ (W.putObj D (.deferred none)).cell? ⟨b + 1, 0, none⟩ = some (.int .i64 i) :=
  ⟨(bx.kept (grownBy_putObj' W D _) (fun e => by cases e; omega)).cell, (yx.kept (grownBy_putObj' W D _) (fun e => by cases e; omega)).cell⟩
theorem conf_below {w W : World} {b D : Nat} {L : Option (List Deferred)} (hb : w.heap.size = b) (hD : b ≤ D) (h : Below b w W) (hK : W.heap[D]? = some (.deferred L)) : Below w.heap.size w (W.putObj D (.deferred none)) := by
  rw [hb]
  exact h.trans (belowK_b (w := w) (by omega) W D _ _ (by omega) hK rfl rfl)
theorem conf_ints {W : World} {D n : Nat} {v : Value} {l : List Int} {L : Option (List Deferred)} (hn : n ≤ W.heap.size) (hI : Ints W n v l) (hK : W.heap[D]? = some (.deferred L)) : Ints (W.putObj D (.deferred none)) (W.putObj D (.deferred none)).heap.size v l := by
  obtain ⟨m, hm, h⟩ := ints_ownFrom (β := Unit) D v l () W (W.putObj D (.deferred none)) (some D) ⟨n, hn, hI⟩ (grownBy_putObj' W D _) (fun r e => by cases e; exact ⟨Nat.le_refl _, _, hK, rfl⟩)
  exact h.more hm
def Meet13 (b : Act) (R : World → Prop) : Exit → Act → World → Prop
  | .normal, a, W => a = b ∧ R W
  | _, _, _ => False
theorem wpIn_meet13 {F : Fence} {n : Nat} {P : Program} {c : Code} {Q : Exit → Act → World → Prop} {a b : Act} {w : World} {R : World → Prop} (h1 : c.wpIn F n P (Meet13 b R) a w) (h2 : ∀ W, R W → Q .normal b W) : c.wpIn F n P Q a w :=
  Code.wpIn_mono (fun e a' w' h => by
    cases e <;> first | exact h.elim | skip
    obtain ⟨rfl, h⟩ := h
    exact h2 _ h) h1
/-- between two rounds -/
def CnfI (b : Nat) (w0 : World) (pre : List (Ent × Nat)) (W : World) : Prop :=
  pre.findSome? (fun p => cnfE p.1) = none ∧ Boxed W b 52 (.slice none 0 0) ∧ Boxed W (b + 1) 2 (.int .i64 0) ∧ Below (b + 3) w0 W
theorem cnfI_own {b B : Nat} {w0 : World} (h : b + 3 ≤ B ∧ b + 3 ≤ w0.heap.size) : OwnFrom B (CnfI b w0) :=
  OwnFrom.and (ownFrom_pure B _) (OwnFrom.and (Own.from (boxed_own b 52 (fun _ => .slice none 0 0)) _) (OwnFrom.and (Own.from (boxed_own (b + 1) 2 (fun _ => .int .i64 0)) _) (ownFrom_below h.2 h.1)))
/-- where the body has answered -/
def CnfX (b : Nat) (w0 : World) (c : Code) (pre : List (Ent × Nat)) (W : World) : Prop :=
  ∃ (q : List Int × Int) (v : Value), (c = .ret ∧ pre.findSome? (fun p => cnfE p.1) = some q ∧ ∃ A c', v = .slice A q.1.length c') ∧ Boxed W b 52 v ∧ Boxed W (b + 1) 2 (.int .i64 q.2) ∧ (∃ n, n ≤ W.heap.size ∧ Ints W n v q.1) ∧ Below b w0 W
theorem cnfX_own {b B : Nat} {w0 : World} (c : Code) (h : b ≤ B ∧ b ≤ w0.heap.size) : OwnFrom B (CnfX b w0 c) := fun s X Y row hs hg hr => by
  obtain ⟨q, v, h1, h2, h3, h4, h5⟩ := hs
  exact ⟨q, v, h1, Own.from (boxed_own b 52 (fun _ : Unit => v)) B () X Y row h2 hg hr, Own.from (boxed_own (b + 1) 2 (fun _ : Unit => .int .i64 q.2)) B () X Y row h3 hg hr, ints_ownFrom B v q.1 () X Y row h4 hg hr, ownFrom_below h.2 h.1 () X Y row h5 hg hr⟩
theorem findSome_prefix {pre L : List (Ent × Nat)} {f : Ent × Nat → Option (List Int × Int)} {q : List Int × Int} (h : pre <+: L) (hq : pre.findSome? f = some q) : L.findSome? f = some q := by
  obtain ⟨r, rfl⟩ := h
  rw [List.findSome?_append, hq]; rfl
theorem revs_find (L : List Ent) : (revs L).findSome? (fun p => cnfE p.1) = L.reverse.findSome? cnfE := by
  unfold revs
  have h : L.reverse = L.zipIdx.reverse.map (fun p => p.1) := by
    rw [List.map_reverse, List.zipIdx_map_fst]
  rw [h, List.findSome?_map]
  rfl
set_option maxHeartbeats 4000000 in
theorem lconf_any {w : World} {g : Nat} {v : Value} {r : Lg} (h : LB w g v r) (hk : Lok 1000000 r) :
    Calls Try.prog 29 #[.pointer (some ⟨g, 0, none⟩)] w (CnfR (cnf13 r) w) := by
  have hE := Ens.of_own h.own
  have hlt := h.own.lt
  have hbx := h.box
  obtain ⟨A, c, rfl, hc, c0, c1, c2, c3, c4⟩ := h.parts
  have hsz := hk.2.2.2.1
  have hcz := hk.2.2.2.2.1
  have hl2 := hk.2.2.1
  have hgl := hbx.lt
  obtain ⟨b, hb⟩ : ∃ b, w.heap.size = b := ⟨_, rfl⟩
  obtain ⟨W0, hW0⟩ : ∃ W0, (w.alloc (.cells #[.slice none 0 0] 52)).alloc (.cells #[.int .i64 0] 2) = W0 := ⟨_, rfl⟩
  have hB0 : Below b w W0 := by rw [← hW0, ← hb]; exact below_two _ _ _
  have bx : Boxed W0 b 52 (.slice none 0 0) := by rw [← hW0, ← hb]; exact Rt.below (Rt.new w _ [.slice none 0 0]) (below_new _ _)
  have by1 : Boxed W0 (b + 1) 2 (.int .i64 0) := by rw [← hW0, ← hb]; exact Rt.new_at _ _ _ [.int .i64 0] (by simp)
  have hz0 : W0.heap.size = b + 2 := by rw [← hW0, ← hb]; simp
  rw [hb] at hgl
  have d4 := (hB0.cell (p := ⟨g, 4, none⟩) hgl).trans c4
  obtain ⟨n, hn⟩ : ∃ n, r.L.length = n := ⟨_, rfl⟩
  rw [hn] at d4 hE hc hl2
  have HE := Lib.hid hE
  have HN := Lib.hid hn
  have HSZ := Lib.hid hsz
  have HBX := Lib.hid hbx
  have HLT := Lib.hid hlt
  have HB0 := Lib.hid hB0
  clear hE hsz hbx hlt h c0 c1 c2 c3 c4 hk hB0
  refine (callsIn_wide (n := 4)).1 ?_
  refine callsIn_of_wp_marks Try.func29 rfl trivial ?_ rfl
  simp only [Try.ntmps29, List.size_toArray, List.length_cons, List.length_nil, Nat.reduceAdd, Nat.reduceSub, Array.replicate_succ, Array.replicate_zero, List.push_toArray, List.append_toArray, List.nil_append, List.cons_append]
  gi_wp2
  refine ⟨trivial, (backward_in Fence.wide 3 trivial rfl _ _ _ _).mono ?_⟩
  rintro e w5 ⟨rfl, hw5⟩
  have hW5 : w5 = W0.alloc (.cells #[.slice A n c] 24) := hw5
  have hb5 : Below W0.heap.size W0 w5 := by rw [hW5]; exact below_new _ _
  have hz5 : w5.heap.size = b + 3 := by rw [hW5, World.size_alloc, hz0]
  have hs5 : w5.cell? ⟨b + 2, 0, none⟩ = some (.slice A n c) := by
    have := Rt.new_at W0 (b + 2) 24 [.slice A n c] hz0
    rw [hW5]; exact this.cell rfl
  have hBw : Below b w w5 := HB0.out.trans (hb5.mono (by omega))
  have bx5 : Boxed w5 b 52 (.slice none 0 0) := (hb5.block b (by omega)).trans bx
  have by5 : Boxed w5 (b + 1) 2 (.int .i64 0) := (hb5.block (b + 1) (by omega)).trans by1
  have hE5 : Ens (fun j => j < b + 3) w5 (.slice A n c) r.L := (HE.out.below (by rw [hb]; exact hBw)).mono fun j hj hl => by omega
  have hst := backward_stops Fence.wide 3 trivial rfl (by omega) (b + 2) (b + 3) A c r.L (by rw [HN.out]; omega) w5 (by omega) (by omega) (by rw [HN.out]; exact hs5) (by rw [HN.out]; exact hE5)
  have HST := Lib.hid hst
  have HX5 := Lib.hid (And.intro bx5 by5)
  have HBW := Lib.hid hBw
  rw [hz0]
  clear hw5 hW5 hb5 hs5 bx5 by5 hE5 hst bx by1 hBw d4
  gi_wp2
  refine wpIn_rangeFunc_ownH rfl (by omega) (gf := 56) (lb := #[.pointer (some ⟨b + 2, 0, none⟩)]) rfl trivial (enters_of Try.func56 (by kernel_rfl) rfl)
    HST.out belowK_t (belowK_b (by omega)) (Below.refl _ _) (fun _ => rfl)
    (CnfI b w5) (CnfX b w) (cnfI_own ⟨by omega, by omega⟩) (fun c => cnfX_own c ⟨by omega, by omega⟩)
    ⟨rfl, HX5.out.1, HX5.out.2, Below.refl _ _⟩
    (fun x a' W => ∃ be, w5.heap.size ≤ be ∧ Rt W be 51 x.1.cs ∧ a' = { tmps := #[.pointer (some ⟨g, 0, none⟩), undef, .pointer (some ⟨b, 0, none⟩), .pointer (some ⟨b + 1, 0, none⟩), undef, .pointer (some ⟨be, 0, none⟩), undef, undef, undef, undef, .pointer (some ⟨g, 0, none⟩), .bool false, .pointer (some ⟨g, 0, none⟩), .pointer (some ⟨g, 0, none⟩), .pointer (some ⟨g, 4, none⟩), .slice A n c, .func (.func 56) #[] #[.pointer (some ⟨b + 2, 0, none⟩)], .int .i64 (x.2 : Int), x.1.val, undef, undef, undef, undef, undef, undef, undef, undef, undef, undef, undef, undef, undef, undef, undef, undef, undef, undef, undef, undef, undef, undef, undef, undef, undef, undef, undef, undef, undef], defers := [] })
    (fun x a' => by
      intro s X Y row hs hg hr
      obtain ⟨be, h1, h2, h3⟩ := hs
      exact ⟨be, h1, rt_ownFrom w5.heap.size be _ _ () X Y row h2 hg hr, h3⟩)
    ?assign ?body ?done ?stop
  case assign =>
    rintro l pre ⟨⟨xk, yk, zk, dk⟩, q⟩ W K hI hK
    simp only [encR13, Ent.val]
    gi_wp2
    obtain ⟨hno, bxW, byW, hBW⟩ := hI
    have hsz := hBW.size
    have hn := below_new W (.cells #[.int .i64 xk, .int .i64 yk, .int .i64 zk, .string dk] 51)
    exact hK _ _ (keeps_below hn) (hn.mono (by omega)) ⟨hno, (hn.block b (by omega)).trans bxW, (hn.block (b + 1) (by omega)).trans byW, hBW.trans (hn.mono (by omega))⟩ ⟨W.heap.size, by omega, Rt.new W _ [.int .i64 xk, .int .i64 yk, .int .i64 zk, .string dk], rfl⟩
  case body =>
    rintro l pre ⟨⟨xk, yk, zk, dk⟩, q⟩ a' W hl hrec ⟨hno, bxW, byW, hBW⟩ ⟨be, hbe, hR, rfl⟩ hlt
    simp only [Ent.val]
    have hsz := hBW.size
    have e0 := hR.cell (j := 0) (v := .int .i64 xk) rfl
    have e2 := hR.cell (j := 2) (v := .int .i64 zk) rfl
    have e3 := hR.cell (j := 3) (v := .string dk) rfl
    have HNO := Lib.hid hno
    by_cases hz3 : zk = 3
    · subst hz3
      have HDEC := Lib.hid (decode13_any dk W)
      cases hd : dec12 dk with
      | none =>
        rw [hd] at HDEC
        gi_wp2
        refine ⟨trivial, (CallsIn.inRound l (callsIn_wide.2 HDEC.out)).mono ?_⟩
        rintro e W6 ⟨h6, rfl⟩
        gi_wp2
        have hn := h6
        have hc := cnfE_bad (e := ⟨xk, yk, 3, dk⟩) hd
        exact ⟨keeps_below hn, hn.mono (by omega), find_none HNO.out hc, (hn.block b (by omega)).trans bxW, (hn.block (b + 1) (by omega)).trans byW, hBW.trans (hn.mono (by omega))⟩
      | some cs =>
        rw [hd] at HDEC
        gi_wp2
        refine ⟨trivial, (CallsIn.inRound l (callsIn_wide.2 HDEC.out)).mono ?_⟩
        rintro e W6 ⟨h6, A6, c6, rfl, hI6⟩
        have hbl := hR.lt
        have e06 := (h6.cell (p := ⟨be, 0, none⟩) hbl).trans e0
        have bx6 : Boxed W6 b 52 (.slice none 0 0) := (h6.block b (by omega)).trans bxW
        have by6 : Boxed W6 (b + 1) 2 (.int .i64 0) := (h6.block (b + 1) (by omega)).trans byW
        have x6 := bx6.cell
        have y6 := by6.cell
        have fx6 := bx6.frozen
        have fy6 := by6.frozen
        have hbe2 : be ≠ b := by omega
        have hbe3 : be ≠ b + 1 := by omega
        obtain ⟨ln, hln⟩ : ∃ ln, cs.length = ln := ⟨_, rfl⟩
        rw [hln] at hI6 ⊢
        have HLN := Lib.hid hln
        have HI6 := Lib.hid hI6
        have H6 := Lib.hid h6
        have hBW6 : Below b w W6 := HBW.out.trans ((hBW.mono (by omega)).trans (h6.mono (by omega)))
        have HBW6 := Lib.hid hBW6
        clear hln hI6 h6 hBW6 e0 e2 e3
        gi_wp2
        apply wpIn_meet13 (R := fun Wz => Wz = (W6.drew.setCell ⟨b, 0, none⟩ (.slice A6 ln c6)).setCell ⟨b + 1, 0, none⟩ (.int .i64 xk))
        · gi_region
          all_goals exact ⟨rfl, rfl⟩
        rintro W8 rfl
        gi_wp2
        have hpos := dec12_pos hd
        have bd : Boxed W6.drew b 52 (.slice none 0 0) := bx6
        have yd : Boxed W6.drew (b + 1) 2 (.int .i64 0) := by6
        have b7 : Boxed (W6.drew.setCell ⟨b, 0, none⟩ (.slice A6 ln c6)) b 52 (.slice A6 ln c6) := (show Rt W6.drew b _ [_] from bd).set 0 _
        have y7 : Boxed (W6.drew.setCell ⟨b, 0, none⟩ (.slice A6 ln c6)) (b + 1) 2 (.int .i64 0) := yd.other (by omega) _
        have b8 := b7.other (B' := b + 1) (by omega) (.int .i64 xk)
        have y8 : Boxed ((W6.drew.setCell ⟨b, 0, none⟩ (.slice A6 ln c6)).setCell ⟨b + 1, 0, none⟩ (.int .i64 xk)) (b + 1) 2 (.int .i64 xk) := (show Rt _ (b + 1) _ [_] from y7).set 0 _
        have i7 := ints_box (z := .slice A6 ln c6) bd (show Ints W6.drew W6.heap.size (.slice A6 ln c6) cs from HI6.out) (fun x _ e => by cases e)
        have i8 := ints_box (z := .int .i64 xk) y7 i7 (fun x hx e => by injection e with _ e; have := hpos x hx; omega)
        refine ⟨KeepsFrom.trans (Y := W6.drew) (keeps_below H6.out.drew) (KeepsFrom.trans (Y := W6.drew.setCell ⟨b, 0, none⟩ (.slice A6 ln c6)) ((KeepsOthers.setCell _ _ _).from _) ((KeepsOthers.setCell _ _ _).from _)), (cs, xk), _, ⟨rfl, find_some HNO.out (cnfE_yes rfl hd), A6, c6, by rw [HLN.out]⟩, b8, y8, ⟨W6.heap.size, by simp [World.setCell], i8⟩, ?_⟩
        exact (HBW6.out.drew.setCell (p := ⟨b, 0, none⟩) (Nat.le_refl b) _).setCell (p := ⟨b + 1, 0, none⟩) (Nat.le_succ b) _
    · have hzb : (zk != 3) = true := by simpa using hz3
      have hc := cnfE_no (e := ⟨xk, yk, zk, dk⟩) hz3
      gi_wp2
      exact ⟨KeepsFrom.refl _ _, Below.refl _ _, find_none HNO.out hc, bxW, byW, hBW⟩
  case done =>
    rintro D ys W hD rfl ⟨hno, bxW, byW, hBW⟩ hKD
    have hBwW : Below b w W := HBW.out.trans (hBW.mono (by omega))
    have hRg := HBX.out.below (show Below w.heap.size w W by rw [hb]; exact hBwW)
    have g2 := hRg.cell (j := 2) (v := .string r.s.conf) rfl
    have g0 := hRg.cell (j := 0) (v := .int .i64 r.s.ix) rfl
    have hno2 : cnf13 r = (dec12 r.s.conf).map fun l => (l, r.s.ix) := by
      unfold cnf13
      rw [revs_find] at hno
      rw [hno]
    obtain ⟨cf, hcf⟩ : ∃ cf, r.s.conf = cf := ⟨_, rfl⟩
    obtain ⟨ix, hix⟩ : ∃ ix, r.s.ix = ix := ⟨_, rfl⟩
    rw [hcf] at g2 hno2
    rw [hix] at g0 hno2
    have HDEC := Lib.hid (decode13_any cf W)
    have HNO := Lib.hid hno2
    have hgW := hRg.lt
    have hsz := hBW.size
    clear hno hno2 hRg
    cases hd : dec12 cf with
    | none =>
      rw [hd] at HDEC HNO
      gi_wp2
      refine ⟨trivial, (callsIn_wide.2 HDEC.out).mono ?_⟩
      rintro e W6 ⟨h6, rfl⟩
      have bx6 : Boxed W6 b 52 (.slice none 0 0) := (h6.block b (by omega)).trans bxW
      have by6 : Boxed W6 (b + 1) 2 (.int .i64 0) := (h6.block (b + 1) (by omega)).trans byW
      have hK6 : W6.heap[D]? = some (.deferred (some [])) := (h6.block D (Array.getElem?_eq_some_iff.1 hKD).1).trans hKD
      have x6 := bx6.cell
      have y6 := by6.cell
      have fx6 := bx6.frozen
      have fy6 := by6.frozen
      have HN6 := Lib.hid (And.intro (hBwW.trans (h6.mono (by omega))) hK6)
      clear h6 hK6
      gi_wp2
      have b7 : Boxed (W6.setCell ⟨b, 0, none⟩ (.slice none 0 0)) b 52 (.slice none 0 0) := (show Rt W6 b _ [_] from bx6).set 0 _
      have y7 : Boxed (W6.setCell ⟨b, 0, none⟩ (.slice none 0 0)) (b + 1) 2 (.int .i64 0) := by6.other (by omega) _
      have b8 := b7.other (B' := b + 1) (by omega) (.int .i64 0)
      have y8 : Boxed ((W6.setCell ⟨b, 0, none⟩ (.slice none 0 0)).setCell ⟨b + 1, 0, none⟩ (.int .i64 0)) (b + 1) 2 (.int .i64 0) := (show Rt _ (b + 1) _ [_] from y7).set 0 _
      have hK8 : ((W6.setCell ⟨b, 0, none⟩ (.slice none 0 0)).setCell ⟨b + 1, 0, none⟩ (.int .i64 0)).heap[D]? = some (.deferred (some [])) := (Below.heap_setCell _ _ _ _ (by simp only; omega)).trans ((Below.heap_setCell _ _ _ _ (by simp only; omega)).trans HN6.out.2)
      have hB8 : Below b w ((W6.setCell ⟨b, 0, none⟩ (.slice none 0 0)).setCell ⟨b + 1, 0, none⟩ (.int .i64 0)) := (HN6.out.1.setCell (p := ⟨b, 0, none⟩) (Nat.le_refl _) _).setCell (p := ⟨b + 1, 0, none⟩) (Nat.le_succ _) _
      refine ⟨by simp, .inl ⟨_, _, rfl, run_takeDeferred hK8, ?_⟩⟩
      have hcc := conf_boxes (D := D) (by omega) b8 y8
      have hz := HNO.out
      refine ⟨.tuple #[.slice none 0 0, .int .i64 0], by simp [results, Try.results29, go_sem, hcc.1, hcc.2], conf_below hb (by omega) hB8 hK8, ?_⟩
      rw [hz]
      rfl
    | some cs =>
      rw [hd] at HDEC HNO
      gi_wp2
      refine ⟨trivial, (callsIn_wide.2 HDEC.out).mono ?_⟩
      rintro e W6 ⟨h6, A6, c6, rfl, hI6⟩
      have bx6 : Boxed W6 b 52 (.slice none 0 0) := (h6.block b (by omega)).trans bxW
      have by6 : Boxed W6 (b + 1) 2 (.int .i64 0) := (h6.block (b + 1) (by omega)).trans byW
      have hK6 : W6.heap[D]? = some (.deferred (some [])) := (h6.block D (Array.getElem?_eq_some_iff.1 hKD).1).trans hKD
      have e06 := (h6.cell (p := ⟨g, 0, none⟩) hgW).trans g0
      have x6 := bx6.cell
      have y6 := by6.cell
      have fx6 := bx6.frozen
      have fy6 := by6.frozen
      have hgb : g ≠ b := by omega
      have hgb2 : g ≠ b + 1 := by omega
      obtain ⟨ln, hln⟩ : ∃ ln, cs.length = ln := ⟨_, rfl⟩
      rw [hln] at hI6 ⊢
      have HLN := Lib.hid hln
      have HI6 := Lib.hid hI6
      have HN6 := Lib.hid (And.intro (hBwW.trans (h6.mono (by omega))) hK6)
      clear h6 hK6 hln hI6 g0 g2
      gi_wp2
      apply wpIn_meet13 (R := fun Wz => Wz = (W6.drew.setCell ⟨b, 0, none⟩ (.slice A6 ln c6)).setCell ⟨b + 1, 0, none⟩ (.int .i64 ix))
      · gi_region
        all_goals exact ⟨rfl, rfl⟩
      intro W8 hW8
      gi_wp2
      have hpos := dec12_pos hd
      have bd : Boxed W6.drew b 52 (.slice none 0 0) := bx6
      have yd : Boxed W6.drew (b + 1) 2 (.int .i64 0) := by6
      have b7 : Boxed (W6.drew.setCell ⟨b, 0, none⟩ (.slice A6 ln c6)) b 52 (.slice A6 ln c6) := (show Rt W6.drew b _ [_] from bd).set 0 _
      have y7 : Boxed (W6.drew.setCell ⟨b, 0, none⟩ (.slice A6 ln c6)) (b + 1) 2 (.int .i64 0) := yd.other (by omega) _
      have b8 := b7.other (B' := b + 1) (by omega) (.int .i64 ix)
      have y8 : Boxed ((W6.drew.setCell ⟨b, 0, none⟩ (.slice A6 ln c6)).setCell ⟨b + 1, 0, none⟩ (.int .i64 ix)) (b + 1) 2 (.int .i64 ix) := (show Rt _ (b + 1) _ [_] from y7).set 0 _
      have i7 := ints_box (z := .slice A6 ln c6) bd (show Ints W6.drew W6.heap.size (.slice A6 ln c6) cs from HI6.out) (fun x _ e => by cases e)
      have i8 := ints_box (z := .int .i64 ix) y7 i7 (fun x hx e => by injection e with _ e; have := hpos x hx; omega)
      have hK8 : ((W6.drew.setCell ⟨b, 0, none⟩ (.slice A6 ln c6)).setCell ⟨b + 1, 0, none⟩ (.int .i64 ix)).heap[D]? = some (.deferred (some [])) := (Below.heap_setCell _ _ _ _ (by simp only; omega)).trans ((Below.heap_setCell _ _ _ _ (by simp only; omega)).trans HN6.out.2)
      have hB8 : Below b w ((W6.drew.setCell ⟨b, 0, none⟩ (.slice A6 ln c6)).setCell ⟨b + 1, 0, none⟩ (.int .i64 ix)) := (HN6.out.1.drew.setCell (p := ⟨b, 0, none⟩) (Nat.le_refl _) _).setCell (p := ⟨b + 1, 0, none⟩) (Nat.le_succ _) _
      have hs8 : W6.heap.size ≤ W8.heap.size := by rw [hW8]; simp [World.setCell]
      rw [← hW8] at b8 y8 i8 hK8 hB8
      refine ⟨by simp, .inl ⟨_, _, rfl, run_takeDeferred hK8, ?_⟩⟩
      have hcc := conf_boxes (D := D) (by omega) b8 y8
      clear hW8 b7 y7 i7
      have hz := HNO.out
      refine ⟨.tuple #[.slice A6 ln c6, .int .i64 ix], by simp [results, Try.results29, go_sem, hcc.1, hcc.2], conf_below hb (by omega) hB8 hK8, ?_⟩
      rw [hz]
      refine ⟨A6, c6, by rw [HLN.out], ?_⟩
      rw [HLN.out]
      exact conf_ints (n := W6.heap.size) hs8 i8 hK8
  case stop =>
    rintro D c pre W hD hpre ⟨q, v, ⟨rfl, hq, A', c', rfl⟩, bxW, byW, ⟨nn, hnn, hIn⟩, hBW⟩ hKD
    have x0 := bxW.cell
    have y0 := byW.cell
    have hcn : cnf13 r = some q := by
      have := findSome_prefix hpre hq
      rw [revs_find] at this
      unfold cnf13
      rw [this]
    rw [hcn]
    gi_wp2
    refine ⟨by simp, .inl ⟨_, _, rfl, run_takeDeferred hKD, ?_⟩⟩
    have hcc := conf_boxes (D := D) (by omega) bxW byW
    refine ⟨.tuple #[.slice A' q.1.length c', .int .i64 q.2], by simp [results, Try.results29, go_sem, hcc.1, hcc.2], conf_below hb (by omega) hBW hKD, A', c', rfl, conf_ints hnn hIn hKD⟩
end Go.Proofs.Ytmmlkfkepncpgaa
