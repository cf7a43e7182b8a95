/-
  Rows of a document in memory: a key and what is inside its value, two cells each; how copy, clear and append turn a row of memory whose elements have any number of cells.
  There are no conditions.
-/
import Derived.Test.YtegkhkcnoahhdaaVaPlain
import Derived.Test.YtegkhkcnoahhdaaReDocSet
import Derived.Test.YtegkhkcnoahhdaaWAppend
import Derived.Laws.CopyRow
import Derived.Laws.CopyOwn
import Derived.Deep.AppendSrc
import Derived.Lib.Overlaps
import Derived.Lib.AppendZerosOnto
import Derived.Shelf.RegionOpenPlain
import Derived.WalkKit
import Derived.Deep.LoopGhost
import Derived.Lib.Walk
import Derived.Lib.SliceRun
import Derived.Deep.RegionLaw
set_option linter.unusedSimpArgs false
set_option linter.unusedVariables false
namespace Go.Proofs.Ytegkhkcnoahhdaa
open Go.RowKit
set_option maxRecDepth 100000

theorem Try.infoRow : (Try.prog.info? 80).map (·.size) = some 2 := by kernel_rfl
theorem Try.infoRow3 : (Try.prog.info? 80).map (fun i => (i.zero, i.size, i.bytes)) = some (some (.agg #[.string ⟨#[]⟩, .nilIface]), 2, 32) := by kernel_rfl
/-- a row's cells -/
def Par.rc (p : Par) : List Value := [.string p.k, (vaOf p.v).ins]
theorem rc_cells (l : List Par) (x : Par) : l.flatMap Par.rc ++ x.rc = (l ++ [x]).flatMap Par.rc := by simp
theorem ins_one (v : Va) : v.ins.oneCell' = true := by cases v <;> rfl
theorem rc_one (x : Par) : ∀ u ∈ x.rc, u.oneCell' = true := by
  intro u hu; unfold Par.rc at hu; simp at hu
  rcases hu with rfl | rfl
  · rfl
  · exact ins_one _
theorem rcs_one (l : List Par) : ∀ u ∈ l.flatMap Par.rc, u.oneCell' = true := by
  intro u hu
  obtain ⟨x, _, hx⟩ := List.mem_flatMap.1 hu
  exact rc_one x u hx
theorem rcs_len (l : List Par) : (l.flatMap Par.rc).length = l.length * 2 := by
  induction l with
  | nil => rfl
  | cons x t ih => rw [List.flatMap_cons, List.length_append, ih]; simp [Par.rc]; omega
theorem rcs_take (l : List Par) (i : Nat) : (l.take i).flatMap Par.rc = (l.flatMap Par.rc).take (i * 2) := by
  induction l generalizing i with
  | nil => simp
  | cons x t ih =>
    cases i with
    | zero => simp
    | succ i =>
      rw [List.take_succ_cons, List.flatMap_cons, List.flatMap_cons, ih, List.take_append]
      have : x.rc.length = 2 := rfl
      rw [this, show (i + 1) * 2 - 2 = i * 2 by omega, List.take_of_length_le (l := x.rc) (by rw [this]; omega)]
theorem rcs_drop (l : List Par) (i : Nat) : (l.drop i).flatMap Par.rc = (l.flatMap Par.rc).drop (i * 2) := by
  induction l generalizing i with
  | nil => simp
  | cons x t ih =>
    cases i with
    | zero => simp
    | succ i =>
      have : x.rc.length = 2 := rfl
      rw [List.drop_succ_cons, List.flatMap_cons, ih, List.drop_append, this, show (i + 1) * 2 - 2 = i * 2 by omega, List.drop_of_length_le (l := x.rc) (by rw [this]; omega), List.nil_append]
theorem rcs_at : ∀ (l : List Par) (k : Nat) (h : k < l.length) (j : Nat) (v : Value), l[k].rc[j]? = some v → (l.flatMap Par.rc)[k * 2 + j]? = some v
  | x :: t, 0, _, j, v, hv => by
    have hj : j < x.rc.length := (List.getElem?_eq_some_iff.1 hv).1
    rw [List.flatMap_cons, Nat.zero_mul, Nat.zero_add, List.getElem?_append_left hj]; exact hv
  | x :: t, k + 1, h, j, v, hv => by
    have h9 : x.rc.length = 2 := rfl
    rw [List.flatMap_cons, List.getElem?_append_right (by omega), h9, show (k + 1) * 2 + j - 2 = k * 2 + j by omega]
    exact rcs_at t k (by simpa using h) j v hv
/-- a slice value that owns rows among the blocks from B on -/
def OwnR (B : Nat) (v : Value) (l : List Par) (w : World) : Prop := w.ownsRow B 80 2 v l.length (l.flatMap Par.rc)
/-- the slice value v reads as the rows l; its cells lie below block B -/
def Rws (w : World) (B : Nat) (v : Value) (l : List Par) : Prop :=
  ∃ A c, v = .slice A l.length c ∧ l.length ≤ c ∧ (0 < l.length → ∃ g o, A = some ⟨g, o, Option.none⟩ ∧ g < B ∧ ∀ k (h : k < l.length), w.rangeAt g (o + k * 2) l[k].rc)
theorem Rws.of_own {B : Nat} {v : Value} {l : List Par} {w : World} (h : OwnR B v l w) : Rws w w.heap.size v l := by
  unfold OwnR at h
  have hc := fun (g : Nat) (hg : v.ownBlock = some g) => World.ownsRow.cells h hg
  have hlt := World.ownsRow.lt h
  rcases h.2 with ⟨rfl, h0⟩ | ⟨g, c, cur, rfl, _, _, hnc, _⟩
  · exact ⟨Option.none, 0, by rw [h0], by rw [h0]; exact Nat.le_refl _, fun h => absurd h (by omega)⟩
  · refine ⟨_, c, rfl, hnc, fun _ => ⟨g, 0, rfl, (hlt g rfl).2, fun k hk j v hv => ?_⟩⟩
    have h2 := hc g rfl (k * 2 + j) v (rcs_at l k hk j v hv)
    rw [Addr.add_lit, Nat.zero_add] at h2
    rw [Nat.zero_add]; exact h2
theorem Rws.keep {w w' : World} {B C : Nat} {v : Value} {l : List Par} (h : Rws w B v l) (hb : Below C w w') (hC : B ≤ C) : Rws w' B v l := by
  obtain ⟨A, c, hv, hc, h⟩ := h
  refine ⟨A, c, hv, hc, fun hn => ?_⟩
  obtain ⟨g, o, hA, hg, hcs⟩ := h hn
  exact ⟨g, o, hA, hg, fun k hk j u hu => (hb.cell (p := ⟨g, o + k * 2 + j, Option.none⟩) (Nat.lt_of_lt_of_le hg hC)).trans (hcs k hk j u hu)⟩
theorem Rws.more {w : World} {B C : Nat} {v : Value} {l : List Par} (h : Rws w B v l) (hC : B ≤ C) : Rws w C v l := by
  obtain ⟨A, c, hv, hc, h⟩ := h
  refine ⟨A, c, hv, hc, fun hn => ?_⟩
  obtain ⟨g, o, hA, hg, hcs⟩ := h hn
  exact ⟨g, o, hA, Nat.lt_of_lt_of_le hg hC, hcs⟩

section
variable {P : Program}
/-- copy, at elements of any number of cells -/
theorem run_copy_rowK (w : World) (dT sT ty elem : TypeId) (size g o dLen dCap : Nat) (a : Addr) (sLen sCap : Nat) (cur : List Value) (t : TypeId) (cs : List Value)
    (hu : P.underlying dT = some (.slice elem)) (hs : (P.info? elem).map (·.size) = some size)
    (hg : w.heap[g]? = some (.cells cur.toArray t (0, 0))) (hn : cs.length = Nat.min sLen dLen * size)
    (hsrc : ∀ j v, cs[j]? = some v → w.cell? (a.add j) = some v) (hfit : o + cs.length ≤ cur.length) (h1 : ∀ v ∈ cs, v.oneCell' = true) :
    (Builtin.copy_ #[dT, sT] ty #[.slice (some ⟨g, o, Option.none⟩) dLen dCap, .slice (some a) sLen sCap]).run P w =
      .ok (goInt (Nat.min sLen dLen)) (w.setRow g (splice cur o cs).toArray) := by
  have hl := run_firstCells_some (P := P) w size (Nat.min sLen dLen) a sLen sCap cs hn hsrc
  have hst := run_storeCells_at P g o t cs 0 cur.toArray w hg (by simpa using hfit) h1
  cases hq : P.info? elem with
  | none => simp [hq] at hs
  | some i =>
    have hi : i.size = size := by simpa [hq] using hs
    simp [Builtin.copy_, run_underlying hu, Builtin.lenOf, sizeOf, typeInfo, hq, hi, hl, hst, splice]
theorem heap_setRow_some (w : World) (g : Nat) (old : List Value) (cs : List Value) (t : TypeId) (hg : w.heap[g]? = some (.cells old.toArray t (0, 0))) : (w.setRow g cs.toArray).heap[g]? = some (.cells cs.toArray t (0, 0)) := setRow_heap w g _ _ t _ hg
theorem grown_setRow (w : World) (g : Nat) (cs : Array Value) : w.grownBy (w.setRow g cs) (some g) := ⟨rfl, rfl, rfl, by simp, fun k _ hk => setRow_other w g k cs (fun e => hk (by rw [e]))⟩
theorem wp_copy_rowK {w : World} {o : Oper} {a : Act} {K : Act → World → Prop} {Q : Exit → Act → World → Prop} (d s : Operand) (dT sT : TypeId)
    (ho : o.op = .call { callee := .builtin .copy, args := #[d, s], argTypes := #[dT, sT] }) (elem : TypeId) (size : Nat) (hu : P.underlying dT = some (.slice elem)) (hs : (P.info? elem).map (·.size) = some size)
    (g oc dLen dCap : Nat) (ad : Addr) (sLen sCap : Nat) (hd : a.eval d = .slice (some ⟨g, oc, Option.none⟩) dLen dCap) (hx : a.eval s = .slice (some ad) sLen sCap)
    (cur : List Value) (t : TypeId) (cs : List Value) (hg : w.heap[g]? = some (.cells cur.toArray t (0, 0))) (hn : cs.length = Nat.min sLen dLen * size)
    (hsrc : ∀ j v, cs[j]? = some v → w.cell? (ad.add j) = some v) (hfit : oc + cs.length ≤ cur.length) (h1 : ∀ v ∈ cs, v.oneCell' = true)
    (h : ∀ W', W'.heap[g]? = some (.cells (splice cur oc cs).toArray t (0, 0)) → w.grownBy W' (some g) → K (a.put o.dst (goInt (Nat.min sLen dLen))) W') : o.wp P a w K Q := by
  have hr := run_copy_rowK (P := P) w dT sT o.type elem size g oc dLen dCap ad sLen sCap cur t cs hu hs hg hn hsrc hfit h1
  unfold Oper.wp execOp
  simp only [ho, resolve, invoke, builtin, Sem.run_bind, Sem.run_pure, Result.andThen_ok, List.map_toArray, List.map_cons, List.map_nil, hd, hx, hr]
  exact h _ (heap_setRow_some w g cur _ t hg) (grown_setRow w g _)
theorem wpList_copy_rowK {w : World} {ops : Array Oper} {rest : List Oper} {o : Oper} {a : Act} {Q : Exit → Act → World → Prop} (hgd : o.guard = Option.none) (d s : Operand) (dT sT : TypeId)
    (ho : o.op = .call { callee := .builtin .copy, args := #[d, s], argTypes := #[dT, sT] }) (elem : TypeId) (size : Nat) (hu : P.underlying dT = some (.slice elem)) (hs : (P.info? elem).map (·.size) = some size)
    (g oc dLen dCap : Nat) (ad : Addr) (sLen sCap : Nat) (hd : a.eval d = .slice (some ⟨g, oc, Option.none⟩) dLen dCap) (hx : a.eval s = .slice (some ad) sLen sCap)
    (cur : List Value) (t : TypeId) (cs : List Value) (hg : w.heap[g]? = some (.cells cur.toArray t (0, 0))) (hn : cs.length = Nat.min sLen dLen * size)
    (hsrc : ∀ j v, cs[j]? = some v → w.cell? (ad.add j) = some v) (hfit : oc + cs.length ≤ cur.length) (h1 : ∀ v ∈ cs, v.oneCell' = true)
    (h : ∀ W', W'.heap[g]? = some (.cells (splice cur oc cs).toArray t (0, 0)) → w.grownBy W' (some g) → wpList P ops Q rest (a.put o.dst (goInt (Nat.min sLen dLen))) W') : wpList P ops Q (o :: rest) a w :=
  wpList_plain hgd fun K hK => wp_copy_rowK d s dT sT ho elem size hu hs g oc dLen dCap ad sLen sCap hd hx cur t cs hg hn hsrc hfit h1 (fun W' p q => hK _ _ (h W' p q))
theorem step_copy_rowK {ops : Array Oper} {o : Oper} {a : Act} {w : World} {K : Act → World → Prop} {Q : Exit → Act → World → Prop} {E : Prop} (hgd : o.guard = Option.none) (d s : Operand) (dT sT : TypeId)
    (ho : o.op = .call { callee := .builtin .copy, args := #[d, s], argTypes := #[dT, sT] }) (elem : TypeId) (size : Nat) (hu : P.underlying dT = some (.slice elem)) (hs : (P.info? elem).map (·.size) = some size)
    (g oc dLen dCap : Nat) (ad : Addr) (sLen sCap : Nat) (hd : a.eval d = .slice (some ⟨g, oc, Option.none⟩) dLen dCap) (hx : a.eval s = .slice (some ad) sLen sCap)
    (cur : List Value) (t : TypeId) (cs : List Value) (hg : w.heap[g]? = some (.cells cur.toArray t (0, 0))) (hn : cs.length = Nat.min sLen dLen * size)
    (hsrc : ∀ j v, cs[j]? = some v → w.cell? (ad.add j) = some v) (hfit : oc + cs.length ≤ cur.length) (h1 : ∀ v ∈ cs, v.oneCell' = true)
    (h : ∀ W', W'.heap[g]? = some (.cells (splice cur oc cs).toArray t (0, 0)) → w.grownBy W' (some g) → K (a.put o.dst (goInt (Nat.min sLen dLen))) W') :
    if Region.wanted o (yielded ops a.tmps) = true then Oper.wp P o a w K Q else E := by
  have hw : Region.wanted o (yielded ops a.tmps) = true := by simp [Region.wanted, hgd]
  rw [if_pos hw]
  exact wp_copy_rowK d s dT sT ho elem size hu hs g oc dLen dCap ad sLen sCap hd hx cur t cs hg hn hsrc hfit h1 h
/-- append where there is room, as one step of a region that draws -/
theorem step_append_rowK {ops : Array Oper} {o : Oper} {a : Act} {w : World} {K : Act → World → Prop} {Q : Exit → Act → World → Prop} {E : Prop} (hgd : o.guard = Option.none) (s x : Operand) (t : TypeId)
    (ho : o.op = .call { callee := .builtin .append, args := #[s, x], argTypes := #[t, t] }) (e : TypeId) (size : Nat) (ht : P.underlying t = some (.slice e)) (hs : (P.info? e).map (·.size) = some size)
    (g n cap : Nat) (hd : a.eval s = .slice (some ⟨g, 0, Option.none⟩) n cap) (ad : Addr) (m c : Nat) (hx : a.eval x = .slice (some ad) m c)
    (cur news : List Value) (hg : w.heap[g]? = some (.cells cur.toArray e (0, 0))) (hl : news.length = m * size) (hnews : ∀ j u, news[j]? = some u → w.cell? (ad.add j) = some u) (h1 : ∀ u ∈ news, u.oneCell' = true)
    (hroom : n + m ≤ cap) (hfit : n * size + news.length ≤ cur.length)
    (h : ∀ W', W'.heap[g]? = some (.cells (splice cur (n * size) news).toArray e (0, 0)) → w.grownBy W' (some g) → K (a.put o.dst (.slice (some ⟨g, 0, Option.none⟩) (n + m) cap)) W') :
    if Region.wanted o (yielded ops a.tmps) = true then Oper.wp P o a w K Q else E := by
  have hw : Region.wanted o (yielded ops a.tmps) = true := by simp [Region.wanted, hgd]
  rw [if_pos hw]
  obtain ⟨i, hi, hsz⟩ := Option.map_eq_some_iff.1 hs
  subst hsz
  have hr := run_append_room (P := P) w t o.type e i ht hi g n cap cur.toArray hg ad m c news hl hnews h1 hroom (by simpa using hfit)
  unfold Oper.wp execOp
  simp only [ho, resolve, invoke, builtin, Sem.run_bind, Sem.run_pure, Result.andThen_ok, List.map_toArray, List.map_cons, List.map_nil, hd, hx, hr]
  refine h _ ?_ (grown_setRow w g _)
  rw [setRow_heap w g _ _ e _ hg]
  unfold splice
  rw [List.append_assoc]
/-- clear, at elements of any number of cells -/
theorem run_clear_rowK (w : World) (t e : TypeId) (z : Value) (ht : P.underlying t = some (.slice e)) (hv : ∀ w, (zeroValue e).run P w = .ok z w)
    (g oc n c : Nat) (hn : 0 < n) (cur : List Value) (tt : TypeId) (hg : w.heap[g]? = some (.cells cur.toArray tt (0, 0)))
    (hfit : oc + n * z.cells.size ≤ cur.length) (h1 : ∀ v ∈ (Builtin.zeroCells z.cells n).toList, v.oneCell' = true) :
    ∃ W', (∀ ty, (Builtin.clear_ #[t] ty #[.slice (some ⟨g, oc, Option.none⟩) n c]).run P w = .ok (.tuple #[]) W') ∧ W'.heap[g]? = some (.cells (splice cur oc (Builtin.zeroCells z.cells n).toList).toArray tt (0, 0)) ∧ w.grownBy W' (some g) := by
  have hst := run_storeCells_at P g oc tt (Builtin.zeroCells z.cells n).toList 0 cur.toArray w hg (by simpa [Builtin.zeroCells] using hfit) h1
  obtain ⟨m, rfl⟩ : ∃ m, n = m + 1 := ⟨n - 1, by omega⟩
  refine ⟨w.setRow g (splice cur oc (Builtin.zeroCells z.cells (m + 1)).toList).toArray, fun ty => ?_, heap_setRow_some w g cur _ tt hg, grown_setRow w g _⟩
  simp only [Nat.add_zero] at hst
  simp [Builtin.clear_, run_underlying ht, hv, hst, splice]
theorem splice_in {α : Type} (L X Y : List α) (a b : Nat) (hX : X.length = b) (hl : a + b + Y.length ≤ L.length) : splice (splice L (a + b) Y) a X = L.take a ++ (X ++ (Y ++ L.drop (a + b + Y.length))) := by
  unfold splice
  rw [List.take_append_of_le_length (by simp; omega), List.take_take, Nat.min_eq_left (by omega), hX, List.drop_append_of_le_length (by simp; omega)]
  rw [show (List.take (a + b) L).drop (a + b) = [] from List.drop_eq_nil_of_le (by simp; omega), List.nil_append]
theorem splice_up {α : Type} (L X Y : List α) (a b : Nat) (hX : X.length = b) (hl : a + b + Y.length ≤ L.length) : splice (splice L a X) (a + b) Y = L.take a ++ (X ++ (Y ++ L.drop (a + b + Y.length))) := by
  unfold splice
  have e : (L.take a ++ (X ++ L.drop (a + X.length))).take (a + b) = L.take a ++ X := by
    rw [← List.append_assoc, List.take_append_of_le_length (by simp; omega), List.take_of_length_le (by simp; omega)]
  have e2 : (L.take a ++ (X ++ L.drop (a + X.length))).drop (a + b + Y.length) = L.drop (a + b + Y.length) := by
    rw [← List.append_assoc, List.drop_append, List.drop_eq_nil_of_le (by simp; omega), List.nil_append, List.drop_drop]
    congr 1
    simp; omega
  rw [e, e2, List.append_assoc]
theorem take_mid {α : Type} (A X Y D : List α) (n : Nat) (h : A.length + X.length + Y.length = n) : (A ++ (X ++ (Y ++ D))).take n = A ++ X ++ Y := by
  rw [← List.append_assoc, ← List.append_assoc, List.take_append_of_le_length (by simp; omega), List.take_of_length_le (by simp; omega)]
end
end Go.Proofs.Ytegkhkcnoahhdaa
/-
  The library's Clone, at rows of a document: the same rows in new memory; nil stays nil.
  The rows are at most 1,000.
-/
namespace Go.Proofs.Ytegkhkcnoahhdaa
open Go.RowKit Go.Lib
set_option maxRecDepth 100000

theorem grownBy_below {w w' : World} {B : Nat} {v : Value} (h : w.grownBy w' v.ownBlock) (hv : ∀ k, v.ownBlock = some k → B ≤ k) (hB : B ≤ w.heap.size) : Below B w w' :=
  ⟨h.os, h.tape, h.output, h.size, fun k hk => h.block k (by omega) (fun e => by have := hv k e.symm; omega)⟩
set_option maxHeartbeats 1000000 in
theorem dclone_any (B : Nat) (v : Value) (l : List Par) (w : World) (h : Rws w B v l) (hB : B ≤ w.heap.size) (hl : l.length ≤ 1000) :
    Calls Try.prog 48 #[v] w fun e w' => ∃ v', e = .returned v' ∧ OwnR w.heap.size v' l w' ∧ Below w.heap.size w w' := by
  obtain ⟨A, c, rfl, hc, hcell⟩ := h
  cases A with
  | none =>
    have h0 : l = [] := by
      rcases Nat.eq_zero_or_pos l.length with h | h
      · exact List.length_eq_zero_iff.1 h
      · obtain ⟨g, o, e, _⟩ := hcell h; cases e
    subst h0
    have q22 : ∀ (w : World) (a : Option Addr) (n c n' c' : Nat), (binOp .eql 57 (.slice a n c) (.slice none n' c')).run Try.prog w = .ok (.bool a.isNone) w := fun w a n c n' c' => Lib.run_eql_slice_nil w _ _ a n c n' c' Try.underlying57
    go_enter Try.func48, Try.ntmps48
    go_wp2
    go_ret
    exact ⟨_, rfl, World.ownsRow_nil _ _ _ _, Below.refl _ _⟩
  | some a =>
    have q22 : ∀ (w : World) (a : Option Addr) (n c n' c' : Nat), (binOp .eql 57 (.slice a n c) (.slice none n' c')).run Try.prog w = .ok (.bool a.isNone) w := fun w a n c n' c' => Lib.run_eql_slice_nil w _ _ a n c n' c' Try.underlying57
    obtain ⟨i0, hi, hz⟩ := Option.map_eq_some_iff.1 Try.infoRow3
    simp only [Prod.mk.injEq] at hz
    obtain ⟨hz0, hz1, hz2⟩ := hz
    have A1 := Lib.hid hcell; clear hcell
    obtain ⟨n, hn⟩ : ∃ n, l.length = n := ⟨_, rfl⟩
    rw [hn] at hc hl ⊢
    have HN := Lib.hid hn; clear hn
    go_enter Try.func48, Try.ntmps48
    go_wp2_with (at_builtin; refine wpList_append_own _ rfl _ _ 57 rfl w.heap.size 80 i0 _ 2 32 Try.underlying57 hi hz0 hz1 hz2 rfl (by decide) _ _ _ rfl (World.ownsRow_made w #[] 0 (Nat.le_refl _) (Nat.zero_le _) (by simp)) a n c (l.flatMap Par.rc) rfl ?qc1 ?qc2 ?qc3 ?qc4 ?qc5 ?qc6 ?_)
    case qc1 => rw [rcs_len, HN.out]
    case qc2 =>
      intro j u hj
      have hjl := (List.getElem?_eq_some_iff.1 hj).1
      rw [rcs_len] at hjl
      obtain ⟨g, o, e, hg, hcs⟩ := A1.out (by omega)
      injection e with e; subst e
      refine Lib.cell?_alloc_some _ ?_
      rw [Addr.add_lit]
      have hk : j / 2 < l.length := by omega
      have hx : ∃ y, l[j / 2].rc[j % 2]? = some y := by
        rcases Nat.mod_two_eq_zero_or_one j with h | h <;> rw [h] <;> exact ⟨_, rfl⟩
      obtain ⟨y, hy⟩ := hx
      have h1 := rcs_at l (j / 2) hk (j % 2) y hy
      rw [show j / 2 * 2 + j % 2 = j by omega, hj] at h1
      have h2 := hcs (j / 2) hk (j % 2) y hy
      rw [show o + j / 2 * 2 + j % 2 = o + j by omega] at h2
      injection h1 with h1; rw [h1]; exact h2
    case qc3 => exact rcs_one l
    case qc4 => simp only [maxLen]; omega
    case qc5 => omega
    case qc6 => simp
    intro v' w1 hown hgrow hnil
    go_wp2
    go_ret
    refine ⟨v', rfl, ?_, ?_⟩
    · unfold OwnR; rw [HN.out]; simpa using hown
    · exact ((Below.refl _ w).alloc (Nat.le_refl _) _).grown hgrow (by simp) (by intro k hk; simp [Value.ownBlock] at hk; omega)
end Go.Proofs.Ytegkhkcnoahhdaa
/-
  The library's Delete, at one row of a document that owns its rows: the rows ahead of it and behind it stay.
  The rows are at most 1,000; the place lies among them.
-/
namespace Go.Proofs.Ytegkhkcnoahhdaa
open Go.RowKit Go.Lib
set_option maxRecDepth 100000

set_option maxHeartbeats 1000000 in
theorem ddel_any (B i : Nat) (v : Value) (l : List Par) (w : World) (h : OwnR B v l w) (hi : i < l.length) (hl : l.length ≤ 1000) :
    Calls Try.prog 76 #[v, .int .i64 i, .int .i64 (i + 1 : Nat)] w fun e w' => ∃ v', e = .returned v' ∧ OwnR B v' (l.take i ++ l.drop (i + 1)) w' ∧ w.grownBy w' v.ownBlock ∧ v'.ownBlock = v.ownBlock := by
  unfold OwnR at h
  rcases h.2 with ⟨rfl, h0⟩ | ⟨g, c, cur, rfl, hbg, hg, hnc, hcm, hcs, htake⟩
  · omega
  · obtain ⟨n, hn⟩ : ∃ n, l.length = n := ⟨_, rfl⟩
    obtain ⟨L, hL⟩ : ∃ L, cur.toList = L := ⟨_, rfl⟩
    have hcur : cur = L.toArray := by rw [← hL]
    rw [hcur] at hg
    rw [hL] at htake
    have hLl : L.length = c * 2 := by rw [← hcs, ← hL]; simp
    rw [hn] at hnc hi hl htake ⊢
    have HT := Lib.hid htake
    have HN := Lib.hid hn
    have HL := Lib.hid hLl
    clear h hcs hcur hL hn htake hLl
    have hz : ∀ w, (zeroValue 80).run Try.prog w = .ok (.agg #[.string ⟨#[]⟩, .nilIface]) w := Try.zeroValue80
    obtain ⟨Y, hY⟩ : ∃ Y, (l.flatMap Par.rc).drop ((i + 1) * 2) = Y := ⟨_, rfl⟩
    have hYl : Y.length = (n - (i + 1)) * 2 := by rw [← hY, List.length_drop, rcs_len, HN.out]; omega
    have hYc : ∀ j u, Y[j]? = some u → w.cell? ⟨g, (i + 1) * 2 + j, none⟩ = some u := fun j u hu => by
      have hj := (List.getElem?_eq_some_iff.1 hu).1
      rw [← hY, List.getElem?_drop] at hu
      rw [cell_of_row w g _ L.toArray _ (0, 0) hg]
      rw [← HT.out, List.getElem?_take] at hu
      split at hu
      · simpa using hu
      · cases hu
    have hY1 : ∀ u ∈ Y, u.oneCell' = true := fun u hu => rcs_one l u (by rw [← hY] at hu; exact List.mem_of_mem_drop hu)
    have HY := Lib.hid hY
    have HYl := Lib.hid hYl
    have HYc := Lib.hid hYc
    have HY1 := Lib.hid hY1
    have HG := Lib.hid hg
    clear hY hYl hYc hY1 hg
    have e1 : (((i + 1 : Nat) : Int) == (i : Int)) = false := by rw [beq_eq_false_iff_ne]; omega
    have e2 : ((i : Int) == ((i + 1 : Nat) : Int)) = false := by rw [beq_eq_false_iff_ne]; omega
    have e3 : ¬ ((i : Int) = ((i + 1 : Nat) : Int)) := by omega
    have hic : i ≤ c := by omega
    have hjc : i + 1 ≤ c := by omega
    have hcm2 : c ≤ 9223372036854775807 := by simp only [maxLen] at hcm; omega
    have hb1 : (0 : Int) ≤ (i : Int) + 1 := by omega
    have htn : ((i : Int) + 1).toNat = i + 1 := by omega
    have hb3 : (i : Int) + 1 ≤ (n : Int) := by omega
    obtain ⟨AD, hAD, hsrc⟩ : ∃ AD : Addr, (if c = i + 1 then some (⟨g, 0, none⟩ : Addr) else some ⟨g, (i + 1) * 2, none⟩) = some AD ∧ Hid (∀ j u, Y[j]? = some u → w.drew.cell? (AD.add j) = some u) := by
      by_cases h : c = i + 1
      · refine ⟨⟨g, 0, none⟩, by simp [h], show ∀ j u, Y[j]? = some u → w.drew.cell? ((⟨g, 0, none⟩ : Addr).add j) = some u from fun j u hu => ?_⟩
        have h0 : Y = [] := List.length_eq_zero_iff.1 (by rw [HYl.out]; omega)
        rw [h0] at hu; simp at hu
      · refine ⟨⟨g, (i + 1) * 2, none⟩, by simp [h], show ∀ j u, Y[j]? = some u → w.drew.cell? ((⟨g, (i + 1) * 2, none⟩ : Addr).add j) = some u from fun j u hu => ?_⟩
        rw [Addr.add_lit]; exact HYc.out j u hu
    go_enter Try.func76, Try.ntmps76
    go_wp2_with fail
    go_region_law (refine step_append_rowK rfl (.tmp 22) (.tmp 25) 57 rfl 80 2 Try.underlying57 Try.infoRow g i c (by simp [Act.eval, Act.put]) AD (n - (i + 1)) (c - (i + 1)) (by simp [Act.eval, Act.put, hAD]) L Y HG.out HYl.out hsrc.out HY1.out (by omega) (by rw [HYl.out, HL.out]; omega) ?_; intro W1 hg1 hgr1)
    obtain ⟨m, hm⟩ : ∃ m, i + (n - (i + 1)) = m := ⟨_, rfl⟩
    have hmn : m + 1 = n := by omega
    have hmc : m ≤ c := by omega
    rw [hm]
    have hw1 : ∀ w : World, (zeroValue 80).run Try.prog w = .ok (.agg #[.string ⟨#[]⟩, .nilIface]) w := Try.zeroValue80
    have hsl : (splice L (i * 2) Y).length = L.length := length_splice _ _ _ (by rw [HYl.out, HL.out]; omega)
    have HSL := Lib.hid hsl
    clear hsl hm
    have HG1 := Lib.hid hg1; clear hg1
    subst hmn
    have hz : ∀ k, ∀ v ∈ (Builtin.zeroCells (Value.agg #[.string ⟨#[]⟩, .nilIface]).cells k).toList, v.oneCell' = true := fun k v hv => by
      simp [Builtin.zeroCells, Value.cells] at hv
      obtain ⟨a, _, rfl⟩ := hv
      rcases Nat.mod_two_eq_zero_or_one a with h | h <;> simp [h, Value.oneCell']
    obtain ⟨W2, hcl, hg2, hgr2⟩ := run_clear_rowK W1 57 80 _ Try.underlying57 hw1 g (m * 2) 1 (c - m) (by decide) (splice L (i * 2) Y) 80 HG1.out (by rw [HSL.out, HL.out]; simp [Value.cells]; omega) (hz 1)
    have HG2 := Lib.hid hg2; clear hg2 hz
    go_wp2
    go_ret
    refine ⟨_, rfl, ?_, ⟨hgr2.os.trans hgr1.os, hgr2.tape.trans hgr1.tape, hgr2.output.trans hgr1.output, Nat.le_trans hgr1.size hgr2.size, fun k hk hne => (hgr2.block k (Nat.lt_of_lt_of_le hk hgr1.size) hne).trans (hgr1.block k hk hne)⟩, rfl⟩
    have hlen : (l.take i ++ l.drop (i + 1)).length = m := by rw [List.length_append, List.length_take, List.length_drop, HN.out]; omega
    unfold OwnR
    refine ⟨rcs_len _, .inr ⟨g, c, _, by rw [hlen]; rfl, hbg, HG2.out, by omega, hcm, ?_, ?_⟩⟩
    · rw [List.size_toArray, length_splice _ _ _ (by rw [HSL.out, HL.out]; simp [Builtin.zeroCells, Value.cells]; omega), HSL.out, HL.out]
    · rw [hlen, List.flatMap_append, rcs_take, rcs_drop, HY.out]
      unfold splice
      rw [List.take_append_of_le_length (by simp; rw [HL.out, HYl.out]; omega), List.take_take, Nat.min_self, ← List.append_assoc, List.take_append_of_le_length (by simp; rw [HL.out, HYl.out]; omega), List.take_of_length_le (by simp; rw [HYl.out]; omega)]
      rw [← HT.out, List.take_take, Nat.min_eq_left (by omega)]
end Go.Proofs.Ytegkhkcnoahhdaa
/-
  The library's Insert, of one row into rows that a document owns, at any place: the rows ahead of it, the row, and those behind it.
  The rows are at most 1,000.
-/
namespace Go.Proofs.Ytegkhkcnoahhdaa
open Go.RowKit Go.Lib
set_option maxRecDepth 100000

theorem insR_len (l : List Par) (x : Par) (i : Nat) (hi : i ≤ l.length) : (l.take i ++ x :: l.drop i).length = l.length + 1 := by simp; omega
theorem insR_cells (l : List Par) (x : Par) (i : Nat) : (l.take i ++ x :: l.drop i).flatMap Par.rc = (l.flatMap Par.rc).take (i * 2) ++ (x.rc ++ (l.flatMap Par.rc).drop (i * 2)) := by
  rw [List.flatMap_append, List.flatMap_cons, rcs_take, rcs_drop]
/-- a row's two cells in a block of its own -/
def Lone (w : World) (vb : Nat) (x : Par) : Prop := w.heap[vb]? = some (.cells x.rc.toArray 80 (0, 0))
theorem Lone.at_ {w : World} {vb : Nat} {x : Par} (h : Lone w vb x) (j : Nat) (u : Value) (hu : x.rc[j]? = some u) : w.cell? ((⟨vb, 0, none⟩ : Addr).add j) = some u := by
  rw [Addr.add_lit, Nat.zero_add, cell_of_row w vb j _ _ (0, 0) h]; simpa using hu
set_option maxHeartbeats 1000000 in
theorem dins_end (B : Nat) (v : Value) (l : List Par) (x : Par) (vb : Nat) (w : World) (h : OwnR B v l w) (hl : l.length ≤ 1000) (hB : B ≤ w.heap.size) (hvb : Lone w vb x) :
    Calls Try.prog 77 #[v, .int .i64 l.length, .slice (some ⟨vb, 0, none⟩) 1 1] w fun e w' => ∃ v', e = .returned v' ∧ OwnR B v' (l ++ [x]) w' ∧ w.grownBy w' v.ownBlock := by
  unfold OwnR at h
  obtain ⟨i0, hi, hz⟩ := Option.map_eq_some_iff.1 Try.infoRow3
  simp only [Prod.mk.injEq] at hz
  obtain ⟨hz0, hz1, hz2⟩ := hz
  have hnc : ∃ A c, v = .slice A l.length c ∧ l.length ≤ c ∧ (A = none → l.length = 0 ∧ c = 0) ∧ (∀ a, A = some a → ∃ g, a = ⟨g, 0, none⟩) ∧ c ≤ maxLen := by
    rcases h.2 with ⟨rfl, h0⟩ | ⟨g, c, cur, rfl, _, _, hnc, hcm, _⟩
    · exact ⟨none, 0, by rw [h0], by omega, fun _ => ⟨h0, rfl⟩, fun _ h => by simp at h, by decide⟩
    · exact ⟨_, c, rfl, hnc, fun e => by simp at e, fun a ha => ⟨g, by injection ha with ha; exact ha.symm⟩, hcm⟩
  obtain ⟨A, c, rfl, hnc, hA0, hAg, hcm⟩ := hnc
  obtain ⟨n, hn⟩ : ∃ n, l.length = n := ⟨_, rfl⟩
  have hx := hvb.at_
  have HO := Lib.hid h; clear h
  have HX := Lib.hid hx; clear hx hvb
  have hcm2 : c ≤ 9223372036854775807 := by simp only [maxLen] at hcm; omega
  have fin : ∀ v' w1, w1.ownsRow B 80 2 v' (n + 1) (l.flatMap Par.rc ++ x.rc) → OwnR B v' (l ++ [x]) w1 := fun v' w1 h => by
    unfold OwnR; rw [List.flatMap_append, List.length_append, hn]; simpa using h
  rw [hn] at hnc hl hA0 HO ⊢
  have FIN := Lib.hid fin
  clear fin hn
  have hlr : x.rc.length = 1 * 2 := rfl
  have hn1 : n + 1 ≤ maxLen := by simp only [maxLen]; omega
  rcases A with _ | a
  · obtain ⟨rfl, rfl⟩ := hA0 rfl
    clear hA0 hAg
    go_enter Try.func77, Try.ntmps77
    go_wp2_with (at_builtin; refine wpList_append_own _ rfl _ _ 57 rfl B 80 i0 _ 2 32 Try.underlying57 hi hz0 hz1 hz2 rfl (by decide) _ _ _ rfl HO.out ⟨vb, 0, none⟩ 1 1 x.rc rfl hlr HX.out (rc_one x) hn1 (by omega) hB ?_; intro v' w1 hown hgrow hnil)
    go_ret
    exact ⟨v', rfl, FIN.out v' w1 hown, hgrow⟩
  · obtain ⟨g, rfl⟩ := hAg a rfl
    clear hA0 hAg
    go_enter Try.func77, Try.ntmps77
    go_wp2_with (at_builtin; refine wpList_append_own _ rfl _ _ 57 rfl B 80 i0 _ 2 32 Try.underlying57 hi hz0 hz1 hz2 rfl (by decide) _ _ _ rfl HO.out ⟨vb, 0, none⟩ 1 1 x.rc rfl hlr HX.out (rc_one x) hn1 (by omega) hB ?_; intro v' w1 hown hgrow hnil)
    all_goals (go_ret; exact ⟨v', rfl, FIN.out v' w1 hown, hgrow⟩)
set_option maxHeartbeats 1000000 in
theorem dins_mid (B i : Nat) (v : Value) (l : List Par) (x : Par) (vb : Nat) (w : World) (h : OwnR B v l w) (hi : i < l.length) (hl : l.length ≤ 1000) (hB : B ≤ w.heap.size) (hvb : Lone w vb x) (hne : v.ownBlock ≠ some vb) :
    Calls Try.prog 77 #[v, .int .i64 i, .slice (some ⟨vb, 0, none⟩) 1 1] w fun e w' => ∃ v', e = .returned v' ∧ OwnR B v' (l.take i ++ x :: l.drop i) w' ∧ w.grownBy w' v.ownBlock := by
  unfold OwnR at h
  rcases h.2 with ⟨rfl, h0⟩ | ⟨g, c, cur, rfl, hbg, hg, hnc, hcm, hcs, htake⟩
  · omega
  · have hlen := insR_len l x i (by omega)
    have hcells := insR_cells l x i
    obtain ⟨n, hn⟩ : ∃ n, l.length = n := ⟨_, rfl⟩
    obtain ⟨L, hL⟩ : ∃ L, cur.toList = L := ⟨_, rfl⟩
    have hcur : cur = L.toArray := by rw [← hL]
    rw [hcur] at hg
    rw [hL] at htake
    have hLl : L.length = c * 2 := by rw [← hcs, ← hL]; simp
    have hXl : (l.flatMap Par.rc).length = n * 2 := by rw [rcs_len, hn]
    rw [hn] at hnc hi hl htake hlen ⊢
    obtain ⟨X, hX⟩ : ∃ X, l.flatMap Par.rc = X := ⟨_, rfl⟩
    have hX1 : ∀ u ∈ X, u.oneCell' = true := by rw [← hX]; exact rcs_one l
    rw [hX] at htake hXl hcells
    have hgv : vb ≠ g := fun e => hne (by rw [e]; rfl)
    have hgw : g < w.heap.size := (Array.getElem?_eq_some_iff.1 hg).1
    have hvw : vb < w.heap.size := (Array.getElem?_eq_some_iff.1 hvb).1
    obtain ⟨Y, hY⟩ : ∃ Y, X.drop (i * 2) = Y := ⟨_, rfl⟩
    have hYl : Y.length = (n - i) * 2 := by rw [← hY, List.length_drop, hXl]; omega
    have hYc : ∀ j u, Y[j]? = some u → w.cell? ⟨g, i * 2 + j, none⟩ = some u := fun j u hu => by
      have hj := (List.getElem?_eq_some_iff.1 hu).1
      rw [← hY, List.getElem?_drop] at hu
      rw [cell_of_row w g _ L.toArray _ (0, 0) hg]
      rw [← htake, List.getElem?_take] at hu
      split at hu
      · simpa using hu
      · cases hu
    have hY1 : ∀ u ∈ Y, u.oneCell' = true := fun u hu => hX1 u (by rw [← hY] at hu; exact List.mem_of_mem_drop hu)
    have hx := hvb.at_
    have hlone : w.heap[vb]? = some (.cells x.rc.toArray 80 (0, 0)) := hvb
    have hsa : w.shape? vb = some (80, 2) := by unfold World.shape?; rw [hlone]; rfl
    have hsb : w.shape? g = some (80, c * 2) := by unfold World.shape?; rw [hg]; simp [hLl]
    have hfa : w.frozen? ⟨vb, 0, none⟩ = false := by simp [World.frozen?, hlone]
    have hfe : w.frozen? ⟨vb, 2, none⟩ = false := by simp [World.frozen?, hlone]
    have hov : ∀ lb cb, (callFunc 88 #[.slice (some ⟨vb, 0, none⟩) 1 1, .slice (some ⟨g, (i + 1) * 2, none⟩) lb cb]).run Try.prog w = .ok (.value (.bool false)) w := fun lb cb => by
      rw [run_callFunc_extern Try.func88 (by kernel_rfl) (by kernel_rfl) (by kernel_rfl) (e := Extern.SlicesOverlaps.overlaps #[57, 57] #[4]) (by kernel_rfl),
        Lib.run_overlaps_apart w 57 4 80 Try.underlying57 2 Try.sizeOf80 ⟨vb, 0, none⟩ ⟨g, (i + 1) * 2, none⟩ 1 1 lb cb hgv 80 80 2 (c * 2) hsa hsb (by omega) hfa hfe]
      rfl
    have hlr : x.rc.length = 2 := rfl
    obtain ⟨xr, hxr⟩ : ∃ xr, x.rc = xr := ⟨_, rfl⟩
    have hx1 : ∀ u ∈ xr, u.oneCell' = true := by rw [← hxr]; exact rc_one x
    rw [hxr] at hlr hx hlone hcells
    rw [hY] at hcells
    have hin1 : (((i : Int)) == (n : Int)) = false := by rw [beq_eq_false_iff_ne]; omega
    have hic : ¬ (c = i) := by omega
    have hin3 : (i : Int) ≤ (n : Int) := by omega
    have hin2 : i ≤ n := by omega
    have hb1 : (0 : Int) ≤ (i : Int) + 1 := by omega
    have htn : ((i : Int) + 1).toNat = i + 1 := by omega
    have hcm2 : c ≤ 9223372036854775807 := by simp only [maxLen] at hcm; omega
    have hw1 : IntKind.i64.wrap ((i : Int) + 1) = (i : Int) + 1 := by rw [IntKind.wrap_i64]; omega
    have hfin : ∀ (F : List Value) (G c' : Nat) (W : World), B ≤ G → n + 1 ≤ c' → c' ≤ maxLen → F.length = c' * 2 → F.take ((n + 1) * 2) = X.take (i * 2) ++ (xr ++ Y) → W.heap[G]? = some (.cells F.toArray 80 (0, 0)) → OwnR B (.slice (some ⟨G, 0, none⟩) (n + 1) c') (l.take i ++ x :: l.drop i) W := fun F G c' W hBG hc1 hc2 hF ht hW => by
      unfold OwnR
      refine ⟨rcs_len _, .inr ⟨G, c', _, by rw [hlen], hBG, hW, by omega, hc2, by simpa using hF, ?_⟩⟩
      rw [hlen, hcells, ← ht]
    have HFIN := Lib.hid hfin
    have HX := Lib.hid hx
    have HLO := Lib.hid hlone
    have HYc := Lib.hid hYc
    have HY1 := Lib.hid hY1
    have HYl := Lib.hid hYl
    have HXl := Lib.hid hXl
    have HT := Lib.hid htake
    have HL := Lib.hid hLl
    have HG := Lib.hid hg
    have HY := Lib.hid hY
    have HLR := Lib.hid hlr
    have HX1 := Lib.hid hx1
    clear hfin hx hlone hYc hY1 hYl hXl htake hLl hg hY hlr hx1 h hcs hcur hL hn hX hX1 hcells hvb hsa hsb hfa hfe hxr hlen
    by_cases hroom : n + 1 ≤ c
    · have hr1 : ¬ ((c : Int) < (n : Int) + 1) := by omega
      have hr2 : (n : Int) + 1 ≤ (c : Int) := by omega
      have hb3 : (i : Int) + 1 ≤ (n : Int) + 1 := by omega
      have hic1 : ¬ (c = i + 1) := by omega
      have hin4 : (i : Int) ≤ (n : Int) + 1 := by omega
      have htn2 : ((n : Int) + 1).toNat = n + 1 := by omega
      have hb0 : (0 : Int) ≤ (n : Int) + 1 := by omega
      go_enter Try.func77, Try.ntmps77
      go_wp2_with fail
      go_region_law (refine step_copy_rowK rfl (.tmp 73) (.tmp 76) 57 57 rfl 80 2 Try.underlying57 Try.infoRow g ((i + 1) * 2) (n + 1 - (i + 1)) (c - (i + 1)) ⟨g, i * 2, none⟩ (n + 1 - i) (c - i) (by simp [Act.eval, Act.put]) (by simp [Act.eval, Act.put]) L 80 Y HG.out (by rw [HYl.out]; simp only [Nat.min_def]; split <;> omega) (fun j u hu => by rw [Addr.add_lit]; exact HYc.out j u hu) (by rw [HYl.out, HL.out]; omega) HY1.out ?_; intro W1 hg1 hgr1)
      have hx2 : ∀ j u, xr[j]? = some u → W1.cell? ((⟨vb, 0, none⟩ : Addr).add j) = some u := fun j u hu => by
        have h0 := HX.out j u hu
        rw [Addr.add_lit] at h0 ⊢
        exact hgr1.cell (a := ⟨vb, 0 + j, none⟩) h0 (fun e => hgv (by injection e))
      have HX2 := Lib.hid hx2
      have hl1 : (splice L ((i + 1) * 2) Y).length = c * 2 := by rw [length_splice _ _ _ (by rw [HYl.out, HL.out]; omega), HL.out]
      have HL1 := Lib.hid hl1
      have HG1 := Lib.hid hg1
      clear hx2 hl1 hg1
      go_wp2_with (refine wpList_copy_rowK rfl _ _ 57 57 rfl 80 2 Try.underlying57 Try.infoRow g (i * 2) (n + 1 - i) (c - i) ⟨vb, 0, none⟩ 1 1 rfl rfl (splice L ((i + 1) * 2) Y) 80 xr HG1.out (by rw [HLR.out]; simp only [Nat.min_def]; split <;> omega) HX2.out (by rw [HLR.out, HL1.out]; omega) HX1.out ?_; intro W2 hg2 hgr2)
      go_ret
      refine ⟨_, rfl, HFIN.out _ g c W2 hbg hroom hcm (by rw [length_splice _ _ _ (by rw [HLR.out, HL1.out]; omega), HL1.out]) ?_ hg2, ⟨hgr2.os.trans hgr1.os, hgr2.tape.trans hgr1.tape, hgr2.output.trans hgr1.output, Nat.le_trans hgr1.size hgr2.size, fun k hk hne => (hgr2.block k (Nat.lt_of_lt_of_le hk hgr1.size) hne).trans (hgr1.block k hk hne)⟩⟩
      rw [show (i + 1) * 2 = i * 2 + 2 by omega, splice_in L xr Y (i * 2) 2 HLR.out (by rw [HYl.out, HL.out]; omega), take_mid _ _ _ _ _ (by rw [List.length_take, HLR.out, HYl.out, HL.out]; omega), List.append_assoc]
      congr 1
      rw [← HT.out, List.take_take, Nat.min_eq_left (by omega)]
    · obtain ⟨i0, hi0, hz⟩ := Option.map_eq_some_iff.1 Try.infoRow3
      simp only [Prod.mk.injEq] at hz
      obtain ⟨hz0, hz1, hz2⟩ := hz
      obtain ⟨W1, C, ROW, hrz, hG1, hb1w, hC1, hC2, hRl, hRt, hs1⟩ : ∃ (W1 : World) (C : Nat) (ROW : List Value), (∀ ty, (Builtin.append_ #[57, 3] ty #[.slice (some ⟨g, 0, none⟩) i c, .int .i64 ((n : Int) + 1 - (i : Int))]).run Try.prog w = .ok (.slice (some ⟨w.heap.size, 0, none⟩) (n + 1) C) W1) ∧ W1.heap[w.heap.size]? = some (.cells ROW.toArray 80 (0, 0)) ∧ Below w.heap.size w W1 ∧ n + 1 ≤ C ∧ C ≤ maxLen ∧ ROW.length = C * 2 ∧ ROW.take (i * 2) = X.take (i * 2) ∧ w.heap.size < W1.heap.size := by
        have hold : (Builtin.firstCells i0.size i (.slice (some ⟨g, 0, none⟩) i c)).run Try.prog w.drew = .ok (X.take (i * 2)).toArray w.drew := by
          rw [hz1]
          refine run_firstCells_some w.drew 2 i ⟨g, 0, none⟩ i c (X.take (i * 2)) (by rw [List.length_take, HXl.out]; omega) (fun j u hj => ?_)
          have hjl := (List.getElem?_eq_some_iff.1 hj).1
          rw [Addr.add_lit, Nat.zero_add]
          show w.cell? _ = _
          rw [cell_of_row w g j L.toArray _ (0, 0) HG.out]
          rw [← HT.out, List.take_take, List.getElem?_take] at hj
          split at hj
          · simpa using hj
          · cases hj
        have hr := fun ty => Lib.run_append_grow_zeros (P := Try.prog) w 57 3 ty 80 i0 _ .i64 .i64 Try.underlying57 Try.underlying3 hi0 hz0 (some ⟨g, 0, none⟩) i c (X.take (i * 2)) hold (n + 1 - i) (by omega) (by omega) (by omega) (by omega) (by rw [hz2]; omega) (by rw [hz2]; exact growslice_fits (by omega) (by omega))
        have hge := grownCap_ge w (i + (n + 1 - i)) c 80
        have hle := grownCap_le_maxLen w (i + (n + 1 - i)) c 80 (by simp only [maxLen]; omega)
        rw [show (((n + 1 - i : Nat)) : Int) = (n : Int) + 1 - (i : Int) by omega, show i + (n + 1 - i) = n + 1 by omega] at hr
        rw [show i + (n + 1 - i) = n + 1 by omega] at hge hle
        obtain ⟨C, hC⟩ : ∃ C, grownCap w (n + 1) c 80 = C := ⟨_, rfl⟩
        rw [hC] at hr hge hle
        refine ⟨_, C, ((X.take (i * 2)).toArray ++ Builtin.zeroCells (Value.agg #[.string ⟨#[]⟩, .nilIface]).cells (n + 1 - i) ++ Builtin.zeroCells (Value.agg #[.string ⟨#[]⟩, .nilIface]).cells (C - (n + 1))).toList, hr, ?_, (Below.refl _ _).drew.alloc (Nat.le_refl _) _, hge, hle, ?_, ?_, by simp⟩
        · refine (heap_alloc_new w.drew _).trans ?_
          rw [Array.toArray_toList]
        · simp [Builtin.zeroCells, Value.cells, HXl.out]; omega
        · rw [Array.toList_append, Array.toList_append, List.append_assoc, List.take_append_of_le_length (by simp [HXl.out]; omega), List.take_of_length_le (by simp; omega)]
      have hG63 : C ≤ 9223372036854775807 := by simp only [maxLen] at hC2; omega
      have hGi : ¬ (C = i) := by omega
      have hGi1 : ¬ (C = i + 1) := by omega
      have hr1 : (c : Int) < (n : Int) + 1 := by omega
      have hb3 : (i : Int) + 1 ≤ (n : Int) + 1 := by omega
      have hin4 : (i : Int) ≤ (n : Int) + 1 := by omega
      have hx2 : ∀ j u, xr[j]? = some u → W1.cell? ((⟨vb, 0, none⟩ : Addr).add j) = some u := fun j u hu => by
        have h0 := HX.out j u hu
        rw [Addr.add_lit] at h0 ⊢
        exact (hb1w.cell (p := ⟨vb, 0 + j, none⟩) hvw).trans h0
      have hy2 : ∀ j u, Y[j]? = some u → W1.cell? ⟨g, i * 2 + j, none⟩ = some u := fun j u hu => (hb1w.cell (p := ⟨g, i * 2 + j, none⟩) hgw).trans (HYc.out j u hu)
      obtain ⟨N, hN⟩ : ∃ N, w.heap.size = N := ⟨_, rfl⟩
      have hgN : g ≠ N := by omega
      have hBN : B ≤ N := by omega
      rw [hN] at hrz hG1
      have HX2 := Lib.hid hx2
      have HY2 := Lib.hid hy2
      have HG1 := Lib.hid hG1
      have HRL := Lib.hid hRl
      have HRT := Lib.hid hRt
      have HB1 := Lib.hid hb1w
      have HN := Lib.hid hN
      have HS1 := Lib.hid hs1
      clear hx2 hy2 hG1 hRl hRt hb1w hN hs1
      go_enter Try.func77, Try.ntmps77
      go_wp2_with (first
        | (at_builtin; refine Lib.wpList_append_run _ rfl _ _ _ _ rfl _ _ rfl rfl _ _ (hrz _) ?_)
        | (refine wpList_copy_rowK rfl _ _ 57 57 rfl 80 2 Try.underlying57 Try.infoRow N (i * 2) (n + 1 - i) (C - i) ⟨vb, 0, none⟩ 1 1 rfl rfl ROW 80 xr HG1.out (by rw [HLR.out]; simp only [Nat.min_def]; split <;> omega) HX2.out (by rw [HLR.out, HRL.out]; omega) HX1.out ?_; intro W2 hg2 hgr2))
      have hl1 : (splice ROW (i * 2) xr).length = C * 2 := by rw [length_splice _ _ _ (by rw [HLR.out, HRL.out]; omega), HRL.out]
      have hy3 : ∀ j u, Y[j]? = some u → W2.cell? ⟨g, i * 2 + j, none⟩ = some u := fun j u hu => hgr2.cell (a := ⟨g, i * 2 + j, none⟩) (HY2.out j u hu) (fun e => hgN (by injection e))
      have HL1 := Lib.hid hl1
      have HY3 := Lib.hid hy3
      have HG2 := Lib.hid hg2
      clear hl1 hy3 hg2
      go_region_law (refine step_copy_rowK rfl (.tmp 50) (.tmp 53) 57 57 rfl 80 2 Try.underlying57 Try.infoRow N ((i + 1) * 2) (n + 1 - (i + 1)) (C - (i + 1)) ⟨g, i * 2, none⟩ (n - i) (c - i) (by simp [Act.eval, Act.put]) (by simp [Act.eval, Act.put]) (splice ROW (i * 2) xr) 80 Y HG2.out (by rw [HYl.out]; simp only [Nat.min_def]; split <;> omega) (fun j u hu => by rw [Addr.add_lit]; exact HY3.out j u hu) (by rw [HYl.out, HL1.out]; omega) HY1.out ?_; intro W3 hg3 hgr3)
      go_wp2
      go_ret
      have hf : ∀ k, k < w.heap.size → W3.heap[k]? = w.heap[k]? := fun k hk => by
        have h1 : W1.heap[k]? = w.heap[k]? := HB1.out.block k hk
        have hs := HS1.out
        have hkN : some k ≠ some N := fun e => by injection e with e; have := HN.out; omega
        have h2 := hgr2.block k (by omega) hkN
        have h3 := hgr3.block k (Nat.lt_of_lt_of_le (by omega : k < W1.heap.size) hgr2.size) hkN
        exact h3.trans (h2.trans h1)
      refine ⟨_, rfl, HFIN.out _ N C W3 hBN hC1 hC2 (by rw [length_splice _ _ _ (by rw [HYl.out, HL1.out]; omega), HL1.out]) ?_ hg3, ⟨hgr3.os.trans (hgr2.os.trans HB1.out.os), hgr3.tape.trans (hgr2.tape.trans HB1.out.tape), hgr3.output.trans (hgr2.output.trans HB1.out.output), Nat.le_trans HB1.out.size (Nat.le_trans hgr2.size hgr3.size), fun k hk _ => hf k hk⟩⟩
      rw [show (i + 1) * 2 = i * 2 + 2 by omega, splice_up ROW xr Y (i * 2) 2 HLR.out (by rw [HYl.out, HRL.out]; omega), take_mid _ _ _ _ _ (by rw [List.length_take, HLR.out, HYl.out, HRL.out]; omega), List.append_assoc, HRT.out]
theorem dins_any (B i : Nat) (v : Value) (l : List Par) (x : Par) (vb : Nat) (w : World) (h : OwnR B v l w) (hi : i ≤ l.length) (hl : l.length ≤ 1000) (hB : B ≤ w.heap.size) (hvb : Lone w vb x) (hne : v.ownBlock ≠ some vb) :
    Calls Try.prog 77 #[v, .int .i64 i, .slice (some ⟨vb, 0, none⟩) 1 1] w fun e w' => ∃ v', e = .returned v' ∧ OwnR B v' (l.take i ++ x :: l.drop i) w' ∧ w.grownBy w' v.ownBlock := by
  by_cases h0 : i = l.length
  · subst h0
    rw [List.take_length, List.drop_length]
    exact dins_end B v l x vb w h hl hB hvb
  · exact dins_mid B i v l x vb w h (by omega) hl hB hvb hne
end Go.Proofs.Ytegkhkcnoahhdaa
