/-
  How arguments are opened that hold operations: an operation, a batch, and the operations of a batch in memory.
  There are no conditions beyond those that each lemma names.
-/
import Derived.Test.YtegkhkcnoahhdaaProg
import Derived.ProofKit
import Derived.OpenShut
import Derived.Lib.SmallJoins
import Derived.Deep.Slices
import Derived.Test.YtegkhkcnoahhdaaOpPlain
set_option linter.unusedSimpArgs false
set_option linter.unusedVariables false
namespace Go.Proofs.Ytegkhkcnoahhdaa
open Go.RowKit Go.WideShapes Go.ChangeShapes Go.Joins Go.Deep
set_option maxRecDepth 100000

def I64 (a : Int) : Prop := -9223372036854775808 ≤ a ∧ a ≤ 9223372036854775807
theorem i64_wf {a : Int} (h : (Lit.int .i64 a).wf = true) : I64 a := by
  have := bounds_i64 h; unfold I64; omega
/-- the cells of a raw value -/
def RawCs (cs : List Value) : Prop := ∃ (k n : Int) (s : ByteArray), cs = [.int .i64 k, .int .i64 n, .string s] ∧ I64 k ∧ I64 n ∧ s.size ≤ maxLen
/-- the cells of an operation -/
def OpCs (cs : List Value) : Prop := ∃ (k : Int) (key : ByteArray) (v o : List Value) (n : Int), cs = [.int .i64 k, .string key] ++ v ++ o ++ [.int .i64 n] ∧ I64 k ∧ key.size ≤ maxLen ∧ RawCs v ∧ RawCs o ∧ I64 n
theorem Try.cellsInt : Try.prog.cellsOf 3 = 1 := by kernel_rfl
theorem Try.cellsInt64 : Try.prog.cellsOf 2 = 1 := by kernel_rfl
theorem Try.cellsString : Try.prog.cellsOf 9 = 1 := by kernel_rfl
theorem Try.cellsRaw3 : Try.prog.cellsOf 36 = 3 := by kernel_rfl
theorem Try.cellsOp9 : Try.prog.cellsOf 38 = 9 := by kernel_rfl
theorem Try.cellsOps : Try.prog.cellsOf 27 = 1 := by kernel_rfl
theorem Try.cellsBatch : Try.prog.cellsOf 29 = 3 := by kernel_rfl
section
variable {H : Type} {enc : TypeId × Value → H} {w : World} {base : Nat} {spare : Nat → Bool} {held : Bool}
theorem trod_struct5 {P : Program} {t : TypeId} {f0 f1 f2 f3 f4 : Field} {fuel : Nat} {cs : List Value} {x : DataW H × List MemPlace} (ht : P.underlying t = some (.struct #[f0, f1, f2, f3, f4])) (h : DataW.trod enc P w base spare held fuel t cs = some x) :
    ∃ y0 y1 y2 y3 y4 n, cs.length = P.cellsOf t ∧ DataW.trod enc P w base spare held n f0.type ((cs.drop f0.offset).take (P.cellsOf f0.type)) = some y0 ∧
      DataW.trod enc P w base spare held n f1.type ((cs.drop f1.offset).take (P.cellsOf f1.type)) = some y1 ∧ DataW.trod enc P w base spare held n f2.type ((cs.drop f2.offset).take (P.cellsOf f2.type)) = some y2 ∧
      DataW.trod enc P w base spare held n f3.type ((cs.drop f3.offset).take (P.cellsOf f3.type)) = some y3 ∧ DataW.trod enc P w base spare held n f4.type ((cs.drop f4.offset).take (P.cellsOf f4.type)) = some y4 := by
  obtain ⟨xs, n, _, rfl, hl, hlen, hf⟩ := DataW.trod_struct ht h
  match xs, hlen with
  | [y0, y1, y2, y3, y4], _ => exact ⟨y0, y1, y2, y3, y4, n, hl, by simpa using hf 0 f0 rfl, by simpa using hf 1 f1 rfl, by simpa using hf 2 f2 rfl, by simpa using hf 3 f3 rfl, by simpa using hf 4 f4 rfl⟩
theorem raw_cells {fuel : Nat} {cs : List Value} {x : DataW H × List MemPlace} (h : DataW.trod enc Try.prog w base spare held fuel 36 cs = some x) : RawCs cs := by
  obtain ⟨y0, y1, y2, n, _, hl, h0, h1, h2⟩ := trod_struct3 Try.underlying36 h
  rw [Try.cellsRaw3] at hl
  match cs, hl with
  | [c0, c1, c2], _ =>
    simp only [Try.cellsInt, Try.cellsInt64, Try.cellsString, List.drop_zero, List.drop_succ_cons, List.take_succ_cons, List.take_zero] at h0 h1 h2
    obtain ⟨a, e0, _, wa⟩ := DataW.trod_int Try.underlying3 h0
    obtain ⟨b, e1, _, wb⟩ := DataW.trod_int Try.underlying2 h1
    obtain ⟨s, e2, _, ws⟩ := DataW.trod_string Try.underlying9 h2
    simp only [List.cons.injEq, and_true] at e0 e1 e2
    subst e0; subst e1; subst e2
    exact ⟨a, b, s, rfl, i64_wf wa, i64_wf wb, ws⟩
theorem op_cells {fuel : Nat} {cs : List Value} {x : DataW H × List MemPlace} (h : DataW.trod enc Try.prog w base spare held fuel 38 cs = some x) : OpCs cs := by
  obtain ⟨y0, y1, y2, y3, y4, n, hl, h0, h1, h2, h3, h4⟩ := trod_struct5 Try.underlying38 h
  rw [Try.cellsOp9] at hl
  match cs, hl with
  | [c0, c1, c2, c3, c4, c5, c6, c7, c8], _ =>
    simp only [Try.cellsInt, Try.cellsInt64, Try.cellsString, Try.cellsRaw3, List.drop_zero, List.drop_succ_cons, List.take_succ_cons, List.take_zero] at h0 h1 h2 h3 h4
    obtain ⟨a, e0, _, wa⟩ := DataW.trod_int Try.underlying3 h0
    obtain ⟨s, e1, _, ws⟩ := DataW.trod_string Try.underlying9 h1
    obtain ⟨b, e4, _, wb⟩ := DataW.trod_int Try.underlying2 h4
    have r2 := raw_cells h2
    have r3 := raw_cells h3
    simp only [List.cons.injEq, and_true] at e0 e1 e4
    subst e0; subst e1; subst e4
    exact ⟨a, s, [c2, c3, c4], [c5, c6, c7], b, rfl, i64_wf wa, ws, r2, r3, i64_wf wb⟩
theorem open_op {W : World} {b0 : Nat} {r : Reach} {v : Value} {d : DataW H} {p : List MemPlace} (hv : Value.okWide Try.prog W r b0 38 v) (h : DataW.Trod enc Try.prog W base spare held 38 v d p) : ∃ cs : List Value, v = .agg cs.toArray ∧ OpCs cs := by
  obtain ⟨cs, rfl, hsz⟩ := okWide_struct Try.underlying38 hv
  obtain ⟨fuel, hf⟩ := h
  exact ⟨cs.toList, by simp, op_cells hf⟩
/-- operations in memory: a slice of so many, each nine cells -/
def OpsIn (W : World) (B : Nat) (v : Value) (n : Nat) (C : Nat → List Value) : Prop :=
  ∃ (A : Option Addr) (c : Nat), v = .slice A n c ∧ n ≤ c ∧ n ≤ maxLen ∧ (0 < n → ∃ g o, A = some ⟨g, o, Option.none⟩ ∧ g < B ∧ ∀ i, i < n → OpCs (C i) ∧ ∀ j u, (C i)[j]? = some u → W.cell? ⟨g, o + i * 9 + j, Option.none⟩ = some u)
theorem cell_in {w : World} {a : Addr} {v : Value} (h : w.cell? a = some v) : a.block < w.heap.size := by
  unfold World.cell? at h
  by_cases hb : a.block < w.heap.size
  · exact hb
  · rw [Array.getElem?_eq_none (by omega)] at h; simp at h
theorem ops_cells {W : World} {fuel : Nat} {v : Value} {x : DataW H × List MemPlace} (h : DataW.trod enc Try.prog W 0 (fun _ => true) true fuel 27 [v] = some x) : ∃ n C, OpsIn W W.heap.size v n C := by
  rcases open_slice Try.underlying27 h with ⟨hcs, _⟩ | ⟨a, len, cap, m, n, D, Pl, hcs, _, hl, hm, hmm, _, hx⟩
  · simp only [List.cons.injEq, and_true] at hcs
    subst hcs
    exact ⟨0, fun _ => [], Option.none, 0, rfl, Nat.le_refl _, Nat.zero_le _, fun h => absurd h (by decide)⟩
  · simp only [List.cons.injEq, and_true] at hcs
    subst hcs
    simp only [if_true] at hmm
    subst hmm
    rw [Try.cellsOp9] at hx
    obtain ⟨C, hC⟩ := choose_lt (α := List Value) (p := fun i cs => W.cells? 0 (a.add (i * 9)) 9 = some cs ∧ OpCs cs) (fun i hi => by
      obtain ⟨cs', h1, h2⟩ := hx i hi
      exact ⟨cs', h1, op_cells h2⟩)
    refine ⟨len, C, some a, m, rfl, hl, by omega, fun hn => ?_⟩
    obtain ⟨_, hl0, hc0⟩ := World.cells?_some (hC 0 (by omega)).1
    have hc := hc0 0 (by decide)
    obtain ⟨g, o, spot⟩ := a
    obtain ⟨u, hu⟩ : ∃ u, (C 0)[0]? = some u := ⟨_, List.getElem?_eq_getElem (by omega)⟩
    rw [hu] at hc
    have hspot : spot = Option.none := by simpa [Addr.add] using World.cell?_spot hc
    subst hspot
    refine ⟨g, o, rfl, ?_, fun i hi => ⟨(hC i (by omega)).2, fun j v hj => ?_⟩⟩
    · have := cell_in hc; simpa [Addr.add] using this
    · obtain ⟨_, hli, hci⟩ := World.cells?_some (hC i (by omega)).1
      have hj9 : j < 9 := by have := (List.getElem?_eq_some_iff.1 hj).1; omega
      have e : ((⟨g, o, Option.none⟩ : Addr).add (i * 9)).add j = ⟨g, o + i * 9 + j, Option.none⟩ := by
        rw [add_add]; unfold Addr.add; split
        · have h0 : i * 9 + j = 0 := by assumption
          have : o + i * 9 + j = o := by omega
          rw [this]
        · show (⟨g, o + (i * 9 + j), _⟩ : Addr) = _
          rw [Nat.add_assoc]
      rw [← e, hci j hj9]; exact hj
theorem open_ops {W : World} {b0 : Nat} {r : Reach} {v : Value} {d : DataW H} {p : List MemPlace} (hv : Value.okWide Try.prog W r b0 27 v) (h : DataW.Trod enc Try.prog W 0 (fun _ => true) true 27 v d p) : ∃ n C, OpsIn W W.heap.size v n C := by
  obtain ⟨a0, len, cap, rfl⟩ := okWide_slice Try.underlying27 hv
  obtain ⟨fuel, hf⟩ := h
  exact ops_cells (v := .slice a0 len cap) (by simpa [Value.cells] using hf)
theorem open_batch {W : World} {b0 : Nat} {r : Reach} {v : Value} {d : DataW H} {p : List MemPlace} (hv : Value.okWide Try.prog W r b0 29 v) (h : DataW.Trod enc Try.prog W 0 (fun _ => true) true 29 v d p) :
    ∃ (c q : Int) (s : Value) (n : Nat) (C : Nat → List Value), v = .agg #[.int .i64 c, .int .i64 q, s] ∧ I64 c ∧ I64 q ∧ OpsIn W W.heap.size s n C := by
  obtain ⟨c0, c1, c2, y0, y1, y2, m, rfl, rfl, rfl, h0, h1, h2⟩ := open_agg3 Try.underlying29 (by kernel_rfl) Try.cellsBatch hv h
  obtain ⟨a, e0, _, wa⟩ := DataW.trod_int Try.underlying3 h0
  obtain ⟨b, e1, _, wb⟩ := DataW.trod_int Try.underlying2 h1
  simp only [List.cons.injEq, and_true] at e0 e1
  subst e0; subst e1
  obtain ⟨n, C, ho⟩ := ops_cells h2
  exact ⟨a, b, c2, n, C, rfl, i64_wf wa, i64_wf wb, ho⟩
end
end Go.Proofs.Ytegkhkcnoahhdaa
/-
  Operations and batches that came in, as the plain functions have them.
  There are no conditions beyond those that each lemma names.
-/
namespace Go.Proofs.Ytegkhkcnoahhdaa
open Go.RowKit
set_option maxRecDepth 100000

def Raw.fit (r : Raw) : Prop := I64 r.kind ∧ I64 r.n ∧ r.s.size ≤ maxLen
def Opn.fit (o : Opn) : Prop := I64 o.kind ∧ o.key.size ≤ maxLen ∧ o.val.fit ∧ o.old.fit ∧ I64 o.n
theorem opn_of {cs : List Value} (h : OpCs cs) : ∃ o : Opn, cs = o.cs ∧ o.fit := by
  obtain ⟨k, key, v, o, n, rfl, hk, hy, ⟨vk, vn, vs, rfl, a1, a2, a3⟩, ⟨ok, on, os, rfl, b1, b2, b3⟩, hn⟩ := h
  exact ⟨⟨k, key, ⟨vk, vn, vs⟩, ⟨ok, on, os⟩, n⟩, rfl, hk, hy, ⟨a1, a2, a3⟩, ⟨b1, b2, b3⟩, hn⟩
theorem ops_of {W : World} {B n : Nat} {v : Value} {C : Nat → List Value} (h : OpsIn W B v n C) : ∃ l : List Opn, l.length = n ∧ Ops W B v l ∧ ∀ x ∈ l, x.fit := by
  obtain ⟨A, c, rfl, hc, _, hcell⟩ := h
  by_cases h0 : 0 < n
  · obtain ⟨g, o, rfl, hg, hcs⟩ := hcell h0
    have hz : Inhabited Opn := ⟨⟨0, ⟨#[]⟩, ⟨0, 0, ⟨#[]⟩⟩, ⟨0, 0, ⟨#[]⟩⟩, 0⟩⟩
    obtain ⟨f, hf⟩ := Go.Deep.choose_lt (α := Opn) (p := fun i x => C i = x.cs ∧ x.fit) (fun i hi => opn_of (hcs i hi).1)
    have hl : ((List.range n).map f).length = n := by simp
    refine ⟨(List.range n).map f, hl, ⟨some ⟨g, o, Option.none⟩, c, by rw [hl], by rw [hl]; exact hc, fun _ => ⟨g, o, rfl, hg, fun k hk => ?_⟩⟩, fun x hx => ?_⟩
    · rw [hl] at hk
      have e : ((List.range n).map f)[k]'(by rw [hl]; exact hk) = f k := by simp
      rw [e, ← (hf k hk).1]
      exact (hcs k hk).2
    · obtain ⟨i, hi, rfl⟩ := List.mem_map.1 hx
      exact (hf i (List.mem_range.1 hi)).2
  · obtain rfl : n = 0 := by omega
    exact ⟨[], rfl, ⟨A, c, rfl, hc, fun h => absurd h (by decide)⟩, fun x hx => by cases hx⟩
theorem bat_of {W : World} {B n : Nat} {c q : Int} {s v : Value} {C : Nat → List Value} (hv : v = .agg #[.int .i64 c, .int .i64 q, s]) (hc : I64 c) (hq : I64 q) (h : OpsIn W B s n C) : ∃ b : Bat, BatV W B v b ∧ I64 b.client ∧ I64 b.seq ∧ ∀ x ∈ b.ops, x.fit := by
  obtain ⟨l, _, ho, hf⟩ := ops_of h
  exact ⟨⟨c, q, l⟩, ⟨s, hv, ho⟩, hc, hq, hf⟩
def Bat.fit (b : Bat) : Prop := I64 b.client ∧ I64 b.seq ∧ ∀ x ∈ b.ops, x.fit
section
variable {H : Type} {enc : TypeId × Value → H} {W : World} {b0 : Nat} {r : Reach} {v : Value} {d : DataW H} {p : List MemPlace}
theorem open_opn {base : Nat} {sp : Nat → Bool} {hd : Bool} (hv : Value.okWide Try.prog W r b0 38 v) (h : DataW.Trod enc Try.prog W base sp hd 38 v d p) : ∃ o : Opn, v = o.v ∧ o.fit := by
  obtain ⟨cs, rfl, hc⟩ := open_op hv h
  obtain ⟨o, rfl, hf⟩ := opn_of hc
  exact ⟨o, rfl, hf⟩
theorem open_opns (hv : Value.okWide Try.prog W r b0 27 v) (h : DataW.Trod enc Try.prog W 0 (fun _ => true) true 27 v d p) : ∃ (A : Option Addr) (c : Nat) (l : List Opn), v = .slice A l.length c ∧ Ops W W.heap.size (.slice A l.length c) l ∧ ∀ x ∈ l, x.fit := by
  obtain ⟨n, C, ho⟩ := open_ops hv h
  obtain ⟨l, _, hl, hf⟩ := ops_of ho
  obtain ⟨A, c, rfl, _⟩ := id hl
  exact ⟨A, c, l, rfl, hl, hf⟩
theorem open_bat (hv : Value.okWide Try.prog W r b0 29 v) (h : DataW.Trod enc Try.prog W 0 (fun _ => true) true 29 v d p) :
    ∃ (b : Bat) (A : Option Addr) (c : Nat), v = .agg #[.int .i64 b.client, .int .i64 b.seq, .slice A b.ops.length c] ∧ Ops W W.heap.size (.slice A b.ops.length c) b.ops ∧ b.fit := by
  obtain ⟨c, q, s, n, C, rfl, hc, hq, ho⟩ := open_batch hv h
  obtain ⟨l, _, hl, hf⟩ := ops_of ho
  obtain ⟨A, c', rfl, _⟩ := id hl
  exact ⟨⟨c, q, l⟩, A, c', rfl, hl, hc, hq, hf⟩
end
end Go.Proofs.Ytegkhkcnoahhdaa
