/-
  Rows of ints: slices that read as ints, their parts, rows of one's own, appends onto these.
  The rows are shorter than the model's bound on what append makes.
-/
import Derived.Test.YtoekiencnbgmhaaL7Ints
import Derived.Test.YtoekiencnbgmhaaL5Own
import Derived.Test.YtoekiencnbgmhaaWAppend
import Derived.Laws.AppendOwnNone
import Derived.Lib.AppendZeros
import Derived.Maps.AppendAt
import Derived.Deep.MidRow
import Derived.Deep.AppendLies
set_option linter.unusedSimpArgs false
set_option linter.unusedVariables false
namespace Go.Proofs.Ytoekiencnbgmhaa
open Go.RowKit Go.Deep
set_option maxRecDepth 100000

def intCells (l : List Int) : List Value := l.map (Value.int .i64)
theorem intCells_len (l : List Int) : (intCells l).length = l.length := by simp [intCells]
theorem intCells_append (l m : List Int) : intCells (l ++ m) = intCells l ++ intCells m := by simp [intCells]
theorem intCells_one (l : List Int) : ∀ v ∈ intCells l, v.oneCell' = true := by
  intro v hv
  obtain ⟨x, _, rfl⟩ := List.mem_map.1 hv
  rfl
theorem Try.infoInt : (Try.prog.info? 3).map (fun i => (i.zero, i.size, i.bytes)) = some (some (.int .i64 0), 1, 8) := by kernel_rfl
/-- a row of ints of one's own -/
def OwnZ (B : Nat) (v : Value) (l : List Int) (w : World) : Prop := w.ownsRow B 3 1 v l.length (intCells l)
theorem OwnZ.nil (B : Nat) (w : World) : OwnZ B (.slice none 0 0) [] w := World.ownsRow_nil _ _ _ _
theorem OwnZ.below {B : Nat} {v : Value} {l : List Int} {w w' : World} (h : OwnZ B v l w) (hb : Below w.heap.size w w') : OwnZ B v l w' := ownsRow_below h hb
theorem OwnZ.down {B C : Nat} {v : Value} {l : List Int} {w : World} (h : OwnZ C v l w) (hB : B ≤ C) : OwnZ B v l w := ownsRow_down h hB
theorem OwnZ.slice {B : Nat} {v : Value} {l : List Int} {w : World} (h : OwnZ B v l w) : ∃ A c, v = .slice A l.length c := own_slice h
theorem Ints.of_own {B : Nat} {v : Value} {l : List Int} {w : World} (h : OwnZ B v l w) : Ints w w.heap.size v l := by
  have hlt := World.ownsRow.lt h
  obtain ⟨A, c, rfl⟩ := h.slice
  have hc := fun (g : Nat) (hg : (Value.slice A l.length c).ownBlock = some g) => World.ownsRow.cells h hg
  rcases h.2 with ⟨hv, h0⟩ | ⟨g, c', cur, hv, hB, _, hnc, _⟩
  · injection hv with e1 e2 e3
    subst e1
    exact ⟨none, c, rfl, by omega, fun h => absurd h (by omega)⟩
  · injection hv with e1 _ e3
    subst e1; subst e3
    refine ⟨_, _, rfl, hnc, fun _ => ⟨g, 0, rfl, (hlt g rfl).2, fun k hk => ?_⟩⟩
    have h3 := hc g rfl k (.int .i64 l[k]) (by unfold intCells; rw [List.getElem?_map, List.getElem?_eq_getElem hk]; rfl)
    rw [add7] at h3
    exact h3
theorem Ints.more {w : World} {B C : Nat} {v : Value} {l : List Int} (h : Ints w B v l) (hC : B ≤ C) : Ints w C v l := by
  obtain ⟨A, c, h1, h2, h3⟩ := h
  exact ⟨A, c, h1, h2, fun h0 => by obtain ⟨g, o, hA, hg, hc⟩ := h3 h0; exact ⟨g, o, hA, by omega, hc⟩⟩
theorem Ints.nil (w : World) (B : Nat) : Ints w B (.slice none 0 0) [] := ⟨none, 0, rfl, Nat.le_refl _, fun h => absurd h (by simp)⟩
theorem Ints.cap {w : World} {B n c : Nat} {A : Option Addr} {l : List Int} (h : Ints w B (.slice A n c) l) : n = l.length ∧ n ≤ c := by
  obtain ⟨A', c', h1, h2, _⟩ := h
  injection h1 with e1 e2 e3
  subst e2; subst e3
  exact ⟨rfl, h2⟩
theorem Ints.take {w : World} {B n c : Nat} {A : Option Addr} {l : List Int} (h : Ints w B (.slice A n c) l) (j : Nat) (hj : j ≤ l.length) : Ints w B (.slice A j c) (l.take j) := by
  obtain ⟨A', c', h1, h2, h3⟩ := h
  injection h1 with e1 e2 e3
  subst e1; subst e3
  have hl : (l.take j).length = j := by rw [List.length_take]; omega
  refine ⟨A, c, by rw [hl], by omega, fun h0 => ?_⟩
  rw [hl] at h0
  obtain ⟨g, o, hA, hg, hc⟩ := h3 (by omega)
  refine ⟨g, o, hA, hg, fun k hk => ?_⟩
  rw [hl] at hk
  rw [List.getElem_take]
  exact hc k (by omega)
theorem Ints.drop {w : World} {B n c : Nat} {A : Option Addr} {l : List Int} (h : Ints w B (.slice A n c) l) (j : Nat) (hj : j ≤ l.length) : Ints w B (.slice (if c = j then A else A.map (·.add j)) (l.length - j) (c - j)) (l.drop j) := by
  obtain ⟨A', c', h1, h2, h3⟩ := h
  injection h1 with e1 e2 e3
  subst e1; subst e3
  have hl : (l.drop j).length = l.length - j := List.length_drop
  refine ⟨_, _, by rw [hl], by omega, fun h0 => ?_⟩
  rw [hl] at h0
  obtain ⟨g, o, hA, hg, hc⟩ := h3 (by omega)
  subst hA
  rw [if_neg (by omega)]
  refine ⟨g, o + j, by simp [add7], hg, fun k hk => ?_⟩
  rw [hl] at hk
  rw [List.getElem_drop, show o + j + k = o + (j + k) by omega]
  exact hc (j + k) (by omega)
/-- ints that have just been laid in a block of their own -/
theorem ints_new (w : World) (C : Array Value) (t : TypeId) (l : List Int) (hC : C = (intCells l).toArray) : Ints (w.alloc (.cells C t)) (w.heap.size + 1) (.slice (some ⟨w.heap.size, 0, Option.none⟩) l.length l.length) l := by
  refine ⟨_, _, rfl, Nat.le_refl _, fun _ => ⟨w.heap.size, 0, rfl, by omega, fun k hk => ?_⟩⟩
  rw [World.cell?_alloc_mark, hC]
  simp [intCells, hk]
theorem append_nil12 {w : World} {B n c : Nat} {v : Value} {xs : List Value} (ty : TypeId) (hown : w.ownsRow B 3 1 v n xs) :
    (Builtin.append_ #[50, 50] ty #[v, .slice none 0 c]).run Try.prog w = .ok v w := by
  obtain ⟨iR, hiR, _, _, _⟩ := info_parts Try.infoInt
  rcases hown.2 with ⟨rfl, rfl⟩ | ⟨g, cap, cur, rfl, _, _, hnc, _⟩
  · simp [Builtin.append_, run_underlying Try.underlying50, sizeOf, typeInfo, hiR, Builtin.lenOf, Builtin.firstCells]
  · simp [Builtin.append_, run_underlying Try.underlying50, sizeOf, typeInfo, hiR, Builtin.lenOf, Builtin.firstCells, hnc, storeCells]
/-- what stands in a slice is put behind a row of one's own -/
theorem wp_append_ints {w : World} {o : Oper} {a : Act} {K : Act → World → Prop} {Q : Exit → Act → World → Prop} (s x : Operand)
    (ho : o.op = .call { callee := .builtin .append, args := #[s, x], argTypes := #[50, 50] })
    (B C : Nat) (v u : Value) (l m : List Int) (hs : a.eval s = v) (hown : OwnZ B v l w) (hx : a.eval x = u) (hu : Ints w C u m) (hlm : l.length + m.length ≤ 1000000) (hB : B ≤ w.heap.size)
    (h : ∀ v' w', OwnZ B v' (l ++ m) w' → Below B w w' → w.grownBy w' v.ownBlock → (v'.ownBlock = v.ownBlock ∨ v'.ownBlock = some w.heap.size) → K (a.put o.dst v') w') : o.wp Try.prog a w K Q := by
  obtain ⟨iR, hiR, hzR0, hzR1, hzR2⟩ := info_parts Try.infoInt
  obtain ⟨A, c, rfl, hc, hcell⟩ := hu
  have hgr := fun (w' : World) (hg : w.grownBy w' v.ownBlock) => (Below.refl B w).grown hg hB (fun g hg => (World.ownsRow.lt hown g hg).1)
  unfold OwnZ at hown
  cases A with
  | some ad =>
    obtain ⟨v', w', hr, h2, h3, _, h5⟩ := run_append_own_at (P := Try.prog) w B 50 o.type 3 iR (.int .i64 0) 1 8 Try.underlying50 hiR hzR0 hzR1 hzR2 rfl (by decide) v l.length _ hown ad m.length c (intCells m) (by rw [intCells_len]; omega)
      (by
        intro j z hj
        have hjm : j < m.length := by
          have := (List.getElem?_eq_some_iff.1 hj).1; rwa [intCells_len] at this
        obtain ⟨g, oo, hA, _, hcs⟩ := hcell (by omega)
        injection hA with hA; subst hA
        rw [add7, hcs j hjm]
        unfold intCells at hj; rw [List.getElem?_map, List.getElem?_eq_getElem hjm] at hj; simpa using hj) (intCells_one m) (by unfold maxLen; omega) (by omega) hB
    unfold Oper.wp execOp
    simp only [ho, resolve, invoke, builtin, Sem.run_bind, Sem.run_pure, Result.andThen_ok, List.map_toArray, List.map_cons, List.map_nil, hs, hx, hr]
    refine h v' w' ?_ (hgr w' h3) h3 h5
    unfold OwnZ; rw [intCells_append, List.length_append]; exact h2
  | none =>
    have hm : m = [] := by
      cases m with
      | nil => rfl
      | cons y t => obtain ⟨g, oo, hA, _⟩ := hcell (by simp); cases hA
    subst hm
    have hrun := append_nil12 (c := c) o.type hown
    unfold Oper.wp
    simp [execOp, ho, resolve, invoke, builtin, hs, hx, hrun, Result.andThen]
    refine h v w ?_ (Below.refl _ _) (grownBy_refl _ _) (.inl rfl)
    unfold OwnZ; rw [List.append_nil]; exact hown
theorem wpList_append_ints {w : World} {ops : Array Oper} {rest : List Oper} {o : Oper} {a : Act} {Q : Exit → Act → World → Prop} (hgd : o.guard = none) (s x : Operand)
    (ho : o.op = .call { callee := .builtin .append, args := #[s, x], argTypes := #[50, 50] })
    (B C : Nat) (v u : Value) (l m : List Int) (hs : a.eval s = v) (hown : OwnZ B v l w) (hx : a.eval x = u) (hu : Ints w C u m) (hlm : l.length + m.length ≤ 1000000) (hB : B ≤ w.heap.size)
    (h : ∀ v' w', OwnZ B v' (l ++ m) w' → Below B w w' → wpList Try.prog ops Q rest (a.put o.dst v') w') : wpList Try.prog ops Q (o :: rest) a w :=
  wpList_plain hgd fun _ hK => wp_append_ints s x ho B C v u l m hs hown hx hu hlm hB fun v' w' h1 h2 _ _ => hK _ _ (h v' w' h1 h2)
/-- an empty row with room, that has just been made -/
theorem own_room12 (w : World) (n : Nat) (hn : n ≤ 1000000) (B : Nat) (hB : B ≤ w.heap.size) :
    OwnZ B (.slice (some ⟨w.heap.size, 0, none⟩) 0 (grownCap w n 0 3)) [] (w.drew.alloc (.cells (Builtin.zeroCells #[.int .i64 0] n ++ Builtin.zeroCells #[.int .i64 0] (grownCap w n 0 3 - n)) 3)) := by
  have h1 := grownCap_ge w n 0 3
  have h2 := grownCap_le_maxLen w n 0 3 (by unfold maxLen; omega)
  exact World.ownsRow_made (base := B) (e := 3) (size := 1) w.drew _ _ hB h2 (by
    have hz : ∀ k, (Builtin.zeroCells #[.int .i64 0] k).size = k := fun k => by simp [Builtin.zeroCells]
    rw [Array.size_append, hz, hz]; omega)
end Go.Proofs.Ytoekiencnbgmhaa
