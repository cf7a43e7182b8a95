/-
  Operations in memory: cuts of a slice of operations, and operations put behind a row of one's own.
  The rows have at most 1,000,000 operations.
-/
import Derived.Test.YtegkhkcnoahhdaaL6Box
import Derived.Test.YtegkhkcnoahhdaaWAppend
set_option linter.unusedSimpArgs false
set_option linter.unusedVariables false
namespace Go.Proofs.Ytegkhkcnoahhdaa
open Go.RowKit
set_option maxRecDepth 100000

theorem Ops.more {w : World} {B C : Nat} {v : Value} {l : List Opn} (h : Ops w B v l) (hC : B ≤ C) : Ops w C v l := by
  obtain ⟨A, c, hv, hc, h⟩ := h
  refine ⟨A, c, hv, hc, fun hn => ?_⟩
  obtain ⟨g, o, hA, hg, hcs⟩ := h hn
  exact ⟨g, o, hA, Nat.lt_of_lt_of_le hg hC, hcs⟩
theorem ops_take {w : World} {B n c : Nat} {A : Option Addr} {l : List Opn} (h : Ops w B (.slice A l.length c) l) (hn : n ≤ l.length) : Ops w B (.slice A n c) (l.take n) := by
  obtain ⟨A', c', hv, hc, hcell⟩ := h
  injection hv with e1 _ e2; subst e1; subst e2
  have e : (l.take n).length = n := by rw [List.length_take]; omega
  refine ⟨A, c, by rw [e], by rw [e]; omega, fun h0 => ?_⟩
  rw [e] at h0
  obtain ⟨g, o, rfl, hg, hcs⟩ := hcell (by omega)
  refine ⟨g, o, rfl, hg, fun k hk => ?_⟩
  rw [e] at hk
  rw [List.getElem_take]
  exact hcs k (by omega)
theorem ops_drop {w : World} {B n c g : Nat} {l : List Opn} (h : Ops w B (.slice (some ⟨g, 0, none⟩) l.length c) l) (hn : n ≤ l.length) (d : Nat) (hd : l.length - n ≤ d) : Ops w B (.slice (some ⟨g, n * 9, none⟩) (l.length - n) d) (l.drop n) := by
  obtain ⟨A', c', hv, hc, hcell⟩ := h
  injection hv with e1 _ e2; subst e1; subst e2
  have e : (l.drop n).length = l.length - n := List.length_drop ..
  refine ⟨_, d, by rw [e], by rw [e]; exact hd, fun h0 => ?_⟩
  rw [e] at h0
  obtain ⟨g', o, hA, hg, hcs⟩ := hcell (by omega)
  injection hA with hA
  injection hA with h1 h2 _
  subst h1; subst h2
  refine ⟨g, n * 9, rfl, hg, fun k hk => ?_⟩
  rw [e] at hk
  rw [List.getElem_drop]
  have := hcs (n + k) (by omega)
  rw [show 0 + (n + k) * 9 = n * 9 + k * 9 by omega] at this
  exact this
theorem ops_none (w : World) (B c : Nat) (A : Option Addr) : Ops w B (.slice A 0 c) [] := ⟨A, c, rfl, Nat.zero_le _, fun h => absurd h (by simp)⟩
theorem ops_flat_at {l : List Opn} {j : Nat} {z : Value} (h : (l.flatMap Opn.cs)[j]? = some z) : ∃ k i, ∃ hk : k < l.length, j = k * 9 + i ∧ l[k].cs[i]? = some z := by
  induction l generalizing j with
  | nil => simp at h
  | cons x t ih =>
    have h9 : x.cs.length = 9 := rfl
    rw [List.flatMap_cons] at h
    by_cases hj : j < 9
    · rw [List.getElem?_append_left (by omega)] at h
      exact ⟨0, j, by simp, by omega, by simpa using h⟩
    · rw [List.getElem?_append_right (by omega)] at h
      obtain ⟨k, i, hk, e, h2⟩ := ih h
      exact ⟨k + 1, i, by simp; omega, by rw [h9] at e; omega, by simpa using h2⟩
theorem opss_one (l : List Opn) : ∀ u ∈ l.flatMap Opn.cs, u.oneCell' = true := by
  intro u hu
  obtain ⟨x, _, hx⟩ := List.mem_flatMap.1 hu
  exact opn_one x u hx
theorem opss_len (l : List Opn) : (l.flatMap Opn.cs).length = l.length * 9 := by
  induction l with
  | nil => rfl
  | cons x t ih =>
    have h9 : x.cs.length = 9 := rfl
    rw [List.flatMap_cons, List.length_append, ih, h9, List.length_cons]; omega
theorem own_cases {w : World} {B e s n c : Nat} {A : Option Addr} {xs : List Value} (h : w.ownsRow B e s (.slice A n c) n xs) : (A = none ∧ n = 0 ∧ c = 0) ∨ ∃ g, A = some ⟨g, 0, none⟩ ∧ n ≤ c := by
  rcases h.2 with ⟨hv, h0⟩ | ⟨g', c', cur, hv, _, _, hnc, _⟩
  · injection hv with h1 h2 h3; exact .inl ⟨h1, h2, h3⟩
  · injection hv with h1 _ h3
    subst h3
    exact .inr ⟨g', h1, hnc⟩
def badO : Opn := ⟨3, ⟨#[110, 111, 32, 115, 117, 99, 104, 32, 107, 101, 121]⟩, ⟨1, 2, ⟨#[]⟩⟩, ⟨1, 1, ⟨#[]⟩⟩, 0⟩
theorem badO_ok : badO.ok := ⟨⟨by decide, by decide⟩, by decide, ⟨⟨by decide, by decide⟩, ⟨by decide, by decide⟩, by decide⟩, ⟨⟨by decide, by decide⟩, ⟨by decide, by decide⟩, by decide⟩, ⟨by decide, by decide⟩⟩
theorem append_none_op {w : World} {B n c : Nat} {v : Value} {xs : List Value} (ty : TypeId) (hown : w.ownsRow B 38 9 v n xs) :
    (Builtin.append_ #[27, 27] ty #[v, .slice none 0 c]).run Try.prog w = .ok v w := by
  obtain ⟨iR, hiR, hz1, _, _⟩ := info_parts Try.infoOp3
  rcases hown.2 with ⟨rfl, rfl⟩ | ⟨g, cap, cur, rfl, _, _, hnc, _⟩
  · simp [Builtin.append_, run_underlying Try.underlying27, sizeOf, typeInfo, hiR, Builtin.lenOf, Builtin.firstCells]
  · simp [Builtin.append_, run_underlying Try.underlying27, sizeOf, typeInfo, hiR, Builtin.lenOf, Builtin.firstCells, hnc, storeCells]
/-- operations that stand in a slice are put behind a row of one's own -/
theorem wp_append_ops {w : World} {o : Oper} {a : Act} {K : Act → World → Prop} {Q : Exit → Act → World → Prop} (s x : Operand)
    (ho : o.op = .call { callee := .builtin .append, args := #[s, x], argTypes := #[27, 27] })
    (B C : Nat) (v u : Value) (l m : List Opn) (hs : a.eval s = v) (hown : OwnO B v l w) (hx : a.eval x = u) (hu : Ops w C u m) (hlm : l.length + m.length ≤ 1000000) (hB : B ≤ w.heap.size)
    (h : ∀ v' w', OwnO B v' (l ++ m) w' → Below B w w' → Grew v w v' w' → K (a.put o.dst v') w') : o.wp Try.prog a w K Q := by
  obtain ⟨iO, hiO, hzO0, hzO1, hzO2⟩ := info_parts Try.infoOp3
  obtain ⟨A, c, rfl, hc, hcell⟩ := hu
  have hgr := fun (w' : World) (hg : w.grownBy w' v.ownBlock) => (Below.refl B w).grown hg hB (fun g hg => (World.ownsRow.lt hown g hg).1)
  unfold OwnO at hown
  cases A with
  | some ad =>
    obtain ⟨v', w', hr, h2, h3, _, h5⟩ := run_append_own_at (P := Try.prog) w B 27 o.type 38 iO _ 9 96 Try.underlying27 hiO hzO0 hzO1 hzO2 rfl (by decide) v l.length _ hown ad m.length c (m.flatMap Opn.cs) (opss_len m)
      (by
        intro j z hj
        obtain ⟨k, i, hk, rfl, hz⟩ := ops_flat_at hj
        obtain ⟨g, oo, hA, _, hcs⟩ := hcell (by omega)
        injection hA with hA; subst hA
        have e1 : (⟨g, oo, Option.none⟩ : Addr).add (k * 9 + i) = ⟨g, oo + k * 9 + i, Option.none⟩ := by
          rw [Addr.add_mid]; congr 1; omega
        rw [e1]
        exact hcs k hk i z hz) (opss_one m) (by unfold maxLen; omega) (by omega) hB
    unfold Oper.wp execOp
    simp only [ho, resolve, invoke, builtin, Sem.run_bind, Sem.run_pure, Result.andThen_ok, List.map_toArray, List.map_cons, List.map_nil, hs, hx, hr]
    refine h v' w' ?_ (hgr w' h3) ⟨h3, h5⟩
    unfold OwnO; rw [List.flatMap_append, List.length_append]; exact h2
  | none =>
    have hm : m = [] := by
      cases m with
      | nil => rfl
      | cons y t => obtain ⟨g, oo, hA, _⟩ := hcell (by simp); cases hA
    subst hm
    have hrun := append_none_op (c := c) o.type hown
    unfold Oper.wp
    simp [execOp, ho, resolve, invoke, builtin, hs, hx, hrun, Result.andThen]
    refine h v w ?_ (Below.refl _ _) ⟨grownBy_refl _ _, .inl rfl⟩
    unfold OwnO; rw [List.append_nil]; exact hown
theorem wpList_append_ops {w : World} {ops : Array Oper} {rest : List Oper} {o : Oper} {a : Act} {Q : Exit → Act → World → Prop} (hgd : o.guard = none) (s x : Operand)
    (ho : o.op = .call { callee := .builtin .append, args := #[s, x], argTypes := #[27, 27] })
    (B C : Nat) (v u : Value) (l m : List Opn) (hs : a.eval s = v) (hown : OwnO B v l w) (hx : a.eval x = u) (hu : Ops w C u m) (hlm : l.length + m.length ≤ 1000000) (hB : B ≤ w.heap.size)
    (h : ∀ v' w', OwnO B v' (l ++ m) w' → Below B w w' → Grew v w v' w' → wpList Try.prog ops Q rest (a.put o.dst v') w') : wpList Try.prog ops Q (o :: rest) a w :=
  wpList_plain hgd fun _ hK => wp_append_ops s x ho B C v u l m hs hown hx hu hlm hB fun v' w' h1 h2 h3 => hK _ _ (h v' w' h1 h2 h3)
end Go.Proofs.Ytegkhkcnoahhdaa
