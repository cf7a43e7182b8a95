/-
  Appends of rows of files: what grows is a new row; what gets nothing stays.
  There are no conditions beyond those that each lemma names.
-/
import Derived.Test.YtbdengcblncfmaaQ9At
import Derived.Deep.AppendSrc
set_option linter.unusedSimpArgs false
set_option linter.unusedVariables false
namespace Go.Proofs.Ytbdengcblncfmaa
open Go.RowKit
set_option maxRecDepth 100000

theorem Try.infoFile9 : (Try.prog.info? 64).map (fun i => (i.zero, i.size, i.bytes)) = some (some (.agg #[.string ByteArray.empty, .slice none 0 0, .int .i64 0, .bool false]), 4, 56) := by kernel_rfl
/-- an append that grows: a new row -/
theorem run_grow9 (w : World) (ty : TypeId) (A : Option Addr) (k c n : Nat) (X : Value) (olds news : List Value) (hol : olds.length = k * 4)
    (hold : (Builtin.firstCells 4 k (.slice A k c)).run Try.prog w.drew = .ok olds.toArray w.drew) (hs : Src Try.prog 4 27 X n news w) (hg : c < k + n) (hkn : k + n ≤ 100000) :
    ∃ v' w', (Builtin.append_ #[27, 27] ty #[.slice A k c, X]).run Try.prog w = .ok v' w' ∧ w'.ownsRow w.heap.size 64 4 v' (k + n) (olds ++ news) ∧ Below w.heap.size w w' := by
  obtain ⟨i, hi, hz0, hz1, hz2⟩ := info_parts Try.infoFile9
  have hge := grownCap_ge w (k + n) c 64
  have hcm : grownCap w (k + n) c 64 ≤ maxLen := grownCap_le_maxLen w (k + n) c _ (by unfold maxLen; omega)
  have hnl := hs.newsLen
  have hr := run_append_grow_src (P := Try.prog) w 27 27 ty 64 i _ Try.underlying27 hi hz0 A k c olds (by rw [hz1]; exact hold) X n news (by rw [hz1]; exact hs) hg (by omega) (by rw [hz2]; exact growslice_fits (by omega) (by omega))
  refine ⟨_, _, hr, ⟨by rw [List.length_append, hol, hnl]; omega, .inr ⟨w.heap.size, _, _, rfl, Nat.le_refl _, heap_alloc_new w.drew _, hge, hcm, ?_, ?_⟩⟩, (Below.refl _ _).drew.alloc (Nat.le_refl _) _⟩
  · have hz : (Value.agg #[.string ByteArray.empty, .slice none 0 0, .int .i64 0, .bool false]).cells.size = 4 := rfl
    simp only [Array.size_append, List.size_toArray, size_zeroCells, hz, List.length_append, hol, hnl]
    omega
  · simp only [Array.toList_append]
    have : (olds ++ news).length = (k + n) * 4 := by rw [List.length_append, hol, hnl]; omega
    rw [← this]
    exact List.take_left
/-- an append of nothing: the row stays -/
theorem run_stay9 (w : World) (ty : TypeId) (b k c : Nat) (X : Value) (hs : Src Try.prog 4 27 X 0 [] w) (hg : k ≤ c) :
    (Builtin.append_ #[27, 27] ty #[.slice (some ⟨b, 0, none⟩) k c, X]).run Try.prog w = .ok (.slice (some ⟨b, 0, none⟩) k c) w := by
  obtain ⟨i, hi, hz0, hz1, hz2⟩ := info_parts Try.infoFile9
  have hr := run_append_room_src (P := Try.prog) w 27 27 ty 64 i Try.underlying27 hi b 0 k c X 0 [] (by rw [hz1]; exact hs) hg (fun j hj => by simp at hj) (fun j hj => by simp at hj)
  rw [Nat.add_zero] at hr
  exact hr
theorem rng_below9 {w w' : World} {C g o : Nat} {cs : List Value} (h : w.rangeAt g o cs) (hb : Below C w w') (hg : g < C) : w'.rangeAt g o cs := fun j v hj => (hb.cell (p := ⟨g, o + j, none⟩) hg).trans (h j v hj)
theorem flc_one {p : Fil × Value} (h : ∃ A c, p.2 = .slice A p.1.b.length c) : ∀ u ∈ flc p, u.oneCell' = true := by
  obtain ⟨A, c, h⟩ := h
  intro u hu
  simp only [flc, List.mem_cons, List.not_mem_nil, or_false] at hu
  rcases hu with rfl | rfl | rfl | rfl
  · rfl
  · rw [h]; rfl
  · rfl
  · rfl
theorem newc_one {n : ByteArray} : ∀ u ∈ ([.string n, .slice none 0 0, .int .i64 0, .bool false] : List Value), u.oneCell' = true := by
  intro u hu
  simp only [List.mem_cons, List.not_mem_nil, or_false] at hu
  rcases hu with rfl | rfl | rfl | rfl <;> rfl
theorem row_part {w : World} {B gr n c k : Nat} {e : TypeId} {xs : List Value} (h : w.ownsRow B e 4 (.slice (some ⟨gr, 0, none⟩) n c) n xs) : ∀ j u, (xs.drop (k * 4))[j]? = some u → w.cell? ((⟨gr, k * 4, none⟩ : Addr).add j) = some u := fun j u hj => by
  rw [List.getElem?_drop] at hj
  have := h.cells (g := gr) rfl (k * 4 + j) u hj
  rw [Addr.add_mid, Nat.zero_add] at this
  rw [Addr.add_mid]; exact this
theorem row_olds {w : World} {B gr n c k : Nat} {e : TypeId} {xs : List Value} (h : w.ownsRow B e 4 (.slice (some ⟨gr, 0, none⟩) n c) n xs) (hk : k ≤ n) : (Builtin.firstCells 4 k (.slice (some ⟨gr, 0, none⟩) k k)).run Try.prog w.drew = .ok (xs.take (k * 4)).toArray w.drew :=
  run_firstCells_some w.drew 4 k ⟨gr, 0, none⟩ k k (xs.take (k * 4)) (by rw [List.length_take, h.1]; omega) (fun j u hj => by
    rw [List.getElem?_take] at hj
    split at hj
    · exact h.cells (g := gr) rfl j u hj
    · cases hj)
theorem row_some9 {w : World} {B e s n c : Nat} {A : Option Addr} {xs : List Value} {m : Nat} (h : w.ownsRow B e s (.slice A m c) n xs) (hn : 0 < n) : ∃ g, A = some ⟨g, 0, none⟩ := by
  rcases h.2 with ⟨hv, h0⟩ | ⟨g, c', cur, hv, _⟩
  · omega
  · injection hv with e1 _ _; exact ⟨g, e1⟩
theorem row_cap9 {w : World} {B e s n m c : Nat} {A : Option Addr} {xs : List Value} (h : w.ownsRow B e s (.slice A m c) n xs) : n = m ∧ m ≤ c := by
  rcases h.2 with ⟨hv, h0⟩ | ⟨g, c', cur, hv, _, _, hc, _⟩
  · injection hv with _ e2 e3; omega
  · injection hv with _ e2 e3; omega
theorem rng_far9 {w : World} {g gb o j : Nat} {u : Value} {cs : List Value} (h : w.rangeAt gb o cs) (hne : g ≠ gb) : (w.setCell ⟨g, j, none⟩ u).rangeAt gb o cs := fun i v hi => (World.cell?_setCell_other _ _ _ _ (fun e => hne (congrArg Addr.block e))).trans (h i v hi)
theorem src_none9 (w : World) (A : Option Addr) (c : Nat) : Src Try.prog 4 27 (.slice A 0 c) 0 [] w := by
  cases A with
  | none => exact Src.ofNil w Try.underlying27 c
  | some a => exact Src.ofSlice w Try.underlying27 a 0 c [] rfl (fun j u hj => by simp at hj) (fun u hu => by cases hu)
theorem own_one9 (w : World) (cs : List Value) (h : cs.length = 4) : (w.alloc (.cells cs.toArray 64)).ownsRow w.heap.size 64 4 (.slice (some ⟨w.heap.size, 0, none⟩) 1 1) 1 cs :=
  ⟨by rw [h], .inr ⟨w.heap.size, 1, cs.toArray, rfl, Nat.le_refl _, heap_alloc_new _ _, Nat.le_refl _, by unfold maxLen; omega, by simpa using h, by rw [show 1 * 4 = cs.length by rw [h]]; simp⟩⟩
/-- a file put into its place -/
def insAt (k : Nat) (f : Fil) (l : List Fil) : List Fil := l.take k ++ f :: l.drop k
/-- an empty file -/
def newF (n : ByteArray) : Fil := ⟨n, [], 0, false⟩
theorem lflat_take (ps : List (Fil × Value)) : ∀ k, (ps.take k).flatMap flc = (ps.flatMap flc).take (k * 4) := by
  induction ps with
  | nil => intro k; simp
  | cons x t ih =>
    intro k
    cases k with
    | zero => simp
    | succ k =>
      have hl : (flc x).length = 4 := rfl
      rw [List.take_succ_cons, List.flatMap_cons, List.flatMap_cons, ih k, show (k + 1) * 4 = 4 + k * 4 by omega, List.take_append, List.take_of_length_le (show (flc x).length ≤ 4 + k * 4 by omega), hl, Nat.add_sub_cancel_left]
theorem lflat_drop (ps : List (Fil × Value)) : ∀ k, (ps.drop k).flatMap flc = (ps.flatMap flc).drop (k * 4) := by
  induction ps with
  | nil => intro k; simp
  | cons x t ih =>
    intro k
    cases k with
    | zero => simp
    | succ k =>
      have hl : (flc x).length = 4 := rfl
      rw [List.drop_succ_cons, List.flatMap_cons, ih k, show (k + 1) * 4 = 4 + k * 4 by omega, List.drop_append, List.drop_eq_nil_of_le (show (flc x).length ≤ 4 + k * 4 by omega), hl, Nat.add_sub_cancel_left, List.nil_append]
theorem own_ins9 {N : Nat → Prop} {w : World} {B m k q : Nat} {v : Value} {n : ByteArray} {l : List Fil} {ps : List (Fil × Value)} {xs ys : List Value} (hps : ps.map (·.1) = l) (hm : l.length = m) (hxs : ps.flatMap flc = xs) (hbs : ∀ p ∈ ps, OwnQ N p.2 p.1.b w) (hk : k ≤ m)
    (hq : q = k + (1 + (m - k))) (hy : ys = xs.take (k * 4) ++ ([.string n, .slice none 0 0, .int .i64 0, .bool false] ++ xs.drop (k * 4))) (hv : w.ownsRow B 64 4 v q ys) (hav : Av N v) : OwnL N B v (insAt k (newF n) l) w := by
  refine ⟨ps.take k ++ (newF n, .slice none 0 0) :: ps.drop k, ?_, ⟨?_, hav⟩, fun p hp => ?_⟩
  · unfold insAt; rw [List.map_append, List.map_cons, List.map_take, List.map_drop, hps]
  · have e : (insAt k (newF n) l).length = q := by unfold insAt; rw [List.length_append, List.length_cons, List.length_take, List.length_drop, hm]; omega
    rw [e, List.flatMap_append, List.flatMap_cons, lflat_take, lflat_drop, hxs]
    rw [hy] at hv
    exact hv
  · rcases List.mem_append.1 hp with hp | hp
    · exact hbs p (List.mem_of_mem_take hp)
    · rcases List.mem_cons.1 hp with rfl | hp
      · exact ownN_nil N w
      · exact hbs p (List.mem_of_mem_drop hp)
theorem wp_append9 {w : World} {o : Oper} {a : Act} {K : Act → World → Prop} {Q : Exit → Act → World → Prop} (s x : Operand)
    (ho : o.op = .call { callee := .builtin .append, args := #[s, x], argTypes := #[27, 27] })
    (vs vx : Value) (hs : a.eval s = vs) (hx : a.eval x = vx) (v' : Value) (w' : World) (hr : (Builtin.append_ #[27, 27] o.type #[vs, vx]).run Try.prog w = .ok v' w') (h : K (a.put o.dst v') w') : o.wp Try.prog a w K Q := by
  unfold Oper.wp execOp
  simp only [ho, resolve, invoke, builtin, Sem.run_bind, Sem.run_pure, Result.andThen_ok, List.map_toArray, List.map_cons, List.map_nil, hs, hx, hr]
  exact h
end Go.Proofs.Ytbdengcblncfmaa
