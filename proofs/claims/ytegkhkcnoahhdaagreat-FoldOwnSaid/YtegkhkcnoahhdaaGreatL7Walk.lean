import Derived.Test.YtegkhkcnoahhdaaGreatL7Begun
set_option linter.unusedSimpArgs false
set_option linter.unusedVariables false
namespace Go.Proofs.YtegkhkcnoahhdaaGreat
open Go.RowKit Go.WideShapes Go.ChangeShapes Go.Joins Go.Deep
set_option maxRecDepth 100000
def Bats (w : World) (B : Nat) (v : Value) (L : List Bat) : Prop :=
 ∃ A c, v = .slice A L.length c ∧ L.length ≤ c ∧ (0 < L.length → ∃ g o, A = some ⟨g, o, Option.none⟩ ∧ g < B ∧ ∀ k (h : k < L.length), ∃ u, w.rangeAt g (o + k * 3) [.int .i64 L[k].client, .int .i64 L[k].seq, u] ∧ Ops w B u L[k].ops)
section
variable {H : Type} {enc : TypeId × Value → H} {W : World} {b0 : Nat} {r : Reach} {v : Value} {d : DataW H} {p : List MemPlace}
theorem bat_cells {fuel : Nat} {cs : List Value} {x : DataW H × List MemPlace} (h : DataW.trod enc Tryz.prog W 0 (fun _ => true) true fuel 33 cs = some x) : ∃ (b : Bat) (u : Value), cs = [.int .i64 b.client, .int .i64 b.seq, u] ∧ Ops W W.heap.size u b.ops ∧ b.fit := by
 obtain ⟨y0, y1, y2, n, _, hl, h0, h1, h2⟩ := trod_struct3 Tryz.underlying33 h
 rw [Tryz.cellsBatch] at hl
 match cs, hl with
 | [c0, c1, c2], _ =>
  simp only [Tryz.cellsInt, Tryz.cellsInt64, Tryz.cellsOps, List.drop_zero, List.drop_succ_cons, List.take_succ_cons, List.take_zero] at h0 h1 h2
  obtain ⟨a, e0, _, wa⟩ := DataW.trod_int Tryz.underlying3 h0
  obtain ⟨b, e1, _, wb⟩ := DataW.trod_int Tryz.underlying2 h1
  simp only [List.cons.injEq, and_true] at e0 e1
  subst e0; subst e1
  obtain ⟨n', C, ho⟩ := ops_cells h2
  obtain ⟨l, _, h3, h4⟩ := ops_of ho
  exact ⟨⟨a, b, l⟩, c2, rfl, h3, i64_wf wa, i64_wf wb, h4⟩
theorem open_bats (hv : Value.okWide Tryz.prog W r b0 22 v) (h : DataW.Trod enc Tryz.prog W 0 (fun _ => true) true 22 v d p) :
  ∃ (A : Option Addr) (c : Nat) (L : List Bat), v = .slice A L.length c ∧ Bats W W.heap.size (.slice A L.length c) L ∧ ∀ b ∈ L, b.fit := by
 obtain ⟨a0, len, cap, rfl⟩ := okWide_slice Tryz.underlying22 hv
 obtain ⟨fuel, hf⟩ := h
 have hf2 : DataW.trod enc Tryz.prog W 0 (fun _ => true) true fuel 22 [.slice a0 len cap] = some (d, p) := by simpa [Value.cells] using hf
 rcases open_slice Tryz.underlying22 hf2 with ⟨hcs, _⟩ | ⟨a, len', cap', m, n, D, Pl, hcs, _, hl, hm, hmm, _, hx⟩
 ·simp only [List.cons.injEq, and_true] at hcs
  injection hcs with e1 e2 e3
  subst e1; subst e2; subst e3
  exact ⟨none, 0, [], rfl, ⟨none, 0, rfl, Nat.le_refl _, fun h => absurd h (by decide)⟩, fun x hx => by cases hx⟩
 ·simp only [List.cons.injEq, and_true] at hcs
  injection hcs with e1 e2 e3
  subst e1; subst e2; subst e3
  simp only [if_true] at hmm
  subst hmm
  rw [Tryz.cellsBatch] at hx
  have hz : Inhabited Bat := ⟨⟨0, 0, []⟩⟩
  obtain ⟨f, hf⟩ := choose_lt (α := Bat) (p := fun i b => ∃ u, W.cells? 0 (a.add (i * 3)) 3 = some [.int .i64 b.client, .int .i64 b.seq, u] ∧ Ops W W.heap.size u b.ops ∧ b.fit) (fun i (hi : i < len) => by
   obtain ⟨cs', h1, h2⟩ := hx i (by omega)
   obtain ⟨b, u, rfl, h3, h4⟩ := bat_cells h2
   exact ⟨b, u, h1, h3, h4⟩)
  have hln : ((List.range len).map f).length = len := by simp
  refine ⟨some a, m, (List.range len).map f, by rw [hln], ?_, fun x hx => ?_⟩
  ·refine ⟨some a, m, rfl, by rw [hln]; exact hl, fun h0 => ?_⟩
   rw [hln] at h0
   obtain ⟨u, hc0, _⟩ := hf 0 h0
   obtain ⟨_, hl0, hcc⟩ := World.cells?_some hc0
   have hc := hcc 0 (by decide)
   obtain ⟨g, o, spot⟩ := a
   have hspot : spot = Option.none := by simpa [Addr.add] using World.cell?_spot hc
   subst hspot
   refine ⟨g, o, rfl, ?_, fun k hk => ?_⟩
   ·have := cell_in hc; simpa [Addr.add] using this
   ·rw [hln] at hk
    obtain ⟨u, h1, h2, h3⟩ := hf k hk
    have e : ((List.range len).map f)[k]'(by rw [hln]; exact hk) = f k := by simp
    rw [e]
    refine ⟨u, fun j v hj => ?_, h2⟩
    obtain ⟨_, hli, hci⟩ := World.cells?_some h1
    have hj3 : j < 3 := (List.getElem?_eq_some_iff.1 hj).1
    have e2 : ((⟨g, o, Option.none⟩ : Addr).add (k * 3)).add j = ⟨g, o + k * 3 + j, Option.none⟩ := by
     rw [add_add]; unfold Addr.add; split
     ·have h0 : k * 3 + j = 0 := by assumption
      have : o + k * 3 + j = o := by omega
      rw [this]
     ·show (⟨g, o + (k * 3 + j), _⟩ : Addr) = _
      rw [Nat.add_assoc]
    rw [← e2, hci j hj3]; exact hj
  ·obtain ⟨i, hi, rfl⟩ := List.mem_map.1 hx
   obtain ⟨u, h1, h2, h3⟩ := hf i (List.mem_range.1 hi)
   exact h3
end
theorem Bats.keep {w w' : World} {B C : Nat} {v : Value} {L : List Bat} (h : Bats w B v L) (hb : Below C w w') (hC : B ≤ C) : Bats w' B v L := by
 obtain ⟨A, c, hv, hc, h⟩ := h
 refine ⟨A, c, hv, hc, fun hn => ?_⟩
 obtain ⟨g, o, hA, hg, hcs⟩ := h hn
 refine ⟨g, o, hA, hg, fun k hk => ?_⟩
 obtain ⟨u, h1, h2⟩ := hcs k hk
 exact ⟨u, fun j z hj => (hb.cell (p := ⟨g, o + k * 3 + j, Option.none⟩) (Nat.lt_of_lt_of_le hg hC)).trans (h1 j z hj), h2.keep hb hC⟩
theorem Bats.at_ {w : World} {B n c : Nat} {A : Option Addr} {L : List Bat} (h : Bats w B (.slice A n c) L) (k : Nat) (hk : k < L.length) :
  ∃ g o Ak ck, A = some ⟨g, o, Option.none⟩ ∧ g < B ∧ w.rangeAt g (o + k * 3) [.int .i64 L[k].client, .int .i64 L[k].seq, .slice Ak L[k].ops.length ck] ∧ Ops w B (.slice Ak L[k].ops.length ck) L[k].ops := by
 obtain ⟨A', c', hv, _, h⟩ := h
 injection hv with e1 e2 e3
 subst e1
 obtain ⟨g, o, rfl, hg, hcs⟩ := h (by omega)
 obtain ⟨u, h1, h2⟩ := hcs k hk
 obtain ⟨Ak, ck, rfl, r⟩ := id h2
 exact ⟨g, o, Ak, ck, rfl, hg, h1, h2⟩
def bcs (p : Bat × Value) : List Value := [.int .i64 p.1.client, .int .i64 p.1.seq, p.2]
def OwnBt (B : Nat) (v : Value) (l : List Bat) (w : World) : Prop :=
 ∃ ps : List (Bat × Value), ps.map (·.1) = l ∧ w.ownsRow B 33 3 v l.length (ps.flatMap bcs) ∧ ∀ p ∈ ps, OwnO 0 p.2 p.1.ops w
theorem OwnBt.nil (B : Nat) (w : World) : OwnBt B (.slice none 0 0) [] w := ⟨[], rfl, World.ownsRow_nil _ _ _ _, fun p hp => by cases hp⟩
theorem OwnBt.below {B : Nat} {v : Value} {l : List Bat} {w w' : World} (h : OwnBt B v l w) (hb : Below w.heap.size w w') : OwnBt B v l w' := by
 obtain ⟨ps, e, h1, h2⟩ := h
 exact ⟨ps, e, ownsRow_below h1 hb, fun p hp => (h2 p hp).below hb⟩
theorem OwnBt.down {B C : Nat} {v : Value} {l : List Bat} {w : World} (h : OwnBt B v l w) (hC : C ≤ B) : OwnBt C v l w := by
 obtain ⟨ps, e, h1, h2⟩ := h
 exact ⟨ps, e, ownsRow_down h1 hC, h2⟩
theorem bt_ne_fold : (33 : TypeId) ≠ 78 := by decide
theorem op_ne_fold : (64 : TypeId) ≠ 78 := by decide
theorem OwnBt.turn {B C g : Nat} {v : Value} {l : List Bat} {w w' : World} {f : Fo} (h : OwnBt B v l w) (hd : Fd w C g f) (hb : w.grownBy w' (some g)) : OwnBt B v l w' := by
 obtain ⟨ps, e, h1, h2⟩ := h
 exact ⟨ps, e, own_turn h1 hd hb bt_ne_fold, fun p hp => own_turn (h2 p hp) hd hb op_ne_fold⟩
theorem bflat_at : ∀ (l : List (Bat × Value)) (k : Nat) (h : k < l.length) (j : Nat) (v : Value), (bcs l[k])[j]? = some v → (l.flatMap bcs)[k * 3 + j]? = some v
 | x :: t, 0, _, j, v, hv => by
  have hj : j < (bcs x).length := (List.getElem?_eq_some_iff.1 hv).1
  rw [List.flatMap_cons, Nat.zero_mul, Nat.zero_add, List.getElem?_append_left hj]; exact hv
 | x :: t, k + 1, h, j, v, hv => by
  have h3 : (bcs x).length = 3 := rfl
  rw [List.flatMap_cons, List.getElem?_append_right (by omega), h3, show (k + 1) * 3 + j - 3 = k * 3 + j by omega]
  exact bflat_at t k (by simpa using h) j v hv
theorem OwnBt.at_ {B n c : Nat} {A : Option Addr} {l : List Bat} {w : World} (h : OwnBt B (.slice A n c) l w) (k : Nat) (hk : k < l.length) :
  ∃ g Ak ck, A = some ⟨g, 0, Option.none⟩ ∧ g < w.heap.size ∧ w.rangeAt g (k * 3) [.int .i64 l[k].client, .int .i64 l[k].seq, .slice Ak l[k].ops.length ck] ∧ OwnO 0 (.slice Ak l[k].ops.length ck) l[k].ops w := by
 obtain ⟨ps, rfl, h1, h2⟩ := h
 have hkp : k < ps.length := by simpa using hk
 have e : (ps.map (·.1))[k] = ps[k].1 := by simp
 have ho := h2 ps[k] (List.getElem_mem hkp)
 obtain ⟨Ak, ck, hv⟩ := own_slice ho
 have hc := fun (g : Nat) (hg : (Value.slice A n c).ownBlock = some g) => World.ownsRow.cells h1 hg
 have hlt := World.ownsRow.lt h1
 rcases h1.2 with ⟨_, h0⟩ | ⟨g, c', cur, hv2, _⟩
 ·omega
 ·injection hv2 with e1 _ _
  subst e1
  refine ⟨g, Ak, ck, rfl, (hlt g rfl).2, fun j z hj => ?_, by rw [e, ← hv]; exact ho⟩
  rw [e, ← hv] at hj
  have h3 := hc g rfl (k * 3 + j) z (bflat_at ps k hkp j z hj)
  rw [Addr.add_mid] at h3
  rw [← h3]; congr 2; omega
theorem OwnBt.slice {B : Nat} {v : Value} {l : List Bat} {w : World} (h : OwnBt B v l w) : ∃ A c, v = .slice A l.length c := by
 obtain ⟨ps, e, h1, _⟩ := h
 exact own_slice h1
theorem Tryz.infoBat3 : (Tryz.prog.info? 33).map (fun i => (i.zero, i.size, i.bytes)) = some (some (.agg #[.int .i64 0, .int .i64 0, .slice none 0 0]), 3, 40) := by kernel_rfl
theorem own_grown {B C e e2 s s2 n n2 : Nat} {v v2 : Value} {xs ys : List Value} {w w' : World} (h : w.ownsRow B e s v n xs) (h2 : w.ownsRow C e2 s2 v2 n2 ys) (hb : w.grownBy w' v2.ownBlock) (hne : e ≠ e2) : w'.ownsRow B e s v n xs := by
 refine ⟨h.1, ?_⟩
 rcases h.2 with h0 | ⟨g, c, cur, hv, hB, hg, r⟩
 ·exact .inl h0
 ·refine .inr ⟨g, c, cur, hv, hB, (hb.block g (Array.getElem?_eq_some_iff.1 hg).1 (fun ee => ?_)).trans hg, r⟩
  rcases h2.2 with ⟨hv2, _⟩ | ⟨g2, c2, cur2, hv2, _, hg2, _⟩
  ·rw [hv2] at ee; cases ee
  ·rw [hv2] at ee
   have e3 : g2 = g := (Option.some.inj (show some g = some g2 from ee)).symm
   subst e3
   rw [hg] at hg2
   injection hg2 with hg2
   injection hg2 with _ h4 _
   exact hne h4
theorem wp_append_bt {w : World} {o : Oper} {a : Act} {K : Act → World → Prop} {Q : Exit → Act → World → Prop} (s x : Operand)
  (ho : o.op = .call { callee := .builtin .append, args := #[s, x], argTypes := #[22, 22] })
  (B : Nat) (v : Value) (l : List Bat) (y : Bat) (u : Value) (g : Nat) (hs : a.eval s = v) (hown : OwnBt B v l w) (hx : a.eval x = .slice (some ⟨g, 0, none⟩) 1 1) (hy : w.rangeAt g 0 [.int .i64 y.client, .int .i64 y.seq, u]) (hyo : OwnO 0 u y.ops w) (hl : l.length ≤ 1000) (hB : B ≤ w.heap.size)
  (h : ∀ v' w', OwnBt B v' (l ++ [y]) w' → Below B w w' → K (a.put o.dst v') w') : o.wp Tryz.prog a w K Q := by
 obtain ⟨iO, hiO, hzO0, hzO1, hzO2⟩ := info_parts Tryz.infoBat3
 obtain ⟨ps, rfl, h1, h2⟩ := hown
 have hln : (ps.map (·.1)).length = ps.length := List.length_map ..
 have hu1 : u.oneCell' = true := by obtain ⟨A, c, rfl⟩ := own_slice hyo; rfl
 have hgr := fun (w' : World) (hg : w.grownBy w' v.ownBlock) => (Below.refl B w).grown hg hB (fun g hg => (World.ownsRow.lt h1 g hg).1)
 obtain ⟨v', w', hr, h4, h3, _, _⟩ := run_append_own_at (P := Tryz.prog) w B 22 o.type 33 iO _ 3 40 Tryz.underlying22 hiO hzO0 hzO1 hzO2 rfl (by decide) v (ps.map (·.1)).length _ h1 ⟨g, 0, none⟩ 1 1 (bcs (y, u)) rfl
  (by
   intro j z hj
   rw [Addr.add_mid]; exact hy j z hj) (by intro z hz; simp [bcs] at hz; rcases hz with rfl | rfl | rfl <;> first | rfl | exact hu1) (by unfold maxLen; omega) (by omega) hB
 unfold Oper.wp execOp
 simp only [ho, resolve, invoke, builtin, Sem.run_bind, Sem.run_pure, Result.andThen_ok, List.map_toArray, List.map_cons, List.map_nil, hs, hx, hr]
 have hne : (64 : TypeId) ≠ 33 := by decide
 refine h v' w' ⟨ps ++ [(y, u)], by simp, ?_, fun p hp => ?_⟩ (hgr w' h3)
 ·rw [List.flatMap_append, List.length_append]
  simpa using h4
 ·rcases List.mem_append.1 hp with hp | hp
  ·exact own_grown (h2 p hp) h1 h3 hne
  ·obtain rfl : p = (y, u) := by simpa using hp
   exact own_grown hyo h1 h3 hne
theorem wpList_append_bt {w : World} {ops : Array Oper} {rest : List Oper} {o : Oper} {a : Act} {Q : Exit → Act → World → Prop} (hgd : o.guard = none) (s x : Operand)
  (ho : o.op = .call { callee := .builtin .append, args := #[s, x], argTypes := #[22, 22] })
  (B : Nat) (v : Value) (l : List Bat) (y : Bat) (u : Value) (g : Nat) (hs : a.eval s = v) (hown : OwnBt B v l w) (hx : a.eval x = .slice (some ⟨g, 0, none⟩) 1 1) (hy : w.rangeAt g 0 [.int .i64 y.client, .int .i64 y.seq, u]) (hyo : OwnO 0 u y.ops w) (hl : l.length ≤ 1000) (hB : B ≤ w.heap.size)
  (h : ∀ v' w', OwnBt B v' (l ++ [y]) w' → Below B w w' → wpList Tryz.prog ops Q rest (a.put o.dst v') w') : wpList Tryz.prog ops Q (o :: rest) a w :=
 wpList_plain hgd fun _ hK => wp_append_bt s x ho B v l y u g hs hown hx hy hyo hl hB fun v' w' h1 h2 => hK _ _ (h v' w' h1 h2)
end Go.Proofs.YtegkhkcnoahhdaaGreat
/-
The reference's folds in memory: that they stand where other blocks turn, and rows of rows of one's own that hold no text.
-/
namespace Go.Proofs.YtegkhkcnoahhdaaGreat
open Go.RowKit
set_option maxRecDepth 100000
theorem prs_far {w w' : World} {B g : Nat} {t : TypeId} {cs : List Value} {v : Value} {l : List Par} (h : Prs w B v l) (hr : Rb w g t cs) (hn : NoStr cs) (hb : w.grownBy w' (some g)) : Prs w' B v l := by
 obtain ⟨A, c, hv, hc, hcell⟩ := h
 refine ⟨A, c, hv, hc, fun h0 => ?_⟩
 obtain ⟨g', o, hA, hg, hcs⟩ := hcell h0
 have hne : g' ≠ g := fun e => by
  subst e
  have h1 := hcs 0 h0 0 (.string l[0].k) rfl
  rw [cell_of_row w g' _ cs.toArray t (0, 0) hr] at h1
  exact hn _ _ (by simpa using h1)
 refine ⟨g', o, hA, hg, fun k hk i z hz => ?_⟩
 exact (World.cell?_of_block (hb.block g' (cell_in6 (hcs k hk i z hz)) (fun e => hne (by injection e)))).trans (hcs k hk i z hz)
theorem ops_far {w w' : World} {B g : Nat} {t : TypeId} {cs : List Value} {v : Value} {l : List Opn} (h : Ops w B v l) (hr : Rb w g t cs) (hn : NoStr cs) (hb : w.grownBy w' (some g)) : Ops w' B v l := by
 obtain ⟨A, c, hv, hc, hcell⟩ := h
 refine ⟨A, c, hv, hc, fun h0 => ?_⟩
 obtain ⟨g', o, hA, hg, hcs⟩ := hcell h0
 have hne : g' ≠ g := fun e => by
  subst e
  have h1 := hcs 0 h0 1 (.string l[0].key) rfl
  rw [cell_of_row w g' _ cs.toArray t (0, 0) hr] at h1
  exact hn _ _ (by simpa using h1)
 refine ⟨g', o, hA, hg, fun k hk i z hz => ?_⟩
 exact (World.cell?_of_block (hb.block g' (cell_in6 (hcs k hk i z hz)) (fun e => hne (by injection e)))).trans (hcs k hk i z hz)
theorem FoC.map {w w' : World} {B C : Nat} {cs : List Value} {f : Fo} (h : FoC w B cs f) (hp : ∀ v l, Prs w B v l → Prs w' C v l) (ho : ∀ v l, Ops w B v l → Ops w' C v l) : FoC w' C cs f := by
 obtain ⟨h1, h2, ⟨ds, h3, h4⟩, h5, h6, h7, h8⟩ := h
 refine ⟨h1, h2, ⟨ds, h3, hp _ _ h4⟩, h5, fun c hc => ?_, h7, h8⟩
 obtain ⟨s, a, b, c, d, e, k⟩ := h6 c hc
 exact ⟨s, a, b, c, d, e, ho _ _ k⟩
theorem FoC.keep {w w' : World} {B C : Nat} {cs : List Value} {f : Fo} (h : FoC w B cs f) (hb : Below C w w') (hC : B ≤ C) : FoC w' B cs f := h.map (fun _ _ h => h.keep hb hC) (fun _ _ h => h.keep hb hC)
theorem FoC.more {w : World} {B C : Nat} {cs : List Value} {f : Fo} (h : FoC w B cs f) (hC : B ≤ C) : FoC w C cs f := h.map (fun _ _ h => h.more hC) (fun _ _ h => h.more hC)
theorem FoC.below {w w' : World} {cs : List Value} {f : Fo} (h : FoC w w.heap.size cs f) (hb : Below w.heap.size w w') : FoC w' w'.heap.size cs f := (h.keep hb (Nat.le_refl _)).more hb.size
theorem FoC.turn {w w' : World} {C g : Nat} {cs : List Value} {f f2 : Fo} (h : FoC w w.heap.size cs f) (hd : Fd w C g f2) (hb : w.grownBy w' (some g)) : FoC w' w'.heap.size cs f :=
 (h.map (fun _ _ h => prs_turn h hd hb) (fun _ _ h => ops_turn h hd hb)).more hb.size
theorem FoC.far {w w' : World} {g : Nat} {t : TypeId} {cs ds : List Value} {f : Fo} (h : FoC w w.heap.size cs f) (hr : Rb w g t ds) (hn : NoStr ds) (hb : w.grownBy w' (some g)) : FoC w' w'.heap.size cs f :=
 (h.map (fun _ _ h => prs_far h hr hn hb) (fun _ _ h => ops_far h hr hn hb)).more hb.size
theorem FoldV.below {w w' : World} {v : Value} {f : Fo} (h : FoldV w w.heap.size v f) (hb : Below w.heap.size w w') : FoldV w' w'.heap.size v f := by
 obtain ⟨cs, hv, h⟩ := h; exact ⟨cs, hv, h.below hb⟩
theorem FoldV.turn {w w' : World} {C g : Nat} {v : Value} {f f2 : Fo} (h : FoldV w w.heap.size v f) (hd : Fd w C g f2) (hb : w.grownBy w' (some g)) : FoldV w' w'.heap.size v f := by
 obtain ⟨cs, hv, h⟩ := h; exact ⟨cs, hv, h.turn hd hb⟩
def OwnN (B : Nat) (v : Value) (n : Nat) (w : World) : Prop := ∃ xs, w.ownsRow B 36 5 v n xs ∧ ∀ g, v.ownBlock = some g → ∃ cs t, Rb w g t cs ∧ NoStr cs
theorem OwnN.nil (B : Nat) (w : World) : OwnN B (.slice none 0 0) 0 w := ⟨[], World.ownsRow_nil _ _ _ _, fun g hg => by cases hg⟩
theorem OwnN.below {B n : Nat} {v : Value} {w w' : World} (h : OwnN B v n w) (hb : Below w.heap.size w w') : OwnN B v n w' := by
 obtain ⟨xs, h1, h2⟩ := h
 refine ⟨xs, ownsRow_below h1 hb, fun g hg => ?_⟩
 obtain ⟨cs, t, h3, h4⟩ := h2 g hg
 exact ⟨cs, t, h3.below hb, h4⟩
theorem OwnN.set {B n g : Nat} {v : Value} {w : World} {t : TypeId} {ds vs : List Value} {o : Nat} (h : OwnN B v n w) (hr : Rb w g t ds) (ht : t ≠ 36) : OwnN B v n (w.setCells g o vs) := by
 obtain ⟨xs, h1, h2⟩ := h
 refine ⟨xs, rb_owns ht vs o w ds h1 hr, fun G hG => ?_⟩
 obtain ⟨cs, t', h3, h4⟩ := h2 G hG
 refine ⟨cs, t', Rb.others (fun e => ?_) vs o w h3, h4⟩
 subst e
 rcases h1.2 with ⟨hv, _⟩ | ⟨g2, c2, cur2, hv, _, hg2, _⟩
 ·rw [hv] at hG; cases hG
 ·rw [hv] at hG
  have e3 : g2 = G := Option.some.inj (show some g2 = some G from hG)
  subst e3
  unfold Rb at hr
  rw [hg2] at hr
  injection hr with hr
  injection hr with _ h6 _
  exact ht h6.symm
theorem FoC.own {w w' : World} {B n : Nat} {v : Value} {cs : List Value} {f : Fo} (h : FoC w w.heap.size cs f) (ho : OwnN B v n w) (hb : w.grownBy w' v.ownBlock) : FoC w' w'.heap.size cs f := by
 obtain ⟨xs, h1, h2⟩ := ho
 cases hv : v.ownBlock with
 | none =>
  rw [hv] at hb
  have hbb : Below w.heap.size w w' := ⟨hb.os, hb.tape, hb.output, hb.size, fun k hk => hb.block k hk (fun e => by cases e)⟩
  exact h.below hbb
 | some g =>
  obtain ⟨ds, t, h3, h4⟩ := h2 g hv
  rw [hv] at hb
  exact h.far h3 h4 hb
theorem Tryz.infoARow : (Tryz.prog.info? 36).map (fun i => (i.zero, i.size, i.bytes)) = some (some (.agg #[.int .i64 0, .int .i64 0, .int .i64 0, .slice none 0 0, .int .i64 0]), 5, 56) := by kernel_rfl
theorem zero_nostr (n : Nat) : NoStr (Builtin.zeroCells #[.int .i64 0, .int .i64 0, .int .i64 0, .slice none 0 0, .int .i64 0] n).toList := fun j s e => by
 unfold Builtin.zeroCells at e
 rw [Array.getElem?_toList, Array.getElem?_map] at e
 obtain ⟨i, _, hi⟩ := Option.map_eq_some_iff.1 e
 have h5 : i % 5 < 5 := Nat.mod_lt _ (by decide)
 have h6 : i % (#[Value.int .i64 0, .int .i64 0, .int .i64 0, .slice none 0 0, .int .i64 0] : Array Value).size = i % 5 := rfl
 rw [h6] at hi
 generalize i % 5 = k at hi h5
 obtain rfl | rfl | rfl | rfl | rfl : k = 0 ∨ k = 1 ∨ k = 2 ∨ k = 3 ∨ k = 4 := by omega
 all_goals cases hi
theorem NoStr.append {a b : List Value} (ha : NoStr a) (hb : NoStr b) : NoStr (a ++ b) := fun j s e => by
 rw [List.getElem?_append] at e
 split at e
 ·exact ha _ _ e
 ·exact hb _ _ e
theorem run_append_arow {w : World} (ty : TypeId) (B : Nat) (v : Value) (n g : Nat) (r5 : List Value) (hown : OwnN B v n w) (hy : w.rangeAt g 0 r5) (h5 : r5.length = 5) (hn5 : NoStr r5) (h1 : ∀ u ∈ r5, u.oneCell' = true) (hl : n ≤ 1000) (hB : B ≤ w.heap.size) :
  ∃ v' w', (Builtin.append_ #[47, 47] ty #[v, .slice (some ⟨g, 0, none⟩) 1 1]).run Tryz.prog w = .ok v' w' ∧ OwnN B v' (n + 1) w' ∧ w.grownBy w' v.ownBlock ∧ (v'.ownBlock = v.ownBlock ∨ v'.ownBlock = some w.heap.size) := by
 obtain ⟨iO, hiO, hzO0, hzO1, hzO2⟩ := info_parts Tryz.infoARow
 obtain ⟨xs, ho, hns⟩ := hown
 have hnews : ∀ j u, r5[j]? = some u → w.cell? ((⟨g, 0, none⟩ : Addr).add j) = some u := fun j z hj => by rw [Addr.add_mid]; exact hy j z hj
 obtain ⟨v', w', hr, h4, h3, _, hat⟩ := run_append_own_at (P := Tryz.prog) w B 47 ty 36 iO _ 5 56 Tryz.underlying47 hiO hzO0 hzO1 hzO2 rfl (by decide) v n _ ho ⟨g, 0, none⟩ 1 1 r5 (by omega) hnews h1 (by unfold maxLen; omega) (by omega) hB
 refine ⟨v', w', hr, ⟨_, h4, fun G hG => ?_⟩, h3, hat⟩
 have hxl := ho.1
 rcases ho.2 with ⟨rfl, rfl⟩ | ⟨g0, cap, cur, rfl, hbg, hg, hnc, hcm, hcs, htake⟩
 ·have hx : xs = [] := List.eq_nil_of_length_eq_zero (by simpa using hxl)
  subst hx
  have hr2 := run_append_nil (P := Tryz.prog) w 47 ty 36 iO _ Tryz.underlying47 hiO hzO0 ⟨g, 0, none⟩ 1 1 r5 (by rw [hzO1]; omega) hnews (by omega) (by omega) (by rw [hzO2]; omega)
  rw [hr] at hr2
  injection hr2 with e1 e2
  subst e1; subst e2
  have e3 := Option.some.inj hG
  subst e3
  refine ⟨(r5.toArray ++ Builtin.zeroCells #[.int .i64 0, .int .i64 0, .int .i64 0, .slice none 0 0, .int .i64 0] (grownCap w 1 0 36 - 1)).toList, 36, ?_, ?_⟩
  ·unfold Rb; rw [Array.toArray_toList]; exact heap_alloc_new w.drew _
  ·rw [Array.toList_append]
   exact NoStr.append (by simpa using hn5) (zero_nostr _)
 ·obtain ⟨cs, tt, hcs2, hcn⟩ := hns g0 rfl
  have hcur : cs.toArray = cur := by
   unfold Rb at hcs2
   rw [hg] at hcs2
   injection hcs2 with hcs2
   injection hcs2 with h7 _ _
   exact h7.symm
  subst hcur
  have htk : ∀ k, NoStr (cs.take k) := fun k j s e => by
   rw [List.getElem?_take] at e
   split at e
   ·exact hcn _ _ e
   ·cases e
  by_cases hroom : n + 1 ≤ cap
  ·have hr2 := run_append_room (P := Tryz.prog) w 47 ty 36 iO Tryz.underlying47 hiO g0 n cap _ hg ⟨g, 0, none⟩ 1 1 r5 (by rw [hzO1]; omega) hnews h1 hroom (by rw [hcs, hzO1, h5]; omega)
   rw [hr] at hr2
   injection hr2 with e1 e2
   subst e1; subst e2
   have e3 := Option.some.inj hG
   subst e3
   refine ⟨_, _, by unfold Rb; rw [setRow_heap w g0 _ _ _ _ hg], ?_⟩
   refine NoStr.append (NoStr.append (htk _) hn5) (fun j s e => ?_)
   rw [List.getElem?_drop] at e
   exact hcn _ _ e
  ·have hr2 := run_append_grow (P := Tryz.prog) w 47 ty 36 iO _ Tryz.underlying47 hiO hzO0 ⟨g0, 0, none⟩ n cap xs (by rw [hzO1]; exact hxl) (ho.cells (g := g0) rfl) ⟨g, 0, none⟩ 1 1 r5 (by rw [hzO1]; omega) hnews (by omega) (by omega) (growslice_fits (by omega) (by rw [hzO2]; omega))
   rw [hr] at hr2
   injection hr2 with e1 e2
   subst e1; subst e2
   have e3 := Option.some.inj hG
   subst e3
   refine ⟨(xs.toArray ++ r5.toArray ++ Builtin.zeroCells #[.int .i64 0, .int .i64 0, .int .i64 0, .slice none 0 0, .int .i64 0] (grownCap w (n + 1) cap 36 - (n + 1))).toList, 36, ?_, ?_⟩
   ·unfold Rb; rw [Array.toArray_toList]; exact heap_alloc_new w.drew _
   ·rw [Array.toList_append, Array.toList_append]
    refine NoStr.append (NoStr.append ?_ (by simpa using hn5)) (zero_nostr _)
    have hx2 : xs.toArray.toList = xs := by simp
    rw [hx2, ← htake]
    exact htk _
theorem wp_append_arow {w : World} {o : Oper} {a : Act} {K : Act → World → Prop} {Q : Exit → Act → World → Prop} (s x : Operand)
  (ho : o.op = .call { callee := .builtin .append, args := #[s, x], argTypes := #[47, 47] })
  (B : Nat) (v : Value) (n g : Nat) (r5 : List Value) (hs : a.eval s = v) (hown : OwnN B v n w) (hx : a.eval x = .slice (some ⟨g, 0, none⟩) 1 1) (hy : w.rangeAt g 0 r5) (h5 : r5.length = 5) (hn5 : NoStr r5) (h1 : ∀ u ∈ r5, u.oneCell' = true) (hl : n ≤ 1000) (hB : B ≤ w.heap.size)
  (h : ∀ v' w', OwnN B v' (n + 1) w' → Below B w w' → w.grownBy w' v.ownBlock → (v'.ownBlock = v.ownBlock ∨ v'.ownBlock = some w.heap.size) → K (a.put o.dst v') w') : o.wp Tryz.prog a w K Q := by
 obtain ⟨v', w', hr, h2, h3, h4⟩ := run_append_arow o.type B v n g r5 hown hy h5 hn5 h1 hl hB
 unfold Oper.wp execOp
 simp only [ho, resolve, invoke, builtin, Sem.run_bind, Sem.run_pure, Result.andThen_ok, List.map_toArray, List.map_cons, List.map_nil, hs, hx, hr]
 obtain ⟨xs, h6, _⟩ := hown
 exact h v' w' h2 ((Below.refl B w).grown h3 hB (fun g hg => (World.ownsRow.lt h6 g hg).1)) h3 h4
theorem wpList_append_arow {w : World} {ops : Array Oper} {rest : List Oper} {o : Oper} {a : Act} {Q : Exit → Act → World → Prop} (hgd : o.guard = none) (s x : Operand)
  (ho : o.op = .call { callee := .builtin .append, args := #[s, x], argTypes := #[47, 47] })
  (B : Nat) (v : Value) (n g : Nat) (r5 : List Value) (hs : a.eval s = v) (hown : OwnN B v n w) (hx : a.eval x = .slice (some ⟨g, 0, none⟩) 1 1) (hy : w.rangeAt g 0 r5) (h5 : r5.length = 5) (hn5 : NoStr r5) (h1 : ∀ u ∈ r5, u.oneCell' = true) (hl : n ≤ 1000) (hB : B ≤ w.heap.size)
  (h : ∀ v' w', OwnN B v' (n + 1) w' → Below B w w' → w.grownBy w' v.ownBlock → (v'.ownBlock = v.ownBlock ∨ v'.ownBlock = some w.heap.size) → wpList Tryz.prog ops Q rest (a.put o.dst v') w') : wpList Tryz.prog ops Q (o :: rest) a w :=
 wpList_plain hgd fun _ hK => wp_append_arow s x ho B v n g r5 hs hown hx hy h5 hn5 h1 hl hB fun v' w' h1 h2 h3 h4 => hK _ _ (h v' w' h1 h2 h3 h4)
def z38 : List Value := [.int .i64 0, .slice none 0 0, .int .i64 0, .int .i64 0, .int .i64 0, .int .i64 0, .int .i64 0, .int .i64 0, .int .i64 0, .int .i64 0, .int .i64 0, .slice none 0 0, .int .i64 0, .int .i64 0, .int .i64 0, .int .i64 0, .slice none 0 0, .int .i64 0, .int .i64 0, .int .i64 0, .int .i64 0, .slice none 0 0, .int .i64 0, .int .i64 0, .int .i64 0, .int .i64 0, .slice none 0 0, .int .i64 0, .int .i64 0, .int .i64 0, .int .i64 0, .slice none 0 0, .int .i64 0, .int .i64 0, .int .i64 0, .int .i64 0, .slice none 0 0, .int .i64 0]
theorem z38_nos : NoStr z38 := noStr_of (by
 intro v hv s e
 subst e
 simp [z38] at hv)
theorem z38_one : ∀ v ∈ z38, v.oneCell' = true := List.all_eq_true.1 (show z38.all (·.oneCell') = true from by kernel_rfl)
theorem foC_zero (w : World) (B : Nat) : FoC w B z38 fo0 where
 len := rfl
 place := rfl
 doc := ⟨.slice none 0 0, rfl, ⟨none, 0, rfl, Nat.le_refl _, fun h => absurd h (by decide)⟩⟩
 last := fun c hc => by
  obtain rfl | rfl | rfl | rfl | rfl | rfl : c = 0 ∨ c = 1 ∨ c = 2 ∨ c = 3 ∨ c = 4 ∨ c = 5 := by omega
  all_goals rfl
 told := fun c hc => by
  refine ⟨.slice none 0 0, ?_, ?_, ?_, ?_, ?_, ⟨none, 0, rfl, Nat.le_refl _, fun h => absurd h (by show ¬ (0 < ([] : List Opn).length); decide)⟩⟩
  all_goals
   obtain rfl | rfl | rfl | rfl | rfl | rfl : c = 0 ∨ c = 1 ∨ c = 2 ∨ c = 3 ∨ c = 4 ∨ c = 5 := by omega
   all_goals rfl
 one := z38_one
 nos := z38_nos
end Go.Proofs.YtegkhkcnoahhdaaGreat
/-
What the statements of stage 7 cut lists of batches to: at most so many, each cut, in new memory.
-/
namespace Go.Proofs.YtegkhkcnoahhdaaGreat
open Lib (hid)
open Go.RowKit
set_option maxRecDepth 100000
set_option maxHeartbeats 1000000 in
theorem lbatches_is (B C n c : Nat) (A : Option Addr) (l : List Bat) (w : World) (h : Bats w C (.slice A l.length c) l) (hC : C ≤ w.heap.size) (hB : B ≤ w.heap.size) (hf : ∀ b ∈ l, b.fit) (hn : n ≤ 1000) :
  Calls Tryz.prog 7 #[.slice A l.length c, .int .i64 n] w fun e w' => ∃ A' c' m, e = .returned (.slice A' m.length c') ∧ (OwnBt B (.slice A' m.length c') m w' ∧ m.length ≤ n ∧ ∀ b ∈ m, b.ok ∧ b.ops.length ≤ 10) ∧ Below w.heap.size w w' := by
 have hb := Below.refl w.heap.size w
 have HL := hid h; clear h
 have HF := hid hf; clear hf
 go_enter Tryz.func7, Tryz.ntmps7
 go_wp2_with fail
 go_loopw [5, 6] (fun v i wr => ∃ (k : Nat) (m : List Bat), i = .int .i64 k ∧ k ≤ l.length ∧ m.length = k ∧ k ≤ n ∧ OwnBt w.heap.size v m wr ∧ Below w.heap.size w wr ∧ ∀ b ∈ m, b.ok ∧ b.ops.length ≤ 10) (fun _ i _ => l.length - (intOf i).toNat)
 case atStart => exact ⟨0, [], rfl, Nat.zero_le _, rfl, Nat.zero_le _, OwnBt.nil _ _, hb, fun b hb => by cases hb⟩
 case round =>
  obtain ⟨k, m, rfl, hk, hmk, hkn0, hown, hbw, hok⟩ := hrel
  subst hmk
  obtain ⟨A1, c1, rfl⟩ := hown.slice
  have HO := hid hown; clear hown
  have HK := hid hok; clear hok
  by_cases hkn : m.length < l.length ∧ m.length < n
  ·obtain ⟨hkl, hk2⟩ := hkn
   obtain ⟨g, o, Ak, ck, rfl, hga, hr0, hops⟩ := HL.out.at_ m.length hkl
   have hfit := HF.out l[m.length] (List.getElem_mem ..)
   obtain ⟨b, hbe⟩ : ∃ b, l[m.length] = b := ⟨_, rfl⟩
   rw [hbe] at hr0 hops hfit
   clear hbe
   obtain ⟨bc, bq, bo⟩ := b
   simp only at hr0 hops hfit
   have hr := range_below (range_below hr0 hb (Nat.lt_of_lt_of_le hga hC)) hbw (Nat.lt_of_lt_of_le hga hC)
   clear hr0
   have hki : (m.length : Int) < (l.length : Int) := by omega
   have hkj : (m.length : Int) < (n : Int) := by omega
   have hl0 : g < wr.heap.size := Nat.lt_of_lt_of_le (Nat.lt_of_lt_of_le hga hC) hbw.size
   have HOp := hid (hops.keep hbw hC); clear hops
   have HFt := hid hfit; clear hfit
   go_wp2_with (refine wpList_load_mid rfl 33 _ rfl g (o + m.length * 3) rfl [.int .i64 bc, .int .i64 bq, .slice Ak bo.length ck] _ hr Tryz.underlying33 rfl (by kernel_rfl) ?_)
   refine (l5cutBatch_any C _ ⟨bc, bq, bo⟩ _ ⟨_, rfl, HOp.out⟩ (Nat.le_trans hC hbw.size) (fun x hx => fit_ints6 (HFt.out.2.2 x hx))).mono ?_
   rintro e w1 ⟨u, mo, rfl, hu, hb1, hml, hmok⟩
   have hbw1 := hbw.trans (hb1.mono hbw.size)
   replace HO := hid (HO.out.below hb1)
   have hu0 := ownO_down hu (Nat.zero_le _)
   have HU := hid (hu0.below (below_one w1 (.cells #[.int .i64 bc, .int .i64 bq, u] 33)))
   have hokb : (⟨bc, bq, mo⟩ : Bat).ok ∧ mo.length ≤ 10 := ⟨⟨HFt.out.1, HFt.out.2.1, hmok⟩, by omega⟩
   have HBK := hid hokb
   clear hu hu0 hb1 hml hmok hokb hbw
   go_wp2_with (refine wpList_append_bt rfl _ _ rfl w.heap.size _ m ⟨bc, bq, mo⟩ u _ rfl (HO.out.below (below_one _ _)) rfl ?_ HU.out (by omega) (by have := hbw1.size; first | (simp; done) | (simp; omega) | omega) ?_)
   ·exact (Rb.new w1 _ _).range
   intro v4 w4 ho4 hb4
   have hbw4 : Below w.heap.size w w4 := (hbw1.alloc hbw1.size _).trans (hb4.mono (by have := hbw1.size; first | (simp; done) | (simp; omega)))
   go_wp2
   go_roundw
   case rel => exact ⟨m.length + 1, _, by go_num, by omega, by simp, by omega, ho4, hbw4, fun x hx => by
    rcases List.mem_append.1 hx with h | h
    ·exact HK.out x h
    ·obtain rfl : x = ⟨bc, bq, mo⟩ := by simpa using h
     exact HBK.out⟩
   case measure => simp [intOf]; omega
  ·have h2 : ¬ m.length < l.length ∨ (m.length < l.length ∧ ¬ m.length < n) := by omega
   clear hkn
   rcases h2 with h2 | ⟨h2, h3⟩
   all_goals
    go_wp2
    go_ret
    exact ⟨A1, c1, m, rfl, ⟨HO.out.down hB, by omega, HK.out⟩, hbw⟩
end Go.Proofs.YtegkhkcnoahhdaaGreat
/-
What the walks of stage 7's laws ask for beside the contracts: blocks that are laid and stored into, the reference's Next with what it answers named, ways that meet.
-/
namespace Go.Proofs.YtegkhkcnoahhdaaGreat
open Go.RowKit
set_option maxRecDepth 100000
def MeetX (R : Act → World → Prop) : Exit → Act → World → Prop
 | .normal, a, W => R a W
 | _, _, _ => False
theorem wp_meetx {P : Program} {c : Code} {Q : Exit → Act → World → Prop} {a : Act} {w : World} (R : Act → Act → World → Prop) (h1 : c.wp P (MeetX (R a)) a w) (h2 : ∀ b W, R a b W → Q .normal b W) : c.wp P Q a w :=
 Code.wp_mono (fun e b W h => by
  cases e with
  | normal => exact h2 b W h
  | _ => exact h.elim) h1
theorem body_worldx {F : Exit → Act → World → Prop} {e : Exit} {a : Act} {w : World} (R : World → Prop) (h : R w) (k : ∀ W, R W → F e a W) : F e a w := k w h
theorem wp_alloc7 {P : Program} {o : Oper} {a : Act} {w : World} {K : Act → World → Prop} {Q : Exit → Act → World → Prop} (t : TypeId) (cs : List Value)
  (hrun : (execOp a.eval o).run P w = .ok (.value (.pointer (some ⟨w.heap.size, 0, none⟩))) (w.alloc (.cells cs.toArray t))) (h : K (a.put o.dst (.pointer (some ⟨w.heap.size, 0, none⟩))) (w.alloc (.cells cs.toArray t))) : o.wp P a w K Q := by
 unfold Oper.wp
 rw [hrun, Oper.upon_value]
 exact h
def z5 : List Value := [.int .i64 0, .int .i64 0, .int .i64 0, .slice none 0 0, .int .i64 0]
def r5 (p c q : Int) (s : Value) (e : Int) : List Value := [.int .i64 p, .int .i64 c, .int .i64 q, s, .int .i64 e]
theorem z5_len : z5.length = 5 := rfl
theorem z38_len : z38.length = 38 := rfl
theorem z5_nos : NoStr z5 := noStr_of (by
 intro v hv s e
 subst e
 simp [z5] at hv)
theorem r5_nos (p c q e : Int) (A : Option Addr) (n k : Nat) : NoStr [.int .i64 p, .int .i64 c, .int .i64 q, .slice A n k, .int .i64 e] := noStr_of (by
 intro v hv s e
 subst e
 simp at hv)
theorem r5_one (p c q e : Int) (A : Option Addr) (n k : Nat) : ∀ v ∈ [Value.int .i64 p, .int .i64 c, .int .i64 q, .slice A n k, .int .i64 e], v.oneCell' = true := by
 intro v hv
 simp at hv
 rcases hv with rfl | rfl | rfl | rfl | rfl <;> rfl
theorem sets_size (g : Nat) (vs : List Value) (o : Nat) (w : World) : (w.setCells g o vs).heap.size = w.heap.size := by
 induction vs generalizing o w with
 | nil => rfl
 | cons v r ih => show ((w.setCell ⟨g, o, none⟩ v).setCells g (o + 1) r).heap.size = _; rw [ih]; simp [World.setCell]
theorem OwnBt.set {B G o : Nat} {v : Value} {l : List Bat} {w : World} {t : TypeId} {ds vs : List Value} (h : OwnBt B v l w) (hr : Rb w G t ds) (h1 : t ≠ 33) (h2 : t ≠ 64) : OwnBt B v l (w.setCells G o vs) := by
 obtain ⟨ps, e, h3, h4⟩ := h
 exact ⟨ps, e, rb_owns h1 vs o w ds h3 hr, fun p hp => rb_owns h2 vs o w ds (h4 p hp) hr⟩
theorem ops_set {w : World} {G o : Nat} {t : TypeId} {ds vs : List Value} {v : Value} {l : List Opn} (h : Ops w w.heap.size v l) (hr : Rb w G t ds) (hn : NoStr ds) : Ops (w.setCells G o vs) (w.setCells G o vs).heap.size v l := by
 rw [sets_size]; exact ops_norow hn vs o h hr
theorem FoC.set {w : World} {G o : Nat} {t : TypeId} {cs ds vs : List Value} {f : Fo} (h : FoC w w.heap.size cs f) (hr : Rb w G t ds) (hn : NoStr ds) : FoC (w.setCells G o vs) (w.setCells G o vs).heap.size cs f := h.far hr hn (grown_setCells _ _ _ _)
theorem rng_set {w : World} {G o g p : Nat} {cs vs : List Value} (h : w.rangeAt g p cs) (hne : g ≠ G) : (w.setCells G o vs).rangeAt g p cs := World.rangeAt_setCells_apart h G o vs (.inl hne)
theorem rng_turn {w w' : World} {g o G : Nat} {cs : List Value} (h : w.rangeAt g o cs) (hb : w.grownBy w' (some G)) (hne : g ≠ G) (hl : g < w.heap.size) : w'.rangeAt g o cs := fun j v hj => (World.cell?_of_block (hb.block g hl (fun e => hne (by injection e)))).trans (h j v hj)
theorem OwnN.far {B n G : Nat} {v : Value} {w w' : World} (h : OwnN B v n w) (hb : w.grownBy w' (some G)) (hne : v.ownBlock ≠ some G) : OwnN B v n w' := by
 obtain ⟨xs, h1, h2⟩ := h
 refine ⟨xs, World.ownsRow.kept h1 hb (.inr hne), fun g hg => ?_⟩
 obtain ⟨cs, t, h3, h4⟩ := h2 g hg
 exact ⟨cs, t, (hb.block g h3.lt (fun e => hne (hg.trans e))).trans h3, h4⟩
theorem wpList_load_midG {P : Program} {ops : Array Oper} {rest : List Oper} {op : Oper} {a : Act} {w : World} {Q : Exit → Act → World → Prop} (hw : Region.wanted op (yielded ops a.tmps) = true) (ty : TypeId) (x : Operand) (ho : op.op = .load ty x)
  (b o : Nat) (hx : a.eval x = .pointer (some ⟨b, o, none⟩)) (cs : List Value) (d : TypeDesc) (hc : w.rangeAt b o cs)
  (hu : P.underlying ty = some d) (hd : d.isRow = true) (hi : (P.info? ty).map (·.size) = some cs.length)
  (h : wpList P ops Q rest (a.put op.dst (.agg cs.toArray)) w) : wpList P ops Q (op :: rest) a w :=
 wpList_step fun K hK => by rw [if_pos hw]; exact wp_load_mid ty x ho b o hx cs d hc hu hd hi (hK _ _ h)
theorem OwnBt.ne_rb {B n c g G : Nat} {l : List Bat} {w : World} {t : TypeId} {ds : List Value} (h : OwnBt B (.slice (some ⟨g, 0, none⟩) n c) l w) (hr : Rb w G t ds) (ht : t ≠ 33) : g ≠ G := fun e => by
 subst e
 obtain ⟨ps, _, h1, _⟩ := h
 rcases h1.2 with ⟨hv, _⟩ | ⟨g2, c2, cur2, hv, _, hg2, _⟩
 ·cases hv
 ·have e3 : g2 = g := Option.some.inj (show some g2 = some g from by have := congrArg Value.ownBlock hv; exact this.symm)
  subst e3
  unfold Rb at hr
  rw [hg2] at hr
  injection hr with hr
  injection hr with _ h6 _
  exact ht h6.symm
theorem OwnBt.ne_fold {B C n c g G : Nat} {l : List Bat} {w : World} {f : Fo} (h : OwnBt B (.slice (some ⟨g, 0, none⟩) n c) l w) (hd : Fd w C G f) : g ≠ G := by
 obtain ⟨_, _, dv, hr, _⟩ := hd
 exact h.ne_rb hr (by decide)
theorem rowF_few (f : Fo) (b : Bat) : (rowF f b).b.ops.length ≤ b.ops.length := by
 unfold rowF
 split
 ·exact Nat.le_refl _
 ·exact Nat.zero_le _
theorem stepF_good {f : Fo} {b : Bat} (h : FoG f) (hb : b.ok) (hp : f.place ≤ 1000000000000000) : FoG (stepF f b) := by
 unfold stepF
 split
 ·rename_i hn; exact h.next hb hn hp
 ·exact h
theorem stepF_place (f : Fo) (b : Bat) : (stepF f b).place ≤ f.place + 1 := by
 unfold stepF
 split
 ·exact Int.le_refl _
 ·omega
theorem wpList_alloc7 {P : Program} {ops : Array Oper} {rest : List Oper} {o : Oper} {a : Act} {w : World} {Q : Exit → Act → World → Prop} (hg : o.guard = none) (t : TypeId) (ho : o.op = .alloc t) (cs : List Value)
  (hrun : (execOp a.eval o).run P w = .ok (.value (.pointer (some ⟨w.heap.size, 0, none⟩))) (w.alloc (.cells cs.toArray t)))
  (h : wpList P ops Q rest (a.put o.dst (.pointer (some ⟨w.heap.size, 0, none⟩))) (w.alloc (.cells cs.toArray t))) : wpList P ops Q (o :: rest) a w :=
 wpList_plain hg fun _ hK => wp_alloc7 t cs hrun (hK _ _ h)
theorem rnext_to (B C : Nat) (cs : List Value) (f f' : Fo) (bc bq : Int) (bo : List Opn) (s : Value) (y : Bool) (rp rc rq re : Int) (ro : List Opn) (w : World) (h : FoC w B cs f) (hB : B ≤ w.heap.size) (hs : Ops w C s bo) (hC : C ≤ w.heap.size) (hok : Bat.ok ⟨bc, bq, bo⟩) (hl : bo.length ≤ 1000) (hg : FoG f) (hp : f.place ≤ 1000000000000000) (hy : nextB f ⟨bc, bq, bo⟩ = y) (hst : stepF f ⟨bc, bq, bo⟩ = f') (hrw : rowF f ⟨bc, bq, bo⟩ = ⟨rp, ⟨rc, rq, ro⟩, re⟩) :
  Calls Tryz.prog 10 #[.agg cs.toArray, .agg #[.int .i64 bc, .int .i64 bq, s]] w fun e w' => ∃ cs' A c, e = .returned (.tuple #[.agg cs'.toArray, .agg #[.int .i64 rp, .int .i64 rc, .int .i64 rq, .slice A ro.length c, .int .i64 re], .bool y]) ∧ (FoC w' w'.heap.size cs' f' ∧ Ops w' w'.heap.size (.slice A ro.length c) ro) ∧ Below w.heap.size w w' := by
 refine (rnext_any w.heap.size (.agg cs.toArray) _ f ⟨bc, bq, bo⟩ w ⟨cs, rfl, h.more hB⟩ ⟨s, rfl, hs.more hC⟩ (Nat.le_refl _) hok hl (hg.fok hp)).mono ?_
 rintro e w' ⟨h1, h2⟩
 cases y with
 | true =>
  obtain ⟨v', r', rfl, ⟨cs', rfl, h3⟩, ⟨t, rfl, h4⟩, h5⟩ := h2 hy
  have e1 : rowF f ⟨bc, bq, bo⟩ = rowOfB f ⟨bc, bq, bo⟩ := by unfold rowF; rw [if_pos hy]
  have e2 : stepF f ⟨bc, bq, bo⟩ = nextFo f ⟨bc, bq, bo⟩ := by unfold stepF; rw [if_pos hy]
  rw [hrw] at e1
  rw [hst] at e2
  rw [← e2] at h3
  rw [← e1] at h4 ⊢
  obtain ⟨A, c, rfl⟩ := ops_slice h4
  exact ⟨cs', A, c, rfl, ⟨h3, h4⟩, h5⟩
 | false =>
  obtain ⟨rfl, h5⟩ := h1 hy
  have e1 : rowF f ⟨bc, bq, bo⟩ = zRw := by unfold rowF; rw [if_neg (by rw [hy]; decide)]
  have e2 : stepF f ⟨bc, bq, bo⟩ = f := by unfold stepF; rw [if_neg (by rw [hy]; decide)]
  rw [hrw] at e1
  rw [hst] at e2
  injection e1 with e3 e4 e5
  injection e4 with e6 e7 e8
  subst e3; subst e5; subst e6; subst e7; subst e8; subst e2
  exact ⟨cs, none, 0, rfl, ⟨(h.keep h5 hB).more (Nat.le_trans hB h5.size), ops_none _ _ _ _⟩, h5⟩
end Go.Proofs.YtegkhkcnoahhdaaGreat
