/-
  Batches in memory: slices of batches that came in, and rows of batches of one's own.
  There are no conditions beyond those that each lemma names.
-/
import Derived.Test.YtegkhkcnoahhdaaL5Open
import Derived.Test.YtegkhkcnoahhdaaL6Ops
import Derived.Test.YtegkhkcnoahhdaaFBase
import Derived.Test.YtegkhkcnoahhdaaFNext
import Derived.ArgAppend
import Derived.Test.YtegkhkcnoahhdaaL7Begun
import Derived.Test.YtegkhkcnoahhdaaLawKit
import Derived.Great.Walk
import Derived.Great.BuildSlice
set_option linter.unusedSimpArgs false
set_option linter.unusedVariables false
namespace Go.Proofs.Ytegkhkcnoahhdaa
open Go.RowKit Go.WideShapes Go.ChangeShapes Go.Joins Go.Deep
set_option maxRecDepth 100000

/-- a slice value of batches; its cells lie below block B -/
def Bats (w : World) (B : Nat) (v : Value) (L : List Bat) : Prop :=
  ∃ A c, v = .slice A L.length c ∧ L.length ≤ c ∧ (0 < L.length → ∃ g o, A = some ⟨g, o, Option.none⟩ ∧ g < B ∧ ∀ k (h : k < L.length), ∃ u, w.rangeAt g (o + k * 3) [.int .i64 L[k].client, .int .i64 L[k].seq, u] ∧ Ops w B u L[k].ops)
section
variable {H : Type} {enc : TypeId × Value → H} {W : World} {b0 : Nat} {r : Reach} {v : Value} {d : DataW H} {p : List MemPlace}
theorem bat_cells {fuel : Nat} {cs : List Value} {x : DataW H × List MemPlace} (h : DataW.trod enc Try.prog W 0 (fun _ => true) true fuel 29 cs = some x) : ∃ (b : Bat) (u : Value), cs = [.int .i64 b.client, .int .i64 b.seq, u] ∧ Ops W W.heap.size u b.ops ∧ b.fit := by
  obtain ⟨y0, y1, y2, n, _, hl, h0, h1, h2⟩ := trod_struct3 Try.underlying29 h
  rw [Try.cellsBatch] at hl
  match cs, hl with
  | [c0, c1, c2], _ =>
    simp only [Try.cellsInt, Try.cellsInt64, Try.cellsOps, List.drop_zero, List.drop_succ_cons, List.take_succ_cons, List.take_zero] at h0 h1 h2
    obtain ⟨a, e0, _, wa⟩ := DataW.trod_int Try.underlying3 h0
    obtain ⟨b, e1, _, wb⟩ := DataW.trod_int Try.underlying2 h1
    simp only [List.cons.injEq, and_true] at e0 e1
    subst e0; subst e1
    obtain ⟨n', C, ho⟩ := ops_cells h2
    obtain ⟨l, _, h3, h4⟩ := ops_of ho
    exact ⟨⟨a, b, l⟩, c2, rfl, h3, i64_wf wa, i64_wf wb, h4⟩
end
theorem Bats.keep {w w' : World} {B C : Nat} {v : Value} {L : List Bat} (h : Bats w B v L) (hb : Below C w w') (hC : B ≤ C) : Bats w' B v L := by
  obtain ⟨A, c, hv, hc, h⟩ := h
  refine ⟨A, c, hv, hc, fun hn => ?_⟩
  obtain ⟨g, o, hA, hg, hcs⟩ := h hn
  refine ⟨g, o, hA, hg, fun k hk => ?_⟩
  obtain ⟨u, h1, h2⟩ := hcs k hk
  exact ⟨u, fun j z hj => (hb.cell (p := ⟨g, o + k * 3 + j, Option.none⟩) (Nat.lt_of_lt_of_le hg hC)).trans (h1 j z hj), h2.keep hb hC⟩
theorem Bats.at_ {w : World} {B n c : Nat} {A : Option Addr} {L : List Bat} (h : Bats w B (.slice A n c) L) (k : Nat) (hk : k < L.length) :
    ∃ g o Ak ck, A = some ⟨g, o, Option.none⟩ ∧ g < B ∧ w.rangeAt g (o + k * 3) [.int .i64 L[k].client, .int .i64 L[k].seq, .slice Ak L[k].ops.length ck] ∧ Ops w B (.slice Ak L[k].ops.length ck) L[k].ops := by
  obtain ⟨A', c', hv, _, h⟩ := h
  injection hv with e1 e2 e3
  subst e1
  obtain ⟨g, o, rfl, hg, hcs⟩ := h (by omega)
  obtain ⟨u, h1, h2⟩ := hcs k hk
  obtain ⟨Ak, ck, rfl, r⟩ := id h2
  exact ⟨g, o, Ak, ck, rfl, hg, h1, h2⟩
def bcs (p : Bat × Value) : List Value := [.int .i64 p.1.client, .int .i64 p.1.seq, p.2]
/-- a row of batches of one's own, whose operations are rows of one's own, too -/
def OwnBt (B : Nat) (v : Value) (l : List Bat) (w : World) : Prop :=
  ∃ ps : List (Bat × Value), ps.map (·.1) = l ∧ w.ownsRow B 29 3 v l.length (ps.flatMap bcs) ∧ ∀ p ∈ ps, OwnO 0 p.2 p.1.ops w
theorem OwnBt.nil (B : Nat) (w : World) : OwnBt B (.slice none 0 0) [] w := ⟨[], rfl, World.ownsRow_nil _ _ _ _, fun p hp => by cases hp⟩
theorem OwnBt.below {B : Nat} {v : Value} {l : List Bat} {w w' : World} (h : OwnBt B v l w) (hb : Below w.heap.size w w') : OwnBt B v l w' := by
  obtain ⟨ps, e, h1, h2⟩ := h
  exact ⟨ps, e, ownsRow_below h1 hb, fun p hp => (h2 p hp).below hb⟩
theorem OwnBt.down {B C : Nat} {v : Value} {l : List Bat} {w : World} (h : OwnBt B v l w) (hC : C ≤ B) : OwnBt C v l w := by
  obtain ⟨ps, e, h1, h2⟩ := h
  exact ⟨ps, e, ownsRow_down h1 hC, h2⟩
theorem bt_ne_fold : (29 : TypeId) ≠ 64 := by decide
theorem op_ne_fold : (38 : TypeId) ≠ 64 := by decide
theorem OwnBt.turn {B C g : Nat} {v : Value} {l : List Bat} {w w' : World} {f : Fo} (h : OwnBt B v l w) (hd : Fd w C g f) (hb : w.grownBy w' (some g)) : OwnBt B v l w' := by
  obtain ⟨ps, e, h1, h2⟩ := h
  exact ⟨ps, e, own_turn h1 hd hb bt_ne_fold, fun p hp => own_turn (h2 p hp) hd hb op_ne_fold⟩
theorem bflat_at : ∀ (l : List (Bat × Value)) (k : Nat) (h : k < l.length) (j : Nat) (v : Value), (bcs l[k])[j]? = some v → (l.flatMap bcs)[k * 3 + j]? = some v
  | x :: t, 0, _, j, v, hv => by
    have hj : j < (bcs x).length := (List.getElem?_eq_some_iff.1 hv).1
    rw [List.flatMap_cons, Nat.zero_mul, Nat.zero_add, List.getElem?_append_left hj]; exact hv
  | x :: t, k + 1, h, j, v, hv => by
    have h3 : (bcs x).length = 3 := rfl
    rw [List.flatMap_cons, List.getElem?_append_right (by omega), h3, show (k + 1) * 3 + j - 3 = k * 3 + j by omega]
    exact bflat_at t k (by simpa using h) j v hv
theorem OwnBt.at_ {B n c : Nat} {A : Option Addr} {l : List Bat} {w : World} (h : OwnBt B (.slice A n c) l w) (k : Nat) (hk : k < l.length) :
    ∃ g Ak ck, A = some ⟨g, 0, Option.none⟩ ∧ g < w.heap.size ∧ w.rangeAt g (k * 3) [.int .i64 l[k].client, .int .i64 l[k].seq, .slice Ak l[k].ops.length ck] ∧ OwnO 0 (.slice Ak l[k].ops.length ck) l[k].ops w := by
  obtain ⟨ps, rfl, h1, h2⟩ := h
  have hkp : k < ps.length := by simpa using hk
  have e : (ps.map (·.1))[k] = ps[k].1 := by simp
  have ho := h2 ps[k] (List.getElem_mem hkp)
  obtain ⟨Ak, ck, hv⟩ := own_slice ho
  have hc := fun (g : Nat) (hg : (Value.slice A n c).ownBlock = some g) => World.ownsRow.cells h1 hg
  have hlt := World.ownsRow.lt h1
  rcases h1.2 with ⟨_, h0⟩ | ⟨g, c', cur, hv2, _⟩
  · omega
  · injection hv2 with e1 _ _
    subst e1
    refine ⟨g, Ak, ck, rfl, (hlt g rfl).2, fun j z hj => ?_, by rw [e, ← hv]; exact ho⟩
    rw [e, ← hv] at hj
    have h3 := hc g rfl (k * 3 + j) z (bflat_at ps k hkp j z hj)
    rw [Addr.add_mid] at h3
    rw [← h3]; congr 2; omega
theorem OwnBt.slice {B : Nat} {v : Value} {l : List Bat} {w : World} (h : OwnBt B v l w) : ∃ A c, v = .slice A l.length c := by
  obtain ⟨ps, e, h1, _⟩ := h
  exact own_slice h1
theorem Try.infoBat3 : (Try.prog.info? 29).map (fun i => (i.zero, i.size, i.bytes)) = some (some (.agg #[.int .i64 0, .int .i64 0, .slice none 0 0]), 3, 40) := by kernel_rfl
theorem bcs_len (l : List (Bat × Value)) : (l.flatMap bcs).length = l.length * 3 := by
  induction l with
  | nil => rfl
  | cons x t ih =>
    have h3 : (bcs x).length = 3 := rfl
    rw [List.flatMap_cons, List.length_append, ih, h3, List.length_cons]; omega
theorem own_grown {B C e e2 s s2 n n2 : Nat} {v v2 : Value} {xs ys : List Value} {w w' : World} (h : w.ownsRow B e s v n xs) (h2 : w.ownsRow C e2 s2 v2 n2 ys) (hb : w.grownBy w' v2.ownBlock) (hne : e ≠ e2) : w'.ownsRow B e s v n xs := by
  refine ⟨h.1, ?_⟩
  rcases h.2 with h0 | ⟨g, c, cur, hv, hB, hg, r⟩
  · exact .inl h0
  · refine .inr ⟨g, c, cur, hv, hB, (hb.block g (Array.getElem?_eq_some_iff.1 hg).1 (fun ee => ?_)).trans hg, r⟩
    rcases h2.2 with ⟨hv2, _⟩ | ⟨g2, c2, cur2, hv2, _, hg2, _⟩
    · rw [hv2] at ee; cases ee
    · rw [hv2] at ee
      have e3 : g2 = g := (Option.some.inj (show some g = some g2 from ee)).symm
      subst e3
      rw [hg] at hg2
      injection hg2 with hg2
      injection hg2 with _ h4 _
      exact hne h4
end Go.Proofs.Ytegkhkcnoahhdaa
/-
  The reference's folds in memory: that they stand where other blocks turn, and rows of rows of one's own that hold no text.
  There are no conditions beyond those that each lemma names.
-/
namespace Go.Proofs.Ytegkhkcnoahhdaa
open Go.RowKit
set_option maxRecDepth 100000

theorem prs_far {w w' : World} {B g : Nat} {t : TypeId} {cs : List Value} {v : Value} {l : List Par} (h : Prs w B v l) (hr : Rb w g t cs) (hn : NoStr cs) (hb : w.grownBy w' (some g)) : Prs w' B v l := by
  obtain ⟨A, c, hv, hc, hcell⟩ := h
  refine ⟨A, c, hv, hc, fun h0 => ?_⟩
  obtain ⟨g', o, hA, hg, hcs⟩ := hcell h0
  have hne : g' ≠ g := fun e => by
    subst e
    have h1 := hcs 0 h0 0 (.string l[0].k) rfl
    rw [cell_of_row w g' _ cs.toArray t (0, 0) hr] at h1
    exact hn _ _ (by simpa using h1)
  refine ⟨g', o, hA, hg, fun k hk i z hz => ?_⟩
  exact (World.cell?_of_block (hb.block g' (cell_in6 (hcs k hk i z hz)) (fun e => hne (by injection e)))).trans (hcs k hk i z hz)
theorem ops_far {w w' : World} {B g : Nat} {t : TypeId} {cs : List Value} {v : Value} {l : List Opn} (h : Ops w B v l) (hr : Rb w g t cs) (hn : NoStr cs) (hb : w.grownBy w' (some g)) : Ops w' B v l := by
  obtain ⟨A, c, hv, hc, hcell⟩ := h
  refine ⟨A, c, hv, hc, fun h0 => ?_⟩
  obtain ⟨g', o, hA, hg, hcs⟩ := hcell h0
  have hne : g' ≠ g := fun e => by
    subst e
    have h1 := hcs 0 h0 1 (.string l[0].key) rfl
    rw [cell_of_row w g' _ cs.toArray t (0, 0) hr] at h1
    exact hn _ _ (by simpa using h1)
  refine ⟨g', o, hA, hg, fun k hk i z hz => ?_⟩
  exact (World.cell?_of_block (hb.block g' (cell_in6 (hcs k hk i z hz)) (fun e => hne (by injection e)))).trans (hcs k hk i z hz)
theorem FoC.map {w w' : World} {B C : Nat} {cs : List Value} {f : Fo} (h : FoC w B cs f) (hp : ∀ v l, Prs w B v l → Prs w' C v l) (ho : ∀ v l, Ops w B v l → Ops w' C v l) : FoC w' C cs f := by
  obtain ⟨h1, h2, ⟨ds, h3, h4⟩, h5, h6, h7, h8⟩ := h
  refine ⟨h1, h2, ⟨ds, h3, hp _ _ h4⟩, h5, fun c hc => ?_, h7, h8⟩
  obtain ⟨s, a, b, c, d, e, k⟩ := h6 c hc
  exact ⟨s, a, b, c, d, e, ho _ _ k⟩
theorem FoC.keep {w w' : World} {B C : Nat} {cs : List Value} {f : Fo} (h : FoC w B cs f) (hb : Below C w w') (hC : B ≤ C) : FoC w' B cs f := h.map (fun _ _ h => h.keep hb hC) (fun _ _ h => h.keep hb hC)
theorem FoC.more {w : World} {B C : Nat} {cs : List Value} {f : Fo} (h : FoC w B cs f) (hC : B ≤ C) : FoC w C cs f := h.map (fun _ _ h => h.more hC) (fun _ _ h => h.more hC)
theorem FoC.below {w w' : World} {cs : List Value} {f : Fo} (h : FoC w w.heap.size cs f) (hb : Below w.heap.size w w') : FoC w' w'.heap.size cs f := (h.keep hb (Nat.le_refl _)).more hb.size
theorem FoC.turn {w w' : World} {C g : Nat} {cs : List Value} {f f2 : Fo} (h : FoC w w.heap.size cs f) (hd : Fd w C g f2) (hb : w.grownBy w' (some g)) : FoC w' w'.heap.size cs f :=
  (h.map (fun _ _ h => prs_turn h hd hb) (fun _ _ h => ops_turn h hd hb)).more hb.size
theorem FoC.far {w w' : World} {g : Nat} {t : TypeId} {cs ds : List Value} {f : Fo} (h : FoC w w.heap.size cs f) (hr : Rb w g t ds) (hn : NoStr ds) (hb : w.grownBy w' (some g)) : FoC w' w'.heap.size cs f :=
  (h.map (fun _ _ h => prs_far h hr hn hb) (fun _ _ h => ops_far h hr hn hb)).more hb.size
theorem FoldV.below {w w' : World} {v : Value} {f : Fo} (h : FoldV w w.heap.size v f) (hb : Below w.heap.size w w') : FoldV w' w'.heap.size v f := by
  obtain ⟨cs, hv, h⟩ := h; exact ⟨cs, hv, h.below hb⟩
theorem FoldV.turn {w w' : World} {C g : Nat} {v : Value} {f f2 : Fo} (h : FoldV w w.heap.size v f) (hd : Fd w C g f2) (hb : w.grownBy w' (some g)) : FoldV w' w'.heap.size v f := by
  obtain ⟨cs, hv, h⟩ := h; exact ⟨cs, hv, h.turn hd hb⟩
/-- rows of one's own; no text lies in their block -/
def OwnN (B : Nat) (v : Value) (n : Nat) (w : World) : Prop := ∃ xs, w.ownsRow B 32 5 v n xs ∧ ∀ g, v.ownBlock = some g → ∃ cs t, Rb w g t cs ∧ NoStr cs
theorem OwnN.nil (B : Nat) (w : World) : OwnN B (.slice none 0 0) 0 w := ⟨[], World.ownsRow_nil _ _ _ _, fun g hg => by cases hg⟩
theorem OwnN.below {B n : Nat} {v : Value} {w w' : World} (h : OwnN B v n w) (hb : Below w.heap.size w w') : OwnN B v n w' := by
  obtain ⟨xs, h1, h2⟩ := h
  refine ⟨xs, ownsRow_below h1 hb, fun g hg => ?_⟩
  obtain ⟨cs, t, h3, h4⟩ := h2 g hg
  exact ⟨cs, t, h3.below hb, h4⟩
theorem OwnN.set {B n g : Nat} {v : Value} {w : World} {t : TypeId} {ds vs : List Value} {o : Nat} (h : OwnN B v n w) (hr : Rb w g t ds) (ht : t ≠ 32) : OwnN B v n (w.setCells g o vs) := by
  obtain ⟨xs, h1, h2⟩ := h
  refine ⟨xs, rb_owns ht vs o w ds h1 hr, fun G hG => ?_⟩
  obtain ⟨cs, t', h3, h4⟩ := h2 G hG
  refine ⟨cs, t', Rb.others (fun e => ?_) vs o w h3, h4⟩
  subst e
  rcases h1.2 with ⟨hv, _⟩ | ⟨g2, c2, cur2, hv, _, hg2, _⟩
  · rw [hv] at hG; cases hG
  · rw [hv] at hG
    have e3 : g2 = G := Option.some.inj (show some g2 = some G from hG)
    subst e3
    unfold Rb at hr
    rw [hg2] at hr
    injection hr with hr
    injection hr with _ h6 _
    exact ht h6.symm
theorem FoC.own {w w' : World} {B n : Nat} {v : Value} {cs : List Value} {f : Fo} (h : FoC w w.heap.size cs f) (ho : OwnN B v n w) (hb : w.grownBy w' v.ownBlock) : FoC w' w'.heap.size cs f := by
  obtain ⟨xs, h1, h2⟩ := ho
  cases hv : v.ownBlock with
  | none =>
    rw [hv] at hb
    have hbb : Below w.heap.size w w' := ⟨hb.os, hb.tape, hb.output, hb.size, fun k hk => hb.block k hk (fun e => by cases e)⟩
    exact h.below hbb
  | some g =>
    obtain ⟨ds, t, h3, h4⟩ := h2 g hv
    rw [hv] at hb
    exact h.far h3 h4 hb
theorem Try.infoARow : (Try.prog.info? 32).map (fun i => (i.zero, i.size, i.bytes)) = some (some (.agg #[.int .i64 0, .int .i64 0, .int .i64 0, .slice none 0 0, .int .i64 0]), 5, 56) := by kernel_rfl
theorem zero_nostr (n : Nat) : NoStr (Builtin.zeroCells #[.int .i64 0, .int .i64 0, .int .i64 0, .slice none 0 0, .int .i64 0] n).toList := fun j s e => by
  unfold Builtin.zeroCells at e
  rw [Array.getElem?_toList, Array.getElem?_map] at e
  obtain ⟨i, _, hi⟩ := Option.map_eq_some_iff.1 e
  have h5 : i % 5 < 5 := Nat.mod_lt _ (by decide)
  have h6 : i % (#[Value.int .i64 0, .int .i64 0, .int .i64 0, .slice none 0 0, .int .i64 0] : Array Value).size = i % 5 := rfl
  rw [h6] at hi
  generalize i % 5 = k at hi h5
  obtain rfl | rfl | rfl | rfl | rfl : k = 0 ∨ k = 1 ∨ k = 2 ∨ k = 3 ∨ k = 4 := by omega
  all_goals cases hi
theorem NoStr.append {a b : List Value} (ha : NoStr a) (hb : NoStr b) : NoStr (a ++ b) := fun j s e => by
  rw [List.getElem?_append] at e
  split at e
  · exact ha _ _ e
  · exact hb _ _ e
/-- the cells of no fold -/
def z38 : List Value := [.int .i64 0, .slice none 0 0, .int .i64 0, .int .i64 0, .int .i64 0, .int .i64 0, .int .i64 0, .int .i64 0, .int .i64 0, .int .i64 0, .int .i64 0, .slice none 0 0, .int .i64 0, .int .i64 0, .int .i64 0, .int .i64 0, .slice none 0 0, .int .i64 0, .int .i64 0, .int .i64 0, .int .i64 0, .slice none 0 0, .int .i64 0, .int .i64 0, .int .i64 0, .int .i64 0, .slice none 0 0, .int .i64 0, .int .i64 0, .int .i64 0, .int .i64 0, .slice none 0 0, .int .i64 0, .int .i64 0, .int .i64 0, .int .i64 0, .slice none 0 0, .int .i64 0]
theorem z38_nos : NoStr z38 := noStr_of (by
  intro v hv s e
  subst e
  simp [z38] at hv)
theorem z38_one : ∀ v ∈ z38, v.oneCell' = true := List.all_eq_true.1 (show z38.all (·.oneCell') = true from by kernel_rfl)
theorem foC_zero (w : World) (B : Nat) : FoC w B z38 fo0 where
  len := rfl
  place := rfl
  doc := ⟨.slice none 0 0, rfl, ⟨none, 0, rfl, Nat.le_refl _, fun h => absurd h (by decide)⟩⟩
  last := fun c hc => by
    obtain rfl | rfl | rfl | rfl | rfl | rfl : c = 0 ∨ c = 1 ∨ c = 2 ∨ c = 3 ∨ c = 4 ∨ c = 5 := by omega
    all_goals rfl
  told := fun c hc => by
    refine ⟨.slice none 0 0, ?_, ?_, ?_, ?_, ?_, ⟨none, 0, rfl, Nat.le_refl _, fun h => absurd h (by show ¬ (0 < ([] : List Opn).length); decide)⟩⟩
    all_goals
      obtain rfl | rfl | rfl | rfl | rfl | rfl : c = 0 ∨ c = 1 ∨ c = 2 ∨ c = 3 ∨ c = 4 ∨ c = 5 := by omega
      all_goals rfl
  one := z38_one
  nos := z38_nos
end Go.Proofs.Ytegkhkcnoahhdaa
/-
  What the walks of stage 7's laws ask for beside the contracts: blocks that are laid and stored into, the reference's Next with what it answers named, ways that meet.
  There are no conditions beyond those that each lemma names.
-/
namespace Go.Proofs.Ytegkhkcnoahhdaa
open Go.RowKit
set_option maxRecDepth 100000

def MeetX (R : Act → World → Prop) : Exit → Act → World → Prop
  | .normal, a, W => R a W
  | _, _, _ => False
theorem wp_meetx {P : Program} {c : Code} {Q : Exit → Act → World → Prop} {a : Act} {w : World} (R : Act → Act → World → Prop) (h1 : c.wp P (MeetX (R a)) a w) (h2 : ∀ b W, R a b W → Q .normal b W) : c.wp P Q a w :=
  Code.wp_mono (fun e b W h => by
    cases e with
    | normal => exact h2 b W h
    | _ => exact h.elim) h1
theorem wpc_meetx {P : Program} {c : Code} {Q : Exit → Act → World → Prop} {a : Act} {w : World} (R : Act → World → Prop) (h1 : c.wp P (MeetX R) a w) (h2 : ∀ b W, R b W → Q .normal b W) : c.wp P Q a w :=
  Code.wp_mono (fun e b W h => by
    cases e with
    | normal => exact h2 b W h
    | _ => exact h.elim) h1
theorem body_worldx {F : Exit → Act → World → Prop} {e : Exit} {a : Act} {w : World} (R : World → Prop) (h : R w) (k : ∀ W, R W → F e a W) : F e a w := k w h
/-- a block that is laid -/
theorem wp_alloc7 {P : Program} {o : Oper} {a : Act} {w : World} {K : Act → World → Prop} {Q : Exit → Act → World → Prop} (t : TypeId) (cs : List Value)
    (hrun : (execOp a.eval o).run P w = .ok (.value (.pointer (some ⟨w.heap.size, 0, none⟩))) (w.alloc (.cells cs.toArray t))) (h : K (a.put o.dst (.pointer (some ⟨w.heap.size, 0, none⟩))) (w.alloc (.cells cs.toArray t))) : o.wp P a w K Q := by
  unfold Oper.wp
  rw [hrun, Oper.upon_value]
  exact h
def z5 : List Value := [.int .i64 0, .int .i64 0, .int .i64 0, .slice none 0 0, .int .i64 0]
def r5 (p c q : Int) (s : Value) (e : Int) : List Value := [.int .i64 p, .int .i64 c, .int .i64 q, s, .int .i64 e]
theorem z5_len : z5.length = 5 := rfl
theorem z38_len : z38.length = 38 := rfl
theorem z5_one : ∀ v ∈ z5, v.oneCell' = true := List.all_eq_true.1 (show z5.all (·.oneCell') = true from by kernel_rfl)
theorem z5_nos : NoStr z5 := noStr_of (by
  intro v hv s e
  subst e
  simp [z5] at hv)
theorem r5_nos (p c q e : Int) (A : Option Addr) (n k : Nat) : NoStr [.int .i64 p, .int .i64 c, .int .i64 q, .slice A n k, .int .i64 e] := noStr_of (by
  intro v hv s e
  subst e
  simp at hv)
theorem r5_one (p c q e : Int) (A : Option Addr) (n k : Nat) : ∀ v ∈ [Value.int .i64 p, .int .i64 c, .int .i64 q, .slice A n k, .int .i64 e], v.oneCell' = true := by
  intro v hv
  simp at hv
  rcases hv with rfl | rfl | rfl | rfl | rfl <;> rfl
theorem sets_size (g : Nat) (vs : List Value) (o : Nat) (w : World) : (w.setCells g o vs).heap.size = w.heap.size := by
  induction vs generalizing o w with
  | nil => rfl
  | cons v r ih => show ((w.setCell ⟨g, o, none⟩ v).setCells g (o + 1) r).heap.size = _; rw [ih]; simp [World.setCell]
theorem OwnBt.set {B G o : Nat} {v : Value} {l : List Bat} {w : World} {t : TypeId} {ds vs : List Value} (h : OwnBt B v l w) (hr : Rb w G t ds) (h1 : t ≠ 29) (h2 : t ≠ 38) : OwnBt B v l (w.setCells G o vs) := by
  obtain ⟨ps, e, h3, h4⟩ := h
  exact ⟨ps, e, rb_owns h1 vs o w ds h3 hr, fun p hp => rb_owns h2 vs o w ds (h4 p hp) hr⟩
theorem ops_set {w : World} {G o : Nat} {t : TypeId} {ds vs : List Value} {v : Value} {l : List Opn} (h : Ops w w.heap.size v l) (hr : Rb w G t ds) (hn : NoStr ds) : Ops (w.setCells G o vs) (w.setCells G o vs).heap.size v l := by
  rw [sets_size]; exact ops_norow hn vs o h hr
theorem FoC.set {w : World} {G o : Nat} {t : TypeId} {cs ds vs : List Value} {f : Fo} (h : FoC w w.heap.size cs f) (hr : Rb w G t ds) (hn : NoStr ds) : FoC (w.setCells G o vs) (w.setCells G o vs).heap.size cs f := h.far hr hn (grown_setCells _ _ _ _)
theorem rng_set {w : World} {G o g p : Nat} {cs vs : List Value} (h : w.rangeAt g p cs) (hne : g ≠ G) : (w.setCells G o vs).rangeAt g p cs := World.rangeAt_setCells_apart h G o vs (.inl hne)
theorem rng_turn {w w' : World} {g o G : Nat} {cs : List Value} (h : w.rangeAt g o cs) (hb : w.grownBy w' (some G)) (hne : g ≠ G) (hl : g < w.heap.size) : w'.rangeAt g o cs := fun j v hj => (World.cell?_of_block (hb.block g hl (fun e => hne (by injection e)))).trans (h j v hj)
theorem OwnN.far {B n G : Nat} {v : Value} {w w' : World} (h : OwnN B v n w) (hb : w.grownBy w' (some G)) (hne : v.ownBlock ≠ some G) : OwnN B v n w' := by
  obtain ⟨xs, h1, h2⟩ := h
  refine ⟨xs, World.ownsRow.kept h1 hb (.inr hne), fun g hg => ?_⟩
  obtain ⟨cs, t, h3, h4⟩ := h2 g hg
  exact ⟨cs, t, (hb.block g h3.lt (fun e => hne (hg.trans e))).trans h3, h4⟩
theorem wpList_load_midG {P : Program} {ops : Array Oper} {rest : List Oper} {op : Oper} {a : Act} {w : World} {Q : Exit → Act → World → Prop} (hw : Region.wanted op (yielded ops a.tmps) = true) (ty : TypeId) (x : Operand) (ho : op.op = .load ty x)
    (b o : Nat) (hx : a.eval x = .pointer (some ⟨b, o, none⟩)) (cs : List Value) (d : TypeDesc) (hc : w.rangeAt b o cs)
    (hu : P.underlying ty = some d) (hd : d.isRow = true) (hi : (P.info? ty).map (·.size) = some cs.length)
    (h : wpList P ops Q rest (a.put op.dst (.agg cs.toArray)) w) : wpList P ops Q (op :: rest) a w :=
  wpList_step fun K hK => by rw [if_pos hw]; exact wp_load_mid ty x ho b o hx cs d hc hu hd hi (hK _ _ h)
theorem OwnBt.ne_rb {B n c g G : Nat} {l : List Bat} {w : World} {t : TypeId} {ds : List Value} (h : OwnBt B (.slice (some ⟨g, 0, none⟩) n c) l w) (hr : Rb w G t ds) (ht : t ≠ 29) : g ≠ G := fun e => by
  subst e
  obtain ⟨ps, _, h1, _⟩ := h
  rcases h1.2 with ⟨hv, _⟩ | ⟨g2, c2, cur2, hv, _, hg2, _⟩
  · cases hv
  · have e3 : g2 = g := Option.some.inj (show some g2 = some g from by have := congrArg Value.ownBlock hv; exact this.symm)
    subst e3
    unfold Rb at hr
    rw [hg2] at hr
    injection hr with hr
    injection hr with _ h6 _
    exact ht h6.symm
theorem OwnBt.ne_fold {B C n c g G : Nat} {l : List Bat} {w : World} {f : Fo} (h : OwnBt B (.slice (some ⟨g, 0, none⟩) n c) l w) (hd : Fd w C G f) : g ≠ G := by
  obtain ⟨_, _, dv, hr, _⟩ := hd
  exact h.ne_rb hr (by decide)
theorem rowF_few (f : Fo) (b : Bat) : (rowF f b).b.ops.length ≤ b.ops.length := by
  unfold rowF
  split
  · exact Nat.le_refl _
  · exact Nat.zero_le _
theorem stepF_good {f : Fo} {b : Bat} (h : FoG f) (hb : b.ok) (hp : f.place ≤ 1000000000000000) : FoG (stepF f b) := by
  unfold stepF
  split
  · rename_i hn; exact h.next hb hn hp
  · exact h
theorem stepF_place (f : Fo) (b : Bat) : (stepF f b).place ≤ f.place + 1 := by
  unfold stepF
  split
  · exact Int.le_refl _
  · omega
theorem wpList_alloc7 {P : Program} {ops : Array Oper} {rest : List Oper} {o : Oper} {a : Act} {w : World} {Q : Exit → Act → World → Prop} (hg : o.guard = none) (t : TypeId) (ho : o.op = .alloc t) (cs : List Value)
    (hrun : (execOp a.eval o).run P w = .ok (.value (.pointer (some ⟨w.heap.size, 0, none⟩))) (w.alloc (.cells cs.toArray t)))
    (h : wpList P ops Q rest (a.put o.dst (.pointer (some ⟨w.heap.size, 0, none⟩))) (w.alloc (.cells cs.toArray t))) : wpList P ops Q (o :: rest) a w :=
  wpList_plain hg fun _ hK => wp_alloc7 t cs hrun (hK _ _ h)
theorem FoG.fok9 {f : Fo} (h : FoG f) (hp : f.place ≤ 1000000000000000) : f.ok := h.fok hp
end Go.Proofs.Ytegkhkcnoahhdaa
