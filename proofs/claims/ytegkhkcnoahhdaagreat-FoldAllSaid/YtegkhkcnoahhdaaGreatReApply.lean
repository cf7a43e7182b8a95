/- The reference's Apply does a group of operations on a document as the plain function says, or leaves it, with the first error. -/
import Derived.Test.YtegkhkcnoahhdaaGreatOpPlain
set_option linter.unusedSimpArgs false
set_option linter.unusedVariables false
namespace Go.Proofs.YtegkhkcnoahhdaaGreat
open Lib (hid)
open Go.RowKit
set_option maxRecDepth 100000
def apV (g : Raw) (o : Opn) : Raw := if o.kind = 4 then ⟨1, g.n + o.n, ⟨#[]⟩⟩ else o.val
def apGo (d0 : List Par) : List Par → List Opn → List Par × Nat
 | x, [] => (x, 0)
 | x, o :: t =>
  if mayO o = false then (d0, 1)
  else if o.kind = 3 ∧ eqR (dGet x o.key).1 o.old = false then (d0, 8)
  else if o.kind = 4 ∧ (dGet x o.key).2 = true ∧ (dGet x o.key).1.kind ≠ 1 then (d0, 7)
  else if o.kind = 4 ∧ (farB (dGet x o.key).1.n = true ∨ farB ((dGet x o.key).1.n + o.n) = true) then (d0, 4)
  else if (apV (dGet x o.key).1 o).kind ≠ 0 ∧ (dGet x o.key).2 = false ∧ 50 ≤ x.length then (d0, 6)
  else apGo d0 (dSet x o.key (apV (dGet x o.key).1 o)) t
def dApply (l : List Par) (os : List Opn) : List Par × Nat := if os.length < 1 ∨ 8 < os.length then (l, 1) else apGo l l os
def PrsF (w : World) (lo hi : Nat) (v : Value) (l : List Par) : Prop :=
 ∃ A c, v = .slice A l.length c ∧ l.length ≤ c ∧ (0 < l.length → ∃ g o, A = some ⟨g, o, Option.none⟩ ∧ g < w.heap.size ∧ (g < lo ∨ hi ≤ g) ∧ ∀ k (h : k < l.length), w.rangeAt g (o + k * 4) l[k].cs)
theorem PrsF.prs {w : World} {lo hi : Nat} {v : Value} {l : List Par} (h : PrsF w lo hi v l) : Prs w w.heap.size v l := by
 obtain ⟨A, c, hv, hc, h⟩ := h
 refine ⟨A, c, hv, hc, fun hn => ?_⟩
 obtain ⟨g, o, hA, hg, _, hcs⟩ := h hn
 exact ⟨g, o, hA, hg, hcs⟩
theorem PrsF.below {w w' : World} {lo hi : Nat} {v : Value} {l : List Par} (h : PrsF w lo hi v l) (hb : Below w.heap.size w w') : PrsF w' lo hi v l := by
 obtain ⟨A, c, hv, hc, h⟩ := h
 refine ⟨A, c, hv, hc, fun hn => ?_⟩
 obtain ⟨g, o, hA, hg, hlh, hcs⟩ := h hn
 exact ⟨g, o, hA, Nat.lt_of_lt_of_le hg hb.size, hlh, fun k hk => range_below (hcs k hk) hb hg⟩
theorem nblk_set (w : World) (p : Addr) (v : Value) : (w.setCell p v).heap.size = w.heap.size := by simp [World.setCell]
theorem PrsF.set {w : World} {lo hi : Nat} {v u : Value} {l : List Par} {p : Addr} (h : PrsF w lo hi v l) (h1 : lo ≤ p.block) (h2 : p.block < hi) : PrsF (w.setCell p u) lo hi v l := by
 obtain ⟨A, c, hv, hc, h⟩ := h
 refine ⟨A, c, hv, hc, fun hn => ?_⟩
 obtain ⟨g, o, hA, hg, hlh, hcs⟩ := h hn
 refine ⟨g, o, hA, by rw [nblk_set]; exact hg, hlh, fun k hk j v hv => ?_⟩
 exact (setCell_grown w p u).cell (hcs k hk j v hv) (fun e => by injection e with e; simp only at e; omega)
theorem flat4_at : ∀ (l : List Par) (k : Nat) (h : k < l.length) (j : Nat) (v : Value), l[k].cs[j]? = some v → (l.flatMap Par.cs)[k * 4 + j]? = some v
 | x :: t, 0, _, j, v, hv => by
  have hj : j < x.cs.length := (List.getElem?_eq_some_iff.1 hv).1
  rw [List.flatMap_cons, Nat.zero_mul, Nat.zero_add, List.getElem?_append_left hj]; exact hv
 | x :: t, k + 1, h, j, v, hv => by
  have h9 : x.cs.length = 4 := rfl
  rw [List.flatMap_cons, List.getElem?_append_right (by omega), h9, show (k + 1) * 4 + j - 4 = k * 4 + j by omega]
  exact flat4_at t k (by simpa using h) j v hv
theorem PrsF.of_own {w : World} {B lo hi : Nat} {v : Value} {l : List Par} (h : OwnP B v l w) (hB : hi ≤ B) : PrsF w lo hi v l := by
 unfold OwnP at h
 have hc := fun (g : Nat) (hg : v.ownBlock = some g) => World.ownsRow.cells h hg
 have hlt := World.ownsRow.lt h
 rcases h.2 with ⟨rfl, h0⟩ | ⟨g, c, cur, rfl, _, _, hnc, _⟩
 ·exact ⟨Option.none, 0, by rw [h0], by rw [h0]; exact Nat.le_refl _, fun h => absurd h (by omega)⟩
 ·refine ⟨_, c, rfl, hnc, fun _ => ⟨g, 0, rfl, (hlt g rfl).2, .inr (Nat.le_trans hB (hlt g rfl).1), fun k hk j v hv => ?_⟩⟩
  have h2 := hc g rfl (k * 4 + j) v (flat4_at l k hk j v hv)
  rw [Addr.add_mid] at h2
  rw [← h2]; congr 2; omega
theorem Prs.keep {w w' : World} {B C : Nat} {v : Value} {l : List Par} (h : Prs w B v l) (hb : Below C w w') (hC : B ≤ C) : Prs w' B v l := by
 obtain ⟨A, c, hv, hc, h⟩ := h
 refine ⟨A, c, hv, hc, fun hn => ?_⟩
 obtain ⟨g, o, hA, hg, hcs⟩ := h hn
 exact ⟨g, o, hA, hg, fun k hk => range_below (hcs k hk) hb (Nat.lt_of_lt_of_le hg hC)⟩
theorem Prs.more {w : World} {B C : Nat} {v : Value} {l : List Par} (h : Prs w B v l) (hC : B ≤ C) : Prs w C v l := by
 obtain ⟨A, c, hv, hc, h⟩ := h
 refine ⟨A, c, hv, hc, fun hn => ?_⟩
 obtain ⟨g, o, hA, hg, hcs⟩ := h hn
 exact ⟨g, o, hA, Nat.lt_of_lt_of_le hg hC, hcs⟩
theorem setGo_len (key : ByteArray) (x : Raw) : ∀ (l : List Par) (b : Bool), (setGo key x b l).length ≤ l.length + (if b then 0 else 1)
 | [], b => by cases b <;> simp [setGo]
 | p :: t, b => by
  have ih := setGo_len key x t
  simp only [setGo, List.length_append, List.length_cons]
  cases b <;> cases lesB p.k key <;> cases (p.k.data.toList == key.data.toList) <;> simp
  all_goals first | (have := ih true; simp at this; omega) | (have := ih false; simp at this; omega)
theorem dSet_len (l : List Par) (key : ByteArray) (x : Raw) : (dSet l key x).length ≤ l.length + 1 := by
 have := setGo_len key x l (x.kind == 0)
 unfold dSet
 split at this <;> omega
theorem setGo_mem (key : ByteArray) (x : Raw) : ∀ (l : List Par) (b : Bool) (p : Par), p ∈ setGo key x b l → p = ⟨key, x⟩ ∨ p ∈ l
 | [], b, p, h => by cases b <;> simp [setGo] at h; exact .inl h
 | q :: t, b, p, h => by
  simp only [setGo, List.mem_append] at h
  rcases h with (h | h) | h
  ·split at h <;> simp at h; exact .inl h
  ·split at h <;> simp at h; exact .inr (by simp [h])
  ·rcases setGo_mem key x t _ p h with h | h
   ·exact .inl h
   ·exact .inr (by simp [h])
theorem dSet_keys {l : List Par} {key : ByteArray} {x : Raw} (h : ∀ p ∈ l, p.k.size ≤ 1000000) (hk : key.size ≤ 1000000) : ∀ p ∈ dSet l key x, p.k.size ≤ 1000000 := by
 intro p hp
 rcases setGo_mem key x l _ p hp with rfl | hp
 ·exact hk
 ·exact h p hp
theorem rdocGet_is (v : Value) (l : List Par) (key : ByteArray) (gk gn : Int) (gs : ByteArray) (th : Bool) (w : World) (h : DocV w w.heap.size v l) (hl : l.length ≤ 1000000) (hg : dGet l key = (⟨gk, gn, gs⟩, th)) :
  Calls Tryz.prog 54 #[v, .string key] w fun e w' => e = .returned (.tuple #[.agg #[.int .i64 gk, .int .i64 gn, .string gs], .bool th]) ∧ Below w.heap.size w w' := by
 have := rdocGet_any w.heap.size v l key w h (Nat.le_refl _) hl
 rw [hg] at this; exact this
theorem rdocSet_is (v : Value) (l : List Par) (key : ByteArray) (xk xn : Int) (xs : ByteArray) (w : World) (h : DocV w w.heap.size v l) (hl : l.length ≤ 1000) (hks : key.size ≤ 1000000) (hps : ∀ p ∈ l, p.k.size ≤ 1000000) :
  Calls Tryz.prog 57 #[v, .string key, .agg #[.int .i64 xk, .int .i64 xn, .string xs]] w fun e w' => ∃ u, e = .returned (.agg #[u]) ∧ OwnP w.heap.size u (dSet l key ⟨xk, xn, xs⟩) w' ∧ Below w.heap.size w w' :=
 rdocSet_any w.heap.size v l key ⟨xk, xn, xs⟩ w h (Nat.le_refl _) hl hks hps
theorem vset (w : World) (g : Nat) (a b c a1 b1 c1 : Value) (h0 : w.cell? ⟨g, 0, Option.none⟩ = some a1) (h1 : w.cell? ⟨g, 1, Option.none⟩ = some b1) (h2 : w.cell? ⟨g, 2, Option.none⟩ = some c1) :
  (w.setCells g 0 [a, b, c]).cell? ⟨g, 0, Option.none⟩ = some a ∧ (w.setCells g 0 [a, b, c]).cell? ⟨g, 1, Option.none⟩ = some b ∧ (w.setCells g 0 [a, b, c]).cell? ⟨g, 2, Option.none⟩ = some c := by
 have hin := World.cell?_setCells_in g [a, b, c] 0 w (by
  intro j hj
  have h7 : j = 0 ∨ j = 1 ∨ j = 2 := by simp at hj; omega
  rcases h7 with rfl | rfl | rfl
  ·rw [h0]; rfl
  ·rw [h1]; rfl
  ·rw [h2]; rfl)
 exact ⟨hin 0 (by simp), hin 1 (by simp), hin 2 (by simp)⟩
def GotA (r : List Par × Nat) (w : World) (e : Ending) (w' : World) : Prop := ∃ u, e = .returned (.tuple #[.agg #[u], .int .i64 (r.2 : Nat)]) ∧ Prs w' w'.heap.size u r.1 ∧ Below w.heap.size w w'
set_option maxRecDepth 100000 in
set_option maxHeartbeats 4000000 in
theorem rapply_any (B : Nat) (v u : Value) (l : List Par) (os : List Opn) (w : World) (h : DocV w B v l) (ho : Ops w B u os) (hB : B ≤ w.heap.size) (hl : l.length ≤ 100) (hps : ∀ p ∈ l, p.k.size ≤ 1000000) (hok : ∀ o ∈ os, o.ok) :
  Calls Tryz.prog 29 #[v, u] w (GotA (dApply l os) w) := by
 obtain ⟨s, rfl, hpr⟩ := h
 obtain ⟨A, c, rfl, hc, hcell⟩ := id hpr
 obtain ⟨D, d, rfl, hd, hD⟩ := ho
 have HPR := hid hpr
 have HC := hid hcell; clear hcell hpr
 have HD := hid hD; clear hD
 by_cases hlen : os.length < 1 ∨ 8 < os.length
 ·have hf : dApply l os = (l, 1) := by unfold dApply; rw [if_pos hlen]
  obtain ⟨W0, hW0⟩ : ∃ W0, (w.alloc (Obj.cells #[Value.slice A l.length c] 29)).alloc (Obj.cells #[Value.slice none 0 0] 29) = W0 := ⟨_, rfl⟩
  have hb0 : Below w.heap.size w W0 := by rw [← hW0]; exact below_two w _ _
  have hs1 : w.heap.size + 1 = (w.alloc (Obj.cells #[Value.slice A l.length c] 29)).heap.size := by simp
  have d0 : W0.cell? ⟨w.heap.size, 0, none⟩ = some (.slice A l.length c) := by
   rw [← hW0, (below_new (w.alloc _) _).cell (p := ⟨w.heap.size, 0, none⟩) (by simp), World.cell?_alloc_mark]; rfl
  have r0 : W0.cell? ⟨w.heap.size + 1, 0, none⟩ = some (.slice none 0 0) := by rw [hs1, ← hW0, World.cell?_alloc_mark]; rfl
  have f0 : W0.frozen? ⟨w.heap.size + 1, 0, none⟩ = false := by rw [hs1, ← hW0]; exact World.frozen?_alloc_at _ _ _ 0 rfl
  clear hs1
  have HF := hid hf; clear hf
  rcases hlen with h1 | h1
  all_goals
   go_enter Tryz.func29, Tryz.ntmps29
   go_wp2
   refine bodyPost_ret (v := .tuple #[.agg #[.slice A l.length c], .int .i64 1]) ?_ rfl ⟨.slice A l.length c, by rw [HF.out]; rfl, ?_, ?_⟩
   ·simp [results, Tryz.results29, go_sem, r0]
   ·rw [HF.out]; exact (HPR.out.keep (hb0.setCell (p := ⟨w.heap.size + 1, 0, none⟩) (Nat.le_succ _) _) hB).more (by have := hb0.size; rw [nblk_set]; omega)
   ·exact hb0.setCell (p := ⟨w.heap.size + 1, 0, none⟩) (Nat.le_succ _) _
 ·have hne : dApply l os = apGo l l os := by unfold dApply; rw [if_neg hlen]
  have h1 : 1 ≤ os.length := by omega
  have h2 : os.length ≤ 8 := by omega
  have HNE := hid hne; clear hne hlen
  obtain ⟨W0, hW0⟩ : ∃ W0, ((w.alloc (Obj.cells #[Value.slice A l.length c] 29)).alloc (Obj.cells #[Value.slice none 0 0] 29)).alloc (Obj.cells #[Value.slice A l.length c] 29) = W0 := ⟨_, rfl⟩
  have hb0 : Below w.heap.size w W0 := by rw [← hW0]; exact (below_two w _ _).alloc (by simp; omega) _
  have hs1 : w.heap.size + 1 = (w.alloc (Obj.cells #[Value.slice A l.length c] 29)).heap.size := by simp
  have hs2 : w.heap.size + 1 + 1 = ((w.alloc (Obj.cells #[Value.slice A l.length c] 29)).alloc (Obj.cells #[Value.slice none 0 0] 29)).heap.size := by simp
  have k20 : w.heap.size + 1 + 1 < W0.heap.size := by rw [hs2, ← hW0]; simp
  have d0 : W0.cell? ⟨w.heap.size, 0, none⟩ = some (.slice A l.length c) := by
   rw [← hW0, (below_new ((w.alloc _).alloc _) _).cell (p := ⟨w.heap.size, 0, none⟩) (by simp; omega), (below_new (w.alloc _) _).cell (p := ⟨w.heap.size, 0, none⟩) (by simp), World.cell?_alloc_mark]; rfl
  have r0 : W0.cell? ⟨w.heap.size + 1, 0, none⟩ = some (.slice none 0 0) := by
   rw [← hW0, (below_new ((w.alloc _).alloc _) _).cell (p := ⟨w.heap.size + 1, 0, none⟩) (by simp), hs1, World.cell?_alloc_mark]; rfl
  have fr0 : W0.frozen? ⟨w.heap.size + 1, 0, none⟩ = false := by
   rw [← hW0, (below_new ((w.alloc _).alloc _) _).frozen (p := ⟨w.heap.size + 1, 0, none⟩) (by simp), hs1]; exact World.frozen?_alloc_at _ _ _ 0 rfl
  have x0 : W0.cell? ⟨w.heap.size + 1 + 1, 0, none⟩ = some (.slice A l.length c) := by rw [hs2, ← hW0, World.cell?_alloc_mark]; rfl
  have fx0 : W0.frozen? ⟨w.heap.size + 1 + 1, 0, none⟩ = false := by rw [hs2, ← hW0]; exact World.frozen?_alloc_at _ _ _ 0 rfl
  clear hs1 hs2
  go_enter Tryz.func29, Tryz.ntmps29
  go_wp2
  have HW0 := hid hW0; clear hW0
  go_loopw [7] (fun i wr => ∃ (k : Nat) (x : List Par) (E : Option Addr) (ec : Nat), i = .int .i64 k ∧ k ≤ os.length ∧ Below w.heap.size w wr ∧ w.heap.size + 1 + 1 < wr.heap.size ∧ wr.cell? ⟨w.heap.size, 0, none⟩ = some (.slice A l.length c) ∧ wr.cell? ⟨w.heap.size + 1, 0, none⟩ = some (.slice none 0 0) ∧ wr.frozen? ⟨w.heap.size + 1, 0, none⟩ = false ∧ wr.cell? ⟨w.heap.size + 1 + 1, 0, none⟩ = some (.slice E x.length ec) ∧ wr.frozen? ⟨w.heap.size + 1 + 1, 0, none⟩ = false ∧ PrsF wr w.heap.size (w.heap.size + 1 + 1 + 1) (.slice E x.length ec) x ∧ apGo l x (os.drop k) = dApply l os ∧ x.length ≤ 100 + k ∧ ∀ p ∈ x, p.k.size ≤ 1000000) (fun i _ => os.length - (intOf i).toNat)
  case atStart =>
   refine ⟨0, l, A, c, rfl, by omega, hb0, k20, d0, r0, fr0, x0, fx0, ⟨A, c, rfl, hc, fun hn => ?_⟩, HNE.out.symm, by omega, hps⟩
   obtain ⟨g, o, hA, hg, hcs⟩ := HC.out hn
   exact ⟨g, o, hA, by omega, .inl (by omega), fun k hk => range_below (hcs k hk) hb0 (by omega)⟩
  case round =>
   obtain ⟨k, x, E, ec, rfl, hk, hbw, k2, d1, r1, fr1, x1, fx1, hprx, hgo, hxl, hxk⟩ := hrel
   clear d0 r0 fr0 x0 fx0 k20 hb0
   have hk10 : x.length ≤ 1000000 := by omega
   have k0 : w.heap.size < wr.heap.size := by omega
   have k1 : w.heap.size + 1 < wr.heap.size := by omega
   have HGO := hid hgo; clear hgo HC
   have HXK := hid hxk; clear hxk
   have HPX := hid hprx
   by_cases hkl : k < os.length
   ·obtain ⟨g, o, rfl, hg, hcs⟩ := HD.out (by omega)
    obtain ⟨y, hy⟩ : ∃ y, os[k] = y := ⟨_, rfl⟩
    have hr := range_below (hcs k hkl) hbw (by omega)
    have hyok := hok os[k] (List.getElem_mem ..)
    have hstep : apGo l x (os.drop k) = apGo l x (y :: os.drop (k + 1)) := by rw [List.drop_eq_getElem_cons hkl, hy]
    rw [hy] at hr hyok
    simp only [apGo] at hstep
    obtain ⟨xk, xy, ⟨vk, vn, vs⟩, ⟨ok, on, os2⟩, xn⟩ := y
    simp only at hstep
    obtain ⟨gg, hgg⟩ : ∃ gg, dGet x xy = gg := ⟨_, rfl⟩
    obtain ⟨⟨gk, gn, gs⟩, th⟩ := gg
    rw [hgg] at hstep
    simp only at hstep
    obtain ⟨mo, hmo⟩ : ∃ mo, mayO ⟨xk, xy, ⟨vk, vn, vs⟩, ⟨ok, on, os2⟩, xn⟩ = mo := ⟨_, rfl⟩
    rw [hmo] at hstep
    have hsm : Opn.small ⟨xk, xy, ⟨vk, vn, vs⟩, ⟨ok, on, os2⟩, xn⟩ := ⟨hyok.2.1, hyok.2.2.1.2.2, hyok.2.2.2.1.2.2⟩
    have hks : xy.size ≤ 1000000 := hyok.2.1
    have HGG := hid hgg; have HMO := hid hmo; have HST := hid hstep
    clear hgg hmo hstep hcs hy HD
    obtain ⟨wb, hwb⟩ : ∃ wb, wr.alloc (Obj.cells #[.int .i64 xk, .string xy, .int .i64 vk, .int .i64 vn, .string vs, .int .i64 ok, .int .i64 on, .string os2, .int .i64 xn] 64) = wb := ⟨_, rfl⟩
    have hbb : Below wr.heap.size wr wb := by rw [← hwb]; exact below_one wr _
    have kob : wr.heap.size < wb.heap.size := by rw [← hwb]; simp
    have hcb : ∀ j v, (#[.int .i64 xk, .string xy, .int .i64 vk, .int .i64 vn, .string vs, .int .i64 ok, .int .i64 on, .string os2, .int .i64 xn] : Array Value)[j]? = some v → wb.cell? ⟨wr.heap.size, j, none⟩ = some v := fun j v h => by rw [← hwb, World.cell?_alloc_mark]; exact h
    have c0b : wb.cell? ⟨wr.heap.size, 0, none⟩ = some (.int .i64 xk) := hcb 0 _ rfl
    have c1b : wb.cell? ⟨wr.heap.size, 1, none⟩ = some (.string xy) := hcb 1 _ rfl
    have c2b : wb.cell? ⟨wr.heap.size, 2, none⟩ = some (.int .i64 vk) := hcb 2 _ rfl
    have c3b : wb.cell? ⟨wr.heap.size, 3, none⟩ = some (.int .i64 vn) := hcb 3 _ rfl
    have c4b : wb.cell? ⟨wr.heap.size, 4, none⟩ = some (.string vs) := hcb 4 _ rfl
    have c5b : wb.cell? ⟨wr.heap.size, 5, none⟩ = some (.int .i64 ok) := hcb 5 _ rfl
    have c6b : wb.cell? ⟨wr.heap.size, 6, none⟩ = some (.int .i64 on) := hcb 6 _ rfl
    have c7b : wb.cell? ⟨wr.heap.size, 7, none⟩ = some (.string os2) := hcb 7 _ rfl
    have c8b : wb.cell? ⟨wr.heap.size, 8, none⟩ = some (.int .i64 xn) := hcb 8 _ rfl
    have k01 := k0; have k11 := k1; have k21 := k2
    have db : wb.cell? ⟨w.heap.size, 0, none⟩ = some (.slice A l.length c) := (hbb.cell (p := ⟨w.heap.size, 0, none⟩) k01).trans d1
    have rb : wb.cell? ⟨w.heap.size + 1, 0, none⟩ = some (.slice none 0 0) := (hbb.cell (p := ⟨w.heap.size + 1, 0, none⟩) k11).trans r1
    have xb : wb.cell? ⟨w.heap.size + 1 + 1, 0, none⟩ = some (.slice E x.length ec) := (hbb.cell (p := ⟨w.heap.size + 1 + 1, 0, none⟩) k21).trans x1
    have frb : wb.frozen? ⟨w.heap.size + 1, 0, none⟩ = false := (hbb.frozen (p := ⟨w.heap.size + 1, 0, none⟩) k11).trans fr1
    have fxb : wb.frozen? ⟨w.heap.size + 1 + 1, 0, none⟩ = false := (hbb.frozen (p := ⟨w.heap.size + 1 + 1, 0, none⟩) k21).trans fx1
    have k0b : w.heap.size < wb.heap.size := Nat.lt_of_lt_of_le k01 hbb.size
    have k1b : w.heap.size + 1 < wb.heap.size := Nat.lt_of_lt_of_le k11 hbb.size
    have k2b : w.heap.size + 1 + 1 < wb.heap.size := Nat.lt_of_lt_of_le k21 hbb.size
    have hbwb := hbw.trans (hbb.mono (Nat.le_of_lt k0))
    have hpb := hprx.below hbb
    have HWB := hid hwb; clear hwb hcb hbb hprx k0 k1 k2
    clear d1 r1 x1 fr1 fx1 k01 k11 k21
    go_wp2_with (refine wpList_load_mid rfl 64 _ rfl g (o + k * 9) rfl [.int .i64 xk, .string xy, .int .i64 vk, .int .i64 vn, .string vs, .int .i64 ok, .int .i64 on, .string os2, .int .i64 xn] _ hr Tryz.underlying64 rfl Tryz.infoOp ?_)
    rw [HWB.out]
    refine (rmayOp_is _ ⟨xk, xy, ⟨vk, vn, vs⟩, ⟨ok, on, os2⟩, xn⟩ mo _ rfl hsm HMO.out).mono ?_
    rintro e wa ⟨rfl, hba⟩
    have hbwa := hbwb.trans (hba.mono hbwb.size)
    have hpa := hpb.below hba
    have da : wa.cell? ⟨w.heap.size, 0, none⟩ = some (.slice A l.length c) := (hba.cell (p := ⟨w.heap.size, 0, none⟩) k0b).trans db
    have ra : wa.cell? ⟨w.heap.size + 1, 0, none⟩ = some (.slice none 0 0) := (hba.cell (p := ⟨w.heap.size + 1, 0, none⟩) k1b).trans rb
    have xa : wa.cell? ⟨w.heap.size + 1 + 1, 0, none⟩ = some (.slice E x.length ec) := (hba.cell (p := ⟨w.heap.size + 1 + 1, 0, none⟩) k2b).trans xb
    have fra : wa.frozen? ⟨w.heap.size + 1, 0, none⟩ = false := (hba.frozen (p := ⟨w.heap.size + 1, 0, none⟩) k1b).trans frb
    have fxa : wa.frozen? ⟨w.heap.size + 1 + 1, 0, none⟩ = false := (hba.frozen (p := ⟨w.heap.size + 1 + 1, 0, none⟩) k2b).trans fxb
    have c0a : wa.cell? ⟨wr.heap.size, 0, none⟩ = some (.int .i64 xk) := (hba.cell (p := ⟨wr.heap.size, 0, none⟩) kob).trans c0b
    have c1a : wa.cell? ⟨wr.heap.size, 1, none⟩ = some (.string xy) := (hba.cell (p := ⟨wr.heap.size, 1, none⟩) kob).trans c1b
    have c2a : wa.cell? ⟨wr.heap.size, 2, none⟩ = some (.int .i64 vk) := (hba.cell (p := ⟨wr.heap.size, 2, none⟩) kob).trans c2b
    have c3a : wa.cell? ⟨wr.heap.size, 3, none⟩ = some (.int .i64 vn) := (hba.cell (p := ⟨wr.heap.size, 3, none⟩) kob).trans c3b
    have c4a : wa.cell? ⟨wr.heap.size, 4, none⟩ = some (.string vs) := (hba.cell (p := ⟨wr.heap.size, 4, none⟩) kob).trans c4b
    have c5a : wa.cell? ⟨wr.heap.size, 5, none⟩ = some (.int .i64 ok) := (hba.cell (p := ⟨wr.heap.size, 5, none⟩) kob).trans c5b
    have c6a : wa.cell? ⟨wr.heap.size, 6, none⟩ = some (.int .i64 on) := (hba.cell (p := ⟨wr.heap.size, 6, none⟩) kob).trans c6b
    have c7a : wa.cell? ⟨wr.heap.size, 7, none⟩ = some (.string os2) := (hba.cell (p := ⟨wr.heap.size, 7, none⟩) kob).trans c7b
    have c8a : wa.cell? ⟨wr.heap.size, 8, none⟩ = some (.int .i64 xn) := (hba.cell (p := ⟨wr.heap.size, 8, none⟩) kob).trans c8b
    have k0a : w.heap.size < wa.heap.size := Nat.lt_of_lt_of_le k0b hba.size
    have k1a : w.heap.size + 1 < wa.heap.size := Nat.lt_of_lt_of_le k1b hba.size
    have k2a : w.heap.size + 1 + 1 < wa.heap.size := Nat.lt_of_lt_of_le k2b hba.size
    have koa : wr.heap.size < wa.heap.size := Nat.lt_of_lt_of_le kob hba.size
    clear db rb xb frb fxb c0b c1b c2b c3b c4b c5b c6b c7b c8b k0b k1b k2b kob
    clear hba hpb hbwb hbw hr
    cases mo
    ·have hf : dApply l os = (l, 1) := by rw [← HGO.out, HST.out]; simp
     have HF := hid hf; clear hf
     go_wp2
     refine bodyPost_ret (v := .tuple #[.agg #[.slice A l.length c], .int .i64 1]) ?_ rfl ⟨.slice A l.length c, by rw [HF.out]; rfl, ?_, ?_⟩
     ·simp [results, Tryz.results29, go_sem, ra]
     ·rw [HF.out]; exact (HPR.out.keep (hbwa.setCell (p := ⟨w.heap.size + 1, 0, none⟩) (Nat.le_succ _) _) hB).more (by have := hbwa.size; simp; omega)
     ·exact hbwa.setCell (p := ⟨w.heap.size + 1, 0, none⟩) (Nat.le_succ _) _
    ·have hst2 := HST.out
     simp only [Bool.true_eq_false, if_false] at hst2
     have HST2 := hid hst2; clear hst2 HST
     have hdx : DocV wa wa.heap.size (.agg #[.slice E x.length ec]) x := ⟨_, rfl, hpa.prs⟩
     have HDX := hid hdx; clear hdx
     go_wp2_with fail
     refine (rdocGet_is _ x xy gk gn gs th _ HDX.out hk10 HGG.out).mono ?_
     rintro e wg ⟨rfl, hbg⟩
     have hbwg := hbwa.trans (hbg.mono hbwa.size)
     have hpg := hpa.below hbg
     have dg : wg.cell? ⟨w.heap.size, 0, none⟩ = some (.slice A l.length c) := (hbg.cell (p := ⟨w.heap.size, 0, none⟩) k0a).trans da
     have rg : wg.cell? ⟨w.heap.size + 1, 0, none⟩ = some (.slice none 0 0) := (hbg.cell (p := ⟨w.heap.size + 1, 0, none⟩) k1a).trans ra
     have xg : wg.cell? ⟨w.heap.size + 1 + 1, 0, none⟩ = some (.slice E x.length ec) := (hbg.cell (p := ⟨w.heap.size + 1 + 1, 0, none⟩) k2a).trans xa
     have frg : wg.frozen? ⟨w.heap.size + 1, 0, none⟩ = false := (hbg.frozen (p := ⟨w.heap.size + 1, 0, none⟩) k1a).trans fra
     have fxg : wg.frozen? ⟨w.heap.size + 1 + 1, 0, none⟩ = false := (hbg.frozen (p := ⟨w.heap.size + 1 + 1, 0, none⟩) k2a).trans fxa
     have c0g : wg.cell? ⟨wr.heap.size, 0, none⟩ = some (.int .i64 xk) := (hbg.cell (p := ⟨wr.heap.size, 0, none⟩) koa).trans c0a
     have c1g : wg.cell? ⟨wr.heap.size, 1, none⟩ = some (.string xy) := (hbg.cell (p := ⟨wr.heap.size, 1, none⟩) koa).trans c1a
     have c2g : wg.cell? ⟨wr.heap.size, 2, none⟩ = some (.int .i64 vk) := (hbg.cell (p := ⟨wr.heap.size, 2, none⟩) koa).trans c2a
     have c3g : wg.cell? ⟨wr.heap.size, 3, none⟩ = some (.int .i64 vn) := (hbg.cell (p := ⟨wr.heap.size, 3, none⟩) koa).trans c3a
     have c4g : wg.cell? ⟨wr.heap.size, 4, none⟩ = some (.string vs) := (hbg.cell (p := ⟨wr.heap.size, 4, none⟩) koa).trans c4a
     have c5g : wg.cell? ⟨wr.heap.size, 5, none⟩ = some (.int .i64 ok) := (hbg.cell (p := ⟨wr.heap.size, 5, none⟩) koa).trans c5a
     have c6g : wg.cell? ⟨wr.heap.size, 6, none⟩ = some (.int .i64 on) := (hbg.cell (p := ⟨wr.heap.size, 6, none⟩) koa).trans c6a
     have c7g : wg.cell? ⟨wr.heap.size, 7, none⟩ = some (.string os2) := (hbg.cell (p := ⟨wr.heap.size, 7, none⟩) koa).trans c7a
     have c8g : wg.cell? ⟨wr.heap.size, 8, none⟩ = some (.int .i64 xn) := (hbg.cell (p := ⟨wr.heap.size, 8, none⟩) koa).trans c8a
     have k0g : w.heap.size < wg.heap.size := Nat.lt_of_lt_of_le k0a hbg.size
     have k1g : w.heap.size + 1 < wg.heap.size := Nat.lt_of_lt_of_le k1a hbg.size
     have k2g : w.heap.size + 1 + 1 < wg.heap.size := Nat.lt_of_lt_of_le k2a hbg.size
     have kog : wr.heap.size < wg.heap.size := Nat.lt_of_lt_of_le koa hbg.size
     clear da ra xa fra fxa c0a c1a c2a c3a c4a c5a c6a c7a c8a k0a k1a k2a koa
     clear hbg hpa hbwa HDX
     obtain ⟨wv, hwv⟩ : ∃ wv, (wg.alloc (Obj.cells #[.int .i64 gk, .int .i64 gn, .string gs] 62)).alloc (Obj.cells #[.int .i64 vk, .int .i64 vn, .string vs] 62) = wv := ⟨_, rfl⟩
     have hbv : Below wg.heap.size wg wv := by rw [← hwv]; exact below_two wg _ _
     have hs1 : wg.heap.size + 1 = (wg.alloc (Obj.cells #[.int .i64 gk, .int .i64 gn, .string gs] 62)).heap.size := by simp
     have kvv : wg.heap.size + 1 < wv.heap.size := by rw [hs1, ← hwv]; simp
     have kgv : wg.heap.size < wv.heap.size := by omega
     have zg : ∀ j v, (#[Value.int .i64 gk, .int .i64 gn, .string gs] : Array Value)[j]? = some v → wv.cell? ⟨wg.heap.size, j, none⟩ = some v := fun j v h => by
      rw [← hwv, (below_new (wg.alloc _) _).cell (p := ⟨wg.heap.size, j, none⟩) (by simp), World.cell?_alloc_mark]; exact h
     have zv : ∀ j v, (#[Value.int .i64 vk, .int .i64 vn, .string vs] : Array Value)[j]? = some v → wv.cell? ⟨wg.heap.size + 1, j, none⟩ = some v := fun j v h => by
      rw [hs1, ← hwv, World.cell?_alloc_mark]; exact h
     have zf : ∀ j, wv.frozen? ⟨wg.heap.size + 1, j, none⟩ = false := fun j => by rw [hs1, ← hwv]; exact World.frozen?_alloc_at _ _ _ j rfl
     have g0v : wv.cell? ⟨wg.heap.size, 0, none⟩ = some (.int .i64 gk) := zg 0 _ rfl
     have g1v : wv.cell? ⟨wg.heap.size, 1, none⟩ = some (.int .i64 gn) := zg 1 _ rfl
     have g2v : wv.cell? ⟨wg.heap.size, 2, none⟩ = some (.string gs) := zg 2 _ rfl
     have v0v : wv.cell? ⟨wg.heap.size + 1, 0, none⟩ = some (.int .i64 vk) := zv 0 _ rfl
     have fv0v := zf 0
     have v1v : wv.cell? ⟨wg.heap.size + 1, 1, none⟩ = some (.int .i64 vn) := zv 1 _ rfl
     have fv1v := zf 1
     have v2v : wv.cell? ⟨wg.heap.size + 1, 2, none⟩ = some (.string vs) := zv 2 _ rfl
     have fv2v := zf 2
     have dv : wv.cell? ⟨w.heap.size, 0, none⟩ = some (.slice A l.length c) := (hbv.cell (p := ⟨w.heap.size, 0, none⟩) k0g).trans dg
     have rv : wv.cell? ⟨w.heap.size + 1, 0, none⟩ = some (.slice none 0 0) := (hbv.cell (p := ⟨w.heap.size + 1, 0, none⟩) k1g).trans rg
     have xv : wv.cell? ⟨w.heap.size + 1 + 1, 0, none⟩ = some (.slice E x.length ec) := (hbv.cell (p := ⟨w.heap.size + 1 + 1, 0, none⟩) k2g).trans xg
     have frv : wv.frozen? ⟨w.heap.size + 1, 0, none⟩ = false := (hbv.frozen (p := ⟨w.heap.size + 1, 0, none⟩) k1g).trans frg
     have fxv : wv.frozen? ⟨w.heap.size + 1 + 1, 0, none⟩ = false := (hbv.frozen (p := ⟨w.heap.size + 1 + 1, 0, none⟩) k2g).trans fxg
     have c0v : wv.cell? ⟨wr.heap.size, 0, none⟩ = some (.int .i64 xk) := (hbv.cell (p := ⟨wr.heap.size, 0, none⟩) kog).trans c0g
     have c1v : wv.cell? ⟨wr.heap.size, 1, none⟩ = some (.string xy) := (hbv.cell (p := ⟨wr.heap.size, 1, none⟩) kog).trans c1g
     have c2v : wv.cell? ⟨wr.heap.size, 2, none⟩ = some (.int .i64 vk) := (hbv.cell (p := ⟨wr.heap.size, 2, none⟩) kog).trans c2g
     have c3v : wv.cell? ⟨wr.heap.size, 3, none⟩ = some (.int .i64 vn) := (hbv.cell (p := ⟨wr.heap.size, 3, none⟩) kog).trans c3g
     have c4v : wv.cell? ⟨wr.heap.size, 4, none⟩ = some (.string vs) := (hbv.cell (p := ⟨wr.heap.size, 4, none⟩) kog).trans c4g
     have c5v : wv.cell? ⟨wr.heap.size, 5, none⟩ = some (.int .i64 ok) := (hbv.cell (p := ⟨wr.heap.size, 5, none⟩) kog).trans c5g
     have c6v : wv.cell? ⟨wr.heap.size, 6, none⟩ = some (.int .i64 on) := (hbv.cell (p := ⟨wr.heap.size, 6, none⟩) kog).trans c6g
     have c7v : wv.cell? ⟨wr.heap.size, 7, none⟩ = some (.string os2) := (hbv.cell (p := ⟨wr.heap.size, 7, none⟩) kog).trans c7g
     have c8v : wv.cell? ⟨wr.heap.size, 8, none⟩ = some (.int .i64 xn) := (hbv.cell (p := ⟨wr.heap.size, 8, none⟩) kog).trans c8g
     have k0v : w.heap.size < wv.heap.size := Nat.lt_of_lt_of_le k0g hbv.size
     have k1v : w.heap.size + 1 < wv.heap.size := Nat.lt_of_lt_of_le k1g hbv.size
     have k2v : w.heap.size + 1 + 1 < wv.heap.size := Nat.lt_of_lt_of_le k2g hbv.size
     have kov : wr.heap.size < wv.heap.size := Nat.lt_of_lt_of_le kog hbv.size
     have hbwv := hbwg.trans (hbv.mono hbwg.size)
     have hpv := hpg.below hbv
     have HWV := hid hwv; clear hwv zg zv zf hs1
     by_cases q3 : xk = 3
     ·subst q3
      obtain ⟨eo, heo⟩ : ∃ eo, eqR ⟨gk, gn, gs⟩ ⟨ok, on, os2⟩ = eo := ⟨_, rfl⟩
      have hst3 := HST2.out
      rw [heo] at hst3
      have HE := hid heo; clear heo
      go_wp2_with fail
      rw [HWV.out]
      refine (req_v _ _ ⟨gk, gn, gs⟩ ⟨ok, on, os2⟩ eo _ rfl rfl HE.out).mono ?_
      rintro e we ⟨rfl, hbe⟩
      have hbwe := hbwv.trans (hbe.mono hbwv.size)
      have hpe := hpv.below hbe
      have de : we.cell? ⟨w.heap.size, 0, none⟩ = some (.slice A l.length c) := (hbe.cell (p := ⟨w.heap.size, 0, none⟩) k0v).trans dv
      have re : we.cell? ⟨w.heap.size + 1, 0, none⟩ = some (.slice none 0 0) := (hbe.cell (p := ⟨w.heap.size + 1, 0, none⟩) k1v).trans rv
      have xe : we.cell? ⟨w.heap.size + 1 + 1, 0, none⟩ = some (.slice E x.length ec) := (hbe.cell (p := ⟨w.heap.size + 1 + 1, 0, none⟩) k2v).trans xv
      have fre : we.frozen? ⟨w.heap.size + 1, 0, none⟩ = false := (hbe.frozen (p := ⟨w.heap.size + 1, 0, none⟩) k1v).trans frv
      have fxe : we.frozen? ⟨w.heap.size + 1 + 1, 0, none⟩ = false := (hbe.frozen (p := ⟨w.heap.size + 1 + 1, 0, none⟩) k2v).trans fxv
      have c0e : we.cell? ⟨wr.heap.size, 0, none⟩ = some (.int .i64 3) := (hbe.cell (p := ⟨wr.heap.size, 0, none⟩) kov).trans c0v
      have c1e : we.cell? ⟨wr.heap.size, 1, none⟩ = some (.string xy) := (hbe.cell (p := ⟨wr.heap.size, 1, none⟩) kov).trans c1v
      have c2e : we.cell? ⟨wr.heap.size, 2, none⟩ = some (.int .i64 vk) := (hbe.cell (p := ⟨wr.heap.size, 2, none⟩) kov).trans c2v
      have c3e : we.cell? ⟨wr.heap.size, 3, none⟩ = some (.int .i64 vn) := (hbe.cell (p := ⟨wr.heap.size, 3, none⟩) kov).trans c3v
      have c4e : we.cell? ⟨wr.heap.size, 4, none⟩ = some (.string vs) := (hbe.cell (p := ⟨wr.heap.size, 4, none⟩) kov).trans c4v
      have c5e : we.cell? ⟨wr.heap.size, 5, none⟩ = some (.int .i64 ok) := (hbe.cell (p := ⟨wr.heap.size, 5, none⟩) kov).trans c5v
      have c6e : we.cell? ⟨wr.heap.size, 6, none⟩ = some (.int .i64 on) := (hbe.cell (p := ⟨wr.heap.size, 6, none⟩) kov).trans c6v
      have c7e : we.cell? ⟨wr.heap.size, 7, none⟩ = some (.string os2) := (hbe.cell (p := ⟨wr.heap.size, 7, none⟩) kov).trans c7v
      have c8e : we.cell? ⟨wr.heap.size, 8, none⟩ = some (.int .i64 xn) := (hbe.cell (p := ⟨wr.heap.size, 8, none⟩) kov).trans c8v
      have g0e : we.cell? ⟨wg.heap.size, 0, none⟩ = some (.int .i64 gk) := (hbe.cell (p := ⟨wg.heap.size, 0, none⟩) kgv).trans g0v
      have g1e : we.cell? ⟨wg.heap.size, 1, none⟩ = some (.int .i64 gn) := (hbe.cell (p := ⟨wg.heap.size, 1, none⟩) kgv).trans g1v
      have g2e : we.cell? ⟨wg.heap.size, 2, none⟩ = some (.string gs) := (hbe.cell (p := ⟨wg.heap.size, 2, none⟩) kgv).trans g2v
      have v0e : we.cell? ⟨wg.heap.size + 1, 0, none⟩ = some (.int .i64 vk) := (hbe.cell (p := ⟨wg.heap.size + 1, 0, none⟩) kvv).trans v0v
      have v1e : we.cell? ⟨wg.heap.size + 1, 1, none⟩ = some (.int .i64 vn) := (hbe.cell (p := ⟨wg.heap.size + 1, 1, none⟩) kvv).trans v1v
      have v2e : we.cell? ⟨wg.heap.size + 1, 2, none⟩ = some (.string vs) := (hbe.cell (p := ⟨wg.heap.size + 1, 2, none⟩) kvv).trans v2v
      have fv0e : we.frozen? ⟨wg.heap.size + 1, 0, none⟩ = false := (hbe.frozen (p := ⟨wg.heap.size + 1, 0, none⟩) kvv).trans fv0v
      have fv1e : we.frozen? ⟨wg.heap.size + 1, 1, none⟩ = false := (hbe.frozen (p := ⟨wg.heap.size + 1, 1, none⟩) kvv).trans fv1v
      have fv2e : we.frozen? ⟨wg.heap.size + 1, 2, none⟩ = false := (hbe.frozen (p := ⟨wg.heap.size + 1, 2, none⟩) kvv).trans fv2v
      have k0e : w.heap.size < we.heap.size := Nat.lt_of_lt_of_le k0v hbe.size
      have k1e : w.heap.size + 1 < we.heap.size := Nat.lt_of_lt_of_le k1v hbe.size
      have k2e : w.heap.size + 1 + 1 < we.heap.size := Nat.lt_of_lt_of_le k2v hbe.size
      have koe : wr.heap.size < we.heap.size := Nat.lt_of_lt_of_le kov hbe.size
      have kge : wg.heap.size < we.heap.size := Nat.lt_of_lt_of_le kgv hbe.size
      have kve : wg.heap.size + 1 < we.heap.size := Nat.lt_of_lt_of_le kvv hbe.size
      clear dv rv xv frv fxv c0v c1v c2v c3v c4v c5v c6v c7v c8v g0v g1v g2v v0v v1v v2v fv0v fv1v fv2v k0v k1v k2v kov kgv kvv
      clear dg rg xg frg fxg c0g c1g c2g c3g c4g c5g c6g c7g c8g k0g k1g k2g kog
      clear hbe hbwv hpv
      cases eo
      ·have hf : dApply l os = (l, 8) := by rw [← HGO.out, HST2.out]; simp [HE.out]
       have HF := hid hf; clear hf
       go_wp2
       refine bodyPost_ret (v := .tuple #[.agg #[.slice A l.length c], .int .i64 8]) ?_ rfl ⟨.slice A l.length c, by rw [HF.out]; rfl, ?_, ?_⟩
       ·simp [results, Tryz.results29, go_sem, re]
       ·rw [HF.out]; exact (HPR.out.keep (hbwe.setCell (p := ⟨w.heap.size + 1, 0, none⟩) (Nat.le_succ _) _) hB).more (by have := hbwe.size; simp; omega)
       ·exact hbwe.setCell (p := ⟨w.heap.size + 1, 0, none⟩) (Nat.le_succ _) _
      ·have h3 : dApply l os = if vk ≠ 0 ∧ th = false ∧ 50 ≤ x.length then (l, 6) else apGo l (dSet x xy ⟨vk, vn, vs⟩) (os.drop (k + 1)) := by rw [← HGO.out, HST2.out]; simp [HE.out, apV]
       have H3 := hid h3; clear h3
       by_cases hlim : vk ≠ 0 ∧ th = false ∧ 50 ≤ x.length
       ·have hf : dApply l os = (l, 6) := by rw [H3.out, if_pos hlim]
        obtain ⟨m1, rfl, m3⟩ := hlim
        have m2 : ((vk : Int) != 0) = true := by rw [bne_iff_ne]; exact m1
        have m4 : (50 : Int) ≤ (x.length : Int) := by omega
        have M1 := hid m1; clear m1
        have HF := hid hf; clear hf
        go_wp2
        refine bodyPost_ret (v := .tuple #[.agg #[.slice A l.length c], .int .i64 6]) ?_ rfl ⟨.slice A l.length c, by rw [HF.out]; rfl, ?_, ?_⟩
        ·simp [results, Tryz.results29, go_sem, re]
        ·rw [HF.out]; exact (HPR.out.keep (hbwe.setCell (p := ⟨w.heap.size + 1, 0, none⟩) (Nat.le_succ _) _) hB).more (by have := hbwe.size; simp; omega)
        ·exact hbwe.setCell (p := ⟨w.heap.size + 1, 0, none⟩) (Nat.le_succ _) _
       ·have hl3 : dApply l os = apGo l (dSet x xy ⟨vk, vn, vs⟩) (os.drop (k + 1)) := by rw [H3.out, if_neg hlim]
        have HL3 := hid hl3; clear hl3
        have hcs : (vk : Int) = 0 ∨ (vk ≠ (0 : Int) ∧ th = true) ∨ (vk ≠ (0 : Int) ∧ th = false ∧ x.length < 50) := by
         by_cases a : (vk : Int) = 0
         ·exact .inl a
         ·cases th
          ·exact .inr (.inr ⟨a, rfl, Nat.lt_of_not_le fun h => hlim ⟨a, rfl, h⟩⟩)
          ·exact .inr (.inl ⟨a, rfl⟩)
        clear hlim
        rcases hcs with m1 | ⟨m1, rfl⟩ | ⟨m1, rfl, m3⟩
        ·have m2 : ((vk : Int) != 0) = false := by rw [m1]; rfl
         have M1 := hid m1; clear m1
         have hdx : DocV we we.heap.size (.agg #[.slice E x.length ec]) x := ⟨_, rfl, hpe.prs⟩
         have HDX := hid hdx; clear hdx
         go_wp2_with fail
         refine (rdocSet_is _ x xy vk vn vs _ HDX.out (by omega) hks HXK.out).mono ?_
         rintro e wz ⟨z, rfl, hownz, hbz⟩
         obtain ⟨Z, zc, rfl⟩ := own_slice hownz
         have hbwz := hbwe.trans (hbz.mono hbwe.size)
         have dz : wz.cell? ⟨w.heap.size, 0, none⟩ = some (.slice A l.length c) := (hbz.cell (p := ⟨w.heap.size, 0, none⟩) k0e).trans de
         have rz : wz.cell? ⟨w.heap.size + 1, 0, none⟩ = some (.slice none 0 0) := (hbz.cell (p := ⟨w.heap.size + 1, 0, none⟩) k1e).trans re
         have xz : wz.cell? ⟨w.heap.size + 1 + 1, 0, none⟩ = some (.slice E x.length ec) := (hbz.cell (p := ⟨w.heap.size + 1 + 1, 0, none⟩) k2e).trans xe
         have frz : wz.frozen? ⟨w.heap.size + 1, 0, none⟩ = false := (hbz.frozen (p := ⟨w.heap.size + 1, 0, none⟩) k1e).trans fre
         have fxz : wz.frozen? ⟨w.heap.size + 1 + 1, 0, none⟩ = false := (hbz.frozen (p := ⟨w.heap.size + 1 + 1, 0, none⟩) k2e).trans fxe
         have k0z : w.heap.size < wz.heap.size := Nat.lt_of_lt_of_le k0e hbz.size
         have k1z : w.heap.size + 1 < wz.heap.size := Nat.lt_of_lt_of_le k1e hbz.size
         have k2z : w.heap.size + 1 + 1 < wz.heap.size := Nat.lt_of_lt_of_le k2e hbz.size
         clear HDX hbz
         go_wp2
         go_roundw
         case rel =>
          have hzl := dSet_len x xy ⟨vk, vn, vs⟩
          refine ⟨k + 1, dSet x xy ⟨vk, vn, vs⟩, Z, zc, by go_num, by omega, hbwz.setCell (p := ⟨w.heap.size + 1 + 1, 0, none⟩) (by show w.heap.size ≤ w.heap.size + 1 + 1; omega) _, by rw [nblk_set]; exact k2z, ?_, ?_, ?_, ?_, ?_, ?_, HL3.out.symm, by omega, dSet_keys HXK.out hks⟩
          ·go_simp
          ·go_simp
          ·go_simp
          ·go_simp
          ·go_simp
          ·exact (PrsF.of_own hownz (by omega)).set (by show w.heap.size ≤ w.heap.size + 1 + 1; omega) (by show w.heap.size + 1 + 1 < w.heap.size + 1 + 1 + 1; omega)
         case measure => simp [intOf]; omega
        ·have m2 : ((vk : Int) != 0) = true := by rw [bne_iff_ne]; exact m1
         have M1 := hid m1; clear m1
         have hdx : DocV we we.heap.size (.agg #[.slice E x.length ec]) x := ⟨_, rfl, hpe.prs⟩
         have HDX := hid hdx; clear hdx
         go_wp2_with fail
         refine (rdocSet_is _ x xy vk vn vs _ HDX.out (by omega) hks HXK.out).mono ?_
         rintro e wz ⟨z, rfl, hownz, hbz⟩
         obtain ⟨Z, zc, rfl⟩ := own_slice hownz
         have hbwz := hbwe.trans (hbz.mono hbwe.size)
         have dz : wz.cell? ⟨w.heap.size, 0, none⟩ = some (.slice A l.length c) := (hbz.cell (p := ⟨w.heap.size, 0, none⟩) k0e).trans de
         have rz : wz.cell? ⟨w.heap.size + 1, 0, none⟩ = some (.slice none 0 0) := (hbz.cell (p := ⟨w.heap.size + 1, 0, none⟩) k1e).trans re
         have xz : wz.cell? ⟨w.heap.size + 1 + 1, 0, none⟩ = some (.slice E x.length ec) := (hbz.cell (p := ⟨w.heap.size + 1 + 1, 0, none⟩) k2e).trans xe
         have frz : wz.frozen? ⟨w.heap.size + 1, 0, none⟩ = false := (hbz.frozen (p := ⟨w.heap.size + 1, 0, none⟩) k1e).trans fre
         have fxz : wz.frozen? ⟨w.heap.size + 1 + 1, 0, none⟩ = false := (hbz.frozen (p := ⟨w.heap.size + 1 + 1, 0, none⟩) k2e).trans fxe
         have k0z : w.heap.size < wz.heap.size := Nat.lt_of_lt_of_le k0e hbz.size
         have k1z : w.heap.size + 1 < wz.heap.size := Nat.lt_of_lt_of_le k1e hbz.size
         have k2z : w.heap.size + 1 + 1 < wz.heap.size := Nat.lt_of_lt_of_le k2e hbz.size
         clear HDX hbz
         go_wp2
         go_roundw
         case rel =>
          have hzl := dSet_len x xy ⟨vk, vn, vs⟩
          refine ⟨k + 1, dSet x xy ⟨vk, vn, vs⟩, Z, zc, by go_num, by omega, hbwz.setCell (p := ⟨w.heap.size + 1 + 1, 0, none⟩) (by show w.heap.size ≤ w.heap.size + 1 + 1; omega) _, by rw [nblk_set]; exact k2z, ?_, ?_, ?_, ?_, ?_, ?_, HL3.out.symm, by omega, dSet_keys HXK.out hks⟩
          ·go_simp
          ·go_simp
          ·go_simp
          ·go_simp
          ·go_simp
          ·exact (PrsF.of_own hownz (by omega)).set (by show w.heap.size ≤ w.heap.size + 1 + 1; omega) (by show w.heap.size + 1 + 1 < w.heap.size + 1 + 1 + 1; omega)
         case measure => simp [intOf]; omega
        ·have m2 : ((vk : Int) != 0) = true := by rw [bne_iff_ne]; exact m1
         have M1 := hid m1; clear m1
         have m4 : (x.length : Int) < 50 := by omega
         have hdx : DocV we we.heap.size (.agg #[.slice E x.length ec]) x := ⟨_, rfl, hpe.prs⟩
         have HDX := hid hdx; clear hdx
         go_wp2_with fail
         refine (rdocSet_is _ x xy vk vn vs _ HDX.out (by omega) hks HXK.out).mono ?_
         rintro e wz ⟨z, rfl, hownz, hbz⟩
         obtain ⟨Z, zc, rfl⟩ := own_slice hownz
         have hbwz := hbwe.trans (hbz.mono hbwe.size)
         have dz : wz.cell? ⟨w.heap.size, 0, none⟩ = some (.slice A l.length c) := (hbz.cell (p := ⟨w.heap.size, 0, none⟩) k0e).trans de
         have rz : wz.cell? ⟨w.heap.size + 1, 0, none⟩ = some (.slice none 0 0) := (hbz.cell (p := ⟨w.heap.size + 1, 0, none⟩) k1e).trans re
         have xz : wz.cell? ⟨w.heap.size + 1 + 1, 0, none⟩ = some (.slice E x.length ec) := (hbz.cell (p := ⟨w.heap.size + 1 + 1, 0, none⟩) k2e).trans xe
         have frz : wz.frozen? ⟨w.heap.size + 1, 0, none⟩ = false := (hbz.frozen (p := ⟨w.heap.size + 1, 0, none⟩) k1e).trans fre
         have fxz : wz.frozen? ⟨w.heap.size + 1 + 1, 0, none⟩ = false := (hbz.frozen (p := ⟨w.heap.size + 1 + 1, 0, none⟩) k2e).trans fxe
         have k0z : w.heap.size < wz.heap.size := Nat.lt_of_lt_of_le k0e hbz.size
         have k1z : w.heap.size + 1 < wz.heap.size := Nat.lt_of_lt_of_le k1e hbz.size
         have k2z : w.heap.size + 1 + 1 < wz.heap.size := Nat.lt_of_lt_of_le k2e hbz.size
         clear HDX hbz
         go_wp2
         go_roundw
         case rel =>
          have hzl := dSet_len x xy ⟨vk, vn, vs⟩
          refine ⟨k + 1, dSet x xy ⟨vk, vn, vs⟩, Z, zc, by go_num, by omega, hbwz.setCell (p := ⟨w.heap.size + 1 + 1, 0, none⟩) (by show w.heap.size ≤ w.heap.size + 1 + 1; omega) _, by rw [nblk_set]; exact k2z, ?_, ?_, ?_, ?_, ?_, ?_, HL3.out.symm, by omega, dSet_keys HXK.out hks⟩
          ·go_simp
          ·go_simp
          ·go_simp
          ·go_simp
          ·go_simp
          ·exact (PrsF.of_own hownz (by omega)).set (by show w.heap.size ≤ w.heap.size + 1 + 1; omega) (by show w.heap.size + 1 + 1 < w.heap.size + 1 + 1 + 1; omega)
         case measure => simp [intOf]; omega
     ·by_cases q4 : xk = 4
      ·subst q4
       have hmo := HMO.out
       have hx40 : -1099511627776 ≤ xn ∧ xn ≤ 1099511627776 := by
        simp [mayO, mayKind] at hmo; exact ⟨hmo.2.1.2, hmo.2.2⟩
       obtain ⟨hx41, hx42⟩ := hx40
       clear hmo
       by_cases hk7 : th = true ∧ gk ≠ 1
       ·have hf : dApply l os = (l, 7) := by rw [← HGO.out, HST2.out]; simp [hk7.1, hk7.2]
        obtain ⟨rfl, hk7⟩ := hk7
        have m7 : (gk != 1) = true := by rw [bne_iff_ne]; exact hk7
        have M7 := hid hk7; clear hk7
        have HF := hid hf; clear hf
        go_wp2
        have hbq := ((hbwg.setCell (p := ⟨w.heap.size + 1, 0, none⟩) (Nat.le_succ _) (.slice A l.length c)).alloc (by rw [nblk_set]; exact hbwg.size) (Obj.cells #[.int .i64 gk, .int .i64 gn, .string gs] 62)).alloc (by have := hbwg.size; simp; omega) (Obj.cells #[.int .i64 vk, .int .i64 vn, .string vs] 62)
        have hrq := ((below_two (wg.setCell ⟨w.heap.size + 1, 0, none⟩ (.slice A l.length c)) (Obj.cells #[.int .i64 gk, .int .i64 gn, .string gs] 62) (Obj.cells #[.int .i64 vk, .int .i64 vn, .string vs] 62)).cell (p := ⟨w.heap.size + 1, 0, none⟩) (by rw [nblk_set]; exact k1g)).trans (World.cell?_setCell_same _ _ _ rg)
        refine bodyPost_ret (v := .tuple #[.agg #[.slice A l.length c], .int .i64 7]) ?_ rfl ⟨.slice A l.length c, by rw [HF.out]; rfl, ?_, hbq⟩
        ·simp [results, Tryz.results29, go_sem, hrq]
        ·rw [HF.out]; exact (HPR.out.keep hbq hB).more (Nat.le_trans hB hbq.size)
       ·have hst4 : dApply l os = if farB gn = true ∨ farB (gn + xn) = true then (l, 4) else if ((1 : Int) ≠ 0 ∧ th = false ∧ 50 ≤ x.length) then (l, 6) else apGo l (dSet x xy ⟨(1 : Int), (gn + xn), ⟨#[]⟩⟩) (os.drop (k + 1)) := by
         rw [← HGO.out, HST2.out, if_neg (fun h => absurd h.1 (by decide)), if_neg (fun h => hk7 h.2)]; simp [apV]
        have HST4 := hid hst4; clear hst4
        obtain ⟨b1, hb1⟩ : ∃ b, farB gn = b := ⟨_, rfl⟩
        obtain ⟨b2, hb2⟩ : ∃ b, farB (gn + xn) = b := ⟨_, rfl⟩
        have HB1 := hid hb1; have HB2 := hid hb2; clear hb1 hb2
        cases th
        ·clear hk7
         go_wp2_with fail
         rw [HWV.out]
         refine (rfar_is gn b1 _ HB1.out).mono ?_
         rintro e w5 ⟨rfl, hb5⟩
         have hbw5 := hbwv.trans (hb5.mono hbwv.size)
         have hp5 := hpv.below hb5
         have d5 : w5.cell? ⟨w.heap.size, 0, none⟩ = some (.slice A l.length c) := (hb5.cell (p := ⟨w.heap.size, 0, none⟩) k0v).trans dv
         have r5 : w5.cell? ⟨w.heap.size + 1, 0, none⟩ = some (.slice none 0 0) := (hb5.cell (p := ⟨w.heap.size + 1, 0, none⟩) k1v).trans rv
         have x5 : w5.cell? ⟨w.heap.size + 1 + 1, 0, none⟩ = some (.slice E x.length ec) := (hb5.cell (p := ⟨w.heap.size + 1 + 1, 0, none⟩) k2v).trans xv
         have fr5 : w5.frozen? ⟨w.heap.size + 1, 0, none⟩ = false := (hb5.frozen (p := ⟨w.heap.size + 1, 0, none⟩) k1v).trans frv
         have fx5 : w5.frozen? ⟨w.heap.size + 1 + 1, 0, none⟩ = false := (hb5.frozen (p := ⟨w.heap.size + 1 + 1, 0, none⟩) k2v).trans fxv
         have c05 : w5.cell? ⟨wr.heap.size, 0, none⟩ = some (.int .i64 4) := (hb5.cell (p := ⟨wr.heap.size, 0, none⟩) kov).trans c0v
         have c15 : w5.cell? ⟨wr.heap.size, 1, none⟩ = some (.string xy) := (hb5.cell (p := ⟨wr.heap.size, 1, none⟩) kov).trans c1v
         have c25 : w5.cell? ⟨wr.heap.size, 2, none⟩ = some (.int .i64 vk) := (hb5.cell (p := ⟨wr.heap.size, 2, none⟩) kov).trans c2v
         have c35 : w5.cell? ⟨wr.heap.size, 3, none⟩ = some (.int .i64 vn) := (hb5.cell (p := ⟨wr.heap.size, 3, none⟩) kov).trans c3v
         have c45 : w5.cell? ⟨wr.heap.size, 4, none⟩ = some (.string vs) := (hb5.cell (p := ⟨wr.heap.size, 4, none⟩) kov).trans c4v
         have c55 : w5.cell? ⟨wr.heap.size, 5, none⟩ = some (.int .i64 ok) := (hb5.cell (p := ⟨wr.heap.size, 5, none⟩) kov).trans c5v
         have c65 : w5.cell? ⟨wr.heap.size, 6, none⟩ = some (.int .i64 on) := (hb5.cell (p := ⟨wr.heap.size, 6, none⟩) kov).trans c6v
         have c75 : w5.cell? ⟨wr.heap.size, 7, none⟩ = some (.string os2) := (hb5.cell (p := ⟨wr.heap.size, 7, none⟩) kov).trans c7v
         have c85 : w5.cell? ⟨wr.heap.size, 8, none⟩ = some (.int .i64 xn) := (hb5.cell (p := ⟨wr.heap.size, 8, none⟩) kov).trans c8v
         have g05 : w5.cell? ⟨wg.heap.size, 0, none⟩ = some (.int .i64 gk) := (hb5.cell (p := ⟨wg.heap.size, 0, none⟩) kgv).trans g0v
         have g15 : w5.cell? ⟨wg.heap.size, 1, none⟩ = some (.int .i64 gn) := (hb5.cell (p := ⟨wg.heap.size, 1, none⟩) kgv).trans g1v
         have g25 : w5.cell? ⟨wg.heap.size, 2, none⟩ = some (.string gs) := (hb5.cell (p := ⟨wg.heap.size, 2, none⟩) kgv).trans g2v
         have v05 : w5.cell? ⟨wg.heap.size + 1, 0, none⟩ = some (.int .i64 vk) := (hb5.cell (p := ⟨wg.heap.size + 1, 0, none⟩) kvv).trans v0v
         have v15 : w5.cell? ⟨wg.heap.size + 1, 1, none⟩ = some (.int .i64 vn) := (hb5.cell (p := ⟨wg.heap.size + 1, 1, none⟩) kvv).trans v1v
         have v25 : w5.cell? ⟨wg.heap.size + 1, 2, none⟩ = some (.string vs) := (hb5.cell (p := ⟨wg.heap.size + 1, 2, none⟩) kvv).trans v2v
         have fv05 : w5.frozen? ⟨wg.heap.size + 1, 0, none⟩ = false := (hb5.frozen (p := ⟨wg.heap.size + 1, 0, none⟩) kvv).trans fv0v
         have fv15 : w5.frozen? ⟨wg.heap.size + 1, 1, none⟩ = false := (hb5.frozen (p := ⟨wg.heap.size + 1, 1, none⟩) kvv).trans fv1v
         have fv25 : w5.frozen? ⟨wg.heap.size + 1, 2, none⟩ = false := (hb5.frozen (p := ⟨wg.heap.size + 1, 2, none⟩) kvv).trans fv2v
         have k05 : w.heap.size < w5.heap.size := Nat.lt_of_lt_of_le k0v hb5.size
         have k15 : w.heap.size + 1 < w5.heap.size := Nat.lt_of_lt_of_le k1v hb5.size
         have k25 : w.heap.size + 1 + 1 < w5.heap.size := Nat.lt_of_lt_of_le k2v hb5.size
         have ko5 : wr.heap.size < w5.heap.size := Nat.lt_of_lt_of_le kov hb5.size
         have kg5 : wg.heap.size < w5.heap.size := Nat.lt_of_lt_of_le kgv hb5.size
         have kv5 : wg.heap.size + 1 < w5.heap.size := Nat.lt_of_lt_of_le kvv hb5.size
         clear dv rv xv frv fxv c0v c1v c2v c3v c4v c5v c6v c7v c8v g0v g1v g2v v0v v1v v2v fv0v fv1v fv2v k0v k1v k2v kov kgv kvv
         clear c0g c1g c2g c3g c4g c5g c6g c7g c8g 
         have hbg5 := hbv.trans (hb5.mono hbv.size)
         clear hb5 hbwv hpv
         cases b1
         ·skip
          have hgn : -4611686018427387904 ≤ gn ∧ gn ≤ 4611686018427387904 := by
           have := HB1.out; unfold farB at this; simp at this; omega
          obtain ⟨hgn1, hgn2⟩ := hgn
          go_wp2_with fail
          refine (rfar_is (gn + xn) b2 _ HB2.out).mono ?_
          rintro e w6 ⟨rfl, hb6⟩
          have hbw6 := hbw5.trans (hb6.mono hbw5.size)
          have hp6 := hp5.below hb6
          have d6 : w6.cell? ⟨w.heap.size, 0, none⟩ = some (.slice A l.length c) := (hb6.cell (p := ⟨w.heap.size, 0, none⟩) k05).trans d5
          have r6 : w6.cell? ⟨w.heap.size + 1, 0, none⟩ = some (.slice none 0 0) := (hb6.cell (p := ⟨w.heap.size + 1, 0, none⟩) k15).trans r5
          have x6 : w6.cell? ⟨w.heap.size + 1 + 1, 0, none⟩ = some (.slice E x.length ec) := (hb6.cell (p := ⟨w.heap.size + 1 + 1, 0, none⟩) k25).trans x5
          have fr6 : w6.frozen? ⟨w.heap.size + 1, 0, none⟩ = false := (hb6.frozen (p := ⟨w.heap.size + 1, 0, none⟩) k15).trans fr5
          have fx6 : w6.frozen? ⟨w.heap.size + 1 + 1, 0, none⟩ = false := (hb6.frozen (p := ⟨w.heap.size + 1 + 1, 0, none⟩) k25).trans fx5
          have c06 : w6.cell? ⟨wr.heap.size, 0, none⟩ = some (.int .i64 4) := (hb6.cell (p := ⟨wr.heap.size, 0, none⟩) ko5).trans c05
          have c16 : w6.cell? ⟨wr.heap.size, 1, none⟩ = some (.string xy) := (hb6.cell (p := ⟨wr.heap.size, 1, none⟩) ko5).trans c15
          have c26 : w6.cell? ⟨wr.heap.size, 2, none⟩ = some (.int .i64 vk) := (hb6.cell (p := ⟨wr.heap.size, 2, none⟩) ko5).trans c25
          have c36 : w6.cell? ⟨wr.heap.size, 3, none⟩ = some (.int .i64 vn) := (hb6.cell (p := ⟨wr.heap.size, 3, none⟩) ko5).trans c35
          have c46 : w6.cell? ⟨wr.heap.size, 4, none⟩ = some (.string vs) := (hb6.cell (p := ⟨wr.heap.size, 4, none⟩) ko5).trans c45
          have c56 : w6.cell? ⟨wr.heap.size, 5, none⟩ = some (.int .i64 ok) := (hb6.cell (p := ⟨wr.heap.size, 5, none⟩) ko5).trans c55
          have c66 : w6.cell? ⟨wr.heap.size, 6, none⟩ = some (.int .i64 on) := (hb6.cell (p := ⟨wr.heap.size, 6, none⟩) ko5).trans c65
          have c76 : w6.cell? ⟨wr.heap.size, 7, none⟩ = some (.string os2) := (hb6.cell (p := ⟨wr.heap.size, 7, none⟩) ko5).trans c75
          have c86 : w6.cell? ⟨wr.heap.size, 8, none⟩ = some (.int .i64 xn) := (hb6.cell (p := ⟨wr.heap.size, 8, none⟩) ko5).trans c85
          have g06 : w6.cell? ⟨wg.heap.size, 0, none⟩ = some (.int .i64 gk) := (hb6.cell (p := ⟨wg.heap.size, 0, none⟩) kg5).trans g05
          have g16 : w6.cell? ⟨wg.heap.size, 1, none⟩ = some (.int .i64 gn) := (hb6.cell (p := ⟨wg.heap.size, 1, none⟩) kg5).trans g15
          have g26 : w6.cell? ⟨wg.heap.size, 2, none⟩ = some (.string gs) := (hb6.cell (p := ⟨wg.heap.size, 2, none⟩) kg5).trans g25
          have v06 : w6.cell? ⟨wg.heap.size + 1, 0, none⟩ = some (.int .i64 vk) := (hb6.cell (p := ⟨wg.heap.size + 1, 0, none⟩) kv5).trans v05
          have v16 : w6.cell? ⟨wg.heap.size + 1, 1, none⟩ = some (.int .i64 vn) := (hb6.cell (p := ⟨wg.heap.size + 1, 1, none⟩) kv5).trans v15
          have v26 : w6.cell? ⟨wg.heap.size + 1, 2, none⟩ = some (.string vs) := (hb6.cell (p := ⟨wg.heap.size + 1, 2, none⟩) kv5).trans v25
          have fv06 : w6.frozen? ⟨wg.heap.size + 1, 0, none⟩ = false := (hb6.frozen (p := ⟨wg.heap.size + 1, 0, none⟩) kv5).trans fv05
          have fv16 : w6.frozen? ⟨wg.heap.size + 1, 1, none⟩ = false := (hb6.frozen (p := ⟨wg.heap.size + 1, 1, none⟩) kv5).trans fv15
          have fv26 : w6.frozen? ⟨wg.heap.size + 1, 2, none⟩ = false := (hb6.frozen (p := ⟨wg.heap.size + 1, 2, none⟩) kv5).trans fv25
          have k06 : w.heap.size < w6.heap.size := Nat.lt_of_lt_of_le k05 hb6.size
          have k16 : w.heap.size + 1 < w6.heap.size := Nat.lt_of_lt_of_le k15 hb6.size
          have k26 : w.heap.size + 1 + 1 < w6.heap.size := Nat.lt_of_lt_of_le k25 hb6.size
          have ko6 : wr.heap.size < w6.heap.size := Nat.lt_of_lt_of_le ko5 hb6.size
          have kg6 : wg.heap.size < w6.heap.size := Nat.lt_of_lt_of_le kg5 hb6.size
          have kv6 : wg.heap.size + 1 < w6.heap.size := Nat.lt_of_lt_of_le kv5 hb6.size
          clear d5 r5 x5 fr5 fx5 c05 c15 c25 c35 c45 c55 c65 c75 c85 g05 g15 g25 v05 v15 v25 fv05 fv15 fv25 k05 k15 k25 ko5 kg5 kv5
          have hbg6 := hbg5.trans (hb6.mono hbg5.size)
          clear hb6 hbw5 hp5
          cases b2
          ·skip
           have h3 : dApply l os = if (1 : Int) ≠ 0 ∧ false = false ∧ 50 ≤ x.length then (l, 6) else apGo l (dSet x xy ⟨(1 : Int), (gn + xn), ⟨#[]⟩⟩) (os.drop (k + 1)) := by rw [HST4.out, if_neg (by rw [HB1.out, HB2.out]; simp)]; first | done | rfl | simp
           have H3 := hid h3; clear h3
           obtain ⟨w7, hw7⟩ : ∃ w7, ((w6.setCell ⟨wg.heap.size + 1, 0, none⟩ (.int .i64 1)).setCell ⟨wg.heap.size + 1, 1, none⟩ (.int .i64 (gn + xn))).setCell ⟨wg.heap.size + 1, 2, none⟩ (.string ⟨#[]⟩) = w7 := ⟨_, rfl⟩
           have hb7 : Below (wg.heap.size + 1) w6 w7 := by rw [← hw7]; exact (((Below.refl _ _).setCell (p := ⟨wg.heap.size + 1, 0, none⟩) (Nat.le_refl _) _).setCell (p := ⟨wg.heap.size + 1, 1, none⟩) (Nat.le_refl _) _).setCell (p := ⟨wg.heap.size + 1, 2, none⟩) (Nat.le_refl _) _
           have hbg7 := hbg6.trans (hb7.mono (Nat.le_succ _))
           have hp7 := hpg.below hbg7
           have hbw7 : Below w.heap.size w w7 := hbw6.trans (hb7.mono (by omega))
           have v07 : w7.cell? ⟨wg.heap.size + 1, 0, none⟩ = some (.int .i64 1) := by rw [← hw7]; exact (vset _ _ _ _ _ _ _ _ v06 v16 v26).1
           have v17 : w7.cell? ⟨wg.heap.size + 1, 1, none⟩ = some (.int .i64 (gn + xn)) := by rw [← hw7]; exact (vset _ _ _ _ _ _ _ _ v06 v16 v26).2.1
           have v27 : w7.cell? ⟨wg.heap.size + 1, 2, none⟩ = some (.string ⟨#[]⟩) := by rw [← hw7]; exact (vset _ _ _ _ _ _ _ _ v06 v16 v26).2.2
           have d7 : w7.cell? ⟨w.heap.size, 0, none⟩ = some (.slice A l.length c) := (hbg7.cell (p := ⟨w.heap.size, 0, none⟩) k0g).trans dg
           have r7 : w7.cell? ⟨w.heap.size + 1, 0, none⟩ = some (.slice none 0 0) := (hbg7.cell (p := ⟨w.heap.size + 1, 0, none⟩) k1g).trans rg
           have x7 : w7.cell? ⟨w.heap.size + 1 + 1, 0, none⟩ = some (.slice E x.length ec) := (hbg7.cell (p := ⟨w.heap.size + 1 + 1, 0, none⟩) k2g).trans xg
           have fr7 : w7.frozen? ⟨w.heap.size + 1, 0, none⟩ = false := (hbg7.frozen (p := ⟨w.heap.size + 1, 0, none⟩) k1g).trans frg
           have fx7 : w7.frozen? ⟨w.heap.size + 1 + 1, 0, none⟩ = false := (hbg7.frozen (p := ⟨w.heap.size + 1 + 1, 0, none⟩) k2g).trans fxg
           have k07 : w.heap.size < w7.heap.size := Nat.lt_of_lt_of_le k0g hbg7.size
           have k17 : w.heap.size + 1 < w7.heap.size := Nat.lt_of_lt_of_le k1g hbg7.size
           have k27 : w.heap.size + 1 + 1 < w7.heap.size := Nat.lt_of_lt_of_le k2g hbg7.size
           have HW7 := hid hw7; clear hw7 hb7 hbg7
           by_cases hlim : 50 ≤ x.length
           ·have hf : dApply l os = (l, 6) := by rw [H3.out, if_pos ⟨by decide, rfl, hlim⟩]
            have m4 : (50 : Int) ≤ (x.length : Int) := by omega
            have HF := hid hf; clear hf
            go_wp2
            rw [HW7.out]
            refine bodyPost_ret (v := .tuple #[.agg #[.slice A l.length c], .int .i64 6]) ?_ rfl ⟨.slice A l.length c, by rw [HF.out]; rfl, ?_, ?_⟩
            ·simp [results, Tryz.results29, go_sem, r7]
            ·rw [HF.out]; exact (HPR.out.keep (hbw7.setCell (p := ⟨w.heap.size + 1, 0, none⟩) (Nat.le_succ _) _) hB).more (by have := hbw7.size; simp; omega)
            ·exact hbw7.setCell (p := ⟨w.heap.size + 1, 0, none⟩) (Nat.le_succ _) _
           ·have hl3 : dApply l os = apGo l (dSet x xy ⟨1, gn + xn, ⟨#[]⟩⟩) (os.drop (k + 1)) := by rw [H3.out, if_neg (fun h => hlim h.2.2)]
            have m4 : (x.length : Int) < 50 := by omega
            have HL3 := hid hl3; clear hl3
            have hdx : DocV w7 w7.heap.size (.agg #[.slice E x.length ec]) x := ⟨_, rfl, hp7.prs⟩
            have HDX := hid hdx; clear hdx
            go_wp2_with fail
            rw [HW7.out]
            refine (rdocSet_is _ x xy 1 (gn + xn) ⟨#[]⟩ _ HDX.out (by omega) hks HXK.out).mono ?_
            rintro e wz ⟨z, rfl, hownz, hbz⟩
            obtain ⟨Z, zc, rfl⟩ := own_slice hownz
            have hbwz := hbw7.trans (hbz.mono hbw7.size)
            have dz : wz.cell? ⟨w.heap.size, 0, none⟩ = some (.slice A l.length c) := (hbz.cell (p := ⟨w.heap.size, 0, none⟩) k07).trans d7
            have rz : wz.cell? ⟨w.heap.size + 1, 0, none⟩ = some (.slice none 0 0) := (hbz.cell (p := ⟨w.heap.size + 1, 0, none⟩) k17).trans r7
            have xz : wz.cell? ⟨w.heap.size + 1 + 1, 0, none⟩ = some (.slice E x.length ec) := (hbz.cell (p := ⟨w.heap.size + 1 + 1, 0, none⟩) k27).trans x7
            have frz : wz.frozen? ⟨w.heap.size + 1, 0, none⟩ = false := (hbz.frozen (p := ⟨w.heap.size + 1, 0, none⟩) k17).trans fr7
            have fxz : wz.frozen? ⟨w.heap.size + 1 + 1, 0, none⟩ = false := (hbz.frozen (p := ⟨w.heap.size + 1 + 1, 0, none⟩) k27).trans fx7
            have k0z : w.heap.size < wz.heap.size := Nat.lt_of_lt_of_le k07 hbz.size
            have k1z : w.heap.size + 1 < wz.heap.size := Nat.lt_of_lt_of_le k17 hbz.size
            have k2z : w.heap.size + 1 + 1 < wz.heap.size := Nat.lt_of_lt_of_le k27 hbz.size
            clear HDX hbz
            go_wp2
            go_roundw
            case rel =>
             have hzl := dSet_len x xy ⟨1, gn + xn, ⟨#[]⟩⟩
             refine ⟨k + 1, dSet x xy ⟨1, gn + xn, ⟨#[]⟩⟩, Z, zc, by go_num, by omega, hbwz.setCell (p := ⟨w.heap.size + 1 + 1, 0, none⟩) (by show w.heap.size ≤ w.heap.size + 1 + 1; omega) _, by rw [nblk_set]; exact k2z, ?_, ?_, ?_, ?_, ?_, ?_, HL3.out.symm, by omega, dSet_keys HXK.out hks⟩
             ·go_simp
             ·go_simp
             ·go_simp
             ·go_simp
             ·go_simp
             ·exact (PrsF.of_own hownz (by omega)).set (by show w.heap.size ≤ w.heap.size + 1 + 1; omega) (by show w.heap.size + 1 + 1 < w.heap.size + 1 + 1 + 1; omega)
            case measure => simp [intOf]; omega
          ·have hf : dApply l os = (l, 4) := by rw [HST4.out]; simp [HB2.out]
           have HF := hid hf; clear hf
           go_wp2
           refine bodyPost_ret (v := .tuple #[.agg #[.slice A l.length c], .int .i64 4]) ?_ rfl ⟨.slice A l.length c, by rw [HF.out]; rfl, ?_, ?_⟩
           ·simp [results, Tryz.results29, go_sem, r6]
           ·rw [HF.out]; exact (HPR.out.keep (hbw6.setCell (p := ⟨w.heap.size + 1, 0, none⟩) (Nat.le_succ _) _) hB).more (by have := hbw6.size; simp; omega)
           ·exact hbw6.setCell (p := ⟨w.heap.size + 1, 0, none⟩) (Nat.le_succ _) _
         ·have hf : dApply l os = (l, 4) := by rw [HST4.out]; simp [HB1.out]
          have HF := hid hf; clear hf
          go_wp2
          refine bodyPost_ret (v := .tuple #[.agg #[.slice A l.length c], .int .i64 4]) ?_ rfl ⟨.slice A l.length c, by rw [HF.out]; rfl, ?_, ?_⟩
          ·simp [results, Tryz.results29, go_sem, r5]
          ·rw [HF.out]; exact (HPR.out.keep (hbw5.setCell (p := ⟨w.heap.size + 1, 0, none⟩) (Nat.le_succ _) _) hB).more (by have := hbw5.size; simp; omega)
          ·exact hbw5.setCell (p := ⟨w.heap.size + 1, 0, none⟩) (Nat.le_succ _) _
        ·have m7 : (gk != 1) = false := by
          by_cases a : gk = 1
          ·rw [a]; rfl
          ·exact absurd ⟨rfl, a⟩ hk7
         clear hk7
         go_wp2_with fail
         rw [HWV.out]
         refine (rfar_is gn b1 _ HB1.out).mono ?_
         rintro e w5 ⟨rfl, hb5⟩
         have hbw5 := hbwv.trans (hb5.mono hbwv.size)
         have hp5 := hpv.below hb5
         have d5 : w5.cell? ⟨w.heap.size, 0, none⟩ = some (.slice A l.length c) := (hb5.cell (p := ⟨w.heap.size, 0, none⟩) k0v).trans dv
         have r5 : w5.cell? ⟨w.heap.size + 1, 0, none⟩ = some (.slice none 0 0) := (hb5.cell (p := ⟨w.heap.size + 1, 0, none⟩) k1v).trans rv
         have x5 : w5.cell? ⟨w.heap.size + 1 + 1, 0, none⟩ = some (.slice E x.length ec) := (hb5.cell (p := ⟨w.heap.size + 1 + 1, 0, none⟩) k2v).trans xv
         have fr5 : w5.frozen? ⟨w.heap.size + 1, 0, none⟩ = false := (hb5.frozen (p := ⟨w.heap.size + 1, 0, none⟩) k1v).trans frv
         have fx5 : w5.frozen? ⟨w.heap.size + 1 + 1, 0, none⟩ = false := (hb5.frozen (p := ⟨w.heap.size + 1 + 1, 0, none⟩) k2v).trans fxv
         have c05 : w5.cell? ⟨wr.heap.size, 0, none⟩ = some (.int .i64 4) := (hb5.cell (p := ⟨wr.heap.size, 0, none⟩) kov).trans c0v
         have c15 : w5.cell? ⟨wr.heap.size, 1, none⟩ = some (.string xy) := (hb5.cell (p := ⟨wr.heap.size, 1, none⟩) kov).trans c1v
         have c25 : w5.cell? ⟨wr.heap.size, 2, none⟩ = some (.int .i64 vk) := (hb5.cell (p := ⟨wr.heap.size, 2, none⟩) kov).trans c2v
         have c35 : w5.cell? ⟨wr.heap.size, 3, none⟩ = some (.int .i64 vn) := (hb5.cell (p := ⟨wr.heap.size, 3, none⟩) kov).trans c3v
         have c45 : w5.cell? ⟨wr.heap.size, 4, none⟩ = some (.string vs) := (hb5.cell (p := ⟨wr.heap.size, 4, none⟩) kov).trans c4v
         have c55 : w5.cell? ⟨wr.heap.size, 5, none⟩ = some (.int .i64 ok) := (hb5.cell (p := ⟨wr.heap.size, 5, none⟩) kov).trans c5v
         have c65 : w5.cell? ⟨wr.heap.size, 6, none⟩ = some (.int .i64 on) := (hb5.cell (p := ⟨wr.heap.size, 6, none⟩) kov).trans c6v
         have c75 : w5.cell? ⟨wr.heap.size, 7, none⟩ = some (.string os2) := (hb5.cell (p := ⟨wr.heap.size, 7, none⟩) kov).trans c7v
         have c85 : w5.cell? ⟨wr.heap.size, 8, none⟩ = some (.int .i64 xn) := (hb5.cell (p := ⟨wr.heap.size, 8, none⟩) kov).trans c8v
         have g05 : w5.cell? ⟨wg.heap.size, 0, none⟩ = some (.int .i64 gk) := (hb5.cell (p := ⟨wg.heap.size, 0, none⟩) kgv).trans g0v
         have g15 : w5.cell? ⟨wg.heap.size, 1, none⟩ = some (.int .i64 gn) := (hb5.cell (p := ⟨wg.heap.size, 1, none⟩) kgv).trans g1v
         have g25 : w5.cell? ⟨wg.heap.size, 2, none⟩ = some (.string gs) := (hb5.cell (p := ⟨wg.heap.size, 2, none⟩) kgv).trans g2v
         have v05 : w5.cell? ⟨wg.heap.size + 1, 0, none⟩ = some (.int .i64 vk) := (hb5.cell (p := ⟨wg.heap.size + 1, 0, none⟩) kvv).trans v0v
         have v15 : w5.cell? ⟨wg.heap.size + 1, 1, none⟩ = some (.int .i64 vn) := (hb5.cell (p := ⟨wg.heap.size + 1, 1, none⟩) kvv).trans v1v
         have v25 : w5.cell? ⟨wg.heap.size + 1, 2, none⟩ = some (.string vs) := (hb5.cell (p := ⟨wg.heap.size + 1, 2, none⟩) kvv).trans v2v
         have fv05 : w5.frozen? ⟨wg.heap.size + 1, 0, none⟩ = false := (hb5.frozen (p := ⟨wg.heap.size + 1, 0, none⟩) kvv).trans fv0v
         have fv15 : w5.frozen? ⟨wg.heap.size + 1, 1, none⟩ = false := (hb5.frozen (p := ⟨wg.heap.size + 1, 1, none⟩) kvv).trans fv1v
         have fv25 : w5.frozen? ⟨wg.heap.size + 1, 2, none⟩ = false := (hb5.frozen (p := ⟨wg.heap.size + 1, 2, none⟩) kvv).trans fv2v
         have k05 : w.heap.size < w5.heap.size := Nat.lt_of_lt_of_le k0v hb5.size
         have k15 : w.heap.size + 1 < w5.heap.size := Nat.lt_of_lt_of_le k1v hb5.size
         have k25 : w.heap.size + 1 + 1 < w5.heap.size := Nat.lt_of_lt_of_le k2v hb5.size
         have ko5 : wr.heap.size < w5.heap.size := Nat.lt_of_lt_of_le kov hb5.size
         have kg5 : wg.heap.size < w5.heap.size := Nat.lt_of_lt_of_le kgv hb5.size
         have kv5 : wg.heap.size + 1 < w5.heap.size := Nat.lt_of_lt_of_le kvv hb5.size
         clear dv rv xv frv fxv c0v c1v c2v c3v c4v c5v c6v c7v c8v g0v g1v g2v v0v v1v v2v fv0v fv1v fv2v k0v k1v k2v kov kgv kvv
         clear c0g c1g c2g c3g c4g c5g c6g c7g c8g 
         have hbg5 := hbv.trans (hb5.mono hbv.size)
         clear hb5 hbwv hpv
         cases b1
         ·skip
          have hgn : -4611686018427387904 ≤ gn ∧ gn ≤ 4611686018427387904 := by
           have := HB1.out; unfold farB at this; simp at this; omega
          obtain ⟨hgn1, hgn2⟩ := hgn
          go_wp2_with fail
          refine (rfar_is (gn + xn) b2 _ HB2.out).mono ?_
          rintro e w6 ⟨rfl, hb6⟩
          have hbw6 := hbw5.trans (hb6.mono hbw5.size)
          have hp6 := hp5.below hb6
          have d6 : w6.cell? ⟨w.heap.size, 0, none⟩ = some (.slice A l.length c) := (hb6.cell (p := ⟨w.heap.size, 0, none⟩) k05).trans d5
          have r6 : w6.cell? ⟨w.heap.size + 1, 0, none⟩ = some (.slice none 0 0) := (hb6.cell (p := ⟨w.heap.size + 1, 0, none⟩) k15).trans r5
          have x6 : w6.cell? ⟨w.heap.size + 1 + 1, 0, none⟩ = some (.slice E x.length ec) := (hb6.cell (p := ⟨w.heap.size + 1 + 1, 0, none⟩) k25).trans x5
          have fr6 : w6.frozen? ⟨w.heap.size + 1, 0, none⟩ = false := (hb6.frozen (p := ⟨w.heap.size + 1, 0, none⟩) k15).trans fr5
          have fx6 : w6.frozen? ⟨w.heap.size + 1 + 1, 0, none⟩ = false := (hb6.frozen (p := ⟨w.heap.size + 1 + 1, 0, none⟩) k25).trans fx5
          have c06 : w6.cell? ⟨wr.heap.size, 0, none⟩ = some (.int .i64 4) := (hb6.cell (p := ⟨wr.heap.size, 0, none⟩) ko5).trans c05
          have c16 : w6.cell? ⟨wr.heap.size, 1, none⟩ = some (.string xy) := (hb6.cell (p := ⟨wr.heap.size, 1, none⟩) ko5).trans c15
          have c26 : w6.cell? ⟨wr.heap.size, 2, none⟩ = some (.int .i64 vk) := (hb6.cell (p := ⟨wr.heap.size, 2, none⟩) ko5).trans c25
          have c36 : w6.cell? ⟨wr.heap.size, 3, none⟩ = some (.int .i64 vn) := (hb6.cell (p := ⟨wr.heap.size, 3, none⟩) ko5).trans c35
          have c46 : w6.cell? ⟨wr.heap.size, 4, none⟩ = some (.string vs) := (hb6.cell (p := ⟨wr.heap.size, 4, none⟩) ko5).trans c45
          have c56 : w6.cell? ⟨wr.heap.size, 5, none⟩ = some (.int .i64 ok) := (hb6.cell (p := ⟨wr.heap.size, 5, none⟩) ko5).trans c55
          have c66 : w6.cell? ⟨wr.heap.size, 6, none⟩ = some (.int .i64 on) := (hb6.cell (p := ⟨wr.heap.size, 6, none⟩) ko5).trans c65
          have c76 : w6.cell? ⟨wr.heap.size, 7, none⟩ = some (.string os2) := (hb6.cell (p := ⟨wr.heap.size, 7, none⟩) ko5).trans c75
          have c86 : w6.cell? ⟨wr.heap.size, 8, none⟩ = some (.int .i64 xn) := (hb6.cell (p := ⟨wr.heap.size, 8, none⟩) ko5).trans c85
          have g06 : w6.cell? ⟨wg.heap.size, 0, none⟩ = some (.int .i64 gk) := (hb6.cell (p := ⟨wg.heap.size, 0, none⟩) kg5).trans g05
          have g16 : w6.cell? ⟨wg.heap.size, 1, none⟩ = some (.int .i64 gn) := (hb6.cell (p := ⟨wg.heap.size, 1, none⟩) kg5).trans g15
          have g26 : w6.cell? ⟨wg.heap.size, 2, none⟩ = some (.string gs) := (hb6.cell (p := ⟨wg.heap.size, 2, none⟩) kg5).trans g25
          have v06 : w6.cell? ⟨wg.heap.size + 1, 0, none⟩ = some (.int .i64 vk) := (hb6.cell (p := ⟨wg.heap.size + 1, 0, none⟩) kv5).trans v05
          have v16 : w6.cell? ⟨wg.heap.size + 1, 1, none⟩ = some (.int .i64 vn) := (hb6.cell (p := ⟨wg.heap.size + 1, 1, none⟩) kv5).trans v15
          have v26 : w6.cell? ⟨wg.heap.size + 1, 2, none⟩ = some (.string vs) := (hb6.cell (p := ⟨wg.heap.size + 1, 2, none⟩) kv5).trans v25
          have fv06 : w6.frozen? ⟨wg.heap.size + 1, 0, none⟩ = false := (hb6.frozen (p := ⟨wg.heap.size + 1, 0, none⟩) kv5).trans fv05
          have fv16 : w6.frozen? ⟨wg.heap.size + 1, 1, none⟩ = false := (hb6.frozen (p := ⟨wg.heap.size + 1, 1, none⟩) kv5).trans fv15
          have fv26 : w6.frozen? ⟨wg.heap.size + 1, 2, none⟩ = false := (hb6.frozen (p := ⟨wg.heap.size + 1, 2, none⟩) kv5).trans fv25
          have k06 : w.heap.size < w6.heap.size := Nat.lt_of_lt_of_le k05 hb6.size
          have k16 : w.heap.size + 1 < w6.heap.size := Nat.lt_of_lt_of_le k15 hb6.size
          have k26 : w.heap.size + 1 + 1 < w6.heap.size := Nat.lt_of_lt_of_le k25 hb6.size
          have ko6 : wr.heap.size < w6.heap.size := Nat.lt_of_lt_of_le ko5 hb6.size
          have kg6 : wg.heap.size < w6.heap.size := Nat.lt_of_lt_of_le kg5 hb6.size
          have kv6 : wg.heap.size + 1 < w6.heap.size := Nat.lt_of_lt_of_le kv5 hb6.size
          clear d5 r5 x5 fr5 fx5 c05 c15 c25 c35 c45 c55 c65 c75 c85 g05 g15 g25 v05 v15 v25 fv05 fv15 fv25 k05 k15 k25 ko5 kg5 kv5
          have hbg6 := hbg5.trans (hb6.mono hbg5.size)
          clear hb6 hbw5 hp5
          cases b2
          ·skip
           have h3 : dApply l os = if (1 : Int) ≠ 0 ∧ true = false ∧ 50 ≤ x.length then (l, 6) else apGo l (dSet x xy ⟨(1 : Int), (gn + xn), ⟨#[]⟩⟩) (os.drop (k + 1)) := by rw [HST4.out, if_neg (by rw [HB1.out, HB2.out]; simp)]; first | done | rfl | simp
           have H3 := hid h3; clear h3
           obtain ⟨w7, hw7⟩ : ∃ w7, ((w6.setCell ⟨wg.heap.size + 1, 0, none⟩ (.int .i64 1)).setCell ⟨wg.heap.size + 1, 1, none⟩ (.int .i64 (gn + xn))).setCell ⟨wg.heap.size + 1, 2, none⟩ (.string ⟨#[]⟩) = w7 := ⟨_, rfl⟩
           have hb7 : Below (wg.heap.size + 1) w6 w7 := by rw [← hw7]; exact (((Below.refl _ _).setCell (p := ⟨wg.heap.size + 1, 0, none⟩) (Nat.le_refl _) _).setCell (p := ⟨wg.heap.size + 1, 1, none⟩) (Nat.le_refl _) _).setCell (p := ⟨wg.heap.size + 1, 2, none⟩) (Nat.le_refl _) _
           have hbg7 := hbg6.trans (hb7.mono (Nat.le_succ _))
           have hp7 := hpg.below hbg7
           have hbw7 : Below w.heap.size w w7 := hbw6.trans (hb7.mono (by omega))
           have v07 : w7.cell? ⟨wg.heap.size + 1, 0, none⟩ = some (.int .i64 1) := by rw [← hw7]; exact (vset _ _ _ _ _ _ _ _ v06 v16 v26).1
           have v17 : w7.cell? ⟨wg.heap.size + 1, 1, none⟩ = some (.int .i64 (gn + xn)) := by rw [← hw7]; exact (vset _ _ _ _ _ _ _ _ v06 v16 v26).2.1
           have v27 : w7.cell? ⟨wg.heap.size + 1, 2, none⟩ = some (.string ⟨#[]⟩) := by rw [← hw7]; exact (vset _ _ _ _ _ _ _ _ v06 v16 v26).2.2
           have d7 : w7.cell? ⟨w.heap.size, 0, none⟩ = some (.slice A l.length c) := (hbg7.cell (p := ⟨w.heap.size, 0, none⟩) k0g).trans dg
           have r7 : w7.cell? ⟨w.heap.size + 1, 0, none⟩ = some (.slice none 0 0) := (hbg7.cell (p := ⟨w.heap.size + 1, 0, none⟩) k1g).trans rg
           have x7 : w7.cell? ⟨w.heap.size + 1 + 1, 0, none⟩ = some (.slice E x.length ec) := (hbg7.cell (p := ⟨w.heap.size + 1 + 1, 0, none⟩) k2g).trans xg
           have fr7 : w7.frozen? ⟨w.heap.size + 1, 0, none⟩ = false := (hbg7.frozen (p := ⟨w.heap.size + 1, 0, none⟩) k1g).trans frg
           have fx7 : w7.frozen? ⟨w.heap.size + 1 + 1, 0, none⟩ = false := (hbg7.frozen (p := ⟨w.heap.size + 1 + 1, 0, none⟩) k2g).trans fxg
           have k07 : w.heap.size < w7.heap.size := Nat.lt_of_lt_of_le k0g hbg7.size
           have k17 : w.heap.size + 1 < w7.heap.size := Nat.lt_of_lt_of_le k1g hbg7.size
           have k27 : w.heap.size + 1 + 1 < w7.heap.size := Nat.lt_of_lt_of_le k2g hbg7.size
           have HW7 := hid hw7; clear hw7 hb7 hbg7
           have hl3 : dApply l os = apGo l (dSet x xy ⟨1, gn + xn, ⟨#[]⟩⟩) (os.drop (k + 1)) := by rw [H3.out, if_neg (by simp)]
           have HL3 := hid hl3; clear hl3
           have hdx : DocV w7 w7.heap.size (.agg #[.slice E x.length ec]) x := ⟨_, rfl, hp7.prs⟩
           have HDX := hid hdx; clear hdx
           go_wp2_with fail
           rw [HW7.out]
           refine (rdocSet_is _ x xy 1 (gn + xn) ⟨#[]⟩ _ HDX.out (by omega) hks HXK.out).mono ?_
           rintro e wz ⟨z, rfl, hownz, hbz⟩
           obtain ⟨Z, zc, rfl⟩ := own_slice hownz
           have hbwz := hbw7.trans (hbz.mono hbw7.size)
           have dz : wz.cell? ⟨w.heap.size, 0, none⟩ = some (.slice A l.length c) := (hbz.cell (p := ⟨w.heap.size, 0, none⟩) k07).trans d7
           have rz : wz.cell? ⟨w.heap.size + 1, 0, none⟩ = some (.slice none 0 0) := (hbz.cell (p := ⟨w.heap.size + 1, 0, none⟩) k17).trans r7
           have xz : wz.cell? ⟨w.heap.size + 1 + 1, 0, none⟩ = some (.slice E x.length ec) := (hbz.cell (p := ⟨w.heap.size + 1 + 1, 0, none⟩) k27).trans x7
           have frz : wz.frozen? ⟨w.heap.size + 1, 0, none⟩ = false := (hbz.frozen (p := ⟨w.heap.size + 1, 0, none⟩) k17).trans fr7
           have fxz : wz.frozen? ⟨w.heap.size + 1 + 1, 0, none⟩ = false := (hbz.frozen (p := ⟨w.heap.size + 1 + 1, 0, none⟩) k27).trans fx7
           have k0z : w.heap.size < wz.heap.size := Nat.lt_of_lt_of_le k07 hbz.size
           have k1z : w.heap.size + 1 < wz.heap.size := Nat.lt_of_lt_of_le k17 hbz.size
           have k2z : w.heap.size + 1 + 1 < wz.heap.size := Nat.lt_of_lt_of_le k27 hbz.size
           clear HDX hbz
           go_wp2
           go_roundw
           case rel =>
            have hzl := dSet_len x xy ⟨1, gn + xn, ⟨#[]⟩⟩
            refine ⟨k + 1, dSet x xy ⟨1, gn + xn, ⟨#[]⟩⟩, Z, zc, by go_num, by omega, hbwz.setCell (p := ⟨w.heap.size + 1 + 1, 0, none⟩) (by show w.heap.size ≤ w.heap.size + 1 + 1; omega) _, by rw [nblk_set]; exact k2z, ?_, ?_, ?_, ?_, ?_, ?_, HL3.out.symm, by omega, dSet_keys HXK.out hks⟩
            ·go_simp
            ·go_simp
            ·go_simp
            ·go_simp
            ·go_simp
            ·exact (PrsF.of_own hownz (by omega)).set (by show w.heap.size ≤ w.heap.size + 1 + 1; omega) (by show w.heap.size + 1 + 1 < w.heap.size + 1 + 1 + 1; omega)
           case measure => simp [intOf]; omega
          ·have hf : dApply l os = (l, 4) := by rw [HST4.out]; simp [HB2.out]
           have HF := hid hf; clear hf
           go_wp2
           refine bodyPost_ret (v := .tuple #[.agg #[.slice A l.length c], .int .i64 4]) ?_ rfl ⟨.slice A l.length c, by rw [HF.out]; rfl, ?_, ?_⟩
           ·simp [results, Tryz.results29, go_sem, r6]
           ·rw [HF.out]; exact (HPR.out.keep (hbw6.setCell (p := ⟨w.heap.size + 1, 0, none⟩) (Nat.le_succ _) _) hB).more (by have := hbw6.size; simp; omega)
           ·exact hbw6.setCell (p := ⟨w.heap.size + 1, 0, none⟩) (Nat.le_succ _) _
         ·have hf : dApply l os = (l, 4) := by rw [HST4.out]; simp [HB1.out]
          have HF := hid hf; clear hf
          go_wp2
          refine bodyPost_ret (v := .tuple #[.agg #[.slice A l.length c], .int .i64 4]) ?_ rfl ⟨.slice A l.length c, by rw [HF.out]; rfl, ?_, ?_⟩
          ·simp [results, Tryz.results29, go_sem, r5]
          ·rw [HF.out]; exact (HPR.out.keep (hbw5.setCell (p := ⟨w.heap.size + 1, 0, none⟩) (Nat.le_succ _) _) hB).more (by have := hbw5.size; simp; omega)
          ·exact hbw5.setCell (p := ⟨w.heap.size + 1, 0, none⟩) (Nat.le_succ _) _
      ·have t3 : (xk == 3) = false := by rw [beq_eq_false_iff_ne]; exact q3
       have t4 : (xk == 4) = false := by rw [beq_eq_false_iff_ne]; exact q4
       have h3 : dApply l os = if vk ≠ 0 ∧ th = false ∧ 50 ≤ x.length then (l, 6) else apGo l (dSet x xy ⟨vk, vn, vs⟩) (os.drop (k + 1)) := by rw [← HGO.out, HST2.out]; simp [q3, q4, apV]
       have H3 := hid h3; clear h3
       have Q3 := hid q3; have Q4 := hid q4; clear q3 q4
       by_cases hlim : vk ≠ 0 ∧ th = false ∧ 50 ≤ x.length
       ·have hf : dApply l os = (l, 6) := by rw [H3.out, if_pos hlim]
        obtain ⟨m1, rfl, m3⟩ := hlim
        have m2 : ((vk : Int) != 0) = true := by rw [bne_iff_ne]; exact m1
        have m4 : (50 : Int) ≤ (x.length : Int) := by omega
        have M1 := hid m1; clear m1
        have HF := hid hf; clear hf
        go_wp2
        have hbq := ((hbwg.setCell (p := ⟨w.heap.size + 1, 0, none⟩) (Nat.le_succ _) (.slice A l.length c)).alloc (by rw [nblk_set]; exact hbwg.size) (Obj.cells #[.int .i64 gk, .int .i64 gn, .string gs] 62)).alloc (by have := hbwg.size; simp; omega) (Obj.cells #[.int .i64 vk, .int .i64 vn, .string vs] 62)
        have hrq := ((below_two (wg.setCell ⟨w.heap.size + 1, 0, none⟩ (.slice A l.length c)) (Obj.cells #[.int .i64 gk, .int .i64 gn, .string gs] 62) (Obj.cells #[.int .i64 vk, .int .i64 vn, .string vs] 62)).cell (p := ⟨w.heap.size + 1, 0, none⟩) (by rw [nblk_set]; exact k1g)).trans (World.cell?_setCell_same _ _ _ rg)
        refine bodyPost_ret (v := .tuple #[.agg #[.slice A l.length c], .int .i64 6]) ?_ rfl ⟨.slice A l.length c, by rw [HF.out]; rfl, ?_, hbq⟩
        ·simp [results, Tryz.results29, go_sem, hrq]
        ·rw [HF.out]; exact (HPR.out.keep hbq hB).more (Nat.le_trans hB hbq.size)
       ·have hl3 : dApply l os = apGo l (dSet x xy ⟨vk, vn, vs⟩) (os.drop (k + 1)) := by rw [H3.out, if_neg hlim]
        have HL3 := hid hl3; clear hl3
        have hcs : (vk : Int) = 0 ∨ (vk ≠ (0 : Int) ∧ th = true) ∨ (vk ≠ (0 : Int) ∧ th = false ∧ x.length < 50) := by
         by_cases a : (vk : Int) = 0
         ·exact .inl a
         ·cases th
          ·exact .inr (.inr ⟨a, rfl, Nat.lt_of_not_le fun h => hlim ⟨a, rfl, h⟩⟩)
          ·exact .inr (.inl ⟨a, rfl⟩)
        clear hlim
        rcases hcs with m1 | ⟨m1, rfl⟩ | ⟨m1, rfl, m3⟩
        ·have m2 : ((vk : Int) != 0) = false := by rw [m1]; rfl
         have M1 := hid m1; clear m1
         have hdx : DocV wv wv.heap.size (.agg #[.slice E x.length ec]) x := ⟨_, rfl, hpv.prs⟩
         have HDX := hid hdx; clear hdx
         go_wp2_with fail
         rw [HWV.out]
         refine (rdocSet_is _ x xy vk vn vs _ HDX.out (by omega) hks HXK.out).mono ?_
         rintro e wz ⟨z, rfl, hownz, hbz⟩
         obtain ⟨Z, zc, rfl⟩ := own_slice hownz
         have hbwz := hbwv.trans (hbz.mono hbwv.size)
         have dz : wz.cell? ⟨w.heap.size, 0, none⟩ = some (.slice A l.length c) := (hbz.cell (p := ⟨w.heap.size, 0, none⟩) k0v).trans dv
         have rz : wz.cell? ⟨w.heap.size + 1, 0, none⟩ = some (.slice none 0 0) := (hbz.cell (p := ⟨w.heap.size + 1, 0, none⟩) k1v).trans rv
         have xz : wz.cell? ⟨w.heap.size + 1 + 1, 0, none⟩ = some (.slice E x.length ec) := (hbz.cell (p := ⟨w.heap.size + 1 + 1, 0, none⟩) k2v).trans xv
         have frz : wz.frozen? ⟨w.heap.size + 1, 0, none⟩ = false := (hbz.frozen (p := ⟨w.heap.size + 1, 0, none⟩) k1v).trans frv
         have fxz : wz.frozen? ⟨w.heap.size + 1 + 1, 0, none⟩ = false := (hbz.frozen (p := ⟨w.heap.size + 1 + 1, 0, none⟩) k2v).trans fxv
         have k0z : w.heap.size < wz.heap.size := Nat.lt_of_lt_of_le k0v hbz.size
         have k1z : w.heap.size + 1 < wz.heap.size := Nat.lt_of_lt_of_le k1v hbz.size
         have k2z : w.heap.size + 1 + 1 < wz.heap.size := Nat.lt_of_lt_of_le k2v hbz.size
         clear HDX hbz
         go_wp2
         go_roundw
         case rel =>
          have hzl := dSet_len x xy ⟨vk, vn, vs⟩
          refine ⟨k + 1, dSet x xy ⟨vk, vn, vs⟩, Z, zc, by go_num, by omega, hbwz.setCell (p := ⟨w.heap.size + 1 + 1, 0, none⟩) (by show w.heap.size ≤ w.heap.size + 1 + 1; omega) _, by rw [nblk_set]; exact k2z, ?_, ?_, ?_, ?_, ?_, ?_, HL3.out.symm, by omega, dSet_keys HXK.out hks⟩
          ·go_simp
          ·go_simp
          ·go_simp
          ·go_simp
          ·go_simp
          ·exact (PrsF.of_own hownz (by omega)).set (by show w.heap.size ≤ w.heap.size + 1 + 1; omega) (by show w.heap.size + 1 + 1 < w.heap.size + 1 + 1 + 1; omega)
         case measure => simp [intOf]; omega
        ·have m2 : ((vk : Int) != 0) = true := by rw [bne_iff_ne]; exact m1
         have M1 := hid m1; clear m1
         have hdx : DocV wv wv.heap.size (.agg #[.slice E x.length ec]) x := ⟨_, rfl, hpv.prs⟩
         have HDX := hid hdx; clear hdx
         go_wp2_with fail
         rw [HWV.out]
         refine (rdocSet_is _ x xy vk vn vs _ HDX.out (by omega) hks HXK.out).mono ?_
         rintro e wz ⟨z, rfl, hownz, hbz⟩
         obtain ⟨Z, zc, rfl⟩ := own_slice hownz
         have hbwz := hbwv.trans (hbz.mono hbwv.size)
         have dz : wz.cell? ⟨w.heap.size, 0, none⟩ = some (.slice A l.length c) := (hbz.cell (p := ⟨w.heap.size, 0, none⟩) k0v).trans dv
         have rz : wz.cell? ⟨w.heap.size + 1, 0, none⟩ = some (.slice none 0 0) := (hbz.cell (p := ⟨w.heap.size + 1, 0, none⟩) k1v).trans rv
         have xz : wz.cell? ⟨w.heap.size + 1 + 1, 0, none⟩ = some (.slice E x.length ec) := (hbz.cell (p := ⟨w.heap.size + 1 + 1, 0, none⟩) k2v).trans xv
         have frz : wz.frozen? ⟨w.heap.size + 1, 0, none⟩ = false := (hbz.frozen (p := ⟨w.heap.size + 1, 0, none⟩) k1v).trans frv
         have fxz : wz.frozen? ⟨w.heap.size + 1 + 1, 0, none⟩ = false := (hbz.frozen (p := ⟨w.heap.size + 1 + 1, 0, none⟩) k2v).trans fxv
         have k0z : w.heap.size < wz.heap.size := Nat.lt_of_lt_of_le k0v hbz.size
         have k1z : w.heap.size + 1 < wz.heap.size := Nat.lt_of_lt_of_le k1v hbz.size
         have k2z : w.heap.size + 1 + 1 < wz.heap.size := Nat.lt_of_lt_of_le k2v hbz.size
         clear HDX hbz
         go_wp2
         go_roundw
         case rel =>
          have hzl := dSet_len x xy ⟨vk, vn, vs⟩
          refine ⟨k + 1, dSet x xy ⟨vk, vn, vs⟩, Z, zc, by go_num, by omega, hbwz.setCell (p := ⟨w.heap.size + 1 + 1, 0, none⟩) (by show w.heap.size ≤ w.heap.size + 1 + 1; omega) _, by rw [nblk_set]; exact k2z, ?_, ?_, ?_, ?_, ?_, ?_, HL3.out.symm, by omega, dSet_keys HXK.out hks⟩
          ·go_simp
          ·go_simp
          ·go_simp
          ·go_simp
          ·go_simp
          ·exact (PrsF.of_own hownz (by omega)).set (by show w.heap.size ≤ w.heap.size + 1 + 1; omega) (by show w.heap.size + 1 + 1 < w.heap.size + 1 + 1 + 1; omega)
         case measure => simp [intOf]; omega
        ·have m2 : ((vk : Int) != 0) = true := by rw [bne_iff_ne]; exact m1
         have M1 := hid m1; clear m1
         have m4 : (x.length : Int) < 50 := by omega
         have hdx : DocV wv wv.heap.size (.agg #[.slice E x.length ec]) x := ⟨_, rfl, hpv.prs⟩
         have HDX := hid hdx; clear hdx
         go_wp2_with fail
         rw [HWV.out]
         refine (rdocSet_is _ x xy vk vn vs _ HDX.out (by omega) hks HXK.out).mono ?_
         rintro e wz ⟨z, rfl, hownz, hbz⟩
         obtain ⟨Z, zc, rfl⟩ := own_slice hownz
         have hbwz := hbwv.trans (hbz.mono hbwv.size)
         have dz : wz.cell? ⟨w.heap.size, 0, none⟩ = some (.slice A l.length c) := (hbz.cell (p := ⟨w.heap.size, 0, none⟩) k0v).trans dv
         have rz : wz.cell? ⟨w.heap.size + 1, 0, none⟩ = some (.slice none 0 0) := (hbz.cell (p := ⟨w.heap.size + 1, 0, none⟩) k1v).trans rv
         have xz : wz.cell? ⟨w.heap.size + 1 + 1, 0, none⟩ = some (.slice E x.length ec) := (hbz.cell (p := ⟨w.heap.size + 1 + 1, 0, none⟩) k2v).trans xv
         have frz : wz.frozen? ⟨w.heap.size + 1, 0, none⟩ = false := (hbz.frozen (p := ⟨w.heap.size + 1, 0, none⟩) k1v).trans frv
         have fxz : wz.frozen? ⟨w.heap.size + 1 + 1, 0, none⟩ = false := (hbz.frozen (p := ⟨w.heap.size + 1 + 1, 0, none⟩) k2v).trans fxv
         have k0z : w.heap.size < wz.heap.size := Nat.lt_of_lt_of_le k0v hbz.size
         have k1z : w.heap.size + 1 < wz.heap.size := Nat.lt_of_lt_of_le k1v hbz.size
         have k2z : w.heap.size + 1 + 1 < wz.heap.size := Nat.lt_of_lt_of_le k2v hbz.size
         clear HDX hbz
         go_wp2
         go_roundw
         case rel =>
          have hzl := dSet_len x xy ⟨vk, vn, vs⟩
          refine ⟨k + 1, dSet x xy ⟨vk, vn, vs⟩, Z, zc, by go_num, by omega, hbwz.setCell (p := ⟨w.heap.size + 1 + 1, 0, none⟩) (by show w.heap.size ≤ w.heap.size + 1 + 1; omega) _, by rw [nblk_set]; exact k2z, ?_, ?_, ?_, ?_, ?_, ?_, HL3.out.symm, by omega, dSet_keys HXK.out hks⟩
          ·go_simp
          ·go_simp
          ·go_simp
          ·go_simp
          ·go_simp
          ·exact (PrsF.of_own hownz (by omega)).set (by show w.heap.size ≤ w.heap.size + 1 + 1; omega) (by show w.heap.size + 1 + 1 < w.heap.size + 1 + 1 + 1; omega)
         case measure => simp [intOf]; omega
   ·have hfin : dApply l os = (x, 0) := by rw [← HGO.out, List.drop_of_length_le (by omega)]; rfl
    have HF := hid hfin; clear hfin
    go_wp2
    refine bodyPost_ret (v := .tuple #[.agg #[.slice E x.length ec], .int .i64 0]) ?_ rfl ⟨.slice E x.length ec, by rw [HF.out]; rfl, ?_, ?_⟩
    ·simp [results, Tryz.results29, go_sem, r1]
    ·rw [HF.out]; exact (PrsF.set HPX.out (Nat.le_succ _) (by show w.heap.size + 1 < _; omega)).prs
    ·exact hbw.setCell (p := ⟨w.heap.size + 1, 0, none⟩) (Nat.le_succ _) _
end Go.Proofs.YtegkhkcnoahhdaaGreat
