/-
  Contracts of the program's functions, of the reference's, and plain lemmas on what they answer (part 3 of 4).
  Each lemma names its conditions.
-/
import Derived.Test.YtdigpeipklfaeaaDoorBun2
import Derived.Deep.AppendLies
import Derived.Deep.MidRow
import Derived.Test.YtdigpeipklfaeaaDoorBun1
import Derived.Deep.RegionWith
/-
  What the reference's Decode of a record must answer, by what its numbers are.
  There are no conditions beyond those that each lemma names.
-/
set_option linter.unusedSimpArgs false
set_option linter.unusedVariables false
namespace Go.Proofs.YtdigpeipklfaeaaDoor
open Go.RowKit
set_option maxRecDepth 100000

theorem numsL_put (m : Nat) (n : Int) (r : List UInt8) (h0 : -9223372036854775808 ≤ n) (h1 : n ≤ 9223372036854775807) : numsL (m + 1) (Nu.put n ++ r) = (numsL m r).map fun x => (n :: x.1, x.2) := by
  rw [numsL_more (Nu.get_put n r h0 h1), List.drop_left]
theorem numsL_is : ∀ (m : Nat) (l : List UInt8) (xs : List Int) (r : List UInt8), numsL (m + 1) l = some (xs, r) → ∃ n xs' l', xs = n :: xs' ∧ l = Nu.put n ++ l' ∧ numsL m l' = some (xs', r) ∧ -9223372036854775808 ≤ n ∧ n ≤ 9223372036854775807 := by
  intro m l xs r h
  obtain ⟨⟨n, k, e⟩, hg⟩ : ∃ x, Nu.get l = x := ⟨_, rfl⟩
  by_cases he : e = 0
  · subst he
    rw [numsL_more hg] at h
    obtain ⟨⟨ys, r'⟩, hy, h2⟩ := Option.map_eq_some_iff.1 h
    simp only [Prod.mk.injEq] at h2
    obtain ⟨rfl, rfl⟩ := h2
    exact ⟨n, ys, l.drop k, rfl, Nu.get_split l n k hg, hy, (Nu.get_canon l n k hg).2.2⟩
  · rw [numsL_no hg he] at h; cases h
theorem nums2_is {l : List UInt8} {xs : List Int} {r : List UInt8} (h : numsL 2 l = some (xs, r)) : ∃ a b, xs = [a, b] ∧ l = Nu.put a ++ (Nu.put b ++ r) ∧ (-9223372036854775808 ≤ a ∧ a ≤ 9223372036854775807) ∧ (-9223372036854775808 ≤ b ∧ b ≤ 9223372036854775807) := by
  obtain ⟨a, xs1, l1, rfl, rfl, h1, ha⟩ := numsL_is 1 l xs r h
  obtain ⟨b, xs2, l2, rfl, rfl, h2, hb⟩ := numsL_is 0 l1 xs1 r h1
  have : numsL 0 l2 = some ([], l2) := rfl
  rw [this] at h2
  simp only [Option.some.injEq, Prod.mk.injEq] at h2
  obtain ⟨rfl, rfl⟩ := h2
  exact ⟨a, b, rfl, rfl, ha, hb⟩
theorem nums3_is {l : List UInt8} {xs : List Int} {r : List UInt8} (h : numsL 3 l = some (xs, r)) : ∃ a b c, xs = [a, b, c] ∧ l = Nu.put a ++ (Nu.put b ++ (Nu.put c ++ r)) ∧ (-9223372036854775808 ≤ a ∧ a ≤ 9223372036854775807) ∧ (-9223372036854775808 ≤ b ∧ b ≤ 9223372036854775807) ∧ (-9223372036854775808 ≤ c ∧ c ≤ 9223372036854775807) := by
  obtain ⟨a, xs1, l1, rfl, rfl, h1, ha⟩ := numsL_is 2 l xs r h
  obtain ⟨b, c, rfl, rfl, hb, hc⟩ := nums2_is h1
  exact ⟨a, b, c, rfl, rfl, ha, hb, hc⟩
theorem decR10_open {l b : List UInt8} {k n : Nat} (h : openB l = (k, b, n, 0)) : decR10 l = if (readR10 k b).2 = true then ((readR10 k b).1, n, 0) else (zRcd, 0, 3) := by
  unfold decR10; rw [h]; simp
theorem decR10_e {l b : List UInt8} {k n e : Nat} (h : openB l = (k, b, n, e)) (he : e ≠ 0) : decR10 l = (zRcd, 0, e) := by
  unfold decR10; rw [h, if_pos he]
/-- no record's body: nothing is told -/
theorem decR10_no {l b : List UInt8} {k n : Nat} (h : openB l = (k, b, n, 0)) (hn : ∀ r, may10 r = true → k = kind10 r → b ≠ body10 r) : decR10 l = (zRcd, 0, 3) := by
  rw [decR10_open h]
  obtain ⟨⟨r, y⟩, hy⟩ : ∃ x, readR10 k b = x := ⟨_, rfl⟩
  rw [hy]
  cases y with
  | false => rw [if_neg (by simp)]
  | true =>
    obtain ⟨h1, h2, h3⟩ := readR10_yes hy
    exact absurd h3 (hn r h1 h2)
/-- a record's body, and it may be: it is told, and is what is there -/
theorem decR10_yes {l b : List UInt8} {k n : Nat} {r : Rcd} (h : openB l = (k, b, n, 0)) (hm : may10 r = true) (hk : k = kind10 r) (hb : b = body10 r) : decR10 l = (r, n, 0) ∧ encR10 r = l.take n := by
  have h1 : decR10 l = (r, n, 0) := by
    rw [decR10_open h, hk, hb, readR10_back hm, if_pos rfl]
  exact ⟨h1, (decR10_good h1).2.1.symm⟩
theorem body10_h (r : Rcd) (h : kind10 r = 1) : r.hard = true := by
  unfold kind10 at h; split at h
  · assumption
  · cases h
theorem body10_e (r : Rcd) (h : kind10 r = 2) : r.hard = false := by
  unfold kind10 at h; split at h
  · cases h
  · rename_i h2; simpa using h2
theorem dec_hard_no {l b : List UInt8} {n : Nat} (h : openB l = (1, b, n, 0)) (hn : ∀ t v, numsL 2 b = some ([t, v], []) → v < 0 ∨ 7 < v) : decR10 l = (zRcd, 0, 3) := by
  refine decR10_no h fun r hm hk hb => ?_
  have hh := body10_h r hk.symm
  obtain ⟨a1, a2, a3, a4, _⟩ := may10_hard hm hh
  have e : body10 r = Nu.put r.ht ++ (Nu.put r.hv ++ []) := by unfold body10; rw [if_pos hh, List.append_nil]
  have h2 : numsL 2 b = some ([r.ht, r.hv], []) := by
    rw [hb, e, numsL_put 1 _ _ (by omega) (by omega), numsL_put 0 _ _ (by omega) (by omega)]; rfl
  have := hn _ _ h2
  omega
theorem dec_hard_yes {l b : List UInt8} {n : Nat} {t v : Int} (h : openB l = (1, b, n, 0)) (hn : numsL 2 b = some ([t, v], [])) : (may10 ⟨true, t, v, noEnt⟩ = true → decR10 l = (⟨true, t, v, noEnt⟩, n, 0) ∧ encR10 ⟨true, t, v, noEnt⟩ = l.take n) ∧ (may10 ⟨true, t, v, noEnt⟩ = false → decR10 l = (zRcd, 0, 3)) := by
  obtain ⟨a, c, e1, e2, ha, hc⟩ := nums2_is hn
  simp only [List.cons.injEq, and_true] at e1
  obtain ⟨rfl, rfl⟩ := e1
  refine ⟨fun hm => decR10_yes h hm rfl (by rw [e2]; unfold body10; simp), fun hm => ?_⟩
  have hr : readR10 1 b = (⟨true, t, v, noEnt⟩, may10 ⟨true, t, v, noEnt⟩) := by
    unfold readR10 rdH10
    rw [if_pos rfl, e2, rdN10_put t _ _ ha.1 ha.2]
    simp only [rdN10_put v _ _ hc.1 hc.2]
    rfl
  rw [decR10_open h, hr, hm]; simp
theorem dec_ent_no {l b : List UInt8} {n : Nat} (h : openB l = (2, b, n, 0)) (hn : ∀ i t k r, numsL 3 b = some ([i, t, k], r) → k < 1 ∨ 3 < k ∨ (Nu.getT r).2.2 ≠ 0) : decR10 l = (zRcd, 0, 3) := by
  refine decR10_no h fun r hm hk hb => ?_
  have hh := body10_e r hk.symm
  obtain ⟨z1, z2, a1, a2, a3, a4, a5, a6, a7⟩ := may10_ent hm hh
  have e : body10 r = Nu.put r.e.ix ++ (Nu.put r.e.et ++ (Nu.put r.e.kd ++ (Nu.putT r.e.data.data.toList ++ []))) := by unfold body10 bodyE10; rw [if_neg (by rw [hh]; simp), List.append_nil]
  have h2 : numsL 3 b = some ([r.e.ix, r.e.et, r.e.kd], Nu.putT r.e.data.data.toList ++ []) := by
    rw [hb, e, numsL_put 2 _ _ (by omega) (by omega), numsL_put 1 _ _ (by omega) (by omega), numsL_put 0 _ _ (by omega) (by omega)]; rfl
  have h3 := hn _ _ _ _ h2
  rw [Nu.getT_putT r.e.data.data.toList [] (by rw [size_list10]; omega)] at h3
  simp only at h3
  omega
theorem dec_ent_yes {l b r : List UInt8} {n m : Nat} {i t k : Int} {s : ByteArray} (h : openB l = (2, b, n, 0)) (hn : numsL 3 b = some ([i, t, k], r)) (hg : Nu.getT r = (s.data.toList, m, 0)) :
    (may10 ⟨false, 0, 0, ⟨i, t, k, s⟩⟩ = false → decR10 l = (zRcd, 0, 3)) ∧ (may10 ⟨false, 0, 0, ⟨i, t, k, s⟩⟩ = true → encR10 ⟨false, 0, 0, ⟨i, t, k, s⟩⟩ = l.take n → decR10 l = (⟨false, 0, 0, ⟨i, t, k, s⟩⟩, n, 0)) ∧
      (may10 ⟨false, 0, 0, ⟨i, t, k, s⟩⟩ = true → encR10 ⟨false, 0, 0, ⟨i, t, k, s⟩⟩ ≠ l.take n → decR10 l = (zRcd, 0, 3)) := by
  obtain ⟨a, c, d, e1, e2, ha, hc, hd⟩ := nums3_is hn
  simp only [List.cons.injEq, and_true] at e1
  obtain ⟨rfl, rfl, rfl⟩ := e1
  obtain ⟨ht, hm', hsz⟩ := Nu.getT_canon r _ _ hg
  have hsz2 : s.size ≤ 1048576 := by rw [← size_list10]; exact hsz
  have hr : readR10 2 b = (⟨false, 0, 0, ⟨i, t, k, s⟩⟩, done10 (r.drop m, false) && may10 ⟨false, 0, 0, ⟨i, t, k, s⟩⟩) := by
    unfold readR10 rdE10
    rw [if_neg (by decide), if_pos rfl, e2, rdN10_put i _ _ ha.1 ha.2]
    simp only [rdN10_put t _ _ hc.1 hc.2, rdN10_put k _ _ hd.1 hd.2]
    have : rdT10 (r, false) = (s, (r.drop m, false)) := by
      conv => lhs; rw [ht]
      exact rdT10_put s _ _ hsz2
    rw [this]
  refine ⟨fun hm => ?_, fun hm he => ?_, fun hm he => ?_⟩
  · rw [decR10_open h, hr, hm]; simp
  · have hb : b = body10 ⟨false, 0, 0, ⟨i, t, k, s⟩⟩ := by
      obtain ⟨h1, h2, _, _, _, h6⟩ := openB_canon h
      rw [← he, encR10_is hm] at h1
      have hl := body10_len hm
      have h3 := congrArg List.length h1
      rw [sealB_len _ _ (kind10_ok _).1 (kind10_ok _).2 (by omega), sealB_len _ _ (by decide) (by decide) h6] at h3
      have p1 := put_len12 (body10 ⟨false, 0, 0, ⟨i, t, k, s⟩⟩).length (by omega)
      have p2 := put_len12 b.length h6
      have hlen : (body10 ⟨false, 0, 0, ⟨i, t, k, s⟩⟩).length = b.length := by
        split at p1 <;> split at p2 <;> omega
      have h4 := congrArg (List.drop ((sealB 2 b).length - b.length)) h1
      rw [show ((kind10 ⟨false, 0, 0, ⟨i, t, k, s⟩⟩ : Nat) : Int) = 2 from rfl] at h4
      have hs1 := sealB_is 2 b (by decide) (by decide) h6
      have hs2 := sealB_is 2 (body10 ⟨false, 0, 0, ⟨i, t, k, s⟩⟩) (by decide) (by decide) (by omega)
      have hd1 : ∀ x y z : List UInt8, (x ++ (y ++ z)).drop (x.length + y.length) = z := fun x y z => by rw [← List.append_assoc, List.drop_left' (by rw [List.length_append])]
      have g := fun (q : List UInt8) (hq : sealB 2 q = (2 : Int).toNat.toUInt8 :: (Nu.put ((q.length : Nat) : Int) ++ (fourB (crcSum ((2 : Int).toNat.toUInt8 :: Nu.put ((q.length : Nat) : Int) ++ q)) ++ q))) => by
        have : (sealB 2 q).drop ((sealB 2 q).length - q.length) = q := by
          have e9 : sealB 2 q = ((2 : Int).toNat.toUInt8 :: (Nu.put ((q.length : Nat) : Int) ++ fourB (crcSum ((2 : Int).toNat.toUInt8 :: Nu.put ((q.length : Nat) : Int) ++ q)))) ++ q := by rw [hq]; simp
          have e8 := congrArg List.length e9
          rw [List.length_append] at e8
          rw [e9]
          apply List.drop_left'
          simp only [List.length_append, List.length_cons]
          omega
        exact this
      have g1 := g b hs1
      have g2 := g _ hs2
      have hL : (sealB 2 (body10 ⟨false, 0, 0, ⟨i, t, k, s⟩⟩)).length - (body10 ⟨false, 0, 0, ⟨i, t, k, s⟩⟩).length = (sealB 2 b).length - b.length := by
        rw [hlen]
        have := congrArg List.length h1
        rw [show ((kind10 ⟨false, 0, 0, ⟨i, t, k, s⟩⟩ : Nat) : Int) = 2 from rfl] at this
        rw [this]; rfl
      rw [hL] at g2
      exact (g2.symm.trans (h4.trans g1)).symm
    exact (decR10_yes h hm rfl hb).1
  · refine decR10_no h fun q hq hk hb => ?_
    have hy := decR10_yes h hq hk hb
    have h1 := hy.1
    rw [decR10_open h, hr, hm] at h1
    split at h1
    · simp only [Prod.mk.injEq, and_true] at h1
      exact he (by rw [h1]; exact hy.2)
    · simp only [Prod.mk.injEq] at h1
      exact absurd h1.2.2 (by decide)
theorem dec_other {l b : List UInt8} {n k : Nat} (h : openB l = (k, b, n, 0)) (h1 : k ≠ 1) (h2 : k ≠ 2) : decR10 l = (zRcd, 0, 3) := by
  rw [decR10_open h]
  unfold readR10
  rw [if_neg h1, if_neg h2]; simp
end Go.Proofs.YtdigpeipklfaeaaDoor
/-
  Records one behind the other as a relation; rows of records of one's own; package wal's Scan tells them.
  The bytes are there in memory, at most 1,000,000; package crc's table lies as it was laid.
-/
namespace Go.Proofs.YtdigpeipklfaeaaDoor
open Go.RowKit Go.Deep
set_option maxRecDepth 100000

/-- the records at the beginning, how many bytes they take, and the error behind them -/
inductive ScR : List UInt8 → List Rcd → Nat → Nat → Prop
  | nil (l : List UInt8) (e : Nat) (h : decR10 l = (zRcd, 0, e)) (he : e ≠ 0) : ScR l [] 0 e
  | cons (l : List UInt8) (r : Rcd) (n : Nat) (L : List Rcd) (u e : Nat) (h : decR10 l = (r, n, 0)) (h2 : ScR (l.drop n) L u e) : ScR l (r :: L) (n + u) e
theorem ScR.two {l : List UInt8} {L : List Rcd} {u e : Nat} (h : ScR l L u e) : ∀ {M : List Rcd} {v f : Nat}, ScR l M v f → L = M ∧ u = v ∧ e = f := by
  induction h with
  | nil l e h he =>
    intro M v f h2
    cases h2 with
    | nil _ _ h3 _ => rw [h] at h3; simp only [Prod.mk.injEq, true_and] at h3; exact ⟨rfl, rfl, h3⟩
    | cons _ r n L u e h3 h4 => rw [h] at h3; simp only [Prod.mk.injEq] at h3; exact absurd h3.2.2 he
  | cons l r n L u e h h2 ih =>
    intro M v f h3
    cases h3 with
    | nil _ _ h4 he => rw [h] at h4; simp only [Prod.mk.injEq] at h4; exact absurd h4.2.2.symm he
    | cons _ r' n' L' u' e' h4 h5 =>
      rw [h] at h4
      simp only [Prod.mk.injEq, and_true] at h4
      obtain ⟨rfl, rfl⟩ := h4
      obtain ⟨rfl, rfl, rfl⟩ := ih h5
      exact ⟨rfl, rfl, rfl⟩
theorem ScR.len {l : List UInt8} {L : List Rcd} {u e : Nat} (h : ScR l L u e) : u ≤ l.length ∧ L.length * 6 ≤ u ∧ e ≠ 0 := by
  induction h with
  | nil l e h he => exact ⟨Nat.zero_le _, Nat.le_refl _, he⟩
  | cons l r n L u e h h2 ih =>
    obtain ⟨_, _, h6, h7⟩ := decR10_good h
    rw [List.length_drop] at ih
    simp only [List.length_cons]
    omega
def Rcd.cs (r : Rcd) : List Value := [.bool r.hard, .int .i64 r.ht, .int .i64 r.hv, .int .i64 r.e.ix, .int .i64 r.e.et, .int .i64 r.e.kd, .string r.e.data]
theorem rcs_len (L : List Rcd) : (L.flatMap Rcd.cs).length = L.length * 7 := by
  induction L with
  | nil => rfl
  | cons x t ih =>
    have h3 : (Rcd.cs x).length = 7 := rfl
    rw [List.flatMap_cons, List.length_append, ih, h3, List.length_cons]; omega
/-- a row of records of one's own -/
def OwnRc (T : TypeId) (B : Nat) (v : Value) (L : List Rcd) (w : World) : Prop := w.ownsRow B T 7 v L.length (L.flatMap Rcd.cs)
theorem OwnRc.nil (T : TypeId) (B : Nat) (w : World) : OwnRc T B (.slice none 0 0) [] w := World.ownsRow_nil _ _ _ _
theorem OwnRc.below {T : TypeId} {B : Nat} {v : Value} {L : List Rcd} {w w' : World} (h : OwnRc T B v L w) (hb : Below w.heap.size w w') : OwnRc T B v L w' := ownsRow_below h hb
theorem OwnRc.down {T : TypeId} {B C : Nat} {v : Value} {L : List Rcd} {w : World} (h : OwnRc T C v L w) (hB : B ≤ C) : OwnRc T B v L w := ownsRow_down h hB
theorem OwnRc.slice {T : TypeId} {B : Nat} {v : Value} {L : List Rcd} {w : World} (h : OwnRc T B v L w) : ∃ A c, v = .slice A L.length c := own_slice h
theorem rflat_at : ∀ (L : List Rcd) (k : Nat) (h : k < L.length) (j : Nat) (v : Value), (Rcd.cs L[k])[j]? = some v → (L.flatMap Rcd.cs)[k * 7 + j]? = some v
  | x :: t, 0, _, j, v, hv => by
    have hj : j < (Rcd.cs x).length := (List.getElem?_eq_some_iff.1 hv).1
    rw [List.flatMap_cons, Nat.zero_mul, Nat.zero_add, List.getElem?_append_left hj]; exact hv
  | x :: t, k + 1, h, j, v, hv => by
    have h3 : (Rcd.cs x).length = 7 := rfl
    rw [List.flatMap_cons, List.getElem?_append_right (by omega), h3, show (k + 1) * 7 + j - 7 = k * 7 + j by omega]
    exact rflat_at t k (by simpa using h) j v hv
theorem OwnRc.at_ {T : TypeId} {B n c : Nat} {A : Option Addr} {L : List Rcd} {w : World} (h : OwnRc T B (.slice A n c) L w) (k : Nat) (hk : k < L.length) :
    ∃ g, A = some ⟨g, 0, Option.none⟩ ∧ B ≤ g ∧ g < w.heap.size ∧ n = L.length ∧ n ≤ c ∧ w.rangeAt g (k * 7) (Rcd.cs L[k]) := by
  unfold OwnRc at h
  have hc := fun (g : Nat) (hg : (Value.slice A n c).ownBlock = some g) => World.ownsRow.cells h hg
  have hlt := World.ownsRow.lt h
  rcases h.2 with ⟨_, h0⟩ | ⟨g, c', cur, hv2, hB, _, hnc, _⟩
  · omega
  · injection hv2 with e1 e2 e3
    subst e1
    refine ⟨g, rfl, hB, (hlt g rfl).2, e2, by omega, fun j z hj => ?_⟩
    have h3 := hc g rfl (k * 7 + j) z (rflat_at L k hk j z hj)
    rw [Addr.add_mid] at h3
    rw [← h3]; congr 2; omega
theorem rcd_one (r : Rcd) : ∀ v ∈ r.cs, v.oneCell' = true := by
  intro v hv
  simp only [Rcd.cs, List.mem_cons, List.not_mem_nil, or_false] at hv
  rcases hv with rfl | rfl | rfl | rfl | rfl | rfl | rfl <;> rfl
theorem cells_new10 (w : World) (t : TypeId) (cs : List Value) : (w.alloc (.cells cs.toArray t)).rangeAt w.heap.size 0 cs := fun j v hj => by
  have hh : (w.alloc (.cells cs.toArray t)).heap[w.heap.size]? = some (.cells cs.toArray t (0, 0)) := heap_alloc_new _ _
  unfold World.cell?
  rw [hh]
  simpa using hj
theorem Tryd.infoSw : (Tryd.prog.info? 32).map (fun i => (i.zero, i.size, i.bytes)) = some (some (.agg #[.bool false, .int .i64 0, .int .i64 0, .int .i64 0, .int .i64 0, .int .i64 0, .string ⟨#[]⟩]), 7, 64) := by kernel_rfl
theorem wp_append_Sw {w : World} {o : Oper} {a : Act} {K : Act → World → Prop} {Q : Exit → Act → World → Prop} (s x : Operand)
    (ho : o.op = .call { callee := .builtin .append, args := #[s, x], argTypes := #[45, 45] })
    (B : Nat) (v : Value) (L : List Rcd) (y : Rcd) (g : Nat) (hs : a.eval s = v) (hown : OwnRc 32 B v L w) (hx : a.eval x = .slice (some ⟨g, 0, none⟩) 1 1) (hy : w.rangeAt g 0 y.cs) (hl : L.length ≤ 1000000) (hB : B ≤ w.heap.size)
    (h : ∀ v' w', OwnRc 32 B v' (L ++ [y]) w' → Below B w w' → K (a.put o.dst v') w') : o.wp Tryd.prog a w K Q := by
  obtain ⟨iO, hiO, hzO0, hzO1, hzO2⟩ := info_parts Tryd.infoSw
  have hlen := rcs_len L
  have hgr := fun (w' : World) (hg : w.grownBy w' v.ownBlock) => (Below.refl B w).grown hg hB (fun g hg => (World.ownsRow.lt hown g hg).1)
  obtain ⟨v', w', hr, h2, h3, _, _⟩ := run_append_own_at (P := Tryd.prog) w B 45 o.type 32 iO _ 7 64 Tryd.underlying45 hiO hzO0 hzO1 hzO2 rfl (by decide) v L.length _ hown ⟨g, 0, none⟩ 1 1 y.cs rfl
    (by
      intro j z hj
      rw [Addr.add_mid]; exact hy j z hj) (rcd_one y) (by unfold maxLen; omega) (by omega) hB
  unfold Oper.wp execOp
  simp only [ho, resolve, invoke, builtin, Sem.run_bind, Sem.run_pure, Result.andThen_ok, List.map_toArray, List.map_cons, List.map_nil, hs, hx, hr]
  refine h v' w' ?_ (hgr w' h3)
  unfold OwnRc
  rw [List.length_append, List.flatMap_append]
  simpa using h2
theorem wpList_append_Sw {w : World} {ops : Array Oper} {rest : List Oper} {o : Oper} {a : Act} {Q : Exit → Act → World → Prop} (hgd : o.guard = none) (s x : Operand)
    (ho : o.op = .call { callee := .builtin .append, args := #[s, x], argTypes := #[45, 45] })
    (B : Nat) (v : Value) (L : List Rcd) (y : Rcd) (g : Nat) (hs : a.eval s = v) (hown : OwnRc 32 B v L w) (hx : a.eval x = .slice (some ⟨g, 0, none⟩) 1 1) (hy : w.rangeAt g 0 y.cs) (hl : L.length ≤ 1000000) (hB : B ≤ w.heap.size)
    (h : ∀ v' w', OwnRc 32 B v' (L ++ [y]) w' → Below B w w' → wpList Tryd.prog ops Q rest (a.put o.dst v') w') : wpList Tryd.prog ops Q (o :: rest) a w :=
  wpList_plain hgd fun _ hK => wp_append_Sw s x ho B v L y g hs hown hx hy hl hB fun v' w' h1 h2 => hK _ _ (h v' w' h1 h2)
theorem Swdec_is (A : Option Addr) (n c B : Nat) (l : List UInt8) (r) (w : World) (h : Byt w B (.slice A n c) l) (hB : B ≤ w.heap.size) (hl : l.length ≤ 1000000) (hT : Tbl w) (hr : decR10 l = r) :
    Calls Tryd.prog 17 #[.slice A n c] w (GotRec10 r w) := by
  obtain rfl : n = l.length := by obtain ⟨_, _, hv, _⟩ := h; injection hv
  rw [← hr]
  exact wdec10_any A c B l w h hB hl hT
/-- what Scan tells -/
def GotSw (l : List UInt8) (w : World) (e : Ending) (w' : World) : Prop := ∃ L u er v, ScR l L u er ∧ e = .returned (.tuple #[v, .int .i64 ((u : Nat) : Int), .bool (er == 2)]) ∧ OwnRc 32 w.heap.size v L w' ∧ Below w.heap.size w w'
set_option maxHeartbeats 1000000 in
theorem Swscan_some (g o c B : Nat) (l : List UInt8) (w : World) (h : Byt w B (.slice (some ⟨g, o, none⟩) l.length c) l) (hB : B ≤ w.heap.size) (hl : l.length ≤ 1000000) (hT : Tbl w) :
    Calls Tryd.prog 21 #[.slice (some ⟨g, o, none⟩) l.length c] w (GotSw l w) := by
  have HB := Lib.hid h
  have HT := Lib.hid hT; clear hT
  have hcl : l.length ≤ c := by obtain ⟨_, _, hv, hc, _⟩ := h; injection hv with _ _ e; omega
  clear h
  go_enter Tryd.func21, Tryd.ntmps21
  go_wp2_with fail
  go_loopw [5, 6] (fun v i wr => ∃ (acc : List Rcd) (k : Nat), i = .int .i64 k ∧ k ≤ l.length ∧ acc.length ≤ k ∧ OwnRc 32 w.heap.size v acc wr ∧ Below w.heap.size w wr ∧ ∀ L u e, ScR (l.drop k) L u e → ScR l (acc ++ L) (k + u) e) (fun _ i _ => l.length - (intOf i).toNat)
  case atStart => exact ⟨[], 0, rfl, Nat.zero_le _, Nat.zero_le _, OwnRc.nil _ _ _, Below.refl _ _, fun L u e h => by simpa using h⟩
  case round =>
    obtain ⟨acc, k, rfl, hk, hacc, hown, hb, hall⟩ := hrel
    obtain ⟨A9, c9, hv9⟩ := hown.slice
    subst hv9
    have HOWN := Lib.hid hown; have HALL := Lib.hid hall; have HACC := Lib.hid hacc
    have hby := (HB.out.below hb hB).cut (k := k) hk
    rw [add_lit_10] at hby
    have hT2 := tbl_keep HT.out hb
    have hBr : B ≤ wr.heap.size := Nat.le_trans hB hb.size
    have hdl : (l.drop k).length ≤ 1000000 := by rw [List.length_drop]; omega
    obtain ⟨r, hr⟩ : ∃ r, decR10 (l.drop k) = r := ⟨_, rfl⟩
    have HR := Lib.hid hr; have HT2 := Lib.hid hT2
    obtain ⟨⟨hd, ht, hv, ⟨ix, et, kd, dt⟩⟩, n, e⟩ := r
    have hkc : k ≤ c := by omega
    clear hown hall hacc hr hT2
    have hnil : ScR [] [] 0 2 := ScR.nil _ 2 (decR10_e (l := []) (b := []) (k := 0) (n := 0) rfl (by decide)) (by decide)
    by_cases hck : c = k
    · have hlk : l.length = k := by omega
      have hd : l.drop k = [] := List.drop_of_length_le (by omega)
      have hby0 : Byt wr B (.slice (some ⟨g, o, none⟩) 0 0) [] := ⟨_, _, rfl, Nat.le_refl _, fun h => absurd h (by simp)⟩
      have hend : ScR l acc k 2 := by
        have := HALL.out [] 0 2 (by rw [hd]; exact hnil)
        simpa using this
      have HEND := Lib.hid hend
      subst hck
      have HBY := Lib.hid hby0
      clear hend hby hby0 HR hdl hd hlk hnil
      go_wp2_with fail
      refine (Swdec_is _ 0 0 B [] (zRcd, 0, 2) _ HBY.out hBr (by simp) HT2.out (decR10_e (l := []) (b := []) (k := 0) (n := 0) rfl (by decide))).mono ?_
      rintro e w1 ⟨rfl, hb1⟩
      have hown1 := HOWN.out.below hb1
      have hbw1 := hb.trans (hb1.mono hb.size)
      unfold Rcd.val zRcd noEnt
      have hown2 := hown1.below (below_new w1 (.cells #[.bool false, .int .i64 0, .int .i64 0, .int .i64 0, .int .i64 0, .int .i64 0, .string ByteArray.empty] 32))
      go_wp2
      exact bodyPost_ret (v := .tuple #[_, .int .i64 (c : Nat), .bool true]) (by simp [results, Tryd.results21, go_sem]) rfl ⟨acc, c, 2, _, HEND.out, rfl, hown2, hbw1.alloc hbw1.size _⟩
    · rw [if_neg hck] at hby
      have HBY := Lib.hid hby; clear hby hnil
      by_cases he : e = 0
      · subst he
        obtain ⟨n1, n2, n3, n4⟩ := decR10_good HR.out
        rw [List.length_drop] at n4
        have hsum : k + n ≤ l.length := by omega
        have HN := Lib.hid (And.intro n3 hsum)
        have hkn : (k : Int) + n ≤ 1000000 := by omega
        clear n1 n2 n3 n4 hsum
        go_wp2_with fail
        refine (Swdec_is _ _ _ B (l.drop k) _ _ HBY.out hBr hdl HT2.out HR.out).mono ?_
        rintro e w1 ⟨rfl, hb1⟩
        unfold Rcd.val
        simp only
        have hown1 := HOWN.out.below hb1
        have hbw1 := hb.trans (hb1.mono hb.size)
        clear hb1 hb
        obtain ⟨WA, hWA⟩ : ∃ WA, w1.alloc (Obj.cells #[.bool hd, .int .i64 ht, .int .i64 hv, .int .i64 ix, .int .i64 et, .int .i64 kd, .string dt] 32) = WA := ⟨_, rfl⟩
        have hza : WA.heap.size = w1.heap.size + 1 := by rw [← hWA]; simp
        have hba : Below w.heap.size w WA := by rw [← hWA]; exact hbw1.alloc hbw1.size _
        have hoa : OwnRc 32 w.heap.size (.slice A9 acc.length c9) acc WA := by rw [← hWA]; exact hown1.below (below_new _ _)
        have hcell := cells_new10 WA 32 [.bool hd, .int .i64 ht, .int .i64 hv, .int .i64 ix, .int .i64 et, .int .i64 kd, .string dt]
        have hb1 : Below w.heap.size w (WA.alloc (Obj.cells #[.bool hd, .int .i64 ht, .int .i64 hv, .int .i64 ix, .int .i64 et, .int .i64 kd, .string dt] 32)) := hba.alloc hba.size _
        have hown1a : OwnRc 32 w.heap.size (.slice A9 acc.length c9) acc (WA.alloc (Obj.cells #[.bool hd, .int .i64 ht, .int .i64 hv, .int .i64 ix, .int .i64 et, .int .i64 kd, .string dt] 32)) := hoa.below (below_new _ _)
        rw [hza] at hcell
        rw [← hWA] at hcell hown1a hb1
        have hal : acc.length ≤ 1000000 := by have := HACC.out; omega
        have HAL := Lib.hid hal
        clear hal hWA hza hba hoa
        go_wp2_with (at_builtin; refine wpList_append_Sw rfl _ _ rfl w.heap.size (.slice A9 acc.length c9) acc ⟨hd, ht, hv, ⟨ix, et, kd, dt⟩⟩ (w1.heap.size + 1) rfl hown1a rfl hcell HAL.out hb1.size ?_)
        intro v2 w2 hown2 hb2
        have hbw2 := hb1.trans hb2
        clear hown1a hcell hb1 hb2 hown1 hbw1
        go_wp2
        go_roundw
        case rel => exact ⟨acc ++ [⟨hd, ht, hv, ⟨ix, et, kd, dt⟩⟩], k + n, by go_num, HN.out.2, by have := HN.out.1; have := HACC.out; simp; omega, hown2, hbw2, fun L u e hh => by
          have := HALL.out (⟨hd, ht, hv, ⟨ix, et, kd, dt⟩⟩ :: L) (n + u) e (ScR.cons _ _ _ _ _ _ HR.out (by rw [List.drop_drop]; exact hh))
          rw [List.append_assoc, Nat.add_assoc]; exact this⟩
        case measure => have := HN.out; first | (simp [intOf]; omega) | (simp [intOf]; done)
      · have hee : ((e : Int) == 0) = false := by rw [beq_eq_false_iff_ne]; omega
        have hee2 : ¬ (e : Int) = 0 := by omega
        have hend : ScR l acc k e := by
          have hz := decR10_bad HR.out he
          have := HALL.out [] 0 e (ScR.nil _ e (by rw [HR.out, hz.1, hz.2.1]) he)
          simpa using this
        have HEND := Lib.hid hend
        have he23 := (decR10_bad HR.out he).2.2
        have h2e : ((e : Int) == 2) = (e == 2) := by rcases he23 with rfl | rfl <;> decide
        clear he hend he23
        go_wp2_with fail
        refine (Swdec_is _ _ _ B (l.drop k) _ _ HBY.out hBr hdl HT2.out HR.out).mono ?_
        rintro e9 w1 ⟨rfl, hb1⟩
        unfold Rcd.val
        simp only
        have hown1 := HOWN.out.below hb1
        have hbw1 := hb.trans (hb1.mono hb.size)
        have hown2 := hown1.below (below_new w1 (Obj.cells #[.bool hd, .int .i64 ht, .int .i64 hv, .int .i64 ix, .int .i64 et, .int .i64 kd, .string dt] 32))
        go_wp2
        exact bodyPost_ret (v := .tuple #[_, .int .i64 (k : Nat), .bool (e == 2)]) (by simp [results, Tryd.results21, go_sem]) rfl ⟨acc, k, e, _, HEND.out, rfl, hown2, hbw1.alloc hbw1.size _⟩
set_option maxHeartbeats 400000 in
theorem Swscan_nil (w : World) (hT : Tbl w) : Calls Tryd.prog 21 #[.slice none 0 0] w (GotSw [] w) := by
  have HT := Lib.hid hT; clear hT
  have hby : Byt w w.heap.size (.slice none 0 0) [] := Byt.of_own (ownB_nil 0 w)
  have HBY := Lib.hid hby; clear hby
  have hnil : ScR [] [] 0 2 := ScR.nil _ 2 (decR10_e (l := []) (b := []) (k := 0) (n := 0) rfl (by decide)) (by decide)
  have HNIL := Lib.hid hnil; clear hnil
  go_enter Tryd.func21, Tryd.ntmps21
  go_wp2_with fail
  go_loopw [5, 6] (fun v i wr => v = .slice none 0 0 ∧ i = .int .i64 0 ∧ wr = w) (fun _ _ _ => 1)
  case atStart => exact ⟨rfl, rfl, rfl⟩
  case round =>
    obtain ⟨rfl, rfl, rfl⟩ := hrel
    go_wp2_with fail
    refine (Swdec_is _ 0 0 wr.heap.size [] (zRcd, 0, 2) _ HBY.out (Nat.le_refl _) (by simp) HT.out (decR10_e (l := []) (b := []) (k := 0) (n := 0) rfl (by decide))).mono ?_
    rintro e w1 ⟨rfl, hb1⟩
    unfold Rcd.val zRcd noEnt
    go_wp2
    exact bodyPost_ret (v := .tuple #[_, .int .i64 (0 : Nat), .bool true]) (by simp [results, Tryd.results21, go_sem]) rfl ⟨[], 0, 2, _, HNIL.out, rfl, OwnRc.nil _ _ _, hb1.alloc hb1.size _⟩
/-- Scan of any bytes -/
theorem Swscan_any (u : Value) (B : Nat) (l : List UInt8) (w : World) (h : Byt w B u l) (hB : B ≤ w.heap.size) (hl : l.length ≤ 1000000) (hT : Tbl w) (hz : l = [] → u = .slice none 0 0 ∨ ∃ g o c, u = .slice (some ⟨g, o, none⟩) 0 c) : Calls Tryd.prog 21 #[u] w (GotSw l w) := by
  obtain ⟨A, c, rfl⟩ := byt_slice h
  by_cases h0 : l = []
  · subst h0
    rcases hz rfl with e | ⟨g, o, c', e⟩
    · injection e with e1 e2 e3
      subst e1; subst e3
      exact Swscan_nil w hT
    · injection e with e1 e2 e3
      subst e1
      exact Swscan_some g o c B [] w h hB hl hT
  · have hlen : 0 < l.length := by cases l with | nil => exact absurd rfl h0 | cons x t => simp
    obtain ⟨A', c', hv, _, hx⟩ := id h
    injection hv with e1 _ _
    subst e1
    obtain ⟨g, o, rfl, _⟩ := hx hlen
    exact Swscan_some g o c B l w h hB hl hT
end Go.Proofs.YtdigpeipklfaeaaDoor
/-
  The last part of the reference's Open: the bytes are long enough.
  The bytes are there in memory, at most 1,000,000.
-/
set_option linter.unusedSimpArgs false
set_option linter.unusedVariables false
namespace Go.Proofs.YtdigpeipklfaeaaDoor
open Go.RowKit
set_option maxRecDepth 100000

set_option maxHeartbeats 1000000 in
theorem ropen_tail (g o c B k m : Nat) (x : UInt8) (t : List UInt8) (w : World) (hB : B ≤ w.heap.size) (hg : g < B) (hl : t.length + 1 ≤ 1000000) (hc : t.length + 1 ≤ c) (HC : Hid (∀ j (h : j < (x :: t).length), w.cell? ⟨g, o + j, none⟩ = some (.int .u8 ((x :: t)[j].toNat : Int))))
    (hx0 : w.cell? ⟨g, o, none⟩ = some (.int .u8 (x.toNat : Int))) (HZ : Hid (¬ x.toNat = 0)) (hz2 : ((x.toNat : Int) == 0) = false) (HCUT : Hid (Byt w B (.slice (some ⟨g, o + 1, none⟩) t.length (c - 1)) t)) (HGG : Hid (Nu.get t = ((m : Int), k, 0))) (hm4 : m ≤ 4000) (hfit : 1 + k + 4 + m ≤ t.length + 1) (hcap : 1 + k + 4 < c) (hc1 : 1 < c)
    (HOP : Hid (openB (x :: t) = if sealB x.toNat (((x :: t).drop (1 + k + 4)).take m) ≠ (x :: t).take (1 + k + 4 + m) then (0, [], 0, 3) else (x.toNat, ((x :: t).drop (1 + k + 4)).take m, 1 + k + 4 + m, 0))) :
    Calls Tryd.prog 44 #[.slice (some ⟨g, o, none⟩) (t.length + 1) c] w (GotF B (openB (x :: t)) w) := by
  have hb := x.toNat_lt
  have hbyb : Byt w B (.slice (some ⟨g, o + (1 + k + 4), none⟩) m (c - (1 + k + 4))) (((x :: t).drop (1 + k + 4)).take m) := by
    have hlm : (((x :: t).drop (1 + k + 4)).take m).length = m := by rw [List.length_take, List.length_drop, List.length_cons]; omega
    refine ⟨some ⟨g, o + (1 + k + 4), none⟩, c - (1 + k + 4), by rw [hlm], by rw [hlm]; omega, fun _ => ⟨g, o + (1 + k + 4), rfl, hg, fun j hj => ?_⟩⟩
    rw [hlm] at hj
    rw [Nat.add_assoc, HC.out (1 + k + 4 + j) (by rw [List.length_cons]; omega), List.getElem_take, List.getElem_drop]
  obtain ⟨bd, hbd⟩ : ∃ bd, (((x :: t).drop (1 + k + 4)).take m) = bd := ⟨_, rfl⟩
  obtain ⟨P, hP⟩ : ∃ P, (x :: t).take (1 + k + 4 + m) = P := ⟨_, rfl⟩
  obtain ⟨S, hS⟩ : ∃ S, sealB (x.toNat : Int) bd = S := ⟨_, rfl⟩
  have hbl : bd.length ≤ 4000 := by rw [← hbd, List.length_take]; omega
  have hbl2 : bd.length ≤ 1000000 := by omega
  rw [hbd] at hbyb
  have hop3 : openB (x :: t) = if S ≠ P then (0, [], 0, 3) else (x.toNat, bd, 1 + k + 4 + m, 0) := by
    rw [HOP.out, ← hP, ← hS, ← hbd]
  have hS1 : 1 ≤ S.length := by
    rw [← hS]; unfold sealB; rw [if_neg (by have := HZ.out; omega)]; unfold headB; simp; try omega
  have kp : ∀ W, Below w.heap.size w W → (convert 30 9 (.slice (some ⟨g, o, none⟩) (1 + k + 4 + m) c)).run Tryd.prog W = .ok (.string ⟨P.toArray⟩) W := fun W hW => by
    rw [← hP]
    exact conv_cells W g o _ (x :: t) (1 + k + 4 + m) (by rw [List.length_cons]; omega) (fun j hj => (hW.cell (p := ⟨g, o + j, none⟩) (Nat.lt_of_lt_of_le hg hB)).trans (HC.out j hj))
  have kp0 := kp w.drew (Below.refl _ _).drew
  have hbd0 : Byt w.drew B (.slice (some ⟨g, o + (1 + k + 4), none⟩) m (c - (1 + k + 4))) bd := hbyb
  have hx00 : w.drew.cell? ⟨g, o, none⟩ = some (.int .u8 (x.toNat : Int)) := hx0
  have hBd : B ≤ w.drew.heap.size := hB
  have HKP := Lib.hid kp
  have hgg : w.drew.heap.size = w.heap.size := rfl
  have hlc : (t.length : Int) + 1 ≤ (c : Int) := by omega
  have htl : t.length ≤ 1000000 := by omega
  have hm4' : (m : Int) ≤ 4000 := by omega
  have hk6 : (k : Int) ≤ 1000000 := by omega
  have hsh2 : 1 + (k : Int) + 4 + (m : Int) ≤ (t.length : Int) + 1 := by omega
  have ib1 : (0 : Int) ≤ 1 + (k : Int) + 4 + (m : Int) := by omega
  have ib2 : 1 + (k : Int) + 4 + (m : Int) ≤ (c : Int) := by omega
  have hwx : IntKind.i64.wrap (x.toNat : Int) = (x.toNat : Int) := IntWalk.i64_in _ (by omega)
  have hw1 : IntKind.i64.wrap (1 + (k : Int) + 4 + (m : Int)) = 1 + (k : Int) + 4 + (m : Int) := IntWalk.i64_in _ (by omega)
  have hw2 : (1 + (k : Int) + 4 + (m : Int)).toNat = 1 + k + 4 + m := by omega
  have HOP3 := Lib.hid hop3; have HS := Lib.hid hS; have HS1 := Lib.hid hS1
  have HBD := Lib.hid hbd0; have HBY := Lib.hid hbyb
  clear hbd hP hop3 hS hS1 HOP kp hbd0 hbyb hgg
  by_cases hSP : S = P
  · subst hSP
    have hf : openB (x :: t) = (x.toNat, bd, 1 + k + 4 + m, 0) := by rw [HOP3.out, if_neg (by simp)]
    have HF := Lib.hid hf; clear hf
    go_enter Tryd.func44, Tryd.ntmps44
    go_wp2_with fail
    refine (rget_n _ _ _ B t m k 0 w HCUT.out htl HGG.out).mono ?_
    rintro e' w' ⟨rfl, rfl⟩
    go_wp2_with fail
    go_region_with (first | (go_at_call 39; refine (rseal_is _ _ B bd S _ HBD.out hBd hbl2 HS.out).mono ?_; rintro e w3 ⟨v3, rfl, hown3, hb3'⟩; have hb3 : Below w.heap.size w w3 := (Below.refl _ _).drew.trans hb3'; have kv := conv_own hown3 HS1.out; have kps := HKP.out w3 hb3; have hxs := (hb3.cell (p := ⟨g, o, none⟩) (Nat.lt_of_lt_of_le hg hB)).trans hx0))
    all_goals
      go_wp2
      refine bodyPost_ret (v := .tuple #[.int .i64 x.toNat, .slice (some ⟨g, o + (1 + k + 4), none⟩) m (c - (1 + k + 4)), .int .i64 ((1 + k + 4 + m : Nat) : Int), .int .i64 0]) (by simp [results, Tryd.results44, go_sem]) rfl ⟨_, by rw [HF.out]; rfl, by rw [HF.out]; exact HBY.out.below hb3 hB, hb3⟩
  · have hf : openB (x :: t) = (0, [], 0, 3) := by rw [HOP3.out, if_pos hSP]
    have hne : (S == P) = false := by simpa using hSP
    have HF := Lib.hid hf; have HSP := Lib.hid hSP; clear hf hSP
    go_enter Tryd.func44, Tryd.ntmps44
    go_wp2_with fail
    refine (rget_n _ _ _ B t m k 0 w HCUT.out htl HGG.out).mono ?_
    rintro e' w' ⟨rfl, rfl⟩
    go_wp2_with fail
    go_region_with (first | (go_at_call 39; refine (rseal_is _ _ B bd S _ HBD.out hBd hbl2 HS.out).mono ?_; rintro e w3 ⟨v3, rfl, hown3, hb3'⟩; have hb3 : Below w.heap.size w w3 := (Below.refl _ _).drew.trans hb3'; have kv := conv_own hown3 HS1.out; have kps := HKP.out w3 hb3; have hxs := (hb3.cell (p := ⟨g, o, none⟩) (Nat.lt_of_lt_of_le hg hB)).trans hx0))
    all_goals
      go_wp2
      refine bodyPost_ret (v := .tuple #[.int .i64 0, .slice none 0 0, .int .i64 0, .int .i64 3]) (by simp [results, Tryd.results44, go_sem]) rfl ⟨_, by rw [HF.out]; rfl, by rw [HF.out]; exact byt_nil _ _, hb3⟩
set_option maxHeartbeats 1000000 in
theorem ropen_tail0 (g o B k : Nat) (x : UInt8) (t : List UInt8) (w : World) (hB : B ≤ w.heap.size) (hg : g < B) (hl : t.length + 1 ≤ 1000000) (HC : Hid (∀ j (h : j < (x :: t).length), w.cell? ⟨g, o + j, none⟩ = some (.int .u8 ((x :: t)[j].toNat : Int))))
    (hx0 : w.cell? ⟨g, o, none⟩ = some (.int .u8 (x.toNat : Int))) (HZ : Hid (¬ x.toNat = 0)) (hz2 : ((x.toNat : Int) == 0) = false) (HCUT : Hid (Byt w B (.slice (some ⟨g, o + 1, none⟩) t.length t.length) t)) (HGG : Hid (Nu.get t = (0, k, 0))) (hfit : 1 + k + 4 = t.length + 1)
    (HOP : Hid (openB (x :: t) = if sealB x.toNat (((x :: t).drop (1 + k + 4)).take 0) ≠ (x :: t).take (1 + k + 4) then (0, [], 0, 3) else (x.toNat, ((x :: t).drop (1 + k + 4)).take 0, 1 + k + 4, 0))) :
    Calls Tryd.prog 44 #[.slice (some ⟨g, o, none⟩) (t.length + 1) (t.length + 1)] w (GotF B (openB (x :: t)) w) := by
  have hb := x.toNat_lt
  have hbyb : Byt w B (.slice (some ⟨g, o, none⟩) 0 0) (((x :: t).drop (1 + k + 4)).take 0) := ⟨some ⟨g, o, none⟩, 0, rfl, Nat.le_refl _, fun h => absurd h (by simp)⟩
  obtain ⟨bd, hbd⟩ : ∃ bd, (((x :: t).drop (1 + k + 4)).take 0) = bd := ⟨_, rfl⟩
  obtain ⟨P, hP⟩ : ∃ P, (x :: t).take (1 + k + 4) = P := ⟨_, rfl⟩
  obtain ⟨S, hS⟩ : ∃ S, sealB (x.toNat : Int) bd = S := ⟨_, rfl⟩
  have hbl : bd.length ≤ 4000 := by rw [← hbd, List.length_take]; omega
  have hbl2 : bd.length ≤ 1000000 := by omega
  rw [hbd] at hbyb
  have hop3 : openB (x :: t) = if S ≠ P then (0, [], 0, 3) else (x.toNat, bd, 1 + k + 4, 0) := by
    rw [HOP.out, ← hP, ← hS, ← hbd]
  have hS1 : 1 ≤ S.length := by
    rw [← hS]; unfold sealB; rw [if_neg (by have := HZ.out; omega)]; unfold headB; simp; try omega
  have kp : ∀ W, Below w.heap.size w W → (convert 30 9 (.slice (some ⟨g, o, none⟩) (t.length + 1) (t.length + 1))).run Tryd.prog W = .ok (.string ⟨P.toArray⟩) W := fun W hW => by
    rw [← hP, hfit]
    exact conv_cells W g o _ (x :: t) (t.length + 1) (by rw [List.length_cons]; omega) (fun j hj => (hW.cell (p := ⟨g, o + j, none⟩) (Nat.lt_of_lt_of_le hg hB)).trans (HC.out j hj))
  have kp0 := kp w.drew (Below.refl _ _).drew
  have hbd0 : Byt w.drew B (.slice (some ⟨g, o, none⟩) 0 0) bd := hbyb
  have hx00 : w.drew.cell? ⟨g, o, none⟩ = some (.int .u8 (x.toNat : Int)) := hx0
  have hBd : B ≤ w.drew.heap.size := hB
  have HKP := Lib.hid kp
  have hgg : w.drew.heap.size = w.heap.size := rfl
  have htl : t.length ≤ 1000000 := by omega
  have ht0 : 0 < t.length := by omega
  have ht1 : ¬ t.length = 0 := by omega
  have hk6 : (k : Int) ≤ 1000000 := by omega
  have hsh2 : 1 + (k : Int) + 4 ≤ (t.length : Int) + 1 := by omega
  have ib1 : (0 : Int) ≤ 1 + (k : Int) + 4 := by omega
  have ib2 : 1 + (k : Int) + 4 ≤ 1 + (k : Int) + 4 := by omega
  have hwx : IntKind.i64.wrap (x.toNat : Int) = (x.toNat : Int) := IntWalk.i64_in _ (by omega)
  have hw1 : IntKind.i64.wrap (1 + (k : Int) + 4) = 1 + (k : Int) + 4 := IntWalk.i64_in _ (by omega)
  have hw2 : (1 + (k : Int) + 4).toNat = t.length + 1 := by omega
  have HOP3 := Lib.hid hop3; have HS := Lib.hid hS; have HS1 := Lib.hid hS1
  have HBD := Lib.hid hbd0; have HBY := Lib.hid hbyb
  clear hbd hP hop3 hS hS1 HOP kp hbd0 hbyb hgg
  by_cases hSP : S = P
  · subst hSP
    have hf : openB (x :: t) = (x.toNat, bd, 1 + k + 4, 0) := by rw [HOP3.out, if_neg (by simp)]
    have HF := Lib.hid hf; clear hf
    go_enter Tryd.func44, Tryd.ntmps44
    go_wp2_with fail
    refine (rget_n _ _ _ B t 0 k 0 w HCUT.out htl HGG.out).mono ?_
    rintro e' w' ⟨rfl, rfl⟩
    go_wp2_with fail
    go_region_with (first | (go_at_call 39; refine (rseal_is _ _ B bd S _ HBD.out hBd hbl2 HS.out).mono ?_; rintro e w3 ⟨v3, rfl, hown3, hb3'⟩; have hb3 : Below w.heap.size w w3 := (Below.refl _ _).drew.trans hb3'; have kv := conv_own hown3 HS1.out; have kps := HKP.out w3 hb3; have hxs := (hb3.cell (p := ⟨g, o, none⟩) (Nat.lt_of_lt_of_le hg hB)).trans hx0))
    all_goals
      go_wp2
      refine bodyPost_ret (v := .tuple #[.int .i64 x.toNat, .slice (some ⟨g, o, none⟩) 0 0, .int .i64 ((1 + k + 4 : Nat) : Int), .int .i64 0]) (by simp [results, Tryd.results44, go_sem]) rfl ⟨_, by rw [HF.out]; rfl, by rw [HF.out]; exact HBY.out.below hb3 hB, hb3⟩
  · have hf : openB (x :: t) = (0, [], 0, 3) := by rw [HOP3.out, if_pos hSP]
    have hne : (S == P) = false := by simpa using hSP
    have HF := Lib.hid hf; have HSP := Lib.hid hSP; clear hf hSP
    go_enter Tryd.func44, Tryd.ntmps44
    go_wp2_with fail
    refine (rget_n _ _ _ B t 0 k 0 w HCUT.out htl HGG.out).mono ?_
    rintro e' w' ⟨rfl, rfl⟩
    go_wp2_with fail
    go_region_with (first | (go_at_call 39; refine (rseal_is _ _ B bd S _ HBD.out hBd hbl2 HS.out).mono ?_; rintro e w3 ⟨v3, rfl, hown3, hb3'⟩; have hb3 : Below w.heap.size w w3 := (Below.refl _ _).drew.trans hb3'; have kv := conv_own hown3 HS1.out; have kps := HKP.out w3 hb3; have hxs := (hb3.cell (p := ⟨g, o, none⟩) (Nat.lt_of_lt_of_le hg hB)).trans hx0))
    all_goals
      go_wp2
      refine bodyPost_ret (v := .tuple #[.int .i64 0, .slice none 0 0, .int .i64 0, .int .i64 3]) (by simp [results, Tryd.results44, go_sem]) rfl ⟨_, by rw [HF.out]; rfl, by rw [HF.out]; exact byt_nil _ _, hb3⟩
end Go.Proofs.YtdigpeipklfaeaaDoor
/-
  The reference's Open reads a frame as the plain function says.
  The bytes are there in memory, at most 1,000,000.
-/
set_option linter.unusedSimpArgs false
set_option linter.unusedVariables false
namespace Go.Proofs.YtdigpeipklfaeaaDoor
open Go.RowKit
set_option maxRecDepth 100000

set_option maxRecDepth 100000 in
set_option maxHeartbeats 1000000 in
theorem ropen_any (A : Option Addr) (c B : Nat) (l : List UInt8) (w : World) (h : Byt w B (.slice A l.length c) l) (hB : B ≤ w.heap.size) (hl : l.length ≤ 1000000) : Calls Tryd.prog 44 #[.slice A l.length c] w (GotF B (openB l) w) := by
  obtain ⟨A', c', hv, hc, hcell⟩ := id h
  injection hv with e1 _ e2; subst e1; subst e2
  by_cases h0 : l.length = 0
  · have hf : openB l = (0, [], 0, 2) := by unfold openB; rw [if_pos h0]
    have HF := Lib.hid hf; clear hf
    have h00 : (l.length : Int) = 0 := by omega
    go_enter Tryd.func44, Tryd.ntmps44
    go_wp2
    refine bodyPost_ret (v := .tuple #[.int .i64 0, .slice none 0 0, .int .i64 0, .int .i64 2]) (by simp [results, Tryd.results44, go_sem]) rfl ⟨_, by rw [HF.out]; rfl, by rw [HF.out]; exact byt_nil _ _, Below.refl _ _⟩
  · obtain ⟨g, o, rfl, hg, hcs⟩ := hcell (by omega)
    obtain ⟨x, t, rfl⟩ : ∃ x t, l = x :: t := by cases l with | nil => simp at h0 | cons x t => exact ⟨x, t, rfl⟩
    have hx0 : w.cell? ⟨g, o, none⟩ = some (.int .u8 (x.toNat : Int)) := hcs 0 (by simp)
    by_cases hz : x.toNat = 0
    · have hf : openB (x :: t) = (0, [], 0, 3) := by unfold openB; simp only [List.length_cons, List.headD_cons, List.drop_succ_cons, List.drop_zero]; rw [if_neg (by omega), if_pos hz]
      have hz2 : ((x.toNat : Int) == 0) = true := by rw [hz]; rfl
      have HF := Lib.hid hf; clear hf hz
      go_enter Tryd.func44, Tryd.ntmps44
      go_wp2
      refine bodyPost_ret (v := .tuple #[.int .i64 0, .slice none 0 0, .int .i64 0, .int .i64 3]) (by simp [results, Tryd.results44, go_sem]) rfl ⟨_, by rw [HF.out]; rfl, by rw [HF.out]; exact byt_nil _ _, Below.refl _ _⟩
    · have hz2 : ((x.toNat : Int) == 0) = false := by rw [beq_eq_false_iff_ne]; omega
      have hb := x.toNat_lt
      obtain ⟨gg, hgg⟩ : ∃ gg, Nu.get t = gg := ⟨_, rfl⟩
      obtain ⟨n, k, e⟩ := gg
      have hop : openB (x :: t) = if e = 2 ∧ 2 < t.length + 1 then (0, [], 0, 3) else if e = 2 then (0, [], 0, 2) else if e ≠ 0 ∨ n < 0 ∨ 4000 < n then (0, [], 0, 3) else if ((t.length + 1 : Nat) : Int) < 5 + k + n then (0, [], 0, 2)
          else if sealB x.toNat (((x :: t).drop (5 + k)).take n.toNat) ≠ (x :: t).take (5 + k + n.toNat) then (0, [], 0, 3) else (x.toNat, ((x :: t).drop (5 + k)).take n.toNat, 5 + k + n.toNat, 0) := by
        unfold openB; simp only [List.length_cons, List.headD_cons, List.drop_succ_cons, List.drop_zero]; rw [if_neg (by omega), if_neg hz, hgg]
      have HOP := Lib.hid hop; have HZ := Lib.hid hz; clear hop hz
      by_cases hc1 : c = 1
      · have ht : t = [] := by cases t with | nil => rfl | cons y s => simp at hc; omega
        subst ht
        have he : e = 2 := by have : Nu.get [] = (0, 0, 2) := rfl; rw [this] at hgg; injection hgg with _ h2; injection h2 with _ h3; exact h3.symm
        have hf : openB [x] = (0, [], 0, 2) := by rw [HOP.out, if_neg (by simp), if_pos he]
        have HF := Lib.hid hf; clear hf
        subst hc1
        have hby : Byt w B (.slice (some ⟨g, o, none⟩) 0 0) [] := ⟨_, _, rfl, Nat.le_refl _, fun h => absurd h (by simp)⟩
        have HBY := Lib.hid hby
        subst he
        have HGG := Lib.hid hgg
        clear hcs hcell h hby hgg
        go_enter Tryd.func44, Tryd.ntmps44
        go_wp2_with fail
        refine (rget_n _ _ _ B [] n k 2 w HBY.out (by simp) HGG.out).mono ?_
        rintro e' w' ⟨rfl, rfl⟩
        go_wp2
        refine bodyPost_ret (v := .tuple #[.int .i64 0, .slice none 0 0, .int .i64 0, .int .i64 2]) (by simp [results, Tryd.results44, go_sem]) rfl ⟨_, by rw [HF.out]; rfl, by rw [HF.out]; exact byt_nil _ _, Below.refl _ _⟩
      · have hcut := h.cut (k := 1) (by simp)
        rw [if_neg hc1, add_lit] at hcut
        simp only [List.length_cons, Nat.add_sub_cancel, List.drop_succ_cons, List.drop_zero] at hcut
        have HCUT := Lib.hid hcut; clear hcut
        have HC := Lib.hid hcs; clear hcs hcell h
        have HGG := Lib.hid hgg; clear hgg
        have hlc : (t.length : Int) + 1 ≤ (c : Int) := by simp at hc; omega
        have htl : t.length ≤ 1000000 := by simp at hl; omega
        by_cases he2 : e = 2
        · subst he2
          by_cases hl2 : 2 < t.length + 1
          · have hl3 : (2 : Int) < (t.length : Int) + 1 := by omega
            have hf : openB (x :: t) = (0, [], 0, 3) := by rw [HOP.out, if_pos ⟨rfl, hl2⟩]
            have HF := Lib.hid hf; clear hf
            go_enter Tryd.func44, Tryd.ntmps44
            go_wp2_with fail
            refine (rget_n _ _ _ B t n k 2 w HCUT.out htl HGG.out).mono ?_
            rintro e' w' ⟨rfl, rfl⟩
            go_wp2
            refine bodyPost_ret (v := .tuple #[.int .i64 0, .slice none 0 0, .int .i64 0, .int .i64 3]) (by simp [results, Tryd.results44, go_sem]) rfl ⟨_, by rw [HF.out]; rfl, by rw [HF.out]; exact byt_nil _ _, Below.refl _ _⟩
          · have hl3 : (t.length : Int) + 1 ≤ (2 : Int) := by omega
            have hf : openB (x :: t) = (0, [], 0, 2) := by rw [HOP.out, if_neg (fun h => hl2 h.2), if_pos rfl]
            have HF := Lib.hid hf; clear hf
            go_enter Tryd.func44, Tryd.ntmps44
            go_wp2_with fail
            refine (rget_n _ _ _ B t n k 2 w HCUT.out htl HGG.out).mono ?_
            rintro e' w' ⟨rfl, rfl⟩
            go_wp2
            refine bodyPost_ret (v := .tuple #[.int .i64 0, .slice none 0 0, .int .i64 0, .int .i64 2]) (by simp [results, Tryd.results44, go_sem]) rfl ⟨_, by rw [HF.out]; rfl, by rw [HF.out]; exact byt_nil _ _, Below.refl _ _⟩
        · have t2 : ((e : Int) == 2) = false := by rw [beq_eq_false_iff_ne]; omega
          by_cases he0 : e = 0
          · subst he0
            by_cases hn : n < 0 ∨ 4000 < n
            · have hcs2 : n < 0 ∨ (0 ≤ n ∧ 4000 < n) := by omega
              have hf : openB (x :: t) = (0, [], 0, 3) := by rw [HOP.out, if_neg (by omega), if_neg (by omega), if_pos (.inr hn)]
              have HF := Lib.hid hf; clear hf hn
              rcases hcs2 with h1 | ⟨h1, h2⟩
              all_goals
                go_enter Tryd.func44, Tryd.ntmps44
                go_wp2_with fail
                refine (rget_n _ _ _ B t n k 0 w HCUT.out htl HGG.out).mono ?_
                rintro e' w' ⟨rfl, rfl⟩
                go_wp2
                refine bodyPost_ret (v := .tuple #[.int .i64 0, .slice none 0 0, .int .i64 0, .int .i64 3]) (by simp [results, Tryd.results44, go_sem]) rfl ⟨_, by rw [HF.out]; rfl, by rw [HF.out]; exact byt_nil _ _, Below.refl _ _⟩
            · obtain ⟨m, rfl⟩ := Int.eq_ofNat_of_zero_le (show 0 ≤ n by omega)
              have hm4 : (m : Int) ≤ 4000 := by omega
              have hkl : k ≤ t.length := by have := Nu.get_len t; rw [HGG.out] at this; exact this
              have hop2 : openB (x :: t) = if ((t.length + 1 : Nat) : Int) < 5 + k + (m : Int) then (0, [], 0, 2) else if sealB x.toNat (((x :: t).drop (5 + k)).take m) ≠ (x :: t).take (5 + k + m) then (0, [], 0, 3) else (x.toNat, ((x :: t).drop (5 + k)).take m, 5 + k + m, 0) := by
                rw [HOP.out, if_neg (by omega), if_neg (by omega), if_neg (by omega)]; rfl
              have HOP2 := Lib.hid hop2; clear hop2 hn
              by_cases hsh : t.length + 1 < 5 + k + m
              · have hsh2 : (t.length : Int) + 1 < 1 + (k : Int) + 4 + (m : Int) := by omega
                have hf : openB (x :: t) = (0, [], 0, 2) := by rw [HOP2.out, if_pos (by omega)]
                have HF := Lib.hid hf; clear hf
                go_enter Tryd.func44, Tryd.ntmps44
                go_wp2_with fail
                refine (rget_n _ _ _ B t m k 0 w HCUT.out htl HGG.out).mono ?_
                rintro e' w' ⟨rfl, rfl⟩
                go_wp2
                refine bodyPost_ret (v := .tuple #[.int .i64 0, .slice none 0 0, .int .i64 0, .int .i64 2]) (by simp [results, Tryd.results44, go_sem]) rfl ⟨_, by rw [HF.out]; rfl, by rw [HF.out]; exact byt_nil _ _, Below.refl _ _⟩
              · have hsh2 : 1 + (k : Int) + 4 + (m : Int) ≤ (t.length : Int) + 1 := by omega
                have HX := HOP2.out
                rw [if_neg (by omega), show 5 + k = 1 + k + 4 by omega] at HX
                by_cases hcap : c = 1 + k + 4
                · have hm0 : m = 0 := by simp at hc; omega
                  subst hm0
                  have hfit : 1 + k + 4 = t.length + 1 := by simp at hc; omega
                  have hcc : c = t.length + 1 := by omega
                  subst hcc
                  exact ropen_tail0 g o B k x t w hB hg (by simpa using hl) HC hx0 HZ hz2 HCUT HGG hfit HX
                · exact ropen_tail g o c B k m x t w hB hg (by simpa using hl) (by simpa using hc) HC hx0 HZ hz2 HCUT HGG (by omega) (by omega) (by simp at hc; omega) (by simp at hc; omega) HX
          · have t0 : ((e : Int) != 0) = true := by rw [bne_iff_ne]; omega
            have hf : openB (x :: t) = (0, [], 0, 3) := by rw [HOP.out, if_neg (by omega), if_neg he2, if_pos (.inl he0)]
            have HF := Lib.hid hf; clear hf
            have HE := Lib.hid he0; have HE2 := Lib.hid he2; clear he0 he2
            go_enter Tryd.func44, Tryd.ntmps44
            go_wp2_with fail
            refine (rget_n _ _ _ B t n k e w HCUT.out htl HGG.out).mono ?_
            rintro e' w' ⟨rfl, rfl⟩
            go_wp2
            refine bodyPost_ret (v := .tuple #[.int .i64 0, .slice none 0 0, .int .i64 0, .int .i64 3]) (by simp [results, Tryd.results44, go_sem]) rfl ⟨_, by rw [HF.out]; rfl, by rw [HF.out]; exact byt_nil _ _, Below.refl _ _⟩
end Go.Proofs.YtdigpeipklfaeaaDoor
/-
  The reference's Decode of a record answers what the plain function says.
  The bytes are there in memory, at most 1,000,000.
-/
set_option linter.unusedSimpArgs false
set_option linter.unusedVariables false
namespace Go.Proofs.YtdigpeipklfaeaaDoor
open Go.RowKit
set_option maxRecDepth 100000

/-- what Decode answers -/
def GotQ10 (r : Rcd × Nat × Nat) (w : World) (e : Ending) (w' : World) : Prop := e = .returned (.tuple #[r.1.val, .int .i64 (r.2.1 : Nat), .int .i64 (r.2.2 : Nat)]) ∧ Below w.heap.size w w'
theorem ownI_at {B : Nat} {v : Value} {l : List Int} {w : World} (h : OwnI B v l w) (hl : 0 < l.length) : ∃ g c, v = .slice (some ⟨g, 0, none⟩) l.length c ∧ l.length ≤ c ∧ g < w.heap.size ∧ B ≤ g ∧ ∀ j (hj : j < l.length), w.cell? ⟨g, j, none⟩ = some (.int .i64 l[j]) := by
  unfold OwnI at h
  have hc := fun (g : Nat) (hg : v.ownBlock = some g) => World.ownsRow.cells h hg
  have hlt := World.ownsRow.lt h
  rcases h.2 with ⟨rfl, h0⟩ | ⟨g, c, cur, rfl, hB, _, hnc, _⟩
  · omega
  · refine ⟨g, c, rfl, hnc, (hlt g rfl).2, hB, fun k hk => ?_⟩
    have h2 := hc g rfl k (.int .i64 l[k]) (by simp [hk])
    have e1 : (⟨g, 0, Option.none⟩ : Addr).add k = ⟨g, k, Option.none⟩ := by unfold Addr.add; split <;> simp_all
    rw [e1] at h2; exact h2
theorem byt_sets10 {w : World} {B g : Nat} {v a0 a1 a2 a3 a4 a5 a6 : Value} {l : List UInt8} (h : Byt w B v l) (hB : B ≤ g) : Byt (((((((w.setCell ⟨g, 0, none⟩ a0).setCell ⟨g, 1, none⟩ a1).setCell ⟨g, 2, none⟩ a2).setCell ⟨g, 3, none⟩ a3).setCell ⟨g, 4, none⟩ a4).setCell ⟨g, 5, none⟩ a5).setCell ⟨g, 6, none⟩ a6) B v l :=
  byt_set10 (byt_set10 (byt_set10 (byt_set10 (byt_set10 (byt_set10 (byt_set10 h hB) hB) hB) hB) hB) hB) hB
theorem conv_take10 {w : World} {B g o m cap : Nat} {l : List UInt8} (n : Nat) (h : Byt w B (.slice (some ⟨g, o, none⟩) m cap) l) (hn : n ≤ m) : (convert 30 9 (.slice (some ⟨g, o, none⟩) n cap)).run Tryd.prog w = .ok (.string ⟨(l.take n).toArray⟩) w := by
  obtain ⟨A, c, hv, _, hc⟩ := h
  injection hv with e1 e2 e3
  subst e2
  by_cases h0 : 0 < l.length
  · obtain ⟨g', o', e4, _, hcs⟩ := hc h0
    rw [e4] at e1
    injection e1 with e5
    injection e5 with e6 e7
    subst e6; subst e7
    exact conv_cells w g o cap l n hn hcs
  · have : l = [] := List.eq_nil_of_length_eq_zero (by omega)
    subst this
    obtain rfl : n = 0 := by simpa using hn
    exact conv_zero w g o cap
theorem text_parts {s : ByteArray} {l : List UInt8} (h : s.data.toList = l) : s = ⟨l.toArray⟩ := by
  apply ByteArray.ext; apply Array.toList_inj.1; rw [h]
set_option maxHeartbeats 4000000 in
theorem rdec_hard (A : Option Addr) (c B n : Nat) (b l : List UInt8) (w : World) (h : Byt w B (.slice A l.length c) l) (hB : B ≤ w.heap.size) (hl : l.length ≤ 1000000) (ho : openB l = (1, b, n, 0)) (t v : Int) (hn : numsL 2 b = some ([t, v], [])) (hv0 : 0 ≤ v) (hv1 : v ≤ 7) :
    Calls Tryd.prog 23 #[.slice A l.length c] w (GotQ10 (decR10 l) w) := by
  have hyes := dec_hard_yes ho hn
  have hbl : b.length ≤ 4000 := (openB_canon ho).2.2.2.2.2
  have hn1 : n ≤ l.length := (openB_canon ho).2.1
  have hn6 : 6 ≤ n := (openB_canon ho).2.2.1
  have hop := ropen_any A c B l
  rw [ho] at hop
  obtain ⟨W1, hW1⟩ : ∃ W1, w.alloc (.cells #[.bool false, .int .i64 0, .int .i64 0, .int .i64 0, .int .i64 0, .int .i64 0, .string ⟨#[]⟩] 27) = W1 := ⟨_, rfl⟩
  have hb1 : Below w.heap.size w W1 := by rw [← hW1]; exact below_new _ _
  have p1 : Rt W1 w.heap.size 27 [.bool false, .int .i64 0, .int .i64 0, .int .i64 0, .int .i64 0, .int .i64 0, .string ⟨#[]⟩] := by rw [← hW1]; exact Rt.new w _ _
  have hby1 := h.below hb1 hB
  have hop1 := hop W1 hby1 (Nat.le_trans hB hb1.size) hl
  have HW1 := Lib.hid hW1
  have HBY1 := Lib.hid hby1
  have HB1 := Lib.hid hb1
  obtain ⟨ln, hln⟩ : ∃ ln, l.length = ln := ⟨_, rfl⟩
  have HLN := Lib.hid hln
  rw [hln] at hop1 hn1 ⊢
  clear hop hW1 hby1 h hb1 hln hl
  go_enter Tryd.func23, Tryd.ntmps23
  go_wp2_with fail
  rw [HW1.out]
  refine hop1.mono ?_
  rintro e1 k1 ⟨v1, rfl, ho1, h1⟩
  have p2 := p1.below h1
  have hb2 := HB1.out.trans (h1.mono HB1.out.size)
  have hby2 := HBY1.out.below h1 (Nat.le_trans hB HB1.out.size)
  obtain ⟨A2, c2, rfl⟩ := byt_slice ho1
  obtain ⟨W2, hW2⟩ : ∃ W2, k1.alloc (.cells #[.bool false, .int .i64 0, .int .i64 0, .int .i64 0, .int .i64 0, .int .i64 0, .string ⟨#[]⟩] 27) = W2 := ⟨_, rfl⟩
  have h2 : Below k1.heap.size k1 W2 := by rw [← hW2]; exact below_new _ _
  have q2 : Rt W2 k1.heap.size 27 [.bool false, .int .i64 0, .int .i64 0, .int .i64 0, .int .i64 0, .int .i64 0, .string ⟨#[]⟩] := by rw [← hW2]; exact Rt.new k1 _ _
  have p3 := p2.below h2
  have hb3 := hb2.trans (h2.mono hb2.size)
  have hBk : B ≤ k1.heap.size := Nat.le_trans hB hb2.size
  have hby3 := hby2.below h2 hBk
  have hbo : Byt W2 B (.slice A2 b.length c2) b := ho1.below h2 hBk
  have HP := Lib.hid p3
  have HQ := Lib.hid q2
  have HB := Lib.hid hb3
  have HBY := Lib.hid hby3
  have HBO := Lib.hid hbo
  have HW2 := Lib.hid hW2
  have hpk : w.heap.size < k1.heap.size := p2.lt
  have hpn : w.heap.size ≠ k1.heap.size := by omega
  have hz2 : k1.heap.size < W2.heap.size := q2.lt
  clear p1 p2 p3 q2 hb2 hb3 hby2 hby3 hbo h1 h2 ho1 hW2 HW1 HB1 HBY1 hop1
  have HN := Lib.hid hn
  have HY := Lib.hid hyes
  clear hn hyes ho
  go_wp2_with fail
  rw [HW2.out]
  obtain ⟨bl, hbln⟩ : ∃ bl, b.length = bl := ⟨_, rfl⟩
  have hnu := rnumbers_any A2 c2 B b 2 W2 HBO.out (by omega) (by omega) (by omega)
  rw [hbln] at hnu
  simp only [hbln]
  refine hnu.mono ?_
  rintro e2 k2 ⟨h2, hx⟩
  rw [HN.out] at hx
  obtain ⟨vv, A3, c3, rfl, hoi, hbr⟩ := hx
  obtain ⟨gi, ci, rfl, hci, hgi, hBi, hcs⟩ := ownI_at hoi (by simp)
  have i0 : k2.cell? ⟨gi, 0, none⟩ = some (.int .i64 t) := hcs 0 (by simp)
  have i1 : k2.cell? ⟨gi, 1, none⟩ = some (.int .i64 v) := hcs 1 (by simp)
  have hgk : k1.heap.size < gi := by omega
  have p3 := HP.out.below h2
  have q3 := HQ.out.below h2
  have hb3 := HB.out.trans (h2.mono HB.out.size)
  have hby3 := HBY.out.below h2 (by omega)
  have x0 := q3.cell (j := 0) rfl
  have y0 := q3.frz 0
  have x1 := q3.cell (j := 1) rfl
  have y1 := q3.frz 1
  have x2 := q3.cell (j := 2) rfl
  have y2 := q3.frz 2
  have x3 := q3.cell (j := 3) rfl
  have y3 := q3.frz 3
  have x4 := q3.cell (j := 4) rfl
  have y4 := q3.frz 4
  have x5 := q3.cell (j := 5) rfl
  have y5 := q3.frz 5
  have x6 := q3.cell (j := 6) rfl
  have y6 := q3.frz 6
  have HP3 := Lib.hid p3
  have HQ3 := Lib.hid q3
  have HB3 := Lib.hid hb3
  have HBY3 := Lib.hid hby3
  simp only [List.length_cons, List.length_nil, Nat.reduceAdd] at *
  clear p3 q3 hb3 hby3 h2 hoi hbr hcs HP HQ HB HBY HBO hnu
  go_wp2_with fail
  replace i0 : k2.drew.cell? ⟨gi, 0, none⟩ = some (.int .i64 t) := i0
  replace i1 : k2.drew.cell? ⟨gi, 1, none⟩ = some (.int .i64 v) := i1
  have p4 : Rt k2.drew w.heap.size 27 [.bool false, .int .i64 0, .int .i64 0, .int .i64 0, .int .i64 0, .int .i64 0, .string ⟨#[]⟩] := HP3.out
  have q4 : Rt k2.drew k1.heap.size 27 [.bool false, .int .i64 0, .int .i64 0, .int .i64 0, .int .i64 0, .int .i64 0, .string ⟨#[]⟩] := HQ3.out
  have hb4 : Below w.heap.size w k2.drew := HB3.out.drew
  have hby4 : Byt k2.drew B (.slice A ln c) l := by have := HBY3.out; rw [HLN.out] at this; exact this
  clear x0 x1 x2 x3 x4 x5 x6 y0 y1 y2 y3 y4 y5 y6 HP3 HQ3 HB3 HBY3
  refine wp_region_noPanic ?_
  refine wp_region_held_drew (S := fun W => W.cell? ⟨gi, 0, none⟩ = some (.int .i64 t) ∧ W.cell? ⟨gi, 1, none⟩ = some (.int .i64 v)) (by kernel_rfl) ?_ (fun hHeld => ?_)
  · exact ⟨i0, i1⟩
  generalize k2.drew = k3 at *
  have x0 := q4.cell (j := 0) rfl
  have y0 := q4.frz 0
  have x1 := q4.cell (j := 1) rfl
  have y1 := q4.frz 1
  have x2 := q4.cell (j := 2) rfl
  have y2 := q4.frz 2
  have x3 := q4.cell (j := 3) rfl
  have y3 := q4.frz 3
  have x4 := q4.cell (j := 4) rfl
  have y4 := q4.frz 4
  have x5 := q4.cell (j := 5) rfl
  have y5 := q4.frz 5
  have x6 := q4.cell (j := 6) rfl
  have y6 := q4.frz 6
  refine wpAnyH_take (i := 0) (oi := { dst := some 57, op := Op.move (Operand.tmp 10), type := 79, pos := "ref.go:208", after := #[], guard := none }) (v := .slice (some ⟨gi, 0, none⟩) 2 ci) rfl (by kernel_rfl) (by kernel_rfl) (by kernel_rfl) (fun _ _ _ h => h) (Or.inl ⟨by rfl, fun w hSw => ?_⟩) (by assumption) ?_
  · (try dsimp only at hSw)
    go_simp
  try simp only [Act.put, List.setIfInBounds_toArray, List.set_cons_zero, List.set_cons_succ]
  refine wpAnyH_take (i := 1) (oi := { dst := some 58, op := Op.indexAddr 79 (Operand.tmp 57) (Operand.const (Value.int IntKind.i64 0)), type := 0, pos := "ref.go:208", after := #[{ on := 0, ground := Ground.data }], guard := none }) (v := .pointer (some ⟨gi, 0, none⟩)) rfl (by kernel_rfl) (by kernel_rfl) (by kernel_rfl) (fun _ _ _ h => h) (Or.inl ⟨by rfl, fun w hSw => ?_⟩) (by assumption) ?_
  · (try dsimp only at hSw)
    go_simp
  try simp only [Act.put, List.setIfInBounds_toArray, List.set_cons_zero, List.set_cons_succ]
  refine wpAnyH_take (i := 2) (oi := { dst := some 59, op := Op.load 2 (Operand.tmp 58), type := 2, pos := "ref.go:208", after := #[{ on := 1, ground := Ground.data }], guard := none }) (v := .int .i64 t) rfl (by kernel_rfl) (by kernel_rfl) (by kernel_rfl) (fun _ _ _ h => h) (Or.inl ⟨by rfl, fun w hSw => ?_⟩) (by assumption) ?_
  · (try dsimp only at hSw)
    go_simp
  try simp only [Act.put, List.setIfInBounds_toArray, List.set_cons_zero, List.set_cons_succ]
  refine wpAnyH_take (i := 3) (oi := { dst := some 60, op := Op.move (Operand.tmp 10), type := 79, pos := "ref.go:208", after := #[], guard := none }) (v := .slice (some ⟨gi, 0, none⟩) 2 ci) rfl (by kernel_rfl) (by kernel_rfl) (by kernel_rfl) (fun _ _ _ h => h) (Or.inl ⟨by rfl, fun w hSw => ?_⟩) (by assumption) ?_
  · (try dsimp only at hSw)
    go_simp
  try simp only [Act.put, List.setIfInBounds_toArray, List.set_cons_zero, List.set_cons_succ]
  refine wpAnyH_take (i := 4) (oi := { dst := some 61, op := Op.indexAddr 79 (Operand.tmp 60) (Operand.const (Value.int IntKind.i64 1)), type := 0, pos := "ref.go:208", after := #[{ on := 3, ground := Ground.data }], guard := none }) (v := .pointer (some ⟨gi, 1, none⟩)) rfl (by kernel_rfl) (by kernel_rfl) (by kernel_rfl) (fun _ _ _ h => h) (Or.inl ⟨by rfl, fun w hSw => ?_⟩) (by assumption) ?_
  · (try dsimp only at hSw)
    go_simp
  try simp only [Act.put, List.setIfInBounds_toArray, List.set_cons_zero, List.set_cons_succ]
  refine wpAnyH_take (i := 5) (oi := { dst := some 62, op := Op.load 2 (Operand.tmp 61), type := 2, pos := "ref.go:208", after := #[{ on := 4, ground := Ground.data }], guard := none }) (v := .int .i64 v) rfl (by kernel_rfl) (by kernel_rfl) (by kernel_rfl) (fun _ _ _ h => h) (Or.inl ⟨by rfl, fun w hSw => ?_⟩) (by assumption) ?_
  · (try dsimp only at hSw)
    go_simp
  try simp only [Act.put, List.setIfInBounds_toArray, List.set_cons_zero, List.set_cons_succ]
  refine wpAnyH_take (i := 6) (oi := { dst := some 63, op := Op.build 23 #[(0, Operand.tmp 59), (1, Operand.tmp 62)], type := 23, pos := "ref.go:208", after := #[{ on := 2, ground := Ground.data }, { on := 5, ground := Ground.data }], guard := none }) (v := .agg #[.int .i64 t, .int .i64 v]) rfl (by kernel_rfl) (by kernel_rfl) (by kernel_rfl) (fun _ _ _ h => h) (Or.inl ⟨by rfl, fun w hSw => ?_⟩) (by assumption) ?_
  · (try dsimp only at hSw)
    go_simp
  try simp only [Act.put, List.setIfInBounds_toArray, List.set_cons_zero, List.set_cons_succ]
  refine wpAnyH_take (i := 7) (oi := { dst := some 64, op := Op.build 27 #[(0, Operand.const (Value.bool true)), (1, Operand.tmp 63)], type := 27, pos := "ref.go:208", after := #[{ on := 6, ground := Ground.data }], guard := none }) (v := .agg #[.bool true, .int .i64 t, .int .i64 v, .int .i64 0, .int .i64 0, .int .i64 0, .string ⟨#[]⟩]) rfl (by kernel_rfl) (by kernel_rfl) (by kernel_rfl) (fun _ _ _ h => h) (Or.inl ⟨by rfl, fun w hSw => ?_⟩) (by assumption) ?_
  · (try dsimp only at hSw)
    go_simp
  try simp only [Act.put, List.setIfInBounds_toArray, List.set_cons_zero, List.set_cons_succ]
  refine wpAnyH_ready (rs := [8]) (by kernel_rfl) (by simp) ?_
  refine AllReadyH.cons (o := { dst := none, op := Op.store 27 (Operand.tmp 9) (Operand.tmp 64), type := 0, pos := "ref.go:208", after := #[{ on := 7, ground := Ground.data }, { on := 0, ground := Ground.phase }, { on := 1, ground := Ground.phase }, { on := 2, ground := Ground.phase }, { on := 3, ground := Ground.phase }, { on := 4, ground := Ground.phase }, { on := 5, ground := Ground.phase }, { on := 6, ground := Ground.phase }, { on := 7, ground := Ground.phase }], guard := none }) rfl (fun K hK => ?_) AllReadyH.nil
  go_simp
  refine hK.out _ _ ?_ (fun hHeld => ?_)
  · exact ⟨by go_simp, by go_simp⟩
  clear hK K
  try simp only [Act.put, List.setIfInBounds_toArray, List.set_cons_zero, List.set_cons_succ]
  refine wpAnyH_done (by kernel_rfl) ?_ _
  refine NoPanic.normal ?_
  go_wp2_with fail
  refine wp_world (fun W => Rt W k1.heap.size 27 [.bool true, .int .i64 t, .int .i64 v, .int .i64 0, .int .i64 0, .int .i64 0, .string ⟨#[]⟩] ∧ Rt W w.heap.size 27 [.bool false, .int .i64 0, .int .i64 0, .int .i64 0, .int .i64 0, .int .i64 0, .string ⟨#[]⟩] ∧ Byt W B (.slice A ln c) l ∧ Below w.heap.size w W) ⟨(((((((q4.set 0 (.bool true)).set 1 (.int .i64 t)).set 2 (.int .i64 v)).set 3 (.int .i64 0)).set 4 (.int .i64 0)).set 5 (.int .i64 0)).set 6 (.string ⟨#[]⟩)), (((((((p4.other 0 (.bool true) hpn).other 1 (.int .i64 t) hpn).other 2 (.int .i64 v) hpn).other 3 (.int .i64 0) hpn).other 4 (.int .i64 0) hpn).other 5 (.int .i64 0) hpn).other 6 (.string ⟨#[]⟩) hpn), byt_sets10 hby4 hBk, (below_set10 ((below_set10 ((below_set10 ((below_set10 ((below_set10 ((below_set10 ((below_set10 (hb4) 0 (g := k1.heap.size) (.bool true) (by omega))) 1 (g := k1.heap.size) (.int .i64 t) (by omega))) 2 (g := k1.heap.size) (.int .i64 v) (by omega))) 3 (g := k1.heap.size) (.int .i64 0) (by omega))) 4 (g := k1.heap.size) (.int .i64 0) (by omega))) 5 (g := k1.heap.size) (.int .i64 0) (by omega))) 6 (g := k1.heap.size) (.string ⟨#[]⟩) (by omega))⟩ ?_
  clear p4 q4 hby4 hb4 x0 x1 x2 x3 x4 x5 x6 y0 y1 y2 y3 y4 y5 y6
  rintro k4 ⟨q4, p4, hby4, hb4⟩
  obtain ⟨A', c', hv', hcl, hbc⟩ := id hby4
  injection hv' with e1 e2 e3
  subst e1; subst e3
  obtain ⟨gb, ob, rfl, hgb, hbcs⟩ := hbc (by have := HLN.out; omega)
  have hcut : n ≤ ln := hn1
  have hnc : n ≤ c := by omega
  have hmay := fun W => rmay10_any ⟨true, t, v, noEnt⟩ W (Nat.zero_le _)
  obtain ⟨y, hy⟩ : ∃ y, may10 ⟨true, t, v, noEnt⟩ = y := ⟨_, rfl⟩
  rw [hy] at hmay
  have hk4 : k1.heap.size < k4.heap.size := q4.lt
  replace q4 : Rt k4.drew k1.heap.size 27 [.bool true, .int .i64 t, .int .i64 v, .int .i64 0, .int .i64 0, .int .i64 0, .string ⟨#[]⟩] := q4
  replace p4 : Rt k4.drew w.heap.size 27 [.bool false, .int .i64 0, .int .i64 0, .int .i64 0, .int .i64 0, .int .i64 0, .string ⟨#[]⟩] := p4
  replace hby4 : Byt k4.drew B (.slice (some ⟨gb, ob, none⟩) ln c) l := hby4
  replace hb4 : Below w.heap.size w k4.drew := hb4.drew
  replace hk4 : k1.heap.size < k4.drew.heap.size := hk4
  clear hbc hbcs
  refine wp_region_noPanic ?_
  refine wp_region_held_drew (S := fun W => W.cell? ⟨k1.heap.size, 0, none⟩ = some (.bool true) ∧ W.cell? ⟨k1.heap.size, 1, none⟩ = some (.int .i64 t) ∧ W.cell? ⟨k1.heap.size, 2, none⟩ = some (.int .i64 v) ∧ W.cell? ⟨k1.heap.size, 3, none⟩ = some (.int .i64 0) ∧ W.cell? ⟨k1.heap.size, 4, none⟩ = some (.int .i64 0) ∧ W.cell? ⟨k1.heap.size, 5, none⟩ = some (.int .i64 0) ∧ W.cell? ⟨k1.heap.size, 6, none⟩ = some (.string ⟨#[]⟩) ∧ Byt W B (.slice (some ⟨gb, ob, none⟩) ln c) l) (by kernel_rfl) ?_ (fun hHeld => ?_)
  · exact ⟨q4.cell (j := 0) rfl, q4.cell (j := 1) rfl, q4.cell (j := 2) rfl, q4.cell (j := 3) rfl, q4.cell (j := 4) rfl, q4.cell (j := 5) rfl, q4.cell (j := 6) rfl, hby4⟩
  generalize k4.drew = k5 at *
  have hyy := HY.out
  rw [hy] at hyy
  cases y with
  | false =>
    have HNO := Lib.hid (hyy.2 rfl)
    clear hyy
    refine wpAnyH_take (i := 0) (oi := { dst := some 108, op := Op.load 27 (Operand.tmp 9), type := 27, pos := "ref.go:220", after := #[], guard := none }) (v := .agg #[.bool true, .int .i64 t, .int .i64 v, .int .i64 0, .int .i64 0, .int .i64 0, .string ⟨#[]⟩]) rfl (by kernel_rfl) (by kernel_rfl) (by kernel_rfl) (fun _ _ _ h => h) (Or.inl ⟨by rfl, fun w hSw => ?_⟩) (by assumption) ?_
    · (try dsimp only at hSw)
      go_simp
    try simp only [Act.put, List.setIfInBounds_toArray, List.set_cons_zero, List.set_cons_succ]
    refine wpAnyH_ready (rs := [1]) (by kernel_rfl) (by simp) ?_
    refine AllReadyH.cons (o := { dst := some 109, op := Op.call { callee := Callee.value (Operand.func 14), args := #[Operand.tmp 108], argTypes := #[27] }, type := 4, pos := "ref.go:220", after := #[{ on := 0, ground := Ground.data }], guard := none }) rfl (fun K hK => ?_) AllReadyH.nil
    go_simp
    go_at_call 14
    refine (hmay _).mono ?_
    rintro e6 k6 ⟨rfl, h6⟩
    replace q4 := q4.below h6
    replace p4 := p4.below h6
    replace hby4 := hby4.below h6 (by omega)
    replace hb4 := hb4.trans (h6.mono hb4.size)
    have hk6 : k1.heap.size < k6.heap.size := Nat.lt_of_lt_of_le hk4 h6.size
    clear h6
    refine hK.out _ _ ?_ (fun hHeld => ?_)
    · exact ⟨q4.cell (j := 0) rfl, q4.cell (j := 1) rfl, q4.cell (j := 2) rfl, q4.cell (j := 3) rfl, q4.cell (j := 4) rfl, q4.cell (j := 5) rfl, q4.cell (j := 6) rfl, hby4⟩
    clear hK K
    try simp only [Act.put, List.setIfInBounds_toArray, List.set_cons_zero, List.set_cons_succ]
    refine wpAnyH_take (i := 2) (oi := { dst := some 110, op := Op.unOp UnOp.not 4 (Operand.tmp 109), type := 4, pos := "ref.go:220", after := #[{ on := 1, ground := Ground.data }], guard := none }) (v := .bool true) rfl (by kernel_rfl) (by kernel_rfl) (by kernel_rfl) (fun _ _ _ h => h) (Or.inl ⟨by rfl, fun w hSw => ?_⟩) (by assumption) ?_
    · (try dsimp only at hSw)
      go_simp
    try simp only [Act.put, List.setIfInBounds_toArray, List.set_cons_zero, List.set_cons_succ]
    refine wpAnyH_take (i := 3) (oi := { dst := some 111, op := Op.move (Operand.tmp 110), type := 4, pos := "ref.go:220", after := #[{ on := 2, ground := Ground.data }, { on := 1, ground := Ground.chain }], guard := none }) (v := .bool true) rfl (by kernel_rfl) (by kernel_rfl) (by kernel_rfl) (fun _ _ _ h => h) (Or.inl ⟨by rfl, fun w hSw => ?_⟩) (by assumption) ?_
    · (try dsimp only at hSw)
      go_simp
    try simp only [Act.put, List.setIfInBounds_toArray, List.set_cons_zero, List.set_cons_succ]
    refine wpAnyH_take (i := 4) (oi := { dst := some 112, op := Op.load 27 (Operand.tmp 9), type := 27, pos := "ref.go:220", after := #[{ on := 3, ground := Ground.guard }], guard := some (3, false) }) (v := undef) rfl (by kernel_rfl) (by kernel_rfl) (by kernel_rfl) (fun _ _ _ h => h) (Or.inr ⟨by rfl, rfl⟩) (by assumption) ?_
    try simp only [Act.put, List.setIfInBounds_toArray, List.set_cons_zero, List.set_cons_succ]
    refine wpAnyH_take (i := 5) (oi := { dst := some 113, op := Op.call { callee := Callee.value (Operand.func 16), args := #[Operand.tmp 112], argTypes := #[27] }, type := 30, pos := "ref.go:220", after := #[{ on := 4, ground := Ground.data }, { on := 3, ground := Ground.chain }, { on := 3, ground := Ground.guard }], guard := some (3, false) }) (v := undef) rfl (by kernel_rfl) (by kernel_rfl) (by kernel_rfl) (fun _ _ _ h => h) (Or.inr ⟨by rfl, rfl⟩) (by assumption) ?_
    try simp only [Act.put, List.setIfInBounds_toArray, List.set_cons_zero, List.set_cons_succ]
    refine wpAnyH_take (i := 6) (oi := { dst := some 114, op := Op.convert 30 9 (Operand.tmp 113), type := 9, pos := "ref.go:220", after := #[{ on := 5, ground := Ground.data }, { on := 3, ground := Ground.guard }], guard := some (3, false) }) (v := undef) rfl (by kernel_rfl) (by kernel_rfl) (by kernel_rfl) (fun _ _ _ h => h) (Or.inr ⟨by rfl, rfl⟩) (by assumption) ?_
    try simp only [Act.put, List.setIfInBounds_toArray, List.set_cons_zero, List.set_cons_succ]
    refine wpAnyH_take (i := 7) (oi := { dst := some 115, op := Op.move (Operand.tmp 0), type := 30, pos := "ref.go:220", after := #[{ on := 3, ground := Ground.guard }], guard := some (3, false) }) (v := undef) rfl (by kernel_rfl) (by kernel_rfl) (by kernel_rfl) (fun _ _ _ h => h) (Or.inr ⟨by rfl, rfl⟩) (by assumption) ?_
    try simp only [Act.put, List.setIfInBounds_toArray, List.set_cons_zero, List.set_cons_succ]
    refine wpAnyH_take (i := 8) (oi := { dst := some 116, op := Op.move (Operand.tmp 7), type := 3, pos := "ref.go:220", after := #[{ on := 3, ground := Ground.guard }], guard := some (3, false) }) (v := undef) rfl (by kernel_rfl) (by kernel_rfl) (by kernel_rfl) (fun _ _ _ h => h) (Or.inr ⟨by rfl, rfl⟩) (by assumption) ?_
    try simp only [Act.put, List.setIfInBounds_toArray, List.set_cons_zero, List.set_cons_succ]
    refine wpAnyH_take (i := 9) (oi := { dst := some 117, op := Op.slice 30 (Operand.tmp 115) none (some (Operand.tmp 116)) none, type := 30, pos := "ref.go:220", after := #[{ on := 7, ground := Ground.data }, { on := 8, ground := Ground.data }, { on := 3, ground := Ground.guard }], guard := some (3, false) }) (v := undef) rfl (by kernel_rfl) (by kernel_rfl) (by kernel_rfl) (fun _ _ _ h => h) (Or.inr ⟨by rfl, rfl⟩) (by assumption) ?_
    try simp only [Act.put, List.setIfInBounds_toArray, List.set_cons_zero, List.set_cons_succ]
    refine wpAnyH_take (i := 10) (oi := { dst := some 118, op := Op.convert 30 9 (Operand.tmp 117), type := 9, pos := "ref.go:220", after := #[{ on := 9, ground := Ground.data }, { on := 3, ground := Ground.guard }], guard := some (3, false) }) (v := undef) rfl (by kernel_rfl) (by kernel_rfl) (by kernel_rfl) (fun _ _ _ h => h) (Or.inr ⟨by rfl, rfl⟩) (by assumption) ?_
    try simp only [Act.put, List.setIfInBounds_toArray, List.set_cons_zero, List.set_cons_succ]
    refine wpAnyH_take (i := 11) (oi := { dst := some 119, op := Op.binOp BinOp.neq 9 (Operand.tmp 114) (Operand.tmp 118) 9, type := 4, pos := "ref.go:220", after := #[{ on := 6, ground := Ground.data }, { on := 10, ground := Ground.data }, { on := 3, ground := Ground.guard }], guard := some (3, false) }) (v := undef) rfl (by kernel_rfl) (by kernel_rfl) (by kernel_rfl) (fun _ _ _ h => h) (Or.inr ⟨by rfl, rfl⟩) (by assumption) ?_
    try simp only [Act.put, List.setIfInBounds_toArray, List.set_cons_zero, List.set_cons_succ]
    refine wpAnyH_take (i := 12) (oi := { dst := some 120, op := Op.pick (Operand.tmp 111) (Operand.const (Value.bool true)) (Operand.tmp 119), type := 4, pos := "ref.go:220", after := #[{ on := 3, ground := Ground.data }, { on := 11, ground := Ground.data }], guard := none }) (v := .bool true) rfl (by kernel_rfl) (by kernel_rfl) (by kernel_rfl) (fun _ _ _ h => h) (Or.inl ⟨by rfl, fun w hSw => ?_⟩) (by assumption) ?_
    · (try dsimp only at hSw)
      go_simp
    try simp only [Act.put, List.setIfInBounds_toArray, List.set_cons_zero, List.set_cons_succ]
    refine wpAnyH_done (by kernel_rfl) ?_ _
    refine NoPanic.normal ?_
    have x0 := p4.cell (j := 0) rfl
    have y0 := p4.frz 0
    have x1 := p4.cell (j := 1) rfl
    have y1 := p4.frz 1
    have x2 := p4.cell (j := 2) rfl
    have y2 := p4.frz 2
    have x3 := p4.cell (j := 3) rfl
    have y3 := p4.frz 3
    have x4 := p4.cell (j := 4) rfl
    have y4 := p4.frz 4
    have x5 := p4.cell (j := 5) rfl
    have y5 := p4.frz 5
    have x6 := p4.cell (j := 6) rfl
    have y6 := p4.frz 6
    go_wp2
    have hxs : Rt _ w.heap.size 27 [.bool false, .int .i64 0, .int .i64 0, .int .i64 0, .int .i64 0, .int .i64 0, .string ⟨#[]⟩] := (((((((p4.set 0 (.bool false)).set 1 (.int .i64 0)).set 2 (.int .i64 0)).set 3 (.int .i64 0)).set 4 (.int .i64 0)).set 5 (.int .i64 0)).set 6 (.string ⟨#[]⟩))
    have hbs := (below_set10 ((below_set10 ((below_set10 ((below_set10 ((below_set10 ((below_set10 ((below_set10 (hb4) 0 (g := w.heap.size) (.bool false) (by omega))) 1 (g := w.heap.size) (.int .i64 0) (by omega))) 2 (g := w.heap.size) (.int .i64 0) (by omega))) 3 (g := w.heap.size) (.int .i64 0) (by omega))) 4 (g := w.heap.size) (.int .i64 0) (by omega))) 5 (g := w.heap.size) (.int .i64 0) (by omega))) 6 (g := w.heap.size) (.string ⟨#[]⟩) (by omega))
    refine body_world10 (fun W => Below w.heap.size w W ∧ Rt W w.heap.size 27 [.bool false, .int .i64 0, .int .i64 0, .int .i64 0, .int .i64 0, .int .i64 0, .string ⟨#[]⟩]) ⟨hbs, hxs⟩ ?_
    clear hbs hxs
    rintro W ⟨hbs, hxs⟩
    have d0 := hxs.cell (j := 0) rfl
    have d1 := hxs.cell (j := 1) rfl
    have d2 := hxs.cell (j := 2) rfl
    have d3 := hxs.cell (j := 3) rfl
    have d4 := hxs.cell (j := 4) rfl
    have d5 := hxs.cell (j := 5) rfl
    have d6 := hxs.cell (j := 6) rfl
    refine bodyPost_ret (v := .tuple #[.agg #[.bool false, .int .i64 0, .int .i64 0, .int .i64 0, .int .i64 0, .int .i64 0, .string ⟨#[]⟩], .int .i64 0, .int .i64 3]) (by simp [results, Tryd.results23, go_sem, d0, d1, d2, d3, d4, d5, d6]) rfl ?_
    exact ⟨by rw [HNO.out]; rfl, hbs⟩
  | true =>
    have HEQ := Lib.hid (hyy.1 rfl).2
    have HYES := Lib.hid (hyy.1 rfl).1
    clear hyy
    refine wpAnyH_take (i := 0) (oi := { dst := some 108, op := Op.load 27 (Operand.tmp 9), type := 27, pos := "ref.go:220", after := #[], guard := none }) (v := .agg #[.bool true, .int .i64 t, .int .i64 v, .int .i64 0, .int .i64 0, .int .i64 0, .string ⟨#[]⟩]) rfl (by kernel_rfl) (by kernel_rfl) (by kernel_rfl) (fun _ _ _ h => h) (Or.inl ⟨by rfl, fun w hSw => ?_⟩) (by assumption) ?_
    · (try dsimp only at hSw)
      go_simp
    try simp only [Act.put, List.setIfInBounds_toArray, List.set_cons_zero, List.set_cons_succ]
    refine wpAnyH_ready (rs := [1]) (by kernel_rfl) (by simp) ?_
    refine AllReadyH.cons (o := { dst := some 109, op := Op.call { callee := Callee.value (Operand.func 14), args := #[Operand.tmp 108], argTypes := #[27] }, type := 4, pos := "ref.go:220", after := #[{ on := 0, ground := Ground.data }], guard := none }) rfl (fun K hK => ?_) AllReadyH.nil
    go_simp
    go_at_call 14
    refine (hmay _).mono ?_
    rintro e6 k6 ⟨rfl, h6⟩
    replace q4 := q4.below h6
    replace p4 := p4.below h6
    replace hby4 := hby4.below h6 (by omega)
    replace hb4 := hb4.trans (h6.mono hb4.size)
    have hk6 : k1.heap.size < k6.heap.size := Nat.lt_of_lt_of_le hk4 h6.size
    clear h6
    refine hK.out _ _ ?_ (fun hHeld => ?_)
    · exact ⟨q4.cell (j := 0) rfl, q4.cell (j := 1) rfl, q4.cell (j := 2) rfl, q4.cell (j := 3) rfl, q4.cell (j := 4) rfl, q4.cell (j := 5) rfl, q4.cell (j := 6) rfl, hby4⟩
    clear hK K
    try simp only [Act.put, List.setIfInBounds_toArray, List.set_cons_zero, List.set_cons_succ]
    refine wpAnyH_take (i := 2) (oi := { dst := some 110, op := Op.unOp UnOp.not 4 (Operand.tmp 109), type := 4, pos := "ref.go:220", after := #[{ on := 1, ground := Ground.data }], guard := none }) (v := .bool false) rfl (by kernel_rfl) (by kernel_rfl) (by kernel_rfl) (fun _ _ _ h => h) (Or.inl ⟨by rfl, fun w hSw => ?_⟩) (by assumption) ?_
    · (try dsimp only at hSw)
      go_simp
    try simp only [Act.put, List.setIfInBounds_toArray, List.set_cons_zero, List.set_cons_succ]
    refine wpAnyH_take (i := 3) (oi := { dst := some 111, op := Op.move (Operand.tmp 110), type := 4, pos := "ref.go:220", after := #[{ on := 2, ground := Ground.data }, { on := 1, ground := Ground.chain }], guard := none }) (v := .bool false) rfl (by kernel_rfl) (by kernel_rfl) (by kernel_rfl) (fun _ _ _ h => h) (Or.inl ⟨by rfl, fun w hSw => ?_⟩) (by assumption) ?_
    · (try dsimp only at hSw)
      go_simp
    try simp only [Act.put, List.setIfInBounds_toArray, List.set_cons_zero, List.set_cons_succ]
    refine wpAnyH_take (i := 4) (oi := { dst := some 112, op := Op.load 27 (Operand.tmp 9), type := 27, pos := "ref.go:220", after := #[{ on := 3, ground := Ground.guard }], guard := some (3, false) }) (v := .agg #[.bool true, .int .i64 t, .int .i64 v, .int .i64 0, .int .i64 0, .int .i64 0, .string ⟨#[]⟩]) rfl (by kernel_rfl) (by kernel_rfl) (by kernel_rfl) (fun _ _ _ h => h) (Or.inl ⟨by rfl, fun w hSw => ?_⟩) (by assumption) ?_
    · (try dsimp only at hSw)
      go_simp
    try simp only [Act.put, List.setIfInBounds_toArray, List.set_cons_zero, List.set_cons_succ]
    refine wpAnyH_take (i := 7) (oi := { dst := some 115, op := Op.move (Operand.tmp 0), type := 30, pos := "ref.go:220", after := #[{ on := 3, ground := Ground.guard }], guard := some (3, false) }) (v := .slice (some ⟨gb, ob, none⟩) ln c) rfl (by kernel_rfl) (by kernel_rfl) (by kernel_rfl) (fun _ _ _ h => h) (Or.inl ⟨by rfl, fun w hSw => ?_⟩) (by assumption) ?_
    · (try dsimp only at hSw)
      go_simp
    try simp only [Act.put, List.setIfInBounds_toArray, List.set_cons_zero, List.set_cons_succ]
    refine wpAnyH_take (i := 8) (oi := { dst := some 116, op := Op.move (Operand.tmp 7), type := 3, pos := "ref.go:220", after := #[{ on := 3, ground := Ground.guard }], guard := some (3, false) }) (v := .int .i64 n) rfl (by kernel_rfl) (by kernel_rfl) (by kernel_rfl) (fun _ _ _ h => h) (Or.inl ⟨by rfl, fun w hSw => ?_⟩) (by assumption) ?_
    · (try dsimp only at hSw)
      go_simp
    try simp only [Act.put, List.setIfInBounds_toArray, List.set_cons_zero, List.set_cons_succ]
    refine wpAnyH_take (i := 9) (oi := { dst := some 117, op := Op.slice 30 (Operand.tmp 115) none (some (Operand.tmp 116)) none, type := 30, pos := "ref.go:220", after := #[{ on := 7, ground := Ground.data }, { on := 8, ground := Ground.data }, { on := 3, ground := Ground.guard }], guard := some (3, false) }) (v := .slice (some ⟨gb, ob, none⟩) n c) rfl (by kernel_rfl) (by kernel_rfl) (by kernel_rfl) (fun _ _ _ h => h) (Or.inl ⟨by rfl, fun w hSw => ?_⟩) (by assumption) ?_
    · (try dsimp only at hSw)
      go_simp
    try simp only [Act.put, List.setIfInBounds_toArray, List.set_cons_zero, List.set_cons_succ]
    refine wpAnyH_take (i := 10) (oi := { dst := some 118, op := Op.convert 30 9 (Operand.tmp 117), type := 9, pos := "ref.go:220", after := #[{ on := 9, ground := Ground.data }, { on := 3, ground := Ground.guard }], guard := some (3, false) }) (v := .string ⟨(l.take n).toArray⟩) rfl (by kernel_rfl) (by kernel_rfl) (by kernel_rfl) (fun _ _ _ h => h) (Or.inl ⟨by rfl, fun w hSw => ?_⟩) (by assumption) ?_
    · have hcv := conv_take10 n hSw.2.2.2.2.2.2.2 hn1
      clear hSw
      go_simp
    try simp only [Act.put, List.setIfInBounds_toArray, List.set_cons_zero, List.set_cons_succ]
    refine wpAnyH_ready (rs := [5]) (by kernel_rfl) (by simp) ?_
    refine AllReadyH.cons (o := { dst := some 113, op := Op.call { callee := Callee.value (Operand.func 16), args := #[Operand.tmp 112], argTypes := #[27] }, type := 30, pos := "ref.go:220", after := #[{ on := 4, ground := Ground.data }, { on := 3, ground := Ground.chain }, { on := 3, ground := Ground.guard }], guard := some (3, false) }) rfl (fun K hK => ?_) AllReadyH.nil
    go_simp
    go_at_call 16
    refine (renc10_any ⟨true, t, v, noEnt⟩ _ (Nat.zero_le _)).mono ?_
    rintro e7 k7 ⟨v7, rfl, ho7, h7⟩
    replace q4 := q4.below h7
    replace p4 := p4.below h7
    replace hby4 := hby4.below h7 (by omega)
    replace hb4 := hb4.trans (h7.mono hb4.size)
    have hcv := conv_own ho7 (by have := enc10_len hy; omega)
    rw [HEQ.out] at hcv
    obtain ⟨A7, c7, rfl⟩ := byt_slice (Byt.of_own ho7)
    clear h7 ho7
    refine hK.out _ _ ?_ (fun hHeld => ?_)
    · exact ⟨q4.cell (j := 0) rfl, q4.cell (j := 1) rfl, q4.cell (j := 2) rfl, q4.cell (j := 3) rfl, q4.cell (j := 4) rfl, q4.cell (j := 5) rfl, q4.cell (j := 6) rfl, hby4⟩
    clear hK K
    try simp only [Act.put, List.setIfInBounds_toArray, List.set_cons_zero, List.set_cons_succ]
    refine wpAnyH_ready (rs := [6]) (by kernel_rfl) (by simp) ?_
    refine AllReadyH.cons (o := { dst := some 114, op := Op.convert 30 9 (Operand.tmp 113), type := 9, pos := "ref.go:220", after := #[{ on := 5, ground := Ground.data }, { on := 3, ground := Ground.guard }], guard := some (3, false) }) rfl (fun K hK => ?_) AllReadyH.nil
    go_simp
    refine hK.out _ _ ?_ (fun hHeld => ?_)
    · exact ⟨q4.cell (j := 0) rfl, q4.cell (j := 1) rfl, q4.cell (j := 2) rfl, q4.cell (j := 3) rfl, q4.cell (j := 4) rfl, q4.cell (j := 5) rfl, q4.cell (j := 6) rfl, hby4⟩
    clear hK K
    try simp only [Act.put, List.setIfInBounds_toArray, List.set_cons_zero, List.set_cons_succ]
    refine wpAnyH_ready (rs := [11]) (by kernel_rfl) (by simp) ?_
    refine AllReadyH.cons (o := { dst := some 119, op := Op.binOp BinOp.neq 9 (Operand.tmp 114) (Operand.tmp 118) 9, type := 4, pos := "ref.go:220", after := #[{ on := 6, ground := Ground.data }, { on := 10, ground := Ground.data }, { on := 3, ground := Ground.guard }], guard := some (3, false) }) rfl (fun K hK => ?_) AllReadyH.nil
    go_simp
    refine hK.out _ _ ?_ (fun hHeld => ?_)
    · exact ⟨q4.cell (j := 0) rfl, q4.cell (j := 1) rfl, q4.cell (j := 2) rfl, q4.cell (j := 3) rfl, q4.cell (j := 4) rfl, q4.cell (j := 5) rfl, q4.cell (j := 6) rfl, hby4⟩
    clear hK K
    try simp only [Act.put, List.setIfInBounds_toArray, List.set_cons_zero, List.set_cons_succ]
    refine wpAnyH_ready (rs := [12]) (by kernel_rfl) (by simp) ?_
    refine AllReadyH.cons (o := { dst := some 120, op := Op.pick (Operand.tmp 111) (Operand.const (Value.bool true)) (Operand.tmp 119), type := 4, pos := "ref.go:220", after := #[{ on := 3, ground := Ground.data }, { on := 11, ground := Ground.data }], guard := none }) rfl (fun K hK => ?_) AllReadyH.nil
    go_simp
    refine hK.out _ _ ?_ (fun hHeld => ?_)
    · exact ⟨q4.cell (j := 0) rfl, q4.cell (j := 1) rfl, q4.cell (j := 2) rfl, q4.cell (j := 3) rfl, q4.cell (j := 4) rfl, q4.cell (j := 5) rfl, q4.cell (j := 6) rfl, hby4⟩
    clear hK K
    try simp only [Act.put, List.setIfInBounds_toArray, List.set_cons_zero, List.set_cons_succ]
    refine wpAnyH_done (by kernel_rfl) ?_ _
    refine NoPanic.normal ?_
    have x0 := p4.cell (j := 0) rfl
    have y0 := p4.frz 0
    have z0 := q4.cell (j := 0) rfl
    have x1 := p4.cell (j := 1) rfl
    have y1 := p4.frz 1
    have z1 := q4.cell (j := 1) rfl
    have x2 := p4.cell (j := 2) rfl
    have y2 := p4.frz 2
    have z2 := q4.cell (j := 2) rfl
    have x3 := p4.cell (j := 3) rfl
    have y3 := p4.frz 3
    have z3 := q4.cell (j := 3) rfl
    have x4 := p4.cell (j := 4) rfl
    have y4 := p4.frz 4
    have z4 := q4.cell (j := 4) rfl
    have x5 := p4.cell (j := 5) rfl
    have y5 := p4.frz 5
    have z5 := q4.cell (j := 5) rfl
    have x6 := p4.cell (j := 6) rfl
    have y6 := p4.frz 6
    have z6 := q4.cell (j := 6) rfl
    go_wp2
    have hxs : Rt _ w.heap.size 27 [.bool true, .int .i64 t, .int .i64 v, .int .i64 0, .int .i64 0, .int .i64 0, .string ⟨#[]⟩] := (((((((p4.set 0 (.bool true)).set 1 (.int .i64 t)).set 2 (.int .i64 v)).set 3 (.int .i64 0)).set 4 (.int .i64 0)).set 5 (.int .i64 0)).set 6 (.string ⟨#[]⟩))
    have hbs := (below_set10 ((below_set10 ((below_set10 ((below_set10 ((below_set10 ((below_set10 ((below_set10 (hb4) 0 (g := w.heap.size) (.bool true) (by omega))) 1 (g := w.heap.size) (.int .i64 t) (by omega))) 2 (g := w.heap.size) (.int .i64 v) (by omega))) 3 (g := w.heap.size) (.int .i64 0) (by omega))) 4 (g := w.heap.size) (.int .i64 0) (by omega))) 5 (g := w.heap.size) (.int .i64 0) (by omega))) 6 (g := w.heap.size) (.string ⟨#[]⟩) (by omega))
    refine body_world10 (fun W => Below w.heap.size w W ∧ Rt W w.heap.size 27 [.bool true, .int .i64 t, .int .i64 v, .int .i64 0, .int .i64 0, .int .i64 0, .string ⟨#[]⟩]) ⟨hbs, hxs⟩ ?_
    clear hbs hxs
    rintro W ⟨hbs, hxs⟩
    have d0 := hxs.cell (j := 0) rfl
    have d1 := hxs.cell (j := 1) rfl
    have d2 := hxs.cell (j := 2) rfl
    have d3 := hxs.cell (j := 3) rfl
    have d4 := hxs.cell (j := 4) rfl
    have d5 := hxs.cell (j := 5) rfl
    have d6 := hxs.cell (j := 6) rfl
    refine bodyPost_ret (v := .tuple #[.agg #[.bool true, .int .i64 t, .int .i64 v, .int .i64 0, .int .i64 0, .int .i64 0, .string ⟨#[]⟩], .int .i64 n, .int .i64 0]) (by simp [results, Tryd.results23, go_sem, d0, d1, d2, d3, d4, d5, d6]) rfl ?_
    exact ⟨by rw [HYES.out]; rfl, hbs⟩
end Go.Proofs.YtdigpeipklfaeaaDoor
/-
  The reference's Decode of a record answers what the plain function says: further ways.
  The bytes are there in memory, at most 1,000,000.
-/
set_option linter.unusedSimpArgs false
set_option linter.unusedVariables false
namespace Go.Proofs.YtdigpeipklfaeaaDoor
open Go.RowKit
set_option maxRecDepth 100000

set_option maxHeartbeats 4000000 in
theorem rdec_hard_none (A : Option Addr) (c B n : Nat) (b l : List UInt8) (w : World) (h : Byt w B (.slice A l.length c) l) (hB : B ≤ w.heap.size) (hl : l.length ≤ 1000000) (ho : openB l = (1, b, n, 0)) (hn : numsL 2 b = none) :
    Calls Tryd.prog 23 #[.slice A l.length c] w (GotQ10 (decR10 l) w) := by
  have hno := dec_hard_no ho (fun t v h => by rw [hn] at h; cases h)
  have hbl : b.length ≤ 4000 := (openB_canon ho).2.2.2.2.2
  have hn1 : n ≤ l.length := (openB_canon ho).2.1
  have hn6 : 6 ≤ n := (openB_canon ho).2.2.1
  have hop := ropen_any A c B l
  rw [ho] at hop
  obtain ⟨W1, hW1⟩ : ∃ W1, w.alloc (.cells #[.bool false, .int .i64 0, .int .i64 0, .int .i64 0, .int .i64 0, .int .i64 0, .string ⟨#[]⟩] 27) = W1 := ⟨_, rfl⟩
  have hb1 : Below w.heap.size w W1 := by rw [← hW1]; exact below_new _ _
  have p1 : Rt W1 w.heap.size 27 [.bool false, .int .i64 0, .int .i64 0, .int .i64 0, .int .i64 0, .int .i64 0, .string ⟨#[]⟩] := by rw [← hW1]; exact Rt.new w _ _
  have hby1 := h.below hb1 hB
  have hop1 := hop W1 hby1 (Nat.le_trans hB hb1.size) hl
  have HW1 := Lib.hid hW1
  have HBY1 := Lib.hid hby1
  have HB1 := Lib.hid hb1
  obtain ⟨ln, hln⟩ : ∃ ln, l.length = ln := ⟨_, rfl⟩
  have HLN := Lib.hid hln
  rw [hln] at hop1 hn1 ⊢
  clear hop hW1 hby1 h hb1 hln hl
  go_enter Tryd.func23, Tryd.ntmps23
  go_wp2_with fail
  rw [HW1.out]
  refine hop1.mono ?_
  rintro e1 k1 ⟨v1, rfl, ho1, h1⟩
  have p2 := p1.below h1
  have hb2 := HB1.out.trans (h1.mono HB1.out.size)
  have hby2 := HBY1.out.below h1 (Nat.le_trans hB HB1.out.size)
  obtain ⟨A2, c2, rfl⟩ := byt_slice ho1
  obtain ⟨W2, hW2⟩ : ∃ W2, k1.alloc (.cells #[.bool false, .int .i64 0, .int .i64 0, .int .i64 0, .int .i64 0, .int .i64 0, .string ⟨#[]⟩] 27) = W2 := ⟨_, rfl⟩
  have h2 : Below k1.heap.size k1 W2 := by rw [← hW2]; exact below_new _ _
  have q2 : Rt W2 k1.heap.size 27 [.bool false, .int .i64 0, .int .i64 0, .int .i64 0, .int .i64 0, .int .i64 0, .string ⟨#[]⟩] := by rw [← hW2]; exact Rt.new k1 _ _
  have p3 := p2.below h2
  have hb3 := hb2.trans (h2.mono hb2.size)
  have hBk : B ≤ k1.heap.size := Nat.le_trans hB hb2.size
  have hby3 := hby2.below h2 hBk
  have hbo : Byt W2 B (.slice A2 b.length c2) b := ho1.below h2 hBk
  have HP := Lib.hid p3
  have HQ := Lib.hid q2
  have HB := Lib.hid hb3
  have HBY := Lib.hid hby3
  have HBO := Lib.hid hbo
  have HW2 := Lib.hid hW2
  have hpk : w.heap.size < k1.heap.size := p2.lt
  have hpn : w.heap.size ≠ k1.heap.size := by omega
  have hz2 : k1.heap.size < W2.heap.size := q2.lt
  clear p1 p2 p3 q2 hb2 hb3 hby2 hby3 hbo h1 h2 ho1 hW2 HW1 HB1 HBY1 hop1
  have HN := Lib.hid hn
  have HNO := Lib.hid hno
  clear hn hno ho
  go_wp2_with fail
  rw [HW2.out]
  obtain ⟨bl, hbln⟩ : ∃ bl, b.length = bl := ⟨_, rfl⟩
  have hnu := rnumbers_any A2 c2 B b 2 W2 HBO.out (by omega) (by omega) (by omega)
  rw [hbln] at hnu
  simp only [hbln]
  refine hnu.mono ?_
  rintro e2 k2 ⟨h2, hx⟩
  rw [HN.out] at hx
  subst hx
  have p3 := HP.out.below h2
  have q3 := HQ.out.below h2
  have hb3 := HB.out.trans (h2.mono HB.out.size)
  have hby3 := HBY.out.below h2 (by omega)
  have x0 := q3.cell (j := 0) rfl
  have y0 := q3.frz 0
  have x1 := q3.cell (j := 1) rfl
  have y1 := q3.frz 1
  have x2 := q3.cell (j := 2) rfl
  have y2 := q3.frz 2
  have x3 := q3.cell (j := 3) rfl
  have y3 := q3.frz 3
  have x4 := q3.cell (j := 4) rfl
  have y4 := q3.frz 4
  have x5 := q3.cell (j := 5) rfl
  have y5 := q3.frz 5
  have x6 := q3.cell (j := 6) rfl
  have y6 := q3.frz 6
  have HP3 := Lib.hid p3
  have HQ3 := Lib.hid q3
  have HB3 := Lib.hid hb3
  have HBY3 := Lib.hid hby3
  clear p3 q3 hb3 hby3 h2 HP HQ HB HBY HBO hnu
  go_wp2_with fail
  have p4 : Rt k2 w.heap.size 27 [.bool false, .int .i64 0, .int .i64 0, .int .i64 0, .int .i64 0, .int .i64 0, .string ⟨#[]⟩] := HP3.out
  have q4 : Rt k2 k1.heap.size 27 [.bool false, .int .i64 0, .int .i64 0, .int .i64 0, .int .i64 0, .int .i64 0, .string ⟨#[]⟩] := HQ3.out
  have hb4 : Below w.heap.size w k2 := HB3.out
  have hby4 : Byt k2 B (.slice A ln c) l := by have := HBY3.out; rw [HLN.out] at this; exact this
  clear HP3 HQ3 HB3 HBY3
  obtain ⟨A', c', hv', hcl, hbc⟩ := id hby4
  injection hv' with e1 e2 e3
  subst e1; subst e3
  obtain ⟨gb, ob, rfl, hgb, hbcs⟩ := hbc (by have := HLN.out; omega)
  have hcut : n ≤ ln := hn1
  have hnc : n ≤ c := by omega
  have hmay := fun W => rmay10_any zRcd W (Nat.zero_le _)
  obtain ⟨y, hy⟩ : ∃ y, may10 zRcd = y := ⟨_, rfl⟩
  rw [hy] at hmay
  have hk4 : k1.heap.size < k2.heap.size := q4.lt
  replace q4 : Rt k2.drew k1.heap.size 27 [.bool false, .int .i64 0, .int .i64 0, .int .i64 0, .int .i64 0, .int .i64 0, .string ⟨#[]⟩] := q4
  replace p4 : Rt k2.drew w.heap.size 27 [.bool false, .int .i64 0, .int .i64 0, .int .i64 0, .int .i64 0, .int .i64 0, .string ⟨#[]⟩] := p4
  replace hby4 : Byt k2.drew B (.slice (some ⟨gb, ob, none⟩) ln c) l := hby4
  replace hb4 : Below w.heap.size w k2.drew := hb4.drew
  replace hk4 : k1.heap.size < k2.drew.heap.size := hk4
  clear hbc hbcs
  refine wp_region_noPanic ?_
  refine wp_region_held_drew (S := fun W => W.cell? ⟨k1.heap.size, 0, none⟩ = some (.bool false) ∧ W.cell? ⟨k1.heap.size, 1, none⟩ = some (.int .i64 0) ∧ W.cell? ⟨k1.heap.size, 2, none⟩ = some (.int .i64 0) ∧ W.cell? ⟨k1.heap.size, 3, none⟩ = some (.int .i64 0) ∧ W.cell? ⟨k1.heap.size, 4, none⟩ = some (.int .i64 0) ∧ W.cell? ⟨k1.heap.size, 5, none⟩ = some (.int .i64 0) ∧ W.cell? ⟨k1.heap.size, 6, none⟩ = some (.string ⟨#[]⟩) ∧ Byt W B (.slice (some ⟨gb, ob, none⟩) ln c) l) (by kernel_rfl) ?_ (fun hHeld => ?_)
  · exact ⟨q4.cell (j := 0) rfl, q4.cell (j := 1) rfl, q4.cell (j := 2) rfl, q4.cell (j := 3) rfl, q4.cell (j := 4) rfl, q4.cell (j := 5) rfl, q4.cell (j := 6) rfl, hby4⟩
  generalize k2.drew = k5 at *
  obtain rfl : y = false := hy.symm.trans (by decide)
  refine wpAnyH_take (i := 0) (oi := { dst := some 108, op := Op.load 27 (Operand.tmp 9), type := 27, pos := "ref.go:220", after := #[], guard := none }) (v := .agg #[.bool false, .int .i64 0, .int .i64 0, .int .i64 0, .int .i64 0, .int .i64 0, .string ⟨#[]⟩]) rfl (by kernel_rfl) (by kernel_rfl) (by kernel_rfl) (fun _ _ _ h => h) (Or.inl ⟨by rfl, fun w hSw => ?_⟩) (by assumption) ?_
  · (try dsimp only at hSw)
    go_simp
  try simp only [Act.put, List.setIfInBounds_toArray, List.set_cons_zero, List.set_cons_succ]
  refine wpAnyH_ready (rs := [1]) (by kernel_rfl) (by simp) ?_
  refine AllReadyH.cons (o := { dst := some 109, op := Op.call { callee := Callee.value (Operand.func 14), args := #[Operand.tmp 108], argTypes := #[27] }, type := 4, pos := "ref.go:220", after := #[{ on := 0, ground := Ground.data }], guard := none }) rfl (fun K hK => ?_) AllReadyH.nil
  go_simp
  go_at_call 14
  refine (hmay _).mono ?_
  rintro e6 k6 ⟨rfl, h6⟩
  replace q4 := q4.below h6
  replace p4 := p4.below h6
  replace hby4 := hby4.below h6 (by omega)
  replace hb4 := hb4.trans (h6.mono hb4.size)
  have hk6 : k1.heap.size < k6.heap.size := Nat.lt_of_lt_of_le hk4 h6.size
  clear h6
  refine hK.out _ _ ?_ (fun hHeld => ?_)
  · exact ⟨q4.cell (j := 0) rfl, q4.cell (j := 1) rfl, q4.cell (j := 2) rfl, q4.cell (j := 3) rfl, q4.cell (j := 4) rfl, q4.cell (j := 5) rfl, q4.cell (j := 6) rfl, hby4⟩
  clear hK K
  try simp only [Act.put, List.setIfInBounds_toArray, List.set_cons_zero, List.set_cons_succ]
  refine wpAnyH_take (i := 2) (oi := { dst := some 110, op := Op.unOp UnOp.not 4 (Operand.tmp 109), type := 4, pos := "ref.go:220", after := #[{ on := 1, ground := Ground.data }], guard := none }) (v := .bool true) rfl (by kernel_rfl) (by kernel_rfl) (by kernel_rfl) (fun _ _ _ h => h) (Or.inl ⟨by rfl, fun w hSw => ?_⟩) (by assumption) ?_
  · (try dsimp only at hSw)
    go_simp
  try simp only [Act.put, List.setIfInBounds_toArray, List.set_cons_zero, List.set_cons_succ]
  refine wpAnyH_take (i := 3) (oi := { dst := some 111, op := Op.move (Operand.tmp 110), type := 4, pos := "ref.go:220", after := #[{ on := 2, ground := Ground.data }, { on := 1, ground := Ground.chain }], guard := none }) (v := .bool true) rfl (by kernel_rfl) (by kernel_rfl) (by kernel_rfl) (fun _ _ _ h => h) (Or.inl ⟨by rfl, fun w hSw => ?_⟩) (by assumption) ?_
  · (try dsimp only at hSw)
    go_simp
  try simp only [Act.put, List.setIfInBounds_toArray, List.set_cons_zero, List.set_cons_succ]
  refine wpAnyH_take (i := 4) (oi := { dst := some 112, op := Op.load 27 (Operand.tmp 9), type := 27, pos := "ref.go:220", after := #[{ on := 3, ground := Ground.guard }], guard := some (3, false) }) (v := undef) rfl (by kernel_rfl) (by kernel_rfl) (by kernel_rfl) (fun _ _ _ h => h) (Or.inr ⟨by rfl, rfl⟩) (by assumption) ?_
  try simp only [Act.put, List.setIfInBounds_toArray, List.set_cons_zero, List.set_cons_succ]
  refine wpAnyH_take (i := 5) (oi := { dst := some 113, op := Op.call { callee := Callee.value (Operand.func 16), args := #[Operand.tmp 112], argTypes := #[27] }, type := 30, pos := "ref.go:220", after := #[{ on := 4, ground := Ground.data }, { on := 3, ground := Ground.chain }, { on := 3, ground := Ground.guard }], guard := some (3, false) }) (v := undef) rfl (by kernel_rfl) (by kernel_rfl) (by kernel_rfl) (fun _ _ _ h => h) (Or.inr ⟨by rfl, rfl⟩) (by assumption) ?_
  try simp only [Act.put, List.setIfInBounds_toArray, List.set_cons_zero, List.set_cons_succ]
  refine wpAnyH_take (i := 6) (oi := { dst := some 114, op := Op.convert 30 9 (Operand.tmp 113), type := 9, pos := "ref.go:220", after := #[{ on := 5, ground := Ground.data }, { on := 3, ground := Ground.guard }], guard := some (3, false) }) (v := undef) rfl (by kernel_rfl) (by kernel_rfl) (by kernel_rfl) (fun _ _ _ h => h) (Or.inr ⟨by rfl, rfl⟩) (by assumption) ?_
  try simp only [Act.put, List.setIfInBounds_toArray, List.set_cons_zero, List.set_cons_succ]
  refine wpAnyH_take (i := 7) (oi := { dst := some 115, op := Op.move (Operand.tmp 0), type := 30, pos := "ref.go:220", after := #[{ on := 3, ground := Ground.guard }], guard := some (3, false) }) (v := undef) rfl (by kernel_rfl) (by kernel_rfl) (by kernel_rfl) (fun _ _ _ h => h) (Or.inr ⟨by rfl, rfl⟩) (by assumption) ?_
  try simp only [Act.put, List.setIfInBounds_toArray, List.set_cons_zero, List.set_cons_succ]
  refine wpAnyH_take (i := 8) (oi := { dst := some 116, op := Op.move (Operand.tmp 7), type := 3, pos := "ref.go:220", after := #[{ on := 3, ground := Ground.guard }], guard := some (3, false) }) (v := undef) rfl (by kernel_rfl) (by kernel_rfl) (by kernel_rfl) (fun _ _ _ h => h) (Or.inr ⟨by rfl, rfl⟩) (by assumption) ?_
  try simp only [Act.put, List.setIfInBounds_toArray, List.set_cons_zero, List.set_cons_succ]
  refine wpAnyH_take (i := 9) (oi := { dst := some 117, op := Op.slice 30 (Operand.tmp 115) none (some (Operand.tmp 116)) none, type := 30, pos := "ref.go:220", after := #[{ on := 7, ground := Ground.data }, { on := 8, ground := Ground.data }, { on := 3, ground := Ground.guard }], guard := some (3, false) }) (v := undef) rfl (by kernel_rfl) (by kernel_rfl) (by kernel_rfl) (fun _ _ _ h => h) (Or.inr ⟨by rfl, rfl⟩) (by assumption) ?_
  try simp only [Act.put, List.setIfInBounds_toArray, List.set_cons_zero, List.set_cons_succ]
  refine wpAnyH_take (i := 10) (oi := { dst := some 118, op := Op.convert 30 9 (Operand.tmp 117), type := 9, pos := "ref.go:220", after := #[{ on := 9, ground := Ground.data }, { on := 3, ground := Ground.guard }], guard := some (3, false) }) (v := undef) rfl (by kernel_rfl) (by kernel_rfl) (by kernel_rfl) (fun _ _ _ h => h) (Or.inr ⟨by rfl, rfl⟩) (by assumption) ?_
  try simp only [Act.put, List.setIfInBounds_toArray, List.set_cons_zero, List.set_cons_succ]
  refine wpAnyH_take (i := 11) (oi := { dst := some 119, op := Op.binOp BinOp.neq 9 (Operand.tmp 114) (Operand.tmp 118) 9, type := 4, pos := "ref.go:220", after := #[{ on := 6, ground := Ground.data }, { on := 10, ground := Ground.data }, { on := 3, ground := Ground.guard }], guard := some (3, false) }) (v := undef) rfl (by kernel_rfl) (by kernel_rfl) (by kernel_rfl) (fun _ _ _ h => h) (Or.inr ⟨by rfl, rfl⟩) (by assumption) ?_
  try simp only [Act.put, List.setIfInBounds_toArray, List.set_cons_zero, List.set_cons_succ]
  refine wpAnyH_take (i := 12) (oi := { dst := some 120, op := Op.pick (Operand.tmp 111) (Operand.const (Value.bool true)) (Operand.tmp 119), type := 4, pos := "ref.go:220", after := #[{ on := 3, ground := Ground.data }, { on := 11, ground := Ground.data }], guard := none }) (v := .bool true) rfl (by kernel_rfl) (by kernel_rfl) (by kernel_rfl) (fun _ _ _ h => h) (Or.inl ⟨by rfl, fun w hSw => ?_⟩) (by assumption) ?_
  · (try dsimp only at hSw)
    go_simp
  try simp only [Act.put, List.setIfInBounds_toArray, List.set_cons_zero, List.set_cons_succ]
  refine wpAnyH_done (by kernel_rfl) ?_ _
  refine NoPanic.normal ?_
  have x0 := p4.cell (j := 0) rfl
  have y0 := p4.frz 0
  have x1 := p4.cell (j := 1) rfl
  have y1 := p4.frz 1
  have x2 := p4.cell (j := 2) rfl
  have y2 := p4.frz 2
  have x3 := p4.cell (j := 3) rfl
  have y3 := p4.frz 3
  have x4 := p4.cell (j := 4) rfl
  have y4 := p4.frz 4
  have x5 := p4.cell (j := 5) rfl
  have y5 := p4.frz 5
  have x6 := p4.cell (j := 6) rfl
  have y6 := p4.frz 6
  go_wp2
  have hxs : Rt _ w.heap.size 27 [.bool false, .int .i64 0, .int .i64 0, .int .i64 0, .int .i64 0, .int .i64 0, .string ⟨#[]⟩] := (((((((p4.set 0 (.bool false)).set 1 (.int .i64 0)).set 2 (.int .i64 0)).set 3 (.int .i64 0)).set 4 (.int .i64 0)).set 5 (.int .i64 0)).set 6 (.string ⟨#[]⟩))
  have hbs := (below_set10 ((below_set10 ((below_set10 ((below_set10 ((below_set10 ((below_set10 ((below_set10 (hb4) 0 (g := w.heap.size) (.bool false) (by omega))) 1 (g := w.heap.size) (.int .i64 0) (by omega))) 2 (g := w.heap.size) (.int .i64 0) (by omega))) 3 (g := w.heap.size) (.int .i64 0) (by omega))) 4 (g := w.heap.size) (.int .i64 0) (by omega))) 5 (g := w.heap.size) (.int .i64 0) (by omega))) 6 (g := w.heap.size) (.string ⟨#[]⟩) (by omega))
  refine body_world10 (fun W => Below w.heap.size w W ∧ Rt W w.heap.size 27 [.bool false, .int .i64 0, .int .i64 0, .int .i64 0, .int .i64 0, .int .i64 0, .string ⟨#[]⟩]) ⟨hbs, hxs⟩ ?_
  clear hbs hxs
  rintro W ⟨hbs, hxs⟩
  have d0 := hxs.cell (j := 0) rfl
  have d1 := hxs.cell (j := 1) rfl
  have d2 := hxs.cell (j := 2) rfl
  have d3 := hxs.cell (j := 3) rfl
  have d4 := hxs.cell (j := 4) rfl
  have d5 := hxs.cell (j := 5) rfl
  have d6 := hxs.cell (j := 6) rfl
  refine bodyPost_ret (v := .tuple #[.agg #[.bool false, .int .i64 0, .int .i64 0, .int .i64 0, .int .i64 0, .int .i64 0, .string ⟨#[]⟩], .int .i64 0, .int .i64 3]) (by simp [results, Tryd.results23, go_sem, d0, d1, d2, d3, d4, d5, d6]) rfl ?_
  exact ⟨by rw [HNO.out]; rfl, hbs⟩
set_option maxHeartbeats 4000000 in
theorem rdec_hard_rest (A : Option Addr) (c B n : Nat) (b l : List UInt8) (w : World) (h : Byt w B (.slice A l.length c) l) (hB : B ≤ w.heap.size) (hl : l.length ≤ 1000000) (ho : openB l = (1, b, n, 0)) (xs : List Int) (rest : List UInt8) (hn : numsL 2 b = some (xs, rest)) (hr : rest ≠ []) :
    Calls Tryd.prog 23 #[.slice A l.length c] w (GotQ10 (decR10 l) w) := by
  have hno := dec_hard_no ho (fun t v h => by rw [hn] at h; simp only [Option.some.injEq, Prod.mk.injEq] at h; exact absurd h.2 hr)
  have hbl : b.length ≤ 4000 := (openB_canon ho).2.2.2.2.2
  have hn1 : n ≤ l.length := (openB_canon ho).2.1
  have hn6 : 6 ≤ n := (openB_canon ho).2.2.1
  have hop := ropen_any A c B l
  rw [ho] at hop
  obtain ⟨W1, hW1⟩ : ∃ W1, w.alloc (.cells #[.bool false, .int .i64 0, .int .i64 0, .int .i64 0, .int .i64 0, .int .i64 0, .string ⟨#[]⟩] 27) = W1 := ⟨_, rfl⟩
  have hb1 : Below w.heap.size w W1 := by rw [← hW1]; exact below_new _ _
  have p1 : Rt W1 w.heap.size 27 [.bool false, .int .i64 0, .int .i64 0, .int .i64 0, .int .i64 0, .int .i64 0, .string ⟨#[]⟩] := by rw [← hW1]; exact Rt.new w _ _
  have hby1 := h.below hb1 hB
  have hop1 := hop W1 hby1 (Nat.le_trans hB hb1.size) hl
  have HW1 := Lib.hid hW1
  have HBY1 := Lib.hid hby1
  have HB1 := Lib.hid hb1
  obtain ⟨ln, hln⟩ : ∃ ln, l.length = ln := ⟨_, rfl⟩
  have HLN := Lib.hid hln
  rw [hln] at hop1 hn1 ⊢
  clear hop hW1 hby1 h hb1 hln hl
  go_enter Tryd.func23, Tryd.ntmps23
  go_wp2_with fail
  rw [HW1.out]
  refine hop1.mono ?_
  rintro e1 k1 ⟨v1, rfl, ho1, h1⟩
  have p2 := p1.below h1
  have hb2 := HB1.out.trans (h1.mono HB1.out.size)
  have hby2 := HBY1.out.below h1 (Nat.le_trans hB HB1.out.size)
  obtain ⟨A2, c2, rfl⟩ := byt_slice ho1
  obtain ⟨W2, hW2⟩ : ∃ W2, k1.alloc (.cells #[.bool false, .int .i64 0, .int .i64 0, .int .i64 0, .int .i64 0, .int .i64 0, .string ⟨#[]⟩] 27) = W2 := ⟨_, rfl⟩
  have h2 : Below k1.heap.size k1 W2 := by rw [← hW2]; exact below_new _ _
  have q2 : Rt W2 k1.heap.size 27 [.bool false, .int .i64 0, .int .i64 0, .int .i64 0, .int .i64 0, .int .i64 0, .string ⟨#[]⟩] := by rw [← hW2]; exact Rt.new k1 _ _
  have p3 := p2.below h2
  have hb3 := hb2.trans (h2.mono hb2.size)
  have hBk : B ≤ k1.heap.size := Nat.le_trans hB hb2.size
  have hby3 := hby2.below h2 hBk
  have hbo : Byt W2 B (.slice A2 b.length c2) b := ho1.below h2 hBk
  have HP := Lib.hid p3
  have HQ := Lib.hid q2
  have HB := Lib.hid hb3
  have HBY := Lib.hid hby3
  have HBO := Lib.hid hbo
  have HW2 := Lib.hid hW2
  have hpk : w.heap.size < k1.heap.size := p2.lt
  have hpn : w.heap.size ≠ k1.heap.size := by omega
  have hz2 : k1.heap.size < W2.heap.size := q2.lt
  clear p1 p2 p3 q2 hb2 hb3 hby2 hby3 hbo h1 h2 ho1 hW2 HW1 HB1 HBY1 hop1
  have HN := Lib.hid hn
  have HNO := Lib.hid hno
  obtain ⟨m, hm⟩ : ∃ m, rest.length = m + 1 := ⟨rest.length - 1, by cases rest with | nil => exact absurd rfl hr | cons x y => simp⟩
  clear hn hno ho
  go_wp2_with fail
  rw [HW2.out]
  obtain ⟨bl, hbln⟩ : ∃ bl, b.length = bl := ⟨_, rfl⟩
  have hnu := rnumbers_any A2 c2 B b 2 W2 HBO.out (by omega) (by omega) (by omega)
  rw [hbln] at hnu
  simp only [hbln]
  refine hnu.mono ?_
  rintro e2 k2 ⟨h2, hx⟩
  rw [HN.out] at hx
  obtain ⟨vv, A3, c3, rfl, hoi, hbr⟩ := hx
  simp only [hm]
  obtain ⟨A9, c9, rfl⟩ := own_slice hoi
  have hm0 : ((((m + 1 : Nat) : Int)) == 0) = false := by rw [beq_eq_false_iff_ne]; omega
  have hm1 : ¬ ((m : Int) + 1) = 0 := by omega
  clear hoi hbr
  have p3 := HP.out.below h2
  have q3 := HQ.out.below h2
  have hb3 := HB.out.trans (h2.mono HB.out.size)
  have hby3 := HBY.out.below h2 (by omega)
  have x0 := q3.cell (j := 0) rfl
  have y0 := q3.frz 0
  have x1 := q3.cell (j := 1) rfl
  have y1 := q3.frz 1
  have x2 := q3.cell (j := 2) rfl
  have y2 := q3.frz 2
  have x3 := q3.cell (j := 3) rfl
  have y3 := q3.frz 3
  have x4 := q3.cell (j := 4) rfl
  have y4 := q3.frz 4
  have x5 := q3.cell (j := 5) rfl
  have y5 := q3.frz 5
  have x6 := q3.cell (j := 6) rfl
  have y6 := q3.frz 6
  have HP3 := Lib.hid p3
  have HQ3 := Lib.hid q3
  have HB3 := Lib.hid hb3
  have HBY3 := Lib.hid hby3
  clear p3 q3 hb3 hby3 h2 HP HQ HB HBY HBO hnu
  go_wp2_with fail
  have p4 : Rt k2 w.heap.size 27 [.bool false, .int .i64 0, .int .i64 0, .int .i64 0, .int .i64 0, .int .i64 0, .string ⟨#[]⟩] := HP3.out
  have q4 : Rt k2 k1.heap.size 27 [.bool false, .int .i64 0, .int .i64 0, .int .i64 0, .int .i64 0, .int .i64 0, .string ⟨#[]⟩] := HQ3.out
  have hb4 : Below w.heap.size w k2 := HB3.out
  have hby4 : Byt k2 B (.slice A ln c) l := by have := HBY3.out; rw [HLN.out] at this; exact this
  clear HP3 HQ3 HB3 HBY3
  obtain ⟨A', c', hv', hcl, hbc⟩ := id hby4
  injection hv' with e1 e2 e3
  subst e1; subst e3
  obtain ⟨gb, ob, rfl, hgb, hbcs⟩ := hbc (by have := HLN.out; omega)
  have hcut : n ≤ ln := hn1
  have hnc : n ≤ c := by omega
  have hmay := fun W => rmay10_any zRcd W (Nat.zero_le _)
  obtain ⟨y, hy⟩ : ∃ y, may10 zRcd = y := ⟨_, rfl⟩
  rw [hy] at hmay
  have hk4 : k1.heap.size < k2.heap.size := q4.lt
  replace q4 : Rt k2.drew k1.heap.size 27 [.bool false, .int .i64 0, .int .i64 0, .int .i64 0, .int .i64 0, .int .i64 0, .string ⟨#[]⟩] := q4
  replace p4 : Rt k2.drew w.heap.size 27 [.bool false, .int .i64 0, .int .i64 0, .int .i64 0, .int .i64 0, .int .i64 0, .string ⟨#[]⟩] := p4
  replace hby4 : Byt k2.drew B (.slice (some ⟨gb, ob, none⟩) ln c) l := hby4
  replace hb4 : Below w.heap.size w k2.drew := hb4.drew
  replace hk4 : k1.heap.size < k2.drew.heap.size := hk4
  clear hbc hbcs
  refine wp_region_noPanic ?_
  refine wp_region_held_drew (S := fun W => W.cell? ⟨k1.heap.size, 0, none⟩ = some (.bool false) ∧ W.cell? ⟨k1.heap.size, 1, none⟩ = some (.int .i64 0) ∧ W.cell? ⟨k1.heap.size, 2, none⟩ = some (.int .i64 0) ∧ W.cell? ⟨k1.heap.size, 3, none⟩ = some (.int .i64 0) ∧ W.cell? ⟨k1.heap.size, 4, none⟩ = some (.int .i64 0) ∧ W.cell? ⟨k1.heap.size, 5, none⟩ = some (.int .i64 0) ∧ W.cell? ⟨k1.heap.size, 6, none⟩ = some (.string ⟨#[]⟩) ∧ Byt W B (.slice (some ⟨gb, ob, none⟩) ln c) l) (by kernel_rfl) ?_ (fun hHeld => ?_)
  · exact ⟨q4.cell (j := 0) rfl, q4.cell (j := 1) rfl, q4.cell (j := 2) rfl, q4.cell (j := 3) rfl, q4.cell (j := 4) rfl, q4.cell (j := 5) rfl, q4.cell (j := 6) rfl, hby4⟩
  generalize k2.drew = k5 at *
  obtain rfl : y = false := hy.symm.trans (by decide)
  refine wpAnyH_take (i := 0) (oi := { dst := some 108, op := Op.load 27 (Operand.tmp 9), type := 27, pos := "ref.go:220", after := #[], guard := none }) (v := .agg #[.bool false, .int .i64 0, .int .i64 0, .int .i64 0, .int .i64 0, .int .i64 0, .string ⟨#[]⟩]) rfl (by kernel_rfl) (by kernel_rfl) (by kernel_rfl) (fun _ _ _ h => h) (Or.inl ⟨by rfl, fun w hSw => ?_⟩) (by assumption) ?_
  · (try dsimp only at hSw)
    go_simp
  try simp only [Act.put, List.setIfInBounds_toArray, List.set_cons_zero, List.set_cons_succ]
  refine wpAnyH_ready (rs := [1]) (by kernel_rfl) (by simp) ?_
  refine AllReadyH.cons (o := { dst := some 109, op := Op.call { callee := Callee.value (Operand.func 14), args := #[Operand.tmp 108], argTypes := #[27] }, type := 4, pos := "ref.go:220", after := #[{ on := 0, ground := Ground.data }], guard := none }) rfl (fun K hK => ?_) AllReadyH.nil
  go_simp
  go_at_call 14
  refine (hmay _).mono ?_
  rintro e6 k6 ⟨rfl, h6⟩
  replace q4 := q4.below h6
  replace p4 := p4.below h6
  replace hby4 := hby4.below h6 (by omega)
  replace hb4 := hb4.trans (h6.mono hb4.size)
  have hk6 : k1.heap.size < k6.heap.size := Nat.lt_of_lt_of_le hk4 h6.size
  clear h6
  refine hK.out _ _ ?_ (fun hHeld => ?_)
  · exact ⟨q4.cell (j := 0) rfl, q4.cell (j := 1) rfl, q4.cell (j := 2) rfl, q4.cell (j := 3) rfl, q4.cell (j := 4) rfl, q4.cell (j := 5) rfl, q4.cell (j := 6) rfl, hby4⟩
  clear hK K
  try simp only [Act.put, List.setIfInBounds_toArray, List.set_cons_zero, List.set_cons_succ]
  refine wpAnyH_take (i := 2) (oi := { dst := some 110, op := Op.unOp UnOp.not 4 (Operand.tmp 109), type := 4, pos := "ref.go:220", after := #[{ on := 1, ground := Ground.data }], guard := none }) (v := .bool true) rfl (by kernel_rfl) (by kernel_rfl) (by kernel_rfl) (fun _ _ _ h => h) (Or.inl ⟨by rfl, fun w hSw => ?_⟩) (by assumption) ?_
  · (try dsimp only at hSw)
    go_simp
  try simp only [Act.put, List.setIfInBounds_toArray, List.set_cons_zero, List.set_cons_succ]
  refine wpAnyH_take (i := 3) (oi := { dst := some 111, op := Op.move (Operand.tmp 110), type := 4, pos := "ref.go:220", after := #[{ on := 2, ground := Ground.data }, { on := 1, ground := Ground.chain }], guard := none }) (v := .bool true) rfl (by kernel_rfl) (by kernel_rfl) (by kernel_rfl) (fun _ _ _ h => h) (Or.inl ⟨by rfl, fun w hSw => ?_⟩) (by assumption) ?_
  · (try dsimp only at hSw)
    go_simp
  try simp only [Act.put, List.setIfInBounds_toArray, List.set_cons_zero, List.set_cons_succ]
  refine wpAnyH_take (i := 4) (oi := { dst := some 112, op := Op.load 27 (Operand.tmp 9), type := 27, pos := "ref.go:220", after := #[{ on := 3, ground := Ground.guard }], guard := some (3, false) }) (v := undef) rfl (by kernel_rfl) (by kernel_rfl) (by kernel_rfl) (fun _ _ _ h => h) (Or.inr ⟨by rfl, rfl⟩) (by assumption) ?_
  try simp only [Act.put, List.setIfInBounds_toArray, List.set_cons_zero, List.set_cons_succ]
  refine wpAnyH_take (i := 5) (oi := { dst := some 113, op := Op.call { callee := Callee.value (Operand.func 16), args := #[Operand.tmp 112], argTypes := #[27] }, type := 30, pos := "ref.go:220", after := #[{ on := 4, ground := Ground.data }, { on := 3, ground := Ground.chain }, { on := 3, ground := Ground.guard }], guard := some (3, false) }) (v := undef) rfl (by kernel_rfl) (by kernel_rfl) (by kernel_rfl) (fun _ _ _ h => h) (Or.inr ⟨by rfl, rfl⟩) (by assumption) ?_
  try simp only [Act.put, List.setIfInBounds_toArray, List.set_cons_zero, List.set_cons_succ]
  refine wpAnyH_take (i := 6) (oi := { dst := some 114, op := Op.convert 30 9 (Operand.tmp 113), type := 9, pos := "ref.go:220", after := #[{ on := 5, ground := Ground.data }, { on := 3, ground := Ground.guard }], guard := some (3, false) }) (v := undef) rfl (by kernel_rfl) (by kernel_rfl) (by kernel_rfl) (fun _ _ _ h => h) (Or.inr ⟨by rfl, rfl⟩) (by assumption) ?_
  try simp only [Act.put, List.setIfInBounds_toArray, List.set_cons_zero, List.set_cons_succ]
  refine wpAnyH_take (i := 7) (oi := { dst := some 115, op := Op.move (Operand.tmp 0), type := 30, pos := "ref.go:220", after := #[{ on := 3, ground := Ground.guard }], guard := some (3, false) }) (v := undef) rfl (by kernel_rfl) (by kernel_rfl) (by kernel_rfl) (fun _ _ _ h => h) (Or.inr ⟨by rfl, rfl⟩) (by assumption) ?_
  try simp only [Act.put, List.setIfInBounds_toArray, List.set_cons_zero, List.set_cons_succ]
  refine wpAnyH_take (i := 8) (oi := { dst := some 116, op := Op.move (Operand.tmp 7), type := 3, pos := "ref.go:220", after := #[{ on := 3, ground := Ground.guard }], guard := some (3, false) }) (v := undef) rfl (by kernel_rfl) (by kernel_rfl) (by kernel_rfl) (fun _ _ _ h => h) (Or.inr ⟨by rfl, rfl⟩) (by assumption) ?_
  try simp only [Act.put, List.setIfInBounds_toArray, List.set_cons_zero, List.set_cons_succ]
  refine wpAnyH_take (i := 9) (oi := { dst := some 117, op := Op.slice 30 (Operand.tmp 115) none (some (Operand.tmp 116)) none, type := 30, pos := "ref.go:220", after := #[{ on := 7, ground := Ground.data }, { on := 8, ground := Ground.data }, { on := 3, ground := Ground.guard }], guard := some (3, false) }) (v := undef) rfl (by kernel_rfl) (by kernel_rfl) (by kernel_rfl) (fun _ _ _ h => h) (Or.inr ⟨by rfl, rfl⟩) (by assumption) ?_
  try simp only [Act.put, List.setIfInBounds_toArray, List.set_cons_zero, List.set_cons_succ]
  refine wpAnyH_take (i := 10) (oi := { dst := some 118, op := Op.convert 30 9 (Operand.tmp 117), type := 9, pos := "ref.go:220", after := #[{ on := 9, ground := Ground.data }, { on := 3, ground := Ground.guard }], guard := some (3, false) }) (v := undef) rfl (by kernel_rfl) (by kernel_rfl) (by kernel_rfl) (fun _ _ _ h => h) (Or.inr ⟨by rfl, rfl⟩) (by assumption) ?_
  try simp only [Act.put, List.setIfInBounds_toArray, List.set_cons_zero, List.set_cons_succ]
  refine wpAnyH_take (i := 11) (oi := { dst := some 119, op := Op.binOp BinOp.neq 9 (Operand.tmp 114) (Operand.tmp 118) 9, type := 4, pos := "ref.go:220", after := #[{ on := 6, ground := Ground.data }, { on := 10, ground := Ground.data }, { on := 3, ground := Ground.guard }], guard := some (3, false) }) (v := undef) rfl (by kernel_rfl) (by kernel_rfl) (by kernel_rfl) (fun _ _ _ h => h) (Or.inr ⟨by rfl, rfl⟩) (by assumption) ?_
  try simp only [Act.put, List.setIfInBounds_toArray, List.set_cons_zero, List.set_cons_succ]
  refine wpAnyH_take (i := 12) (oi := { dst := some 120, op := Op.pick (Operand.tmp 111) (Operand.const (Value.bool true)) (Operand.tmp 119), type := 4, pos := "ref.go:220", after := #[{ on := 3, ground := Ground.data }, { on := 11, ground := Ground.data }], guard := none }) (v := .bool true) rfl (by kernel_rfl) (by kernel_rfl) (by kernel_rfl) (fun _ _ _ h => h) (Or.inl ⟨by rfl, fun w hSw => ?_⟩) (by assumption) ?_
  · (try dsimp only at hSw)
    go_simp
  try simp only [Act.put, List.setIfInBounds_toArray, List.set_cons_zero, List.set_cons_succ]
  refine wpAnyH_done (by kernel_rfl) ?_ _
  refine NoPanic.normal ?_
  have x0 := p4.cell (j := 0) rfl
  have y0 := p4.frz 0
  have x1 := p4.cell (j := 1) rfl
  have y1 := p4.frz 1
  have x2 := p4.cell (j := 2) rfl
  have y2 := p4.frz 2
  have x3 := p4.cell (j := 3) rfl
  have y3 := p4.frz 3
  have x4 := p4.cell (j := 4) rfl
  have y4 := p4.frz 4
  have x5 := p4.cell (j := 5) rfl
  have y5 := p4.frz 5
  have x6 := p4.cell (j := 6) rfl
  have y6 := p4.frz 6
  go_wp2
  have hxs : Rt _ w.heap.size 27 [.bool false, .int .i64 0, .int .i64 0, .int .i64 0, .int .i64 0, .int .i64 0, .string ⟨#[]⟩] := (((((((p4.set 0 (.bool false)).set 1 (.int .i64 0)).set 2 (.int .i64 0)).set 3 (.int .i64 0)).set 4 (.int .i64 0)).set 5 (.int .i64 0)).set 6 (.string ⟨#[]⟩))
  have hbs := (below_set10 ((below_set10 ((below_set10 ((below_set10 ((below_set10 ((below_set10 ((below_set10 (hb4) 0 (g := w.heap.size) (.bool false) (by omega))) 1 (g := w.heap.size) (.int .i64 0) (by omega))) 2 (g := w.heap.size) (.int .i64 0) (by omega))) 3 (g := w.heap.size) (.int .i64 0) (by omega))) 4 (g := w.heap.size) (.int .i64 0) (by omega))) 5 (g := w.heap.size) (.int .i64 0) (by omega))) 6 (g := w.heap.size) (.string ⟨#[]⟩) (by omega))
  refine body_world10 (fun W => Below w.heap.size w W ∧ Rt W w.heap.size 27 [.bool false, .int .i64 0, .int .i64 0, .int .i64 0, .int .i64 0, .int .i64 0, .string ⟨#[]⟩]) ⟨hbs, hxs⟩ ?_
  clear hbs hxs
  rintro W ⟨hbs, hxs⟩
  have d0 := hxs.cell (j := 0) rfl
  have d1 := hxs.cell (j := 1) rfl
  have d2 := hxs.cell (j := 2) rfl
  have d3 := hxs.cell (j := 3) rfl
  have d4 := hxs.cell (j := 4) rfl
  have d5 := hxs.cell (j := 5) rfl
  have d6 := hxs.cell (j := 6) rfl
  refine bodyPost_ret (v := .tuple #[.agg #[.bool false, .int .i64 0, .int .i64 0, .int .i64 0, .int .i64 0, .int .i64 0, .string ⟨#[]⟩], .int .i64 0, .int .i64 3]) (by simp [results, Tryd.results23, go_sem, d0, d1, d2, d3, d4, d5, d6]) rfl ?_
  exact ⟨by rw [HNO.out]; rfl, hbs⟩
set_option maxHeartbeats 4000000 in
theorem rdec_hard_lo (A : Option Addr) (c B n : Nat) (b l : List UInt8) (w : World) (h : Byt w B (.slice A l.length c) l) (hB : B ≤ w.heap.size) (hl : l.length ≤ 1000000) (ho : openB l = (1, b, n, 0)) (t v : Int) (hn : numsL 2 b = some ([t, v], [])) (hv : v < 0) :
    Calls Tryd.prog 23 #[.slice A l.length c] w (GotQ10 (decR10 l) w) := by
  have hno := dec_hard_no ho (fun t2 v2 h => by rw [hn] at h; simp only [Option.some.injEq, Prod.mk.injEq, List.cons.injEq, and_true] at h; omega)
  have hbl : b.length ≤ 4000 := (openB_canon ho).2.2.2.2.2
  have hn1 : n ≤ l.length := (openB_canon ho).2.1
  have hn6 : 6 ≤ n := (openB_canon ho).2.2.1
  have hop := ropen_any A c B l
  rw [ho] at hop
  obtain ⟨W1, hW1⟩ : ∃ W1, w.alloc (.cells #[.bool false, .int .i64 0, .int .i64 0, .int .i64 0, .int .i64 0, .int .i64 0, .string ⟨#[]⟩] 27) = W1 := ⟨_, rfl⟩
  have hb1 : Below w.heap.size w W1 := by rw [← hW1]; exact below_new _ _
  have p1 : Rt W1 w.heap.size 27 [.bool false, .int .i64 0, .int .i64 0, .int .i64 0, .int .i64 0, .int .i64 0, .string ⟨#[]⟩] := by rw [← hW1]; exact Rt.new w _ _
  have hby1 := h.below hb1 hB
  have hop1 := hop W1 hby1 (Nat.le_trans hB hb1.size) hl
  have HW1 := Lib.hid hW1
  have HBY1 := Lib.hid hby1
  have HB1 := Lib.hid hb1
  obtain ⟨ln, hln⟩ : ∃ ln, l.length = ln := ⟨_, rfl⟩
  have HLN := Lib.hid hln
  rw [hln] at hop1 hn1 ⊢
  clear hop hW1 hby1 h hb1 hln hl
  go_enter Tryd.func23, Tryd.ntmps23
  go_wp2_with fail
  rw [HW1.out]
  refine hop1.mono ?_
  rintro e1 k1 ⟨v1, rfl, ho1, h1⟩
  have p2 := p1.below h1
  have hb2 := HB1.out.trans (h1.mono HB1.out.size)
  have hby2 := HBY1.out.below h1 (Nat.le_trans hB HB1.out.size)
  obtain ⟨A2, c2, rfl⟩ := byt_slice ho1
  obtain ⟨W2, hW2⟩ : ∃ W2, k1.alloc (.cells #[.bool false, .int .i64 0, .int .i64 0, .int .i64 0, .int .i64 0, .int .i64 0, .string ⟨#[]⟩] 27) = W2 := ⟨_, rfl⟩
  have h2 : Below k1.heap.size k1 W2 := by rw [← hW2]; exact below_new _ _
  have q2 : Rt W2 k1.heap.size 27 [.bool false, .int .i64 0, .int .i64 0, .int .i64 0, .int .i64 0, .int .i64 0, .string ⟨#[]⟩] := by rw [← hW2]; exact Rt.new k1 _ _
  have p3 := p2.below h2
  have hb3 := hb2.trans (h2.mono hb2.size)
  have hBk : B ≤ k1.heap.size := Nat.le_trans hB hb2.size
  have hby3 := hby2.below h2 hBk
  have hbo : Byt W2 B (.slice A2 b.length c2) b := ho1.below h2 hBk
  have HP := Lib.hid p3
  have HQ := Lib.hid q2
  have HB := Lib.hid hb3
  have HBY := Lib.hid hby3
  have HBO := Lib.hid hbo
  have HW2 := Lib.hid hW2
  have hpk : w.heap.size < k1.heap.size := p2.lt
  have hpn : w.heap.size ≠ k1.heap.size := by omega
  have hz2 : k1.heap.size < W2.heap.size := q2.lt
  clear p1 p2 p3 q2 hb2 hb3 hby2 hby3 hbo h1 h2 ho1 hW2 HW1 HB1 HBY1 hop1
  have HN := Lib.hid hn
  have HNO := Lib.hid hno
  clear hn hno ho
  go_wp2_with fail
  rw [HW2.out]
  obtain ⟨bl, hbln⟩ : ∃ bl, b.length = bl := ⟨_, rfl⟩
  have hnu := rnumbers_any A2 c2 B b 2 W2 HBO.out (by omega) (by omega) (by omega)
  rw [hbln] at hnu
  simp only [hbln]
  refine hnu.mono ?_
  rintro e2 k2 ⟨h2, hx⟩
  rw [HN.out] at hx
  obtain ⟨vv, A3, c3, rfl, hoi, hbr⟩ := hx
  obtain ⟨gi, ci, rfl, hci, hgi, hBi, hcs⟩ := ownI_at hoi (by simp)
  have i1 : k2.cell? ⟨gi, 1, none⟩ = some (.int .i64 v) := hcs 1 (by simp)
  simp only [List.length_cons, List.length_nil, Nat.reduceAdd] at *
  clear hoi hbr hcs
  have p3 := HP.out.below h2
  have q3 := HQ.out.below h2
  have hb3 := HB.out.trans (h2.mono HB.out.size)
  have hby3 := HBY.out.below h2 (by omega)
  have x0 := q3.cell (j := 0) rfl
  have y0 := q3.frz 0
  have x1 := q3.cell (j := 1) rfl
  have y1 := q3.frz 1
  have x2 := q3.cell (j := 2) rfl
  have y2 := q3.frz 2
  have x3 := q3.cell (j := 3) rfl
  have y3 := q3.frz 3
  have x4 := q3.cell (j := 4) rfl
  have y4 := q3.frz 4
  have x5 := q3.cell (j := 5) rfl
  have y5 := q3.frz 5
  have x6 := q3.cell (j := 6) rfl
  have y6 := q3.frz 6
  have HP3 := Lib.hid p3
  have HQ3 := Lib.hid q3
  have HB3 := Lib.hid hb3
  have HBY3 := Lib.hid hby3
  clear p3 q3 hb3 hby3 h2 HP HQ HB HBY HBO hnu
  have hv2 : ¬ 0 ≤ v := by omega
  go_wp2_with fail
  have p4 : Rt k2 w.heap.size 27 [.bool false, .int .i64 0, .int .i64 0, .int .i64 0, .int .i64 0, .int .i64 0, .string ⟨#[]⟩] := HP3.out
  have q4 : Rt k2 k1.heap.size 27 [.bool false, .int .i64 0, .int .i64 0, .int .i64 0, .int .i64 0, .int .i64 0, .string ⟨#[]⟩] := HQ3.out
  have hb4 : Below w.heap.size w k2 := HB3.out
  have hby4 : Byt k2 B (.slice A ln c) l := by have := HBY3.out; rw [HLN.out] at this; exact this
  clear HP3 HQ3 HB3 HBY3
  obtain ⟨A', c', hv', hcl, hbc⟩ := id hby4
  injection hv' with e1 e2 e3
  subst e1; subst e3
  obtain ⟨gb, ob, rfl, hgb, hbcs⟩ := hbc (by have := HLN.out; omega)
  have hcut : n ≤ ln := hn1
  have hnc : n ≤ c := by omega
  have hmay := fun W => rmay10_any zRcd W (Nat.zero_le _)
  obtain ⟨y, hy⟩ : ∃ y, may10 zRcd = y := ⟨_, rfl⟩
  rw [hy] at hmay
  have hk4 : k1.heap.size < k2.heap.size := q4.lt
  replace q4 : Rt k2.drew k1.heap.size 27 [.bool false, .int .i64 0, .int .i64 0, .int .i64 0, .int .i64 0, .int .i64 0, .string ⟨#[]⟩] := q4
  replace p4 : Rt k2.drew w.heap.size 27 [.bool false, .int .i64 0, .int .i64 0, .int .i64 0, .int .i64 0, .int .i64 0, .string ⟨#[]⟩] := p4
  replace hby4 : Byt k2.drew B (.slice (some ⟨gb, ob, none⟩) ln c) l := hby4
  replace hb4 : Below w.heap.size w k2.drew := hb4.drew
  replace hk4 : k1.heap.size < k2.drew.heap.size := hk4
  clear hbc hbcs
  refine wp_region_noPanic ?_
  refine wp_region_held_drew (S := fun W => W.cell? ⟨k1.heap.size, 0, none⟩ = some (.bool false) ∧ W.cell? ⟨k1.heap.size, 1, none⟩ = some (.int .i64 0) ∧ W.cell? ⟨k1.heap.size, 2, none⟩ = some (.int .i64 0) ∧ W.cell? ⟨k1.heap.size, 3, none⟩ = some (.int .i64 0) ∧ W.cell? ⟨k1.heap.size, 4, none⟩ = some (.int .i64 0) ∧ W.cell? ⟨k1.heap.size, 5, none⟩ = some (.int .i64 0) ∧ W.cell? ⟨k1.heap.size, 6, none⟩ = some (.string ⟨#[]⟩) ∧ Byt W B (.slice (some ⟨gb, ob, none⟩) ln c) l) (by kernel_rfl) ?_ (fun hHeld => ?_)
  · exact ⟨q4.cell (j := 0) rfl, q4.cell (j := 1) rfl, q4.cell (j := 2) rfl, q4.cell (j := 3) rfl, q4.cell (j := 4) rfl, q4.cell (j := 5) rfl, q4.cell (j := 6) rfl, hby4⟩
  generalize k2.drew = k5 at *
  obtain rfl : y = false := hy.symm.trans (by decide)
  refine wpAnyH_take (i := 0) (oi := { dst := some 108, op := Op.load 27 (Operand.tmp 9), type := 27, pos := "ref.go:220", after := #[], guard := none }) (v := .agg #[.bool false, .int .i64 0, .int .i64 0, .int .i64 0, .int .i64 0, .int .i64 0, .string ⟨#[]⟩]) rfl (by kernel_rfl) (by kernel_rfl) (by kernel_rfl) (fun _ _ _ h => h) (Or.inl ⟨by rfl, fun w hSw => ?_⟩) (by assumption) ?_
  · (try dsimp only at hSw)
    go_simp
  try simp only [Act.put, List.setIfInBounds_toArray, List.set_cons_zero, List.set_cons_succ]
  refine wpAnyH_ready (rs := [1]) (by kernel_rfl) (by simp) ?_
  refine AllReadyH.cons (o := { dst := some 109, op := Op.call { callee := Callee.value (Operand.func 14), args := #[Operand.tmp 108], argTypes := #[27] }, type := 4, pos := "ref.go:220", after := #[{ on := 0, ground := Ground.data }], guard := none }) rfl (fun K hK => ?_) AllReadyH.nil
  go_simp
  go_at_call 14
  refine (hmay _).mono ?_
  rintro e6 k6 ⟨rfl, h6⟩
  replace q4 := q4.below h6
  replace p4 := p4.below h6
  replace hby4 := hby4.below h6 (by omega)
  replace hb4 := hb4.trans (h6.mono hb4.size)
  have hk6 : k1.heap.size < k6.heap.size := Nat.lt_of_lt_of_le hk4 h6.size
  clear h6
  refine hK.out _ _ ?_ (fun hHeld => ?_)
  · exact ⟨q4.cell (j := 0) rfl, q4.cell (j := 1) rfl, q4.cell (j := 2) rfl, q4.cell (j := 3) rfl, q4.cell (j := 4) rfl, q4.cell (j := 5) rfl, q4.cell (j := 6) rfl, hby4⟩
  clear hK K
  try simp only [Act.put, List.setIfInBounds_toArray, List.set_cons_zero, List.set_cons_succ]
  refine wpAnyH_take (i := 2) (oi := { dst := some 110, op := Op.unOp UnOp.not 4 (Operand.tmp 109), type := 4, pos := "ref.go:220", after := #[{ on := 1, ground := Ground.data }], guard := none }) (v := .bool true) rfl (by kernel_rfl) (by kernel_rfl) (by kernel_rfl) (fun _ _ _ h => h) (Or.inl ⟨by rfl, fun w hSw => ?_⟩) (by assumption) ?_
  · (try dsimp only at hSw)
    go_simp
  try simp only [Act.put, List.setIfInBounds_toArray, List.set_cons_zero, List.set_cons_succ]
  refine wpAnyH_take (i := 3) (oi := { dst := some 111, op := Op.move (Operand.tmp 110), type := 4, pos := "ref.go:220", after := #[{ on := 2, ground := Ground.data }, { on := 1, ground := Ground.chain }], guard := none }) (v := .bool true) rfl (by kernel_rfl) (by kernel_rfl) (by kernel_rfl) (fun _ _ _ h => h) (Or.inl ⟨by rfl, fun w hSw => ?_⟩) (by assumption) ?_
  · (try dsimp only at hSw)
    go_simp
  try simp only [Act.put, List.setIfInBounds_toArray, List.set_cons_zero, List.set_cons_succ]
  refine wpAnyH_take (i := 4) (oi := { dst := some 112, op := Op.load 27 (Operand.tmp 9), type := 27, pos := "ref.go:220", after := #[{ on := 3, ground := Ground.guard }], guard := some (3, false) }) (v := undef) rfl (by kernel_rfl) (by kernel_rfl) (by kernel_rfl) (fun _ _ _ h => h) (Or.inr ⟨by rfl, rfl⟩) (by assumption) ?_
  try simp only [Act.put, List.setIfInBounds_toArray, List.set_cons_zero, List.set_cons_succ]
  refine wpAnyH_take (i := 5) (oi := { dst := some 113, op := Op.call { callee := Callee.value (Operand.func 16), args := #[Operand.tmp 112], argTypes := #[27] }, type := 30, pos := "ref.go:220", after := #[{ on := 4, ground := Ground.data }, { on := 3, ground := Ground.chain }, { on := 3, ground := Ground.guard }], guard := some (3, false) }) (v := undef) rfl (by kernel_rfl) (by kernel_rfl) (by kernel_rfl) (fun _ _ _ h => h) (Or.inr ⟨by rfl, rfl⟩) (by assumption) ?_
  try simp only [Act.put, List.setIfInBounds_toArray, List.set_cons_zero, List.set_cons_succ]
  refine wpAnyH_take (i := 6) (oi := { dst := some 114, op := Op.convert 30 9 (Operand.tmp 113), type := 9, pos := "ref.go:220", after := #[{ on := 5, ground := Ground.data }, { on := 3, ground := Ground.guard }], guard := some (3, false) }) (v := undef) rfl (by kernel_rfl) (by kernel_rfl) (by kernel_rfl) (fun _ _ _ h => h) (Or.inr ⟨by rfl, rfl⟩) (by assumption) ?_
  try simp only [Act.put, List.setIfInBounds_toArray, List.set_cons_zero, List.set_cons_succ]
  refine wpAnyH_take (i := 7) (oi := { dst := some 115, op := Op.move (Operand.tmp 0), type := 30, pos := "ref.go:220", after := #[{ on := 3, ground := Ground.guard }], guard := some (3, false) }) (v := undef) rfl (by kernel_rfl) (by kernel_rfl) (by kernel_rfl) (fun _ _ _ h => h) (Or.inr ⟨by rfl, rfl⟩) (by assumption) ?_
  try simp only [Act.put, List.setIfInBounds_toArray, List.set_cons_zero, List.set_cons_succ]
  refine wpAnyH_take (i := 8) (oi := { dst := some 116, op := Op.move (Operand.tmp 7), type := 3, pos := "ref.go:220", after := #[{ on := 3, ground := Ground.guard }], guard := some (3, false) }) (v := undef) rfl (by kernel_rfl) (by kernel_rfl) (by kernel_rfl) (fun _ _ _ h => h) (Or.inr ⟨by rfl, rfl⟩) (by assumption) ?_
  try simp only [Act.put, List.setIfInBounds_toArray, List.set_cons_zero, List.set_cons_succ]
  refine wpAnyH_take (i := 9) (oi := { dst := some 117, op := Op.slice 30 (Operand.tmp 115) none (some (Operand.tmp 116)) none, type := 30, pos := "ref.go:220", after := #[{ on := 7, ground := Ground.data }, { on := 8, ground := Ground.data }, { on := 3, ground := Ground.guard }], guard := some (3, false) }) (v := undef) rfl (by kernel_rfl) (by kernel_rfl) (by kernel_rfl) (fun _ _ _ h => h) (Or.inr ⟨by rfl, rfl⟩) (by assumption) ?_
  try simp only [Act.put, List.setIfInBounds_toArray, List.set_cons_zero, List.set_cons_succ]
  refine wpAnyH_take (i := 10) (oi := { dst := some 118, op := Op.convert 30 9 (Operand.tmp 117), type := 9, pos := "ref.go:220", after := #[{ on := 9, ground := Ground.data }, { on := 3, ground := Ground.guard }], guard := some (3, false) }) (v := undef) rfl (by kernel_rfl) (by kernel_rfl) (by kernel_rfl) (fun _ _ _ h => h) (Or.inr ⟨by rfl, rfl⟩) (by assumption) ?_
  try simp only [Act.put, List.setIfInBounds_toArray, List.set_cons_zero, List.set_cons_succ]
  refine wpAnyH_take (i := 11) (oi := { dst := some 119, op := Op.binOp BinOp.neq 9 (Operand.tmp 114) (Operand.tmp 118) 9, type := 4, pos := "ref.go:220", after := #[{ on := 6, ground := Ground.data }, { on := 10, ground := Ground.data }, { on := 3, ground := Ground.guard }], guard := some (3, false) }) (v := undef) rfl (by kernel_rfl) (by kernel_rfl) (by kernel_rfl) (fun _ _ _ h => h) (Or.inr ⟨by rfl, rfl⟩) (by assumption) ?_
  try simp only [Act.put, List.setIfInBounds_toArray, List.set_cons_zero, List.set_cons_succ]
  refine wpAnyH_take (i := 12) (oi := { dst := some 120, op := Op.pick (Operand.tmp 111) (Operand.const (Value.bool true)) (Operand.tmp 119), type := 4, pos := "ref.go:220", after := #[{ on := 3, ground := Ground.data }, { on := 11, ground := Ground.data }], guard := none }) (v := .bool true) rfl (by kernel_rfl) (by kernel_rfl) (by kernel_rfl) (fun _ _ _ h => h) (Or.inl ⟨by rfl, fun w hSw => ?_⟩) (by assumption) ?_
  · (try dsimp only at hSw)
    go_simp
  try simp only [Act.put, List.setIfInBounds_toArray, List.set_cons_zero, List.set_cons_succ]
  refine wpAnyH_done (by kernel_rfl) ?_ _
  refine NoPanic.normal ?_
  have x0 := p4.cell (j := 0) rfl
  have y0 := p4.frz 0
  have x1 := p4.cell (j := 1) rfl
  have y1 := p4.frz 1
  have x2 := p4.cell (j := 2) rfl
  have y2 := p4.frz 2
  have x3 := p4.cell (j := 3) rfl
  have y3 := p4.frz 3
  have x4 := p4.cell (j := 4) rfl
  have y4 := p4.frz 4
  have x5 := p4.cell (j := 5) rfl
  have y5 := p4.frz 5
  have x6 := p4.cell (j := 6) rfl
  have y6 := p4.frz 6
  go_wp2
  have hxs : Rt _ w.heap.size 27 [.bool false, .int .i64 0, .int .i64 0, .int .i64 0, .int .i64 0, .int .i64 0, .string ⟨#[]⟩] := (((((((p4.set 0 (.bool false)).set 1 (.int .i64 0)).set 2 (.int .i64 0)).set 3 (.int .i64 0)).set 4 (.int .i64 0)).set 5 (.int .i64 0)).set 6 (.string ⟨#[]⟩))
  have hbs := (below_set10 ((below_set10 ((below_set10 ((below_set10 ((below_set10 ((below_set10 ((below_set10 (hb4) 0 (g := w.heap.size) (.bool false) (by omega))) 1 (g := w.heap.size) (.int .i64 0) (by omega))) 2 (g := w.heap.size) (.int .i64 0) (by omega))) 3 (g := w.heap.size) (.int .i64 0) (by omega))) 4 (g := w.heap.size) (.int .i64 0) (by omega))) 5 (g := w.heap.size) (.int .i64 0) (by omega))) 6 (g := w.heap.size) (.string ⟨#[]⟩) (by omega))
  refine body_world10 (fun W => Below w.heap.size w W ∧ Rt W w.heap.size 27 [.bool false, .int .i64 0, .int .i64 0, .int .i64 0, .int .i64 0, .int .i64 0, .string ⟨#[]⟩]) ⟨hbs, hxs⟩ ?_
  clear hbs hxs
  rintro W ⟨hbs, hxs⟩
  have d0 := hxs.cell (j := 0) rfl
  have d1 := hxs.cell (j := 1) rfl
  have d2 := hxs.cell (j := 2) rfl
  have d3 := hxs.cell (j := 3) rfl
  have d4 := hxs.cell (j := 4) rfl
  have d5 := hxs.cell (j := 5) rfl
  have d6 := hxs.cell (j := 6) rfl
  refine bodyPost_ret (v := .tuple #[.agg #[.bool false, .int .i64 0, .int .i64 0, .int .i64 0, .int .i64 0, .int .i64 0, .string ⟨#[]⟩], .int .i64 0, .int .i64 3]) (by simp [results, Tryd.results23, go_sem, d0, d1, d2, d3, d4, d5, d6]) rfl ?_
  exact ⟨by rw [HNO.out]; rfl, hbs⟩
set_option maxHeartbeats 4000000 in
theorem rdec_hard_hi (A : Option Addr) (c B n : Nat) (b l : List UInt8) (w : World) (h : Byt w B (.slice A l.length c) l) (hB : B ≤ w.heap.size) (hl : l.length ≤ 1000000) (ho : openB l = (1, b, n, 0)) (t v : Int) (hn : numsL 2 b = some ([t, v], [])) (hv : 7 < v) :
    Calls Tryd.prog 23 #[.slice A l.length c] w (GotQ10 (decR10 l) w) := by
  have hno := dec_hard_no ho (fun t2 v2 h => by rw [hn] at h; simp only [Option.some.injEq, Prod.mk.injEq, List.cons.injEq, and_true] at h; omega)
  have hbl : b.length ≤ 4000 := (openB_canon ho).2.2.2.2.2
  have hn1 : n ≤ l.length := (openB_canon ho).2.1
  have hn6 : 6 ≤ n := (openB_canon ho).2.2.1
  have hop := ropen_any A c B l
  rw [ho] at hop
  obtain ⟨W1, hW1⟩ : ∃ W1, w.alloc (.cells #[.bool false, .int .i64 0, .int .i64 0, .int .i64 0, .int .i64 0, .int .i64 0, .string ⟨#[]⟩] 27) = W1 := ⟨_, rfl⟩
  have hb1 : Below w.heap.size w W1 := by rw [← hW1]; exact below_new _ _
  have p1 : Rt W1 w.heap.size 27 [.bool false, .int .i64 0, .int .i64 0, .int .i64 0, .int .i64 0, .int .i64 0, .string ⟨#[]⟩] := by rw [← hW1]; exact Rt.new w _ _
  have hby1 := h.below hb1 hB
  have hop1 := hop W1 hby1 (Nat.le_trans hB hb1.size) hl
  have HW1 := Lib.hid hW1
  have HBY1 := Lib.hid hby1
  have HB1 := Lib.hid hb1
  obtain ⟨ln, hln⟩ : ∃ ln, l.length = ln := ⟨_, rfl⟩
  have HLN := Lib.hid hln
  rw [hln] at hop1 hn1 ⊢
  clear hop hW1 hby1 h hb1 hln hl
  go_enter Tryd.func23, Tryd.ntmps23
  go_wp2_with fail
  rw [HW1.out]
  refine hop1.mono ?_
  rintro e1 k1 ⟨v1, rfl, ho1, h1⟩
  have p2 := p1.below h1
  have hb2 := HB1.out.trans (h1.mono HB1.out.size)
  have hby2 := HBY1.out.below h1 (Nat.le_trans hB HB1.out.size)
  obtain ⟨A2, c2, rfl⟩ := byt_slice ho1
  obtain ⟨W2, hW2⟩ : ∃ W2, k1.alloc (.cells #[.bool false, .int .i64 0, .int .i64 0, .int .i64 0, .int .i64 0, .int .i64 0, .string ⟨#[]⟩] 27) = W2 := ⟨_, rfl⟩
  have h2 : Below k1.heap.size k1 W2 := by rw [← hW2]; exact below_new _ _
  have q2 : Rt W2 k1.heap.size 27 [.bool false, .int .i64 0, .int .i64 0, .int .i64 0, .int .i64 0, .int .i64 0, .string ⟨#[]⟩] := by rw [← hW2]; exact Rt.new k1 _ _
  have p3 := p2.below h2
  have hb3 := hb2.trans (h2.mono hb2.size)
  have hBk : B ≤ k1.heap.size := Nat.le_trans hB hb2.size
  have hby3 := hby2.below h2 hBk
  have hbo : Byt W2 B (.slice A2 b.length c2) b := ho1.below h2 hBk
  have HP := Lib.hid p3
  have HQ := Lib.hid q2
  have HB := Lib.hid hb3
  have HBY := Lib.hid hby3
  have HBO := Lib.hid hbo
  have HW2 := Lib.hid hW2
  have hpk : w.heap.size < k1.heap.size := p2.lt
  have hpn : w.heap.size ≠ k1.heap.size := by omega
  have hz2 : k1.heap.size < W2.heap.size := q2.lt
  clear p1 p2 p3 q2 hb2 hb3 hby2 hby3 hbo h1 h2 ho1 hW2 HW1 HB1 HBY1 hop1
  have HN := Lib.hid hn
  have HNO := Lib.hid hno
  clear hn hno ho
  go_wp2_with fail
  rw [HW2.out]
  obtain ⟨bl, hbln⟩ : ∃ bl, b.length = bl := ⟨_, rfl⟩
  have hnu := rnumbers_any A2 c2 B b 2 W2 HBO.out (by omega) (by omega) (by omega)
  rw [hbln] at hnu
  simp only [hbln]
  refine hnu.mono ?_
  rintro e2 k2 ⟨h2, hx⟩
  rw [HN.out] at hx
  obtain ⟨vv, A3, c3, rfl, hoi, hbr⟩ := hx
  obtain ⟨gi, ci, rfl, hci, hgi, hBi, hcs⟩ := ownI_at hoi (by simp)
  have i1 : k2.cell? ⟨gi, 1, none⟩ = some (.int .i64 v) := hcs 1 (by simp)
  simp only [List.length_cons, List.length_nil, Nat.reduceAdd] at *
  clear hoi hbr hcs
  have p3 := HP.out.below h2
  have q3 := HQ.out.below h2
  have hb3 := HB.out.trans (h2.mono HB.out.size)
  have hby3 := HBY.out.below h2 (by omega)
  have x0 := q3.cell (j := 0) rfl
  have y0 := q3.frz 0
  have x1 := q3.cell (j := 1) rfl
  have y1 := q3.frz 1
  have x2 := q3.cell (j := 2) rfl
  have y2 := q3.frz 2
  have x3 := q3.cell (j := 3) rfl
  have y3 := q3.frz 3
  have x4 := q3.cell (j := 4) rfl
  have y4 := q3.frz 4
  have x5 := q3.cell (j := 5) rfl
  have y5 := q3.frz 5
  have x6 := q3.cell (j := 6) rfl
  have y6 := q3.frz 6
  have HP3 := Lib.hid p3
  have HQ3 := Lib.hid q3
  have HB3 := Lib.hid hb3
  have HBY3 := Lib.hid hby3
  clear p3 q3 hb3 hby3 h2 HP HQ HB HBY HBO hnu
  have hv2 : 0 ≤ v := by omega
  go_wp2_with fail
  have p4 : Rt k2 w.heap.size 27 [.bool false, .int .i64 0, .int .i64 0, .int .i64 0, .int .i64 0, .int .i64 0, .string ⟨#[]⟩] := HP3.out
  have q4 : Rt k2 k1.heap.size 27 [.bool false, .int .i64 0, .int .i64 0, .int .i64 0, .int .i64 0, .int .i64 0, .string ⟨#[]⟩] := HQ3.out
  have hb4 : Below w.heap.size w k2 := HB3.out
  have hby4 : Byt k2 B (.slice A ln c) l := by have := HBY3.out; rw [HLN.out] at this; exact this
  clear HP3 HQ3 HB3 HBY3
  obtain ⟨A', c', hv', hcl, hbc⟩ := id hby4
  injection hv' with e1 e2 e3
  subst e1; subst e3
  obtain ⟨gb, ob, rfl, hgb, hbcs⟩ := hbc (by have := HLN.out; omega)
  have hcut : n ≤ ln := hn1
  have hnc : n ≤ c := by omega
  have hmay := fun W => rmay10_any zRcd W (Nat.zero_le _)
  obtain ⟨y, hy⟩ : ∃ y, may10 zRcd = y := ⟨_, rfl⟩
  rw [hy] at hmay
  have hk4 : k1.heap.size < k2.heap.size := q4.lt
  replace q4 : Rt k2.drew k1.heap.size 27 [.bool false, .int .i64 0, .int .i64 0, .int .i64 0, .int .i64 0, .int .i64 0, .string ⟨#[]⟩] := q4
  replace p4 : Rt k2.drew w.heap.size 27 [.bool false, .int .i64 0, .int .i64 0, .int .i64 0, .int .i64 0, .int .i64 0, .string ⟨#[]⟩] := p4
  replace hby4 : Byt k2.drew B (.slice (some ⟨gb, ob, none⟩) ln c) l := hby4
  replace hb4 : Below w.heap.size w k2.drew := hb4.drew
  replace hk4 : k1.heap.size < k2.drew.heap.size := hk4
  clear hbc hbcs
  refine wp_region_noPanic ?_
  refine wp_region_held_drew (S := fun W => W.cell? ⟨k1.heap.size, 0, none⟩ = some (.bool false) ∧ W.cell? ⟨k1.heap.size, 1, none⟩ = some (.int .i64 0) ∧ W.cell? ⟨k1.heap.size, 2, none⟩ = some (.int .i64 0) ∧ W.cell? ⟨k1.heap.size, 3, none⟩ = some (.int .i64 0) ∧ W.cell? ⟨k1.heap.size, 4, none⟩ = some (.int .i64 0) ∧ W.cell? ⟨k1.heap.size, 5, none⟩ = some (.int .i64 0) ∧ W.cell? ⟨k1.heap.size, 6, none⟩ = some (.string ⟨#[]⟩) ∧ Byt W B (.slice (some ⟨gb, ob, none⟩) ln c) l) (by kernel_rfl) ?_ (fun hHeld => ?_)
  · exact ⟨q4.cell (j := 0) rfl, q4.cell (j := 1) rfl, q4.cell (j := 2) rfl, q4.cell (j := 3) rfl, q4.cell (j := 4) rfl, q4.cell (j := 5) rfl, q4.cell (j := 6) rfl, hby4⟩
  generalize k2.drew = k5 at *
  obtain rfl : y = false := hy.symm.trans (by decide)
  refine wpAnyH_take (i := 0) (oi := { dst := some 108, op := Op.load 27 (Operand.tmp 9), type := 27, pos := "ref.go:220", after := #[], guard := none }) (v := .agg #[.bool false, .int .i64 0, .int .i64 0, .int .i64 0, .int .i64 0, .int .i64 0, .string ⟨#[]⟩]) rfl (by kernel_rfl) (by kernel_rfl) (by kernel_rfl) (fun _ _ _ h => h) (Or.inl ⟨by rfl, fun w hSw => ?_⟩) (by assumption) ?_
  · (try dsimp only at hSw)
    go_simp
  try simp only [Act.put, List.setIfInBounds_toArray, List.set_cons_zero, List.set_cons_succ]
  refine wpAnyH_ready (rs := [1]) (by kernel_rfl) (by simp) ?_
  refine AllReadyH.cons (o := { dst := some 109, op := Op.call { callee := Callee.value (Operand.func 14), args := #[Operand.tmp 108], argTypes := #[27] }, type := 4, pos := "ref.go:220", after := #[{ on := 0, ground := Ground.data }], guard := none }) rfl (fun K hK => ?_) AllReadyH.nil
  go_simp
  go_at_call 14
  refine (hmay _).mono ?_
  rintro e6 k6 ⟨rfl, h6⟩
  replace q4 := q4.below h6
  replace p4 := p4.below h6
  replace hby4 := hby4.below h6 (by omega)
  replace hb4 := hb4.trans (h6.mono hb4.size)
  have hk6 : k1.heap.size < k6.heap.size := Nat.lt_of_lt_of_le hk4 h6.size
  clear h6
  refine hK.out _ _ ?_ (fun hHeld => ?_)
  · exact ⟨q4.cell (j := 0) rfl, q4.cell (j := 1) rfl, q4.cell (j := 2) rfl, q4.cell (j := 3) rfl, q4.cell (j := 4) rfl, q4.cell (j := 5) rfl, q4.cell (j := 6) rfl, hby4⟩
  clear hK K
  try simp only [Act.put, List.setIfInBounds_toArray, List.set_cons_zero, List.set_cons_succ]
  refine wpAnyH_take (i := 2) (oi := { dst := some 110, op := Op.unOp UnOp.not 4 (Operand.tmp 109), type := 4, pos := "ref.go:220", after := #[{ on := 1, ground := Ground.data }], guard := none }) (v := .bool true) rfl (by kernel_rfl) (by kernel_rfl) (by kernel_rfl) (fun _ _ _ h => h) (Or.inl ⟨by rfl, fun w hSw => ?_⟩) (by assumption) ?_
  · (try dsimp only at hSw)
    go_simp
  try simp only [Act.put, List.setIfInBounds_toArray, List.set_cons_zero, List.set_cons_succ]
  refine wpAnyH_take (i := 3) (oi := { dst := some 111, op := Op.move (Operand.tmp 110), type := 4, pos := "ref.go:220", after := #[{ on := 2, ground := Ground.data }, { on := 1, ground := Ground.chain }], guard := none }) (v := .bool true) rfl (by kernel_rfl) (by kernel_rfl) (by kernel_rfl) (fun _ _ _ h => h) (Or.inl ⟨by rfl, fun w hSw => ?_⟩) (by assumption) ?_
  · (try dsimp only at hSw)
    go_simp
  try simp only [Act.put, List.setIfInBounds_toArray, List.set_cons_zero, List.set_cons_succ]
  refine wpAnyH_take (i := 4) (oi := { dst := some 112, op := Op.load 27 (Operand.tmp 9), type := 27, pos := "ref.go:220", after := #[{ on := 3, ground := Ground.guard }], guard := some (3, false) }) (v := undef) rfl (by kernel_rfl) (by kernel_rfl) (by kernel_rfl) (fun _ _ _ h => h) (Or.inr ⟨by rfl, rfl⟩) (by assumption) ?_
  try simp only [Act.put, List.setIfInBounds_toArray, List.set_cons_zero, List.set_cons_succ]
  refine wpAnyH_take (i := 5) (oi := { dst := some 113, op := Op.call { callee := Callee.value (Operand.func 16), args := #[Operand.tmp 112], argTypes := #[27] }, type := 30, pos := "ref.go:220", after := #[{ on := 4, ground := Ground.data }, { on := 3, ground := Ground.chain }, { on := 3, ground := Ground.guard }], guard := some (3, false) }) (v := undef) rfl (by kernel_rfl) (by kernel_rfl) (by kernel_rfl) (fun _ _ _ h => h) (Or.inr ⟨by rfl, rfl⟩) (by assumption) ?_
  try simp only [Act.put, List.setIfInBounds_toArray, List.set_cons_zero, List.set_cons_succ]
  refine wpAnyH_take (i := 6) (oi := { dst := some 114, op := Op.convert 30 9 (Operand.tmp 113), type := 9, pos := "ref.go:220", after := #[{ on := 5, ground := Ground.data }, { on := 3, ground := Ground.guard }], guard := some (3, false) }) (v := undef) rfl (by kernel_rfl) (by kernel_rfl) (by kernel_rfl) (fun _ _ _ h => h) (Or.inr ⟨by rfl, rfl⟩) (by assumption) ?_
  try simp only [Act.put, List.setIfInBounds_toArray, List.set_cons_zero, List.set_cons_succ]
  refine wpAnyH_take (i := 7) (oi := { dst := some 115, op := Op.move (Operand.tmp 0), type := 30, pos := "ref.go:220", after := #[{ on := 3, ground := Ground.guard }], guard := some (3, false) }) (v := undef) rfl (by kernel_rfl) (by kernel_rfl) (by kernel_rfl) (fun _ _ _ h => h) (Or.inr ⟨by rfl, rfl⟩) (by assumption) ?_
  try simp only [Act.put, List.setIfInBounds_toArray, List.set_cons_zero, List.set_cons_succ]
  refine wpAnyH_take (i := 8) (oi := { dst := some 116, op := Op.move (Operand.tmp 7), type := 3, pos := "ref.go:220", after := #[{ on := 3, ground := Ground.guard }], guard := some (3, false) }) (v := undef) rfl (by kernel_rfl) (by kernel_rfl) (by kernel_rfl) (fun _ _ _ h => h) (Or.inr ⟨by rfl, rfl⟩) (by assumption) ?_
  try simp only [Act.put, List.setIfInBounds_toArray, List.set_cons_zero, List.set_cons_succ]
  refine wpAnyH_take (i := 9) (oi := { dst := some 117, op := Op.slice 30 (Operand.tmp 115) none (some (Operand.tmp 116)) none, type := 30, pos := "ref.go:220", after := #[{ on := 7, ground := Ground.data }, { on := 8, ground := Ground.data }, { on := 3, ground := Ground.guard }], guard := some (3, false) }) (v := undef) rfl (by kernel_rfl) (by kernel_rfl) (by kernel_rfl) (fun _ _ _ h => h) (Or.inr ⟨by rfl, rfl⟩) (by assumption) ?_
  try simp only [Act.put, List.setIfInBounds_toArray, List.set_cons_zero, List.set_cons_succ]
  refine wpAnyH_take (i := 10) (oi := { dst := some 118, op := Op.convert 30 9 (Operand.tmp 117), type := 9, pos := "ref.go:220", after := #[{ on := 9, ground := Ground.data }, { on := 3, ground := Ground.guard }], guard := some (3, false) }) (v := undef) rfl (by kernel_rfl) (by kernel_rfl) (by kernel_rfl) (fun _ _ _ h => h) (Or.inr ⟨by rfl, rfl⟩) (by assumption) ?_
  try simp only [Act.put, List.setIfInBounds_toArray, List.set_cons_zero, List.set_cons_succ]
  refine wpAnyH_take (i := 11) (oi := { dst := some 119, op := Op.binOp BinOp.neq 9 (Operand.tmp 114) (Operand.tmp 118) 9, type := 4, pos := "ref.go:220", after := #[{ on := 6, ground := Ground.data }, { on := 10, ground := Ground.data }, { on := 3, ground := Ground.guard }], guard := some (3, false) }) (v := undef) rfl (by kernel_rfl) (by kernel_rfl) (by kernel_rfl) (fun _ _ _ h => h) (Or.inr ⟨by rfl, rfl⟩) (by assumption) ?_
  try simp only [Act.put, List.setIfInBounds_toArray, List.set_cons_zero, List.set_cons_succ]
  refine wpAnyH_take (i := 12) (oi := { dst := some 120, op := Op.pick (Operand.tmp 111) (Operand.const (Value.bool true)) (Operand.tmp 119), type := 4, pos := "ref.go:220", after := #[{ on := 3, ground := Ground.data }, { on := 11, ground := Ground.data }], guard := none }) (v := .bool true) rfl (by kernel_rfl) (by kernel_rfl) (by kernel_rfl) (fun _ _ _ h => h) (Or.inl ⟨by rfl, fun w hSw => ?_⟩) (by assumption) ?_
  · (try dsimp only at hSw)
    go_simp
  try simp only [Act.put, List.setIfInBounds_toArray, List.set_cons_zero, List.set_cons_succ]
  refine wpAnyH_done (by kernel_rfl) ?_ _
  refine NoPanic.normal ?_
  have x0 := p4.cell (j := 0) rfl
  have y0 := p4.frz 0
  have x1 := p4.cell (j := 1) rfl
  have y1 := p4.frz 1
  have x2 := p4.cell (j := 2) rfl
  have y2 := p4.frz 2
  have x3 := p4.cell (j := 3) rfl
  have y3 := p4.frz 3
  have x4 := p4.cell (j := 4) rfl
  have y4 := p4.frz 4
  have x5 := p4.cell (j := 5) rfl
  have y5 := p4.frz 5
  have x6 := p4.cell (j := 6) rfl
  have y6 := p4.frz 6
  go_wp2
  have hxs : Rt _ w.heap.size 27 [.bool false, .int .i64 0, .int .i64 0, .int .i64 0, .int .i64 0, .int .i64 0, .string ⟨#[]⟩] := (((((((p4.set 0 (.bool false)).set 1 (.int .i64 0)).set 2 (.int .i64 0)).set 3 (.int .i64 0)).set 4 (.int .i64 0)).set 5 (.int .i64 0)).set 6 (.string ⟨#[]⟩))
  have hbs := (below_set10 ((below_set10 ((below_set10 ((below_set10 ((below_set10 ((below_set10 ((below_set10 (hb4) 0 (g := w.heap.size) (.bool false) (by omega))) 1 (g := w.heap.size) (.int .i64 0) (by omega))) 2 (g := w.heap.size) (.int .i64 0) (by omega))) 3 (g := w.heap.size) (.int .i64 0) (by omega))) 4 (g := w.heap.size) (.int .i64 0) (by omega))) 5 (g := w.heap.size) (.int .i64 0) (by omega))) 6 (g := w.heap.size) (.string ⟨#[]⟩) (by omega))
  refine body_world10 (fun W => Below w.heap.size w W ∧ Rt W w.heap.size 27 [.bool false, .int .i64 0, .int .i64 0, .int .i64 0, .int .i64 0, .int .i64 0, .string ⟨#[]⟩]) ⟨hbs, hxs⟩ ?_
  clear hbs hxs
  rintro W ⟨hbs, hxs⟩
  have d0 := hxs.cell (j := 0) rfl
  have d1 := hxs.cell (j := 1) rfl
  have d2 := hxs.cell (j := 2) rfl
  have d3 := hxs.cell (j := 3) rfl
  have d4 := hxs.cell (j := 4) rfl
  have d5 := hxs.cell (j := 5) rfl
  have d6 := hxs.cell (j := 6) rfl
  refine bodyPost_ret (v := .tuple #[.agg #[.bool false, .int .i64 0, .int .i64 0, .int .i64 0, .int .i64 0, .int .i64 0, .string ⟨#[]⟩], .int .i64 0, .int .i64 3]) (by simp [results, Tryd.results23, go_sem, d0, d1, d2, d3, d4, d5, d6]) rfl ?_
  exact ⟨by rw [HNO.out]; rfl, hbs⟩
end Go.Proofs.YtdigpeipklfaeaaDoor
/-
  The reference's Decode of a record answers what the plain function says: further ways.
  The bytes are there in memory, at most 1,000,000.
-/
set_option linter.unusedSimpArgs false
set_option linter.unusedVariables false
namespace Go.Proofs.YtdigpeipklfaeaaDoor
open Go.RowKit
set_option maxRecDepth 100000

set_option maxHeartbeats 4000000 in
theorem rdec_other (A : Option Addr) (c B n : Nat) (b l : List UInt8) (k : Nat) (h1 : k ≠ 1) (h2 : k ≠ 2) (w : World) (h : Byt w B (.slice A l.length c) l) (hB : B ≤ w.heap.size) (hl : l.length ≤ 1000000) (ho : openB l = (k, b, n, 0))  :
    Calls Tryd.prog 23 #[.slice A l.length c] w (GotQ10 (decR10 l) w) := by
  have hno := dec_other ho h1 h2
  have hk1 : ((k : Int) == 1) = false := by rw [beq_eq_false_iff_ne]; omega
  have hk2 : ((k : Int) == 2) = false := by rw [beq_eq_false_iff_ne]; omega
  have hk3 : ¬ (k : Int) = 1 := by omega
  have hk4 : ¬ (k : Int) = 2 := by omega
  clear h1 h2
  have hbl : b.length ≤ 4000 := (openB_canon ho).2.2.2.2.2
  have hn1 : n ≤ l.length := (openB_canon ho).2.1
  have hn6 : 6 ≤ n := (openB_canon ho).2.2.1
  have hop := ropen_any A c B l
  rw [ho] at hop
  obtain ⟨W1, hW1⟩ : ∃ W1, w.alloc (.cells #[.bool false, .int .i64 0, .int .i64 0, .int .i64 0, .int .i64 0, .int .i64 0, .string ⟨#[]⟩] 27) = W1 := ⟨_, rfl⟩
  have hb1 : Below w.heap.size w W1 := by rw [← hW1]; exact below_new _ _
  have p1 : Rt W1 w.heap.size 27 [.bool false, .int .i64 0, .int .i64 0, .int .i64 0, .int .i64 0, .int .i64 0, .string ⟨#[]⟩] := by rw [← hW1]; exact Rt.new w _ _
  have hby1 := h.below hb1 hB
  have hop1 := hop W1 hby1 (Nat.le_trans hB hb1.size) hl
  have HW1 := Lib.hid hW1
  have HBY1 := Lib.hid hby1
  have HB1 := Lib.hid hb1
  obtain ⟨ln, hln⟩ : ∃ ln, l.length = ln := ⟨_, rfl⟩
  have HLN := Lib.hid hln
  rw [hln] at hop1 hn1 ⊢
  clear hop hW1 hby1 h hb1 hln hl
  go_enter Tryd.func23, Tryd.ntmps23
  go_wp2_with fail
  rw [HW1.out]
  refine hop1.mono ?_
  rintro e1 k1 ⟨v1, rfl, ho1, h1⟩
  have p2 := p1.below h1
  have hb2 := HB1.out.trans (h1.mono HB1.out.size)
  have hby2 := HBY1.out.below h1 (Nat.le_trans hB HB1.out.size)
  obtain ⟨A2, c2, rfl⟩ := byt_slice ho1
  obtain ⟨W2, hW2⟩ : ∃ W2, k1.alloc (.cells #[.bool false, .int .i64 0, .int .i64 0, .int .i64 0, .int .i64 0, .int .i64 0, .string ⟨#[]⟩] 27) = W2 := ⟨_, rfl⟩
  have h2 : Below k1.heap.size k1 W2 := by rw [← hW2]; exact below_new _ _
  have q2 : Rt W2 k1.heap.size 27 [.bool false, .int .i64 0, .int .i64 0, .int .i64 0, .int .i64 0, .int .i64 0, .string ⟨#[]⟩] := by rw [← hW2]; exact Rt.new k1 _ _
  have p3 := p2.below h2
  have hb3 := hb2.trans (h2.mono hb2.size)
  have hBk : B ≤ k1.heap.size := Nat.le_trans hB hb2.size
  have hby3 := hby2.below h2 hBk
  have hbo : Byt W2 B (.slice A2 b.length c2) b := ho1.below h2 hBk
  have HP := Lib.hid p3
  have HQ := Lib.hid q2
  have HB := Lib.hid hb3
  have HBY := Lib.hid hby3
  have HBO := Lib.hid hbo
  have HW2 := Lib.hid hW2
  have hpk : w.heap.size < k1.heap.size := p2.lt
  have hpn : w.heap.size ≠ k1.heap.size := by omega
  have hz2 : k1.heap.size < W2.heap.size := q2.lt
  clear p1 p2 p3 q2 hb2 hb3 hby2 hby3 hbo h1 h2 ho1 hW2 HW1 HB1 HBY1 hop1
  have HNO := Lib.hid hno
  clear hno ho
  have x0 := HQ.out.cell (j := 0) rfl
  have y0 := HQ.out.frz 0
  have x1 := HQ.out.cell (j := 1) rfl
  have y1 := HQ.out.frz 1
  have x2 := HQ.out.cell (j := 2) rfl
  have y2 := HQ.out.frz 2
  have x3 := HQ.out.cell (j := 3) rfl
  have y3 := HQ.out.frz 3
  have x4 := HQ.out.cell (j := 4) rfl
  have y4 := HQ.out.frz 4
  have x5 := HQ.out.cell (j := 5) rfl
  have y5 := HQ.out.frz 5
  have x6 := HQ.out.cell (j := 6) rfl
  have y6 := HQ.out.frz 6
  go_wp2_with fail
  rw [HW2.out]
  have HP3 := HP
  have HQ3 := HQ
  have HB3 := HB
  have HBY3 := HBY
  clear HP HQ HB HBY HBO
  have p4 : Rt W2 w.heap.size 27 [.bool false, .int .i64 0, .int .i64 0, .int .i64 0, .int .i64 0, .int .i64 0, .string ⟨#[]⟩] := HP3.out
  have q4 : Rt W2 k1.heap.size 27 [.bool false, .int .i64 0, .int .i64 0, .int .i64 0, .int .i64 0, .int .i64 0, .string ⟨#[]⟩] := HQ3.out
  have hb4 : Below w.heap.size w W2 := HB3.out
  have hby4 : Byt W2 B (.slice A ln c) l := by have := HBY3.out; rw [HLN.out] at this; exact this
  clear HP3 HQ3 HB3 HBY3
  obtain ⟨A', c', hv', hcl, hbc⟩ := id hby4
  injection hv' with e1 e2 e3
  subst e1; subst e3
  obtain ⟨gb, ob, rfl, hgb, hbcs⟩ := hbc (by have := HLN.out; omega)
  have hcut : n ≤ ln := hn1
  have hnc : n ≤ c := by omega
  have hmay := fun W => rmay10_any zRcd W (Nat.zero_le _)
  obtain ⟨y, hy⟩ : ∃ y, may10 zRcd = y := ⟨_, rfl⟩
  rw [hy] at hmay
  have hk4 : k1.heap.size < W2.heap.size := q4.lt
  replace q4 : Rt W2.drew k1.heap.size 27 [.bool false, .int .i64 0, .int .i64 0, .int .i64 0, .int .i64 0, .int .i64 0, .string ⟨#[]⟩] := q4
  replace p4 : Rt W2.drew w.heap.size 27 [.bool false, .int .i64 0, .int .i64 0, .int .i64 0, .int .i64 0, .int .i64 0, .string ⟨#[]⟩] := p4
  replace hby4 : Byt W2.drew B (.slice (some ⟨gb, ob, none⟩) ln c) l := hby4
  replace hb4 : Below w.heap.size w W2.drew := hb4.drew
  replace hk4 : k1.heap.size < W2.drew.heap.size := hk4
  clear hbc hbcs
  refine wp_region_noPanic ?_
  refine wp_region_held_drew (S := fun W => W.cell? ⟨k1.heap.size, 0, none⟩ = some (.bool false) ∧ W.cell? ⟨k1.heap.size, 1, none⟩ = some (.int .i64 0) ∧ W.cell? ⟨k1.heap.size, 2, none⟩ = some (.int .i64 0) ∧ W.cell? ⟨k1.heap.size, 3, none⟩ = some (.int .i64 0) ∧ W.cell? ⟨k1.heap.size, 4, none⟩ = some (.int .i64 0) ∧ W.cell? ⟨k1.heap.size, 5, none⟩ = some (.int .i64 0) ∧ W.cell? ⟨k1.heap.size, 6, none⟩ = some (.string ⟨#[]⟩) ∧ Byt W B (.slice (some ⟨gb, ob, none⟩) ln c) l) (by kernel_rfl) ?_ (fun hHeld => ?_)
  · exact ⟨q4.cell (j := 0) rfl, q4.cell (j := 1) rfl, q4.cell (j := 2) rfl, q4.cell (j := 3) rfl, q4.cell (j := 4) rfl, q4.cell (j := 5) rfl, q4.cell (j := 6) rfl, hby4⟩
  generalize W2.drew = k5 at *
  obtain rfl : y = false := hy.symm.trans (by decide)
  refine wpAnyH_take (i := 0) (oi := { dst := some 108, op := Op.load 27 (Operand.tmp 9), type := 27, pos := "ref.go:220", after := #[], guard := none }) (v := .agg #[.bool false, .int .i64 0, .int .i64 0, .int .i64 0, .int .i64 0, .int .i64 0, .string ⟨#[]⟩]) rfl (by kernel_rfl) (by kernel_rfl) (by kernel_rfl) (fun _ _ _ h => h) (Or.inl ⟨by rfl, fun w hSw => ?_⟩) (by assumption) ?_
  · (try dsimp only at hSw)
    go_simp
  try simp only [Act.put, List.setIfInBounds_toArray, List.set_cons_zero, List.set_cons_succ]
  refine wpAnyH_ready (rs := [1]) (by kernel_rfl) (by simp) ?_
  refine AllReadyH.cons (o := { dst := some 109, op := Op.call { callee := Callee.value (Operand.func 14), args := #[Operand.tmp 108], argTypes := #[27] }, type := 4, pos := "ref.go:220", after := #[{ on := 0, ground := Ground.data }], guard := none }) rfl (fun K hK => ?_) AllReadyH.nil
  go_simp
  go_at_call 14
  refine (hmay _).mono ?_
  rintro e6 k6 ⟨rfl, h6⟩
  replace q4 := q4.below h6
  replace p4 := p4.below h6
  replace hby4 := hby4.below h6 (by omega)
  replace hb4 := hb4.trans (h6.mono hb4.size)
  have hk6 : k1.heap.size < k6.heap.size := Nat.lt_of_lt_of_le hk4 h6.size
  clear h6
  refine hK.out _ _ ?_ (fun hHeld => ?_)
  · exact ⟨q4.cell (j := 0) rfl, q4.cell (j := 1) rfl, q4.cell (j := 2) rfl, q4.cell (j := 3) rfl, q4.cell (j := 4) rfl, q4.cell (j := 5) rfl, q4.cell (j := 6) rfl, hby4⟩
  clear hK K
  try simp only [Act.put, List.setIfInBounds_toArray, List.set_cons_zero, List.set_cons_succ]
  refine wpAnyH_take (i := 2) (oi := { dst := some 110, op := Op.unOp UnOp.not 4 (Operand.tmp 109), type := 4, pos := "ref.go:220", after := #[{ on := 1, ground := Ground.data }], guard := none }) (v := .bool true) rfl (by kernel_rfl) (by kernel_rfl) (by kernel_rfl) (fun _ _ _ h => h) (Or.inl ⟨by rfl, fun w hSw => ?_⟩) (by assumption) ?_
  · (try dsimp only at hSw)
    go_simp
  try simp only [Act.put, List.setIfInBounds_toArray, List.set_cons_zero, List.set_cons_succ]
  refine wpAnyH_take (i := 3) (oi := { dst := some 111, op := Op.move (Operand.tmp 110), type := 4, pos := "ref.go:220", after := #[{ on := 2, ground := Ground.data }, { on := 1, ground := Ground.chain }], guard := none }) (v := .bool true) rfl (by kernel_rfl) (by kernel_rfl) (by kernel_rfl) (fun _ _ _ h => h) (Or.inl ⟨by rfl, fun w hSw => ?_⟩) (by assumption) ?_
  · (try dsimp only at hSw)
    go_simp
  try simp only [Act.put, List.setIfInBounds_toArray, List.set_cons_zero, List.set_cons_succ]
  refine wpAnyH_take (i := 4) (oi := { dst := some 112, op := Op.load 27 (Operand.tmp 9), type := 27, pos := "ref.go:220", after := #[{ on := 3, ground := Ground.guard }], guard := some (3, false) }) (v := undef) rfl (by kernel_rfl) (by kernel_rfl) (by kernel_rfl) (fun _ _ _ h => h) (Or.inr ⟨by rfl, rfl⟩) (by assumption) ?_
  try simp only [Act.put, List.setIfInBounds_toArray, List.set_cons_zero, List.set_cons_succ]
  refine wpAnyH_take (i := 5) (oi := { dst := some 113, op := Op.call { callee := Callee.value (Operand.func 16), args := #[Operand.tmp 112], argTypes := #[27] }, type := 30, pos := "ref.go:220", after := #[{ on := 4, ground := Ground.data }, { on := 3, ground := Ground.chain }, { on := 3, ground := Ground.guard }], guard := some (3, false) }) (v := undef) rfl (by kernel_rfl) (by kernel_rfl) (by kernel_rfl) (fun _ _ _ h => h) (Or.inr ⟨by rfl, rfl⟩) (by assumption) ?_
  try simp only [Act.put, List.setIfInBounds_toArray, List.set_cons_zero, List.set_cons_succ]
  refine wpAnyH_take (i := 6) (oi := { dst := some 114, op := Op.convert 30 9 (Operand.tmp 113), type := 9, pos := "ref.go:220", after := #[{ on := 5, ground := Ground.data }, { on := 3, ground := Ground.guard }], guard := some (3, false) }) (v := undef) rfl (by kernel_rfl) (by kernel_rfl) (by kernel_rfl) (fun _ _ _ h => h) (Or.inr ⟨by rfl, rfl⟩) (by assumption) ?_
  try simp only [Act.put, List.setIfInBounds_toArray, List.set_cons_zero, List.set_cons_succ]
  refine wpAnyH_take (i := 7) (oi := { dst := some 115, op := Op.move (Operand.tmp 0), type := 30, pos := "ref.go:220", after := #[{ on := 3, ground := Ground.guard }], guard := some (3, false) }) (v := undef) rfl (by kernel_rfl) (by kernel_rfl) (by kernel_rfl) (fun _ _ _ h => h) (Or.inr ⟨by rfl, rfl⟩) (by assumption) ?_
  try simp only [Act.put, List.setIfInBounds_toArray, List.set_cons_zero, List.set_cons_succ]
  refine wpAnyH_take (i := 8) (oi := { dst := some 116, op := Op.move (Operand.tmp 7), type := 3, pos := "ref.go:220", after := #[{ on := 3, ground := Ground.guard }], guard := some (3, false) }) (v := undef) rfl (by kernel_rfl) (by kernel_rfl) (by kernel_rfl) (fun _ _ _ h => h) (Or.inr ⟨by rfl, rfl⟩) (by assumption) ?_
  try simp only [Act.put, List.setIfInBounds_toArray, List.set_cons_zero, List.set_cons_succ]
  refine wpAnyH_take (i := 9) (oi := { dst := some 117, op := Op.slice 30 (Operand.tmp 115) none (some (Operand.tmp 116)) none, type := 30, pos := "ref.go:220", after := #[{ on := 7, ground := Ground.data }, { on := 8, ground := Ground.data }, { on := 3, ground := Ground.guard }], guard := some (3, false) }) (v := undef) rfl (by kernel_rfl) (by kernel_rfl) (by kernel_rfl) (fun _ _ _ h => h) (Or.inr ⟨by rfl, rfl⟩) (by assumption) ?_
  try simp only [Act.put, List.setIfInBounds_toArray, List.set_cons_zero, List.set_cons_succ]
  refine wpAnyH_take (i := 10) (oi := { dst := some 118, op := Op.convert 30 9 (Operand.tmp 117), type := 9, pos := "ref.go:220", after := #[{ on := 9, ground := Ground.data }, { on := 3, ground := Ground.guard }], guard := some (3, false) }) (v := undef) rfl (by kernel_rfl) (by kernel_rfl) (by kernel_rfl) (fun _ _ _ h => h) (Or.inr ⟨by rfl, rfl⟩) (by assumption) ?_
  try simp only [Act.put, List.setIfInBounds_toArray, List.set_cons_zero, List.set_cons_succ]
  refine wpAnyH_take (i := 11) (oi := { dst := some 119, op := Op.binOp BinOp.neq 9 (Operand.tmp 114) (Operand.tmp 118) 9, type := 4, pos := "ref.go:220", after := #[{ on := 6, ground := Ground.data }, { on := 10, ground := Ground.data }, { on := 3, ground := Ground.guard }], guard := some (3, false) }) (v := undef) rfl (by kernel_rfl) (by kernel_rfl) (by kernel_rfl) (fun _ _ _ h => h) (Or.inr ⟨by rfl, rfl⟩) (by assumption) ?_
  try simp only [Act.put, List.setIfInBounds_toArray, List.set_cons_zero, List.set_cons_succ]
  refine wpAnyH_take (i := 12) (oi := { dst := some 120, op := Op.pick (Operand.tmp 111) (Operand.const (Value.bool true)) (Operand.tmp 119), type := 4, pos := "ref.go:220", after := #[{ on := 3, ground := Ground.data }, { on := 11, ground := Ground.data }], guard := none }) (v := .bool true) rfl (by kernel_rfl) (by kernel_rfl) (by kernel_rfl) (fun _ _ _ h => h) (Or.inl ⟨by rfl, fun w hSw => ?_⟩) (by assumption) ?_
  · (try dsimp only at hSw)
    go_simp
  try simp only [Act.put, List.setIfInBounds_toArray, List.set_cons_zero, List.set_cons_succ]
  refine wpAnyH_done (by kernel_rfl) ?_ _
  refine NoPanic.normal ?_
  have x0 := p4.cell (j := 0) rfl
  have y0 := p4.frz 0
  have x1 := p4.cell (j := 1) rfl
  have y1 := p4.frz 1
  have x2 := p4.cell (j := 2) rfl
  have y2 := p4.frz 2
  have x3 := p4.cell (j := 3) rfl
  have y3 := p4.frz 3
  have x4 := p4.cell (j := 4) rfl
  have y4 := p4.frz 4
  have x5 := p4.cell (j := 5) rfl
  have y5 := p4.frz 5
  have x6 := p4.cell (j := 6) rfl
  have y6 := p4.frz 6
  go_wp2
  have hxs : Rt _ w.heap.size 27 [.bool false, .int .i64 0, .int .i64 0, .int .i64 0, .int .i64 0, .int .i64 0, .string ⟨#[]⟩] := (((((((p4.set 0 (.bool false)).set 1 (.int .i64 0)).set 2 (.int .i64 0)).set 3 (.int .i64 0)).set 4 (.int .i64 0)).set 5 (.int .i64 0)).set 6 (.string ⟨#[]⟩))
  have hbs := (below_set10 ((below_set10 ((below_set10 ((below_set10 ((below_set10 ((below_set10 ((below_set10 (hb4) 0 (g := w.heap.size) (.bool false) (by omega))) 1 (g := w.heap.size) (.int .i64 0) (by omega))) 2 (g := w.heap.size) (.int .i64 0) (by omega))) 3 (g := w.heap.size) (.int .i64 0) (by omega))) 4 (g := w.heap.size) (.int .i64 0) (by omega))) 5 (g := w.heap.size) (.int .i64 0) (by omega))) 6 (g := w.heap.size) (.string ⟨#[]⟩) (by omega))
  refine body_world10 (fun W => Below w.heap.size w W ∧ Rt W w.heap.size 27 [.bool false, .int .i64 0, .int .i64 0, .int .i64 0, .int .i64 0, .int .i64 0, .string ⟨#[]⟩]) ⟨hbs, hxs⟩ ?_
  clear hbs hxs
  rintro W ⟨hbs, hxs⟩
  have d0 := hxs.cell (j := 0) rfl
  have d1 := hxs.cell (j := 1) rfl
  have d2 := hxs.cell (j := 2) rfl
  have d3 := hxs.cell (j := 3) rfl
  have d4 := hxs.cell (j := 4) rfl
  have d5 := hxs.cell (j := 5) rfl
  have d6 := hxs.cell (j := 6) rfl
  refine bodyPost_ret (v := .tuple #[.agg #[.bool false, .int .i64 0, .int .i64 0, .int .i64 0, .int .i64 0, .int .i64 0, .string ⟨#[]⟩], .int .i64 0, .int .i64 3]) (by simp [results, Tryd.results23, go_sem, d0, d1, d2, d3, d4, d5, d6]) rfl ?_
  exact ⟨by rw [HNO.out]; rfl, hbs⟩
end Go.Proofs.YtdigpeipklfaeaaDoor
/-
  The reference's Decode of a record answers what the plain function says: further ways.
  The bytes are there in memory, at most 1,000,000.
-/
set_option linter.unusedSimpArgs false
set_option linter.unusedVariables false
namespace Go.Proofs.YtdigpeipklfaeaaDoor
open Go.RowKit
set_option maxRecDepth 100000

set_option maxHeartbeats 4000000 in
theorem rdec_ent_none (A : Option Addr) (c B n : Nat) (b l : List UInt8) (w : World) (h : Byt w B (.slice A l.length c) l) (hB : B ≤ w.heap.size) (hl : l.length ≤ 1000000) (ho : openB l = (2, b, n, 0)) (hn : numsL 3 b = none) :
    Calls Tryd.prog 23 #[.slice A l.length c] w (GotQ10 (decR10 l) w) := by
  have hno := dec_ent_no ho (fun i t k r h => by rw [hn] at h; cases h)
  have hbl : b.length ≤ 4000 := (openB_canon ho).2.2.2.2.2
  have hn1 : n ≤ l.length := (openB_canon ho).2.1
  have hn6 : 6 ≤ n := (openB_canon ho).2.2.1
  have hop := ropen_any A c B l
  rw [ho] at hop
  obtain ⟨W1, hW1⟩ : ∃ W1, w.alloc (.cells #[.bool false, .int .i64 0, .int .i64 0, .int .i64 0, .int .i64 0, .int .i64 0, .string ⟨#[]⟩] 27) = W1 := ⟨_, rfl⟩
  have hb1 : Below w.heap.size w W1 := by rw [← hW1]; exact below_new _ _
  have p1 : Rt W1 w.heap.size 27 [.bool false, .int .i64 0, .int .i64 0, .int .i64 0, .int .i64 0, .int .i64 0, .string ⟨#[]⟩] := by rw [← hW1]; exact Rt.new w _ _
  have hby1 := h.below hb1 hB
  have hop1 := hop W1 hby1 (Nat.le_trans hB hb1.size) hl
  have HW1 := Lib.hid hW1
  have HBY1 := Lib.hid hby1
  have HB1 := Lib.hid hb1
  obtain ⟨ln, hln⟩ : ∃ ln, l.length = ln := ⟨_, rfl⟩
  have HLN := Lib.hid hln
  rw [hln] at hop1 hn1 ⊢
  clear hop hW1 hby1 h hb1 hln hl
  go_enter Tryd.func23, Tryd.ntmps23
  go_wp2_with fail
  rw [HW1.out]
  refine hop1.mono ?_
  rintro e1 k1 ⟨v1, rfl, ho1, h1⟩
  have p2 := p1.below h1
  have hb2 := HB1.out.trans (h1.mono HB1.out.size)
  have hby2 := HBY1.out.below h1 (Nat.le_trans hB HB1.out.size)
  obtain ⟨A2, c2, rfl⟩ := byt_slice ho1
  obtain ⟨W2, hW2⟩ : ∃ W2, k1.alloc (.cells #[.bool false, .int .i64 0, .int .i64 0, .int .i64 0, .int .i64 0, .int .i64 0, .string ⟨#[]⟩] 27) = W2 := ⟨_, rfl⟩
  have h2 : Below k1.heap.size k1 W2 := by rw [← hW2]; exact below_new _ _
  have q2 : Rt W2 k1.heap.size 27 [.bool false, .int .i64 0, .int .i64 0, .int .i64 0, .int .i64 0, .int .i64 0, .string ⟨#[]⟩] := by rw [← hW2]; exact Rt.new k1 _ _
  have p3 := p2.below h2
  have hb3 := hb2.trans (h2.mono hb2.size)
  have hBk : B ≤ k1.heap.size := Nat.le_trans hB hb2.size
  have hby3 := hby2.below h2 hBk
  have hbo : Byt W2 B (.slice A2 b.length c2) b := ho1.below h2 hBk
  have HP := Lib.hid p3
  have HQ := Lib.hid q2
  have HB := Lib.hid hb3
  have HBY := Lib.hid hby3
  have HBO := Lib.hid hbo
  have HW2 := Lib.hid hW2
  have hpk : w.heap.size < k1.heap.size := p2.lt
  have hpn : w.heap.size ≠ k1.heap.size := by omega
  have hz2 : k1.heap.size < W2.heap.size := q2.lt
  clear p1 p2 p3 q2 hb2 hb3 hby2 hby3 hbo h1 h2 ho1 hW2 HW1 HB1 HBY1 hop1
  have HN := Lib.hid hn
  have HNO := Lib.hid hno
  clear hn hno ho
  go_wp2_with fail
  rw [HW2.out]
  obtain ⟨bl, hbln⟩ : ∃ bl, b.length = bl := ⟨_, rfl⟩
  have hnu := rnumbers_any A2 c2 B b 3 W2 HBO.out (by omega) (by omega) (by omega)
  rw [hbln] at hnu
  simp only [hbln]
  refine hnu.mono ?_
  rintro e2 k2 ⟨h2, hx⟩
  rw [HN.out] at hx
  subst hx
  have p3 := HP.out.below h2
  have q3 := HQ.out.below h2
  have hb3 := HB.out.trans (h2.mono HB.out.size)
  have hby3 := HBY.out.below h2 (by omega)
  have x0 := q3.cell (j := 0) rfl
  have y0 := q3.frz 0
  have x1 := q3.cell (j := 1) rfl
  have y1 := q3.frz 1
  have x2 := q3.cell (j := 2) rfl
  have y2 := q3.frz 2
  have x3 := q3.cell (j := 3) rfl
  have y3 := q3.frz 3
  have x4 := q3.cell (j := 4) rfl
  have y4 := q3.frz 4
  have x5 := q3.cell (j := 5) rfl
  have y5 := q3.frz 5
  have x6 := q3.cell (j := 6) rfl
  have y6 := q3.frz 6
  have HP3 := Lib.hid p3
  have HQ3 := Lib.hid q3
  have HB3 := Lib.hid hb3
  have HBY3 := Lib.hid hby3
  clear p3 q3 hb3 hby3 h2 HP HQ HB HBY HBO hnu
  have p4 : Rt k2 w.heap.size 27 [.bool false, .int .i64 0, .int .i64 0, .int .i64 0, .int .i64 0, .int .i64 0, .string ⟨#[]⟩] := HP3.out
  have hb4 : Below w.heap.size w k2 := HB3.out
  clear HP3 HQ3 HB3 HBY3 x0 x1 x2 x3 x4 x5 x6 y0 y1 y2 y3 y4 y5 y6
  have x0 := p4.cell (j := 0) rfl
  have y0 := p4.frz 0
  have x1 := p4.cell (j := 1) rfl
  have y1 := p4.frz 1
  have x2 := p4.cell (j := 2) rfl
  have y2 := p4.frz 2
  have x3 := p4.cell (j := 3) rfl
  have y3 := p4.frz 3
  have x4 := p4.cell (j := 4) rfl
  have y4 := p4.frz 4
  have x5 := p4.cell (j := 5) rfl
  have y5 := p4.frz 5
  have x6 := p4.cell (j := 6) rfl
  have y6 := p4.frz 6
  go_wp2
  have hxs : Rt _ w.heap.size 27 [.bool false, .int .i64 0, .int .i64 0, .int .i64 0, .int .i64 0, .int .i64 0, .string ⟨#[]⟩] := (((((((p4.set 0 (.bool false)).set 1 (.int .i64 0)).set 2 (.int .i64 0)).set 3 (.int .i64 0)).set 4 (.int .i64 0)).set 5 (.int .i64 0)).set 6 (.string ⟨#[]⟩))
  have hbs := (below_set10 ((below_set10 ((below_set10 ((below_set10 ((below_set10 ((below_set10 ((below_set10 (hb4) 0 (g := w.heap.size) (.bool false) (by omega))) 1 (g := w.heap.size) (.int .i64 0) (by omega))) 2 (g := w.heap.size) (.int .i64 0) (by omega))) 3 (g := w.heap.size) (.int .i64 0) (by omega))) 4 (g := w.heap.size) (.int .i64 0) (by omega))) 5 (g := w.heap.size) (.int .i64 0) (by omega))) 6 (g := w.heap.size) (.string ⟨#[]⟩) (by omega))
  refine body_world10 (fun W => Below w.heap.size w W ∧ Rt W w.heap.size 27 [.bool false, .int .i64 0, .int .i64 0, .int .i64 0, .int .i64 0, .int .i64 0, .string ⟨#[]⟩]) ⟨hbs, hxs⟩ ?_
  clear hbs hxs
  rintro W ⟨hbs, hxs⟩
  have d0 := hxs.cell (j := 0) rfl
  have d1 := hxs.cell (j := 1) rfl
  have d2 := hxs.cell (j := 2) rfl
  have d3 := hxs.cell (j := 3) rfl
  have d4 := hxs.cell (j := 4) rfl
  have d5 := hxs.cell (j := 5) rfl
  have d6 := hxs.cell (j := 6) rfl
  refine bodyPost_ret (v := .tuple #[.agg #[.bool false, .int .i64 0, .int .i64 0, .int .i64 0, .int .i64 0, .int .i64 0, .string ⟨#[]⟩], .int .i64 0, .int .i64 3]) (by simp [results, Tryd.results23, go_sem, d0, d1, d2, d3, d4, d5, d6]) rfl ?_
  exact ⟨by rw [HNO.out]; rfl, hbs⟩
set_option maxHeartbeats 4000000 in
theorem rdec_ent_lo (A : Option Addr) (c B n : Nat) (b l : List UInt8) (w : World) (h : Byt w B (.slice A l.length c) l) (hB : B ≤ w.heap.size) (hl : l.length ≤ 1000000) (ho : openB l = (2, b, n, 0)) (i t d : Int) (rest : List UInt8) (hn : numsL 3 b = some ([i, t, d], rest)) (hd : d < 1) :
    Calls Tryd.prog 23 #[.slice A l.length c] w (GotQ10 (decR10 l) w) := by
  have hno := dec_ent_no ho (fun i2 t2 k2 r2 h => by rw [hn] at h; simp only [Option.some.injEq, Prod.mk.injEq, List.cons.injEq, and_true] at h; omega)
  have hbl : b.length ≤ 4000 := (openB_canon ho).2.2.2.2.2
  have hn1 : n ≤ l.length := (openB_canon ho).2.1
  have hn6 : 6 ≤ n := (openB_canon ho).2.2.1
  have hop := ropen_any A c B l
  rw [ho] at hop
  obtain ⟨W1, hW1⟩ : ∃ W1, w.alloc (.cells #[.bool false, .int .i64 0, .int .i64 0, .int .i64 0, .int .i64 0, .int .i64 0, .string ⟨#[]⟩] 27) = W1 := ⟨_, rfl⟩
  have hb1 : Below w.heap.size w W1 := by rw [← hW1]; exact below_new _ _
  have p1 : Rt W1 w.heap.size 27 [.bool false, .int .i64 0, .int .i64 0, .int .i64 0, .int .i64 0, .int .i64 0, .string ⟨#[]⟩] := by rw [← hW1]; exact Rt.new w _ _
  have hby1 := h.below hb1 hB
  have hop1 := hop W1 hby1 (Nat.le_trans hB hb1.size) hl
  have HW1 := Lib.hid hW1
  have HBY1 := Lib.hid hby1
  have HB1 := Lib.hid hb1
  obtain ⟨ln, hln⟩ : ∃ ln, l.length = ln := ⟨_, rfl⟩
  have HLN := Lib.hid hln
  rw [hln] at hop1 hn1 ⊢
  clear hop hW1 hby1 h hb1 hln hl
  go_enter Tryd.func23, Tryd.ntmps23
  go_wp2_with fail
  rw [HW1.out]
  refine hop1.mono ?_
  rintro e1 k1 ⟨v1, rfl, ho1, h1⟩
  have p2 := p1.below h1
  have hb2 := HB1.out.trans (h1.mono HB1.out.size)
  have hby2 := HBY1.out.below h1 (Nat.le_trans hB HB1.out.size)
  obtain ⟨A2, c2, rfl⟩ := byt_slice ho1
  obtain ⟨W2, hW2⟩ : ∃ W2, k1.alloc (.cells #[.bool false, .int .i64 0, .int .i64 0, .int .i64 0, .int .i64 0, .int .i64 0, .string ⟨#[]⟩] 27) = W2 := ⟨_, rfl⟩
  have h2 : Below k1.heap.size k1 W2 := by rw [← hW2]; exact below_new _ _
  have q2 : Rt W2 k1.heap.size 27 [.bool false, .int .i64 0, .int .i64 0, .int .i64 0, .int .i64 0, .int .i64 0, .string ⟨#[]⟩] := by rw [← hW2]; exact Rt.new k1 _ _
  have p3 := p2.below h2
  have hb3 := hb2.trans (h2.mono hb2.size)
  have hBk : B ≤ k1.heap.size := Nat.le_trans hB hb2.size
  have hby3 := hby2.below h2 hBk
  have hbo : Byt W2 B (.slice A2 b.length c2) b := ho1.below h2 hBk
  have HP := Lib.hid p3
  have HQ := Lib.hid q2
  have HB := Lib.hid hb3
  have HBY := Lib.hid hby3
  have HBO := Lib.hid hbo
  have HW2 := Lib.hid hW2
  have hpk : w.heap.size < k1.heap.size := p2.lt
  have hpn : w.heap.size ≠ k1.heap.size := by omega
  have hz2 : k1.heap.size < W2.heap.size := q2.lt
  clear p1 p2 p3 q2 hb2 hb3 hby2 hby3 hbo h1 h2 ho1 hW2 HW1 HB1 HBY1 hop1
  have HN := Lib.hid hn
  have HNO := Lib.hid hno
  clear hn hno ho
  go_wp2_with fail
  rw [HW2.out]
  obtain ⟨bl, hbln⟩ : ∃ bl, b.length = bl := ⟨_, rfl⟩
  have hnu := rnumbers_any A2 c2 B b 3 W2 HBO.out (by omega) (by omega) (by omega)
  rw [hbln] at hnu
  simp only [hbln]
  refine hnu.mono ?_
  rintro e2 k2 ⟨h2, hx⟩
  rw [HN.out] at hx
  obtain ⟨vv, A3, c3, rfl, hoi, hbr⟩ := hx
  obtain ⟨gi, ci, rfl, hci, hgi, hBi, hcs⟩ := ownI_at hoi (by simp)
  have i2 : k2.cell? ⟨gi, 2, none⟩ = some (.int .i64 d) := hcs 2 (by simp)
  obtain ⟨rl, hrl⟩ : ∃ rl, rest.length = rl := ⟨_, rfl⟩
  simp only [List.length_cons, List.length_nil, Nat.reduceAdd, hrl] at *
  clear hoi hbr hcs
  have p3 := HP.out.below h2
  have q3 := HQ.out.below h2
  have hb3 := HB.out.trans (h2.mono HB.out.size)
  have hby3 := HBY.out.below h2 (by omega)
  have x0 := q3.cell (j := 0) rfl
  have y0 := q3.frz 0
  have x1 := q3.cell (j := 1) rfl
  have y1 := q3.frz 1
  have x2 := q3.cell (j := 2) rfl
  have y2 := q3.frz 2
  have x3 := q3.cell (j := 3) rfl
  have y3 := q3.frz 3
  have x4 := q3.cell (j := 4) rfl
  have y4 := q3.frz 4
  have x5 := q3.cell (j := 5) rfl
  have y5 := q3.frz 5
  have x6 := q3.cell (j := 6) rfl
  have y6 := q3.frz 6
  have HP3 := Lib.hid p3
  have HQ3 := Lib.hid q3
  have HB3 := Lib.hid hb3
  have HBY3 := Lib.hid hby3
  clear p3 q3 hb3 hby3 h2 HP HQ HB HBY HBO hnu
  have hd2 : d < 1 := hd
  have p4 : Rt k2 w.heap.size 27 [.bool false, .int .i64 0, .int .i64 0, .int .i64 0, .int .i64 0, .int .i64 0, .string ⟨#[]⟩] := HP3.out
  have hb4 : Below w.heap.size w k2 := HB3.out
  clear HP3 HQ3 HB3 HBY3 x0 x1 x2 x3 x4 x5 x6 y0 y1 y2 y3 y4 y5 y6
  have x0 := p4.cell (j := 0) rfl
  have y0 := p4.frz 0
  have x1 := p4.cell (j := 1) rfl
  have y1 := p4.frz 1
  have x2 := p4.cell (j := 2) rfl
  have y2 := p4.frz 2
  have x3 := p4.cell (j := 3) rfl
  have y3 := p4.frz 3
  have x4 := p4.cell (j := 4) rfl
  have y4 := p4.frz 4
  have x5 := p4.cell (j := 5) rfl
  have y5 := p4.frz 5
  have x6 := p4.cell (j := 6) rfl
  have y6 := p4.frz 6
  go_wp2
  have hxs : Rt _ w.heap.size 27 [.bool false, .int .i64 0, .int .i64 0, .int .i64 0, .int .i64 0, .int .i64 0, .string ⟨#[]⟩] := (((((((p4.set 0 (.bool false)).set 1 (.int .i64 0)).set 2 (.int .i64 0)).set 3 (.int .i64 0)).set 4 (.int .i64 0)).set 5 (.int .i64 0)).set 6 (.string ⟨#[]⟩))
  have hbs := (below_set10 ((below_set10 ((below_set10 ((below_set10 ((below_set10 ((below_set10 ((below_set10 (hb4) 0 (g := w.heap.size) (.bool false) (by omega))) 1 (g := w.heap.size) (.int .i64 0) (by omega))) 2 (g := w.heap.size) (.int .i64 0) (by omega))) 3 (g := w.heap.size) (.int .i64 0) (by omega))) 4 (g := w.heap.size) (.int .i64 0) (by omega))) 5 (g := w.heap.size) (.int .i64 0) (by omega))) 6 (g := w.heap.size) (.string ⟨#[]⟩) (by omega))
  refine body_world10 (fun W => Below w.heap.size w W ∧ Rt W w.heap.size 27 [.bool false, .int .i64 0, .int .i64 0, .int .i64 0, .int .i64 0, .int .i64 0, .string ⟨#[]⟩]) ⟨hbs, hxs⟩ ?_
  clear hbs hxs
  rintro W ⟨hbs, hxs⟩
  have d0 := hxs.cell (j := 0) rfl
  have d1 := hxs.cell (j := 1) rfl
  have d2 := hxs.cell (j := 2) rfl
  have d3 := hxs.cell (j := 3) rfl
  have d4 := hxs.cell (j := 4) rfl
  have d5 := hxs.cell (j := 5) rfl
  have d6 := hxs.cell (j := 6) rfl
  refine bodyPost_ret (v := .tuple #[.agg #[.bool false, .int .i64 0, .int .i64 0, .int .i64 0, .int .i64 0, .int .i64 0, .string ⟨#[]⟩], .int .i64 0, .int .i64 3]) (by simp [results, Tryd.results23, go_sem, d0, d1, d2, d3, d4, d5, d6]) rfl ?_
  exact ⟨by rw [HNO.out]; rfl, hbs⟩
set_option maxHeartbeats 4000000 in
theorem rdec_ent_hi (A : Option Addr) (c B n : Nat) (b l : List UInt8) (w : World) (h : Byt w B (.slice A l.length c) l) (hB : B ≤ w.heap.size) (hl : l.length ≤ 1000000) (ho : openB l = (2, b, n, 0)) (i t d : Int) (rest : List UInt8) (hn : numsL 3 b = some ([i, t, d], rest)) (hd : 3 < d) :
    Calls Tryd.prog 23 #[.slice A l.length c] w (GotQ10 (decR10 l) w) := by
  have hno := dec_ent_no ho (fun i2 t2 k2 r2 h => by rw [hn] at h; simp only [Option.some.injEq, Prod.mk.injEq, List.cons.injEq, and_true] at h; omega)
  have hbl : b.length ≤ 4000 := (openB_canon ho).2.2.2.2.2
  have hn1 : n ≤ l.length := (openB_canon ho).2.1
  have hn6 : 6 ≤ n := (openB_canon ho).2.2.1
  have hop := ropen_any A c B l
  rw [ho] at hop
  obtain ⟨W1, hW1⟩ : ∃ W1, w.alloc (.cells #[.bool false, .int .i64 0, .int .i64 0, .int .i64 0, .int .i64 0, .int .i64 0, .string ⟨#[]⟩] 27) = W1 := ⟨_, rfl⟩
  have hb1 : Below w.heap.size w W1 := by rw [← hW1]; exact below_new _ _
  have p1 : Rt W1 w.heap.size 27 [.bool false, .int .i64 0, .int .i64 0, .int .i64 0, .int .i64 0, .int .i64 0, .string ⟨#[]⟩] := by rw [← hW1]; exact Rt.new w _ _
  have hby1 := h.below hb1 hB
  have hop1 := hop W1 hby1 (Nat.le_trans hB hb1.size) hl
  have HW1 := Lib.hid hW1
  have HBY1 := Lib.hid hby1
  have HB1 := Lib.hid hb1
  obtain ⟨ln, hln⟩ : ∃ ln, l.length = ln := ⟨_, rfl⟩
  have HLN := Lib.hid hln
  rw [hln] at hop1 hn1 ⊢
  clear hop hW1 hby1 h hb1 hln hl
  go_enter Tryd.func23, Tryd.ntmps23
  go_wp2_with fail
  rw [HW1.out]
  refine hop1.mono ?_
  rintro e1 k1 ⟨v1, rfl, ho1, h1⟩
  have p2 := p1.below h1
  have hb2 := HB1.out.trans (h1.mono HB1.out.size)
  have hby2 := HBY1.out.below h1 (Nat.le_trans hB HB1.out.size)
  obtain ⟨A2, c2, rfl⟩ := byt_slice ho1
  obtain ⟨W2, hW2⟩ : ∃ W2, k1.alloc (.cells #[.bool false, .int .i64 0, .int .i64 0, .int .i64 0, .int .i64 0, .int .i64 0, .string ⟨#[]⟩] 27) = W2 := ⟨_, rfl⟩
  have h2 : Below k1.heap.size k1 W2 := by rw [← hW2]; exact below_new _ _
  have q2 : Rt W2 k1.heap.size 27 [.bool false, .int .i64 0, .int .i64 0, .int .i64 0, .int .i64 0, .int .i64 0, .string ⟨#[]⟩] := by rw [← hW2]; exact Rt.new k1 _ _
  have p3 := p2.below h2
  have hb3 := hb2.trans (h2.mono hb2.size)
  have hBk : B ≤ k1.heap.size := Nat.le_trans hB hb2.size
  have hby3 := hby2.below h2 hBk
  have hbo : Byt W2 B (.slice A2 b.length c2) b := ho1.below h2 hBk
  have HP := Lib.hid p3
  have HQ := Lib.hid q2
  have HB := Lib.hid hb3
  have HBY := Lib.hid hby3
  have HBO := Lib.hid hbo
  have HW2 := Lib.hid hW2
  have hpk : w.heap.size < k1.heap.size := p2.lt
  have hpn : w.heap.size ≠ k1.heap.size := by omega
  have hz2 : k1.heap.size < W2.heap.size := q2.lt
  clear p1 p2 p3 q2 hb2 hb3 hby2 hby3 hbo h1 h2 ho1 hW2 HW1 HB1 HBY1 hop1
  have HN := Lib.hid hn
  have HNO := Lib.hid hno
  clear hn hno ho
  go_wp2_with fail
  rw [HW2.out]
  obtain ⟨bl, hbln⟩ : ∃ bl, b.length = bl := ⟨_, rfl⟩
  have hnu := rnumbers_any A2 c2 B b 3 W2 HBO.out (by omega) (by omega) (by omega)
  rw [hbln] at hnu
  simp only [hbln]
  refine hnu.mono ?_
  rintro e2 k2 ⟨h2, hx⟩
  rw [HN.out] at hx
  obtain ⟨vv, A3, c3, rfl, hoi, hbr⟩ := hx
  obtain ⟨gi, ci, rfl, hci, hgi, hBi, hcs⟩ := ownI_at hoi (by simp)
  have i2 : k2.cell? ⟨gi, 2, none⟩ = some (.int .i64 d) := hcs 2 (by simp)
  obtain ⟨rl, hrl⟩ : ∃ rl, rest.length = rl := ⟨_, rfl⟩
  simp only [List.length_cons, List.length_nil, Nat.reduceAdd, hrl] at *
  clear hoi hbr hcs
  have p3 := HP.out.below h2
  have q3 := HQ.out.below h2
  have hb3 := HB.out.trans (h2.mono HB.out.size)
  have hby3 := HBY.out.below h2 (by omega)
  have x0 := q3.cell (j := 0) rfl
  have y0 := q3.frz 0
  have x1 := q3.cell (j := 1) rfl
  have y1 := q3.frz 1
  have x2 := q3.cell (j := 2) rfl
  have y2 := q3.frz 2
  have x3 := q3.cell (j := 3) rfl
  have y3 := q3.frz 3
  have x4 := q3.cell (j := 4) rfl
  have y4 := q3.frz 4
  have x5 := q3.cell (j := 5) rfl
  have y5 := q3.frz 5
  have x6 := q3.cell (j := 6) rfl
  have y6 := q3.frz 6
  have HP3 := Lib.hid p3
  have HQ3 := Lib.hid q3
  have HB3 := Lib.hid hb3
  have HBY3 := Lib.hid hby3
  clear p3 q3 hb3 hby3 h2 HP HQ HB HBY HBO hnu
  have hd2 : ¬ d < 1 := by omega
  have hd3 : 1 ≤ d := by omega
  have p4 : Rt k2 w.heap.size 27 [.bool false, .int .i64 0, .int .i64 0, .int .i64 0, .int .i64 0, .int .i64 0, .string ⟨#[]⟩] := HP3.out
  have hb4 : Below w.heap.size w k2 := HB3.out
  clear HP3 HQ3 HB3 HBY3 x0 x1 x2 x3 x4 x5 x6 y0 y1 y2 y3 y4 y5 y6
  have x0 := p4.cell (j := 0) rfl
  have y0 := p4.frz 0
  have x1 := p4.cell (j := 1) rfl
  have y1 := p4.frz 1
  have x2 := p4.cell (j := 2) rfl
  have y2 := p4.frz 2
  have x3 := p4.cell (j := 3) rfl
  have y3 := p4.frz 3
  have x4 := p4.cell (j := 4) rfl
  have y4 := p4.frz 4
  have x5 := p4.cell (j := 5) rfl
  have y5 := p4.frz 5
  have x6 := p4.cell (j := 6) rfl
  have y6 := p4.frz 6
  go_wp2
  have hxs : Rt _ w.heap.size 27 [.bool false, .int .i64 0, .int .i64 0, .int .i64 0, .int .i64 0, .int .i64 0, .string ⟨#[]⟩] := (((((((p4.set 0 (.bool false)).set 1 (.int .i64 0)).set 2 (.int .i64 0)).set 3 (.int .i64 0)).set 4 (.int .i64 0)).set 5 (.int .i64 0)).set 6 (.string ⟨#[]⟩))
  have hbs := (below_set10 ((below_set10 ((below_set10 ((below_set10 ((below_set10 ((below_set10 ((below_set10 (hb4) 0 (g := w.heap.size) (.bool false) (by omega))) 1 (g := w.heap.size) (.int .i64 0) (by omega))) 2 (g := w.heap.size) (.int .i64 0) (by omega))) 3 (g := w.heap.size) (.int .i64 0) (by omega))) 4 (g := w.heap.size) (.int .i64 0) (by omega))) 5 (g := w.heap.size) (.int .i64 0) (by omega))) 6 (g := w.heap.size) (.string ⟨#[]⟩) (by omega))
  refine body_world10 (fun W => Below w.heap.size w W ∧ Rt W w.heap.size 27 [.bool false, .int .i64 0, .int .i64 0, .int .i64 0, .int .i64 0, .int .i64 0, .string ⟨#[]⟩]) ⟨hbs, hxs⟩ ?_
  clear hbs hxs
  rintro W ⟨hbs, hxs⟩
  have d0 := hxs.cell (j := 0) rfl
  have d1 := hxs.cell (j := 1) rfl
  have d2 := hxs.cell (j := 2) rfl
  have d3 := hxs.cell (j := 3) rfl
  have d4 := hxs.cell (j := 4) rfl
  have d5 := hxs.cell (j := 5) rfl
  have d6 := hxs.cell (j := 6) rfl
  refine bodyPost_ret (v := .tuple #[.agg #[.bool false, .int .i64 0, .int .i64 0, .int .i64 0, .int .i64 0, .int .i64 0, .string ⟨#[]⟩], .int .i64 0, .int .i64 3]) (by simp [results, Tryd.results23, go_sem, d0, d1, d2, d3, d4, d5, d6]) rfl ?_
  exact ⟨by rw [HNO.out]; rfl, hbs⟩
end Go.Proofs.YtdigpeipklfaeaaDoor
/-
  The reference's Decode of a record answers what the plain function says: further ways.
  The bytes are there in memory, at most 1,000,000.
-/
set_option linter.unusedSimpArgs false
set_option linter.unusedVariables false
namespace Go.Proofs.YtdigpeipklfaeaaDoor
open Go.RowKit
set_option maxRecDepth 100000

set_option maxHeartbeats 4000000 in
theorem rdec_ent_text (A : Option Addr) (c B n : Nat) (b l : List UInt8) (w : World) (h : Byt w B (.slice A l.length c) l) (hB : B ≤ w.heap.size) (hl : l.length ≤ 1000000) (ho : openB l = (2, b, n, 0)) (i t d : Int) (rest : List UInt8) (hn : numsL 3 b = some ([i, t, d], rest)) (hd0 : 1 ≤ d) (hd1 : d ≤ 3) (s : List UInt8) (m e : Nat) (hg : Nu.getT rest = (s, m, e)) (he : e ≠ 0) :
    Calls Tryd.prog 23 #[.slice A l.length c] w (GotQ10 (decR10 l) w) := by
  have hno := dec_ent_no ho (fun i2 t2 k2 r2 h => by rw [hn] at h; simp only [Option.some.injEq, Prod.mk.injEq, List.cons.injEq, and_true] at h; obtain ⟨_, rfl⟩ := h; rw [hg]; exact .inr (.inr he))
  have he2 : ((e : Int) == 0) = false := by rw [beq_eq_false_iff_ne]; omega
  have he3 : ¬ (e : Int) = 0 := by omega
  have hrl4 : rest.length ≤ 4000 := by
    have hb4 := (openB_canon ho).2.2.2.2.2
    obtain ⟨a1, a2, a3, _, e2, _⟩ := nums3_is hn
    have := congrArg List.length e2
    simp only [List.length_append] at this
    omega
  have hbl : b.length ≤ 4000 := (openB_canon ho).2.2.2.2.2
  have hn1 : n ≤ l.length := (openB_canon ho).2.1
  have hn6 : 6 ≤ n := (openB_canon ho).2.2.1
  have hop := ropen_any A c B l
  rw [ho] at hop
  obtain ⟨W1, hW1⟩ : ∃ W1, w.alloc (.cells #[.bool false, .int .i64 0, .int .i64 0, .int .i64 0, .int .i64 0, .int .i64 0, .string ⟨#[]⟩] 27) = W1 := ⟨_, rfl⟩
  have hb1 : Below w.heap.size w W1 := by rw [← hW1]; exact below_new _ _
  have p1 : Rt W1 w.heap.size 27 [.bool false, .int .i64 0, .int .i64 0, .int .i64 0, .int .i64 0, .int .i64 0, .string ⟨#[]⟩] := by rw [← hW1]; exact Rt.new w _ _
  have hby1 := h.below hb1 hB
  have hop1 := hop W1 hby1 (Nat.le_trans hB hb1.size) hl
  have HW1 := Lib.hid hW1
  have HBY1 := Lib.hid hby1
  have HB1 := Lib.hid hb1
  obtain ⟨ln, hln⟩ : ∃ ln, l.length = ln := ⟨_, rfl⟩
  have HLN := Lib.hid hln
  rw [hln] at hop1 hn1 ⊢
  clear hop hW1 hby1 h hb1 hln hl
  go_enter Tryd.func23, Tryd.ntmps23
  go_wp2_with fail
  rw [HW1.out]
  refine hop1.mono ?_
  rintro e1 k1 ⟨v1, rfl, ho1, h1⟩
  have p2 := p1.below h1
  have hb2 := HB1.out.trans (h1.mono HB1.out.size)
  have hby2 := HBY1.out.below h1 (Nat.le_trans hB HB1.out.size)
  obtain ⟨A2, c2, rfl⟩ := byt_slice ho1
  obtain ⟨W2, hW2⟩ : ∃ W2, k1.alloc (.cells #[.bool false, .int .i64 0, .int .i64 0, .int .i64 0, .int .i64 0, .int .i64 0, .string ⟨#[]⟩] 27) = W2 := ⟨_, rfl⟩
  have h2 : Below k1.heap.size k1 W2 := by rw [← hW2]; exact below_new _ _
  have q2 : Rt W2 k1.heap.size 27 [.bool false, .int .i64 0, .int .i64 0, .int .i64 0, .int .i64 0, .int .i64 0, .string ⟨#[]⟩] := by rw [← hW2]; exact Rt.new k1 _ _
  have p3 := p2.below h2
  have hb3 := hb2.trans (h2.mono hb2.size)
  have hBk : B ≤ k1.heap.size := Nat.le_trans hB hb2.size
  have hby3 := hby2.below h2 hBk
  have hbo : Byt W2 B (.slice A2 b.length c2) b := ho1.below h2 hBk
  have HP := Lib.hid p3
  have HQ := Lib.hid q2
  have HB := Lib.hid hb3
  have HBY := Lib.hid hby3
  have HBO := Lib.hid hbo
  have HW2 := Lib.hid hW2
  have hpk : w.heap.size < k1.heap.size := p2.lt
  have hpn : w.heap.size ≠ k1.heap.size := by omega
  have hz2 : k1.heap.size < W2.heap.size := q2.lt
  clear p1 p2 p3 q2 hb2 hb3 hby2 hby3 hbo h1 h2 ho1 hW2 HW1 HB1 HBY1 hop1
  have HN := Lib.hid hn
  have HG := Lib.hid hg
  have HNO := Lib.hid hno
  clear hn hno ho hg
  go_wp2_with fail
  rw [HW2.out]
  obtain ⟨bl, hbln⟩ : ∃ bl, b.length = bl := ⟨_, rfl⟩
  have hnu := rnumbers_any A2 c2 B b 3 W2 HBO.out (by omega) (by omega) (by omega)
  rw [hbln] at hnu
  simp only [hbln]
  refine hnu.mono ?_
  rintro e2 k2 ⟨h2, hx⟩
  rw [HN.out] at hx
  obtain ⟨vv, A3, c3, rfl, hoi, hbr⟩ := hx
  obtain ⟨gi, ci, rfl, hci, hgi, hBi, hcs⟩ := ownI_at hoi (by simp)
  have i0 : k2.cell? ⟨gi, 0, none⟩ = some (.int .i64 i) := hcs 0 (by simp)
  have i1 : k2.cell? ⟨gi, 1, none⟩ = some (.int .i64 t) := hcs 1 (by simp)
  have i2 : k2.cell? ⟨gi, 2, none⟩ = some (.int .i64 d) := hcs 2 (by simp)
  have hgk : k1.heap.size < gi := by omega
  have hgt := rgetText_any A3 c3 _ rest k2 hbr (by omega)
  rw [HG.out] at hgt
  obtain ⟨rl, hrl⟩ : ∃ rl, rest.length = rl := ⟨_, rfl⟩
  rw [hrl] at hgt
  simp only [List.length_cons, List.length_nil, Nat.reduceAdd, hrl] at *
  clear hoi hbr hcs
  have p3 := HP.out.below h2
  have q3 := HQ.out.below h2
  have hb3 := HB.out.trans (h2.mono HB.out.size)
  have hby3 := HBY.out.below h2 (by omega)
  have x0 := q3.cell (j := 0) rfl
  have y0 := q3.frz 0
  have x1 := q3.cell (j := 1) rfl
  have y1 := q3.frz 1
  have x2 := q3.cell (j := 2) rfl
  have y2 := q3.frz 2
  have x3 := q3.cell (j := 3) rfl
  have y3 := q3.frz 3
  have x4 := q3.cell (j := 4) rfl
  have y4 := q3.frz 4
  have x5 := q3.cell (j := 5) rfl
  have y5 := q3.frz 5
  have x6 := q3.cell (j := 6) rfl
  have y6 := q3.frz 6
  have HP3 := Lib.hid p3
  have HQ3 := Lib.hid q3
  have HB3 := Lib.hid hb3
  have HBY3 := Lib.hid hby3
  clear p3 q3 hb3 hby3 h2 HP HQ HB HBY HBO hnu
  have hd2 : ¬ d < 1 := by omega
  have hd3 : ¬ 3 < d := by omega
  have HGT := Lib.hid hgt
  clear hgt
  go_wp2_with fail
  refine HGT.out.mono ?_
  rintro e5 k9 ⟨rfl, rfl⟩
  go_wp2_with fail
  have p4 : Rt k2 w.heap.size 27 [.bool false, .int .i64 0, .int .i64 0, .int .i64 0, .int .i64 0, .int .i64 0, .string ⟨#[]⟩] := HP3.out
  have q4 : Rt k2 k1.heap.size 27 [.bool false, .int .i64 0, .int .i64 0, .int .i64 0, .int .i64 0, .int .i64 0, .string ⟨#[]⟩] := HQ3.out
  have hb4 : Below w.heap.size w k2 := HB3.out
  have hby4 : Byt k2 B (.slice A ln c) l := by have := HBY3.out; rw [HLN.out] at this; exact this
  clear HP3 HQ3 HB3 HBY3
  obtain ⟨A', c', hv', hcl, hbc⟩ := id hby4
  injection hv' with e1 e2 e3
  subst e1; subst e3
  obtain ⟨gb, ob, rfl, hgb, hbcs⟩ := hbc (by have := HLN.out; omega)
  have hcut : n ≤ ln := hn1
  have hnc : n ≤ c := by omega
  have hmay := fun W => rmay10_any zRcd W (Nat.zero_le _)
  obtain ⟨y, hy⟩ : ∃ y, may10 zRcd = y := ⟨_, rfl⟩
  rw [hy] at hmay
  have hk4 : k1.heap.size < k2.heap.size := q4.lt
  replace q4 : Rt k2.drew k1.heap.size 27 [.bool false, .int .i64 0, .int .i64 0, .int .i64 0, .int .i64 0, .int .i64 0, .string ⟨#[]⟩] := q4
  replace p4 : Rt k2.drew w.heap.size 27 [.bool false, .int .i64 0, .int .i64 0, .int .i64 0, .int .i64 0, .int .i64 0, .string ⟨#[]⟩] := p4
  replace hby4 : Byt k2.drew B (.slice (some ⟨gb, ob, none⟩) ln c) l := hby4
  replace hb4 : Below w.heap.size w k2.drew := hb4.drew
  replace hk4 : k1.heap.size < k2.drew.heap.size := hk4
  clear hbc hbcs
  refine wp_region_noPanic ?_
  refine wp_region_held_drew (S := fun W => W.cell? ⟨k1.heap.size, 0, none⟩ = some (.bool false) ∧ W.cell? ⟨k1.heap.size, 1, none⟩ = some (.int .i64 0) ∧ W.cell? ⟨k1.heap.size, 2, none⟩ = some (.int .i64 0) ∧ W.cell? ⟨k1.heap.size, 3, none⟩ = some (.int .i64 0) ∧ W.cell? ⟨k1.heap.size, 4, none⟩ = some (.int .i64 0) ∧ W.cell? ⟨k1.heap.size, 5, none⟩ = some (.int .i64 0) ∧ W.cell? ⟨k1.heap.size, 6, none⟩ = some (.string ⟨#[]⟩) ∧ Byt W B (.slice (some ⟨gb, ob, none⟩) ln c) l) (by kernel_rfl) ?_ (fun hHeld => ?_)
  · exact ⟨q4.cell (j := 0) rfl, q4.cell (j := 1) rfl, q4.cell (j := 2) rfl, q4.cell (j := 3) rfl, q4.cell (j := 4) rfl, q4.cell (j := 5) rfl, q4.cell (j := 6) rfl, hby4⟩
  generalize k2.drew = k5 at *
  obtain rfl : y = false := hy.symm.trans (by decide)
  refine wpAnyH_take (i := 0) (oi := { dst := some 108, op := Op.load 27 (Operand.tmp 9), type := 27, pos := "ref.go:220", after := #[], guard := none }) (v := .agg #[.bool false, .int .i64 0, .int .i64 0, .int .i64 0, .int .i64 0, .int .i64 0, .string ⟨#[]⟩]) rfl (by kernel_rfl) (by kernel_rfl) (by kernel_rfl) (fun _ _ _ h => h) (Or.inl ⟨by rfl, fun w hSw => ?_⟩) (by assumption) ?_
  · (try dsimp only at hSw)
    go_simp
  try simp only [Act.put, List.setIfInBounds_toArray, List.set_cons_zero, List.set_cons_succ]
  refine wpAnyH_ready (rs := [1]) (by kernel_rfl) (by simp) ?_
  refine AllReadyH.cons (o := { dst := some 109, op := Op.call { callee := Callee.value (Operand.func 14), args := #[Operand.tmp 108], argTypes := #[27] }, type := 4, pos := "ref.go:220", after := #[{ on := 0, ground := Ground.data }], guard := none }) rfl (fun K hK => ?_) AllReadyH.nil
  go_simp
  go_at_call 14
  refine (hmay _).mono ?_
  rintro e6 k6 ⟨rfl, h6⟩
  replace q4 := q4.below h6
  replace p4 := p4.below h6
  replace hby4 := hby4.below h6 (by omega)
  replace hb4 := hb4.trans (h6.mono hb4.size)
  have hk6 : k1.heap.size < k6.heap.size := Nat.lt_of_lt_of_le hk4 h6.size
  clear h6
  refine hK.out _ _ ?_ (fun hHeld => ?_)
  · exact ⟨q4.cell (j := 0) rfl, q4.cell (j := 1) rfl, q4.cell (j := 2) rfl, q4.cell (j := 3) rfl, q4.cell (j := 4) rfl, q4.cell (j := 5) rfl, q4.cell (j := 6) rfl, hby4⟩
  clear hK K
  try simp only [Act.put, List.setIfInBounds_toArray, List.set_cons_zero, List.set_cons_succ]
  refine wpAnyH_take (i := 2) (oi := { dst := some 110, op := Op.unOp UnOp.not 4 (Operand.tmp 109), type := 4, pos := "ref.go:220", after := #[{ on := 1, ground := Ground.data }], guard := none }) (v := .bool true) rfl (by kernel_rfl) (by kernel_rfl) (by kernel_rfl) (fun _ _ _ h => h) (Or.inl ⟨by rfl, fun w hSw => ?_⟩) (by assumption) ?_
  · (try dsimp only at hSw)
    go_simp
  try simp only [Act.put, List.setIfInBounds_toArray, List.set_cons_zero, List.set_cons_succ]
  refine wpAnyH_take (i := 3) (oi := { dst := some 111, op := Op.move (Operand.tmp 110), type := 4, pos := "ref.go:220", after := #[{ on := 2, ground := Ground.data }, { on := 1, ground := Ground.chain }], guard := none }) (v := .bool true) rfl (by kernel_rfl) (by kernel_rfl) (by kernel_rfl) (fun _ _ _ h => h) (Or.inl ⟨by rfl, fun w hSw => ?_⟩) (by assumption) ?_
  · (try dsimp only at hSw)
    go_simp
  try simp only [Act.put, List.setIfInBounds_toArray, List.set_cons_zero, List.set_cons_succ]
  refine wpAnyH_take (i := 4) (oi := { dst := some 112, op := Op.load 27 (Operand.tmp 9), type := 27, pos := "ref.go:220", after := #[{ on := 3, ground := Ground.guard }], guard := some (3, false) }) (v := undef) rfl (by kernel_rfl) (by kernel_rfl) (by kernel_rfl) (fun _ _ _ h => h) (Or.inr ⟨by rfl, rfl⟩) (by assumption) ?_
  try simp only [Act.put, List.setIfInBounds_toArray, List.set_cons_zero, List.set_cons_succ]
  refine wpAnyH_take (i := 5) (oi := { dst := some 113, op := Op.call { callee := Callee.value (Operand.func 16), args := #[Operand.tmp 112], argTypes := #[27] }, type := 30, pos := "ref.go:220", after := #[{ on := 4, ground := Ground.data }, { on := 3, ground := Ground.chain }, { on := 3, ground := Ground.guard }], guard := some (3, false) }) (v := undef) rfl (by kernel_rfl) (by kernel_rfl) (by kernel_rfl) (fun _ _ _ h => h) (Or.inr ⟨by rfl, rfl⟩) (by assumption) ?_
  try simp only [Act.put, List.setIfInBounds_toArray, List.set_cons_zero, List.set_cons_succ]
  refine wpAnyH_take (i := 6) (oi := { dst := some 114, op := Op.convert 30 9 (Operand.tmp 113), type := 9, pos := "ref.go:220", after := #[{ on := 5, ground := Ground.data }, { on := 3, ground := Ground.guard }], guard := some (3, false) }) (v := undef) rfl (by kernel_rfl) (by kernel_rfl) (by kernel_rfl) (fun _ _ _ h => h) (Or.inr ⟨by rfl, rfl⟩) (by assumption) ?_
  try simp only [Act.put, List.setIfInBounds_toArray, List.set_cons_zero, List.set_cons_succ]
  refine wpAnyH_take (i := 7) (oi := { dst := some 115, op := Op.move (Operand.tmp 0), type := 30, pos := "ref.go:220", after := #[{ on := 3, ground := Ground.guard }], guard := some (3, false) }) (v := undef) rfl (by kernel_rfl) (by kernel_rfl) (by kernel_rfl) (fun _ _ _ h => h) (Or.inr ⟨by rfl, rfl⟩) (by assumption) ?_
  try simp only [Act.put, List.setIfInBounds_toArray, List.set_cons_zero, List.set_cons_succ]
  refine wpAnyH_take (i := 8) (oi := { dst := some 116, op := Op.move (Operand.tmp 7), type := 3, pos := "ref.go:220", after := #[{ on := 3, ground := Ground.guard }], guard := some (3, false) }) (v := undef) rfl (by kernel_rfl) (by kernel_rfl) (by kernel_rfl) (fun _ _ _ h => h) (Or.inr ⟨by rfl, rfl⟩) (by assumption) ?_
  try simp only [Act.put, List.setIfInBounds_toArray, List.set_cons_zero, List.set_cons_succ]
  refine wpAnyH_take (i := 9) (oi := { dst := some 117, op := Op.slice 30 (Operand.tmp 115) none (some (Operand.tmp 116)) none, type := 30, pos := "ref.go:220", after := #[{ on := 7, ground := Ground.data }, { on := 8, ground := Ground.data }, { on := 3, ground := Ground.guard }], guard := some (3, false) }) (v := undef) rfl (by kernel_rfl) (by kernel_rfl) (by kernel_rfl) (fun _ _ _ h => h) (Or.inr ⟨by rfl, rfl⟩) (by assumption) ?_
  try simp only [Act.put, List.setIfInBounds_toArray, List.set_cons_zero, List.set_cons_succ]
  refine wpAnyH_take (i := 10) (oi := { dst := some 118, op := Op.convert 30 9 (Operand.tmp 117), type := 9, pos := "ref.go:220", after := #[{ on := 9, ground := Ground.data }, { on := 3, ground := Ground.guard }], guard := some (3, false) }) (v := undef) rfl (by kernel_rfl) (by kernel_rfl) (by kernel_rfl) (fun _ _ _ h => h) (Or.inr ⟨by rfl, rfl⟩) (by assumption) ?_
  try simp only [Act.put, List.setIfInBounds_toArray, List.set_cons_zero, List.set_cons_succ]
  refine wpAnyH_take (i := 11) (oi := { dst := some 119, op := Op.binOp BinOp.neq 9 (Operand.tmp 114) (Operand.tmp 118) 9, type := 4, pos := "ref.go:220", after := #[{ on := 6, ground := Ground.data }, { on := 10, ground := Ground.data }, { on := 3, ground := Ground.guard }], guard := some (3, false) }) (v := undef) rfl (by kernel_rfl) (by kernel_rfl) (by kernel_rfl) (fun _ _ _ h => h) (Or.inr ⟨by rfl, rfl⟩) (by assumption) ?_
  try simp only [Act.put, List.setIfInBounds_toArray, List.set_cons_zero, List.set_cons_succ]
  refine wpAnyH_take (i := 12) (oi := { dst := some 120, op := Op.pick (Operand.tmp 111) (Operand.const (Value.bool true)) (Operand.tmp 119), type := 4, pos := "ref.go:220", after := #[{ on := 3, ground := Ground.data }, { on := 11, ground := Ground.data }], guard := none }) (v := .bool true) rfl (by kernel_rfl) (by kernel_rfl) (by kernel_rfl) (fun _ _ _ h => h) (Or.inl ⟨by rfl, fun w hSw => ?_⟩) (by assumption) ?_
  · (try dsimp only at hSw)
    go_simp
  try simp only [Act.put, List.setIfInBounds_toArray, List.set_cons_zero, List.set_cons_succ]
  refine wpAnyH_done (by kernel_rfl) ?_ _
  refine NoPanic.normal ?_
  have x0 := p4.cell (j := 0) rfl
  have y0 := p4.frz 0
  have x1 := p4.cell (j := 1) rfl
  have y1 := p4.frz 1
  have x2 := p4.cell (j := 2) rfl
  have y2 := p4.frz 2
  have x3 := p4.cell (j := 3) rfl
  have y3 := p4.frz 3
  have x4 := p4.cell (j := 4) rfl
  have y4 := p4.frz 4
  have x5 := p4.cell (j := 5) rfl
  have y5 := p4.frz 5
  have x6 := p4.cell (j := 6) rfl
  have y6 := p4.frz 6
  go_wp2
  have hxs : Rt _ w.heap.size 27 [.bool false, .int .i64 0, .int .i64 0, .int .i64 0, .int .i64 0, .int .i64 0, .string ⟨#[]⟩] := (((((((p4.set 0 (.bool false)).set 1 (.int .i64 0)).set 2 (.int .i64 0)).set 3 (.int .i64 0)).set 4 (.int .i64 0)).set 5 (.int .i64 0)).set 6 (.string ⟨#[]⟩))
  have hbs := (below_set10 ((below_set10 ((below_set10 ((below_set10 ((below_set10 ((below_set10 ((below_set10 (hb4) 0 (g := w.heap.size) (.bool false) (by omega))) 1 (g := w.heap.size) (.int .i64 0) (by omega))) 2 (g := w.heap.size) (.int .i64 0) (by omega))) 3 (g := w.heap.size) (.int .i64 0) (by omega))) 4 (g := w.heap.size) (.int .i64 0) (by omega))) 5 (g := w.heap.size) (.int .i64 0) (by omega))) 6 (g := w.heap.size) (.string ⟨#[]⟩) (by omega))
  refine body_world10 (fun W => Below w.heap.size w W ∧ Rt W w.heap.size 27 [.bool false, .int .i64 0, .int .i64 0, .int .i64 0, .int .i64 0, .int .i64 0, .string ⟨#[]⟩]) ⟨hbs, hxs⟩ ?_
  clear hbs hxs
  rintro W ⟨hbs, hxs⟩
  have d0 := hxs.cell (j := 0) rfl
  have d1 := hxs.cell (j := 1) rfl
  have d2 := hxs.cell (j := 2) rfl
  have d3 := hxs.cell (j := 3) rfl
  have d4 := hxs.cell (j := 4) rfl
  have d5 := hxs.cell (j := 5) rfl
  have d6 := hxs.cell (j := 6) rfl
  refine bodyPost_ret (v := .tuple #[.agg #[.bool false, .int .i64 0, .int .i64 0, .int .i64 0, .int .i64 0, .int .i64 0, .string ⟨#[]⟩], .int .i64 0, .int .i64 3]) (by simp [results, Tryd.results23, go_sem, d0, d1, d2, d3, d4, d5, d6]) rfl ?_
  exact ⟨by rw [HNO.out]; rfl, hbs⟩
end Go.Proofs.YtdigpeipklfaeaaDoor
/-
  The reference's Decode of a record answers what the plain function says: further ways.
  The bytes are there in memory, at most 1,000,000.
-/
set_option linter.unusedSimpArgs false
set_option linter.unusedVariables false
namespace Go.Proofs.YtdigpeipklfaeaaDoor
open Go.RowKit
set_option maxRecDepth 100000

set_option maxHeartbeats 4000000 in
theorem rdec_ent_yes (A : Option Addr) (c B n : Nat) (b l : List UInt8) (w : World) (h : Byt w B (.slice A l.length c) l) (hB : B ≤ w.heap.size) (hl : l.length ≤ 1000000) (ho : openB l = (2, b, n, 0)) (i t d : Int) (rest : List UInt8) (hn : numsL 3 b = some ([i, t, d], rest)) (hd0 : 1 ≤ d) (hd1 : d ≤ 3) (dt : ByteArray) (m : Nat) (hg : Nu.getT rest = (dt.data.toList, m, 0)) :
    Calls Tryd.prog 23 #[.slice A l.length c] w (GotQ10 (decR10 l) w) := by
  have hyes := dec_ent_yes ho hn hg
  have hds : dt.size ≤ 1048576 := by rw [← size_list10]; exact (Nu.getT_canon rest _ _ hg).2.2
  have hrl4 : rest.length ≤ 4000 := by
    have hb4 := (openB_canon ho).2.2.2.2.2
    obtain ⟨a1, a2, a3, _, e2, _⟩ := nums3_is hn
    have := congrArg List.length e2
    simp only [List.length_append] at this
    omega
  have hds4 : dt.size ≤ 1000000 := by
    have := congrArg List.length (Nu.getT_canon rest _ _ hg).1
    unfold Nu.putT at this
    simp only [List.length_append, size_list10] at this
    omega
  have hbl : b.length ≤ 4000 := (openB_canon ho).2.2.2.2.2
  have hn1 : n ≤ l.length := (openB_canon ho).2.1
  have hn6 : 6 ≤ n := (openB_canon ho).2.2.1
  have hop := ropen_any A c B l
  rw [ho] at hop
  obtain ⟨W1, hW1⟩ : ∃ W1, w.alloc (.cells #[.bool false, .int .i64 0, .int .i64 0, .int .i64 0, .int .i64 0, .int .i64 0, .string ⟨#[]⟩] 27) = W1 := ⟨_, rfl⟩
  have hb1 : Below w.heap.size w W1 := by rw [← hW1]; exact below_new _ _
  have p1 : Rt W1 w.heap.size 27 [.bool false, .int .i64 0, .int .i64 0, .int .i64 0, .int .i64 0, .int .i64 0, .string ⟨#[]⟩] := by rw [← hW1]; exact Rt.new w _ _
  have hby1 := h.below hb1 hB
  have hop1 := hop W1 hby1 (Nat.le_trans hB hb1.size) hl
  have HW1 := Lib.hid hW1
  have HBY1 := Lib.hid hby1
  have HB1 := Lib.hid hb1
  obtain ⟨ln, hln⟩ : ∃ ln, l.length = ln := ⟨_, rfl⟩
  have HLN := Lib.hid hln
  rw [hln] at hop1 hn1 ⊢
  clear hop hW1 hby1 h hb1 hln hl
  go_enter Tryd.func23, Tryd.ntmps23
  go_wp2_with fail
  rw [HW1.out]
  refine hop1.mono ?_
  rintro e1 k1 ⟨v1, rfl, ho1, h1⟩
  have p2 := p1.below h1
  have hb2 := HB1.out.trans (h1.mono HB1.out.size)
  have hby2 := HBY1.out.below h1 (Nat.le_trans hB HB1.out.size)
  obtain ⟨A2, c2, rfl⟩ := byt_slice ho1
  obtain ⟨W2, hW2⟩ : ∃ W2, k1.alloc (.cells #[.bool false, .int .i64 0, .int .i64 0, .int .i64 0, .int .i64 0, .int .i64 0, .string ⟨#[]⟩] 27) = W2 := ⟨_, rfl⟩
  have h2 : Below k1.heap.size k1 W2 := by rw [← hW2]; exact below_new _ _
  have q2 : Rt W2 k1.heap.size 27 [.bool false, .int .i64 0, .int .i64 0, .int .i64 0, .int .i64 0, .int .i64 0, .string ⟨#[]⟩] := by rw [← hW2]; exact Rt.new k1 _ _
  have p3 := p2.below h2
  have hb3 := hb2.trans (h2.mono hb2.size)
  have hBk : B ≤ k1.heap.size := Nat.le_trans hB hb2.size
  have hby3 := hby2.below h2 hBk
  have hbo : Byt W2 B (.slice A2 b.length c2) b := ho1.below h2 hBk
  have HP := Lib.hid p3
  have HQ := Lib.hid q2
  have HB := Lib.hid hb3
  have HBY := Lib.hid hby3
  have HBO := Lib.hid hbo
  have HW2 := Lib.hid hW2
  have hpk : w.heap.size < k1.heap.size := p2.lt
  have hpn : w.heap.size ≠ k1.heap.size := by omega
  have hz2 : k1.heap.size < W2.heap.size := q2.lt
  clear p1 p2 p3 q2 hb2 hb3 hby2 hby3 hbo h1 h2 ho1 hW2 HW1 HB1 HBY1 hop1
  have HN := Lib.hid hn
  have HG := Lib.hid hg
  have HY := Lib.hid hyes
  clear hn hyes ho hg
  go_wp2_with fail
  rw [HW2.out]
  obtain ⟨bl, hbln⟩ : ∃ bl, b.length = bl := ⟨_, rfl⟩
  have hnu := rnumbers_any A2 c2 B b 3 W2 HBO.out (by omega) (by omega) (by omega)
  rw [hbln] at hnu
  simp only [hbln]
  refine hnu.mono ?_
  rintro e2 k2 ⟨h2, hx⟩
  rw [HN.out] at hx
  obtain ⟨vv, A3, c3, rfl, hoi, hbr⟩ := hx
  obtain ⟨gi, ci, rfl, hci, hgi, hBi, hcs⟩ := ownI_at hoi (by simp)
  have i0 : k2.cell? ⟨gi, 0, none⟩ = some (.int .i64 i) := hcs 0 (by simp)
  have i1 : k2.cell? ⟨gi, 1, none⟩ = some (.int .i64 t) := hcs 1 (by simp)
  have i2 : k2.cell? ⟨gi, 2, none⟩ = some (.int .i64 d) := hcs 2 (by simp)
  have hgk : k1.heap.size < gi := by omega
  have hgt := rgetText_any A3 c3 _ rest k2 hbr (by omega)
  rw [HG.out] at hgt
  obtain ⟨rl, hrl⟩ : ∃ rl, rest.length = rl := ⟨_, rfl⟩
  rw [hrl] at hgt
  simp only [List.length_cons, List.length_nil, Nat.reduceAdd, hrl] at *
  clear hoi hbr hcs
  have p3 := HP.out.below h2
  have q3 := HQ.out.below h2
  have hb3 := HB.out.trans (h2.mono HB.out.size)
  have hby3 := HBY.out.below h2 (by omega)
  have x0 := q3.cell (j := 0) rfl
  have y0 := q3.frz 0
  have x1 := q3.cell (j := 1) rfl
  have y1 := q3.frz 1
  have x2 := q3.cell (j := 2) rfl
  have y2 := q3.frz 2
  have x3 := q3.cell (j := 3) rfl
  have y3 := q3.frz 3
  have x4 := q3.cell (j := 4) rfl
  have y4 := q3.frz 4
  have x5 := q3.cell (j := 5) rfl
  have y5 := q3.frz 5
  have x6 := q3.cell (j := 6) rfl
  have y6 := q3.frz 6
  have HP3 := Lib.hid p3
  have HQ3 := Lib.hid q3
  have HB3 := Lib.hid hb3
  have HBY3 := Lib.hid hby3
  clear p3 q3 hb3 hby3 h2 HP HQ HB HBY HBO hnu
  have hd2 : ¬ d < 1 := by omega
  have hd3 : ¬ 3 < d := by omega
  have HGT := Lib.hid hgt
  clear hgt
  go_wp2_with fail
  refine HGT.out.mono ?_
  rintro e5 k9 ⟨rfl, rfl⟩
  have hdt : (⟨(dt.data.toList).toArray⟩ : ByteArray) = dt := by simp
  rw [hdt]
  go_wp2_with fail
  replace i0 : k2.drew.cell? ⟨gi, 0, none⟩ = some (.int .i64 i) := i0
  replace i1 : k2.drew.cell? ⟨gi, 1, none⟩ = some (.int .i64 t) := i1
  replace i2 : k2.drew.cell? ⟨gi, 2, none⟩ = some (.int .i64 d) := i2
  have p4 : Rt k2.drew w.heap.size 27 [.bool false, .int .i64 0, .int .i64 0, .int .i64 0, .int .i64 0, .int .i64 0, .string ⟨#[]⟩] := HP3.out
  have q4 : Rt k2.drew k1.heap.size 27 [.bool false, .int .i64 0, .int .i64 0, .int .i64 0, .int .i64 0, .int .i64 0, .string ⟨#[]⟩] := HQ3.out
  have hb4 : Below w.heap.size w k2.drew := HB3.out.drew
  have hby4 : Byt k2.drew B (.slice A ln c) l := by have := HBY3.out; rw [HLN.out] at this; exact this
  clear x0 x1 x2 x3 x4 x5 x6 y0 y1 y2 y3 y4 y5 y6 HP3 HQ3 HB3 HBY3
  refine wp_region_noPanic ?_
  refine wp_region_held_drew (S := fun W => W.cell? ⟨gi, 0, none⟩ = some (.int .i64 i) ∧ W.cell? ⟨gi, 1, none⟩ = some (.int .i64 t) ∧ W.cell? ⟨gi, 2, none⟩ = some (.int .i64 d)) (by kernel_rfl) ?_ (fun hHeld => ?_)
  · exact ⟨i0, i1, i2⟩
  generalize k2.drew = k3 at *
  have x0 := q4.cell (j := 0) rfl
  have y0 := q4.frz 0
  have x1 := q4.cell (j := 1) rfl
  have y1 := q4.frz 1
  have x2 := q4.cell (j := 2) rfl
  have y2 := q4.frz 2
  have x3 := q4.cell (j := 3) rfl
  have y3 := q4.frz 3
  have x4 := q4.cell (j := 4) rfl
  have y4 := q4.frz 4
  have x5 := q4.cell (j := 5) rfl
  have y5 := q4.frz 5
  have x6 := q4.cell (j := 6) rfl
  have y6 := q4.frz 6
  refine wpAnyH_take (i := 0) (oi := { dst := some 96, op := Op.move (Operand.tmp 13), type := 79, pos := "ref.go:217", after := #[], guard := none }) (v := .slice (some ⟨gi, 0, none⟩) 3 ci) rfl (by kernel_rfl) (by kernel_rfl) (by kernel_rfl) (fun _ _ _ h => h) (Or.inl ⟨by rfl, fun w hSw => ?_⟩) (by assumption) ?_
  · (try dsimp only at hSw)
    go_simp
  try simp only [Act.put, List.setIfInBounds_toArray, List.set_cons_zero, List.set_cons_succ]
  refine wpAnyH_take (i := 1) (oi := { dst := some 97, op := Op.indexAddr 79 (Operand.tmp 96) (Operand.const (Value.int IntKind.i64 0)), type := 0, pos := "ref.go:217", after := #[{ on := 0, ground := Ground.data }], guard := none }) (v := .pointer (some ⟨gi, 0, none⟩)) rfl (by kernel_rfl) (by kernel_rfl) (by kernel_rfl) (fun _ _ _ h => h) (Or.inl ⟨by rfl, fun w hSw => ?_⟩) (by assumption) ?_
  · (try dsimp only at hSw)
    go_simp
  try simp only [Act.put, List.setIfInBounds_toArray, List.set_cons_zero, List.set_cons_succ]
  refine wpAnyH_take (i := 2) (oi := { dst := some 98, op := Op.load 2 (Operand.tmp 97), type := 2, pos := "ref.go:217", after := #[{ on := 1, ground := Ground.data }], guard := none }) (v := .int .i64 i) rfl (by kernel_rfl) (by kernel_rfl) (by kernel_rfl) (fun _ _ _ h => h) (Or.inl ⟨by rfl, fun w hSw => ?_⟩) (by assumption) ?_
  · (try dsimp only at hSw)
    go_simp
  try simp only [Act.put, List.setIfInBounds_toArray, List.set_cons_zero, List.set_cons_succ]
  refine wpAnyH_take (i := 3) (oi := { dst := some 99, op := Op.move (Operand.tmp 13), type := 79, pos := "ref.go:217", after := #[], guard := none }) (v := .slice (some ⟨gi, 0, none⟩) 3 ci) rfl (by kernel_rfl) (by kernel_rfl) (by kernel_rfl) (fun _ _ _ h => h) (Or.inl ⟨by rfl, fun w hSw => ?_⟩) (by assumption) ?_
  · (try dsimp only at hSw)
    go_simp
  try simp only [Act.put, List.setIfInBounds_toArray, List.set_cons_zero, List.set_cons_succ]
  refine wpAnyH_take (i := 4) (oi := { dst := some 100, op := Op.indexAddr 79 (Operand.tmp 99) (Operand.const (Value.int IntKind.i64 1)), type := 0, pos := "ref.go:217", after := #[{ on := 3, ground := Ground.data }], guard := none }) (v := .pointer (some ⟨gi, 1, none⟩)) rfl (by kernel_rfl) (by kernel_rfl) (by kernel_rfl) (fun _ _ _ h => h) (Or.inl ⟨by rfl, fun w hSw => ?_⟩) (by assumption) ?_
  · (try dsimp only at hSw)
    go_simp
  try simp only [Act.put, List.setIfInBounds_toArray, List.set_cons_zero, List.set_cons_succ]
  refine wpAnyH_take (i := 5) (oi := { dst := some 101, op := Op.load 2 (Operand.tmp 100), type := 2, pos := "ref.go:217", after := #[{ on := 4, ground := Ground.data }], guard := none }) (v := .int .i64 t) rfl (by kernel_rfl) (by kernel_rfl) (by kernel_rfl) (fun _ _ _ h => h) (Or.inl ⟨by rfl, fun w hSw => ?_⟩) (by assumption) ?_
  · (try dsimp only at hSw)
    go_simp
  try simp only [Act.put, List.setIfInBounds_toArray, List.set_cons_zero, List.set_cons_succ]
  refine wpAnyH_take (i := 6) (oi := { dst := some 102, op := Op.move (Operand.tmp 13), type := 79, pos := "ref.go:217", after := #[], guard := none }) (v := .slice (some ⟨gi, 0, none⟩) 3 ci) rfl (by kernel_rfl) (by kernel_rfl) (by kernel_rfl) (fun _ _ _ h => h) (Or.inl ⟨by rfl, fun w hSw => ?_⟩) (by assumption) ?_
  · (try dsimp only at hSw)
    go_simp
  try simp only [Act.put, List.setIfInBounds_toArray, List.set_cons_zero, List.set_cons_succ]
  refine wpAnyH_take (i := 7) (oi := { dst := some 103, op := Op.indexAddr 79 (Operand.tmp 102) (Operand.const (Value.int IntKind.i64 2)), type := 0, pos := "ref.go:217", after := #[{ on := 6, ground := Ground.data }], guard := none }) (v := .pointer (some ⟨gi, 2, none⟩)) rfl (by kernel_rfl) (by kernel_rfl) (by kernel_rfl) (fun _ _ _ h => h) (Or.inl ⟨by rfl, fun w hSw => ?_⟩) (by assumption) ?_
  · (try dsimp only at hSw)
    go_simp
  try simp only [Act.put, List.setIfInBounds_toArray, List.set_cons_zero, List.set_cons_succ]
  refine wpAnyH_take (i := 8) (oi := { dst := some 104, op := Op.load 2 (Operand.tmp 103), type := 2, pos := "ref.go:217", after := #[{ on := 7, ground := Ground.data }], guard := none }) (v := .int .i64 d) rfl (by kernel_rfl) (by kernel_rfl) (by kernel_rfl) (fun _ _ _ h => h) (Or.inl ⟨by rfl, fun w hSw => ?_⟩) (by assumption) ?_
  · (try dsimp only at hSw)
    go_simp
  try simp only [Act.put, List.setIfInBounds_toArray, List.set_cons_zero, List.set_cons_succ]
  refine wpAnyH_take (i := 9) (oi := { dst := some 105, op := Op.move (Operand.tmp 16), type := 9, pos := "ref.go:217", after := #[], guard := none }) (v := .string dt) rfl (by kernel_rfl) (by kernel_rfl) (by kernel_rfl) (fun _ _ _ h => h) (Or.inl ⟨by rfl, fun w hSw => ?_⟩) (by assumption) ?_
  · (try dsimp only at hSw)
    go_simp
  try simp only [Act.put, List.setIfInBounds_toArray, List.set_cons_zero, List.set_cons_succ]
  refine wpAnyH_take (i := 10) (oi := { dst := some 106, op := Op.build 25 #[(0, Operand.tmp 98), (1, Operand.tmp 101), (2, Operand.tmp 104), (3, Operand.tmp 105)], type := 25, pos := "ref.go:217", after := #[{ on := 2, ground := Ground.data }, { on := 5, ground := Ground.data }, { on := 8, ground := Ground.data }, { on := 9, ground := Ground.data }], guard := none }) (v := .agg #[.int .i64 i, .int .i64 t, .int .i64 d, .string dt]) rfl (by kernel_rfl) (by kernel_rfl) (by kernel_rfl) (fun _ _ _ h => h) (Or.inl ⟨by rfl, fun w hSw => ?_⟩) (by assumption) ?_
  · (try dsimp only at hSw)
    go_simp
  try simp only [Act.put, List.setIfInBounds_toArray, List.set_cons_zero, List.set_cons_succ]
  refine wpAnyH_take (i := 11) (oi := { dst := some 107, op := Op.build 27 #[(2, Operand.tmp 106)], type := 27, pos := "ref.go:217", after := #[{ on := 10, ground := Ground.data }], guard := none }) (v := .agg #[.bool false, .int .i64 0, .int .i64 0, .int .i64 i, .int .i64 t, .int .i64 d, .string dt]) rfl (by kernel_rfl) (by kernel_rfl) (by kernel_rfl) (fun _ _ _ h => h) (Or.inl ⟨by rfl, fun w hSw => ?_⟩) (by assumption) ?_
  · (try dsimp only at hSw)
    go_simp
  try simp only [Act.put, List.setIfInBounds_toArray, List.set_cons_zero, List.set_cons_succ]
  refine wpAnyH_ready (rs := [12]) (by kernel_rfl) (by simp) ?_
  refine AllReadyH.cons (o := { dst := none, op := Op.store 27 (Operand.tmp 9) (Operand.tmp 107), type := 0, pos := "ref.go:217", after := #[{ on := 11, ground := Ground.data }, { on := 0, ground := Ground.phase }, { on := 1, ground := Ground.phase }, { on := 2, ground := Ground.phase }, { on := 3, ground := Ground.phase }, { on := 4, ground := Ground.phase }, { on := 5, ground := Ground.phase }, { on := 6, ground := Ground.phase }, { on := 7, ground := Ground.phase }, { on := 8, ground := Ground.phase }, { on := 9, ground := Ground.phase }, { on := 10, ground := Ground.phase }, { on := 11, ground := Ground.phase }], guard := none }) rfl (fun K hK => ?_) AllReadyH.nil
  go_simp
  refine hK.out _ _ ?_ (fun hHeld => ?_)
  · exact ⟨by go_simp, by go_simp, by go_simp⟩
  clear hK K
  try simp only [Act.put, List.setIfInBounds_toArray, List.set_cons_zero, List.set_cons_succ]
  refine wpAnyH_done (by kernel_rfl) ?_ _
  refine NoPanic.normal ?_
  go_wp2_with fail
  refine wp_world (fun W => Rt W k1.heap.size 27 [.bool false, .int .i64 0, .int .i64 0, .int .i64 i, .int .i64 t, .int .i64 d, .string dt] ∧ Rt W w.heap.size 27 [.bool false, .int .i64 0, .int .i64 0, .int .i64 0, .int .i64 0, .int .i64 0, .string ⟨#[]⟩] ∧ Byt W B (.slice A ln c) l ∧ Below w.heap.size w W) ⟨(((((((q4.set 0 (.bool false)).set 1 (.int .i64 0)).set 2 (.int .i64 0)).set 3 (.int .i64 i)).set 4 (.int .i64 t)).set 5 (.int .i64 d)).set 6 (.string dt)), (((((((p4.other 0 (.bool false) hpn).other 1 (.int .i64 0) hpn).other 2 (.int .i64 0) hpn).other 3 (.int .i64 i) hpn).other 4 (.int .i64 t) hpn).other 5 (.int .i64 d) hpn).other 6 (.string dt) hpn), byt_sets10 hby4 hBk, (below_set10 ((below_set10 ((below_set10 ((below_set10 ((below_set10 ((below_set10 ((below_set10 (hb4) 0 (g := k1.heap.size) (.bool false) (by omega))) 1 (g := k1.heap.size) (.int .i64 0) (by omega))) 2 (g := k1.heap.size) (.int .i64 0) (by omega))) 3 (g := k1.heap.size) (.int .i64 i) (by omega))) 4 (g := k1.heap.size) (.int .i64 t) (by omega))) 5 (g := k1.heap.size) (.int .i64 d) (by omega))) 6 (g := k1.heap.size) (.string dt) (by omega))⟩ ?_
  clear p4 q4 hby4 hb4 x0 x1 x2 x3 x4 x5 x6 y0 y1 y2 y3 y4 y5 y6
  rintro k4 ⟨q4, p4, hby4, hb4⟩
  obtain ⟨A', c', hv', hcl, hbc⟩ := id hby4
  injection hv' with e1 e2 e3
  subst e1; subst e3
  obtain ⟨gb, ob, rfl, hgb, hbcs⟩ := hbc (by have := HLN.out; omega)
  have hcut : n ≤ ln := hn1
  have hnc : n ≤ c := by omega
  have hmay := fun W => rmay10_any ⟨false, 0, 0, ⟨i, t, d, dt⟩⟩ W hds4
  obtain ⟨y, hy⟩ : ∃ y, may10 ⟨false, 0, 0, ⟨i, t, d, dt⟩⟩ = y := ⟨_, rfl⟩
  rw [hy] at hmay
  have hk4 : k1.heap.size < k4.heap.size := q4.lt
  replace q4 : Rt k4.drew k1.heap.size 27 [.bool false, .int .i64 0, .int .i64 0, .int .i64 i, .int .i64 t, .int .i64 d, .string dt] := q4
  replace p4 : Rt k4.drew w.heap.size 27 [.bool false, .int .i64 0, .int .i64 0, .int .i64 0, .int .i64 0, .int .i64 0, .string ⟨#[]⟩] := p4
  replace hby4 : Byt k4.drew B (.slice (some ⟨gb, ob, none⟩) ln c) l := hby4
  replace hb4 : Below w.heap.size w k4.drew := hb4.drew
  replace hk4 : k1.heap.size < k4.drew.heap.size := hk4
  clear hbc hbcs
  refine wp_region_noPanic ?_
  refine wp_region_held_drew (S := fun W => W.cell? ⟨k1.heap.size, 0, none⟩ = some (.bool false) ∧ W.cell? ⟨k1.heap.size, 1, none⟩ = some (.int .i64 0) ∧ W.cell? ⟨k1.heap.size, 2, none⟩ = some (.int .i64 0) ∧ W.cell? ⟨k1.heap.size, 3, none⟩ = some (.int .i64 i) ∧ W.cell? ⟨k1.heap.size, 4, none⟩ = some (.int .i64 t) ∧ W.cell? ⟨k1.heap.size, 5, none⟩ = some (.int .i64 d) ∧ W.cell? ⟨k1.heap.size, 6, none⟩ = some (.string dt) ∧ Byt W B (.slice (some ⟨gb, ob, none⟩) ln c) l) (by kernel_rfl) ?_ (fun hHeld => ?_)
  · exact ⟨q4.cell (j := 0) rfl, q4.cell (j := 1) rfl, q4.cell (j := 2) rfl, q4.cell (j := 3) rfl, q4.cell (j := 4) rfl, q4.cell (j := 5) rfl, q4.cell (j := 6) rfl, hby4⟩
  generalize k4.drew = k5 at *
  have hyy := HY.out
  rw [hy] at hyy
  cases y with
  | false =>
    have HNO := Lib.hid (hyy.1 rfl)
    clear hyy
    refine wpAnyH_take (i := 0) (oi := { dst := some 108, op := Op.load 27 (Operand.tmp 9), type := 27, pos := "ref.go:220", after := #[], guard := none }) (v := .agg #[.bool false, .int .i64 0, .int .i64 0, .int .i64 i, .int .i64 t, .int .i64 d, .string dt]) rfl (by kernel_rfl) (by kernel_rfl) (by kernel_rfl) (fun _ _ _ h => h) (Or.inl ⟨by rfl, fun w hSw => ?_⟩) (by assumption) ?_
    · (try dsimp only at hSw)
      go_simp
    try simp only [Act.put, List.setIfInBounds_toArray, List.set_cons_zero, List.set_cons_succ]
    refine wpAnyH_ready (rs := [1]) (by kernel_rfl) (by simp) ?_
    refine AllReadyH.cons (o := { dst := some 109, op := Op.call { callee := Callee.value (Operand.func 14), args := #[Operand.tmp 108], argTypes := #[27] }, type := 4, pos := "ref.go:220", after := #[{ on := 0, ground := Ground.data }], guard := none }) rfl (fun K hK => ?_) AllReadyH.nil
    go_simp
    go_at_call 14
    refine (hmay _).mono ?_
    rintro e6 k6 ⟨rfl, h6⟩
    replace q4 := q4.below h6
    replace p4 := p4.below h6
    replace hby4 := hby4.below h6 (by omega)
    replace hb4 := hb4.trans (h6.mono hb4.size)
    have hk6 : k1.heap.size < k6.heap.size := Nat.lt_of_lt_of_le hk4 h6.size
    clear h6
    refine hK.out _ _ ?_ (fun hHeld => ?_)
    · exact ⟨q4.cell (j := 0) rfl, q4.cell (j := 1) rfl, q4.cell (j := 2) rfl, q4.cell (j := 3) rfl, q4.cell (j := 4) rfl, q4.cell (j := 5) rfl, q4.cell (j := 6) rfl, hby4⟩
    clear hK K
    try simp only [Act.put, List.setIfInBounds_toArray, List.set_cons_zero, List.set_cons_succ]
    refine wpAnyH_take (i := 2) (oi := { dst := some 110, op := Op.unOp UnOp.not 4 (Operand.tmp 109), type := 4, pos := "ref.go:220", after := #[{ on := 1, ground := Ground.data }], guard := none }) (v := .bool true) rfl (by kernel_rfl) (by kernel_rfl) (by kernel_rfl) (fun _ _ _ h => h) (Or.inl ⟨by rfl, fun w hSw => ?_⟩) (by assumption) ?_
    · (try dsimp only at hSw)
      go_simp
    try simp only [Act.put, List.setIfInBounds_toArray, List.set_cons_zero, List.set_cons_succ]
    refine wpAnyH_take (i := 3) (oi := { dst := some 111, op := Op.move (Operand.tmp 110), type := 4, pos := "ref.go:220", after := #[{ on := 2, ground := Ground.data }, { on := 1, ground := Ground.chain }], guard := none }) (v := .bool true) rfl (by kernel_rfl) (by kernel_rfl) (by kernel_rfl) (fun _ _ _ h => h) (Or.inl ⟨by rfl, fun w hSw => ?_⟩) (by assumption) ?_
    · (try dsimp only at hSw)
      go_simp
    try simp only [Act.put, List.setIfInBounds_toArray, List.set_cons_zero, List.set_cons_succ]
    refine wpAnyH_take (i := 4) (oi := { dst := some 112, op := Op.load 27 (Operand.tmp 9), type := 27, pos := "ref.go:220", after := #[{ on := 3, ground := Ground.guard }], guard := some (3, false) }) (v := undef) rfl (by kernel_rfl) (by kernel_rfl) (by kernel_rfl) (fun _ _ _ h => h) (Or.inr ⟨by rfl, rfl⟩) (by assumption) ?_
    try simp only [Act.put, List.setIfInBounds_toArray, List.set_cons_zero, List.set_cons_succ]
    refine wpAnyH_take (i := 5) (oi := { dst := some 113, op := Op.call { callee := Callee.value (Operand.func 16), args := #[Operand.tmp 112], argTypes := #[27] }, type := 30, pos := "ref.go:220", after := #[{ on := 4, ground := Ground.data }, { on := 3, ground := Ground.chain }, { on := 3, ground := Ground.guard }], guard := some (3, false) }) (v := undef) rfl (by kernel_rfl) (by kernel_rfl) (by kernel_rfl) (fun _ _ _ h => h) (Or.inr ⟨by rfl, rfl⟩) (by assumption) ?_
    try simp only [Act.put, List.setIfInBounds_toArray, List.set_cons_zero, List.set_cons_succ]
    refine wpAnyH_take (i := 6) (oi := { dst := some 114, op := Op.convert 30 9 (Operand.tmp 113), type := 9, pos := "ref.go:220", after := #[{ on := 5, ground := Ground.data }, { on := 3, ground := Ground.guard }], guard := some (3, false) }) (v := undef) rfl (by kernel_rfl) (by kernel_rfl) (by kernel_rfl) (fun _ _ _ h => h) (Or.inr ⟨by rfl, rfl⟩) (by assumption) ?_
    try simp only [Act.put, List.setIfInBounds_toArray, List.set_cons_zero, List.set_cons_succ]
    refine wpAnyH_take (i := 7) (oi := { dst := some 115, op := Op.move (Operand.tmp 0), type := 30, pos := "ref.go:220", after := #[{ on := 3, ground := Ground.guard }], guard := some (3, false) }) (v := undef) rfl (by kernel_rfl) (by kernel_rfl) (by kernel_rfl) (fun _ _ _ h => h) (Or.inr ⟨by rfl, rfl⟩) (by assumption) ?_
    try simp only [Act.put, List.setIfInBounds_toArray, List.set_cons_zero, List.set_cons_succ]
    refine wpAnyH_take (i := 8) (oi := { dst := some 116, op := Op.move (Operand.tmp 7), type := 3, pos := "ref.go:220", after := #[{ on := 3, ground := Ground.guard }], guard := some (3, false) }) (v := undef) rfl (by kernel_rfl) (by kernel_rfl) (by kernel_rfl) (fun _ _ _ h => h) (Or.inr ⟨by rfl, rfl⟩) (by assumption) ?_
    try simp only [Act.put, List.setIfInBounds_toArray, List.set_cons_zero, List.set_cons_succ]
    refine wpAnyH_take (i := 9) (oi := { dst := some 117, op := Op.slice 30 (Operand.tmp 115) none (some (Operand.tmp 116)) none, type := 30, pos := "ref.go:220", after := #[{ on := 7, ground := Ground.data }, { on := 8, ground := Ground.data }, { on := 3, ground := Ground.guard }], guard := some (3, false) }) (v := undef) rfl (by kernel_rfl) (by kernel_rfl) (by kernel_rfl) (fun _ _ _ h => h) (Or.inr ⟨by rfl, rfl⟩) (by assumption) ?_
    try simp only [Act.put, List.setIfInBounds_toArray, List.set_cons_zero, List.set_cons_succ]
    refine wpAnyH_take (i := 10) (oi := { dst := some 118, op := Op.convert 30 9 (Operand.tmp 117), type := 9, pos := "ref.go:220", after := #[{ on := 9, ground := Ground.data }, { on := 3, ground := Ground.guard }], guard := some (3, false) }) (v := undef) rfl (by kernel_rfl) (by kernel_rfl) (by kernel_rfl) (fun _ _ _ h => h) (Or.inr ⟨by rfl, rfl⟩) (by assumption) ?_
    try simp only [Act.put, List.setIfInBounds_toArray, List.set_cons_zero, List.set_cons_succ]
    refine wpAnyH_take (i := 11) (oi := { dst := some 119, op := Op.binOp BinOp.neq 9 (Operand.tmp 114) (Operand.tmp 118) 9, type := 4, pos := "ref.go:220", after := #[{ on := 6, ground := Ground.data }, { on := 10, ground := Ground.data }, { on := 3, ground := Ground.guard }], guard := some (3, false) }) (v := undef) rfl (by kernel_rfl) (by kernel_rfl) (by kernel_rfl) (fun _ _ _ h => h) (Or.inr ⟨by rfl, rfl⟩) (by assumption) ?_
    try simp only [Act.put, List.setIfInBounds_toArray, List.set_cons_zero, List.set_cons_succ]
    refine wpAnyH_take (i := 12) (oi := { dst := some 120, op := Op.pick (Operand.tmp 111) (Operand.const (Value.bool true)) (Operand.tmp 119), type := 4, pos := "ref.go:220", after := #[{ on := 3, ground := Ground.data }, { on := 11, ground := Ground.data }], guard := none }) (v := .bool true) rfl (by kernel_rfl) (by kernel_rfl) (by kernel_rfl) (fun _ _ _ h => h) (Or.inl ⟨by rfl, fun w hSw => ?_⟩) (by assumption) ?_
    · (try dsimp only at hSw)
      go_simp
    try simp only [Act.put, List.setIfInBounds_toArray, List.set_cons_zero, List.set_cons_succ]
    refine wpAnyH_done (by kernel_rfl) ?_ _
    refine NoPanic.normal ?_
    have x0 := p4.cell (j := 0) rfl
    have y0 := p4.frz 0
    have x1 := p4.cell (j := 1) rfl
    have y1 := p4.frz 1
    have x2 := p4.cell (j := 2) rfl
    have y2 := p4.frz 2
    have x3 := p4.cell (j := 3) rfl
    have y3 := p4.frz 3
    have x4 := p4.cell (j := 4) rfl
    have y4 := p4.frz 4
    have x5 := p4.cell (j := 5) rfl
    have y5 := p4.frz 5
    have x6 := p4.cell (j := 6) rfl
    have y6 := p4.frz 6
    go_wp2
    have hxs : Rt _ w.heap.size 27 [.bool false, .int .i64 0, .int .i64 0, .int .i64 0, .int .i64 0, .int .i64 0, .string ⟨#[]⟩] := (((((((p4.set 0 (.bool false)).set 1 (.int .i64 0)).set 2 (.int .i64 0)).set 3 (.int .i64 0)).set 4 (.int .i64 0)).set 5 (.int .i64 0)).set 6 (.string ⟨#[]⟩))
    have hbs := (below_set10 ((below_set10 ((below_set10 ((below_set10 ((below_set10 ((below_set10 ((below_set10 (hb4) 0 (g := w.heap.size) (.bool false) (by omega))) 1 (g := w.heap.size) (.int .i64 0) (by omega))) 2 (g := w.heap.size) (.int .i64 0) (by omega))) 3 (g := w.heap.size) (.int .i64 0) (by omega))) 4 (g := w.heap.size) (.int .i64 0) (by omega))) 5 (g := w.heap.size) (.int .i64 0) (by omega))) 6 (g := w.heap.size) (.string ⟨#[]⟩) (by omega))
    refine body_world10 (fun W => Below w.heap.size w W ∧ Rt W w.heap.size 27 [.bool false, .int .i64 0, .int .i64 0, .int .i64 0, .int .i64 0, .int .i64 0, .string ⟨#[]⟩]) ⟨hbs, hxs⟩ ?_
    clear hbs hxs
    rintro W ⟨hbs, hxs⟩
    have d0 := hxs.cell (j := 0) rfl
    have d1 := hxs.cell (j := 1) rfl
    have d2 := hxs.cell (j := 2) rfl
    have d3 := hxs.cell (j := 3) rfl
    have d4 := hxs.cell (j := 4) rfl
    have d5 := hxs.cell (j := 5) rfl
    have d6 := hxs.cell (j := 6) rfl
    refine bodyPost_ret (v := .tuple #[.agg #[.bool false, .int .i64 0, .int .i64 0, .int .i64 0, .int .i64 0, .int .i64 0, .string ⟨#[]⟩], .int .i64 0, .int .i64 3]) (by simp [results, Tryd.results23, go_sem, d0, d1, d2, d3, d4, d5, d6]) rfl ?_
    exact ⟨by rw [HNO.out]; rfl, hbs⟩
  | true =>
    by_cases heq0 : encR10 ⟨false, 0, 0, ⟨i, t, d, dt⟩⟩ = l.take n
    · have HEQ := Lib.hid heq0
      have HYES := Lib.hid (hyy.2.1 rfl heq0)
      clear hyy heq0
      refine wpAnyH_take (i := 0) (oi := { dst := some 108, op := Op.load 27 (Operand.tmp 9), type := 27, pos := "ref.go:220", after := #[], guard := none }) (v := .agg #[.bool false, .int .i64 0, .int .i64 0, .int .i64 i, .int .i64 t, .int .i64 d, .string dt]) rfl (by kernel_rfl) (by kernel_rfl) (by kernel_rfl) (fun _ _ _ h => h) (Or.inl ⟨by rfl, fun w hSw => ?_⟩) (by assumption) ?_
      · (try dsimp only at hSw)
        go_simp
      try simp only [Act.put, List.setIfInBounds_toArray, List.set_cons_zero, List.set_cons_succ]
      refine wpAnyH_ready (rs := [1]) (by kernel_rfl) (by simp) ?_
      refine AllReadyH.cons (o := { dst := some 109, op := Op.call { callee := Callee.value (Operand.func 14), args := #[Operand.tmp 108], argTypes := #[27] }, type := 4, pos := "ref.go:220", after := #[{ on := 0, ground := Ground.data }], guard := none }) rfl (fun K hK => ?_) AllReadyH.nil
      go_simp
      go_at_call 14
      refine (hmay _).mono ?_
      rintro e6 k6 ⟨rfl, h6⟩
      replace q4 := q4.below h6
      replace p4 := p4.below h6
      replace hby4 := hby4.below h6 (by omega)
      replace hb4 := hb4.trans (h6.mono hb4.size)
      have hk6 : k1.heap.size < k6.heap.size := Nat.lt_of_lt_of_le hk4 h6.size
      clear h6
      refine hK.out _ _ ?_ (fun hHeld => ?_)
      · exact ⟨q4.cell (j := 0) rfl, q4.cell (j := 1) rfl, q4.cell (j := 2) rfl, q4.cell (j := 3) rfl, q4.cell (j := 4) rfl, q4.cell (j := 5) rfl, q4.cell (j := 6) rfl, hby4⟩
      clear hK K
      try simp only [Act.put, List.setIfInBounds_toArray, List.set_cons_zero, List.set_cons_succ]
      refine wpAnyH_take (i := 2) (oi := { dst := some 110, op := Op.unOp UnOp.not 4 (Operand.tmp 109), type := 4, pos := "ref.go:220", after := #[{ on := 1, ground := Ground.data }], guard := none }) (v := .bool false) rfl (by kernel_rfl) (by kernel_rfl) (by kernel_rfl) (fun _ _ _ h => h) (Or.inl ⟨by rfl, fun w hSw => ?_⟩) (by assumption) ?_
      · (try dsimp only at hSw)
        go_simp
      try simp only [Act.put, List.setIfInBounds_toArray, List.set_cons_zero, List.set_cons_succ]
      refine wpAnyH_take (i := 3) (oi := { dst := some 111, op := Op.move (Operand.tmp 110), type := 4, pos := "ref.go:220", after := #[{ on := 2, ground := Ground.data }, { on := 1, ground := Ground.chain }], guard := none }) (v := .bool false) rfl (by kernel_rfl) (by kernel_rfl) (by kernel_rfl) (fun _ _ _ h => h) (Or.inl ⟨by rfl, fun w hSw => ?_⟩) (by assumption) ?_
      · (try dsimp only at hSw)
        go_simp
      try simp only [Act.put, List.setIfInBounds_toArray, List.set_cons_zero, List.set_cons_succ]
      refine wpAnyH_take (i := 4) (oi := { dst := some 112, op := Op.load 27 (Operand.tmp 9), type := 27, pos := "ref.go:220", after := #[{ on := 3, ground := Ground.guard }], guard := some (3, false) }) (v := .agg #[.bool false, .int .i64 0, .int .i64 0, .int .i64 i, .int .i64 t, .int .i64 d, .string dt]) rfl (by kernel_rfl) (by kernel_rfl) (by kernel_rfl) (fun _ _ _ h => h) (Or.inl ⟨by rfl, fun w hSw => ?_⟩) (by assumption) ?_
      · (try dsimp only at hSw)
        go_simp
      try simp only [Act.put, List.setIfInBounds_toArray, List.set_cons_zero, List.set_cons_succ]
      refine wpAnyH_take (i := 7) (oi := { dst := some 115, op := Op.move (Operand.tmp 0), type := 30, pos := "ref.go:220", after := #[{ on := 3, ground := Ground.guard }], guard := some (3, false) }) (v := .slice (some ⟨gb, ob, none⟩) ln c) rfl (by kernel_rfl) (by kernel_rfl) (by kernel_rfl) (fun _ _ _ h => h) (Or.inl ⟨by rfl, fun w hSw => ?_⟩) (by assumption) ?_
      · (try dsimp only at hSw)
        go_simp
      try simp only [Act.put, List.setIfInBounds_toArray, List.set_cons_zero, List.set_cons_succ]
      refine wpAnyH_take (i := 8) (oi := { dst := some 116, op := Op.move (Operand.tmp 7), type := 3, pos := "ref.go:220", after := #[{ on := 3, ground := Ground.guard }], guard := some (3, false) }) (v := .int .i64 n) rfl (by kernel_rfl) (by kernel_rfl) (by kernel_rfl) (fun _ _ _ h => h) (Or.inl ⟨by rfl, fun w hSw => ?_⟩) (by assumption) ?_
      · (try dsimp only at hSw)
        go_simp
      try simp only [Act.put, List.setIfInBounds_toArray, List.set_cons_zero, List.set_cons_succ]
      refine wpAnyH_take (i := 9) (oi := { dst := some 117, op := Op.slice 30 (Operand.tmp 115) none (some (Operand.tmp 116)) none, type := 30, pos := "ref.go:220", after := #[{ on := 7, ground := Ground.data }, { on := 8, ground := Ground.data }, { on := 3, ground := Ground.guard }], guard := some (3, false) }) (v := .slice (some ⟨gb, ob, none⟩) n c) rfl (by kernel_rfl) (by kernel_rfl) (by kernel_rfl) (fun _ _ _ h => h) (Or.inl ⟨by rfl, fun w hSw => ?_⟩) (by assumption) ?_
      · (try dsimp only at hSw)
        go_simp
      try simp only [Act.put, List.setIfInBounds_toArray, List.set_cons_zero, List.set_cons_succ]
      refine wpAnyH_take (i := 10) (oi := { dst := some 118, op := Op.convert 30 9 (Operand.tmp 117), type := 9, pos := "ref.go:220", after := #[{ on := 9, ground := Ground.data }, { on := 3, ground := Ground.guard }], guard := some (3, false) }) (v := .string ⟨(l.take n).toArray⟩) rfl (by kernel_rfl) (by kernel_rfl) (by kernel_rfl) (fun _ _ _ h => h) (Or.inl ⟨by rfl, fun w hSw => ?_⟩) (by assumption) ?_
      · have hcv := conv_take10 n hSw.2.2.2.2.2.2.2 hn1
        clear hSw
        go_simp
      try simp only [Act.put, List.setIfInBounds_toArray, List.set_cons_zero, List.set_cons_succ]
      refine wpAnyH_ready (rs := [5]) (by kernel_rfl) (by simp) ?_
      refine AllReadyH.cons (o := { dst := some 113, op := Op.call { callee := Callee.value (Operand.func 16), args := #[Operand.tmp 112], argTypes := #[27] }, type := 30, pos := "ref.go:220", after := #[{ on := 4, ground := Ground.data }, { on := 3, ground := Ground.chain }, { on := 3, ground := Ground.guard }], guard := some (3, false) }) rfl (fun K hK => ?_) AllReadyH.nil
      go_simp
      go_at_call 16
      refine (renc10_any ⟨false, 0, 0, ⟨i, t, d, dt⟩⟩ _ hds4).mono ?_
      rintro e7 k7 ⟨v7, rfl, ho7, h7⟩
      replace q4 := q4.below h7
      replace p4 := p4.below h7
      replace hby4 := hby4.below h7 (by omega)
      replace hb4 := hb4.trans (h7.mono hb4.size)
      have hcv := conv_own ho7 (by have := enc10_len hy; omega)
      rw [HEQ.out] at hcv
      obtain ⟨A7, c7, rfl⟩ := byt_slice (Byt.of_own ho7)
      clear h7 ho7
      refine hK.out _ _ ?_ (fun hHeld => ?_)
      · exact ⟨q4.cell (j := 0) rfl, q4.cell (j := 1) rfl, q4.cell (j := 2) rfl, q4.cell (j := 3) rfl, q4.cell (j := 4) rfl, q4.cell (j := 5) rfl, q4.cell (j := 6) rfl, hby4⟩
      clear hK K
      try simp only [Act.put, List.setIfInBounds_toArray, List.set_cons_zero, List.set_cons_succ]
      refine wpAnyH_ready (rs := [6]) (by kernel_rfl) (by simp) ?_
      refine AllReadyH.cons (o := { dst := some 114, op := Op.convert 30 9 (Operand.tmp 113), type := 9, pos := "ref.go:220", after := #[{ on := 5, ground := Ground.data }, { on := 3, ground := Ground.guard }], guard := some (3, false) }) rfl (fun K hK => ?_) AllReadyH.nil
      go_simp
      refine hK.out _ _ ?_ (fun hHeld => ?_)
      · exact ⟨q4.cell (j := 0) rfl, q4.cell (j := 1) rfl, q4.cell (j := 2) rfl, q4.cell (j := 3) rfl, q4.cell (j := 4) rfl, q4.cell (j := 5) rfl, q4.cell (j := 6) rfl, hby4⟩
      clear hK K
      try simp only [Act.put, List.setIfInBounds_toArray, List.set_cons_zero, List.set_cons_succ]
      refine wpAnyH_ready (rs := [11]) (by kernel_rfl) (by simp) ?_
      refine AllReadyH.cons (o := { dst := some 119, op := Op.binOp BinOp.neq 9 (Operand.tmp 114) (Operand.tmp 118) 9, type := 4, pos := "ref.go:220", after := #[{ on := 6, ground := Ground.data }, { on := 10, ground := Ground.data }, { on := 3, ground := Ground.guard }], guard := some (3, false) }) rfl (fun K hK => ?_) AllReadyH.nil
      go_simp
      refine hK.out _ _ ?_ (fun hHeld => ?_)
      · exact ⟨q4.cell (j := 0) rfl, q4.cell (j := 1) rfl, q4.cell (j := 2) rfl, q4.cell (j := 3) rfl, q4.cell (j := 4) rfl, q4.cell (j := 5) rfl, q4.cell (j := 6) rfl, hby4⟩
      clear hK K
      try simp only [Act.put, List.setIfInBounds_toArray, List.set_cons_zero, List.set_cons_succ]
      refine wpAnyH_ready (rs := [12]) (by kernel_rfl) (by simp) ?_
      refine AllReadyH.cons (o := { dst := some 120, op := Op.pick (Operand.tmp 111) (Operand.const (Value.bool true)) (Operand.tmp 119), type := 4, pos := "ref.go:220", after := #[{ on := 3, ground := Ground.data }, { on := 11, ground := Ground.data }], guard := none }) rfl (fun K hK => ?_) AllReadyH.nil
      go_simp
      refine hK.out _ _ ?_ (fun hHeld => ?_)
      · exact ⟨q4.cell (j := 0) rfl, q4.cell (j := 1) rfl, q4.cell (j := 2) rfl, q4.cell (j := 3) rfl, q4.cell (j := 4) rfl, q4.cell (j := 5) rfl, q4.cell (j := 6) rfl, hby4⟩
      clear hK K
      try simp only [Act.put, List.setIfInBounds_toArray, List.set_cons_zero, List.set_cons_succ]
      refine wpAnyH_done (by kernel_rfl) ?_ _
      refine NoPanic.normal ?_
      have x0 := p4.cell (j := 0) rfl
      have y0 := p4.frz 0
      have z0 := q4.cell (j := 0) rfl
      have x1 := p4.cell (j := 1) rfl
      have y1 := p4.frz 1
      have z1 := q4.cell (j := 1) rfl
      have x2 := p4.cell (j := 2) rfl
      have y2 := p4.frz 2
      have z2 := q4.cell (j := 2) rfl
      have x3 := p4.cell (j := 3) rfl
      have y3 := p4.frz 3
      have z3 := q4.cell (j := 3) rfl
      have x4 := p4.cell (j := 4) rfl
      have y4 := p4.frz 4
      have z4 := q4.cell (j := 4) rfl
      have x5 := p4.cell (j := 5) rfl
      have y5 := p4.frz 5
      have z5 := q4.cell (j := 5) rfl
      have x6 := p4.cell (j := 6) rfl
      have y6 := p4.frz 6
      have z6 := q4.cell (j := 6) rfl
      go_wp2
      have hxs : Rt _ w.heap.size 27 [.bool false, .int .i64 0, .int .i64 0, .int .i64 i, .int .i64 t, .int .i64 d, .string dt] := (((((((p4.set 0 (.bool false)).set 1 (.int .i64 0)).set 2 (.int .i64 0)).set 3 (.int .i64 i)).set 4 (.int .i64 t)).set 5 (.int .i64 d)).set 6 (.string dt))
      have hbs := (below_set10 ((below_set10 ((below_set10 ((below_set10 ((below_set10 ((below_set10 ((below_set10 (hb4) 0 (g := w.heap.size) (.bool false) (by omega))) 1 (g := w.heap.size) (.int .i64 0) (by omega))) 2 (g := w.heap.size) (.int .i64 0) (by omega))) 3 (g := w.heap.size) (.int .i64 i) (by omega))) 4 (g := w.heap.size) (.int .i64 t) (by omega))) 5 (g := w.heap.size) (.int .i64 d) (by omega))) 6 (g := w.heap.size) (.string dt) (by omega))
      refine body_world10 (fun W => Below w.heap.size w W ∧ Rt W w.heap.size 27 [.bool false, .int .i64 0, .int .i64 0, .int .i64 i, .int .i64 t, .int .i64 d, .string dt]) ⟨hbs, hxs⟩ ?_
      clear hbs hxs
      rintro W ⟨hbs, hxs⟩
      have d0 := hxs.cell (j := 0) rfl
      have d1 := hxs.cell (j := 1) rfl
      have d2 := hxs.cell (j := 2) rfl
      have d3 := hxs.cell (j := 3) rfl
      have d4 := hxs.cell (j := 4) rfl
      have d5 := hxs.cell (j := 5) rfl
      have d6 := hxs.cell (j := 6) rfl
      refine bodyPost_ret (v := .tuple #[.agg #[.bool false, .int .i64 0, .int .i64 0, .int .i64 i, .int .i64 t, .int .i64 d, .string dt], .int .i64 n, .int .i64 0]) (by simp [results, Tryd.results23, go_sem, d0, d1, d2, d3, d4, d5, d6]) rfl ?_
      exact ⟨by rw [HYES.out]; rfl, hbs⟩
    · have heq := heq0
      have HNO := Lib.hid (hyy.2.2 rfl heq0)
      clear hyy heq0
      refine wpAnyH_take (i := 0) (oi := { dst := some 108, op := Op.load 27 (Operand.tmp 9), type := 27, pos := "ref.go:220", after := #[], guard := none }) (v := .agg #[.bool false, .int .i64 0, .int .i64 0, .int .i64 i, .int .i64 t, .int .i64 d, .string dt]) rfl (by kernel_rfl) (by kernel_rfl) (by kernel_rfl) (fun _ _ _ h => h) (Or.inl ⟨by rfl, fun w hSw => ?_⟩) (by assumption) ?_
      · (try dsimp only at hSw)
        go_simp
      try simp only [Act.put, List.setIfInBounds_toArray, List.set_cons_zero, List.set_cons_succ]
      refine wpAnyH_ready (rs := [1]) (by kernel_rfl) (by simp) ?_
      refine AllReadyH.cons (o := { dst := some 109, op := Op.call { callee := Callee.value (Operand.func 14), args := #[Operand.tmp 108], argTypes := #[27] }, type := 4, pos := "ref.go:220", after := #[{ on := 0, ground := Ground.data }], guard := none }) rfl (fun K hK => ?_) AllReadyH.nil
      go_simp
      go_at_call 14
      refine (hmay _).mono ?_
      rintro e6 k6 ⟨rfl, h6⟩
      replace q4 := q4.below h6
      replace p4 := p4.below h6
      replace hby4 := hby4.below h6 (by omega)
      replace hb4 := hb4.trans (h6.mono hb4.size)
      have hk6 : k1.heap.size < k6.heap.size := Nat.lt_of_lt_of_le hk4 h6.size
      clear h6
      refine hK.out _ _ ?_ (fun hHeld => ?_)
      · exact ⟨q4.cell (j := 0) rfl, q4.cell (j := 1) rfl, q4.cell (j := 2) rfl, q4.cell (j := 3) rfl, q4.cell (j := 4) rfl, q4.cell (j := 5) rfl, q4.cell (j := 6) rfl, hby4⟩
      clear hK K
      try simp only [Act.put, List.setIfInBounds_toArray, List.set_cons_zero, List.set_cons_succ]
      refine wpAnyH_take (i := 2) (oi := { dst := some 110, op := Op.unOp UnOp.not 4 (Operand.tmp 109), type := 4, pos := "ref.go:220", after := #[{ on := 1, ground := Ground.data }], guard := none }) (v := .bool false) rfl (by kernel_rfl) (by kernel_rfl) (by kernel_rfl) (fun _ _ _ h => h) (Or.inl ⟨by rfl, fun w hSw => ?_⟩) (by assumption) ?_
      · (try dsimp only at hSw)
        go_simp
      try simp only [Act.put, List.setIfInBounds_toArray, List.set_cons_zero, List.set_cons_succ]
      refine wpAnyH_take (i := 3) (oi := { dst := some 111, op := Op.move (Operand.tmp 110), type := 4, pos := "ref.go:220", after := #[{ on := 2, ground := Ground.data }, { on := 1, ground := Ground.chain }], guard := none }) (v := .bool false) rfl (by kernel_rfl) (by kernel_rfl) (by kernel_rfl) (fun _ _ _ h => h) (Or.inl ⟨by rfl, fun w hSw => ?_⟩) (by assumption) ?_
      · (try dsimp only at hSw)
        go_simp
      try simp only [Act.put, List.setIfInBounds_toArray, List.set_cons_zero, List.set_cons_succ]
      refine wpAnyH_take (i := 4) (oi := { dst := some 112, op := Op.load 27 (Operand.tmp 9), type := 27, pos := "ref.go:220", after := #[{ on := 3, ground := Ground.guard }], guard := some (3, false) }) (v := .agg #[.bool false, .int .i64 0, .int .i64 0, .int .i64 i, .int .i64 t, .int .i64 d, .string dt]) rfl (by kernel_rfl) (by kernel_rfl) (by kernel_rfl) (fun _ _ _ h => h) (Or.inl ⟨by rfl, fun w hSw => ?_⟩) (by assumption) ?_
      · (try dsimp only at hSw)
        go_simp
      try simp only [Act.put, List.setIfInBounds_toArray, List.set_cons_zero, List.set_cons_succ]
      refine wpAnyH_take (i := 7) (oi := { dst := some 115, op := Op.move (Operand.tmp 0), type := 30, pos := "ref.go:220", after := #[{ on := 3, ground := Ground.guard }], guard := some (3, false) }) (v := .slice (some ⟨gb, ob, none⟩) ln c) rfl (by kernel_rfl) (by kernel_rfl) (by kernel_rfl) (fun _ _ _ h => h) (Or.inl ⟨by rfl, fun w hSw => ?_⟩) (by assumption) ?_
      · (try dsimp only at hSw)
        go_simp
      try simp only [Act.put, List.setIfInBounds_toArray, List.set_cons_zero, List.set_cons_succ]
      refine wpAnyH_take (i := 8) (oi := { dst := some 116, op := Op.move (Operand.tmp 7), type := 3, pos := "ref.go:220", after := #[{ on := 3, ground := Ground.guard }], guard := some (3, false) }) (v := .int .i64 n) rfl (by kernel_rfl) (by kernel_rfl) (by kernel_rfl) (fun _ _ _ h => h) (Or.inl ⟨by rfl, fun w hSw => ?_⟩) (by assumption) ?_
      · (try dsimp only at hSw)
        go_simp
      try simp only [Act.put, List.setIfInBounds_toArray, List.set_cons_zero, List.set_cons_succ]
      refine wpAnyH_take (i := 9) (oi := { dst := some 117, op := Op.slice 30 (Operand.tmp 115) none (some (Operand.tmp 116)) none, type := 30, pos := "ref.go:220", after := #[{ on := 7, ground := Ground.data }, { on := 8, ground := Ground.data }, { on := 3, ground := Ground.guard }], guard := some (3, false) }) (v := .slice (some ⟨gb, ob, none⟩) n c) rfl (by kernel_rfl) (by kernel_rfl) (by kernel_rfl) (fun _ _ _ h => h) (Or.inl ⟨by rfl, fun w hSw => ?_⟩) (by assumption) ?_
      · (try dsimp only at hSw)
        go_simp
      try simp only [Act.put, List.setIfInBounds_toArray, List.set_cons_zero, List.set_cons_succ]
      refine wpAnyH_take (i := 10) (oi := { dst := some 118, op := Op.convert 30 9 (Operand.tmp 117), type := 9, pos := "ref.go:220", after := #[{ on := 9, ground := Ground.data }, { on := 3, ground := Ground.guard }], guard := some (3, false) }) (v := .string ⟨(l.take n).toArray⟩) rfl (by kernel_rfl) (by kernel_rfl) (by kernel_rfl) (fun _ _ _ h => h) (Or.inl ⟨by rfl, fun w hSw => ?_⟩) (by assumption) ?_
      · have hcv := conv_take10 n hSw.2.2.2.2.2.2.2 hn1
        clear hSw
        go_simp
      try simp only [Act.put, List.setIfInBounds_toArray, List.set_cons_zero, List.set_cons_succ]
      refine wpAnyH_ready (rs := [5]) (by kernel_rfl) (by simp) ?_
      refine AllReadyH.cons (o := { dst := some 113, op := Op.call { callee := Callee.value (Operand.func 16), args := #[Operand.tmp 112], argTypes := #[27] }, type := 30, pos := "ref.go:220", after := #[{ on := 4, ground := Ground.data }, { on := 3, ground := Ground.chain }, { on := 3, ground := Ground.guard }], guard := some (3, false) }) rfl (fun K hK => ?_) AllReadyH.nil
      go_simp
      go_at_call 16
      refine (renc10_any ⟨false, 0, 0, ⟨i, t, d, dt⟩⟩ _ hds4).mono ?_
      rintro e7 k7 ⟨v7, rfl, ho7, h7⟩
      replace q4 := q4.below h7
      replace p4 := p4.below h7
      replace hby4 := hby4.below h7 (by omega)
      replace hb4 := hb4.trans (h7.mono hb4.size)
      have hcv := conv_own ho7 (by have := enc10_len hy; omega)
      have hls := list_ne heq
      have hls2 := beq_eq_false_iff_ne.2 heq
      obtain ⟨A7, c7, rfl⟩ := byt_slice (Byt.of_own ho7)
      clear h7 ho7
      refine hK.out _ _ ?_ (fun hHeld => ?_)
      · exact ⟨q4.cell (j := 0) rfl, q4.cell (j := 1) rfl, q4.cell (j := 2) rfl, q4.cell (j := 3) rfl, q4.cell (j := 4) rfl, q4.cell (j := 5) rfl, q4.cell (j := 6) rfl, hby4⟩
      clear hK K
      try simp only [Act.put, List.setIfInBounds_toArray, List.set_cons_zero, List.set_cons_succ]
      refine wpAnyH_ready (rs := [6]) (by kernel_rfl) (by simp) ?_
      refine AllReadyH.cons (o := { dst := some 114, op := Op.convert 30 9 (Operand.tmp 113), type := 9, pos := "ref.go:220", after := #[{ on := 5, ground := Ground.data }, { on := 3, ground := Ground.guard }], guard := some (3, false) }) rfl (fun K hK => ?_) AllReadyH.nil
      go_simp
      refine hK.out _ _ ?_ (fun hHeld => ?_)
      · exact ⟨q4.cell (j := 0) rfl, q4.cell (j := 1) rfl, q4.cell (j := 2) rfl, q4.cell (j := 3) rfl, q4.cell (j := 4) rfl, q4.cell (j := 5) rfl, q4.cell (j := 6) rfl, hby4⟩
      clear hK K
      try simp only [Act.put, List.setIfInBounds_toArray, List.set_cons_zero, List.set_cons_succ]
      refine wpAnyH_ready (rs := [11]) (by kernel_rfl) (by simp) ?_
      refine AllReadyH.cons (o := { dst := some 119, op := Op.binOp BinOp.neq 9 (Operand.tmp 114) (Operand.tmp 118) 9, type := 4, pos := "ref.go:220", after := #[{ on := 6, ground := Ground.data }, { on := 10, ground := Ground.data }, { on := 3, ground := Ground.guard }], guard := some (3, false) }) rfl (fun K hK => ?_) AllReadyH.nil
      go_simp
      refine hK.out _ _ ?_ (fun hHeld => ?_)
      · exact ⟨q4.cell (j := 0) rfl, q4.cell (j := 1) rfl, q4.cell (j := 2) rfl, q4.cell (j := 3) rfl, q4.cell (j := 4) rfl, q4.cell (j := 5) rfl, q4.cell (j := 6) rfl, hby4⟩
      clear hK K
      try simp only [Act.put, List.setIfInBounds_toArray, List.set_cons_zero, List.set_cons_succ]
      refine wpAnyH_ready (rs := [12]) (by kernel_rfl) (by simp) ?_
      refine AllReadyH.cons (o := { dst := some 120, op := Op.pick (Operand.tmp 111) (Operand.const (Value.bool true)) (Operand.tmp 119), type := 4, pos := "ref.go:220", after := #[{ on := 3, ground := Ground.data }, { on := 11, ground := Ground.data }], guard := none }) rfl (fun K hK => ?_) AllReadyH.nil
      go_simp
      refine hK.out _ _ ?_ (fun hHeld => ?_)
      · exact ⟨q4.cell (j := 0) rfl, q4.cell (j := 1) rfl, q4.cell (j := 2) rfl, q4.cell (j := 3) rfl, q4.cell (j := 4) rfl, q4.cell (j := 5) rfl, q4.cell (j := 6) rfl, hby4⟩
      clear hK K
      try simp only [Act.put, List.setIfInBounds_toArray, List.set_cons_zero, List.set_cons_succ]
      refine wpAnyH_done (by kernel_rfl) ?_ _
      refine NoPanic.normal ?_
      have x0 := p4.cell (j := 0) rfl
      have y0 := p4.frz 0
      have x1 := p4.cell (j := 1) rfl
      have y1 := p4.frz 1
      have x2 := p4.cell (j := 2) rfl
      have y2 := p4.frz 2
      have x3 := p4.cell (j := 3) rfl
      have y3 := p4.frz 3
      have x4 := p4.cell (j := 4) rfl
      have y4 := p4.frz 4
      have x5 := p4.cell (j := 5) rfl
      have y5 := p4.frz 5
      have x6 := p4.cell (j := 6) rfl
      have y6 := p4.frz 6
      go_wp2
      have hxs : Rt _ w.heap.size 27 [.bool false, .int .i64 0, .int .i64 0, .int .i64 0, .int .i64 0, .int .i64 0, .string ⟨#[]⟩] := (((((((p4.set 0 (.bool false)).set 1 (.int .i64 0)).set 2 (.int .i64 0)).set 3 (.int .i64 0)).set 4 (.int .i64 0)).set 5 (.int .i64 0)).set 6 (.string ⟨#[]⟩))
      have hbs := (below_set10 ((below_set10 ((below_set10 ((below_set10 ((below_set10 ((below_set10 ((below_set10 (hb4) 0 (g := w.heap.size) (.bool false) (by omega))) 1 (g := w.heap.size) (.int .i64 0) (by omega))) 2 (g := w.heap.size) (.int .i64 0) (by omega))) 3 (g := w.heap.size) (.int .i64 0) (by omega))) 4 (g := w.heap.size) (.int .i64 0) (by omega))) 5 (g := w.heap.size) (.int .i64 0) (by omega))) 6 (g := w.heap.size) (.string ⟨#[]⟩) (by omega))
      refine body_world10 (fun W => Below w.heap.size w W ∧ Rt W w.heap.size 27 [.bool false, .int .i64 0, .int .i64 0, .int .i64 0, .int .i64 0, .int .i64 0, .string ⟨#[]⟩]) ⟨hbs, hxs⟩ ?_
      clear hbs hxs
      rintro W ⟨hbs, hxs⟩
      have d0 := hxs.cell (j := 0) rfl
      have d1 := hxs.cell (j := 1) rfl
      have d2 := hxs.cell (j := 2) rfl
      have d3 := hxs.cell (j := 3) rfl
      have d4 := hxs.cell (j := 4) rfl
      have d5 := hxs.cell (j := 5) rfl
      have d6 := hxs.cell (j := 6) rfl
      refine bodyPost_ret (v := .tuple #[.agg #[.bool false, .int .i64 0, .int .i64 0, .int .i64 0, .int .i64 0, .int .i64 0, .string ⟨#[]⟩], .int .i64 0, .int .i64 3]) (by simp [results, Tryd.results23, go_sem, d0, d1, d2, d3, d4, d5, d6]) rfl ?_
      exact ⟨by rw [HNO.out]; rfl, hbs⟩
end Go.Proofs.YtdigpeipklfaeaaDoor
