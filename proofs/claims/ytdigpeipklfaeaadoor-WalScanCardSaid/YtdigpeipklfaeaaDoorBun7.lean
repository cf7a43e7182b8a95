/-
  Contracts of the program's functions, of the reference's, and plain lemmas on what they answer (last part).
  Each lemma names its conditions.
-/
import Derived.Test.YtdigpeipklfaeaaDoorBun1
import Derived.Deep.OwnRows
import Derived.Great.Walk
import Derived.Test.YtdigpeipklfaeaaDoorBun4
import Derived.Test.YtdigpeipklfaeaaDoorBun2
import Derived.Deep.AppendLies
import Derived.Deep.MidRow
/-
  A row of so many zeros that has just been made, and its text.
  There are at most 100,000,000.
-/
namespace Go.Proofs.YtdigpeipklfaeaaDoor
open Go.RowKit
set_option maxRecDepth 100000

theorem made_bytes10 (n : Nat) : (madeCells (Value.int .u8 0).cells (n * 1)).toList = Lib.byteCells (List.replicate n 0) := by
  unfold Lib.byteCells madeCells
  rw [List.map_replicate]
  apply List.ext_getElem
  · simp
  · intro i h1 h2
    simp [Value.cells, Nat.mod_one]
theorem make_zer10 (n : Nat) (hn : n ≤ 100000000) (w : World) : (Instr.makeSlice 30 (.int .i64 (n : Int)) (.int .i64 (n : Int))).run Tryd.prog w = .ok (.slice (some ⟨w.heap.size, 0, none⟩) n n) (w.alloc (.cells (madeCells #[.int .u8 0] n) 5)) :=
  run_make_row' _ _ _ 1 Tryd.underlying30 Tryd.infoU8 rfl .i64 .i64 n (by omega) (by omega) w
theorem own_zer10 (n : Nat) (hn : n ≤ 100000000) (w : World) : OwnB w.heap.size (.slice (some ⟨w.heap.size, 0, none⟩) n n) (List.replicate n 0) (w.alloc (.cells (madeCells #[.int .u8 0] n) 5)) := by
  have e : (madeCells #[.int .u8 0] n).toList = Lib.byteCells (List.replicate n 0) := by have := made_bytes10 n; rw [Nat.mul_one] at this; exact this
  have e2 : (madeCells #[.int .u8 0] n).size = n := by rw [← Array.length_toList, e]; simp [Lib.byteCells]
  unfold OwnB
  rw [List.length_replicate]
  refine ⟨by simp [Lib.byteCells], .inr ⟨w.heap.size, n, madeCells #[.int .u8 0] n, rfl, Nat.le_refl _, heap_alloc_new _ _, Nat.le_refl _, by unfold maxLen; omega, by rw [e2, Nat.mul_one], ?_⟩⟩
  rw [e, Nat.mul_one, List.take_of_length_le (by simp [Lib.byteCells])]
def zerS (n : Nat) : ByteArray := ⟨(List.replicate n (0 : UInt8)).toArray⟩
theorem zerS_size (n : Nat) : (zerS n).size = n := by unfold zerS; show (List.replicate n (0 : UInt8)).toArray.size = n; simp
theorem conv_zer10 (n : Nat) (h1 : 1 ≤ n) (hn : n ≤ 100000000) (w : World) : (convert 30 9 (.slice (some ⟨w.heap.size, 0, none⟩) n n)).run Tryd.prog (w.alloc (.cells (madeCells #[.int .u8 0] n) 5)) = .ok (.string (zerS n)) (w.alloc (.cells (madeCells #[.int .u8 0] n) 5)) :=
  conv_own (own_zer10 n hn w) (by rw [List.length_replicate]; exact h1)
end Go.Proofs.YtdigpeipklfaeaaDoor
/-
  A byte of a row of one's own is read, and written.
  There are no conditions beyond those that each lemma names.
-/
namespace Go.Proofs.YtdigpeipklfaeaaDoor
open Go.RowKit
set_option maxRecDepth 100000

theorem own_set10 {B g n c k : Nat} {y : UInt8} {l : List UInt8} {w : World} (h : OwnB B (.slice (some ⟨g, 0, none⟩) n c) l w) (hn : l.length = n) (hk : k < l.length) : OwnB B (.slice (some ⟨g, 0, none⟩) n c) (l.set k y) (w.setCell ⟨g, k, none⟩ (.int .u8 (y.toNat : Int))) := by
  unfold OwnB at *
  rw [List.length_set]
  subst hn
  have e : Lib.byteCells (l.set k y) = (Lib.byteCells l).set k (.int .u8 (y.toNat : Int)) := by unfold Lib.byteCells; rw [List.map_set]
  rw [e]
  refine ⟨by rw [List.length_set]; exact h.1, ?_⟩
  rcases h.2 with ⟨hv, _⟩ | ⟨g2, c2, cur, hv, hB, hg2, h1, h2, h3, h4⟩
  · cases hv
  · injection hv with e1 _ e3
    injection e1 with e1
    injection e1 with e1 _
    subst e1; subst e3
    refine .inr ⟨g, c, cur.setIfInBounds k (.int .u8 (y.toNat : Int)), rfl, hB, heap_setCell_same w g k cur _ _ hg2, h1, h2, by simpa using h3, ?_⟩
    rw [Array.toList_setIfInBounds, List.take_set, h4]
theorem own_at10 {B n c : Nat} {A : Option Addr} {l : List UInt8} {w : World} (h : OwnB B (.slice A n c) l w) (hn : l.length = n) (k : Nat) (hk : k < n) :
    ∃ g, A = some ⟨g, 0, none⟩ ∧ B ≤ g ∧ g < w.heap.size ∧ (∀ j, w.frozen? ⟨g, j, none⟩ = false) ∧ w.cell? ⟨g, k, none⟩ = some (.int .u8 ((l[k]'(by omega)).toNat : Int)) := by
  have hlt := h.lt
  have hc := fun (g : Nat) (hg : (Value.slice A n c).ownBlock = some g) => World.ownsRow.cells h hg
  rcases h.2 with ⟨hv, h0⟩ | ⟨g, c2, cur, hv, hB, hg, _⟩
  · omega
  · injection hv with e1 _ _
    subst e1
    refine ⟨g, rfl, hB, (hlt g rfl).2, fun j => frozen_of_row w g j cur _ hg, ?_⟩
    have h2 := hc g rfl k (.int .u8 ((l[k]'(by omega)).toNat : Int)) (by simp [Lib.byteCells, show k < l.length by omega])
    rw [Addr.add_mid, Nat.zero_add] at h2; exact h2
theorem u8_of10 (k : Nat) : IntKind.u8.wrap (k : Int) = ((UInt8.ofNat k).toNat : Int) := by
  rw [IntKind.wrap_u8]
  simp
end Go.Proofs.YtdigpeipklfaeaaDoor
/-
  The beginning of a row of one's own.
  There are no conditions beyond those that each lemma names.
-/
namespace Go.Proofs.YtdigpeipklfaeaaDoor
open Go.RowKit
set_option maxRecDepth 100000

theorem own_take10 {B n c j : Nat} {A : Option Addr} {l : List UInt8} {w : World} (h : OwnB B (.slice A n c) l w) (hn : l.length = n) (hj : j ≤ n) : OwnB B (.slice A j c) (l.take j) w := by
  unfold OwnB at *
  have ej : (l.take j).length = j := by rw [List.length_take]; omega
  rw [ej]
  subst hn
  have e : Lib.byteCells (l.take j) = (Lib.byteCells l).take j := by unfold Lib.byteCells; rw [List.map_take]
  have ec : (Lib.byteCells l).length = l.length := by simp [Lib.byteCells]
  rw [e]
  refine ⟨by rw [List.length_take, ec]; omega, ?_⟩
  rcases h.2 with ⟨hv, h0⟩ | ⟨g2, c2, cur, hv, hB, hg2, h1, h2, h3, h4⟩
  · injection hv with e1 e2 e3
    subst e1; subst e3
    have : j = 0 := by omega
    subst this
    exact .inl ⟨rfl, rfl⟩
  · injection hv with e1 _ e3
    subst e1; subst e3
    refine .inr ⟨g2, c, cur, rfl, hB, hg2, by omega, h2, h3, ?_⟩
    rw [← h4, List.take_take]
    congr 1
    omega
end Go.Proofs.YtdigpeipklfaeaaDoor
/-
  Package frame's All tells the frames one behind the other as the plain relation says, in new memory.
  The bytes are there in memory, at most 1,000,000; package crc's table lies as it was laid.
-/
set_option linter.unusedSimpArgs false
set_option linter.unusedVariables false
namespace Go.Proofs.YtdigpeipklfaeaaDoor
open Go.RowKit Go.Deep
set_option maxRecDepth 100000

/-- the frames at the beginning, and how many bytes they take -/
inductive AllR : List UInt8 → List (Nat × List UInt8) → Nat → Prop
  | nil (l : List UInt8) (h : (openB l).2.2.2 ≠ 0) : AllR l [] 0
  | cons (l : List UInt8) (k : Nat) (b : List UInt8) (n : Nat) (fs : List (Nat × List UInt8)) (u : Nat) (h : openB l = (k, b, n, 0)) (h2 : AllR (l.drop n) fs u) : AllR l ((k, b) :: fs) (n + u)
theorem AllR.two {l : List UInt8} {fs : List (Nat × List UInt8)} {u : Nat} (h : AllR l fs u) : ∀ {gs : List (Nat × List UInt8)} {v : Nat}, AllR l gs v → fs = gs ∧ u = v := by
  induction h with
  | nil l h =>
    intro gs v h2
    cases h2 with
    | nil _ _ => exact ⟨rfl, rfl⟩
    | cons _ k b n fs u h3 h4 => rw [h3] at h; exact absurd rfl h
  | cons l k b n fs u h h2 ih =>
    intro gs v h3
    cases h3 with
    | nil _ h4 => rw [h] at h4; exact absurd rfl h4
    | cons _ k' b' n' fs' u' h4 h5 =>
      rw [h] at h4
      simp only [Prod.mk.injEq, and_true] at h4
      obtain ⟨rfl, rfl, rfl⟩ := h4
      obtain ⟨rfl, rfl⟩ := ih h5
      exact ⟨rfl, rfl⟩
theorem AllR.len {l : List UInt8} {fs : List (Nat × List UInt8)} {u : Nat} (h : AllR l fs u) : u ≤ l.length ∧ fs.length * 6 ≤ u := by
  induction h with
  | nil l h => exact ⟨Nat.zero_le _, Nat.le_refl _⟩
  | cons l k b n fs u h h2 ih =>
    have := openB_good h
    rw [List.length_drop] at ih
    simp only [List.length_cons]
    omega
/-- frames one behind the other -/
def catB (L : List (Nat × List UInt8)) : List UInt8 := L.flatMap fun p => sealB (p.1 : Int) p.2
theorem catB_snoc (L : List (Nat × List UInt8)) (p : Nat × List UInt8) : catB (L ++ [p]) = catB L ++ sealB (p.1 : Int) p.2 := by unfold catB; rw [List.flatMap_append]; simp
theorem AllR.cat {rest : List UInt8} {fs : List (Nat × List UInt8)} {u : Nat} (h : AllR rest fs u) : ∀ (L : List (Nat × List UInt8)), (∀ p ∈ L, 1 ≤ p.1 ∧ p.1 ≤ 255 ∧ p.2.length ≤ 4000) → AllR (catB L ++ rest) (L ++ fs) ((catB L).length + u)
  | [], _ => by simpa [catB] using h
  | p :: t, hp => by
    obtain ⟨h0, h1, h2⟩ := hp p (List.mem_cons_self ..)
    have ih := h.cat t (fun q hq => hp q (List.mem_cons_of_mem _ hq))
    have ho := openB_seal (p.1 : Int) p.2 (catB t ++ rest) (by omega) (by omega) h2
    have e : catB (p :: t) ++ rest = sealB (p.1 : Int) p.2 ++ (catB t ++ rest) := by unfold catB; rw [List.flatMap_cons, List.append_assoc]
    have e2 : (catB (p :: t)).length + u = (sealB (p.1 : Int) p.2).length + ((catB t).length + u) := by unfold catB; rw [List.flatMap_cons, List.length_append]; omega
    rw [e, e2]
    rw [Int.toNat_natCast] at ho
    refine AllR.cons _ p.1 p.2 _ _ _ ho ?_
    rw [List.drop_left]
    exact ih
def fcs (p : (Nat × List UInt8) × Value) : List Value := [.int .i64 (p.1.1 : Nat), p.2]
theorem fflat_at : ∀ (l : List ((Nat × List UInt8) × Value)) (k : Nat) (h : k < l.length) (j : Nat) (v : Value), (fcs l[k])[j]? = some v → (l.flatMap fcs)[k * 2 + j]? = some v
  | x :: t, 0, _, j, v, hv => by
    have hj : j < (fcs x).length := (List.getElem?_eq_some_iff.1 hv).1
    rw [List.flatMap_cons, Nat.zero_mul, Nat.zero_add, List.getElem?_append_left hj]; exact hv
  | x :: t, k + 1, h, j, v, hv => by
    have h3 : (fcs x).length = 2 := rfl
    rw [List.flatMap_cons, List.getElem?_append_right (by omega), h3, show (k + 1) * 2 + j - 2 = k * 2 + j by omega]
    exact fflat_at t k (by simpa using h) j v hv
theorem fcs_len (l : List ((Nat × List UInt8) × Value)) : (l.flatMap fcs).length = l.length * 2 := by
  induction l with
  | nil => rfl
  | cons x t ih =>
    have h3 : (fcs x).length = 2 := rfl
    rw [List.flatMap_cons, List.length_append, ih, h3, List.length_cons]; omega
theorem row_grown {B C e e2 s s2 n n2 : Nat} {v v2 : Value} {xs ys : List Value} {w w' : World} (h : w.ownsRow B e s v n xs) (h2 : w.ownsRow C e2 s2 v2 n2 ys) (hb : w.grownBy w' v2.ownBlock) (hne : e ≠ e2) : w'.ownsRow B e s v n xs := by
  refine ⟨h.1, ?_⟩
  rcases h.2 with h0 | ⟨g, c, cur, hv, hB, hg, r⟩
  · exact .inl h0
  · refine .inr ⟨g, c, cur, hv, hB, (hb.block g (Array.getElem?_eq_some_iff.1 hg).1 (fun ee => ?_)).trans hg, r⟩
    rcases h2.2 with ⟨hv2, _⟩ | ⟨g2, c2, cur2, hv2, _, hg2, _⟩
    · rw [hv2] at ee; cases ee
    · rw [hv2] at ee
      have e3 : g2 = g := (Option.some.inj (show some g = some g2 from ee)).symm
      subst e3
      rw [hg] at hg2
      injection hg2 with hg2
      injection hg2 with _ h4 _
      exact hne h4
theorem cells_new (w : World) (t : TypeId) (cs : List Value) : (w.alloc (.cells cs.toArray t)).rangeAt w.heap.size 0 cs := fun j v hj => by
  have hh : (w.alloc (.cells cs.toArray t)).heap[w.heap.size]? = some (.cells cs.toArray t (0, 0)) := heap_alloc_new _ _
  unfold World.cell?
  rw [hh]
  simpa using hj
theorem fopen_is (A : Option Addr) (n c B : Nat) (l : List UInt8) (r) (w : World) (h : Byt w B (.slice A n c) l) (hB : B ≤ w.heap.size) (hl : l.length ≤ 1000000) (hT : Tbl w) (hr : openB l = r) :
    Calls Tryd.prog 42 #[.slice A n c] w (GotO r w) := by
  rw [← hr, (byt_len h).1]
  exact fopen_any A c B l w (by rw [← (byt_len h).1]; exact h) hB hl hT
end Go.Proofs.YtdigpeipklfaeaaDoor
/-
  A byte of a slice is written: what the slice reads as behind it.
  There are no conditions beyond those that each lemma names.
-/
set_option linter.unusedSimpArgs false
set_option linter.unusedVariables false
namespace Go.Proofs.YtdigpeipklfaeaaDoor
open Go.RowKit
set_option maxRecDepth 100000

theorem byt_set {w : World} {B g n c k : Nat} {y : UInt8} {l : List UInt8} (h : Byt w B (.slice (some ⟨g, 0, none⟩) n c) l) (hk : k < l.length) :
    Byt (w.setCell ⟨g, k, none⟩ (.int .u8 (y.toNat : Int))) B (.slice (some ⟨g, 0, none⟩) n c) (l.set k y) := by
  obtain ⟨A', c', hv, hc, hcell⟩ := h
  injection hv with e1 e2 e3; subst e1; subst e3
  obtain ⟨g', o, hA, hg, hcs⟩ := hcell (by omega)
  injection hA with hA
  obtain ⟨rfl, rfl⟩ : g = g' ∧ 0 = o := by injection hA with a b; exact ⟨a, b⟩
  refine ⟨_, c, by rw [List.length_set, ← e2], by rw [List.length_set]; exact hc, fun _ => ⟨g, 0, rfl, hg, fun j hj => ?_⟩⟩
  have hj' : j < l.length := by rwa [List.length_set] at hj
  by_cases hjk : j = k
  · subst hjk
    rw [Nat.zero_add, List.getElem_set_self]
    have := hcs j hj'
    rw [Nat.zero_add] at this
    exact World.cell?_setCell_same _ _ _ this
  · rw [Nat.zero_add, List.getElem_set_ne (fun e => hjk e.symm)]
    have := hcs j hj'
    rw [Nat.zero_add] at this
    exact (World.cell?_setCell_other _ _ _ _ (by first | (simp; done) | (simp; omega))).trans this
theorem tbl_lt {w : World} (h : Tbl w) : 0 < w.heap.size := cell_lt (h 0 (by decide))
theorem tbl_keep2 {w w' : World} {B : Nat} (h : Tbl w) (hb : Below B w w') (hB : 0 < B) : Tbl w' := fun k hk =>
  (hb.cell (p := ⟨0, k, none⟩) hB).trans (h k hk)
theorem own_cells {B : Nat} {v : Value} {l : List UInt8} {w : World} (h : OwnB B v l w) (hl : 1 ≤ l.length) : ∃ g c, v = .slice (some ⟨g, 0, none⟩) l.length c ∧ g < w.heap.size ∧ (∀ j, w.frozen? ⟨g, j, none⟩ = false) ∧ ∀ j (h : j < l.length), w.cell? ⟨g, j, none⟩ = some (.int .u8 (l[j].toNat : Int)) := by
  obtain ⟨g, c, hv, hg, hcs⟩ := h.at_ hl
  subst hv
  refine ⟨g, c, rfl, hg, fun j => ?_, fun j hj => ?_⟩
  · rcases h.2 with ⟨hv, _⟩ | ⟨g', c', cur, hv, _, hh, _⟩
    · cases hv
    · injection hv with e1 _ _
      injection e1 with e1
      injection e1 with e1
      subst e1
      exact frozen_of_row w g j cur _ hh
  · have := hcs j (.int .u8 (l[j].toNat : Int)) (by simp [Lib.byteCells, hj])
    rw [Addr.add_mid, Nat.zero_add] at this; exact this
theorem short_to (A : Option Addr) (n c B m : Nat) (l z : List UInt8) (w : World) (h : Byt w B (.slice A n c) l) (hm : m ≤ 1000000) (hz : l.take m = z) :
    Calls Tryd.prog 20 #[.slice A n c, .int .i64 m] w fun e w' => ∃ A c, e = .returned (.slice A z.length c) ∧ Byt w' B (.slice A z.length c) z ∧ Below w.heap.size w w' := by
  refine (short_any A n c B m l w h hm).mono ?_
  rintro e w' ⟨A', c', rfl, hy, rfl⟩
  rw [hz] at hy ⊢
  exact ⟨A', c', rfl, hy, Below.refl _ _⟩
theorem u8_xor (x y : UInt8) : bits BinOp.xor IntKind.u8 (x.toNat : Int) (y.toNat : Int) = ((x ^^^ y).toNat : Int) := by
  have hx := x.toNat_lt; have hy := y.toNat_lt
  rw [u8_xor_nat _ _ (by omega) (by omega), UInt8.toNat_xor]
end Go.Proofs.YtdigpeipklfaeaaDoor
