/-
  Contracts of the program's functions, of the reference's, and plain lemmas on what they answer (last part).
  Each lemma names its conditions.
-/
import Derived.Test.YtdigpeipklfaeaaDoorBun1
import Derived.Deep.OwnRows
import Derived.Great.Walk
import Derived.Test.YtdigpeipklfaeaaDoorBun4
/-
  A row of so many zeros that has just been made, and its text.
  There are at most 100,000,000.
-/
namespace Go.Proofs.YtdigpeipklfaeaaDoor
open Go.RowKit
set_option maxRecDepth 100000

theorem made_bytes10 (n : Nat) : (madeCells (Value.int .u8 0).cells (n * 1)).toList = Lib.byteCells (List.replicate n 0) := by
  unfold Lib.byteCells madeCells
  rw [List.map_replicate]
  apply List.ext_getElem
  · simp
  · intro i h1 h2
    simp [Value.cells, Nat.mod_one]
theorem make_zer10 (n : Nat) (hn : n ≤ 100000000) (w : World) : (Instr.makeSlice 30 (.int .i64 (n : Int)) (.int .i64 (n : Int))).run Tryd.prog w = .ok (.slice (some ⟨w.heap.size, 0, none⟩) n n) (w.alloc (.cells (madeCells #[.int .u8 0] n) 5)) :=
  run_make_row' _ _ _ 1 Tryd.underlying30 Tryd.infoU8 rfl .i64 .i64 n (by omega) (by omega) w
theorem own_zer10 (n : Nat) (hn : n ≤ 100000000) (w : World) : OwnB w.heap.size (.slice (some ⟨w.heap.size, 0, none⟩) n n) (List.replicate n 0) (w.alloc (.cells (madeCells #[.int .u8 0] n) 5)) := by
  have e : (madeCells #[.int .u8 0] n).toList = Lib.byteCells (List.replicate n 0) := by have := made_bytes10 n; rw [Nat.mul_one] at this; exact this
  have e2 : (madeCells #[.int .u8 0] n).size = n := by rw [← Array.length_toList, e]; simp [Lib.byteCells]
  unfold OwnB
  rw [List.length_replicate]
  refine ⟨by simp [Lib.byteCells], .inr ⟨w.heap.size, n, madeCells #[.int .u8 0] n, rfl, Nat.le_refl _, heap_alloc_new _ _, Nat.le_refl _, by unfold maxLen; omega, by rw [e2, Nat.mul_one], ?_⟩⟩
  rw [e, Nat.mul_one, List.take_of_length_le (by simp [Lib.byteCells])]
def zerS (n : Nat) : ByteArray := ⟨(List.replicate n (0 : UInt8)).toArray⟩
theorem zerS_size (n : Nat) : (zerS n).size = n := by unfold zerS; show (List.replicate n (0 : UInt8)).toArray.size = n; simp
theorem conv_zer10 (n : Nat) (h1 : 1 ≤ n) (hn : n ≤ 100000000) (w : World) : (convert 30 9 (.slice (some ⟨w.heap.size, 0, none⟩) n n)).run Tryd.prog (w.alloc (.cells (madeCells #[.int .u8 0] n) 5)) = .ok (.string (zerS n)) (w.alloc (.cells (madeCells #[.int .u8 0] n) 5)) :=
  conv_own (own_zer10 n hn w) (by rw [List.length_replicate]; exact h1)
end Go.Proofs.YtdigpeipklfaeaaDoor
/-
  A byte of a row of one's own is read, and written.
  There are no conditions beyond those that each lemma names.
-/
namespace Go.Proofs.YtdigpeipklfaeaaDoor
open Go.RowKit
set_option maxRecDepth 100000

theorem own_set10 {B g n c k : Nat} {y : UInt8} {l : List UInt8} {w : World} (h : OwnB B (.slice (some ⟨g, 0, none⟩) n c) l w) (hn : l.length = n) (hk : k < l.length) : OwnB B (.slice (some ⟨g, 0, none⟩) n c) (l.set k y) (w.setCell ⟨g, k, none⟩ (.int .u8 (y.toNat : Int))) := by
  unfold OwnB at *
  rw [List.length_set]
  subst hn
  have e : Lib.byteCells (l.set k y) = (Lib.byteCells l).set k (.int .u8 (y.toNat : Int)) := by unfold Lib.byteCells; rw [List.map_set]
  rw [e]
  refine ⟨by rw [List.length_set]; exact h.1, ?_⟩
  rcases h.2 with ⟨hv, _⟩ | ⟨g2, c2, cur, hv, hB, hg2, h1, h2, h3, h4⟩
  · cases hv
  · injection hv with e1 _ e3
    injection e1 with e1
    injection e1 with e1 _
    subst e1; subst e3
    refine .inr ⟨g, c, cur.setIfInBounds k (.int .u8 (y.toNat : Int)), rfl, hB, heap_setCell_same w g k cur _ _ hg2, h1, h2, by simpa using h3, ?_⟩
    rw [Array.toList_setIfInBounds, List.take_set, h4]
theorem own_at10 {B n c : Nat} {A : Option Addr} {l : List UInt8} {w : World} (h : OwnB B (.slice A n c) l w) (hn : l.length = n) (k : Nat) (hk : k < n) :
    ∃ g, A = some ⟨g, 0, none⟩ ∧ B ≤ g ∧ g < w.heap.size ∧ (∀ j, w.frozen? ⟨g, j, none⟩ = false) ∧ w.cell? ⟨g, k, none⟩ = some (.int .u8 ((l[k]'(by omega)).toNat : Int)) := by
  have hlt := h.lt
  have hc := fun (g : Nat) (hg : (Value.slice A n c).ownBlock = some g) => World.ownsRow.cells h hg
  rcases h.2 with ⟨hv, h0⟩ | ⟨g, c2, cur, hv, hB, hg, _⟩
  · omega
  · injection hv with e1 _ _
    subst e1
    refine ⟨g, rfl, hB, (hlt g rfl).2, fun j => frozen_of_row w g j cur _ hg, ?_⟩
    have h2 := hc g rfl k (.int .u8 ((l[k]'(by omega)).toNat : Int)) (by simp [Lib.byteCells, show k < l.length by omega])
    rw [Addr.add_mid, Nat.zero_add] at h2; exact h2
theorem u8_of10 (k : Nat) : IntKind.u8.wrap (k : Int) = ((UInt8.ofNat k).toNat : Int) := by
  rw [IntKind.wrap_u8]
  simp
end Go.Proofs.YtdigpeipklfaeaaDoor
/-
  Records one behind the other: what they read as, also where the last one is torn.
  There are no conditions beyond those that each lemma names.
-/
namespace Go.Proofs.YtdigpeipklfaeaaDoor
open Go.RowKit
set_option maxRecDepth 100000

/-- the bytes of records one behind the other -/
def encs10 (rs : List Rcd) : List UInt8 := rs.flatMap encR10
theorem encs10_snoc (rs : List Rcd) (r : Rcd) : encs10 (rs ++ [r]) = encs10 rs ++ encR10 r := by unfold encs10; rw [List.flatMap_append]; simp
theorem encs10_cons (rs : List Rcd) (r : Rcd) : encs10 (r :: rs) = encR10 r ++ encs10 rs := by unfold encs10; rw [List.flatMap_cons]
theorem encs10_len : ∀ rs : List Rcd, (encs10 rs).length ≤ 2607 * rs.length
  | [] => by simp [encs10]
  | r :: rs => by
    have := encs10_len rs
    have := enc10_short r
    rw [encs10_cons, List.length_append, List.length_cons]; omega
/-- where the last one begins -/
def Last10 (rs : List Rcd) (L : Nat) : Prop := (rs = [] ∧ L = 0) ∨ ∃ rs' r, rs = rs' ++ [r] ∧ L = (encs10 rs').length
theorem scr_torn10 (t : List UInt8) (e : Nat) (ht : decR10 t = (zRcd, 0, e)) (he : e ≠ 0) : ∀ rs : List Rcd, (∀ r ∈ rs, may10 r = true) → ScR (encs10 rs ++ t) rs (encs10 rs).length e
  | [], _ => by simpa [encs10] using ScR.nil t e ht he
  | r :: rs, h => by
    have hr := h r (List.mem_cons_self ..)
    have ih := scr_torn10 t e ht he rs fun q hq => h q (List.mem_cons_of_mem _ hq)
    rw [encs10_cons, List.append_assoc, List.length_append]
    refine ScR.cons _ r _ rs _ e (decR10_enc hr _) ?_
    rw [List.drop_left]; exact ih
theorem byt_take10 {w : World} {B n c : Nat} {A : Option Addr} {l : List UInt8} (h : Byt w B (.slice A l.length c) l) (hn : n ≤ l.length) : Byt w B (.slice A n c) (l.take n) := by
  obtain ⟨A', c', hv, hc, hcell⟩ := h
  injection hv with e1 _ e2; subst e1; subst e2
  have e : (l.take n).length = n := by rw [List.length_take]; omega
  refine ⟨A, c, by rw [e], by rw [e]; omega, fun h0 => ?_⟩
  rw [e] at h0
  obtain ⟨g, o, rfl, hg, hcs⟩ := hcell (by omega)
  refine ⟨g, o, rfl, hg, fun k hk => ?_⟩
  rw [e] at hk
  rw [hcs k (by omega)]; simp
end Go.Proofs.YtdigpeipklfaeaaDoor
