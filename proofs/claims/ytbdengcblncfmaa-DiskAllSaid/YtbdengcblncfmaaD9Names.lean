/-
  Package disk's Names: the files' names, rising.
  The disk has at most 100,000 files.
-/
import Derived.Test.YtbdengcblncfmaaD9Ops
import Derived.Test.YtbdengcblncfmaaD9Iter
set_option linter.unusedSimpArgs false
set_option linter.unusedVariables false
namespace Go.Proofs.Ytbdengcblncfmaa
open Go.RowKit
set_option maxRecDepth 100000

theorem before_lt9 : ∀ (a b : List UInt8), bytesBefore a b = true → a < b
  | [], [], h => by cases h
  | [], _ :: _, _ => List.nil_lt_cons _ _
  | _ :: _, [], h => by cases h
  | a :: r, b :: s, h => by
    unfold bytesBefore at h
    rw [Bool.or_eq_true, Bool.and_eq_true] at h
    rw [List.cons_lt_cons_iff]
    rcases h with h | ⟨h1, h2⟩
    · exact .inl (by simpa using h)
    · exact .inr ⟨by simpa using h1, before_lt9 r s h2⟩
theorem names_sorted9 {l : List Fil} {ss : List (List UInt8)} (hs : Sorted9 l) (hp : ss.Perm (l.map fun f => f.name.data.toList)) : (ss.mergeSort fun x y => decide (x ≤ y)).map Go.Proofs.encStr = l.map fun f => .string f.name := by
  have e : (ss.mergeSort fun x y => decide (x ≤ y)) = (l.map fun f => f.name.data.toList) := by
    have h1 := mergeSort_of_perm hp
    have h2 : (ss.mergeSort fun x y => decide (x ≤ y)) = (l.map fun f => f.name.data.toList).mergeSort leB := h1
    rw [h2]
    refine List.mergeSort_of_pairwise (List.pairwise_map.2 (hs.imp fun {x y} hxy => ?_))
    exact decide_eq_true (List.le_of_lt (before_lt9 _ _ hxy))
  rw [e, List.map_map]
  apply List.map_congr_left
  intro f _
  rfl
theorem row_set9 {w : World} {B e s n c g j : Nat} {u : Value} {xs : List Value} (h : w.ownsRow B e s (.slice (some ⟨g, 0, none⟩) n c) n xs) (hj : xs[j]? = some u) : (w.setCell ⟨g, j, none⟩ u).ownsRow B e s (.slice (some ⟨g, 0, none⟩) n c) n xs := by
  obtain ⟨hjl, hju⟩ := List.getElem?_eq_some_iff.1 hj
  have hx : xs.set j u = xs := by rw [← hju]; exact List.set_getElem_self hjl
  refine ⟨h.1, ?_⟩
  rcases h.2 with ⟨hv, _⟩ | ⟨g2, c2, cur, hv, hB, hg2, h1, h2, h3, h4⟩
  · cases hv
  · injection hv with e1 _ e3
    injection e1 with e1
    injection e1 with e1 _
    subst e1; subst e3
    refine .inr ⟨g, c, cur.setIfInBounds j u, rfl, hB, heap_setCell_same w g j cur e u hg2, h1, h2, by simpa using h3, ?_⟩
    rw [Array.toList_setIfInBounds, List.take_set, h4, hx]
theorem row_frz9 {w : World} {B e s n c g j : Nat} {xs : List Value} (h : w.ownsRow B e s (.slice (some ⟨g, 0, none⟩) n c) n xs) : w.frozen? ⟨g, j, none⟩ = false := by
  rcases h.2 with ⟨hv, _⟩ | ⟨g2, c2, cur, hv, hB, hg2, _⟩
  · cases hv
  · injection hv with e1 _ e3
    injection e1 with e1
    injection e1 with e1 _
    subst e1
    exact frozen_of_row w g j cur e hg2
/-- the names told, ahead of the loop -/
theorem names9_mid (S : Nat → Prop) (g : Nat) (l : List Fil) (c : Nat) (m : Option Nat) (ps : List (Fil × Value)) (w : World) (h1 : ps.map (·.1) = l) (hm : Map9 w m ps) (hs : Sorted9 l) (hlen : l.length ≤ 100000) :
    Calls Try.prog 36 #[.func (.func 42) #[] #[.pointer (some ⟨w.heap.size, 0, none⟩)]] (w.alloc (.cells #[.map m] 55)) fun e w' => ∃ v, e = .returned v ∧ w'.ownsRow w.heap.size 9 1 v l.length (l.map fun f => .string f.name) ∧ Below w.heap.size w w' := by
  have hb0 := below_new w (.cells #[.map m] 55)
  have hpl : ps.length = l.length := by rw [← h1, List.length_map]
  cases m with
  | none =>
    have hm : ps = [] := hm
    subst hm
    have h1 : l = [] := h1.symm
    subst h1
    refine (sorted9_none w).mono ?_
    rintro e w' ⟨v, ss, rfl, rfl, hrow, _, hb⟩
    rw [names_sorted9 (l := []) List.Pairwise.nil List.Perm.nil] at hrow
    exact ⟨v, rfl, ownsRow_down hrow (by simp), hb0.trans (hb.mono (by simp))⟩
  | some b =>
    have hm : w.ownsMap Try.prog 9 RH b ps.length (DD ps) := hm
    refine (sorted9_some b ps.length (DD ps) w hm (by rw [dd_size]; unfold maxLen; omega) (by rw [dd_size]; omega)).mono ?_
    rintro e w' ⟨v, ss, rfl, hp, hrow, _, hb⟩
    rw [dd_keys] at hp
    have hp2 : ss.Perm (l.map fun f => f.name.data.toList) := by rw [← h1, List.map_map]; exact hp
    rw [names_sorted9 hs hp2] at hrow
    have hsl : ss.length = l.length := by rw [hp2.length_eq, List.length_map]
    rw [hsl] at hrow
    exact ⟨v, rfl, ownsRow_down hrow (by simp), hb0.trans (hb.mono (by simp))⟩
set_option maxHeartbeats 2000000 in
theorem names9_disk (S : Nat → Prop) (g : Nat) (l : List Fil) (c : Nat) (w : World) (h : PD w S g l c) (hlen : l.length ≤ 100000) :
    Calls Try.prog 26 #[.pointer (some ⟨g, 0, none⟩)] w fun e w' => ∃ v, e = .returned v ∧ w'.ownsRow w.heap.size 9 1 v l.length (l.map fun f => .string f.name) ∧ Below w.heap.size w w' := by
  obtain ⟨m, ps, h1, h2, h3, h4, h5, h6, h7, h8, h9, h10⟩ := h
  have hc0 := h3.cell0
  have H1 := Lib.hid h1
  have H5 := Lib.hid h5
  have H8 := Lib.hid h8
  have H9 := Lib.hid h9
  have HLEN := Lib.hid hlen
  obtain ⟨z, hz⟩ : ∃ z, l.length = z := ⟨_, rfl⟩
  have HZ := Lib.hid hz
  rw [hz] at hlen
  clear h1 h2 h3 h4 h5 h6 h7 h8 h9 h10 hz
  go_enter Try.func26, Try.ntmps26
  go_wp2_with fail
  refine (keys9 m w).mono ?_
  rintro e k ⟨rfl, rfl⟩
  go_wp2_with fail
  refine (names9_mid S g l c m ps w H1.out H5.out H8.out HLEN.out).mono ?_
  rintro e k ⟨v, rfl, hrow, hb⟩
  obtain ⟨xs, hxs⟩ : ∃ xs : List Value, (l.map fun f => .string f.name) = xs := ⟨_, rfl⟩
  rw [HZ.out, hxs] at hrow
  try rw [HZ.out]
  try rw [hxs]
  have HXS := Lib.hid hxs
  obtain ⟨A, ca, hv⟩ := own_slice hrow
  subst hv
  clear hxs
  go_wp2_with fail
  go_loopw [16] (fun i wr => ∃ k : Nat, i = .int .i64 k ∧ k ≤ z ∧ wr.ownsRow w.heap.size 9 1 (.slice A z ca) z xs ∧ Below w.heap.size w wr) (fun i _ => z - (intOf i).toNat)
  case atStart => exact ⟨0, rfl, Nat.zero_le _, hrow, hb⟩
  case round =>
    obtain ⟨k, rfl, hk, hr, hbw⟩ := hrel
    have HR := Lib.hid hr
    have HBW := Lib.hid hbw
    clear hr hbw hrow hb
    by_cases hlt : k < z
    · have hki : (k : Int) < z := by omega
      have hkl : k < l.length := by rw [HZ.out]; exact hlt
      obtain ⟨nm, hnm⟩ : ∃ nm, (l[k]'hkl).name = nm := ⟨_, rfl⟩
      have hxk : xs[k]? = some (.string nm) := by rw [← HXS.out, List.getElem?_map, List.getElem?_eq_getElem hkl, ← hnm]; rfl
      have hns : nm.size ≤ 10 := by
        have h1 := (H9.out _ (List.getElem_mem hkl)).1
        rw [hnm] at h1
        exact (goodN_size h1).2
      obtain ⟨gr, hA, hlo, hgr⟩ : ∃ gr, A = some ⟨gr, 0, none⟩ ∧ w.heap.size ≤ gr ∧ gr < wr.heap.size := by
        have hl2 := World.ownsRow.lt HR.out
        rcases HR.out.2 with ⟨hv, h0⟩ | ⟨g2, c2, cur, hv, _⟩
        · omega
        · injection hv with e1 _ _
          exact ⟨g2, e1, hl2 g2 (by rw [e1]; rfl)⟩
      subst hA
      have hcn : wr.cell? ⟨gr, k, none⟩ = some (.string nm) := by
        have := World.ownsRow.cells HR.out (g := gr) rfl k _ hxk
        rw [Addr.add_mid, Nat.zero_add] at this; exact this
      have HXK := Lib.hid hxk
      clear hxk hnm
      go_wp2_with fail
      refine (clone_any nm wr (by omega)).mono ?_
      rintro e k2 ⟨rfl, hk2⟩
      have hr2 := ownsRow_below HR.out hk2
      have hfz := row_frz9 (j := k) hr2
      have hcn2 : k2.cell? ⟨gr, k, none⟩ = some (.string nm) := (hk2.cell (p := ⟨gr, k, none⟩) hgr).trans hcn
      have HR2 := Lib.hid hr2
      have HB2 := Lib.hid (HBW.out.trans (hk2.mono HBW.out.size))
      clear hr2 hk2 hcn
      go_wp2
      go_roundw
      case rel => exact ⟨k + 1, by go_num, by omega, row_set9 HR2.out HXK.out, HB2.out.setCell (p := ⟨gr, k, none⟩) hlo _⟩
      case measure => simp [intOf]; omega
    · have hge : (z : Int) ≤ k := by omega
      clear hlt
      go_wp2
      go_ret
      refine ⟨_, rfl, ?_, HBW.out⟩
      rw [HZ.out, HXS.out]
      exact HR.out
end Go.Proofs.Ytbdengcblncfmaa
