/-
  slices.AppendSeq, Collect and Sorted of slices.Values, and package conf's Majority.
  Lists have at most 1,000 servers.
-/
import Derived.Lib.SlKeysI
import Derived.Test.YtoekiencnbgmhaaC12Seq
import Derived.Test.YtoekiencnbgmhaaC12Add
namespace Go.Proofs.Ytoekiencnbgmhaa
open Go.RowKit Go.Shelf Go.Sort
attribute [local go_sem] Oper.semAt_some
set_option maxRecDepth 100000

set_option maxHeartbeats 2000000 in
theorem appendSeq12 (A : Option Addr) (c : Nat) (L : List Int) (hL : L.length ≤ 1000) (Bs : Nat) (w : World) (hBs : Bs < w.heap.size) (hc : w.cell? ⟨Bs, 0, none⟩ = some (.slice A L.length c)) (hI : Ints w w.heap.size (.slice A L.length c) L) :
    Calls Try.prog 88 #[.slice none 0 0, .func (.func 83) #[] #[.pointer (some ⟨Bs, 0, none⟩)]] w fun e w' => ∃ v, e = .returned v ∧ OwnZ w.heap.size v L w' ∧ Below w.heap.size w w' := by
  obtain ⟨i0, hi, hz0, hz1, hz2⟩ := info_parts Try.infoInt
  refine (callsIn_wide (n := 4)).1 ?_
  refine callsIn_of_wp_marks Try.func88 rfl trivial ?_ rfl
  simp only [Try.ntmps88, List.size_toArray, List.length_cons, List.length_nil, Nat.reduceAdd, Nat.reduceSub, Array.replicate_succ, Array.replicate_zero, List.push_toArray, List.append_toArray, List.nil_append, List.cons_append]
  obtain ⟨W0, hW0⟩ : ∃ W0, w.alloc (.cells #[.slice none 0 0] 50) = W0 := ⟨_, rfl⟩
  have bx : Boxed W0 w.heap.size 50 (.slice none 0 0) := by rw [← hW0]; exact Boxed.new _ _ _
  have hb0 : Below w.heap.size w W0 := by rw [← hW0]; exact (Below.refl _ w).alloc (Nat.le_refl _) _
  have hz : W0.heap.size = w.heap.size + 1 := by rw [← hW0]; simp
  have hst := values_stops12 Fence.wide 3 trivial rfl (by omega) Bs w.heap.size A c L hL W0 (by omega) (by omega) ((hb0.cell (p := ⟨Bs, 0, none⟩) hBs).trans hc) (hI.keep hb0 (Nat.le_refl _))
  have HL := Lib.hid hL
  have HZ := Lib.hid hz
  clear hL hI hc hz
  gi_wp2
  refine wpIn_rangeFunc_ownG rfl (by omega) (gf := 83) (lb := #[.pointer (some ⟨Bs, 0, none⟩)]) rfl trivial (enters_of Try.func83 (by kernel_rfl) rfl)
    hst belowK_t (belowK_b (by have := HZ.out; omega)) (Below.refl _ _) (fun _ => rfl)
    (SeqI w.heap.size w.heap.size w)
    (fun _ _ _ => False)
    (seqI_own ⟨by have := HZ.out; omega, Nat.le_refl _⟩)
    (fun _ _ _ _ _ hs _ _ => hs)
    ⟨⟨_, bx, World.ownsRow_nil _ _ _ _, by simp⟩, hb0⟩
    (fun x => { tmps := #[.slice none 0 0, .func (.func 83) #[] #[.pointer (some ⟨Bs, 0, none⟩)], .pointer (some ⟨w.heap.size, 0, none⟩), undef, .slice none 0 0, .int .i64 x, .func (.func 83) #[] #[.pointer (some ⟨Bs, 0, none⟩)], .int .i64 x, undef, undef, undef, undef, undef], defers := [] }) ?assign ?body ?done ?stop
  case assign =>
    intro l x W K hK
    gi_wp2
    exact hK
  case body =>
    rintro l pre x W ⟨⟨v, hv, hrow, hnil⟩, hB⟩ hlt
    have hc := hv.cell
    have hp9 : pre.length < 1000 := by have := HL.out; omega
    gi_wp2_with (gi_at_builtin; refine wpListIn_append_own _ rfl _ _ 50 rfl w.heap.size 3 i0 (.int .i64 0) 1 8 Try.underlying50 hi hz0 hz1 hz2 rfl (by decide) _ _ _ rfl (hrow.alloc _) ⟨W.heap.size, 0, none⟩ 1 1 [.int .i64 x] rfl rfl (cell_one_new _ _ _) (by simp [Value.oneCell']) (by unfold maxLen; omega) (by omega) (by have := hB.size; simp; omega) ?_; intro v' w1 hown' hgrow _; obtain ⟨g', cap', rfl⟩ := ownsRow_succ hown'; obtain ⟨hv1, hv2, hr2, hk2, hb2⟩ := hv.appended (by decide) hrow hB.size (Nat.le_refl _) hown' hgrow; have hc1 := hv1.cell; have hf1 := hv1.frozen)
    exact ⟨hk2.from _, hb2, ⟨_, hv2, by rw [intCells_append, List.length_append]; exact hr2, by simp⟩, hB.trans hb2⟩
  case done =>
    rintro D ys W hD rfl ⟨⟨v, hv, hrow, hnil⟩, hB⟩ hK
    have hc := hv.cell
    gi_wp2
    refine ⟨by simp, .inl ⟨_, _, rfl, run_takeDeferred hK, ?_⟩⟩
    exact ⟨_, results_tmp rfl _ _ _, v, rfl, ownsRow_putObj hrow _ hK rfl, hB.trans (belowK_b (w := w) (Nat.le_refl _) W D _ _ (by have := HZ.out; omega) hK rfl rfl)⟩
  case stop =>
    rintro D c pre W _ _ h _
    exact h.elim
set_option maxHeartbeats 1000000 in
theorem collect12 (A : Option Addr) (c : Nat) (L : List Int) (hL : L.length ≤ 1000) (Bs : Nat) (w : World) (hBs : Bs < w.heap.size) (hc : w.cell? ⟨Bs, 0, none⟩ = some (.slice A L.length c)) (hI : Ints w w.heap.size (.slice A L.length c) L) :
    Calls Try.prog 81 #[.func (.func 83) #[] #[.pointer (some ⟨Bs, 0, none⟩)]] w fun e w' => ∃ v, e = .returned v ∧ OwnZ w.heap.size v L w' ∧ Below w.heap.size w w' := by
  have ha := appendSeq12 A c L hL Bs w hBs hc hI
  clear hc hI hL
  go_enter Try.func81, Try.ntmps81
  go_wp2_with fail
  refine ha.mono ?_
  rintro e w' ⟨v, rfl, h1, h2⟩
  go_wp2
  go_ret
  exact ⟨v, rfl, h1, h2⟩
/-- sorted -/
def sort12 (l : List Int) : List Int := l.mergeSort fun x y => decide (x ≤ y)
theorem sort12_len (l : List Int) : (sort12 l).length = l.length := List.length_mergeSort _
theorem sort12_sorted (l : List Int) : (sort12 l).Pairwise (· ≤ ·) := by
  have := List.pairwise_mergeSort (le := fun x y : Int => decide (x ≤ y)) (fun a b c h1 h2 => by simp at *; omega) (fun a b => by simp; omega) l
  exact this.imp fun h => by simpa using h
theorem sort12_contains (l : List Int) (x : Int) : (sort12 l).contains x = l.contains x := by
  rw [Bool.eq_iff_iff]
  simp only [List.contains_iff_mem]
  exact (List.mergeSort_perm l _).mem_iff
theorem holds12 {w : World} {B g n c : Nat} {l : List Int} (h : OwnZ B (.slice (some ⟨g, 0, none⟩) n c) l w) : Holds (Value.int .i64) w g 0 l.toArray := by
  rcases h.2 with ⟨hv, _⟩ | ⟨g', cap, cur, hv, hb, hg, h1, h2, h3, h4⟩
  · cases hv
  · injection hv with e1 e2 e3
    injection e1 with e1
    injection e1 with e1
    subst e1
    exact holds_of_block_i hg (by simpa [intCells] using h4)
set_option maxHeartbeats 1000000 in
theorem sorted12 (A : Option Addr) (c : Nat) (L : List Int) (hL : L.length ≤ 1000) (Bs : Nat) (w : World) (hBs : Bs < w.heap.size) (hc : w.cell? ⟨Bs, 0, none⟩ = some (.slice A L.length c)) (hI : Ints w w.heap.size (.slice A L.length c) L) :
    Calls Try.prog 70 #[.func (.func 83) #[] #[.pointer (some ⟨Bs, 0, none⟩)]] w fun e w' => ∃ v, e = .returned v ∧ OwnZ w.heap.size v (sort12 L) w' ∧ Below w.heap.size w w' := by
  have ha := collect12 A c L hL Bs w hBs hc hI
  have HL := Lib.hid hL
  clear hc hI hL
  go_enter Try.func70, Try.ntmps70
  go_wp2_with fail
  refine ha.mono ?_
  rintro e w1 ⟨v, rfl, h1, h2⟩
  rcases id h1.2 with ⟨rfl, hz⟩ | ⟨gb, cap, cur, rfl, hbase, hgb, r1, r2, r3, r4⟩
  · have hss : L = [] := List.eq_nil_of_length_eq_zero hz
    subst hss
    have hn : Calls Try.prog 82 #[.slice none 0 0] w1 fun e w' => e = .returned (.tuple #[]) ∧ w' = w1 := by
      first
      | exact Try.slices_Sort_int_none none 0 w1
      | exact Try.slices_Sort_int_none_f82 none 0 w1
    clear ha hz HL
    go_wp2_with fail
    refine hn.mono ?_
    rintro e w' ⟨rfl, rfl⟩
    go_wp2
    go_ret
    refine ⟨.slice none 0 0, rfl, ?_, h2⟩
    rw [show sort12 [] = [] by simp [sort12]]
    exact OwnZ.nil _ _
  · have hH := holds12 h1
    have hgl : gb < w1.heap.size := (Array.getElem?_eq_some_iff.1 hgb).1
    have hS : Calls Try.prog 82 #[.slice (some ⟨gb, 0, none⟩) L.length cap] w1 fun e w' => e = .returned (.tuple #[]) ∧ ∃ n os, w' = grow (putRow (Value.int .i64) (Go.Sort.ahead w1 n) gb 0 (L.mergeSort fun x y => decide (x ≤ y)).toArray) os := by
      first
      | exact Try.slices_Sort_int gb 0 cap L w1 hH hgl (by have := HL.out; omega)
      | exact Try.slices_Sort_int_f82 gb 0 cap L w1 hH hgl (by have := HL.out; omega)
    obtain ⟨n, hn⟩ : ∃ n, L.length = n := ⟨_, rfl⟩
    rw [hn] at hS ⊢
    have HN := Lib.hid hn
    have HG := Lib.hid hgb
    have H1 := Lib.hid r1
    have H2 := Lib.hid r2
    have H3 := Lib.hid r3
    clear ha hn hH h1 hgb r1 r2 r3 r4
    go_wp2_with fail
    refine hS.mono ?_
    rintro e w' ⟨rfl, nn, os, rfl⟩
    go_wp2
    go_ret
    have hr := ownsRow_sorted_i (ss := L) (ts := sort12 L) (n := nn) (os := os) (sort12_len L) hbase HG.out (by rw [HN.out]; have := H1.out; rw [HN.out] at this; exact this) H2.out H3.out
    refine ⟨_, rfl, ?_, h2.grown (grownBy_sorted_i _) h2.size (fun j hj => by cases hj; exact hbase)⟩
    unfold OwnZ
    rw [sort12_len]
    rw [← HN.out]
    exact hr
theorem count_contains12 (L M : List Int) : L.countP (fun x => (sort12 M).contains x) = L.countP (fun x => M.contains x) := by
  congr 1; funext x; exact sort12_contains M x
end Go.Proofs.Ytoekiencnbgmhaa
