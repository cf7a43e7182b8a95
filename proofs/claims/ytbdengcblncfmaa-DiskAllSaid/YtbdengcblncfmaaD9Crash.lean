/-
  Package disk's Crash: what lasts of each file, and of its loose bytes so many.
  The disk has at most 100,000 files.
-/
import Derived.Test.YtbdengcblncfmaaD9Ops
import Derived.Maps.RangeWalk
import Derived.Test.YtbdengcblncfmaaD9Left
set_option linter.unusedSimpArgs false
set_option linter.unusedVariables false
namespace Go.Proofs.Ytbdengcblncfmaa
open Go.RowKit
set_option maxRecDepth 100000

set_option maxHeartbeats 2000000 in
theorem fcrash9_neg (A : Option Addr) (q ca fa k : Nat) (th : Bool) (bs : List UInt8) (n : Int) (w : World) (hb : Byt w w.heap.size (.slice A q ca) bs) (hq : bs.length = q) (hfa : fa ≤ q) (hq2 : q ≤ 1048576) (hn : ¬ 0 < n) (hn2 : n < 9223372036854775808)
    (hk : k = 0) (hkq : fa + k ≤ q) :
    Calls Try.prog 34 #[.agg #[.slice A q ca, .int .i64 ((fa : Nat) : Int), .bool th], .int .i64 n] w fun e w' => (if fa + k = 0 ∧ th = false then e = .returned (.tuple #[.agg #[.slice none 0 0, .int .i64 0, .bool false], .bool false]) else
      ∃ u, e = .returned (.tuple #[.agg #[u, .int .i64 ((fa + k : Nat) : Int), .bool true], .bool true]) ∧ OwnB w.heap.size u (bs.take (fa + k)) w') ∧ Below w.heap.size w w' := by
  have hca := (byt_cap9 hb).2
  obtain ⟨s, hs⟩ : ∃ s, fa + k = s := ⟨_, rfl⟩
  have hs2 : ((fa : Nat) : Int) + ((k : Nat) : Int) = ((s : Nat) : Int) := by omega
  have hwk : IntKind.i64.wrap ((fa : Int) + (k : Int)) = ((s : Nat) : Int) := by rw [IntKind.wrap_i64]; omega
  rw [hs]
  rw [hs] at hkq
  have hsca : (s : Int) ≤ ca := by omega
  have htk := byt_take9 (j := s) (l := bs) (A := A) (c := ca) (w := w) (B := w.heap.size) (by rw [hq]; exact hb) (by omega)
  have hw1 := below_new w (.cells #[.slice A q ca, .int .i64 ((fa : Nat) : Int), .bool th] 59)
  have hbx1 := Blk.new w #[.slice A q ca, .int .i64 ((fa : Nat) : Int), .bool th] 59
  obtain ⟨W0, hW0⟩ : ∃ W0, w.alloc (.cells #[.slice A q ca, .int .i64 ((fa : Nat) : Int), .bool th] 59) = W0 := ⟨_, rfl⟩
  have hz0 : W0.heap.size = w.heap.size + 1 := by rw [← hW0]; simp
  rw [hW0] at hw1 hbx1
  have hw2 := below_new W0 (.cells #[.slice none 0 0, .int .i64 0, .bool false] 59)
  have hbx2 := hbx1.below hw2
  have hby2 := Blk.new W0 #[.slice none 0 0, .int .i64 0, .bool false] 59
  obtain ⟨W1, hW1⟩ : ∃ W1, W0.alloc (.cells #[.slice none 0 0, .int .i64 0, .bool false] 59) = W1 := ⟨_, rfl⟩
  have hz1 : W1.heap.size = W0.heap.size + 1 := by rw [← hW1]; simp
  rw [hW1] at hw2 hbx2 hby2
  rw [hz0] at hby2 hz1
  have hb01 : Below w.heap.size w W1 := hw1.trans (hw2.mono (by omega))
  have HB01 := Lib.hid hb01
  have HBX := Lib.hid hbx2
  have HBY := Lib.hid hby2
  have HZ0 := Lib.hid hz0
  have HZ1 := Lib.hid hz1
  have HTK := Lib.hid htk
  have HBS : Hid (bs.length = q) := Lib.hid hq
  have y0 := hbx2.cell (j := 0) rfl
  have y1 := hbx2.cell (j := 1) rfl
  have y2 := hbx2.cell (j := 2) rfl
  have v0 := hby2.cell (j := 0) rfl
  have v1 := hby2.cell (j := 1) rfl
  have v2 := hby2.cell (j := 2) rfl
  have f0 := hby2.frz 0
  have f1 := hby2.frz 1
  have f2 := hby2.frz 2
  clear hb01 hw1 hw2 hbx1 hbx2 hby2 htk hb hq
  subst hk
  have hsf : fa = s := by omega
  subst hsf
  clear hs2 hwk
  by_cases h0 : fa = 0 ∧ th = false
  · simp only [if_pos h0]
    obtain ⟨h0, rfl⟩ := h0
    subst h0
    replace hW0 : w.alloc (.cells #[.slice A q ca, .int .i64 0, .bool false] 59) = W0 := hW0
    replace y1 : W1.cell? ⟨w.heap.size, 1, none⟩ = some (.int .i64 0) := y1
    go_enter Try.func34, Try.ntmps34
    go_wp2
    refine bodyPost_ret (v := .tuple #[.agg #[.slice none 0 0, .int .i64 0, .bool false], .bool false]) (by simp [results, Try.results34, go_sem, v0, v1, v2]) rfl ⟨rfl, ?_⟩
    exact ((HB01.out.setCell (p := ⟨w.heap.size + 1, 0, none⟩) (Nat.le_succ _) _).setCell (p := ⟨w.heap.size + 1, 1, none⟩) (Nat.le_succ _) _).setCell (p := ⟨w.heap.size + 1, 2, none⟩) (Nat.le_succ _) _
  · simp only [if_neg h0]
    have hcs : (fa = 0 ∧ th = true) ∨ ¬ fa = 0 := by
      rcases Nat.eq_zero_or_pos fa with h | h
      · cases th
        · exact absurd ⟨h, rfl⟩ h0
        · exact .inl ⟨h, rfl⟩
      · exact .inr (by omega)
    clear h0
    rcases hcs with ⟨h0, rfl⟩ | h0
    · subst h0
      replace hW0 : w.alloc (.cells #[.slice A q ca, .int .i64 0, .bool true] 59) = W0 := hW0
      replace y1 : W1.cell? ⟨w.heap.size, 1, none⟩ = some (.int .i64 0) := y1
      go_enter Try.func34, Try.ntmps34
      go_wp2_with fail
      have hby := (HTK.out.below HB01.out (Nat.le_refl _)).more HB01.out.size
      refine (lasting9_any _ W1.heap.size (bs.take 0) W1 hby (Nat.le_refl _) (by rw [List.length_take]; omega)).mono ?_
      rintro e k2 ⟨u2, rfl, hu2, hk2⟩
      have hln : (bs.take 0).length = 0 := by rw [List.length_take, HBS.out]; omega
      rw [hln]
      obtain ⟨A2, c2, hu2v⟩ := own_slice hu2
      rw [hln] at hu2v
      subst hu2v
      have hbk := HBY.out.below hk2
      replace v0 := hbk.cell (j := 0) rfl
      replace v1 := hbk.cell (j := 1) rfl
      replace v2 := hbk.cell (j := 2) rfl
      replace f0 := hbk.frz 0
      replace f1 := hbk.frz 1
      replace f2 := hbk.frz 2
      have hlo : w.heap.size + 1 < W1.heap.size := HBY.out.lt
      have HU2 := Lib.hid (hu2.down (show w.heap.size + 2 ≤ _ by omega))
      have HB2 := Lib.hid (HB01.out.trans (hk2.mono HB01.out.size))
      clear hk2 hbk hu2 hby hln
      go_wp2
      refine bodyPost_ret (v := .tuple #[.agg #[.slice A2 0 c2, .int .i64 ((0 : Nat) : Int), .bool true], .bool true]) (by simp [results, Try.results34, go_sem, v0, v1, v2]) rfl ⟨⟨_, rfl, ?_⟩, ?_⟩
      · exact (ownsRow_down (ownsRow_set (p := ⟨w.heap.size + 1, 2, none⟩) (ownsRow_set (p := ⟨w.heap.size + 1, 1, none⟩) (ownsRow_set (p := ⟨w.heap.size + 1, 0, none⟩) HU2.out (Nat.lt_succ_self _)) (Nat.lt_succ_self _)) (Nat.lt_succ_self _)) (by omega) : OwnB w.heap.size _ (bs.take 0) _)
      · exact ((HB2.out.setCell (p := ⟨w.heap.size + 1, 0, none⟩) (Nat.le_succ _) _).setCell (p := ⟨w.heap.size + 1, 1, none⟩) (Nat.le_succ _) _).setCell (p := ⟨w.heap.size + 1, 2, none⟩) (Nat.le_succ _) _
    · have h0i : ¬ ((fa : Nat) : Int) = 0 := by omega
      have h0b : (((fa : Nat) : Int) == 0) = false := by simpa using h0
      go_enter Try.func34, Try.ntmps34
      go_wp2_with fail
      have hby := (HTK.out.below HB01.out (Nat.le_refl _)).more HB01.out.size
      refine (lasting9_any _ W1.heap.size (bs.take fa) W1 hby (Nat.le_refl _) (by rw [List.length_take]; omega)).mono ?_
      rintro e k2 ⟨u2, rfl, hu2, hk2⟩
      have hln : (bs.take fa).length = fa := by rw [List.length_take, HBS.out]; omega
      rw [hln]
      obtain ⟨A2, c2, hu2v⟩ := own_slice hu2
      rw [hln] at hu2v
      subst hu2v
      have hbk := HBY.out.below hk2
      replace v0 := hbk.cell (j := 0) rfl
      replace v1 := hbk.cell (j := 1) rfl
      replace v2 := hbk.cell (j := 2) rfl
      replace f0 := hbk.frz 0
      replace f1 := hbk.frz 1
      replace f2 := hbk.frz 2
      have hlo : w.heap.size + 1 < W1.heap.size := HBY.out.lt
      have HU2 := Lib.hid (hu2.down (show w.heap.size + 2 ≤ _ by omega))
      have HB2 := Lib.hid (HB01.out.trans (hk2.mono HB01.out.size))
      clear hk2 hbk hu2 hby hln
      go_wp2
      refine bodyPost_ret (v := .tuple #[.agg #[.slice A2 fa c2, .int .i64 ((fa : Nat) : Int), .bool true], .bool true]) (by simp [results, Try.results34, go_sem, v0, v1, v2]) rfl ⟨⟨_, rfl, ?_⟩, ?_⟩
      · exact (ownsRow_down (ownsRow_set (p := ⟨w.heap.size + 1, 2, none⟩) (ownsRow_set (p := ⟨w.heap.size + 1, 1, none⟩) (ownsRow_set (p := ⟨w.heap.size + 1, 0, none⟩) HU2.out (Nat.lt_succ_self _)) (Nat.lt_succ_self _)) (Nat.lt_succ_self _)) (by omega) : OwnB w.heap.size _ (bs.take fa) _)
      · exact ((HB2.out.setCell (p := ⟨w.heap.size + 1, 0, none⟩) (Nat.le_succ _) _).setCell (p := ⟨w.heap.size + 1, 1, none⟩) (Nat.le_succ _) _).setCell (p := ⟨w.heap.size + 1, 2, none⟩) (Nat.le_succ _) _
set_option maxHeartbeats 2000000 in
theorem fcrash9_pos (A : Option Addr) (q ca fa k : Nat) (th : Bool) (bs : List UInt8) (n : Int) (w : World) (hb : Byt w w.heap.size (.slice A q ca) bs) (hq : bs.length = q) (hfa : fa ≤ q) (hq2 : q ≤ 1048576) (hn : 0 < n) (hn2 : n < 9223372036854775808)
    (hk : n.tmod ((q : Int) - fa + 1) = (k : Nat)) (hkq : fa + k ≤ q) :
    Calls Try.prog 34 #[.agg #[.slice A q ca, .int .i64 ((fa : Nat) : Int), .bool th], .int .i64 n] w fun e w' => (if fa + k = 0 ∧ th = false then e = .returned (.tuple #[.agg #[.slice none 0 0, .int .i64 0, .bool false], .bool false]) else
      ∃ u, e = .returned (.tuple #[.agg #[u, .int .i64 ((fa + k : Nat) : Int), .bool true], .bool true]) ∧ OwnB w.heap.size u (bs.take (fa + k)) w') ∧ Below w.heap.size w w' := by
  have hca := (byt_cap9 hb).2
  obtain ⟨s, hs⟩ : ∃ s, fa + k = s := ⟨_, rfl⟩
  have hs2 : ((fa : Nat) : Int) + ((k : Nat) : Int) = ((s : Nat) : Int) := by omega
  have hwk : IntKind.i64.wrap ((fa : Int) + (k : Int)) = ((s : Nat) : Int) := by rw [IntKind.wrap_i64]; omega
  rw [hs]
  rw [hs] at hkq
  have hsca : (s : Int) ≤ ca := by omega
  have htk := byt_take9 (j := s) (l := bs) (A := A) (c := ca) (w := w) (B := w.heap.size) (by rw [hq]; exact hb) (by omega)
  have hw1 := below_new w (.cells #[.slice A q ca, .int .i64 ((fa : Nat) : Int), .bool th] 59)
  have hbx1 := Blk.new w #[.slice A q ca, .int .i64 ((fa : Nat) : Int), .bool th] 59
  obtain ⟨W0, hW0⟩ : ∃ W0, w.alloc (.cells #[.slice A q ca, .int .i64 ((fa : Nat) : Int), .bool th] 59) = W0 := ⟨_, rfl⟩
  have hz0 : W0.heap.size = w.heap.size + 1 := by rw [← hW0]; simp
  rw [hW0] at hw1 hbx1
  have hw2 := below_new W0 (.cells #[.slice none 0 0, .int .i64 0, .bool false] 59)
  have hbx2 := hbx1.below hw2
  have hby2 := Blk.new W0 #[.slice none 0 0, .int .i64 0, .bool false] 59
  obtain ⟨W1, hW1⟩ : ∃ W1, W0.alloc (.cells #[.slice none 0 0, .int .i64 0, .bool false] 59) = W1 := ⟨_, rfl⟩
  have hz1 : W1.heap.size = W0.heap.size + 1 := by rw [← hW1]; simp
  rw [hW1] at hw2 hbx2 hby2
  rw [hz0] at hby2 hz1
  have hb01 : Below w.heap.size w W1 := hw1.trans (hw2.mono (by omega))
  have HB01 := Lib.hid hb01
  have HBX := Lib.hid hbx2
  have HBY := Lib.hid hby2
  have HZ0 := Lib.hid hz0
  have HZ1 := Lib.hid hz1
  have HTK := Lib.hid htk
  have HBS : Hid (bs.length = q) := Lib.hid hq
  have y0 := hbx2.cell (j := 0) rfl
  have y1 := hbx2.cell (j := 1) rfl
  have y2 := hbx2.cell (j := 2) rfl
  have v0 := hby2.cell (j := 0) rfl
  have v1 := hby2.cell (j := 1) rfl
  have v2 := hby2.cell (j := 2) rfl
  have f0 := hby2.frz 0
  have f1 := hby2.frz 1
  have f2 := hby2.frz 2
  clear hb01 hw1 hw2 hbx1 hbx2 hby2 htk hb hq
  obtain ⟨x, hx⟩ : ∃ x : Int, (q : Int) - fa = x := ⟨_, rfl⟩
  have hlz := fun w => loose9_any A q ca (fa : Nat) th w hq2 ⟨by omega, by omega⟩
  rw [hx] at hlz hk
  have hxa : IntKind.i64.wrap (x + 1) = x + 1 := by rw [IntKind.wrap_i64]; omega
  obtain ⟨y, hy⟩ : ∃ y : Int, x + 1 = y := ⟨_, rfl⟩
  rw [hy] at hxa hk
  have hy0 : ¬ y = 0 := by omega
  have hy1 : (y == 0) = false := by simpa using hy0
  have hrm : IntKind.i64.wrap (n.tmod y) = (k : Nat) := by rw [hk, IntKind.wrap_i64]; omega
  clear hx
  by_cases h0 : s = 0 ∧ th = false
  · simp only [if_pos h0]
    obtain ⟨h0, rfl⟩ := h0
    subst h0
    go_enter Try.func34, Try.ntmps34
    go_wp2_with fail
    refine (hlz _).mono ?_
    rintro e k1 ⟨rfl, hk1⟩
    have HBX := Lib.hid (HBX.out.below hk1)
    have HBY := Lib.hid (HBY.out.below hk1)
    have HB01 := Lib.hid (HB01.out.trans (hk1.mono HB01.out.size))
    replace y0 := HBX.out.cell (j := 0) rfl
    replace y1 := HBX.out.cell (j := 1) rfl
    replace y2 := HBX.out.cell (j := 2) rfl
    replace v0 := HBY.out.cell (j := 0) rfl
    replace v1 := HBY.out.cell (j := 1) rfl
    replace v2 := HBY.out.cell (j := 2) rfl
    replace f0 := HBY.out.frz 0
    replace f1 := HBY.out.frz 1
    replace f2 := HBY.out.frz 2
    clear hk1 hlz
    go_wp2
    refine bodyPost_ret (v := .tuple #[.agg #[.slice none 0 0, .int .i64 0, .bool false], .bool false]) (by simp [results, Try.results34, go_sem, v0, v1, v2]) rfl ⟨rfl, ?_⟩
    exact ((HB01.out.setCell (p := ⟨w.heap.size + 1, 0, none⟩) (Nat.le_succ _) _).setCell (p := ⟨w.heap.size + 1, 1, none⟩) (Nat.le_succ _) _).setCell (p := ⟨w.heap.size + 1, 2, none⟩) (Nat.le_succ _) _
  · simp only [if_neg h0]
    have hcs : (s = 0 ∧ th = true) ∨ ¬ s = 0 := by
      rcases Nat.eq_zero_or_pos s with h | h
      · cases th
        · exact absurd ⟨h, rfl⟩ h0
        · exact .inl ⟨h, rfl⟩
      · exact .inr (by omega)
    clear h0
    rcases hcs with ⟨h0, rfl⟩ | h0
    · subst h0
      go_enter Try.func34, Try.ntmps34
      go_wp2_with fail
      refine (hlz _).mono ?_
      rintro e k1 ⟨rfl, hk1⟩
      have HBX := Lib.hid (HBX.out.below hk1)
      have HBY := Lib.hid (HBY.out.below hk1)
      have HB01 := Lib.hid (HB01.out.trans (hk1.mono HB01.out.size))
      replace y0 := HBX.out.cell (j := 0) rfl
      replace y1 := HBX.out.cell (j := 1) rfl
      replace y2 := HBX.out.cell (j := 2) rfl
      replace v0 := HBY.out.cell (j := 0) rfl
      replace v1 := HBY.out.cell (j := 1) rfl
      replace v2 := HBY.out.cell (j := 2) rfl
      replace f0 := HBY.out.frz 0
      replace f1 := HBY.out.frz 1
      replace f2 := HBY.out.frz 2
      clear hk1 hlz
      go_wp2_with fail
      have hby := (HTK.out.below HB01.out (Nat.le_refl _)).more HB01.out.size
      refine (lasting9_any _ k1.heap.size (bs.take 0) k1 hby (Nat.le_refl _) (by rw [List.length_take]; omega)).mono ?_
      rintro e k2 ⟨u2, rfl, hu2, hk2⟩
      have hln : (bs.take 0).length = 0 := by rw [List.length_take, HBS.out]; omega
      rw [hln]
      obtain ⟨A2, c2, hu2v⟩ := own_slice hu2
      rw [hln] at hu2v
      subst hu2v
      have hbk := HBY.out.below hk2
      replace v0 := hbk.cell (j := 0) rfl
      replace v1 := hbk.cell (j := 1) rfl
      replace v2 := hbk.cell (j := 2) rfl
      replace f0 := hbk.frz 0
      replace f1 := hbk.frz 1
      replace f2 := hbk.frz 2
      have hlo : w.heap.size + 1 < k1.heap.size := HBY.out.lt
      have HU2 := Lib.hid (hu2.down (show w.heap.size + 2 ≤ _ by omega))
      have HB2 := Lib.hid (HB01.out.trans (hk2.mono HB01.out.size))
      clear hk2 hbk hu2 hby hln
      go_wp2
      refine bodyPost_ret (v := .tuple #[.agg #[.slice A2 0 c2, .int .i64 ((0 : Nat) : Int), .bool true], .bool true]) (by simp [results, Try.results34, go_sem, v0, v1, v2]) rfl ⟨⟨_, rfl, ?_⟩, ?_⟩
      · exact (ownsRow_down (ownsRow_set (p := ⟨w.heap.size + 1, 2, none⟩) (ownsRow_set (p := ⟨w.heap.size + 1, 1, none⟩) (ownsRow_set (p := ⟨w.heap.size + 1, 0, none⟩) HU2.out (Nat.lt_succ_self _)) (Nat.lt_succ_self _)) (Nat.lt_succ_self _)) (by omega) : OwnB w.heap.size _ (bs.take 0) _)
      · exact ((HB2.out.setCell (p := ⟨w.heap.size + 1, 0, none⟩) (Nat.le_succ _) _).setCell (p := ⟨w.heap.size + 1, 1, none⟩) (Nat.le_succ _) _).setCell (p := ⟨w.heap.size + 1, 2, none⟩) (Nat.le_succ _) _
    · have h0i : ¬ ((s : Nat) : Int) = 0 := by omega
      have h0b : (((s : Nat) : Int) == 0) = false := by simpa using h0
      go_enter Try.func34, Try.ntmps34
      go_wp2_with fail
      refine (hlz _).mono ?_
      rintro e k1 ⟨rfl, hk1⟩
      have HBX := Lib.hid (HBX.out.below hk1)
      have HBY := Lib.hid (HBY.out.below hk1)
      have HB01 := Lib.hid (HB01.out.trans (hk1.mono HB01.out.size))
      replace y0 := HBX.out.cell (j := 0) rfl
      replace y1 := HBX.out.cell (j := 1) rfl
      replace y2 := HBX.out.cell (j := 2) rfl
      replace v0 := HBY.out.cell (j := 0) rfl
      replace v1 := HBY.out.cell (j := 1) rfl
      replace v2 := HBY.out.cell (j := 2) rfl
      replace f0 := HBY.out.frz 0
      replace f1 := HBY.out.frz 1
      replace f2 := HBY.out.frz 2
      clear hk1 hlz
      go_wp2_with fail
      have hby := (HTK.out.below HB01.out (Nat.le_refl _)).more HB01.out.size
      refine (lasting9_any _ k1.heap.size (bs.take s) k1 hby (Nat.le_refl _) (by rw [List.length_take]; omega)).mono ?_
      rintro e k2 ⟨u2, rfl, hu2, hk2⟩
      have hln : (bs.take s).length = s := by rw [List.length_take, HBS.out]; omega
      rw [hln]
      obtain ⟨A2, c2, hu2v⟩ := own_slice hu2
      rw [hln] at hu2v
      subst hu2v
      have hbk := HBY.out.below hk2
      replace v0 := hbk.cell (j := 0) rfl
      replace v1 := hbk.cell (j := 1) rfl
      replace v2 := hbk.cell (j := 2) rfl
      replace f0 := hbk.frz 0
      replace f1 := hbk.frz 1
      replace f2 := hbk.frz 2
      have hlo : w.heap.size + 1 < k1.heap.size := HBY.out.lt
      have HU2 := Lib.hid (hu2.down (show w.heap.size + 2 ≤ _ by omega))
      have HB2 := Lib.hid (HB01.out.trans (hk2.mono HB01.out.size))
      clear hk2 hbk hu2 hby hln
      go_wp2
      refine bodyPost_ret (v := .tuple #[.agg #[.slice A2 s c2, .int .i64 ((s : Nat) : Int), .bool true], .bool true]) (by simp [results, Try.results34, go_sem, v0, v1, v2]) rfl ⟨⟨_, rfl, ?_⟩, ?_⟩
      · exact (ownsRow_down (ownsRow_set (p := ⟨w.heap.size + 1, 2, none⟩) (ownsRow_set (p := ⟨w.heap.size + 1, 1, none⟩) (ownsRow_set (p := ⟨w.heap.size + 1, 0, none⟩) HU2.out (Nat.lt_succ_self _)) (Nat.lt_succ_self _)) (Nat.lt_succ_self _)) (by omega) : OwnB w.heap.size _ (bs.take s) _)
      · exact ((HB2.out.setCell (p := ⟨w.heap.size + 1, 0, none⟩) (Nat.le_succ _) _).setCell (p := ⟨w.heap.size + 1, 1, none⟩) (Nat.le_succ _) _).setCell (p := ⟨w.heap.size + 1, 2, none⟩) (Nat.le_succ _) _
theorem fcrash9_any (A : Option Addr) (q ca fa k : Nat) (th : Bool) (bs : List UInt8) (n : Int) (w : World) (hb : Byt w w.heap.size (.slice A q ca) bs) (hq : bs.length = q) (hfa : fa ≤ q) (hq2 : q ≤ 1048576) (hn2 : n < 9223372036854775808)
    (hkp : 0 < n → n.tmod ((q : Int) - fa + 1) = (k : Nat)) (hkn : ¬ 0 < n → k = 0) (hkq : fa + k ≤ q) :
    Calls Try.prog 34 #[.agg #[.slice A q ca, .int .i64 ((fa : Nat) : Int), .bool th], .int .i64 n] w fun e w' => (if fa + k = 0 ∧ th = false then e = .returned (.tuple #[.agg #[.slice none 0 0, .int .i64 0, .bool false], .bool false]) else
      ∃ u, e = .returned (.tuple #[.agg #[u, .int .i64 ((fa + k : Nat) : Int), .bool true], .bool true]) ∧ OwnB w.heap.size u (bs.take (fa + k)) w') ∧ Below w.heap.size w w' := by
  by_cases hn : 0 < n
  · exact fcrash9_pos A q ca fa k th bs n w hb hq hfa hq2 hn hn2 (hkp hn) hkq
  · exact fcrash9_neg A q ca fa k th bs n w hb hq hfa hq2 hn hn2 (hkn hn) hkq
theorem ranges_off9 {S : Nat → Prop} {w w' : World} {b r n cnt : Nat} {D : DataW Value} {left : Lit → Bool} {P : Program} {k : TypeId} {R : Value → Option (DataW Value × List MemPlace)} (h : w.ranges P k R b r n D left cnt) (ho : Off S w w') (hb : ¬ S b) (hr : ¬ S r) : w'.ranges P k R b r n D left cnt := by
  have h1 := h.owns.lt
  have h2 := h.lt
  obtain ⟨es, clock, since, seen, c0, hb2, F, hs, hD, hr2, rest⟩ := h
  exact ⟨es, clock, since, seen, c0, (ho.block b h1 hb).trans hb2, F, hs, hD, (ho.block r h2 hr).trans hr2, rest⟩
set_option maxHeartbeats 2000000 in
theorem crash9_none (S : Nat → Prop) (g : Nat) (c : Nat) (n : Int) (w : World) (hb : Box9 w g none c) :
    Calls Try.prog 22 #[.pointer (some ⟨g, 0, none⟩), .int .i64 n] w fun e w' => e = .returned (.pointer (some ⟨w.heap.size, 0, none⟩)) ∧ PD w' (fun k => w.heap.size ≤ k ∧ k < w'.heap.size) w.heap.size [] 0 ∧ Below w.heap.size w w' := by
  have hb1 := below_new w (.cells #[.map none, .int .i64 0] 57)
  have hB := hb.below hb1
  have hP := PD.new w
  obtain ⟨W1, hW1⟩ : ∃ W1, w.alloc (.cells #[.map none, .int .i64 0] 57) = W1 := ⟨_, rfl⟩
  have hz1 : W1.heap.size = w.heap.size + 1 := by rw [← hW1]; simp
  rw [hW1] at hb1 hB hP
  have hc0 := hB.cell0
  have hrg := run_range_nilMap (P := Try.prog) W1 55 9 59 Try.underlying55
  have hnx : ∀ ty, (Instr.next (.pointer (some ⟨W1.heap.size, 0, none⟩)) false ty).run Try.prog (W1.alloc (.mapIter none 0 #[] 0)) = _ := fun ty => run_next_nilMap _ ty 0 0 #[]
  have HB1 := Lib.hid hb1
  have HP := Lib.hid hP
  have HZ1 := Lib.hid hz1
  clear hb1 hP hB hb hz1
  go_enter Try.func22, Try.ntmps22
  go_wp2_with fail
  refine (new9_any w).mono ?_
  rintro e k ⟨rfl, rfl⟩
  rw [hW1]
  go_wp2
  refine wp_loop_rounds 1 ?_
  rw [rounds_succ]
  go_wp2
  go_ret
  refine ⟨rfl, ?_, HB1.out.trans ((below_new W1 _).mono (by rw [HZ1.out]; exact Nat.le_succ _))⟩
  refine (HP.out.below (below_new W1 _)).more (fun k hk => ?_) (fun k hk => hk.2)
  subst hk
  have := HZ1.out
  exact ⟨Nat.le_refl _, by simp; omega⟩
set_option maxHeartbeats 4000000 in
theorem crash9_some (S : Nat → Prop) (g b c : Nat) (l : List Fil) (ps : List (Fil × Value)) (n : Int) (w : World) (hl : ps.map (·.1) = l) (hb : Box9 w g (some b) c) (hm : Map9 w (some b) ps) (h6 : ∀ p ∈ ps, OwnB 0 p.2 p.1.b w) (hs : Sorted9 l) (hgd : ∀ f ∈ l, Good9 f) (hlen : l.length ≤ 100000)
    (hn : -9223372036854775808 ≤ n ∧ n < 9223372036854775808) :
    Calls Try.prog 22 #[.pointer (some ⟨g, 0, none⟩), .int .i64 n] w fun e w' => e = .returned (.pointer (some ⟨w.heap.size, 0, none⟩)) ∧ PD w' (fun k => w.heap.size ≤ k ∧ k < w'.heap.size) w.heap.size (crash9 n l) 0 ∧ Below w.heap.size w w' := by
  have hb1 := below_new w (.cells #[.map none, .int .i64 0] 57)
  have hB := hb.below hb1
  have hM := hm.below hb1
  have hP := PD.new w
  obtain ⟨W1, hW1⟩ : ∃ W1, w.alloc (.cells #[.map none, .int .i64 0] 57) = W1 := ⟨_, rfl⟩
  have hz1 : W1.heap.size = w.heap.size + 1 := by rw [← hW1]; simp
  rw [hW1] at hb1 hB hM hP
  have hc0 := hB.cell0
  have hown : W1.ownsMap Try.prog 9 RH b ps.length (DD ps) := hM
  have hblt : b < w.heap.size := World.ownsMap.lt (show w.ownsMap Try.prog 9 RH b ps.length (DD ps) from hm)
  have H6 := Lib.hid h6
  have HS := Lib.hid hs
  have HGD := Lib.hid hgd
  have HL := Lib.hid hl
  have HB1 := Lib.hid hb1
  have HP := Lib.hid hP
  have HZ1 := Lib.hid hz1
  have HLEN := Lib.hid hlen
  clear h6 hs hgd hl hb1 hP hB hb hM hm hlen hz1
  go_enter Try.func22, Try.ntmps22
  go_wp2_with fail
  refine (new9_any w).mono ?_
  rintro e k ⟨rfl, rfl⟩
  rw [hW1]
  go_wp2_with (first
    | (at_range; refine wpList_range_own _ rfl _ 55 rfl 9 59 Try.lawStr9 Try.underlying55 _ b ps.length _ rfl hown ?_; intro w0 hrg0 hg0 hs0)
    | go_in)
  go_frame
  have hz1 := HZ1.out
  rw [hz1] at hrg0 hs0 ⊢
  have hbel0 : Below W1.heap.size W1 w0 := (Below.refl _ _).grown hg0 (Nat.le_refl _) (fun j hj => by cases hj)
  clear hown hz1
  go_loopw [9] (fun _ wr => ∃ (left : Lit → Bool) (cnt : Nat), wr.ranges Try.prog 9 RH b (w.heap.size + 1) ps.length (DD ps) left cnt ∧
      PD wr (fun k => w.heap.size ≤ k ∧ k ≠ w.heap.size + 1 ∧ k < wr.heap.size) w.heap.size (crash9 n (seen9 left l)) 0 ∧ Below w.heap.size w wr)
    (fun _ wr => wr.rangeLeft b (w.heap.size + 1))
  case atStart =>
    refine ⟨_, _, hrg0, ?_, HB1.out.trans (hbel0.mono (by rw [HZ1.out]; exact Nat.le_succ _))⟩
    rw [← HL.out, seen9_start]
    refine (HP.out.below hbel0).more (fun k hk => ?_) (fun k hk => hk.2.2)
    subst hk
    exact ⟨Nat.le_refl _, by omega, by omega⟩
  case round =>
    obtain ⟨left, cnt, hrg, hpd, hbw⟩ := hrel
    have HPD := Lib.hid hpd
    have HBW := Lib.hid hbw
    clear hpd hbw
    go_wp2_with (first
      | (at_next; refine wpList_next_ranges _ rfl _ rfl 9 Try.lawStr9 RH Go.Proofs.encStr (fun v : Value => v) (fun key kl hk => by obtain ⟨x, hx, _⟩ := Maps.keyOf_str Try.underlying9 hk; exact ⟨x, hx⟩) (fun v y hv => ⟨v, rfl⟩) b (w.heap.size + 1) ps.length _ _ _ rfl hrg ?_ ?_)
      | go_in)
    · intro hc0' hl0
      go_wp2
      go_ret
      refine ⟨rfl, ?_, HBW.out⟩
      have h1 := HPD.out
      rw [seen9_end l hl0] at h1
      exact h1.more (fun k hk => ⟨hk.1, hk.2.2⟩) (fun k hk => hk.2)
    · intro x v kl yd yp w1 cnt1 hkey hlk hv hat hrg1 hlt hg1 hs1 hen
      obtain ⟨x', ex, rfl, _⟩ := Maps.keyOf_str Try.underlying9 hkey
      obtain rfl : x = x' := encStr_inj ex
      obtain ⟨nm, hnm⟩ : ∃ nm : ByteArray, (⟨x.toArray⟩ : ByteArray) = nm := ⟨_, rfl⟩
      have hnx : nm.data.toList = x := by rw [← hnm]
      have hyd : yd = .held v := by
        have h1 : RH v = some (yd, yp) := hv
        injection h1 with h1; injection h1 with h1 _; exact h1.symm
      subst hyd
      rw [← hnx] at hat hlk hrg1
      obtain ⟨p, hp, hpn, rfl⟩ := at_find9 hat
      have hpl : p.1 ∈ l := by rw [← HL.out]; exact List.mem_map_of_mem hp
      obtain ⟨g1, g2, g3, g4⟩ := HGD.out p.1 hpl
      obtain ⟨A, ca, hpv⟩ := own_slice (H6.out p hp)
      have hob := H6.out p hp
      rw [hpv] at hob
      obtain ⟨bs, hbs⟩ : ∃ bs, p.1.b = bs := ⟨_, rfl⟩
      obtain ⟨q, hq⟩ : ∃ q, bs.length = q := ⟨_, rfl⟩
      obtain ⟨fa, hfa⟩ : ∃ fa, p.1.fast = fa := ⟨_, rfl⟩
      obtain ⟨th, hth⟩ : ∃ th, p.1.there = th := ⟨_, rfl⟩
      have hst := seen9_step (n := n) HS.out hpl left (by rw [hpn]; exact hlk)
      rw [hpn] at hst
      have hkle := kOf9_le (n := n) g2
      have hkp := fun h => kOf9_pos (n := n) h g2
      have hkn := kOf9_neg (n := n) (f := p.1)
      obtain ⟨kk, hkk⟩ : ∃ kk, kOf9 n p.1 = kk := ⟨_, rfl⟩
      have hlf : left9 n p.1 = if th = true ∨ 0 < kk then [⟨nm, bs.take (fa + kk), fa + kk, true⟩] else [] := by
        unfold left9; rw [hth, hkk, hpn, hbs, hfa]
      rw [hlf] at hst
      rw [hbs] at g2 g3 hob hkle hkp
      rw [hq] at g2 g3 hob hkle hkp
      rw [hfa] at g2 hkle hkp
      rw [hkk] at hkle hkp hkn
      rw [hfa, hth] at g4
      have hfv : fileV p = .agg #[.slice A q ca, .int .i64 ((fa : Nat) : Int), .bool th] := by unfold fileV; rw [hpv, hbs, hq, hfa, hth]
      rw [hfv] at hen ⊢
      have hnz := (goodN_size g1).2
      rw [hpn] at hnz
      have hgn1 : goodN nm = true := by rw [← hpn]; exact g1
      have hpd1 : PD w1 (fun k => w.heap.size ≤ k ∧ k ≠ w.heap.size + 1 ∧ k < wr.heap.size) w.heap.size (crash9 n (seen9 left l)) 0 := HPD.out.off (T := fun k => k = w.heap.size + 1) ((Off.refl _ _).grown hg1 (fun k hk => .inl (Option.some.inj hk).symm)) (fun k hk e => hk.2.1 e)
      have hbw1 : Below w.heap.size w w1 := HBW.out.grown hg1 HBW.out.size (fun j hj => by cases hj; exact Nat.le_succ _)
      have hbx : w1.heap.size = wr.heap.size := hs1
      have hrl := hrg.left_eq
      have hrlt := hrg1.lt
      have HRL := Lib.hid hrl
      have HRG1 := Lib.hid hrg1
      have HPD1 := Lib.hid hpd1
      have HBW1 := Lib.hid hbw1
      have HSZ := Lib.hid hbx
      have HST := Lib.hid hst
      have HOB := Lib.hid hob
      have HBS : Hid (bs.length = q) := Lib.hid hq
      have hwz := HBW.out.size
      have hnm2 : (Go.Proofs.encStr x : Value) = .string nm := by rw [← hnm]
      rw [hnm2] at hen ⊢
      clear hnm2 hnm hnx hrg hrg1 hpd1 hbw1 hbx hst hob hq hbs hfa hth hkk hlf hpv hfv hg1 hs1 hv hat hlk hkey ex g1 hpn hp hpl HPD hrl
      go_wp2_with fail
      have hal := below_new w1 (.cells #[.slice A q ca, .int .i64 ((fa : Nat) : Int), .bool th] 59)
      refine (fcrash9_any A q ca fa kk th bs n _ (((Byt.of_own HOB.out).below (HBW1.out.trans (hal.mono HBW1.out.size)) (Nat.le_refl _)).more (Nat.le_trans HBW1.out.size hal.size)) HBS.out g2 g3 hn.2 hkp (fun h => hkn (by omega)) hkle).mono ?_
      rintro e k2 ⟨hre, hk2⟩
      have hb12 : Below w1.heap.size w1 k2 := hal.trans (hk2.mono hal.size)
      have HB12 := Lib.hid hb12
      clear hal hkp hkn
      by_cases h0 : fa + kk = 0 ∧ th = false
      · rw [if_pos h0] at hre
        subst hre
        have hno : ¬ (th = true ∨ 0 < kk) := by
          rintro (h | h)
          · rw [h] at h0; cases h0.2
          · omega
        have hst := HST.out.1 (if_neg hno)
        have HST1 := Lib.hid hst
        clear hk2 hb12 hst h0 hno
        go_wp2
        go_roundw
        case rel =>
          have hb13 := HB12.out.alloc (o := .cells #[.slice none 0 0, .int .i64 0, .bool false] 59) HB12.out.size
          refine ⟨_, cnt1, ranges_off9 HRG1.out (Off.of_below (S := fun _ => False) hb13) (fun h => h) (fun h => h), ?_, HBW1.out.trans (hb13.mono HBW1.out.size)⟩
          rw [HST1.out]
          exact (HPD1.out.below hb13).more (fun k hk => ⟨hk.1, hk.2.1, by have := hb13.size; have := HSZ.out; omega⟩) (fun k hk => hk.2.2)
        case measure =>
          have hb13 := HB12.out.alloc (o := .cells #[.slice none 0 0, .int .i64 0, .bool false] 59) HB12.out.size
          rw [(ranges_off9 HRG1.out (Off.of_below (S := fun _ => False) hb13) (fun h => h) (fun h => h)).left_eq, HRL.out]
          exact hlt
      · rw [if_neg h0] at hre
        obtain ⟨u2, rfl, hu2⟩ := hre
        have hye : th = true ∨ 0 < kk := by
          cases th with
          | true => exact .inl rfl
          | false =>
            have h1 := g4 rfl
            refine .inr ?_
            rcases Nat.eq_zero_or_pos kk with h2 | h2
            · exact absurd ⟨by omega, rfl⟩ h0
            · exact h2
        have hst := HST.out.2 _ (if_pos hye)
        have HST1 := Lib.hid hst
        obtain ⟨sz, hsz⟩ : ∃ sz, fa + kk = sz := ⟨_, rfl⟩
        rw [hsz] at HST1 hu2 hkle
        rw [hsz]
        have hln : (bs.take sz).length = sz := by rw [List.length_take, HBS.out]; omega
        obtain ⟨A2, c2, hu2v⟩ := own_slice hu2
        rw [hln] at hu2v
        subst hu2v
        have HU2 := Lib.hid (hu2.down (show w1.heap.size ≤ _ by simp))
        have HLN := Lib.hid hln
        have HGF : Hid (Good9 ⟨nm, bs.take sz, sz, true⟩) := Lib.hid ⟨hgn1, by rw [hln]; exact Nat.le_refl _, by rw [hln]; omega, fun h => by cases h⟩
        obtain ⟨m2, ps2, e1, e2, e3, e4, e5, e6, e7, e8, e9, e10⟩ := HPD1.out
        have hpl2 : ps2.length ≤ 100000 := by
          have h1 := crash9_len n (seen9 left l)
          have h2 : (seen9 left l).length ≤ l.length := List.length_filter_le _ _
          have h3 : ps2.length = (crash9 n (seen9 left l)).length := by rw [← e1, List.length_map]
          have h4 := HLEN.out
          omega
        have E1 := Lib.hid e1
        have E2 := Lib.hid e2
        have E3 := Lib.hid e3
        have E4 := Lib.hid e4
        have E5 := Lib.hid e5
        have E6 := Lib.hid e6
        have E7 := Lib.hid e7
        have E8 := Lib.hid e8
        have E9 := Lib.hid e9
        have E10 := Lib.hid e10
        clear hk2 hb12 hst h0 hye hsz hln hu2 e1 e2 e3 e4 e5 e6 e7 e8 e9 e10 hgn1
        go_wp2_with fail
        refine (put9_from ⟨nm, bs.take sz, sz, true⟩ A2 sz c2 E3.out E5.out (HB12.out.alloc HB12.out.size _) (sorted_ps E1.out E8.out) hpl2 hnz).mono ?_
        rintro e k3 ⟨rfl, hbW, hbx, hmx, b2, hbk, hmk, hor, hok⟩
        have hfin := PD.done (S := fun k => w.heap.size ≤ k ∧ k ≠ w.heap.size + 1 ∧ k < wr.heap.size) (w := w1) (f := ⟨nm, bs.take sz, sz, true⟩) (u := .slice A2 sz c2) E1.out E2.out E4.out (fun p hp => (E6.out p hp).2) E7.out E8.out E9.out E10.out (Off.of_below hbW) hbx hmx (fun p hp _ => (E6.out p hp).1.below hbW)
          (((HU2.out.below (below_new k2 _)).down (Nat.zero_le _))) (fun j hj => .inr ⟨(HU2.out.lt j hj).1, by have h1 := (HU2.out.lt j hj).2; simp; omega⟩)
          (fun p hp _ j hj e => by
            have h1 := E10.out j ((E6.out p hp).2 j e)
            have h2 := (HU2.out.lt j hj).1
            omega) HGF.out hbk hmk hor hok
        have HFIN := Lib.hid hfin
        clear hfin hbW hbx hmx hbk hmk hor hok
        go_wp2
        go_roundw
        case rel =>
          have h1 := HFIN.out.2.size
          have h2 := HSZ.out
          refine ⟨_, cnt1, ranges_off9 HRG1.out HFIN.out.2 (fun h => by have := h.1; omega) (fun h => h.2.1 rfl), ?_, HBW1.out.trans (HFIN.out.2.below (fun k hk => hk.1) HBW1.out.size)⟩
          rw [HST1.out]
          refine HFIN.out.1.more (fun k hk => ?_) (fun k hk => hk.2.2)
          rcases hk with hk | hk
          · exact ⟨hk.1, hk.2.1, by omega⟩
          · exact ⟨by omega, by omega, hk.2⟩
        case measure =>
          rw [(ranges_off9 HRG1.out HFIN.out.2 (fun h => by have := h.1; omega) (fun h => h.2.1 rfl)).left_eq, HRL.out]
          exact hlt
theorem crash9_disk (S : Nat → Prop) (g : Nat) (l : List Fil) (c : Nat) (n : Int) (w : World) (h : PD w S g l c) (hlen : l.length ≤ 100000) (hn : -9223372036854775808 ≤ n ∧ n < 9223372036854775808) :
    Calls Try.prog 22 #[.pointer (some ⟨g, 0, none⟩), .int .i64 n] w fun e w' => e = .returned (.pointer (some ⟨w.heap.size, 0, none⟩)) ∧ PD w' (fun k => w.heap.size ≤ k ∧ k < w'.heap.size) w.heap.size (crash9 n l) 0 ∧ Below w.heap.size w w' := by
  obtain ⟨m, ps, h1, h2, h3, h4, h5, h6, h7, h8, h9, h10⟩ := h
  cases m with
  | none =>
    have h5 : ps = [] := h5
    subst h5
    have h1 : l = [] := h1.symm
    subst h1
    exact crash9_none S g c n w h3
  | some b => exact crash9_some S g b c l ps n w h1 h3 h5 (fun p hp => (h6 p hp).1) h8 h9 hlen hn
end Go.Proofs.Ytbdengcblncfmaa
