/-
  Contracts of the program's functions, of the reference's, and plain lemmas on what they answer (part 3 of 7).
  Each lemma names its conditions.
-/
import Derived.Test.YtbiecoifeeikpaaDoorBun2
import Derived.Deep.AppendLies
import Derived.Deep.MidRow
import Derived.Test.YtbiecoifeeikpaaDoorBun1
import Derived.Deep.RegionWith
import Derived.Test.YtbiecoifeeikpaaDoorProg
import Derived.Lib.SliceRun
import Derived.Laws.OwnMore
/-
  Package wal's Decode answers what the plain function says.
  The bytes are there in memory, at most 1,000,000; package crc's table lies as it was laid.
-/
set_option linter.unusedSimpArgs false
set_option linter.unusedVariables false
namespace Go.Proofs.YtbiecoifeeikpaaDoor
open Go.RowKit
set_option maxRecDepth 100000

/-- what Decode answers -/
def GotRec10 (r : Rcd × Nat × Nat) (w : World) (e : Ending) (w' : World) : Prop := e = .returned (.tuple #[r.1.val, .int .i64 (r.2.1 : Nat), .int .i64 (r.2.2 : Nat)]) ∧ Below w.heap.size w w'
theorem own_byt10 {w : World} {B : Nat} {v : Value} {l : List UInt8} (h : OwnB B v l w) : ∃ A c, v = .slice A l.length c := byt_slice (Byt.of_own h)
set_option maxHeartbeats 2000000 in
theorem wdec10_any (A : Option Addr) (c B : Nat) (l : List UInt8) (w : World) (h : Byt w B (.slice A l.length c) l) (hB : B ≤ w.heap.size) (hl : l.length ≤ 1050000) (hT : Tbl w) :
    Calls Tryd.prog 65 #[.slice A l.length c] w (GotRec10 (decR10 l) w) := by
  have hop := fopen_any A c B l
  obtain ⟨⟨k, b, n, e⟩, ho⟩ : ∃ x, openB l = x := ⟨_, rfl⟩
  have hd : decR10 l = if e ≠ 0 then (zRcd, 0, e) else if (readR10 k b).2 = true then ((readR10 k b).1, n, 0) else (zRcd, 0, 3) := by unfold decR10; rw [ho]
  have hgood := fun he : e = 0 => (openB_good (l := l) (k := k) (b := b) (n := n) (by rw [ho, he])).2.2.2.1
  rw [ho] at hop
  obtain ⟨r, hr⟩ : ∃ r, decR10 l = r := ⟨_, rfl⟩
  rw [hr] at hd ⊢
  have HD := Lib.hid hd
  clear hd hr
  obtain ⟨W1, hW1⟩ : ∃ W1, w.alloc (.cells #[.bool false, .int .i64 0, .int .i64 0, .int .i64 0, .int .i64 0, .int .i64 0, .string ⟨#[]⟩] 76) = W1 := ⟨_, rfl⟩
  have hb1 : Below w.heap.size w W1 := by rw [← hW1]; exact below_new _ _
  have r1 : Rt W1 w.heap.size 76 [.bool false, .int .i64 0, .int .i64 0, .int .i64 0, .int .i64 0, .int .i64 0, .string ⟨#[]⟩] := by rw [← hW1]; exact Rt.new w _ _
  have hop1 := hop W1 (h.below hb1 hB) (Nat.le_trans hB hb1.size) hl (hT.below hb1)
  have HB1 := Lib.hid hb1
  have HW1 := Lib.hid hW1
  obtain ⟨ln, hln⟩ : ∃ ln, l.length = ln := ⟨_, rfl⟩
  rw [hln] at hop1 ⊢
  clear h hB hT hop hb1 hW1 hln ho
  go_enter Tryd.func65, Tryd.ntmps65
  go_wp2_with fail
  rw [HW1.out]
  refine hop1.mono ?_
  rintro e1 k1 ⟨v1, rfl, ho1, h1⟩
  have q1 := r1.below h1
  have HO1 := Lib.hid ho1
  have HBK := Lib.hid (HB1.out.trans (h1.mono HB1.out.size))
  have hle1 := HBK.out.size
  clear hop1 r1 h1 ho1 HW1
  have c0 := q1.cell (j := 0) rfl
  have f0 := q1.frz 0
  have c1 := q1.cell (j := 1) rfl
  have f1 := q1.frz 1
  have c2 := q1.cell (j := 2) rfl
  have f2 := q1.frz 2
  have c3 := q1.cell (j := 3) rfl
  have f3 := q1.frz 3
  have c4 := q1.cell (j := 4) rfl
  have f4 := q1.frz 4
  have c5 := q1.cell (j := 5) rfl
  have f5 := q1.frz 5
  have c6 := q1.cell (j := 6) rfl
  have f6 := q1.frz 6
  have HQ1 := Lib.hid q1
  clear q1
  by_cases he : e = 0
  · have hbl := hgood he
    subst he
    obtain ⟨⟨rr, y⟩, hy⟩ : ∃ x, readR10 k b = x := ⟨_, rfl⟩
    have hrd2 := fun A n c B w h hB hl => wread_any k A n c B b w h hB hl
    rw [hy] at hrd2
    obtain ⟨A1, cc1, hv⟩ := own_byt10 HO1.out
    have hby1 := Byt.of_own HO1.out
    rw [hv] at hby1
    have hrd3 := hrd2 A1 _ cc1 _ k1 hby1 (Nat.le_refl _) (by omega)
    rw [← hv] at hrd3
    have hd2 : r = if y = true then (rr, n, 0) else (zRcd, 0, 3) := by rw [HD.out, if_neg (by simp), hy]
    have HD2 := Lib.hid hd2
    have HRD := Lib.hid hrd3
    clear hrd2 hrd3 hby1 hy hd2 hv hgood
    go_wp2_with fail
    refine HRD.out.mono ?_
    rintro e2 k2 ⟨rfl, h2⟩
    have q2 := HQ1.out.below h2
    have HB2 := Lib.hid (HBK.out.trans (h2.mono HBK.out.size))
    clear h2 c0 c1 c2 c3 c4 c5 c6 f0 f1 f2 f3 f4 f5 f6 HQ1 HRD
    have c0 := q2.cell (j := 0) rfl
    have f0 := q2.frz 0
    have c1 := q2.cell (j := 1) rfl
    have f1 := q2.frz 1
    have c2 := q2.cell (j := 2) rfl
    have f2 := q2.frz 2
    have c3 := q2.cell (j := 3) rfl
    have f3 := q2.frz 3
    have c4 := q2.cell (j := 4) rfl
    have f4 := q2.frz 4
    have c5 := q2.cell (j := 5) rfl
    have f5 := q2.frz 5
    have c6 := q2.cell (j := 6) rfl
    have f6 := q2.frz 6
    have hlt2 := q2.lt
    have HQ2 := Lib.hid q2
    clear q2
    obtain ⟨hd, ht, hv, ⟨ix, et, kd, dt⟩⟩ := rr
    unfold Rcd.val
    cases y with
    | true =>
      simp only
      go_wp2
      have hxs : Rt _ w.heap.size 76 [.bool hd, .int .i64 ht, .int .i64 hv, .int .i64 ix, .int .i64 et, .int .i64 kd, .string dt] := Rt.below ((((((((HQ2.out.set 0 (.bool hd)).set 1 (.int .i64 ht)).set 2 (.int .i64 hv)).set 3 (.int .i64 ix)).set 4 (.int .i64 et)).set 5 (.int .i64 kd)).set 6 (.string dt))) (below_new _ (.cells #[.bool hd, .int .i64 ht, .int .i64 hv, .int .i64 ix, .int .i64 et, .int .i64 kd, .string dt] 76))
      have hbs0 := (below_set10 ((below_set10 ((below_set10 ((below_set10 ((below_set10 ((below_set10 ((below_set10 HB2.out 0 (g := w.heap.size) (.bool hd) (Nat.le_refl _))) 1 (g := w.heap.size) (.int .i64 ht) (Nat.le_refl _))) 2 (g := w.heap.size) (.int .i64 hv) (Nat.le_refl _))) 3 (g := w.heap.size) (.int .i64 ix) (Nat.le_refl _))) 4 (g := w.heap.size) (.int .i64 et) (Nat.le_refl _))) 5 (g := w.heap.size) (.int .i64 kd) (Nat.le_refl _))) 6 (g := w.heap.size) (.string dt) (Nat.le_refl _))
      have hbs := hbs0.alloc hbs0.size (.cells #[.bool hd, .int .i64 ht, .int .i64 hv, .int .i64 ix, .int .i64 et, .int .i64 kd, .string dt] 76)
      refine body_world10 (fun W => Below w.heap.size w W ∧ Rt W w.heap.size 76 [.bool hd, .int .i64 ht, .int .i64 hv, .int .i64 ix, .int .i64 et, .int .i64 kd, .string dt]) ⟨hbs, hxs⟩ ?_
      clear hbs hxs
      rintro W ⟨hbs, hxs⟩
      have d0 := hxs.cell (j := 0) rfl
      have d1 := hxs.cell (j := 1) rfl
      have d2 := hxs.cell (j := 2) rfl
      have d3 := hxs.cell (j := 3) rfl
      have d4 := hxs.cell (j := 4) rfl
      have d5 := hxs.cell (j := 5) rfl
      have d6 := hxs.cell (j := 6) rfl
      refine bodyPost_ret (v := .tuple #[.agg #[.bool hd, .int .i64 ht, .int .i64 hv, .int .i64 ix, .int .i64 et, .int .i64 kd, .string dt], .int .i64 n, .int .i64 0]) (by simp [results, Tryd.results65, go_sem, d0, d1, d2, d3, d4, d5, d6]) rfl ?_
      exact ⟨by rw [HD2.out]; simp only [if_true]; rfl, hbs⟩
    | false =>
      simp only
      go_wp2
      have hxs : Rt _ w.heap.size 76 [.bool false, .int .i64 0, .int .i64 0, .int .i64 0, .int .i64 0, .int .i64 0, .string ⟨#[]⟩] := Rt.below ((((((((HQ2.out.set 0 (.bool false)).set 1 (.int .i64 0)).set 2 (.int .i64 0)).set 3 (.int .i64 0)).set 4 (.int .i64 0)).set 5 (.int .i64 0)).set 6 (.string ⟨#[]⟩))) (below_new _ (.cells #[.bool hd, .int .i64 ht, .int .i64 hv, .int .i64 ix, .int .i64 et, .int .i64 kd, .string dt] 76))
      have hbs0 := (below_set10 ((below_set10 ((below_set10 ((below_set10 ((below_set10 ((below_set10 ((below_set10 HB2.out 0 (g := w.heap.size) (.bool false) (Nat.le_refl _))) 1 (g := w.heap.size) (.int .i64 0) (Nat.le_refl _))) 2 (g := w.heap.size) (.int .i64 0) (Nat.le_refl _))) 3 (g := w.heap.size) (.int .i64 0) (Nat.le_refl _))) 4 (g := w.heap.size) (.int .i64 0) (Nat.le_refl _))) 5 (g := w.heap.size) (.int .i64 0) (Nat.le_refl _))) 6 (g := w.heap.size) (.string ⟨#[]⟩) (Nat.le_refl _))
      have hbs := hbs0.alloc hbs0.size (.cells #[.bool hd, .int .i64 ht, .int .i64 hv, .int .i64 ix, .int .i64 et, .int .i64 kd, .string dt] 76)
      refine body_world10 (fun W => Below w.heap.size w W ∧ Rt W w.heap.size 76 [.bool false, .int .i64 0, .int .i64 0, .int .i64 0, .int .i64 0, .int .i64 0, .string ⟨#[]⟩]) ⟨hbs, hxs⟩ ?_
      clear hbs hxs
      rintro W ⟨hbs, hxs⟩
      have d0 := hxs.cell (j := 0) rfl
      have d1 := hxs.cell (j := 1) rfl
      have d2 := hxs.cell (j := 2) rfl
      have d3 := hxs.cell (j := 3) rfl
      have d4 := hxs.cell (j := 4) rfl
      have d5 := hxs.cell (j := 5) rfl
      have d6 := hxs.cell (j := 6) rfl
      refine bodyPost_ret (v := .tuple #[.agg #[.bool false, .int .i64 0, .int .i64 0, .int .i64 0, .int .i64 0, .int .i64 0, .string ⟨#[]⟩], .int .i64 0, .int .i64 3]) (by simp [results, Tryd.results65, go_sem, d0, d1, d2, d3, d4, d5, d6]) rfl ?_
      exact ⟨by rw [HD2.out, if_neg (by simp)]; rfl, hbs⟩
  · have he2 : ((e : Int) == 0) = false := by rw [beq_eq_false_iff_ne]; omega
    have he3 : ¬ (e : Int) = 0 := by omega
    clear hgood
    go_wp2
    have hxs : Rt _ w.heap.size 76 [.bool false, .int .i64 0, .int .i64 0, .int .i64 0, .int .i64 0, .int .i64 0, .string ⟨#[]⟩] := (((((((HQ1.out.set 0 (.bool false)).set 1 (.int .i64 0)).set 2 (.int .i64 0)).set 3 (.int .i64 0)).set 4 (.int .i64 0)).set 5 (.int .i64 0)).set 6 (.string ⟨#[]⟩))
    have hbs := (below_set10 ((below_set10 ((below_set10 ((below_set10 ((below_set10 ((below_set10 ((below_set10 (HBK.out) 0 (g := w.heap.size) (.bool false) (Nat.le_refl _))) 1 (g := w.heap.size) (.int .i64 0) (Nat.le_refl _))) 2 (g := w.heap.size) (.int .i64 0) (Nat.le_refl _))) 3 (g := w.heap.size) (.int .i64 0) (Nat.le_refl _))) 4 (g := w.heap.size) (.int .i64 0) (Nat.le_refl _))) 5 (g := w.heap.size) (.int .i64 0) (Nat.le_refl _))) 6 (g := w.heap.size) (.string ⟨#[]⟩) (Nat.le_refl _))
    refine body_world10 (fun W => Below w.heap.size w W ∧ Rt W w.heap.size 76 [.bool false, .int .i64 0, .int .i64 0, .int .i64 0, .int .i64 0, .int .i64 0, .string ⟨#[]⟩]) ⟨hbs, hxs⟩ ?_
    clear hbs hxs
    rintro W ⟨hbs, hxs⟩
    have d0 := hxs.cell (j := 0) rfl
    have d1 := hxs.cell (j := 1) rfl
    have d2 := hxs.cell (j := 2) rfl
    have d3 := hxs.cell (j := 3) rfl
    have d4 := hxs.cell (j := 4) rfl
    have d5 := hxs.cell (j := 5) rfl
    have d6 := hxs.cell (j := 6) rfl
    refine bodyPost_ret (v := .tuple #[.agg #[.bool false, .int .i64 0, .int .i64 0, .int .i64 0, .int .i64 0, .int .i64 0, .string ⟨#[]⟩], .int .i64 0, .int .i64 e]) (by simp [results, Tryd.results65, go_sem, d0, d1, d2, d3, d4, d5, d6]) rfl ?_
    exact ⟨by rw [HD.out, if_pos he]; rfl, hbs⟩
end Go.Proofs.YtbiecoifeeikpaaDoor
/-
  Package wal's PutSnap answers what the plain function says; open tells a frame of a kind.
  Texts have at most 1,000,000 bytes; package crc's table lies as it was laid.
-/
set_option linter.unusedSimpArgs false
set_option linter.unusedVariables false
namespace Go.Proofs.YtbiecoifeeikpaaDoor
open Go.RowKit
set_option maxRecDepth 100000

theorem mayHead_snap (s : Snp) : mayHead10 s (s.data.size : Int) = maySnp10 s := by
  unfold mayHead10 maySnp10
  rw [Bool.eq_iff_iff]; simp only [Bool.and_eq_true, decide_eq_true_eq]; omega
theorem wsnap10_nil (s : Snp) (w : World) (hc : s.conf.size ≤ 1050000) (hs : s.data.size ≤ 1050000) (hm : maySnp10 s = false) : Calls Tryd.prog 57 #[s.val] w (Made [] w) := by
  have hmay := fun W => wmayHead s (s.data.size : Int) W hc
  rw [mayHead_snap, hm] at hmay
  clear hm
  obtain ⟨ix, st, cf, dt⟩ := s
  unfold Snp.val at *
  simp only at *
  obtain ⟨W0, hW0⟩ : ∃ W0, w.alloc (.cells #[.int .i64 ix, .int .i64 st, .string cf, .string dt] 33) = W0 := ⟨_, rfl⟩
  have hb : Below w.heap.size w W0 := by rw [← hW0]; exact below_one _ _
  have d0 : W0.cell? ⟨w.heap.size, 0, none⟩ = some (.int .i64 ix) := by rw [← hW0]; exact new_cell10 rfl
  have d1 : W0.cell? ⟨w.heap.size, 1, none⟩ = some (.int .i64 st) := by rw [← hW0]; exact new_cell10 rfl
  have d2 : W0.cell? ⟨w.heap.size, 2, none⟩ = some (.string cf) := by rw [← hW0]; exact new_cell10 rfl
  have d3 : W0.cell? ⟨w.heap.size, 3, none⟩ = some (.string dt) := by rw [← hW0]; exact new_cell10 rfl
  go_enter Tryd.func57, Tryd.ntmps57
  go_wp2_with fail
  refine (hmay _).mono ?_
  rintro e k1 ⟨rfl, h⟩
  have HB := Lib.hid (hb.trans (h.mono hb.size))
  clear h hb hW0 d0 d1 d2 d3
  go_wp2
  go_ret
  exact ⟨_, rfl, ownB_nil _ _, HB.out⟩
theorem wsnap10_any (s : Snp) (w : World) (hc : s.conf.size ≤ 1050000) (hs : s.data.size ≤ 1050000) (hT : Tbl w) : Calls Tryd.prog 57 #[s.val] w (Made (snapB10 s) w) := by
  unfold snapB10
  rcases hm : maySnp10 s with _ | _
  · rw [if_pos rfl]; exact wsnap10_nil s w hc hs hm
  · rw [if_neg (by simp)]; exact wsnap10_yes s w hT hm
/-- the body of a frame of kind k, how many bytes, the error -/
def openK (k : Nat) (l : List UInt8) : List UInt8 × Nat × Nat :=
  if (openB l).2.2.2 ≠ 0 then ([], 0, (openB l).2.2.2) else if (openB l).1 ≠ k then ([], 0, 3) else ((openB l).2.1, (openB l).2.2.1, 0)
def GotK (r : List UInt8 × Nat × Nat) (w : World) (e : Ending) (w' : World) : Prop := ∃ v, e = .returned (.tuple #[v, .int .i64 (r.2.1 : Nat), .int .i64 (r.2.2 : Nat)]) ∧ OwnB w.heap.size v r.1 w' ∧ Below w.heap.size w w'
set_option maxHeartbeats 1050000 in
theorem wopen_any (k : Nat) (A : Option Addr) (n c B : Nat) (l : List UInt8) (w : World) (h : Byt w B (.slice A n c) l) (hB : B ≤ w.heap.size) (hl : l.length ≤ 1050000) (hT : Tbl w) :
    Calls Tryd.prog 60 #[.slice A n c, .int .i64 k] w (GotK (openK k l) w) := by
  obtain rfl : n = l.length := by obtain ⟨_, _, hv, _⟩ := h; injection hv
  have hop := fopen_any A c B l w h hB hl hT
  obtain ⟨⟨k', b, m, e⟩, ho⟩ : ∃ x, openB l = x := ⟨_, rfl⟩
  have hd : openK k l = if e ≠ 0 then ([], 0, e) else if k' ≠ k then ([], 0, 3) else (b, m, 0) := by unfold openK; rw [ho]
  rw [ho] at hop
  obtain ⟨r, hr⟩ : ∃ r, openK k l = r := ⟨_, rfl⟩
  rw [hr] at hd ⊢
  have HD := Lib.hid hd
  obtain ⟨ln, hln⟩ : ∃ ln, l.length = ln := ⟨_, rfl⟩
  rw [hln] at hop ⊢
  clear hd hr h hT hB hln ho
  go_enter Tryd.func60, Tryd.ntmps60
  go_wp2_with fail
  refine hop.mono ?_
  rintro e1 k1 ⟨v1, rfl, ho1, h1⟩
  have HO := Lib.hid ho1
  have HB1 := Lib.hid h1
  clear hop ho1 h1
  obtain ⟨A1, c1, hv1⟩ := own_slice HO.out
  by_cases he : e = 0
  · subst he
    by_cases hk : k' = k
    · subst hk
      subst hv1
      go_wp2
      refine bodyPost_ret (v := .tuple #[.slice A1 b.length c1, .int .i64 m, .int .i64 0]) (by simp [results, Tryd.results60, go_sem]) rfl ⟨.slice A1 b.length c1, ?_, ?_, HB1.out⟩
      · rw [HD.out]; simp
      · rw [HD.out]; simp only [ne_eq, not_true_eq_false, if_false]; exact HO.out
    · have hk2 : ((k' : Int) == k) = false := by rw [beq_eq_false_iff_ne]; omega
      have hk3 : ¬ (k' : Int) = k := by omega
      go_wp2
      refine bodyPost_ret (v := .tuple #[.slice none 0 0, .int .i64 0, .int .i64 3]) (by simp [results, Tryd.results60, go_sem]) rfl ⟨.slice none 0 0, ?_, ?_, HB1.out⟩
      · rw [HD.out, if_neg (by simp), if_pos hk]; rfl
      · rw [HD.out, if_neg (by simp), if_pos hk]; exact ownB_nil _ _
  · have he2 : ((e : Int) == 0) = false := by rw [beq_eq_false_iff_ne]; omega
    have he3 : ¬ (e : Int) = 0 := by omega
    go_wp2
    refine bodyPost_ret (v := .tuple #[.slice none 0 0, .int .i64 0, .int .i64 e]) (by simp [results, Tryd.results60, go_sem]) rfl ⟨.slice none 0 0, ?_, ?_, HB1.out⟩
    · rw [HD.out, if_pos he]; rfl
    · rw [HD.out, if_pos he]; exact ownB_nil _ _
end Go.Proofs.YtbiecoifeeikpaaDoor
/-
  What the reference's Decode of a record must answer, by what its numbers are.
  There are no conditions beyond those that each lemma names.
-/
set_option linter.unusedSimpArgs false
set_option linter.unusedVariables false
namespace Go.Proofs.YtbiecoifeeikpaaDoor
open Go.RowKit
set_option maxRecDepth 100000

theorem numsL_put (m : Nat) (n : Int) (r : List UInt8) (h0 : -9223372036854775808 ≤ n) (h1 : n ≤ 9223372036854775807) : numsL (m + 1) (Nu.put n ++ r) = (numsL m r).map fun x => (n :: x.1, x.2) := by
  rw [numsL_more (Nu.get_put n r h0 h1), List.drop_left]
theorem numsL_is : ∀ (m : Nat) (l : List UInt8) (xs : List Int) (r : List UInt8), numsL (m + 1) l = some (xs, r) → ∃ n xs' l', xs = n :: xs' ∧ l = Nu.put n ++ l' ∧ numsL m l' = some (xs', r) ∧ -9223372036854775808 ≤ n ∧ n ≤ 9223372036854775807 := by
  intro m l xs r h
  obtain ⟨⟨n, k, e⟩, hg⟩ : ∃ x, Nu.get l = x := ⟨_, rfl⟩
  by_cases he : e = 0
  · subst he
    rw [numsL_more hg] at h
    obtain ⟨⟨ys, r'⟩, hy, h2⟩ := Option.map_eq_some_iff.1 h
    simp only [Prod.mk.injEq] at h2
    obtain ⟨rfl, rfl⟩ := h2
    exact ⟨n, ys, l.drop k, rfl, Nu.get_split l n k hg, hy, (Nu.get_canon l n k hg).2.2⟩
  · rw [numsL_no hg he] at h; cases h
theorem nums2_is {l : List UInt8} {xs : List Int} {r : List UInt8} (h : numsL 2 l = some (xs, r)) : ∃ a b, xs = [a, b] ∧ l = Nu.put a ++ (Nu.put b ++ r) ∧ (-9223372036854775808 ≤ a ∧ a ≤ 9223372036854775807) ∧ (-9223372036854775808 ≤ b ∧ b ≤ 9223372036854775807) := by
  obtain ⟨a, xs1, l1, rfl, rfl, h1, ha⟩ := numsL_is 1 l xs r h
  obtain ⟨b, xs2, l2, rfl, rfl, h2, hb⟩ := numsL_is 0 l1 xs1 r h1
  have : numsL 0 l2 = some ([], l2) := rfl
  rw [this] at h2
  simp only [Option.some.injEq, Prod.mk.injEq] at h2
  obtain ⟨rfl, rfl⟩ := h2
  exact ⟨a, b, rfl, rfl, ha, hb⟩
theorem nums3_is {l : List UInt8} {xs : List Int} {r : List UInt8} (h : numsL 3 l = some (xs, r)) : ∃ a b c, xs = [a, b, c] ∧ l = Nu.put a ++ (Nu.put b ++ (Nu.put c ++ r)) ∧ (-9223372036854775808 ≤ a ∧ a ≤ 9223372036854775807) ∧ (-9223372036854775808 ≤ b ∧ b ≤ 9223372036854775807) ∧ (-9223372036854775808 ≤ c ∧ c ≤ 9223372036854775807) := by
  obtain ⟨a, xs1, l1, rfl, rfl, h1, ha⟩ := numsL_is 2 l xs r h
  obtain ⟨b, c, rfl, rfl, hb, hc⟩ := nums2_is h1
  exact ⟨a, b, c, rfl, rfl, ha, hb, hc⟩
theorem decR10_open {l b : List UInt8} {k n : Nat} (h : openB l = (k, b, n, 0)) : decR10 l = if (readR10 k b).2 = true then ((readR10 k b).1, n, 0) else (zRcd, 0, 3) := by
  unfold decR10; rw [h]; simp
theorem decR10_e {l b : List UInt8} {k n e : Nat} (h : openB l = (k, b, n, e)) (he : e ≠ 0) : decR10 l = (zRcd, 0, e) := by
  unfold decR10; rw [h, if_pos he]
/-- no record's body: nothing is told -/
theorem decR10_no {l b : List UInt8} {k n : Nat} (h : openB l = (k, b, n, 0)) (hn : ∀ r, may10 r = true → k = kind10 r → b ≠ body10 r) : decR10 l = (zRcd, 0, 3) := by
  rw [decR10_open h]
  obtain ⟨⟨r, y⟩, hy⟩ : ∃ x, readR10 k b = x := ⟨_, rfl⟩
  rw [hy]
  cases y with
  | false => rw [if_neg (by simp)]
  | true =>
    obtain ⟨h1, h2, h3⟩ := readR10_yes hy
    exact absurd h3 (hn r h1 h2)
/-- a record's body, and it may be: it is told, and is what is there -/
theorem decR10_yes {l b : List UInt8} {k n : Nat} {r : Rcd} (h : openB l = (k, b, n, 0)) (hm : may10 r = true) (hk : k = kind10 r) (hb : b = body10 r) : decR10 l = (r, n, 0) ∧ encR10 r = l.take n := by
  have h1 : decR10 l = (r, n, 0) := by
    rw [decR10_open h, hk, hb, readR10_back hm, if_pos rfl]
  exact ⟨h1, (decR10_good h1).2.1.symm⟩
theorem body10_h (r : Rcd) (h : kind10 r = 1) : r.hard = true := by
  unfold kind10 at h; split at h
  · assumption
  · cases h
theorem body10_e (r : Rcd) (h : kind10 r = 2) : r.hard = false := by
  unfold kind10 at h; split at h
  · cases h
  · rename_i h2; simpa using h2
theorem dec_hard_no {l b : List UInt8} {n : Nat} (h : openB l = (1, b, n, 0)) (hn : ∀ t v, numsL 2 b = some ([t, v], []) → v < 0 ∨ 7 < v) : decR10 l = (zRcd, 0, 3) := by
  refine decR10_no h fun r hm hk hb => ?_
  have hh := body10_h r hk.symm
  obtain ⟨a1, a2, a3, a4, _⟩ := may10_hard hm hh
  have e : body10 r = Nu.put r.ht ++ (Nu.put r.hv ++ []) := by unfold body10; rw [if_pos hh, List.append_nil]
  have h2 : numsL 2 b = some ([r.ht, r.hv], []) := by
    rw [hb, e, numsL_put 1 _ _ (by omega) (by omega), numsL_put 0 _ _ (by omega) (by omega)]; rfl
  have := hn _ _ h2
  omega
theorem dec_hard_yes {l b : List UInt8} {n : Nat} {t v : Int} (h : openB l = (1, b, n, 0)) (hn : numsL 2 b = some ([t, v], [])) : (may10 ⟨true, t, v, noEnt⟩ = true → decR10 l = (⟨true, t, v, noEnt⟩, n, 0) ∧ encR10 ⟨true, t, v, noEnt⟩ = l.take n) ∧ (may10 ⟨true, t, v, noEnt⟩ = false → decR10 l = (zRcd, 0, 3)) := by
  obtain ⟨a, c, e1, e2, ha, hc⟩ := nums2_is hn
  simp only [List.cons.injEq, and_true] at e1
  obtain ⟨rfl, rfl⟩ := e1
  refine ⟨fun hm => decR10_yes h hm rfl (by rw [e2]; unfold body10; simp), fun hm => ?_⟩
  have hr : readR10 1 b = (⟨true, t, v, noEnt⟩, may10 ⟨true, t, v, noEnt⟩) := by
    unfold readR10 rdH10
    rw [if_pos rfl, e2, rdN10_put t _ _ ha.1 ha.2]
    simp only [rdN10_put v _ _ hc.1 hc.2]
    rfl
  rw [decR10_open h, hr, hm]; simp
theorem dec_ent_no {l b : List UInt8} {n : Nat} (h : openB l = (2, b, n, 0)) (hn : ∀ i t k r, numsL 3 b = some ([i, t, k], r) → k < 1 ∨ 3 < k ∨ (Nu.getT r).2.2 ≠ 0) : decR10 l = (zRcd, 0, 3) := by
  refine decR10_no h fun r hm hk hb => ?_
  have hh := body10_e r hk.symm
  obtain ⟨z1, z2, a1, a2, a3, a4, a5, a6, a7⟩ := may10_ent hm hh
  have e : body10 r = Nu.put r.e.ix ++ (Nu.put r.e.et ++ (Nu.put r.e.kd ++ (Nu.putT r.e.data.data.toList ++ []))) := by unfold body10 bodyE10; rw [if_neg (by rw [hh]; simp), List.append_nil]
  have h2 : numsL 3 b = some ([r.e.ix, r.e.et, r.e.kd], Nu.putT r.e.data.data.toList ++ []) := by
    rw [hb, e, numsL_put 2 _ _ (by omega) (by omega), numsL_put 1 _ _ (by omega) (by omega), numsL_put 0 _ _ (by omega) (by omega)]; rfl
  have h3 := hn _ _ _ _ h2
  rw [Nu.getT_putT r.e.data.data.toList [] (by rw [size_list10]; omega)] at h3
  simp only at h3
  omega
theorem dec_ent_yes {l b r : List UInt8} {n m : Nat} {i t k : Int} {s : ByteArray} (h : openB l = (2, b, n, 0)) (hn : numsL 3 b = some ([i, t, k], r)) (hg : Nu.getT r = (s.data.toList, m, 0)) :
    (may10 ⟨false, 0, 0, ⟨i, t, k, s⟩⟩ = false → decR10 l = (zRcd, 0, 3)) ∧ (may10 ⟨false, 0, 0, ⟨i, t, k, s⟩⟩ = true → encR10 ⟨false, 0, 0, ⟨i, t, k, s⟩⟩ = l.take n → decR10 l = (⟨false, 0, 0, ⟨i, t, k, s⟩⟩, n, 0)) ∧
      (may10 ⟨false, 0, 0, ⟨i, t, k, s⟩⟩ = true → encR10 ⟨false, 0, 0, ⟨i, t, k, s⟩⟩ ≠ l.take n → decR10 l = (zRcd, 0, 3)) := by
  obtain ⟨a, c, d, e1, e2, ha, hc, hd⟩ := nums3_is hn
  simp only [List.cons.injEq, and_true] at e1
  obtain ⟨rfl, rfl, rfl⟩ := e1
  obtain ⟨ht, hm', hsz⟩ := Nu.getT_canon r _ _ hg
  have hsz2 : s.size ≤ 1048576 := by rw [← size_list10]; exact hsz
  have hr : readR10 2 b = (⟨false, 0, 0, ⟨i, t, k, s⟩⟩, done10 (r.drop m, false) && may10 ⟨false, 0, 0, ⟨i, t, k, s⟩⟩) := by
    unfold readR10 rdE10
    rw [if_neg (by decide), if_pos rfl, e2, rdN10_put i _ _ ha.1 ha.2]
    simp only [rdN10_put t _ _ hc.1 hc.2, rdN10_put k _ _ hd.1 hd.2]
    have : rdT10 (r, false) = (s, (r.drop m, false)) := by
      conv => lhs; rw [ht]
      exact rdT10_put s _ _ hsz2
    rw [this]
  refine ⟨fun hm => ?_, fun hm he => ?_, fun hm he => ?_⟩
  · rw [decR10_open h, hr, hm]; simp
  · have hb : b = body10 ⟨false, 0, 0, ⟨i, t, k, s⟩⟩ := by
      obtain ⟨h1, h2, _, _, _, h6⟩ := openB_canon h
      rw [← he, encR10_is hm] at h1
      have hl := body10_len hm
      have h3 := congrArg List.length h1
      rw [sealB_len _ _ (kind10_ok _).1 (kind10_ok _).2 (by omega), sealB_len _ _ (by decide) (by decide) h6] at h3
      have p1 := put_len12 (body10 ⟨false, 0, 0, ⟨i, t, k, s⟩⟩).length (by omega)
      have p2 := put_len12 b.length h6
      have hlen : (body10 ⟨false, 0, 0, ⟨i, t, k, s⟩⟩).length = b.length := by
        split at p1 <;> split at p2 <;> omega
      have h4 := congrArg (List.drop ((sealB 2 b).length - b.length)) h1
      rw [show ((kind10 ⟨false, 0, 0, ⟨i, t, k, s⟩⟩ : Nat) : Int) = 2 from rfl] at h4
      have hs1 := sealB_is 2 b (by decide) (by decide) h6
      have hs2 := sealB_is 2 (body10 ⟨false, 0, 0, ⟨i, t, k, s⟩⟩) (by decide) (by decide) (by omega)
      have hd1 : ∀ x y z : List UInt8, (x ++ (y ++ z)).drop (x.length + y.length) = z := fun x y z => by rw [← List.append_assoc, List.drop_left' (by rw [List.length_append])]
      have g := fun (q : List UInt8) (hq : sealB 2 q = (2 : Int).toNat.toUInt8 :: (Nu.put ((q.length : Nat) : Int) ++ (fourB (crcSum ((2 : Int).toNat.toUInt8 :: Nu.put ((q.length : Nat) : Int) ++ q)) ++ q))) => by
        have : (sealB 2 q).drop ((sealB 2 q).length - q.length) = q := by
          have e9 : sealB 2 q = ((2 : Int).toNat.toUInt8 :: (Nu.put ((q.length : Nat) : Int) ++ fourB (crcSum ((2 : Int).toNat.toUInt8 :: Nu.put ((q.length : Nat) : Int) ++ q)))) ++ q := by rw [hq]; simp
          have e8 := congrArg List.length e9
          rw [List.length_append] at e8
          rw [e9]
          apply List.drop_left'
          simp only [List.length_append, List.length_cons]
          omega
        exact this
      have g1 := g b hs1
      have g2 := g _ hs2
      have hL : (sealB 2 (body10 ⟨false, 0, 0, ⟨i, t, k, s⟩⟩)).length - (body10 ⟨false, 0, 0, ⟨i, t, k, s⟩⟩).length = (sealB 2 b).length - b.length := by
        rw [hlen]
        have := congrArg List.length h1
        rw [show ((kind10 ⟨false, 0, 0, ⟨i, t, k, s⟩⟩ : Nat) : Int) = 2 from rfl] at this
        rw [this]; rfl
      rw [hL] at g2
      exact (g2.symm.trans (h4.trans g1)).symm
    exact (decR10_yes h hm rfl hb).1
  · refine decR10_no h fun q hq hk hb => ?_
    have hy := decR10_yes h hq hk hb
    have h1 := hy.1
    rw [decR10_open h, hr, hm] at h1
    split at h1
    · simp only [Prod.mk.injEq, and_true] at h1
      exact he (by rw [h1]; exact hy.2)
    · simp only [Prod.mk.injEq] at h1
      exact absurd h1.2.2 (by decide)
theorem dec_other {l b : List UInt8} {n k : Nat} (h : openB l = (k, b, n, 0)) (h1 : k ≠ 1) (h2 : k ≠ 2) : decR10 l = (zRcd, 0, 3) := by
  rw [decR10_open h]
  unfold readR10
  rw [if_neg h1, if_neg h2]; simp
end Go.Proofs.YtbiecoifeeikpaaDoor
/-
  Package wal's getData answers what the plain function says.
  The bytes are there in memory, at most 1,000,000; package crc's table lies as it was laid.
-/
set_option linter.unusedSimpArgs false
set_option linter.unusedVariables false
namespace Go.Proofs.YtbiecoifeeikpaaDoor
open Go.RowKit
set_option maxRecDepth 100000

def comb10 (b : List UInt8) (n : Nat) (r : List UInt8 × Nat × Nat) : List UInt8 × Nat × Nat := if r.2.2 ≠ 0 then ([], 0, r.2.2) else (b ++ r.1, n + r.2.1, 0)
/-- the Data of m bytes at the beginning of l, how many bytes its frames take, the error -/
def getD10 : Nat → Nat → List UInt8 → List UInt8 × Nat × Nat
  | 0, _, _ => ([], 0, 0)
  | f + 1, m, l => if m = 0 then ([], 0, 0) else if (openK 4 l).2.2 ≠ 0 then ([], 0, (openK 4 l).2.2) else if (openK 4 l).1.length ≠ min 3000 m then ([], 0, 3)
      else comb10 (openK 4 l).1 (openK 4 l).2.1 (getD10 f (m - (openK 4 l).1.length) (l.drop (openK 4 l).2.1))
theorem comb10_bad (b : List UInt8) (n : Nat) (r : List UInt8 × Nat × Nat) (h : (comb10 b n r).2.2 ≠ 0) : comb10 b n r = ([], 0, (comb10 b n r).2.2) := by
  unfold comb10 at h ⊢
  split
  · rfl
  · rename_i h2; rw [if_neg h2] at h; exact absurd rfl h
theorem getD10_bad (f m : Nat) (l : List UInt8) (h : (getD10 f m l).2.2 ≠ 0) : getD10 f m l = ([], 0, (getD10 f m l).2.2) := by
  cases f with
  | zero => exact absurd rfl h
  | succ f =>
    unfold getD10 at h ⊢
    by_cases h0 : m = 0
    · rw [if_pos h0] at h; exact absurd rfl h
    rw [if_neg h0] at h ⊢
    by_cases h1 : (openK 4 l).2.2 ≠ 0
    · rw [if_pos h1]
    rw [if_neg h1] at h ⊢
    by_cases h2 : (openK 4 l).1.length ≠ min 3000 m
    · rw [if_pos h2]
    rw [if_neg h2] at h ⊢
    exact comb10_bad _ _ _ h
theorem comb10_nil (r : List UInt8 × Nat × Nat) (h : r.2.2 ≠ 0 → r = ([], 0, r.2.2)) : comb10 [] 0 r = r := by
  unfold comb10
  by_cases h0 : r.2.2 = 0
  · rw [if_neg (by simpa using h0)]
    obtain ⟨a, b, c⟩ := r
    simp only at h0
    subst h0
    simp
  · rw [if_pos h0]; exact (h h0).symm
theorem comb10_comb (b c : List UInt8) (n m : Nat) (r : List UInt8 × Nat × Nat) : comb10 b n (comb10 c m r) = comb10 (b ++ c) (n + m) r := by
  unfold comb10
  by_cases h : r.2.2 ≠ 0
  · simp only [if_pos h]
  · simp only [if_neg h, ne_eq, not_true_eq_false, if_false, List.append_assoc, Nat.add_assoc]
theorem openK_good {k n : Nat} {l b : List UInt8} (h : openK k l = (b, n, 0)) : 6 ≤ n ∧ n ≤ l.length ∧ b.length ≤ 4000 ∧ openB l = (k, b, n, 0) := by
  unfold openK at h
  obtain ⟨⟨k', b', m, e⟩, ho⟩ : ∃ x, openB l = x := ⟨_, rfl⟩
  rw [ho] at h
  simp only at h
  by_cases he : e ≠ 0
  · rw [if_pos he] at h; simp only [Prod.mk.injEq] at h; exact absurd h.2.2 he
  rw [if_neg he] at h
  by_cases hk : k' ≠ k
  · rw [if_pos hk] at h; simp at h
  rw [if_neg hk] at h
  simp only [Prod.mk.injEq, and_true] at h
  obtain ⟨rfl, rfl⟩ := h
  have he0 : e = 0 := by omega
  have hk0 : k' = k := by omega
  subst he0; subst hk0
  have := openB_good ho
  exact ⟨this.1, this.2.1, this.2.2.1, ho⟩
theorem openK_bad {k n e : Nat} {l b : List UInt8} (h : openK k l = (b, n, e)) (he : e ≠ 0) : b = [] ∧ n = 0 ∧ (e = 2 ∨ e = 3) := by
  unfold openK at h
  obtain ⟨⟨k', b', m, e'⟩, ho⟩ : ∃ x, openB l = x := ⟨_, rfl⟩
  rw [ho] at h
  simp only at h
  by_cases he2 : e' ≠ 0
  · rw [if_pos he2] at h; simp only [Prod.mk.injEq] at h
    obtain ⟨rfl, rfl, rfl⟩ := h
    exact ⟨rfl, rfl, (openB_bad ho he2).2.2.2⟩
  rw [if_neg he2] at h
  by_cases hk : k' ≠ k
  · rw [if_pos hk] at h; simp only [Prod.mk.injEq] at h
    obtain ⟨rfl, rfl, rfl⟩ := h
    exact ⟨rfl, rfl, .inr rfl⟩
  · rw [if_neg hk] at h; simp only [Prod.mk.injEq] at h; exact absurd h.2.2.symm he
theorem openK_nil (k : Nat) : openK k [] = ([], 0, 2) := rfl
def GotD (r : List UInt8 × Nat × Nat) (w : World) (e : Ending) (w' : World) : Prop := e = .returned (.tuple #[.string ⟨r.1.toArray⟩, .int .i64 (r.2.1 : Nat), .int .i64 (r.2.2 : Nat)]) ∧ Below w.heap.size w w'
theorem wopen_is (k : Nat) (ki : Int) (hki : ki = (k : Int)) (A : Option Addr) (n c B : Nat) (l : List UInt8) (r) (w : World) (h : Byt w B (.slice A n c) l) (hB : B ≤ w.heap.size) (hl : l.length ≤ 1050000) (hT : Tbl w) (hr : openK k l = r) :
    Calls Tryd.prog 60 #[.slice A n c, .int .i64 ki] w (GotK r w) := by
  rw [← hr, hki]; exact wopen_any k A n c B l w h hB hl hT
theorem conv_any10 {w : World} {B : Nat} {v : Value} {l : List UInt8} (h : OwnB B v l w) : (convert 46 9 v).run Tryd.prog w = .ok (.string ⟨l.toArray⟩) w := by
  by_cases h0 : 1 ≤ l.length
  · exact conv_own h h0
  · have : l = [] := List.eq_nil_of_length_eq_zero (by omega)
    subst this
    rcases h.2 with ⟨rfl, _⟩ | ⟨g, c, cur, rfl, _⟩
    · rfl
    · exact conv_zero w g 0 c
def lenOfSlice10 : Value → Nat
  | .slice _ n _ => n
  | _ => 0
set_option maxHeartbeats 1050000 in
theorem wgetD_some (g o c B m : Nat) (l : List UInt8) (w : World) (h : Byt w B (.slice (some ⟨g, o, none⟩) l.length c) l) (hB : B ≤ w.heap.size) (hl : l.length ≤ 1050000) (hm : m ≤ 200000) (hT : Tbl w) :
    Calls Tryd.prog 64 #[.slice (some ⟨g, o, none⟩) l.length c, .int .i64 m] w (GotD (getD10 m m l) w) := by
  have HB := Lib.hid h
  have HT := Lib.hid hT; clear hT
  have hcl : l.length ≤ c := by obtain ⟨_, _, hv, hc, _⟩ := h; injection hv with _ _ e; omega
  clear h
  go_enter Tryd.func64, Tryd.ntmps64
  go_wp2_with fail
  go_loopw [7, 8] (fun v i wr => ∃ (acc : List UInt8) (k j f : Nat), acc.length = j ∧ i = .int .i64 k ∧ k ≤ l.length ∧ j ≤ m ∧ m - j ≤ f ∧ OwnB w.heap.size v acc wr ∧ Below w.heap.size w wr ∧ getD10 m m l = comb10 acc k (getD10 f (m - j) (l.drop k))) (fun v _ _ => m - (lenOfSlice10 v))
  case atStart => exact ⟨[], 0, 0, m, rfl, rfl, Nat.zero_le _, Nat.zero_le _, by omega, ownB_nil _ _, Below.refl _ _, by rw [comb10_nil _ (getD10_bad _ _ _)]; rfl⟩
  case round =>
    obtain ⟨acc, k, j, f, hj, rfl, hk, hjm, hf, hown, hb, heq⟩ := hrel
    obtain ⟨A9, c9, hv9⟩ := own_slice hown
    rw [hj] at hv9
    subst hv9
    have HOWN := Lib.hid hown; have HEQ := Lib.hid heq; have HJ := Lib.hid hj
    have hby := (HB.out.below hb hB).cut (k := k) hk
    rw [add_lit_10] at hby
    have hT2 := tbl_keep HT.out hb
    have hBr : B ≤ wr.heap.size := Nat.le_trans hB hb.size
    have hdl : (l.drop k).length ≤ 1050000 := by rw [List.length_drop]; omega
    have HT2 := Lib.hid hT2
    have hkc : k ≤ c := by omega
    clear hown heq hT2 hj
    by_cases hlt : j < m
    · have hji : (j : Int) < m := by omega
      obtain ⟨f', rfl⟩ : ∃ f', f = f' + 1 := ⟨f - 1, by omega⟩
      obtain ⟨⟨b, n, e⟩, hr⟩ : ∃ r, openK 4 (l.drop k) = r := ⟨_, rfl⟩
      have hun : getD10 (f' + 1) (m - j) (l.drop k) = if e ≠ 0 then ([], 0, e) else if b.length ≠ min 3000 (m - j) then ([], 0, 3) else comb10 b n (getD10 f' (m - j - b.length) ((l.drop k).drop n)) := by
        conv => lhs; unfold getD10
        rw [if_neg (by omega), hr]
      have HR := Lib.hid hr; have HUN := Lib.hid hun
      clear hun hr
      by_cases hck : c = k
      · have hlk : l.length = k := by omega
        have hd : l.drop k = [] := List.drop_of_length_le (by omega)
        have hby0 : Byt wr B (.slice (some ⟨g, o, none⟩) 0 0) [] := ⟨_, _, rfl, Nat.le_refl _, fun h => absurd h (by simp)⟩
        have hres : getD10 m m l = ([], 0, 2) := by
          have h1 := HR.out
          rw [hd, openK_nil] at h1
          simp only [Prod.mk.injEq] at h1
          obtain ⟨_, _, rfl⟩ := h1
          rw [HEQ.out, HUN.out, if_pos (by decide)]; rfl
        have HRES := Lib.hid hres
        subst hck
        have HBY := Lib.hid hby0
        clear hres hby hby0 hdl hd hlk
        go_wp2_with fail
        refine (wopen_is 4 4 rfl _ 0 0 B [] ([], 0, 2) _ HBY.out hBr (by simp) HT2.out (openK_nil 4)).mono ?_
        rintro e9 w1 ⟨v1, rfl, ho1, hb1⟩
        have hbw1 := hb.trans (hb1.mono hb.size)
        clear ho1
        go_wp2
        exact bodyPost_ret (v := .tuple #[.string ⟨#[]⟩, .int .i64 0, .int .i64 2]) (by simp [results, Tryd.results64, go_sem]) rfl ⟨by rw [HRES.out]; rfl, hbw1⟩
      · rw [if_neg hck] at hby
        have HBY := Lib.hid hby; clear hby
        by_cases he : e = 0
        · subst he
          obtain ⟨n1, n2, n3, n4⟩ := openK_good HR.out
          rw [List.length_drop] at n2
          have hsum : k + n ≤ l.length := by omega
          have HN := Lib.hid (And.intro n1 hsum)
          have hkn : (k : Int) + n ≤ 1050000 := by omega
          clear n1 n2 n4 hsum
          by_cases hbl : b.length = min 3000 (m - j)
          · have hmn : min (3000 : Int) ((m : Int) - j) = (b.length : Int) := by omega
            obtain ⟨bl, hbb⟩ : ∃ bl, b.length = bl := ⟨_, rfl⟩
            rw [hbb] at hmn hbl n3
            have HBB := Lib.hid hbb
            clear hbb
            have hnx : getD10 m m l = comb10 (acc ++ b) (k + n) (getD10 f' (m - (j + bl)) (l.drop (k + n))) := by
              rw [HEQ.out, HUN.out, if_neg (by simp), if_neg (by rw [HBB.out]; simpa using hbl), comb10_comb, HBB.out, List.drop_drop, Nat.sub_sub]
            have HNX := Lib.hid hnx
            have hbl2 : 1 ≤ bl := by omega
            have hbl3 : j + bl ≤ m := by omega
            have hwr : IntKind.i64.wrap ((m : Int) - j) = (m : Int) - j := by rw [IntKind.wrap_i64]; omega
            clear hnx hbl
            go_wp2_with fail
            refine (wopen_is 4 4 rfl _ _ _ B (l.drop k) _ _ HBY.out hBr hdl HT2.out HR.out).mono ?_
            rintro e9 w1 ⟨v1, rfl, ho1, hb1⟩
            have hown1 := HOWN.out.below hb1
            have hbw1 := hb.trans (hb1.mono hb.size)
            obtain ⟨A1, c1, hv1⟩ := own_slice ho1
            simp only [HBB.out] at hv1
            subst hv1
            have hby1 := Byt.of_own ho1
            clear hb1 ho1 hb
            have hal : acc.length + b.length ≤ 1050000 := by have := HBB.out; have := HJ.out; omega
            have HAL := Lib.hid hal
            clear hal
            go_wp2_with (at_builtin; refine wpList_append_byt rfl _ _ rfl w.heap.size _ _ _ _ _ rfl hown1 rfl hby1 (Nat.le_trans HAL.out (by decide)) hbw1.size ?_)
            intro v2 w2 hown2 hb2
            have hbw2 := hbw1.trans hb2
            have hab : (acc ++ b).length = j + bl := by rw [List.length_append, HBB.out, HJ.out]
            obtain ⟨A7, c7, hv7⟩ := own_slice hown2
            rw [hab] at hv7
            subst hv7
            clear hown1 hby1 hbw1 hb2
            have HAB := Lib.hid hab
            clear hab
            go_wp2
            go_roundw
            case rel => exact ⟨acc ++ b, k + n, j + bl, f', HAB.out, by go_num, HN.out.2, hbl3, by omega, hown2, hbw2, HNX.out⟩
            case measure => simp [lenOfSlice10]; omega
          · obtain ⟨bl, hbb⟩ : ∃ bl, b.length = bl := ⟨_, rfl⟩
            have hres : getD10 m m l = ([], 0, 3) := by rw [HEQ.out, HUN.out, if_neg (by simp), if_pos hbl]; rfl
            rw [hbb] at hbl n3
            have HBB := Lib.hid hbb
            have HRES := Lib.hid hres
            have hwr : IntKind.i64.wrap ((m : Int) - j) = (m : Int) - j := by rw [IntKind.wrap_i64]; omega
            have hmn : ¬ (bl : Int) = min (3000 : Int) ((m : Int) - j) := by omega
            clear hbb hres
            go_wp2_with fail
            refine (wopen_is 4 4 rfl _ _ _ B (l.drop k) _ _ HBY.out hBr hdl HT2.out HR.out).mono ?_
            rintro e9 w1 ⟨v1, rfl, ho1, hb1⟩
            have hbw1 := hb.trans (hb1.mono hb.size)
            obtain ⟨A1, c1, hv1⟩ := own_slice ho1
            simp only [HBB.out] at hv1
            subst hv1
            clear hb1 ho1 hb
            go_wp2
            exact bodyPost_ret (v := .tuple #[.string ⟨#[]⟩, .int .i64 0, .int .i64 3]) (by simp [results, Tryd.results64, go_sem]) rfl ⟨by rw [HRES.out]; rfl, hbw1⟩
        · have hee : ((e : Int) == 0) = false := by rw [beq_eq_false_iff_ne]; omega
          have hee2 : ¬ (e : Int) = 0 := by omega
          have hres : getD10 m m l = ([], 0, e) := by
            rw [HEQ.out, HUN.out, if_pos he]
            unfold comb10; rw [if_pos he]
          have HRES := Lib.hid hres
          obtain ⟨hb0, hn0, _⟩ := openK_bad HR.out he
          subst hb0; subst hn0
          clear he hres
          go_wp2_with fail
          refine (wopen_is 4 4 rfl _ _ _ B (l.drop k) _ _ HBY.out hBr hdl HT2.out HR.out).mono ?_
          rintro e9 w1 ⟨v1, rfl, ho1, hb1⟩
          have hbw1 := hb.trans (hb1.mono hb.size)
          clear ho1
          go_wp2
          exact bodyPost_ret (v := .tuple #[.string ⟨#[]⟩, .int .i64 0, .int .i64 e]) (by simp [results, Tryd.results64, go_sem]) rfl ⟨by rw [HRES.out]; rfl, hbw1⟩
    · have hge : (m : Int) ≤ j := by omega
      obtain rfl : j = m := by omega
      have hres : getD10 j j l = (acc, k, 0) := by
        rw [HEQ.out, Nat.sub_self]
        have : getD10 f 0 (l.drop k) = ([], 0, 0) := by cases f <;> rfl
        rw [this]; unfold comb10; simp
      have HRES := Lib.hid hres
      have hcv := conv_any10 HOWN.out
      clear hres hby hdl
      go_wp2
      exact bodyPost_ret (v := .tuple #[.string ⟨acc.toArray⟩, .int .i64 k, .int .i64 0]) (by simp [results, Tryd.results64, go_sem]) rfl ⟨by rw [HRES.out]; rfl, hb⟩
end Go.Proofs.YtbiecoifeeikpaaDoor
/-
  Package wal's GetSnap answers what the plain function says.
  The bytes are there in memory, at most 1,000,000; package crc's table lies as it was laid.
-/
set_option linter.unusedSimpArgs false
set_option linter.unusedVariables false
namespace Go.Proofs.YtbiecoifeeikpaaDoor
open Go.RowKit
set_option maxRecDepth 100000

def zSnp : Snp := ⟨0, 0, ByteArray.empty, ByteArray.empty⟩
def rdS10 (s : RdS10) : (Snp × Int) × RdS10 :=
  ((⟨(rdN10 s).1, (rdN10 (rdN10 s).2).1, (rdT10 (rdN10 (rdN10 s).2).2).1, ByteArray.empty⟩, (rdN10 (rdT10 (rdN10 (rdN10 s).2).2).2).1), (rdN10 (rdT10 (rdN10 (rdN10 s).2).2).2).2)
def okS10 (b : List UInt8) : Bool := done10 (rdS10 (b, false)).2 && mayHead10 (rdS10 (b, false)).1.1 (rdS10 (b, false)).1.2
/-- the snapshot at the beginning, how many bytes it takes, the error -/
def getS10 (l : List UInt8) : Snp × Nat × Nat :=
  if (openK 3 l).2.2 ≠ 0 then (zSnp, 0, (openK 3 l).2.2)
  else if okS10 (openK 3 l).1 = false then (zSnp, 0, 3)
  else if (getD10 (rdS10 ((openK 3 l).1, false)).1.2.toNat (rdS10 ((openK 3 l).1, false)).1.2.toNat (l.drop (openK 3 l).2.1)).2.2 ≠ 0 then (zSnp, 0, (getD10 (rdS10 ((openK 3 l).1, false)).1.2.toNat (rdS10 ((openK 3 l).1, false)).1.2.toNat (l.drop (openK 3 l).2.1)).2.2)
  else (⟨(rdS10 ((openK 3 l).1, false)).1.1.ix, (rdS10 ((openK 3 l).1, false)).1.1.st, (rdS10 ((openK 3 l).1, false)).1.1.conf, ⟨(getD10 (rdS10 ((openK 3 l).1, false)).1.2.toNat (rdS10 ((openK 3 l).1, false)).1.2.toNat (l.drop (openK 3 l).2.1)).1.toArray⟩⟩,
    (openK 3 l).2.1 + (getD10 (rdS10 ((openK 3 l).1, false)).1.2.toNat (rdS10 ((openK 3 l).1, false)).1.2.toNat (l.drop (openK 3 l).2.1)).2.1, 0)
def GotS10 (r : Snp × Nat × Nat) (w : World) (e : Ending) (w' : World) : Prop := e = .returned (.tuple #[r.1.val, .int .i64 (r.2.1 : Nat), .int .i64 (r.2.2 : Nat)]) ∧ Below w.heap.size w w'
theorem comb10_len {b : List UInt8} {n N : Nat} {r : List UInt8 × Nat × Nat} (h : (comb10 b n r).2.2 = 0) (hr : r.2.2 = 0 → n + r.2.1 ≤ N) : (comb10 b n r).2.1 ≤ N := by
  unfold comb10 at h ⊢
  by_cases h0 : r.2.2 ≠ 0
  · rw [if_pos h0] at h; exact absurd h h0
  · rw [if_neg h0]; exact hr (by omega)
theorem getD10_len : ∀ (f m : Nat) (l : List UInt8), (getD10 f m l).2.2 = 0 → (getD10 f m l).2.1 ≤ l.length
  | 0, _, _, _ => Nat.zero_le _
  | f + 1, m, l, h => by
    unfold getD10 at h ⊢
    by_cases h0 : m = 0
    · rw [if_pos h0]; exact Nat.zero_le _
    rw [if_neg h0] at h ⊢
    by_cases h1 : (openK 4 l).2.2 ≠ 0
    · rw [if_pos h1] at h; exact absurd h h1
    rw [if_neg h1] at h ⊢
    by_cases h2 : (openK 4 l).1.length ≠ min 3000 m
    · rw [if_pos h2] at h; exact absurd h (by decide)
    rw [if_neg h2] at h ⊢
    obtain ⟨⟨b, n, e⟩, ho⟩ : ∃ x, openK 4 l = x := ⟨_, rfl⟩
    rw [ho] at h h1 ⊢
    simp only at h h1 ⊢
    have he : e = 0 := by omega
    subst he
    have hg := openK_good ho
    refine comb10_len h fun hr => ?_
    have := getD10_len f _ _ hr
    rw [List.length_drop] at this
    omega
theorem wgetD_is (g o N c B m : Nat) (l : List UInt8) (r) (w : World) (h : Byt w B (.slice (some ⟨g, o, none⟩) N c) l) (hB : B ≤ w.heap.size) (hl : l.length ≤ 1050000) (hm : m ≤ 200000) (hT : Tbl w) (hr : getD10 m m l = r) :
    Calls Tryd.prog 64 #[.slice (some ⟨g, o, none⟩) N c, .int .i64 m] w (GotD r w) := by
  obtain rfl : N = l.length := by obtain ⟨_, _, hv, _⟩ := h; injection hv
  rw [← hr]; exact wgetD_some g o c B m l w h hB hl hm hT
set_option maxHeartbeats 2000000 in
theorem wgetS_ok (g o c B n : Nat) (l b : List UInt8) (w : World) (h : Byt w B (.slice (some ⟨g, o, none⟩) l.length c) l) (hB : B ≤ w.heap.size) (hl : l.length ≤ 1050000) (hT : Tbl w) (ho : openK 3 l = (b, n, 0)) (ix st len : Int) (cf : ByteArray) (s1 s2 s3 s4 : RdS10)
    (q1 : rdN10 (b, false) = (ix, s1)) (q2 : rdN10 s1 = (st, s2)) (q3 : rdT10 s2 = (cf, s3)) (q4 : rdN10 s3 = (len, s4)) :
    Calls Tryd.prog 41 #[.slice (some ⟨g, o, none⟩) l.length c] w (GotS10 (getS10 l) w) := by
  have hbl := (openK_good ho).2.2.1
  obtain ⟨W1, hW1⟩ : ∃ W1, w.alloc (.cells #[.int .i64 0, .int .i64 0, .string ⟨#[]⟩, .string ⟨#[]⟩] 33) = W1 := ⟨_, rfl⟩
  have hb1 : Below w.heap.size w W1 := by rw [← hW1]; exact below_new _ _
  have p1 : Rt W1 w.heap.size 33 [.int .i64 0, .int .i64 0, .string ⟨#[]⟩, .string ⟨#[]⟩] := by rw [← hW1]; exact Rt.new w _ _
  have hby1 := h.below hb1 hB
  have hT1 := hT.below hb1
  have hop := wopen_is 3 3 rfl (some ⟨g, o, none⟩) l.length c B l _ W1 hby1 (Nat.le_trans hB hb1.size) hl hT1 ho
  have HW1 := Lib.hid hW1
  have HB1 := Lib.hid hb1
  have HBY1 := Lib.hid hby1
  have HT1 := Lib.hid hT1
  have HT0 := Lib.hid hT
  obtain ⟨ln, hln⟩ : ∃ ln, l.length = ln := ⟨_, rfl⟩
  have HLN := Lib.hid hln
  rw [hln] at hop ⊢
  clear h hT hW1 hb1 hby1 hT1 hln
  go_enter Tryd.func41, Tryd.ntmps41
  go_wp2_with fail
  rw [HW1.out]
  refine hop.mono ?_
  rintro e1 k1 ⟨v1, rfl, ho1, h1⟩
  have hby2 := HBY1.out.below h1 (Nat.le_trans hB HB1.out.size)
  have p2 := p1.below h1
  have hb2 := HB1.out.trans (h1.mono HB1.out.size)
  obtain ⟨A1, c1, hv1⟩ := own_slice ho1
  obtain ⟨bl, hbb⟩ : ∃ bl, b.length = bl := ⟨_, rfl⟩
  rw [hbb] at hv1
  subst hv1
  have HO := Lib.hid ho1
  clear ho1 h1 p1 hop
  obtain ⟨W2, hW2⟩ : ∃ W2, k1.alloc (.cells #[.slice A1 bl c1, .bool false] 111) = W2 := ⟨_, rfl⟩
  have hr0 : WRd W2 k1.heap.size k1.heap.size (b, false) := by rw [← hW2]; exact WRd.new k1 k1.heap.size b A1 bl c1 (Byt.of_own HO.out) (Nat.le_refl _)
  have h2 : Below k1.heap.size k1 W2 := by rw [← hW2]; exact below_new _ _
  have p3 := p2.below h2
  have hb3 := hb2.trans (h2.mono hb2.size)
  have hby3 := hby2.below h2 (Nat.le_trans hB hb2.size)
  have l1 := rdN10_len (b, false)
  have l2 := rdN10_len s1
  have l3 := rdT10_len s2
  have l4 := rdN10_len s3
  rw [q1] at l1
  rw [q2] at l2
  rw [q3] at l3
  rw [q4] at l4
  simp only at l1 l2 l3 l4
  have bb := get_bounds10 s3
  rw [q4] at bb
  simp only at bb
  have hcf := getT_size10 s2
  rw [q3] at hcf
  simp only at hcf
  have hbl4 : bl ≤ 4000 := by omega
  have hhd := w10head k1.heap.size k1.heap.size (b, false) s1 s2 s3 ix st cf W2 hr0 (by show b.length ≤ _; omega) (by omega) (by omega) q1 q2 q3 s4 len (by omega) q4 bb.1 bb.2
  have hwk : w.heap.size < k1.heap.size := p2.lt
  have HW2 := Lib.hid hW2
  have HP3 := Lib.hid p3
  have HB3 := Lib.hid hb3
  have HBY3 := Lib.hid hby3
  have hz2 : W2.heap.size = k1.heap.size + 1 := by rw [← hW2]; simp
  clear hW2 hr0 h2 p2 p3 hb2 hb3 hby2 hby3 HO HB1 HBY1 HW1
  go_wp2_with fail
  rw [HW2.out]
  refine hhd.mono ?_
  rintro e2 k2 ⟨rfl, hr2, hg2⟩
  have p4 := HP3.out.grown hg2 (by omega)
  have hb4 := HB3.out.trans (below_grown10 hg2 (B := w.heap.size) (by omega) (by omega))
  have hby4 := byt_grown10 HBY3.out hg2 (by omega) (by omega)
  have hz3 : k1.heap.size + 1 ≤ k2.heap.size := by have := hg2.size; omega
  have HR := Lib.hid hr2
  have HP4 := Lib.hid p4
  have HB4 := Lib.hid hb4
  have HBY4 := Lib.hid hby4
  clear hg2 hhd HP3 HB3 HBY3 HW2 hr2 p4 hb4 hby4
  have hcl : ln ≤ c := by have := HLN.out; have := byt_cap10 HBY4.out; omega
  have hnl : n ≤ ln := by have := (openK_good ho).2.1; have := HLN.out; omega
  have hn6 : 6 ≤ n := (openK_good ho).1
  obtain ⟨dn, hdn⟩ : ∃ dn, done10 s4 = dn := ⟨_, rfl⟩
  obtain ⟨y, hy⟩ : ∃ y, mayHead10 ⟨ix, st, cf, ByteArray.empty⟩ len = y := ⟨_, rfl⟩
  have hrd : rdS10 (b, false) = ((⟨ix, st, cf, ByteArray.empty⟩, len), s4) := by unfold rdS10; simp only [q1, q2, q3, q4]
  have hgs : getS10 l = if (dn && y) = false then (zSnp, 0, 3) else if (getD10 len.toNat len.toNat (l.drop n)).2.2 ≠ 0 then (zSnp, 0, (getD10 len.toNat len.toNat (l.drop n)).2.2)
      else (⟨ix, st, cf, ⟨(getD10 len.toNat len.toNat (l.drop n)).1.toArray⟩⟩, n + (getD10 len.toNat len.toNat (l.drop n)).2.1, 0) := by
    unfold getS10 okS10
    rw [ho]
    simp only [ne_eq, not_true_eq_false, if_false]
    rw [hrd]
    simp only [hdn, hy]
  have hdone := fun W hW => w10done k1.heap.size k1.heap.size s4 W hW (by omega)
  rw [show (!s4.2 && s4.1.length == 0) = dn from hdn] at hdone
  have hmay := fun W => wmayHead ⟨ix, st, cf, ByteArray.empty⟩ len W (by show cf.size ≤ _; omega)
  rw [hy] at hmay
  have HGS := Lib.hid hgs
  have HY := Lib.hid hy
  clear hdn hgs hrd hy q1 q2 q3 q4 ho
  go_wp2_with fail
  obtain ⟨W3, hW3⟩ : ∃ W3, k2.alloc (.cells #[.int .i64 ix, .int .i64 st, .string cf, .string ⟨#[]⟩] 33) = W3 := ⟨_, rfl⟩
  have h3 : Below k2.heap.size k2 W3 := by rw [← hW3]; exact below_new _ _
  have hx : Rt W3 k2.heap.size 33 [.int .i64 ix, .int .i64 st, .string cf, .string ⟨#[]⟩] := by rw [← hW3]; exact Rt.new k2 _ _
  rw [hW3]
  refine (hdone W3 (HR.out.then_ h3)).mono ?_
  rintro e3 k3 ⟨rfl, rfl⟩
  have p5 := HP4.out.below h3
  have hb5 := HB4.out.trans (h3.mono HB4.out.size)
  have hby5 := HBY4.out.below h3 (by omega)
  have hpk : w.heap.size < k2.heap.size := HP4.out.lt
  have hkz : k2.heap.size < k3.heap.size := hx.lt
  have HX := Lib.hid hx
  have HP5 := Lib.hid p5
  have HB5 := Lib.hid hb5
  have HBY5 := Lib.hid hby5
  have x0 := p5.cell (j := 0) rfl
  have y0 := p5.frz 0
  have x1 := p5.cell (j := 1) rfl
  have y1 := p5.frz 1
  have x2 := p5.cell (j := 2) rfl
  have y2 := p5.frz 2
  have x3 := p5.cell (j := 3) rfl
  have y3 := p5.frz 3
  have z0 := hx.cell (j := 0) rfl
  have z1 := hx.cell (j := 1) rfl
  have z2 := hx.cell (j := 2) rfl
  have z3 := hx.cell (j := 3) rfl
  clear hW3 h3 hx p5 hb5 hby5 hdone HR HP4 HB4 HBY4
  cases dn with
  | false =>
    go_wp2
    have hxs : Rt _ w.heap.size 33 [.int .i64 0, .int .i64 0, .string ⟨#[]⟩, .string ⟨#[]⟩] := ((((HP5.out.set 0 (.int .i64 0)).set 1 (.int .i64 0)).set 2 (.string ⟨#[]⟩)).set 3 (.string ⟨#[]⟩))
    have hbs := (below_set10 ((below_set10 ((below_set10 ((below_set10 (HB5.out) 0 (g := w.heap.size) (.int .i64 0) (Nat.le_refl _))) 1 (g := w.heap.size) (.int .i64 0) (Nat.le_refl _))) 2 (g := w.heap.size) (.string ⟨#[]⟩) (Nat.le_refl _))) 3 (g := w.heap.size) (.string ⟨#[]⟩) (Nat.le_refl _))
    refine body_world10 (fun W => Below w.heap.size w W ∧ Rt W w.heap.size 33 [.int .i64 0, .int .i64 0, .string ⟨#[]⟩, .string ⟨#[]⟩]) ⟨hbs, hxs⟩ ?_
    clear hbs hxs
    rintro W ⟨hbs, hxs⟩
    have d0 := hxs.cell (j := 0) rfl
    have d1 := hxs.cell (j := 1) rfl
    have d2 := hxs.cell (j := 2) rfl
    have d3 := hxs.cell (j := 3) rfl
    refine bodyPost_ret (v := .tuple #[.agg #[.int .i64 0, .int .i64 0, .string ⟨#[]⟩, .string ⟨#[]⟩], .int .i64 0, .int .i64 3]) (by simp [results, Tryd.results41, go_sem, d0, d1, d2, d3]) rfl ?_
    exact ⟨by rw [HGS.out, if_pos (by simp)]; rfl, hbs⟩
  | true =>
    go_wp2_with fail
    refine (hmay _).mono ?_
    rintro e4 k4 ⟨rfl, h4⟩
    have p6 := HP5.out.below h4
    have hx6 := HX.out.below h4
    have hb6 := HB5.out.trans (h4.mono HB5.out.size)
    have hby6 := HBY5.out.below h4 (by omega)
    have HX6 := Lib.hid hx6
    have HP6 := Lib.hid p6
    have HB6 := Lib.hid hb6
    have HBY6 := Lib.hid hby6
    have hkz4 : k2.heap.size < k4.heap.size := Nat.lt_of_lt_of_le hkz h4.size
    clear h4 x0 x1 x2 x3 y0 y1 y2 y3 z0 z1 z2 z3 HX HP5 HB5 HBY5 hmay
    have x0 := p6.cell (j := 0) rfl
    have y0 := p6.frz 0
    have x1 := p6.cell (j := 1) rfl
    have y1 := p6.frz 1
    have x2 := p6.cell (j := 2) rfl
    have y2 := p6.frz 2
    have x3 := p6.cell (j := 3) rfl
    have y3 := p6.frz 3
    have z0 := hx6.cell (j := 0) rfl
    have u0 := hx6.frz 0
    have z1 := hx6.cell (j := 1) rfl
    have u1 := hx6.frz 1
    have z2 := hx6.cell (j := 2) rfl
    have u2 := hx6.frz 2
    have z3 := hx6.cell (j := 3) rfl
    have u3 := hx6.frz 3
    clear p6 hx6 hb6 hby6
    cases y with
    | false =>
      go_wp2
      have hxs : Rt _ w.heap.size 33 [.int .i64 0, .int .i64 0, .string ⟨#[]⟩, .string ⟨#[]⟩] := ((((HP6.out.set 0 (.int .i64 0)).set 1 (.int .i64 0)).set 2 (.string ⟨#[]⟩)).set 3 (.string ⟨#[]⟩))
      have hbs := (below_set10 ((below_set10 ((below_set10 ((below_set10 (HB6.out) 0 (g := w.heap.size) (.int .i64 0) (Nat.le_refl _))) 1 (g := w.heap.size) (.int .i64 0) (Nat.le_refl _))) 2 (g := w.heap.size) (.string ⟨#[]⟩) (Nat.le_refl _))) 3 (g := w.heap.size) (.string ⟨#[]⟩) (Nat.le_refl _))
      refine body_world10 (fun W => Below w.heap.size w W ∧ Rt W w.heap.size 33 [.int .i64 0, .int .i64 0, .string ⟨#[]⟩, .string ⟨#[]⟩]) ⟨hbs, hxs⟩ ?_
      clear hbs hxs
      rintro W ⟨hbs, hxs⟩
      have d0 := hxs.cell (j := 0) rfl
      have d1 := hxs.cell (j := 1) rfl
      have d2 := hxs.cell (j := 2) rfl
      have d3 := hxs.cell (j := 3) rfl
      refine bodyPost_ret (v := .tuple #[.agg #[.int .i64 0, .int .i64 0, .string ⟨#[]⟩, .string ⟨#[]⟩], .int .i64 0, .int .i64 3]) (by simp [results, Tryd.results41, go_sem, d0, d1, d2, d3]) rfl ?_
      exact ⟨by rw [HGS.out, if_pos (by simp)]; rfl, hbs⟩
    | true =>
      have hlen : 0 ≤ len ∧ len ≤ 200000 := by
        have := HY.out
        unfold mayHead10 at this
        simp only [Bool.and_eq_true, decide_eq_true_eq] at this
        exact this.2
      obtain ⟨m, rfl⟩ : ∃ m : Nat, len = (m : Int) := ⟨len.toNat, by omega⟩
      obtain ⟨⟨d, size, er⟩, hgd⟩ : ∃ r, getD10 m m (l.drop n) = r := ⟨_, rfl⟩
      have hgs2 : getS10 l = if er ≠ 0 then (zSnp, 0, er) else (⟨ix, st, cf, ⟨d.toArray⟩⟩, n + size, 0) := by
        rw [HGS.out, if_neg (by simp), Int.toNat_natCast, hgd]
      have HGS2 := Lib.hid hgs2
      have hcut := HBY6.out.cut (k := n) (by have := HLN.out; omega)
      rw [add_lit_10] at hcut
      rw [HLN.out] at hcut
      have hT6 := HT0.out.below HB6.out
      have hBk : B ≤ k4.heap.size := Nat.le_trans hB HB6.out.size
      have hdl : (l.drop n).length ≤ 1050000 := by rw [List.length_drop]; omega
      have hsz : er = 0 → (n : Int) + size ≤ 1050000 := fun h => by
        have := getD10_len m m (l.drop n)
        rw [hgd] at this
        simp only at this
        have h2 := this h
        have := HLN.out
        rw [List.length_drop] at h2
        omega
      have hgetd : ∀ o' N c', Byt k4 B (.slice (some ⟨g, o', none⟩) N c') (l.drop n) → Calls Tryd.prog 64 #[.slice (some ⟨g, o', none⟩) N c', .int .i64 m] k4 (GotD (d, size, er) k4) := fun o' N c' hb' => wgetD_is g o' N c' B m (l.drop n) _ k4 hb' hBk hdl (by omega) hT6 hgd
      have hz : ∀ (o' N c' : Nat), (n : Int) ≤ ln := fun _ _ _ => by omega
      clear hz hgs2 hgd hdl
      by_cases hcn : c = n
      · rw [if_pos hcn, hcn, Nat.sub_self] at hcut
        obtain rfl : ln = n := by omega
        rw [Nat.sub_self] at hcut
        subst hcn
        have HC := Lib.hid hcut
        clear hcut
        go_wp2_with fail
        refine (hgetd _ _ _ HC.out).mono ?_
        rintro e5 k5 ⟨rfl, h5⟩
        have p7 := HP6.out.below h5
        have hx7 := HX6.out.below h5
        have hb7 := HB6.out.trans (h5.mono HB6.out.size)
        have HX7 := Lib.hid hx7
        have HP7 := Lib.hid p7
        have HB7 := Lib.hid hb7
        have hkz5 : k2.heap.size < k5.heap.size := Nat.lt_of_lt_of_le hkz4 h5.size
        clear h5 x0 x1 x2 x3 y0 y1 y2 y3 z0 z1 z2 z3 u0 u1 u2 u3 HX6 HP6 HB6 HBY6 hgetd HC
        have x0 := p7.cell (j := 0) rfl
        have y0 := p7.frz 0
        have x1 := p7.cell (j := 1) rfl
        have y1 := p7.frz 1
        have x2 := p7.cell (j := 2) rfl
        have y2 := p7.frz 2
        have x3 := p7.cell (j := 3) rfl
        have y3 := p7.frz 3
        have z0 := hx7.cell (j := 0) rfl
        have u0 := hx7.frz 0
        have z1 := hx7.cell (j := 1) rfl
        have u1 := hx7.frz 1
        have z2 := hx7.cell (j := 2) rfl
        have u2 := hx7.frz 2
        have z3 := hx7.cell (j := 3) rfl
        have u3 := hx7.frz 3
        clear p7 hx7 hb7
        by_cases he : er = 0
        · subst he
          have hsz2 := hsz rfl
          clear hsz
          go_wp2
          have hxs : Rt _ w.heap.size 33 [.int .i64 ix, .int .i64 st, .string cf, .string ⟨d.toArray⟩] := (((((HP7.out.other 3 (.string ⟨d.toArray⟩) (by omega : w.heap.size ≠ k2.heap.size)).set 0 (.int .i64 ix)).set 1 (.int .i64 st)).set 2 (.string cf)).set 3 (.string ⟨d.toArray⟩))
          have hbs := (below_set10 ((below_set10 ((below_set10 ((below_set10 ((below_set10 HB7.out 3 (g := k2.heap.size) (.string ⟨d.toArray⟩) (by omega))) 0 (g := w.heap.size) (.int .i64 ix) (Nat.le_refl _))) 1 (g := w.heap.size) (.int .i64 st) (Nat.le_refl _))) 2 (g := w.heap.size) (.string cf) (Nat.le_refl _))) 3 (g := w.heap.size) (.string ⟨d.toArray⟩) (Nat.le_refl _))
          refine body_world10 (fun W => Below w.heap.size w W ∧ Rt W w.heap.size 33 [.int .i64 ix, .int .i64 st, .string cf, .string ⟨d.toArray⟩]) ⟨hbs, hxs⟩ ?_
          clear hbs hxs
          rintro W ⟨hbs, hxs⟩
          have d0 := hxs.cell (j := 0) rfl
          have d1 := hxs.cell (j := 1) rfl
          have d2 := hxs.cell (j := 2) rfl
          have d3 := hxs.cell (j := 3) rfl
          refine bodyPost_ret (v := .tuple #[.agg #[.int .i64 ix, .int .i64 st, .string cf, .string ⟨d.toArray⟩], .int .i64 (((c : Nat) : Int) + size), .int .i64 0]) (by simp [results, Tryd.results41, go_sem, d0, d1, d2, d3]) rfl ?_
          exact ⟨by rw [HGS2.out, if_neg (by simp)]; rfl, hbs⟩
        · have he2 : ((er : Int) == 0) = false := by rw [beq_eq_false_iff_ne]; omega
          have he3 : ¬ (er : Int) = 0 := by omega
          clear hsz
          go_wp2
          have hxs : Rt _ w.heap.size 33 [.int .i64 0, .int .i64 0, .string ⟨#[]⟩, .string ⟨#[]⟩] := ((((HP7.out.set 0 (.int .i64 0)).set 1 (.int .i64 0)).set 2 (.string ⟨#[]⟩)).set 3 (.string ⟨#[]⟩))
          have hbs := (below_set10 ((below_set10 ((below_set10 ((below_set10 (HB7.out) 0 (g := w.heap.size) (.int .i64 0) (Nat.le_refl _))) 1 (g := w.heap.size) (.int .i64 0) (Nat.le_refl _))) 2 (g := w.heap.size) (.string ⟨#[]⟩) (Nat.le_refl _))) 3 (g := w.heap.size) (.string ⟨#[]⟩) (Nat.le_refl _))
          refine body_world10 (fun W => Below w.heap.size w W ∧ Rt W w.heap.size 33 [.int .i64 0, .int .i64 0, .string ⟨#[]⟩, .string ⟨#[]⟩]) ⟨hbs, hxs⟩ ?_
          clear hbs hxs
          rintro W ⟨hbs, hxs⟩
          have d0 := hxs.cell (j := 0) rfl
          have d1 := hxs.cell (j := 1) rfl
          have d2 := hxs.cell (j := 2) rfl
          have d3 := hxs.cell (j := 3) rfl
          refine bodyPost_ret (v := .tuple #[.agg #[.int .i64 0, .int .i64 0, .string ⟨#[]⟩, .string ⟨#[]⟩], .int .i64 0, .int .i64 er]) (by simp [results, Tryd.results41, go_sem, d0, d1, d2, d3]) rfl ?_
          exact ⟨by rw [HGS2.out, if_pos he]; rfl, hbs⟩
      · rw [if_neg hcn] at hcut
        have HC := Lib.hid hcut
        clear hcut
        go_wp2_with fail
        refine (hgetd _ _ _ HC.out).mono ?_
        rintro e5 k5 ⟨rfl, h5⟩
        have p7 := HP6.out.below h5
        have hx7 := HX6.out.below h5
        have hb7 := HB6.out.trans (h5.mono HB6.out.size)
        have HX7 := Lib.hid hx7
        have HP7 := Lib.hid p7
        have HB7 := Lib.hid hb7
        have hkz5 : k2.heap.size < k5.heap.size := Nat.lt_of_lt_of_le hkz4 h5.size
        clear h5 x0 x1 x2 x3 y0 y1 y2 y3 z0 z1 z2 z3 u0 u1 u2 u3 HX6 HP6 HB6 HBY6 hgetd HC
        have x0 := p7.cell (j := 0) rfl
        have y0 := p7.frz 0
        have x1 := p7.cell (j := 1) rfl
        have y1 := p7.frz 1
        have x2 := p7.cell (j := 2) rfl
        have y2 := p7.frz 2
        have x3 := p7.cell (j := 3) rfl
        have y3 := p7.frz 3
        have z0 := hx7.cell (j := 0) rfl
        have u0 := hx7.frz 0
        have z1 := hx7.cell (j := 1) rfl
        have u1 := hx7.frz 1
        have z2 := hx7.cell (j := 2) rfl
        have u2 := hx7.frz 2
        have z3 := hx7.cell (j := 3) rfl
        have u3 := hx7.frz 3
        clear p7 hx7 hb7
        by_cases he : er = 0
        · subst he
          have hsz2 := hsz rfl
          clear hsz
          go_wp2
          have hxs : Rt _ w.heap.size 33 [.int .i64 ix, .int .i64 st, .string cf, .string ⟨d.toArray⟩] := (((((HP7.out.other 3 (.string ⟨d.toArray⟩) (by omega : w.heap.size ≠ k2.heap.size)).set 0 (.int .i64 ix)).set 1 (.int .i64 st)).set 2 (.string cf)).set 3 (.string ⟨d.toArray⟩))
          have hbs := (below_set10 ((below_set10 ((below_set10 ((below_set10 ((below_set10 HB7.out 3 (g := k2.heap.size) (.string ⟨d.toArray⟩) (by omega))) 0 (g := w.heap.size) (.int .i64 ix) (Nat.le_refl _))) 1 (g := w.heap.size) (.int .i64 st) (Nat.le_refl _))) 2 (g := w.heap.size) (.string cf) (Nat.le_refl _))) 3 (g := w.heap.size) (.string ⟨d.toArray⟩) (Nat.le_refl _))
          refine body_world10 (fun W => Below w.heap.size w W ∧ Rt W w.heap.size 33 [.int .i64 ix, .int .i64 st, .string cf, .string ⟨d.toArray⟩]) ⟨hbs, hxs⟩ ?_
          clear hbs hxs
          rintro W ⟨hbs, hxs⟩
          have d0 := hxs.cell (j := 0) rfl
          have d1 := hxs.cell (j := 1) rfl
          have d2 := hxs.cell (j := 2) rfl
          have d3 := hxs.cell (j := 3) rfl
          refine bodyPost_ret (v := .tuple #[.agg #[.int .i64 ix, .int .i64 st, .string cf, .string ⟨d.toArray⟩], .int .i64 (((n : Nat) : Int) + size), .int .i64 0]) (by simp [results, Tryd.results41, go_sem, d0, d1, d2, d3]) rfl ?_
          exact ⟨by rw [HGS2.out, if_neg (by simp)]; rfl, hbs⟩
        · have he2 : ((er : Int) == 0) = false := by rw [beq_eq_false_iff_ne]; omega
          have he3 : ¬ (er : Int) = 0 := by omega
          clear hsz
          go_wp2
          have hxs : Rt _ w.heap.size 33 [.int .i64 0, .int .i64 0, .string ⟨#[]⟩, .string ⟨#[]⟩] := ((((HP7.out.set 0 (.int .i64 0)).set 1 (.int .i64 0)).set 2 (.string ⟨#[]⟩)).set 3 (.string ⟨#[]⟩))
          have hbs := (below_set10 ((below_set10 ((below_set10 ((below_set10 (HB7.out) 0 (g := w.heap.size) (.int .i64 0) (Nat.le_refl _))) 1 (g := w.heap.size) (.int .i64 0) (Nat.le_refl _))) 2 (g := w.heap.size) (.string ⟨#[]⟩) (Nat.le_refl _))) 3 (g := w.heap.size) (.string ⟨#[]⟩) (Nat.le_refl _))
          refine body_world10 (fun W => Below w.heap.size w W ∧ Rt W w.heap.size 33 [.int .i64 0, .int .i64 0, .string ⟨#[]⟩, .string ⟨#[]⟩]) ⟨hbs, hxs⟩ ?_
          clear hbs hxs
          rintro W ⟨hbs, hxs⟩
          have d0 := hxs.cell (j := 0) rfl
          have d1 := hxs.cell (j := 1) rfl
          have d2 := hxs.cell (j := 2) rfl
          have d3 := hxs.cell (j := 3) rfl
          refine bodyPost_ret (v := .tuple #[.agg #[.int .i64 0, .int .i64 0, .string ⟨#[]⟩, .string ⟨#[]⟩], .int .i64 0, .int .i64 er]) (by simp [results, Tryd.results41, go_sem, d0, d1, d2, d3]) rfl ?_
          exact ⟨by rw [HGS2.out, if_pos he]; rfl, hbs⟩
end Go.Proofs.YtbiecoifeeikpaaDoor
/-
  Package wal's GetSnap answers what the plain function says, whatever the bytes.
  The bytes are there in memory, at most 1,000,000; package crc's table lies as it was laid.
-/
set_option linter.unusedSimpArgs false
set_option linter.unusedVariables false
namespace Go.Proofs.YtbiecoifeeikpaaDoor
open Go.RowKit
set_option maxRecDepth 100000

set_option maxHeartbeats 1050000 in
theorem wgetS_err (A : Option Addr) (N c B n e : Nat) (l b : List UInt8) (w : World) (h : Byt w B (.slice A N c) l) (hB : B ≤ w.heap.size) (hl : l.length ≤ 1050000) (hT : Tbl w) (ho : openK 3 l = (b, n, e)) (he : e ≠ 0) :
    Calls Tryd.prog 41 #[.slice A N c] w (GotS10 (getS10 l) w) := by
  have hgs : getS10 l = (zSnp, 0, e) := by unfold getS10; rw [ho, if_pos he]
  have he2 : ((e : Int) == 0) = false := by rw [beq_eq_false_iff_ne]; omega
  have he3 : ¬ (e : Int) = 0 := by omega
  obtain ⟨W1, hW1⟩ : ∃ W1, w.alloc (.cells #[.int .i64 0, .int .i64 0, .string ⟨#[]⟩, .string ⟨#[]⟩] 33) = W1 := ⟨_, rfl⟩
  have hb1 : Below w.heap.size w W1 := by rw [← hW1]; exact below_new _ _
  have p1 : Rt W1 w.heap.size 33 [.int .i64 0, .int .i64 0, .string ⟨#[]⟩, .string ⟨#[]⟩] := by rw [← hW1]; exact Rt.new w _ _
  have hop := wopen_is 3 3 rfl A N c B l _ W1 (h.below hb1 hB) (Nat.le_trans hB hb1.size) hl (hT.below hb1) ho
  have HW1 := Lib.hid hW1
  have HB1 := Lib.hid hb1
  have HGS := Lib.hid hgs
  clear h hT hW1 hb1 hgs ho
  go_enter Tryd.func41, Tryd.ntmps41
  go_wp2_with fail
  rw [HW1.out]
  refine hop.mono ?_
  rintro e1 k1 ⟨v1, rfl, ho1, h1⟩
  have p2 := p1.below h1
  have hb2 := HB1.out.trans (h1.mono HB1.out.size)
  obtain ⟨A1, c1, hv1⟩ := own_slice ho1
  subst hv1
  have HP2 := Lib.hid p2
  have HB2 := Lib.hid hb2
  have x0 := p2.cell (j := 0) rfl
  have y0 := p2.frz 0
  have x1 := p2.cell (j := 1) rfl
  have y1 := p2.frz 1
  have x2 := p2.cell (j := 2) rfl
  have y2 := p2.frz 2
  have x3 := p2.cell (j := 3) rfl
  have y3 := p2.frz 3
  clear ho1 h1 p1 hop HW1 HB1 p2 hb2
  go_wp2
  have hxs : Rt _ w.heap.size 33 [.int .i64 0, .int .i64 0, .string ⟨#[]⟩, .string ⟨#[]⟩] := ((((HP2.out.set 0 (.int .i64 0)).set 1 (.int .i64 0)).set 2 (.string ⟨#[]⟩)).set 3 (.string ⟨#[]⟩))
  have hbs := (below_set10 ((below_set10 ((below_set10 ((below_set10 (HB2.out) 0 (g := w.heap.size) (.int .i64 0) (Nat.le_refl _))) 1 (g := w.heap.size) (.int .i64 0) (Nat.le_refl _))) 2 (g := w.heap.size) (.string ⟨#[]⟩) (Nat.le_refl _))) 3 (g := w.heap.size) (.string ⟨#[]⟩) (Nat.le_refl _))
  refine body_world10 (fun W => Below w.heap.size w W ∧ Rt W w.heap.size 33 [.int .i64 0, .int .i64 0, .string ⟨#[]⟩, .string ⟨#[]⟩]) ⟨hbs, hxs⟩ ?_
  clear hbs hxs
  rintro W ⟨hbs, hxs⟩
  have d0 := hxs.cell (j := 0) rfl
  have d1 := hxs.cell (j := 1) rfl
  have d2 := hxs.cell (j := 2) rfl
  have d3 := hxs.cell (j := 3) rfl
  refine bodyPost_ret (v := .tuple #[.agg #[.int .i64 0, .int .i64 0, .string ⟨#[]⟩, .string ⟨#[]⟩], .int .i64 0, .int .i64 e]) (by simp [results, Tryd.results41, go_sem, d0, d1, d2, d3]) rfl ?_
  exact ⟨by rw [HGS.out]; rfl, hbs⟩
/-- GetSnap of any bytes -/
theorem wgetS_any (u : Value) (B : Nat) (l : List UInt8) (w : World) (h : Byt w B u l) (hB : B ≤ w.heap.size) (hl : l.length ≤ 1050000) (hT : Tbl w) : Calls Tryd.prog 41 #[u] w (GotS10 (getS10 l) w) := by
  obtain ⟨A, c, rfl⟩ := byt_slice h
  obtain ⟨⟨b, n, e⟩, ho⟩ : ∃ x, openK 3 l = x := ⟨_, rfl⟩
  by_cases he : e = 0
  · subst he
    have hg := openK_good ho
    obtain ⟨A', c', hv, _, hx⟩ := id h
    injection hv with e1 _ _
    subst e1
    obtain ⟨g, o, rfl, _⟩ := hx (by omega)
    obtain ⟨⟨ix, s1⟩, q1⟩ : ∃ x, rdN10 (b, false) = x := ⟨_, rfl⟩
    obtain ⟨⟨st, s2⟩, q2⟩ : ∃ x, rdN10 s1 = x := ⟨_, rfl⟩
    obtain ⟨⟨cf, s3⟩, q3⟩ : ∃ x, rdT10 s2 = x := ⟨_, rfl⟩
    obtain ⟨⟨len, s4⟩, q4⟩ : ∃ x, rdN10 s3 = x := ⟨_, rfl⟩
    exact wgetS_ok g o c B n l b w h hB hl hT ho ix st len cf s1 s2 s3 s4 q1 q2 q3 q4
  · exact wgetS_err A _ c B n e l b w h hB hl hT ho he
end Go.Proofs.YtbiecoifeeikpaaDoor
/-
  Snapshots as plain functions: what is written is read again, whatever stands behind; what is cut off is told as the beginning of one.
  There are no conditions beyond those that each lemma names.
-/
set_option linter.unusedSimpArgs false
set_option linter.unusedVariables false
namespace Go.Proofs.YtbiecoifeeikpaaDoor
open Go.RowKit
set_option maxRecDepth 100000

theorem pieces10_cons (l : List UInt8) (k : Nat) : pieces10 l (k + 1) = sealB 4 (l.take 3000) ++ pieces10 (l.drop 3000) k := by
  unfold pieces10
  rw [List.range_succ_eq_map, List.flatMap_cons, List.flatMap_map]
  have e : ∀ i, (l.drop (3000 * (i + 1))).take 3000 = ((l.drop 3000).drop (3000 * i)).take 3000 := fun i => by rw [List.drop_drop]; congr 2; omega
  simp only [Nat.mul_zero, List.drop_zero, Nat.succ_eq_add_one, e]
theorem pieces10_nil (l : List UInt8) : pieces10 l 0 = [] := rfl
theorem openK_seal (k : Nat) (b r : List UInt8) (h1 : 1 ≤ k) (h2 : k ≤ 255) (hb : b.length ≤ 4000) : openK k (sealB (k : Int) b ++ r) = (b, (sealB (k : Int) b).length, 0) := by
  unfold openK
  rw [openB_seal (k : Int) b r (by omega) (by omega) hb]
  simp
theorem openK_cut (k : Nat) (b : List UInt8) (m : Nat) (h1 : 1 ≤ k) (h2 : k ≤ 255) (hb : b.length ≤ 4000) (hm : m < (sealB (k : Int) b).length) : openK k ((sealB (k : Int) b).take m) = ([], 0, 2) := by
  unfold openK
  rw [openB_cut (k : Int) b m (by omega) (by omega) hb hm]
  simp
theorem getD10_0 (f : Nat) (l : List UInt8) : getD10 f 0 l = ([], 0, 0) := by cases f <;> rfl
theorem getD10_step (f m n : Nat) (l b : List UInt8) (hm : m ≠ 0) (ho : openK 4 l = (b, n, 0)) (hb : b.length = min 3000 m) : getD10 (f + 1) m l = comb10 b n (getD10 f (m - b.length) (l.drop n)) := by
  conv => lhs; unfold getD10
  rw [if_neg hm, ho, if_neg (by simp), if_neg (by simpa using hb)]
theorem getD10_err (f m n e : Nat) (l b : List UInt8) (hm : m ≠ 0) (ho : openK 4 l = (b, n, e)) (he : e ≠ 0) : getD10 (f + 1) m l = ([], 0, e) := by
  conv => lhs; unfold getD10
  rw [if_neg hm, ho, if_pos he]
/-- Data goes to its frames and back, whatever stands behind -/
theorem getD10_put : ∀ (k f : Nat) (l more : List UInt8), l.length ≤ f → (l.length + 2999) / 3000 = k → getD10 f l.length (pieces10 l k ++ more) = (l, (pieces10 l k).length, 0)
  | 0, f, l, more, _, hk => by
    have : l = [] := List.eq_nil_of_length_eq_zero (by omega)
    subst this
    rw [List.length_nil, getD10_0, pieces10_nil]; rfl
  | k + 1, 0, l, more, hf, hk => by omega
  | k + 1, f + 1, l, more, hf, hk => by
    have hpl : (l.take 3000).length = min 3000 l.length := List.length_take
    rw [pieces10_cons, List.append_assoc]
    have ho := openK_seal 4 (l.take 3000) (pieces10 (l.drop 3000) k ++ more) (by decide) (by decide) (by rw [hpl]; omega)
    rw [show ((4 : Nat) : Int) = 4 from rfl] at ho
    rw [getD10_step f l.length _ _ _ (by omega) ho hpl, List.drop_left, hpl]
    have hdl : (l.drop 3000).length = l.length - 3000 := List.length_drop
    have ih := getD10_put k f (l.drop 3000) more (by omega) (by omega)
    rw [hdl, show l.length - 3000 = l.length - min 3000 l.length by omega] at ih
    rw [ih]
    unfold comb10
    rw [if_neg (by simp), List.take_append_drop, List.length_append]
theorem getD10_cut : ∀ (k f : Nat) (l : List UInt8) (j : Nat), l.length ≤ f → (l.length + 2999) / 3000 = k → j < (pieces10 l k).length → getD10 f l.length ((pieces10 l k).take j) = ([], 0, 2)
  | 0, f, l, j, _, hk, hj => by simp [pieces10_nil] at hj
  | k + 1, 0, l, j, hf, hk, _ => by omega
  | k + 1, f + 1, l, j, hf, hk, hj => by
    have hpl : (l.take 3000).length = min 3000 l.length := List.length_take
    rw [pieces10_cons] at hj ⊢
    rw [List.length_append] at hj
    by_cases h1 : j < (sealB 4 (l.take 3000)).length
    · rw [List.take_append_of_le_length (by omega)]
      have ho := openK_cut 4 (l.take 3000) j (by decide) (by decide) (by rw [hpl]; omega) h1
      exact getD10_err f l.length _ 2 _ _ (by omega) ho (by decide)
    · rw [List.take_append, List.take_of_length_le (by omega)]
      have ho := openK_seal 4 (l.take 3000) ((pieces10 (l.drop 3000) k).take (j - (sealB 4 (l.take 3000)).length)) (by decide) (by decide) (by rw [hpl]; omega)
      rw [show ((4 : Nat) : Int) = 4 from rfl] at ho
      rw [getD10_step f l.length _ _ _ (by omega) ho hpl, List.drop_left, hpl]
      have hdl : (l.drop 3000).length = l.length - 3000 := List.length_drop
      have ih := getD10_cut k f (l.drop 3000) (j - (sealB 4 (l.take 3000)).length) (by omega) (by omega) (by omega)
      rw [hdl, show l.length - 3000 = l.length - min 3000 l.length by omega] at ih
      rw [ih]
      rfl
theorem rdS10_put (ix st len : Int) (cf : ByteArray) (r : List UInt8) (h0 : 0 ≤ ix) (h1 : ix ≤ 1099511627776) (h2 : 0 ≤ st) (h3 : st ≤ 1099511627776) (hc : cf.size ≤ 50) (h4 : 0 ≤ len) (h5 : len ≤ 200000) :
    rdS10 (headB10 ix st cf len ++ r, false) = ((⟨ix, st, cf, ByteArray.empty⟩, len), (r, false)) := by
  have e : headB10 ix st cf len ++ r = Nu.put ix ++ (Nu.put st ++ (Nu.putT cf.data.toList ++ (Nu.put len ++ r))) := by unfold headB10; simp
  unfold rdS10
  rw [e, rdN10_put ix _ _ (by omega) (by omega)]
  simp only [rdN10_put st _ _ (by omega) (by omega : st ≤ 9223372036854775807), rdT10_put cf _ _ (by omega), rdN10_put len _ _ (by omega) (by omega : len ≤ 9223372036854775807)]
theorem headB10_len (ix st len : Int) (cf : ByteArray) (hc : cf.size ≤ 50) : (headB10 ix st cf len).length ≤ 100 := by
  unfold headB10 Nu.putT
  have := Nu.put_len ix; have := Nu.put_len st; have := Nu.put_len len; have := Nu.put_len (cf.data.toList.length : Int)
  have : cf.data.toList.length = cf.size := size_list10 _
  simp only [List.length_append]; omega
theorem headS10_is (s : Snp) : headS10 s = sealB 3 (headB10 s.ix s.st s.conf (s.data.size : Int)) := rfl
theorem snapB10_is {s : Snp} (h : maySnp10 s = true) : snapB10 s = sealB 3 (headB10 s.ix s.st s.conf (s.data.size : Int)) ++ pieces10 s.data.data.toList ((s.data.size + 2999) / 3000) := by
  unfold snapB10; rw [if_neg (by rw [h]; simp), headS10_is]
theorem okS10_put {s : Snp} (h : maySnp10 s = true) : okS10 (headB10 s.ix s.st s.conf (s.data.size : Int)) = true := by
  obtain ⟨a1, a2, a3, a4, a5, a6⟩ := maySnp10_is h
  have hr := rdS10_put s.ix s.st (s.data.size : Int) s.conf [] a1 a2 a3 a4 a5 (by omega) (by omega)
  rw [List.append_nil] at hr
  unfold okS10
  rw [hr]
  simp only
  rw [Bool.and_eq_true]
  refine ⟨rfl, ?_⟩
  unfold mayHead10; simp only [Bool.and_eq_true, decide_eq_true_eq]; omega
/-- what getS10 tells behind a good head -/
theorem getS10_head {s : Snp} (h : maySnp10 s = true) (r : List UInt8) : getS10 (sealB 3 (headB10 s.ix s.st s.conf (s.data.size : Int)) ++ r) =
    if (getD10 s.data.size s.data.size r).2.2 ≠ 0 then (zSnp, 0, (getD10 s.data.size s.data.size r).2.2) else (⟨s.ix, s.st, s.conf, ⟨(getD10 s.data.size s.data.size r).1.toArray⟩⟩, (sealB 3 (headB10 s.ix s.st s.conf (s.data.size : Int))).length + (getD10 s.data.size s.data.size r).2.1, 0) := by
  obtain ⟨a1, a2, a3, a4, a5, a6⟩ := maySnp10_is h
  have hl := headB10_len s.ix s.st (s.data.size : Int) s.conf a5
  have ho := openK_seal 3 (headB10 s.ix s.st s.conf (s.data.size : Int)) r (by decide) (by decide) (by omega)
  rw [show ((3 : Nat) : Int) = 3 from rfl] at ho
  have hr := rdS10_put s.ix s.st (s.data.size : Int) s.conf [] a1 a2 a3 a4 a5 (by omega) (by omega)
  rw [List.append_nil] at hr
  unfold getS10
  rw [ho]
  simp only [ne_eq, not_true_eq_false, if_false]
  rw [okS10_put h, if_neg (by simp), hr, List.drop_left]
  simp only [Int.toNat_natCast]
/-- a snapshot goes to bytes and back, whatever stands behind -/
theorem getS10_put {s : Snp} (h : maySnp10 s = true) (more : List UInt8) : getS10 (snapB10 s ++ more) = (s, (snapB10 s).length, 0) := by
  rw [snapB10_is h, List.append_assoc, getS10_head h]
  have hd := getD10_put ((s.data.size + 2999) / 3000) s.data.size s.data.data.toList more (by rw [size_list10]; exact Nat.le_refl _) (by rw [size_list10])
  rw [size_list10] at hd
  rw [hd, if_neg (by simp), List.length_append]
theorem getS10_cut {s : Snp} (h : maySnp10 s = true) {j : Nat} (hj : j < (snapB10 s).length) : getS10 ((snapB10 s).take j) = (zSnp, 0, 2) := by
  obtain ⟨a1, a2, a3, a4, a5, a6⟩ := maySnp10_is h
  have hl := headB10_len s.ix s.st (s.data.size : Int) s.conf a5
  rw [snapB10_is h] at hj ⊢
  rw [List.length_append] at hj
  by_cases h1 : j < (sealB 3 (headB10 s.ix s.st s.conf (s.data.size : Int))).length
  · rw [List.take_append_of_le_length (by omega)]
    have ho := openK_cut 3 (headB10 s.ix s.st s.conf (s.data.size : Int)) j (by decide) (by decide) (by omega) h1
    rw [show ((3 : Nat) : Int) = 3 from rfl] at ho
    unfold getS10
    rw [ho, if_pos (by decide)]
  · rw [List.take_append, List.take_of_length_le (by omega), getS10_head h]
    have hd := getD10_cut ((s.data.size + 2999) / 3000) s.data.size s.data.data.toList (j - (sealB 3 (headB10 s.ix s.st s.conf (s.data.size : Int))).length) (by rw [size_list10]; exact Nat.le_refl _) (by rw [size_list10]) (by omega)
    rw [size_list10] at hd
    rw [hd, if_pos (by decide)]
theorem getS10_bad {l : List UInt8} {s : Snp} {n e : Nat} (h : getS10 l = (s, n, e)) (he : e ≠ 0) : s = zSnp ∧ n = 0 := by
  unfold getS10 at h
  split at h
  · simp only [Prod.mk.injEq] at h; exact ⟨h.1.symm, h.2.1.symm⟩
  · split at h
    · simp only [Prod.mk.injEq] at h; exact ⟨h.1.symm, h.2.1.symm⟩
    · split at h
      · simp only [Prod.mk.injEq] at h; exact ⟨h.1.symm, h.2.1.symm⟩
      · simp only [Prod.mk.injEq] at h; exact absurd h.2.2.symm he
theorem snapB10_len {s : Snp} (h : maySnp10 s = true) : 6 ≤ (snapB10 s).length ∧ (snapB10 s).length ≤ 300000 := by
  obtain ⟨a1, a2, a3, a4, a5, a6⟩ := maySnp10_is h
  have hl := headB10_len s.ix s.st (s.data.size : Int) s.conf a5
  rw [snapB10_is h, List.length_append, sealB_len 3 _ (by decide) (by decide) (by omega)]
  have hp := pieces10_len s.data.data.toList ((s.data.size + 2999) / 3000)
  have h2 := put_len12 (headB10 s.ix s.st s.conf (s.data.size : Int)).length (by omega)
  split at h2 <;> omega
end Go.Proofs.YtbiecoifeeikpaaDoor
/-
  Records one behind the other as a relation; rows of records of one's own; package wal's Scan tells them.
  The bytes are there in memory, at most 1,000,000; package crc's table lies as it was laid.
-/
set_option linter.unusedSimpArgs false
set_option linter.unusedVariables false
namespace Go.Proofs.YtbiecoifeeikpaaDoor
open Go.RowKit Go.Deep
set_option maxRecDepth 100000

/-- the records at the beginning, how many bytes they take, and the error behind them -/
inductive ScR : List UInt8 → List Rcd → Nat → Nat → Prop
  | nil (l : List UInt8) (e : Nat) (h : decR10 l = (zRcd, 0, e)) (he : e ≠ 0) : ScR l [] 0 e
  | cons (l : List UInt8) (r : Rcd) (n : Nat) (L : List Rcd) (u e : Nat) (h : decR10 l = (r, n, 0)) (h2 : ScR (l.drop n) L u e) : ScR l (r :: L) (n + u) e
theorem ScR.two {l : List UInt8} {L : List Rcd} {u e : Nat} (h : ScR l L u e) : ∀ {M : List Rcd} {v f : Nat}, ScR l M v f → L = M ∧ u = v ∧ e = f := by
  induction h with
  | nil l e h he =>
    intro M v f h2
    cases h2 with
    | nil _ _ h3 _ => rw [h] at h3; simp only [Prod.mk.injEq, true_and] at h3; exact ⟨rfl, rfl, h3⟩
    | cons _ r n L u e h3 h4 => rw [h] at h3; simp only [Prod.mk.injEq] at h3; exact absurd h3.2.2 he
  | cons l r n L u e h h2 ih =>
    intro M v f h3
    cases h3 with
    | nil _ _ h4 he => rw [h] at h4; simp only [Prod.mk.injEq] at h4; exact absurd h4.2.2.symm he
    | cons _ r' n' L' u' e' h4 h5 =>
      rw [h] at h4
      simp only [Prod.mk.injEq, and_true] at h4
      obtain ⟨rfl, rfl⟩ := h4
      obtain ⟨rfl, rfl, rfl⟩ := ih h5
      exact ⟨rfl, rfl, rfl⟩
theorem ScR.len {l : List UInt8} {L : List Rcd} {u e : Nat} (h : ScR l L u e) : u ≤ l.length ∧ L.length * 6 ≤ u ∧ e ≠ 0 := by
  induction h with
  | nil l e h he => exact ⟨Nat.zero_le _, Nat.le_refl _, he⟩
  | cons l r n L u e h h2 ih =>
    obtain ⟨_, _, h6, h7⟩ := decR10_good h
    rw [List.length_drop] at ih
    simp only [List.length_cons]
    omega
def Rcd.cs (r : Rcd) : List Value := [.bool r.hard, .int .i64 r.ht, .int .i64 r.hv, .int .i64 r.e.ix, .int .i64 r.e.et, .int .i64 r.e.kd, .string r.e.data]
theorem rcs_len (L : List Rcd) : (L.flatMap Rcd.cs).length = L.length * 7 := by
  induction L with
  | nil => rfl
  | cons x t ih =>
    have h3 : (Rcd.cs x).length = 7 := rfl
    rw [List.flatMap_cons, List.length_append, ih, h3, List.length_cons]; omega
/-- a row of records of one's own -/
def OwnRc (T : TypeId) (B : Nat) (v : Value) (L : List Rcd) (w : World) : Prop := w.ownsRow B T 7 v L.length (L.flatMap Rcd.cs)
theorem OwnRc.nil (T : TypeId) (B : Nat) (w : World) : OwnRc T B (.slice none 0 0) [] w := World.ownsRow_nil _ _ _ _
theorem OwnRc.below {T : TypeId} {B : Nat} {v : Value} {L : List Rcd} {w w' : World} (h : OwnRc T B v L w) (hb : Below w.heap.size w w') : OwnRc T B v L w' := ownsRow_below h hb
theorem OwnRc.down {T : TypeId} {B C : Nat} {v : Value} {L : List Rcd} {w : World} (h : OwnRc T C v L w) (hB : B ≤ C) : OwnRc T B v L w := ownsRow_down h hB
theorem OwnRc.slice {T : TypeId} {B : Nat} {v : Value} {L : List Rcd} {w : World} (h : OwnRc T B v L w) : ∃ A c, v = .slice A L.length c := own_slice h
theorem rflat_at : ∀ (L : List Rcd) (k : Nat) (h : k < L.length) (j : Nat) (v : Value), (Rcd.cs L[k])[j]? = some v → (L.flatMap Rcd.cs)[k * 7 + j]? = some v
  | x :: t, 0, _, j, v, hv => by
    have hj : j < (Rcd.cs x).length := (List.getElem?_eq_some_iff.1 hv).1
    rw [List.flatMap_cons, Nat.zero_mul, Nat.zero_add, List.getElem?_append_left hj]; exact hv
  | x :: t, k + 1, h, j, v, hv => by
    have h3 : (Rcd.cs x).length = 7 := rfl
    rw [List.flatMap_cons, List.getElem?_append_right (by omega), h3, show (k + 1) * 7 + j - 7 = k * 7 + j by omega]
    exact rflat_at t k (by simpa using h) j v hv
theorem OwnRc.at_ {T : TypeId} {B n c : Nat} {A : Option Addr} {L : List Rcd} {w : World} (h : OwnRc T B (.slice A n c) L w) (k : Nat) (hk : k < L.length) :
    ∃ g, A = some ⟨g, 0, Option.none⟩ ∧ B ≤ g ∧ g < w.heap.size ∧ n = L.length ∧ n ≤ c ∧ w.rangeAt g (k * 7) (Rcd.cs L[k]) := by
  unfold OwnRc at h
  have hc := fun (g : Nat) (hg : (Value.slice A n c).ownBlock = some g) => World.ownsRow.cells h hg
  have hlt := World.ownsRow.lt h
  rcases h.2 with ⟨_, h0⟩ | ⟨g, c', cur, hv2, hB, _, hnc, _⟩
  · omega
  · injection hv2 with e1 e2 e3
    subst e1
    refine ⟨g, rfl, hB, (hlt g rfl).2, e2, by omega, fun j z hj => ?_⟩
    have h3 := hc g rfl (k * 7 + j) z (rflat_at L k hk j z hj)
    rw [Addr.add_mid] at h3
    rw [← h3]; congr 2; omega
theorem rcd_one (r : Rcd) : ∀ v ∈ r.cs, v.oneCell' = true := by
  intro v hv
  simp only [Rcd.cs, List.mem_cons, List.not_mem_nil, or_false] at hv
  rcases hv with rfl | rfl | rfl | rfl | rfl | rfl | rfl <;> rfl
theorem cells_new10 (w : World) (t : TypeId) (cs : List Value) : (w.alloc (.cells cs.toArray t)).rangeAt w.heap.size 0 cs := fun j v hj => by
  have hh : (w.alloc (.cells cs.toArray t)).heap[w.heap.size]? = some (.cells cs.toArray t (0, 0)) := heap_alloc_new _ _
  unfold World.cell?
  rw [hh]
  simpa using hj
theorem Tryd.infoSw : (Tryd.prog.info? 76).map (fun i => (i.zero, i.size, i.bytes)) = some (some (.agg #[.bool false, .int .i64 0, .int .i64 0, .int .i64 0, .int .i64 0, .int .i64 0, .string ⟨#[]⟩]), 7, 64) := by kernel_rfl
theorem wp_append_Sw {w : World} {o : Oper} {a : Act} {K : Act → World → Prop} {Q : Exit → Act → World → Prop} (s x : Operand)
    (ho : o.op = .call { callee := .builtin .append, args := #[s, x], argTypes := #[91, 91] })
    (B : Nat) (v : Value) (L : List Rcd) (y : Rcd) (g : Nat) (hs : a.eval s = v) (hown : OwnRc 76 B v L w) (hx : a.eval x = .slice (some ⟨g, 0, none⟩) 1 1) (hy : w.rangeAt g 0 y.cs) (hl : L.length ≤ 1050000) (hB : B ≤ w.heap.size)
    (h : ∀ v' w', OwnRc 76 B v' (L ++ [y]) w' → Below B w w' → K (a.put o.dst v') w') : o.wp Tryd.prog a w K Q := by
  obtain ⟨iO, hiO, hzO0, hzO1, hzO2⟩ := info_parts Tryd.infoSw
  have hlen := rcs_len L
  have hgr := fun (w' : World) (hg : w.grownBy w' v.ownBlock) => (Below.refl B w).grown hg hB (fun g hg => (World.ownsRow.lt hown g hg).1)
  obtain ⟨v', w', hr, h2, h3, _, _⟩ := run_append_own_at (P := Tryd.prog) w B 91 o.type 76 iO _ 7 64 Tryd.underlying91 hiO hzO0 hzO1 hzO2 rfl (by decide) v L.length _ hown ⟨g, 0, none⟩ 1 1 y.cs rfl
    (by
      intro j z hj
      rw [Addr.add_mid]; exact hy j z hj) (rcd_one y) (by unfold maxLen; omega) (by omega) hB
  unfold Oper.wp execOp
  simp only [ho, resolve, invoke, builtin, Sem.run_bind, Sem.run_pure, Result.andThen_ok, List.map_toArray, List.map_cons, List.map_nil, hs, hx, hr]
  refine h v' w' ?_ (hgr w' h3)
  unfold OwnRc
  rw [List.length_append, List.flatMap_append]
  simpa using h2
theorem wpList_append_Sw {w : World} {ops : Array Oper} {rest : List Oper} {o : Oper} {a : Act} {Q : Exit → Act → World → Prop} (hgd : o.guard = none) (s x : Operand)
    (ho : o.op = .call { callee := .builtin .append, args := #[s, x], argTypes := #[91, 91] })
    (B : Nat) (v : Value) (L : List Rcd) (y : Rcd) (g : Nat) (hs : a.eval s = v) (hown : OwnRc 76 B v L w) (hx : a.eval x = .slice (some ⟨g, 0, none⟩) 1 1) (hy : w.rangeAt g 0 y.cs) (hl : L.length ≤ 1050000) (hB : B ≤ w.heap.size)
    (h : ∀ v' w', OwnRc 76 B v' (L ++ [y]) w' → Below B w w' → wpList Tryd.prog ops Q rest (a.put o.dst v') w') : wpList Tryd.prog ops Q (o :: rest) a w :=
  wpList_plain hgd fun _ hK => wp_append_Sw s x ho B v L y g hs hown hx hy hl hB fun v' w' h1 h2 => hK _ _ (h v' w' h1 h2)
theorem Swdec_is (A : Option Addr) (n c B : Nat) (l : List UInt8) (r) (w : World) (h : Byt w B (.slice A n c) l) (hB : B ≤ w.heap.size) (hl : l.length ≤ 1050000) (hT : Tbl w) (hr : decR10 l = r) :
    Calls Tryd.prog 65 #[.slice A n c] w (GotRec10 r w) := by
  obtain rfl : n = l.length := by obtain ⟨_, _, hv, _⟩ := h; injection hv
  rw [← hr]
  exact wdec10_any A c B l w h hB hl hT
/-- what Scan tells -/
def GotSw (l : List UInt8) (w : World) (e : Ending) (w' : World) : Prop := ∃ L u er v, ScR l L u er ∧ e = .returned (.tuple #[v, .int .i64 ((u : Nat) : Int), .bool (er == 2)]) ∧ OwnRc 76 w.heap.size v L w' ∧ Below w.heap.size w w'
set_option maxHeartbeats 1050000 in
theorem Swscan_some (g o c B : Nat) (l : List UInt8) (w : World) (h : Byt w B (.slice (some ⟨g, o, none⟩) l.length c) l) (hB : B ≤ w.heap.size) (hl : l.length ≤ 1050000) (hT : Tbl w) :
    Calls Tryd.prog 42 #[.slice (some ⟨g, o, none⟩) l.length c] w (GotSw l w) := by
  have HB := Lib.hid h
  have HT := Lib.hid hT; clear hT
  have hcl : l.length ≤ c := by obtain ⟨_, _, hv, hc, _⟩ := h; injection hv with _ _ e; omega
  clear h
  go_enter Tryd.func42, Tryd.ntmps42
  go_wp2_with fail
  go_loopw [5, 6] (fun v i wr => ∃ (acc : List Rcd) (k : Nat), i = .int .i64 k ∧ k ≤ l.length ∧ acc.length ≤ k ∧ OwnRc 76 w.heap.size v acc wr ∧ Below w.heap.size w wr ∧ ∀ L u e, ScR (l.drop k) L u e → ScR l (acc ++ L) (k + u) e) (fun _ i _ => l.length - (intOf i).toNat)
  case atStart => exact ⟨[], 0, rfl, Nat.zero_le _, Nat.zero_le _, OwnRc.nil _ _ _, Below.refl _ _, fun L u e h => by simpa using h⟩
  case round =>
    obtain ⟨acc, k, rfl, hk, hacc, hown, hb, hall⟩ := hrel
    obtain ⟨A9, c9, hv9⟩ := hown.slice
    subst hv9
    have HOWN := Lib.hid hown; have HALL := Lib.hid hall; have HACC := Lib.hid hacc
    have hby := (HB.out.below hb hB).cut (k := k) hk
    rw [add_lit_10] at hby
    have hT2 := tbl_keep HT.out hb
    have hBr : B ≤ wr.heap.size := Nat.le_trans hB hb.size
    have hdl : (l.drop k).length ≤ 1050000 := by rw [List.length_drop]; omega
    obtain ⟨r, hr⟩ : ∃ r, decR10 (l.drop k) = r := ⟨_, rfl⟩
    have HR := Lib.hid hr; have HT2 := Lib.hid hT2
    obtain ⟨⟨hd, ht, hv, ⟨ix, et, kd, dt⟩⟩, n, e⟩ := r
    have hkc : k ≤ c := by omega
    clear hown hall hacc hr hT2
    have hnil : ScR [] [] 0 2 := ScR.nil _ 2 (decR10_e (l := []) (b := []) (k := 0) (n := 0) rfl (by decide)) (by decide)
    by_cases hck : c = k
    · have hlk : l.length = k := by omega
      have hd : l.drop k = [] := List.drop_of_length_le (by omega)
      have hby0 : Byt wr B (.slice (some ⟨g, o, none⟩) 0 0) [] := ⟨_, _, rfl, Nat.le_refl _, fun h => absurd h (by simp)⟩
      have hend : ScR l acc k 2 := by
        have := HALL.out [] 0 2 (by rw [hd]; exact hnil)
        simpa using this
      have HEND := Lib.hid hend
      subst hck
      have HBY := Lib.hid hby0
      clear hend hby hby0 HR hdl hd hlk hnil
      go_wp2_with fail
      refine (Swdec_is _ 0 0 B [] (zRcd, 0, 2) _ HBY.out hBr (by simp) HT2.out (decR10_e (l := []) (b := []) (k := 0) (n := 0) rfl (by decide))).mono ?_
      rintro e w1 ⟨rfl, hb1⟩
      have hown1 := HOWN.out.below hb1
      have hbw1 := hb.trans (hb1.mono hb.size)
      unfold Rcd.val zRcd noEnt
      have hown2 := hown1.below (below_new w1 (.cells #[.bool false, .int .i64 0, .int .i64 0, .int .i64 0, .int .i64 0, .int .i64 0, .string ByteArray.empty] 76))
      go_wp2
      exact bodyPost_ret (v := .tuple #[_, .int .i64 (c : Nat), .bool true]) (by simp [results, Tryd.results42, go_sem]) rfl ⟨acc, c, 2, _, HEND.out, rfl, hown2, hbw1.alloc hbw1.size _⟩
    · rw [if_neg hck] at hby
      have HBY := Lib.hid hby; clear hby hnil
      by_cases he : e = 0
      · subst he
        obtain ⟨n1, n2, n3, n4⟩ := decR10_good HR.out
        rw [List.length_drop] at n4
        have hsum : k + n ≤ l.length := by omega
        have HN := Lib.hid (And.intro n3 hsum)
        have hkn : (k : Int) + n ≤ 1050000 := by omega
        clear n1 n2 n3 n4 hsum
        go_wp2_with fail
        refine (Swdec_is _ _ _ B (l.drop k) _ _ HBY.out hBr hdl HT2.out HR.out).mono ?_
        rintro e w1 ⟨rfl, hb1⟩
        unfold Rcd.val
        simp only
        have hown1 := HOWN.out.below hb1
        have hbw1 := hb.trans (hb1.mono hb.size)
        clear hb1 hb
        obtain ⟨WA, hWA⟩ : ∃ WA, w1.alloc (Obj.cells #[.bool hd, .int .i64 ht, .int .i64 hv, .int .i64 ix, .int .i64 et, .int .i64 kd, .string dt] 76) = WA := ⟨_, rfl⟩
        have hza : WA.heap.size = w1.heap.size + 1 := by rw [← hWA]; simp
        have hba : Below w.heap.size w WA := by rw [← hWA]; exact hbw1.alloc hbw1.size _
        have hoa : OwnRc 76 w.heap.size (.slice A9 acc.length c9) acc WA := by rw [← hWA]; exact hown1.below (below_new _ _)
        have hcell := cells_new10 WA 76 [.bool hd, .int .i64 ht, .int .i64 hv, .int .i64 ix, .int .i64 et, .int .i64 kd, .string dt]
        have hb1 : Below w.heap.size w (WA.alloc (Obj.cells #[.bool hd, .int .i64 ht, .int .i64 hv, .int .i64 ix, .int .i64 et, .int .i64 kd, .string dt] 76)) := hba.alloc hba.size _
        have hown1a : OwnRc 76 w.heap.size (.slice A9 acc.length c9) acc (WA.alloc (Obj.cells #[.bool hd, .int .i64 ht, .int .i64 hv, .int .i64 ix, .int .i64 et, .int .i64 kd, .string dt] 76)) := hoa.below (below_new _ _)
        rw [hza] at hcell
        rw [← hWA] at hcell hown1a hb1
        have hal : acc.length ≤ 1050000 := by have := HACC.out; omega
        have HAL := Lib.hid hal
        clear hal hWA hza hba hoa
        go_wp2_with (at_builtin; refine wpList_append_Sw rfl _ _ rfl w.heap.size (.slice A9 acc.length c9) acc ⟨hd, ht, hv, ⟨ix, et, kd, dt⟩⟩ (w1.heap.size + 1) rfl hown1a rfl hcell HAL.out hb1.size ?_)
        intro v2 w2 hown2 hb2
        have hbw2 := hb1.trans hb2
        clear hown1a hcell hb1 hb2 hown1 hbw1
        go_wp2
        go_roundw
        case rel => exact ⟨acc ++ [⟨hd, ht, hv, ⟨ix, et, kd, dt⟩⟩], k + n, by go_num, HN.out.2, by have := HN.out.1; have := HACC.out; simp; omega, hown2, hbw2, fun L u e hh => by
          have := HALL.out (⟨hd, ht, hv, ⟨ix, et, kd, dt⟩⟩ :: L) (n + u) e (ScR.cons _ _ _ _ _ _ HR.out (by rw [List.drop_drop]; exact hh))
          rw [List.append_assoc, Nat.add_assoc]; exact this⟩
        case measure => have := HN.out; first | (simp [intOf]; omega) | (simp [intOf]; done)
      · have hee : ((e : Int) == 0) = false := by rw [beq_eq_false_iff_ne]; omega
        have hee2 : ¬ (e : Int) = 0 := by omega
        have hend : ScR l acc k e := by
          have hz := decR10_bad HR.out he
          have := HALL.out [] 0 e (ScR.nil _ e (by rw [HR.out, hz.1, hz.2.1]) he)
          simpa using this
        have HEND := Lib.hid hend
        have he23 := (decR10_bad HR.out he).2.2
        have h2e : ((e : Int) == 2) = (e == 2) := by rcases he23 with rfl | rfl <;> decide
        clear he hend he23
        go_wp2_with fail
        refine (Swdec_is _ _ _ B (l.drop k) _ _ HBY.out hBr hdl HT2.out HR.out).mono ?_
        rintro e9 w1 ⟨rfl, hb1⟩
        unfold Rcd.val
        simp only
        have hown1 := HOWN.out.below hb1
        have hbw1 := hb.trans (hb1.mono hb.size)
        have hown2 := hown1.below (below_new w1 (Obj.cells #[.bool hd, .int .i64 ht, .int .i64 hv, .int .i64 ix, .int .i64 et, .int .i64 kd, .string dt] 76))
        go_wp2
        exact bodyPost_ret (v := .tuple #[_, .int .i64 (k : Nat), .bool (e == 2)]) (by simp [results, Tryd.results42, go_sem]) rfl ⟨acc, k, e, _, HEND.out, rfl, hown2, hbw1.alloc hbw1.size _⟩
set_option maxHeartbeats 400000 in
theorem Swscan_nil (w : World) (hT : Tbl w) : Calls Tryd.prog 42 #[.slice none 0 0] w (GotSw [] w) := by
  have HT := Lib.hid hT; clear hT
  have hby : Byt w w.heap.size (.slice none 0 0) [] := Byt.of_own (ownB_nil 0 w)
  have HBY := Lib.hid hby; clear hby
  have hnil : ScR [] [] 0 2 := ScR.nil _ 2 (decR10_e (l := []) (b := []) (k := 0) (n := 0) rfl (by decide)) (by decide)
  have HNIL := Lib.hid hnil; clear hnil
  go_enter Tryd.func42, Tryd.ntmps42
  go_wp2_with fail
  go_loopw [5, 6] (fun v i wr => v = .slice none 0 0 ∧ i = .int .i64 0 ∧ wr = w) (fun _ _ _ => 1)
  case atStart => exact ⟨rfl, rfl, rfl⟩
  case round =>
    obtain ⟨rfl, rfl, rfl⟩ := hrel
    go_wp2_with fail
    refine (Swdec_is _ 0 0 wr.heap.size [] (zRcd, 0, 2) _ HBY.out (Nat.le_refl _) (by simp) HT.out (decR10_e (l := []) (b := []) (k := 0) (n := 0) rfl (by decide))).mono ?_
    rintro e w1 ⟨rfl, hb1⟩
    unfold Rcd.val zRcd noEnt
    go_wp2
    exact bodyPost_ret (v := .tuple #[_, .int .i64 (0 : Nat), .bool true]) (by simp [results, Tryd.results42, go_sem]) rfl ⟨[], 0, 2, _, HNIL.out, rfl, OwnRc.nil _ _ _, hb1.alloc hb1.size _⟩
/-- Scan of any bytes -/
theorem Swscan_any (u : Value) (B : Nat) (l : List UInt8) (w : World) (h : Byt w B u l) (hB : B ≤ w.heap.size) (hl : l.length ≤ 1050000) (hT : Tbl w) (hz : l = [] → u = .slice none 0 0 ∨ ∃ g o c, u = .slice (some ⟨g, o, none⟩) 0 c) : Calls Tryd.prog 42 #[u] w (GotSw l w) := by
  obtain ⟨A, c, rfl⟩ := byt_slice h
  by_cases h0 : l = []
  · subst h0
    rcases hz rfl with e | ⟨g, o, c', e⟩
    · injection e with e1 e2 e3
      subst e1; subst e3
      exact Swscan_nil w hT
    · injection e with e1 e2 e3
      subst e1
      exact Swscan_some g o c B [] w h hB hl hT
  · have hlen : 0 < l.length := by cases l with | nil => exact absurd rfl h0 | cons x t => simp
    obtain ⟨A', c', hv, _, hx⟩ := id h
    injection hv with e1 _ _
    subst e1
    obtain ⟨g, o, rfl, _⟩ := hx hlen
    exact Swscan_some g o c B l w h hB hl hT
end Go.Proofs.YtbiecoifeeikpaaDoor
/-
  A server's state as plain data: records played one behind the other, entries written, a snapshot taken; the bytes of a state's file.
  There are no conditions beyond those that each lemma names.
-/
set_option linter.unusedSimpArgs false
set_option linter.unusedVariables false
namespace Go.Proofs.YtbiecoifeeikpaaDoor
open Go.RowKit
set_option maxRecDepth 100000

/-- what a server keeps -/
structure Kst where
  ht : Int
  hv : Int
  s : Snp
  log : List Ent
def base11 (s : Snp) : Kst := ⟨0, 0, s, []⟩
def zKst : Kst := base11 zSnp
def last11 (k : Kst) : Int := k.s.ix + (k.log.length : Int)
def fits11 (k : Kst) (i : Int) : Bool := decide (k.s.ix < i) && decide (i ≤ last11 k + 1)
/-- entries put at their places -/
def put11 (k : Kst) (i : Int) (l : List Ent) : Kst := ⟨k.ht, k.hv, k.s, k.log.take (i - k.s.ix - 1).toNat ++ l⟩
def take11 (k : Kst) (r : Rcd) : Option Kst := if r.hard = true then some ⟨r.ht, r.hv, k.s, k.log⟩ else if fits11 k r.e.ix = true then some (put11 k r.e.ix [r.e]) else none
def play11 : Kst → List Rcd → Option Kst
  | k, [] => some k
  | k, r :: t => (take11 k r).bind fun k' => play11 k' t
def entR (e : Ent) : Rcd := ⟨false, 0, 0, e⟩
def hardR (t v : Int) : Rcd := ⟨true, t, v, noEnt⟩
theorem play11_append (a b : List Rcd) : ∀ k, play11 k (a ++ b) = (play11 k a).bind fun k' => play11 k' b := by
  induction a with
  | nil => intro k; rfl
  | cons r t ih =>
    intro k
    show (take11 k r).bind (fun k' => play11 k' (t ++ b)) = ((take11 k r).bind fun k' => play11 k' t).bind fun k' => play11 k' b
    cases take11 k r with
    | none => rfl
    | some k' => exact ih k'
theorem play11_snoc {k k1 : Kst} {a : List Rcd} {r : Rcd} (h : play11 k a = some k1) : play11 k (a ++ [r]) = take11 k1 r := by
  rw [play11_append, h]
  show play11 k1 [r] = _
  unfold play11
  cases take11 k1 r <;> rfl
theorem take11_hard (k : Kst) (t v : Int) : take11 k (hardR t v) = some ⟨t, v, k.s, k.log⟩ := by unfold take11 hardR; rw [if_pos rfl]
theorem take11_ent {k : Kst} {e : Ent} (h : fits11 k e.ix = true) : take11 k (entR e) = some (put11 k e.ix [e]) := by unfold take11 entR; rw [if_neg (by simp), if_pos h]
theorem fits11_is {k : Kst} {i : Int} : fits11 k i = true ↔ k.s.ix < i ∧ i ≤ k.s.ix + (k.log.length : Int) + 1 := by
  unfold fits11 last11; simp only [Bool.and_eq_true, decide_eq_true_eq]
theorem put11_len {k : Kst} {i : Int} {l : List Ent} (h : fits11 k i = true) : ((put11 k i l).log.length : Int) = i - k.s.ix - 1 + l.length := by
  have := fits11_is.1 h
  unfold put11
  simp only [List.length_append, List.length_take]
  omega
theorem put11_s (k : Kst) (i : Int) (l : List Ent) : (put11 k i l).s = k.s ∧ (put11 k i l).ht = k.ht ∧ (put11 k i l).hv = k.hv := ⟨rfl, rfl, rfl⟩
theorem put11_put {k : Kst} {i : Int} {l m : List Ent} (h : fits11 k i = true) : put11 (put11 k i l) (i + (l.length : Int)) m = put11 k i (l ++ m) := by
  have h1 := put11_len (l := l) h
  have h2 := fits11_is.1 h
  have e : (i + (l.length : Int) - (put11 k i l).s.ix - 1).toNat = (put11 k i l).log.length := by rw [(put11_s k i l).1]; omega
  show Kst.mk _ _ _ (List.take _ (put11 k i l).log ++ m) = _
  rw [e, List.take_length]
  unfold put11
  rw [List.append_assoc]
/-- entries may be, and are one behind the other, from i on -/
def row11 : Int → List Ent → Bool
  | _, [] => true
  | i, e :: t => mayEnt10 e && (e.ix == i) && row11 (i + 1) t
theorem row11_snoc (t : List Ent) (e : Ent) : ∀ i, row11 i (t ++ [e]) = (row11 i t && mayEnt10 e && (e.ix == i + (t.length : Int))) := by
  induction t with
  | nil => intro i; simp [row11]
  | cons x t ih =>
    intro i
    rw [List.cons_append]; unfold row11
    rw [ih (i + 1)]
    have : i + 1 + (t.length : Int) = i + ((x :: t).length : Int) := by rw [List.length_cons]; omega
    rw [this]
    simp only [Bool.and_assoc]
theorem row11_at : ∀ (l : List Ent) (i : Int), row11 i l = true → ∀ j (hj : j < l.length), mayEnt10 l[j] = true ∧ l[j].ix = i + (j : Int)
  | [], _, _, j, hj => absurd hj (by simp)
  | x :: t, i, h, 0, _ => by
    unfold row11 at h; simp only [Bool.and_eq_true, beq_iff_eq] at h
    exact ⟨h.1.1, by simpa using h.1.2⟩
  | x :: t, i, h, j + 1, hj => by
    unfold row11 at h; simp only [Bool.and_eq_true, beq_iff_eq] at h
    have := row11_at t (i + 1) h.2 j (by simpa using hj)
    have hj2 : j < t.length := by simpa using hj
    refine ⟨this.1, ?_⟩
    show (t[j]'hj2).ix = _
    rw [this.2]; omega
theorem row11_may {l : List Ent} {i : Int} (h : row11 i l = true) : ∀ e ∈ l, mayEnt10 e = true := by
  intro e he
  obtain ⟨j, hj, rfl⟩ := List.getElem_of_mem he
  exact (row11_at l i h j hj).1
/-- entries played one by one -/
theorem play11_row : ∀ (l : List Ent) (k : Kst) (i : Int), fits11 k i = true → row11 i l = true → l ≠ [] → play11 k (l.map entR) = some (put11 k i l)
  | [], _, _, _, _, h => absurd rfl h
  | [e], k, i, hf, hr, _ => by
    unfold row11 at hr; simp only [Bool.and_eq_true, beq_iff_eq] at hr
    obtain ⟨⟨_, rfl⟩, _⟩ := hr
    show (take11 k (entR e)).bind _ = _
    rw [take11_ent hf]; rfl
  | e :: e2 :: t, k, i, hf, hr, _ => by
    unfold row11 at hr; simp only [Bool.and_eq_true, beq_iff_eq] at hr
    obtain ⟨⟨_, rfl⟩, hr⟩ := hr
    show (take11 k (entR e)).bind _ = _
    rw [take11_ent hf]
    show play11 (put11 k e.ix [e]) ((e2 :: t).map entR) = _
    have h1 := put11_len (l := [e]) hf
    have h2 := fits11_is.1 hf
    rw [play11_row (e2 :: t) (put11 k e.ix [e]) (e.ix + 1) (fits11_is.2 (by rw [(put11_s _ _ _).1]; simp only [List.length_cons, List.length_nil] at h1; omega)) hr (by simp)]
    congr 1
    exact put11_put (l := [e]) hf
/-- what is written, and what is answered -/
def write11 (k : Kst) (l : List Ent) : Int × Kst := match l with
  | [] => (0, k)
  | e :: t => if fits11 k e.ix = true ∧ row11 e.ix (e :: t) = true then (if e.ix + (t.length : Int) - k.s.ix > 200 then (5, k) else (0, put11 k e.ix (e :: t))) else (1, k)
def term11 (k : Kst) (n : Nat) : Int := match n with
  | 0 => k.s.st
  | n + 1 => ((k.log[n]?).getD noEnt).et
/-- the entries that stay behind a snapshot -/
def behind11 (k : Kst) (s : Snp) : List Ent := if (s.ix - k.s.ix).toNat ≤ k.log.length ∧ s.st = term11 k (s.ix - k.s.ix).toNat then k.log.drop (s.ix - k.s.ix).toNat else []
def snap11 (k : Kst) (s : Snp) : Int × Kst := if maySnp10 s = true ∧ k.s.ix ≤ s.ix then (0, ⟨k.ht, k.hv, s, behind11 k s⟩) else (1, k)
def hard11 (k : Kst) (t v : Int) : Int × Kst := if mayHard10 t v = true then (0, ⟨t, v, k.s, k.log⟩) else (1, k)
/-- the lines that stand behind a snapshot in a file laid anew -/
def lines11 (k : Kst) : List Rcd := hardR k.ht k.hv :: k.log.map entR
def whole11 (k : Kst) : List UInt8 := snapB10 k.s ++ (lines11 k).flatMap encR10
/-- a state that may be -/
structure KOk (k : Kst) : Prop where
  hard : mayHard10 k.ht k.hv = true
  snap : maySnp10 k.s = true
  ents : row11 (k.s.ix + 1) k.log = true
  few : k.log.length ≤ 200
theorem may_ent {e : Ent} (h : mayEnt10 e = true) : may10 (entR e) = true := by unfold may10 entR; rw [if_neg (by simp)]; simp [h]
theorem may_hard {t v : Int} (h : mayHard10 t v = true) : may10 (hardR t v) = true := by
  unfold may10 hardR; rw [if_pos rfl, h]; unfold eqEnt10; simp
theorem zKst_ok : KOk zKst := ⟨rfl, rfl, rfl, by simp [zKst, base11]⟩
theorem KOk.lines {k : Kst} (h : KOk k) : ∀ r ∈ lines11 k, may10 r = true := by
  intro r hr
  rcases List.mem_cons.1 hr with rfl | hr
  · exact may_hard h.hard
  · obtain ⟨e, he, rfl⟩ := List.mem_map.1 hr
    exact may_ent (row11_may h.ents e he)
theorem encs_len11 : ∀ rs : List Rcd, (rs.flatMap encR10).length ≤ 2607 * rs.length
  | [] => by simp
  | r :: t => by
    rw [List.flatMap_cons, List.length_append, List.length_cons]
    have := encs_len11 t; have := enc10_short r; omega
theorem whole11_len {k : Kst} (h : KOk k) : 6 ≤ (whole11 k).length ∧ (whole11 k).length ≤ 824007 := by
  unfold whole11
  have h1 := snapB10_len h.snap
  have h2 := encs_len11 (lines11 k)
  have h3 : (lines11 k).length = k.log.length + 1 := by unfold lines11; simp
  have := h.few
  rw [List.length_append]
  omega
theorem play11_lines {k : Kst} (h : KOk k) : play11 (base11 k.s) (lines11 k) = some k := by
  unfold lines11
  show (take11 (base11 k.s) (hardR k.ht k.hv)).bind _ = _
  rw [take11_hard]
  show play11 ⟨k.ht, k.hv, k.s, []⟩ (k.log.map entR) = some k
  obtain ⟨ht, hv, s, log⟩ := k
  cases log with
  | nil => rfl
  | cons e t =>
    have hr := h.ents
    simp only at hr
    have he := (row11_at _ _ hr 0 (by simp)).2
    simp only [List.getElem_cons_zero] at he
    rw [play11_row (e :: t) ⟨ht, hv, s, []⟩ (s.ix + 1) (fits11_is.2 (by simp only [List.length_nil]; omega)) hr (by simp)]
    unfold put11
    simp
theorem row11_take : ∀ (l : List Ent) (i : Int) (n : Nat), row11 i l = true → row11 i (l.take n) = true
  | [], _, _, _ => by simp [row11]
  | _ :: _, _, 0, _ => by simp [row11]
  | e :: t, i, n + 1, h => by
    unfold row11 at h
    simp only [Bool.and_eq_true] at h
    rw [List.take_succ_cons]; unfold row11
    simp only [Bool.and_eq_true]
    exact ⟨h.1, row11_take t (i + 1) n h.2⟩
theorem row11_drop : ∀ (l : List Ent) (i : Int) (n : Nat), n ≤ l.length → row11 i l = true → row11 (i + (n : Int)) (l.drop n) = true
  | l, i, 0, _, h => by simpa using h
  | [], i, n + 1, hn, _ => by simp at hn
  | e :: t, i, n + 1, hn, h => by
    unfold row11 at h
    simp only [Bool.and_eq_true] at h
    rw [List.drop_succ_cons]
    have := row11_drop t (i + 1) n (by simpa using hn) h.2
    rw [show i + ((n + 1 : Nat) : Int) = i + 1 + (n : Int) by omega]
    exact this
theorem row11_append : ∀ (l m : List Ent) (i : Int), row11 i l = true → row11 (i + (l.length : Int)) m = true → row11 i (l ++ m) = true
  | [], m, i, _, h => by simpa using h
  | e :: t, m, i, h, h2 => by
    unfold row11 at h
    simp only [Bool.and_eq_true] at h
    rw [List.cons_append]; unfold row11
    simp only [Bool.and_eq_true]
    refine ⟨h.1, row11_append t m (i + 1) h.2 ?_⟩
    rw [List.length_cons] at h2
    rw [show i + 1 + (t.length : Int) = i + ((t.length + 1 : Nat) : Int) by omega]
    exact h2
theorem KOk.put {k : Kst} {i : Int} {l : List Ent} (h : KOk k) (hf : fits11 k i = true) (hr : row11 i l = true) (hl : (put11 k i l).log.length ≤ 200) : KOk (put11 k i l) := by
  have h2 := fits11_is.1 hf
  refine ⟨h.hard, h.snap, ?_, hl⟩
  show row11 (k.s.ix + 1) (k.log.take (i - k.s.ix - 1).toNat ++ l) = true
  refine row11_append _ _ _ (row11_take _ _ _ h.ents) ?_
  rw [List.length_take, show k.s.ix + 1 + ((min (i - k.s.ix - 1).toNat k.log.length : Nat) : Int) = i by omega]
  exact hr
theorem write11_ok {k k' : Kst} {l : List Ent} (h : KOk k) (hw : write11 k l = (0, k')) : KOk k' := by
  unfold write11 at hw
  cases l with
  | nil => simp only [Prod.mk.injEq, true_and] at hw; subst hw; exact h
  | cons e t =>
    simp only at hw
    split at hw
    · rename_i hc
      split at hw
      · simp at hw
      · rename_i hn
        simp only [Prod.mk.injEq, true_and] at hw
        subst hw
        have := put11_len (l := e :: t) hc.1
        refine h.put hc.1 hc.2 ?_
        rw [List.length_cons] at this
        omega
    · simp at hw
theorem write11_bad {k k' : Kst} {l : List Ent} {e : Int} (hw : write11 k l = (e, k')) (he : e ≠ 0) : k' = k ∧ (e = 1 ∨ e = 5) := by
  unfold write11 at hw
  cases l with
  | nil => simp only [Prod.mk.injEq] at hw; exact absurd hw.1.symm he
  | cons x t =>
    simp only at hw
    split at hw
    · split at hw
      · simp only [Prod.mk.injEq] at hw; exact ⟨hw.2.symm, .inr hw.1.symm⟩
      · simp only [Prod.mk.injEq] at hw; exact absurd hw.1.symm he
    · simp only [Prod.mk.injEq] at hw; exact ⟨hw.2.symm, .inl hw.1.symm⟩
theorem snap11_ok {k k' : Kst} {s : Snp} (h : KOk k) (hw : snap11 k s = (0, k')) : KOk k' := by
  unfold snap11 at hw
  split at hw
  · rename_i hc
    simp only [Prod.mk.injEq, true_and] at hw
    subst hw
    refine ⟨h.hard, hc.1, ?_, ?_⟩
    · show row11 (s.ix + 1) (behind11 k s) = true
      unfold behind11
      split
      · rename_i hb
        have := row11_drop k.log (k.s.ix + 1) (s.ix - k.s.ix).toNat hb.1 h.ents
        rw [show k.s.ix + 1 + (((s.ix - k.s.ix).toNat : Nat) : Int) = s.ix + 1 by omega] at this
        exact this
      · rfl
    · show (behind11 k s).length ≤ 200
      unfold behind11
      have := h.few
      split
      · rw [List.length_drop]; omega
      · simp
  · simp at hw
theorem snap11_bad {k k' : Kst} {s : Snp} {e : Int} (hw : snap11 k s = (e, k')) (he : e ≠ 0) : k' = k ∧ e = 1 := by
  unfold snap11 at hw
  split at hw
  · simp only [Prod.mk.injEq] at hw; exact absurd hw.1.symm he
  · simp only [Prod.mk.injEq] at hw; exact ⟨hw.2.symm, hw.1.symm⟩
theorem hard11_ok {k k' : Kst} {t v e : Int} (h : KOk k) (hw : hard11 k t v = (e, k')) : KOk k' := by
  unfold hard11 at hw
  split at hw
  · rename_i hc
    simp only [Prod.mk.injEq] at hw
    obtain ⟨_, rfl⟩ := hw
    exact ⟨hc, h.snap, h.ents, h.few⟩
  · simp only [Prod.mk.injEq] at hw
    obtain ⟨_, rfl⟩ := hw
    exact h
end Go.Proofs.YtbiecoifeeikpaaDoor
/-
  bytes.Clone at any bytes; bytes turned into a text; a slice's beginning.
  The bytes are no more than 2^47.
-/
set_option linter.unusedSimpArgs false
set_option linter.unusedVariables false
namespace Go.Proofs.YtbiecoifeeikpaaDoor
open Go.RowKit
set_option maxRecDepth 100000

theorem clone9_is (A : Option Addr) (n c B : Nat) (l : List UInt8) (w : World) (h : Byt w B (.slice A n c) l) (hl : l.length ≤ 140737488355328) :
    Calls Tryd.prog 31 #[.slice A n c] w (Made l w) := by
  obtain ⟨A', c', hv, _, hcell⟩ := h
  injection hv with e1 e2 _; subst e1; subst e2
  cases A with
  | none =>
    have h0 : l = [] := by
      cases l with
      | nil => rfl
      | cons x t => obtain ⟨g, o, h, _⟩ := hcell (by simp); cases h
    subst h0
    refine (Tryd.bytes_Clone_nil _ _ w).mono ?_
    rintro e w' ⟨rfl, rfl⟩
    exact ⟨_, rfl, ownB_nil _ _, Below.refl _ _⟩
  | some a =>
    refine (Tryd.bytes_Clone_at a l.length c (l.map fun x => (x.toNat : Int)) w (by simp) (by omega) (fun i hi => ?_)).mono ?_
    · obtain ⟨g, o, h, _, hcs⟩ := hcell (by omega)
      injection h with h; subst h
      rw [Addr.add_mid, hcs i hi]; simp [hi]
    · rintro e w' ⟨v', rfl, hown, _, hb⟩
      refine ⟨v', rfl, ?_, hb⟩
      unfold OwnB Lib.byteCells
      rw [List.map_map] at hown
      exact hown
theorem clone9_to (v : Value) (B : Nat) (l : List UInt8) (w : World) (h : Byt w B v l) (hl : l.length ≤ 140737488355328) : Calls Tryd.prog 31 #[v] w (Made l w) := by
  obtain ⟨A, c, rfl, _⟩ := id h
  exact clone9_is A l.length c B l w h hl
theorem conv9 {w : World} {B : Nat} {v : Value} {l : List UInt8} {S : ByteArray} (h : Byt w B v l) (hS : (⟨l.toArray⟩ : ByteArray) = S) : (convert 46 9 v).run Tryd.prog w = .ok (.string S) w := by
  obtain ⟨A, c, rfl, _, hcell⟩ := id h
  subst hS
  have e : strOfNums (l.map fun x => (x.toNat : Int)) = ⟨l.toArray⟩ := by
    unfold strOfNums
    rw [List.map_map]
    congr 2
    conv => rhs; rw [← List.map_id l]
    apply List.map_congr_left; intro x _; simp
  rcases Nat.eq_zero_or_pos l.length with h0 | h0
  · have hl : l = [] := List.eq_nil_of_length_eq_zero h0
    subst hl
    simp [convert, run_underlying Tryd.underlying46, run_underlying Tryd.underlying5, run_underlying Tryd.underlying9, Result.andThen]
    cases A <;> simp [Conv.bytesToString, loadCells] <;> rfl
  · obtain ⟨g, o, rfl, _, hc⟩ := hcell h0
    rw [← e]
    refine run_convert_bytes_arg w 46 5 Tryd.underlying46 Tryd.underlying5 g o l.length c _ (by simp) (fun i hi => ?_) 9 Tryd.underlying9
    rw [hc i hi]; simp [hi, List.getD]
theorem byt_take9 {w : World} {B : Nat} {A : Option Addr} {c j : Nat} {l : List UInt8} (h : Byt w B (.slice A l.length c) l) (hj : j ≤ l.length) : Byt w B (.slice A j c) (l.take j) := by
  obtain ⟨A', c', hv, hc, hcell⟩ := h
  injection hv with e1 _ e3
  subst e1; subst e3
  refine ⟨A, c, by rw [List.length_take, Nat.min_eq_left hj], by rw [List.length_take]; omega, fun h0 => ?_⟩
  rw [List.length_take] at h0
  obtain ⟨g, o, hA, hg, hk⟩ := hcell (by omega)
  refine ⟨g, o, hA, hg, fun k h1 => ?_⟩
  rw [List.length_take] at h1
  rw [hk k (by omega), List.getElem_take]
theorem byt_cap9 {w : World} {B : Nat} {A : Option Addr} {m c : Nat} {l : List UInt8} (h : Byt w B (.slice A m c) l) : m = l.length ∧ m ≤ c := by
  obtain ⟨A', c', hv, hc, _⟩ := h
  injection hv with _ e2 e3
  omega
end Go.Proofs.YtbiecoifeeikpaaDoor
/-
  The program's disk in memory: a box with a map and a count; the map holds a file a name; the files' bytes lie in rows of one's own. What a step on it leaves alone.
  There are no conditions beyond those that each lemma names.
-/
set_option linter.unusedSimpArgs false
set_option linter.unusedVariables false
namespace Go.Proofs.YtbiecoifeeikpaaDoor
open Go.RowKit
set_option maxRecDepth 100000

/-- all that was there stands, but for blocks of which S holds -/
structure Off (S : Nat → Prop) (w w' : World) : Prop where
  os : w'.os = w.os
  tape : w'.tape = w.tape
  output : w'.output = w.output
  size : w.heap.size ≤ w'.heap.size
  block : ∀ k, k < w.heap.size → ¬ S k → w'.heap[k]? = w.heap[k]?
theorem Off.refl (S : Nat → Prop) (w : World) : Off S w w := ⟨rfl, rfl, rfl, Nat.le_refl _, fun _ _ _ => rfl⟩
theorem Off.of_below {S : Nat → Prop} {w w' : World} (h : Below w.heap.size w w') : Off S w w' := ⟨h.os, h.tape, h.output, h.size, fun k hk _ => h.block k hk⟩
theorem Off.trans {S T : Nat → Prop} {w w1 w2 : World} (h : Off S w w1) (h2 : Off T w1 w2) (hT : ∀ k, T k → S k ∨ w.heap.size ≤ k) : Off S w w2 :=
  ⟨h2.os.trans h.os, h2.tape.trans h.tape, h2.output.trans h.output, Nat.le_trans h.size h2.size, fun k hk hS => (h2.block k (Nat.lt_of_lt_of_le hk h.size) (fun ht => by
    rcases hT k ht with h3 | h3
    · exact hS h3
    · omega)).trans (h.block k hk hS)⟩
theorem Off.then_ {S : Nat → Prop} {w w1 w2 : World} (h : Off S w w1) (h2 : Below w1.heap.size w1 w2) : Off S w w2 := h.trans (Off.of_below (S := S) h2) fun _ h => .inl h
theorem Off.mono {S T : Nat → Prop} {w w' : World} (h : Off S w w') (hT : ∀ k, S k → T k ∨ w.heap.size ≤ k) : Off T w w' := ⟨h.os, h.tape, h.output, h.size, fun k hk ht => h.block k hk fun hs => by
    rcases hT k hs with h3 | h3
    · exact ht h3
    · omega⟩
theorem Off.alloc {S : Nat → Prop} {w w1 : World} (h : Off S w w1) (o : Obj) : Off S w (w1.alloc o) := h.then_ (below_new _ _)
theorem Off.drew {S : Nat → Prop} {w w1 : World} (h : Off S w w1) : Off S w w1.drew := ⟨h.os, h.tape, h.output, h.size, h.block⟩
theorem Off.set {S : Nat → Prop} {w w1 : World} {g j : Nat} {u : Value} (h : Off S w w1) (hg : S g ∨ w.heap.size ≤ g) : Off S w (w1.setCell ⟨g, j, none⟩ u) :=
  h.trans (T := fun k => k = g) ⟨rfl, rfl, rfl, Nat.le_of_eq (by simp [World.setCell]), fun k _ hk => Below.heap_setCell _ _ _ _ hk⟩ fun k hk => by subst hk; exact hg
theorem Off.grown {S : Nat → Prop} {w w1 w2 : World} {row : Option Nat} (h : Off S w w1) (h2 : w1.grownBy w2 row) (hr : ∀ k, row = some k → S k ∨ w.heap.size ≤ k) : Off S w w2 :=
  h.trans (T := fun k => row = some k) ⟨h2.os, h2.tape, h2.output, h2.size, fun k hk hne => h2.block k hk fun e => hne e.symm⟩ hr
theorem Off.below {S : Nat → Prop} {B : Nat} {w w' : World} (h : Off S w w') (hS : ∀ k, S k → B ≤ k) (hB : B ≤ w.heap.size) : Below B w w' :=
  ⟨h.os, h.tape, h.output, h.size, fun k hk => h.block k (Nat.lt_of_lt_of_le hk hB) fun hs => by have := hS k hs; omega⟩
theorem Off.cell {S : Nat → Prop} {w w' : World} {p : Addr} (h : Off S w w') (hp : p.block < w.heap.size) (hS : ¬ S p.block) : w'.cell? p = w.cell? p := World.cell?_of_block (w := w) (h.block p.block hp hS)
theorem Off.ownsRow {S : Nat → Prop} {w w' : World} {B e s n : Nat} {v : Value} {xs : List Value} (h : Off S w w') (hr : w.ownsRow B e s v n xs) (hS : ∀ k, v.ownBlock = some k → ¬ S k) : w'.ownsRow B e s v n xs := by
  have hlt := World.ownsRow.lt hr
  refine ⟨hr.1, ?_⟩
  rcases hr.2 with h2 | ⟨g, c, cur, hv, hB, hg, r⟩
  · exact .inl h2
  · subst hv
    exact .inr ⟨g, c, cur, rfl, hB, (h.block g (hlt g rfl).2 (hS g rfl)).trans hg, r⟩
theorem Off.map {S : Nat → Prop} {w w' : World} {P : Program} {k b n : Nat} {R : Value → Option (DataW Value × List MemPlace)} {D : DataW Value} (h : Off S w w') (ho : w.ownsMap P k R b n D) (hS : ¬ S b) : w'.ownsMap P k R b n D := by
  have hlt := ho.lt
  obtain ⟨es, clock, hb, r⟩ := ho
  exact ⟨es, clock, (h.block b hlt hS).trans hb, r⟩

/-- a row of bytes lies in a block of its type -/
theorem own_type {w : World} {B : Nat} {v : Value} {l : List UInt8} {g : Nat} (h : OwnB B v l w) (hg : v.ownBlock = some g) : ∃ cur, w.heap[g]? = some (.cells cur 5 (0, 0)) := by
  rcases h.2 with ⟨hv, _⟩ | ⟨g2, c2, cur, hv, _, hh, _⟩
  · rw [hv] at hg; cases hg
  · rw [hv] at hg
    have e3 : g2 = g := Option.some.inj (show some g2 = some g from hg)
    subst e3
    exact ⟨cur, hh⟩
/-- a block of cells that may be written -/
def Blk (w : World) (g : Nat) (cs : Array Value) (t : TypeId) : Prop := w.heap[g]? = some (.cells cs t (0, 0))
theorem Blk.new (w : World) (cs : Array Value) (t : TypeId) : Blk (w.alloc (.cells cs t)) w.heap.size cs t := heap_alloc_new _ _
theorem Blk.lt {w : World} {g : Nat} {cs : Array Value} {t : TypeId} (h : Blk w g cs t) : g < w.heap.size := (Array.getElem?_eq_some_iff.1 h).1
theorem Blk.cell {w : World} {g j : Nat} {cs : Array Value} {t : TypeId} {v : Value} (h : Blk w g cs t) (hj : cs[j]? = some v) : w.cell? ⟨g, j, none⟩ = some v := by rw [cell_of_row w g j _ _ _ h]; exact hj
theorem Blk.frz {w : World} {g : Nat} {cs : Array Value} {t : TypeId} (h : Blk w g cs t) (j : Nat) : w.frozen? ⟨g, j, none⟩ = false := frozen_of_row w g j _ _ h
theorem Blk.below {w w' : World} {g : Nat} {cs : Array Value} {t : TypeId} (h : Blk w g cs t) (hb : Below w.heap.size w w') : Blk w' g cs t := (hb.block g h.lt).trans h
theorem Blk.off {S : Nat → Prop} {w w' : World} {g : Nat} {cs : Array Value} {t : TypeId} (h : Blk w g cs t) (ho : Off S w w') (hS : ¬ S g) : Blk w' g cs t := (ho.block g h.lt hS).trans h
theorem Blk.set {w : World} {g j : Nat} {cs : Array Value} {t : TypeId} (h : Blk w g cs t) (v : Value) : Blk (w.setCell ⟨g, j, none⟩ v) g (cs.setIfInBounds j v) t := heap_setCell_same w g j _ _ _ h
theorem Blk.far {w : World} {g g2 j : Nat} {cs : Array Value} {t : TypeId} (h : Blk w g cs t) (hne : g ≠ g2) (v : Value) : Blk (w.setCell ⟨g2, j, none⟩ v) g cs t := (Below.heap_setCell w ⟨g2, j, none⟩ v g hne).trans h
/-- the box of a disk -/
def Box9 (w : World) (g : Nat) (m : Option Nat) (c : Nat) : Prop := w.heap[g]? = some (.cells #[.map m, .int .i64 ((c : Nat) : Int)] 60 (0, 0))
/-- the map of a disk -/
def Map9 (w : World) (m : Option Nat) (ps : List (Fil × Value)) : Prop :=
  match m with
  | none => ps = []
  | some b => w.ownsMap Tryd.prog 9 RH b ps.length (DD ps)
/-- a disk: all its blocks are blocks of which S holds -/
def PD (w : World) (S : Nat → Prop) (g : Nat) (l : List Fil) (c : Nat) : Prop :=
  ∃ (m : Option Nat) (ps : List (Fil × Value)), ps.map (·.1) = l ∧ S g ∧ Box9 w g m c ∧ (∀ b, m = some b → S b) ∧ Map9 w m ps ∧
    (∀ p ∈ ps, OwnB 0 p.2 p.1.b w ∧ ∀ k, p.2.ownBlock = some k → S k) ∧ ps.Pairwise (fun p q => ∀ k, p.2.ownBlock = some k → q.2.ownBlock ≠ some k) ∧
    Sorted9 l ∧ (∀ f ∈ l, Good9 f) ∧ ∀ k, S k → k < w.heap.size
theorem disk9_ne_u8 : (60 : TypeId) ≠ 5 := by decide
theorem Box9.lt {w : World} {g c : Nat} {m : Option Nat} (h : Box9 w g m c) : g < w.heap.size := (Array.getElem?_eq_some_iff.1 h).1
theorem Box9.cell0 {w : World} {g c : Nat} {m : Option Nat} (h : Box9 w g m c) : w.cell? ⟨g, 0, none⟩ = some (.map m) := by rw [cell_of_row w g 0 _ _ _ h]; rfl
theorem Box9.cell1 {w : World} {g c : Nat} {m : Option Nat} (h : Box9 w g m c) : w.cell? ⟨g, 1, none⟩ = some (.int .i64 ((c : Nat) : Int)) := by rw [cell_of_row w g 1 _ _ _ h]; rfl
theorem Box9.frz {w : World} {g c : Nat} {m : Option Nat} (h : Box9 w g m c) (j : Nat) : w.frozen? ⟨g, j, none⟩ = false := frozen_of_row w g j _ _ h
theorem Box9.off {S : Nat → Prop} {w w' : World} {g c : Nat} {m : Option Nat} (h : Box9 w g m c) (ho : Off S w w') (hS : ¬ S g) : Box9 w' g m c := (ho.block g h.lt hS).trans h
theorem Box9.below {w w' : World} {g c : Nat} {m : Option Nat} (h : Box9 w g m c) (hb : Below w.heap.size w w') : Box9 w' g m c := (hb.block g h.lt).trans h
theorem Box9.set0 {w : World} {g c : Nat} {m : Option Nat} (h : Box9 w g m c) (m' : Option Nat) : Box9 (w.setCell ⟨g, 0, none⟩ (.map m')) g m' c := by
  unfold Box9; rw [heap_setCell_same w g 0 _ _ _ h]; rfl
theorem Box9.set1 {w : World} {g c : Nat} {m : Option Nat} (h : Box9 w g m c) (c' : Nat) : Box9 (w.setCell ⟨g, 1, none⟩ (.int .i64 ((c' : Nat) : Int))) g m c' := by
  unfold Box9; rw [heap_setCell_same w g 1 _ _ _ h]; rfl
theorem Box9.ne_map {w : World} {g c b n : Nat} {m : Option Nat} {D : DataW Value} {P : Program} {k : TypeId} {R : Value → Option (DataW Value × List MemPlace)} (h : Box9 w g m c) (ho : w.ownsMap P k R b n D) : g ≠ b := by
  rintro rfl
  obtain ⟨es, clock, hb, _⟩ := ho
  unfold Box9 at h
  rw [h] at hb; cases hb
theorem blk_ne_map {w : World} {g n : Nat} {cs : Array Value} {t k : TypeId} {D : DataW Value} {P : Program} {R : Value → Option (DataW Value × List MemPlace)} (h : Blk w g cs t) (ho : w.ownsMap P k R g n D) : False := by
  obtain ⟨es, clock, hb, _⟩ := ho
  unfold Blk at h
  rw [h] at hb; cases hb
theorem Map9.off {S : Nat → Prop} {w w' : World} {m : Option Nat} {ps : List (Fil × Value)} (h : Map9 w m ps) (ho : Off S w w') (hS : ∀ b, m = some b → ¬ S b) : Map9 w' m ps := by
  cases m with
  | none => exact h
  | some b => exact ho.map h (hS b rfl)
theorem Map9.below {w w' : World} {m : Option Nat} {ps : List (Fil × Value)} (h : Map9 w m ps) (hb : Below w.heap.size w w') : Map9 w' m ps := h.off (Off.of_below (S := fun _ => False) hb) fun _ _ h => h
theorem PD.below {w w' : World} {S : Nat → Prop} {g : Nat} {l : List Fil} {c : Nat} (h : PD w S g l c) (hb : Below w.heap.size w w') : PD w' S g l c := by
  obtain ⟨m, ps, h1, h2, h3, h4, h5, h6, h7, h8, h9, h10⟩ := h
  exact ⟨m, ps, h1, h2, h3.below hb, h4, h5.below hb, fun p hp => ⟨(h6 p hp).1.below hb, (h6 p hp).2⟩, h7, h8, h9, fun k hk => Nat.lt_of_lt_of_le (h10 k hk) hb.size⟩
/-- a disk stands where none of its blocks is written -/
theorem PD.off {w w' : World} {S T : Nat → Prop} {g : Nat} {l : List Fil} {c : Nat} (h : PD w S g l c) (ho : Off T w w') (hT : ∀ k, S k → ¬ T k) : PD w' S g l c := by
  obtain ⟨m, ps, h1, h2, h3, h4, h5, h6, h7, h8, h9, h10⟩ := h
  exact ⟨m, ps, h1, h2, h3.off ho (hT g h2), h4, h5.off ho (fun b hb => hT b (h4 b hb)), fun p hp => ⟨ho.ownsRow (h6 p hp).1 (fun k hk => hT k ((h6 p hp).2 k hk)), (h6 p hp).2⟩, h7, h8, h9, fun k hk => Nat.lt_of_lt_of_le (h10 k hk) ho.size⟩
theorem PD.drew {w : World} {S : Nat → Prop} {g : Nat} {l : List Fil} {c : Nat} (h : PD w S g l c) : PD w.drew S g l c := h
theorem PD.lt {w : World} {S : Nat → Prop} {g : Nat} {l : List Fil} {c : Nat} (h : PD w S g l c) : ∀ k, S k → k < w.heap.size := by
  obtain ⟨m, ps, h1, h2, h3, h4, h5, h6, h7, h8, h9, h10⟩ := h
  exact h10
theorem PD.good {w : World} {S : Nat → Prop} {g : Nat} {l : List Fil} {c : Nat} (h : PD w S g l c) : Sorted9 l ∧ ∀ f ∈ l, Good9 f := by
  obtain ⟨m, ps, h1, h2, h3, h4, h5, h6, h7, h8, h9, h10⟩ := h
  exact ⟨h8, h9⟩
/-- more blocks may be called a disk's -/
theorem PD.more {w : World} {S T : Nat → Prop} {g : Nat} {l : List Fil} {c : Nat} (h : PD w S g l c) (hT : ∀ k, S k → T k) (hlt : ∀ k, T k → k < w.heap.size) : PD w T g l c := by
  obtain ⟨m, ps, h1, h2, h3, h4, h5, h6, h7, h8, h9, h10⟩ := h
  exact ⟨m, ps, h1, hT g h2, h3, fun b hb => hT b (h4 b hb), h5, fun p hp => ⟨(h6 p hp).1, fun k hk => hT k ((h6 p hp).2 k hk)⟩, h7, h8, h9, hlt⟩
theorem Tryd.lawStr9 : Maps.Keyed Tryd.prog 9 := Maps.string_keyed Tryd.underlying9
theorem Tryd.zeroFile9 (w : World) : (zeroValue 78).run Tryd.prog w = .ok (.agg #[.slice none 0 0, .int .i64 0, .bool false]) w := by kernel_rfl
theorem key9 {n : ByteArray} (h : n.size ≤ maxLen) : keyOf Tryd.prog 9 (.string n) = some (.string n.data.toList) := WideMaps.keyOf_string_mk Tryd.underlying9 h
/-- what a file's cells hold -/
def fileV (p : Fil × Value) : Value := .agg #[p.2, .int .i64 ((p.1.fast : Nat) : Int), .bool p.1.there]
/-- what the map answers of a name: files that are not there read as nought -/
def lookV (n : ByteArray) (ps : List (Fil × Value)) : Value := match ps.find? (fun p => decide (p.1.name = n)) with
  | some p => fileV p
  | none => .agg #[.slice none 0 0, .int .i64 0, .bool false]
theorem look9 {w : World} {m : Option Nat} {ps : List (Fil × Value)} {n : ByteArray} (c : Bool) (h : Map9 w m ps) (hn : n.size ≤ maxLen) :
    (Instr.lookup 58 (.map m) (.string n) c).run Tryd.prog w = .ok (if c then .tuple #[lookV n ps, .bool (ps.any fun p => decide (p.1.name = n))] else lookV n ps) w := by
  cases m with
  | none =>
    have h : ps = [] := h
    subst h
    rw [Maps.look_nil c Tryd.lawStr9 Tryd.underlying58 (Tryd.zeroFile9 w) (key9 hn)]; rfl
  | some b =>
    have h : w.ownsMap Tryd.prog 9 RH b ps.length (DD ps) := h
    obtain ⟨es, clock, hb, F, _, hD⟩ := h
    rcases Maps.fit_look c Tryd.lawStr9 Tryd.underlying58 (Tryd.zeroFile9 w) hb F (key9 hn) with ⟨hr, _, hat⟩ | ⟨e0, y, _, _, hr, hy, hat, _⟩
    · rw [← hD] at hat
      have h1 := hat (.held (.bool true))
      have h2 := hat (.held (.bool false))
      rw [dd_at] at h1 h2
      have hf : ps.find? (fun p => decide (p.1.name = n)) = none := by
        cases hf : ps.find? (fun p => decide (p.1.name = n)) with
        | none => rfl
        | some p => rw [hf] at h1 h2; simp only at h1 h2; rw [h1] at h2; cases h2
      have ha : (ps.any fun p => decide (p.1.name = n)) = false := List.any_eq_false.2 (List.find?_eq_none.1 hf)
      rw [hr]; unfold lookV; rw [hf, ha]
    · rw [← hD] at hat
      have h1 := hat (.held (.bool true))
      have h2 := hat (.held (.bool false))
      rw [dd_at] at h1 h2
      cases hf : ps.find? (fun p => decide (p.1.name = n)) with
      | none => rw [hf] at h1 h2; simp only at h1 h2; rw [← h1] at h2; cases h2
      | some p =>
        rw [hf] at h1
        simp only at h1
        have ha : (ps.any fun p => decide (p.1.name = n)) = true := List.any_eq_true.2 ⟨p, List.mem_of_find?_eq_some hf, by simpa using List.find?_some hf⟩
        have hv : e0.val = fileV p := by
          have : (DataW.held e0.val : DataW Value) = y.1 := by rw [← (Option.some.inj hy)]
          rw [← h1] at this
          injection this
        rw [hr]; unfold lookV; rw [hf, ha, hv]
end Go.Proofs.YtbiecoifeeikpaaDoor
/-
  Entries in memory: rows that read as entries, rows of entries of one's own; appends onto these; what is cleared behind them.
  There are no conditions beyond those that each lemma names.
-/
set_option linter.unusedSimpArgs false
set_option linter.unusedVariables false
namespace Go.Proofs.YtbiecoifeeikpaaDoor
open Go.RowKit Go.Deep
set_option maxRecDepth 100000

def Ent.cs (e : Ent) : List Value := [.int .i64 e.ix, .int .i64 e.et, .int .i64 e.kd, .string e.data]
theorem ents_len (L : List Ent) : (L.flatMap Ent.cs).length = L.length * 4 := by
  induction L with
  | nil => rfl
  | cons x t ih =>
    have h3 : (Ent.cs x).length = 4 := rfl
    rw [List.flatMap_cons, List.length_append, ih, h3, List.length_cons]; omega
theorem ent_one (e : Ent) : ∀ v ∈ e.cs, v.oneCell' = true := by
  intro v hv
  simp only [Ent.cs, List.mem_cons, List.not_mem_nil, or_false] at hv
  rcases hv with rfl | rfl | rfl | rfl <;> rfl
theorem ents_one (L : List Ent) : ∀ v ∈ L.flatMap Ent.cs, v.oneCell' = true := by
  intro v hv
  obtain ⟨e, _, he⟩ := List.mem_flatMap.1 hv
  exact ent_one e v he
theorem eflat_at : ∀ (L : List Ent) (k : Nat) (h : k < L.length) (j : Nat) (v : Value), (Ent.cs L[k])[j]? = some v → (L.flatMap Ent.cs)[k * 4 + j]? = some v
  | x :: t, 0, _, j, v, hv => by
    have hj : j < (Ent.cs x).length := (List.getElem?_eq_some_iff.1 hv).1
    rw [List.flatMap_cons, Nat.zero_mul, Nat.zero_add, List.getElem?_append_left hj]; exact hv
  | x :: t, k + 1, h, j, v, hv => by
    have h3 : (Ent.cs x).length = 4 := rfl
    rw [List.flatMap_cons, List.getElem?_append_right (by omega), h3, show (k + 1) * 4 + j - 4 = k * 4 + j by omega]
    exact eflat_at t k (by simpa using h) j v hv
/-- a slice that reads as entries, in a block of which N holds -/
def Ens (N : Nat → Prop) (w : World) (v : Value) (L : List Ent) : Prop :=
  ∃ A c, v = .slice A L.length c ∧ L.length ≤ c ∧ (0 < L.length → ∃ g o, A = some ⟨g, o, Option.none⟩ ∧ N g ∧ ∀ k (h : k < L.length), w.rangeAt g (o + k * 4) L[k].cs)
theorem Ens.slice {N : Nat → Prop} {w : World} {v : Value} {L : List Ent} (h : Ens N w v L) : ∃ A c, v = .slice A L.length c ∧ L.length ≤ c := by
  obtain ⟨A, c, h1, h2, _⟩ := h; exact ⟨A, c, h1, h2⟩
theorem Ens.nil (N : Nat → Prop) (w : World) : Ens N w (.slice none 0 0) [] := ⟨none, 0, rfl, Nat.le_refl _, fun h => absurd h (by simp)⟩
theorem Ens.keep {N : Nat → Prop} {w w' : World} {v : Value} {L : List Ent} (h : Ens N w v L) (hk : ∀ p : Addr, N p.block → p.block < w.heap.size → w'.cell? p = w.cell? p) : Ens N w' v L := by
  obtain ⟨A, c, h1, h2, h3⟩ := h
  refine ⟨A, c, h1, h2, fun h => ?_⟩
  obtain ⟨g, o, hA, hN, hc⟩ := h3 h
  refine ⟨g, o, hA, hN, fun k hk' j z hj => ?_⟩
  have := hc k hk' j z hj
  rw [← this]
  exact hk _ hN (cell_lt this)
theorem Ens.mono {N M : Nat → Prop} {w : World} {v : Value} {L : List Ent} (h : Ens N w v L) (hM : ∀ g, N g → g < w.heap.size → M g) : Ens M w v L := by
  obtain ⟨A, c, h1, h2, h3⟩ := h
  refine ⟨A, c, h1, h2, fun h => ?_⟩
  obtain ⟨g, o, hA, hN, hc⟩ := h3 h
  refine ⟨g, o, hA, hM g hN ?_, hc⟩
  exact cell_lt (hc 0 h 0 _ rfl)
theorem Ens.below {N : Nat → Prop} {w w' : World} {v : Value} {L : List Ent} (h : Ens N w v L) (hb : Below w.heap.size w w') : Ens N w' v L := h.keep fun _ _ hp => hb.cell hp
theorem Ens.under {B C : Nat} {w w' : World} {v : Value} {L : List Ent} (h : Ens (fun g => g < B) w v L) (hb : Below C w w') (hC : B ≤ C) : Ens (fun g => g < B) w' v L := h.keep fun _ hp _ => hb.cell (Nat.lt_of_lt_of_le hp hC)
theorem Ens.off {S : Nat → Prop} {w w' : World} {v : Value} {L : List Ent} (h : Ens (fun g => ¬ S g) w v L) (ho : Off S w w') : Ens (fun g => ¬ S g) w' v L := h.keep fun _ hp hl => ho.cell hl hp
theorem Ens.at_ {N : Nat → Prop} {w : World} {n c : Nat} {A : Option Addr} {L : List Ent} (h : Ens N w (.slice A n c) L) (k : Nat) (hk : k < L.length) : ∃ g o, A = some ⟨g, o, Option.none⟩ ∧ N g ∧ g < w.heap.size ∧ w.rangeAt g (o + k * 4) L[k].cs := by
  obtain ⟨A', c', h1, _, h3⟩ := h
  injection h1 with e1 e2 e3
  subst e1
  obtain ⟨g, o, hA, hN, hc⟩ := h3 (by omega)
  exact ⟨g, o, hA, hN, cell_lt (hc k hk 0 _ rfl), hc k hk⟩
theorem Ens.len {N : Nat → Prop} {w : World} {n c : Nat} {A : Option Addr} {L : List Ent} (h : Ens N w (.slice A n c) L) : n = L.length ∧ n ≤ c := by
  obtain ⟨A', c', h1, h2, _⟩ := h
  injection h1 with e1 e2 e3
  subst e2; subst e3
  exact ⟨rfl, h2⟩
theorem Ens.take {N : Nat → Prop} {w : World} {n c : Nat} {A : Option Addr} {L : List Ent} (h : Ens N w (.slice A n c) L) (j : Nat) (hj : j ≤ L.length) : Ens N w (.slice A j c) (L.take j) := by
  obtain ⟨A', c', h1, h2, h3⟩ := h
  injection h1 with e1 e2 e3
  subst e1; subst e3
  have hl : (L.take j).length = j := by rw [List.length_take]; omega
  refine ⟨A, c, by rw [hl], by omega, fun h0 => ?_⟩
  rw [hl] at h0
  obtain ⟨g, o, hA, hN, hc⟩ := h3 (by omega)
  refine ⟨g, o, hA, hN, fun k hk => ?_⟩
  rw [hl] at hk
  rw [List.getElem_take]
  exact hc k (by omega)
/-- the part from j on -/
theorem Ens.drop {N : Nat → Prop} {w : World} {n c : Nat} {A : Option Addr} {L : List Ent} (h : Ens N w (.slice A n c) L) (j : Nat) (hj : j ≤ L.length) : Ens N w (.slice (if c = j then A else A.map (·.add (j * 4))) (L.length - j) (c - j)) (L.drop j) := by
  obtain ⟨A', c', h1, h2, h3⟩ := h
  injection h1 with e1 e2 e3
  subst e1; subst e3
  have hl : (L.drop j).length = L.length - j := List.length_drop
  refine ⟨_, _, by rw [hl], by omega, fun h0 => ?_⟩
  rw [hl] at h0
  obtain ⟨g, o, hA, hN, hc⟩ := h3 (by omega)
  subst hA
  rw [if_neg (by omega)]
  refine ⟨g, o + j * 4, add_lit_10 g o (j * 4), hN, fun k hk => ?_⟩
  rw [hl] at hk
  rw [List.getElem_drop, show o + j * 4 + k * 4 = o + (j + k) * 4 by omega]
  exact hc (j + k) (by omega)
/-- a row of entries of one's own -/
def OwnEn (B : Nat) (v : Value) (L : List Ent) (w : World) : Prop := w.ownsRow B 41 4 v L.length (L.flatMap Ent.cs)
theorem OwnEn.nil (B : Nat) (w : World) : OwnEn B (.slice none 0 0) [] w := World.ownsRow_nil _ _ _ _
theorem OwnEn.below {B : Nat} {v : Value} {L : List Ent} {w w' : World} (h : OwnEn B v L w) (hb : Below w.heap.size w w') : OwnEn B v L w' := ownsRow_below h hb
theorem OwnEn.down {B C : Nat} {v : Value} {L : List Ent} {w : World} (h : OwnEn C v L w) (hB : B ≤ C) : OwnEn B v L w := ownsRow_down h hB
theorem OwnEn.slice {B : Nat} {v : Value} {L : List Ent} {w : World} (h : OwnEn B v L w) : ∃ A c, v = .slice A L.length c := own_slice h
theorem OwnEn.lt {B : Nat} {v : Value} {L : List Ent} {w : World} (h : OwnEn B v L w) : ∀ k, v.ownBlock = some k → B ≤ k ∧ k < w.heap.size := World.ownsRow.lt h
theorem OwnEn.off {S : Nat → Prop} {w w' : World} {B : Nat} {v : Value} {L : List Ent} (h : OwnEn B v L w) (ho : Off S w w') (hS : ∀ k, v.ownBlock = some k → ¬ S k) : OwnEn B v L w' := ho.ownsRow h hS
theorem Ens.of_own {B : Nat} {v : Value} {L : List Ent} {w : World} (h : OwnEn B v L w) : Ens (fun g => v.ownBlock = some g) w v L := by
  have hlt := OwnEn.lt h
  obtain ⟨A, c, rfl⟩ := h.slice
  have hc := fun (g : Nat) (hg : (Value.slice A L.length c).ownBlock = some g) => World.ownsRow.cells h hg
  rcases h.2 with ⟨hv, h0⟩ | ⟨g, c', cur, hv, hB, _, hnc, _⟩
  · injection hv with e1 e2 e3
    subst e1
    exact ⟨none, c, rfl, by omega, fun h => absurd h (by omega)⟩
  · injection hv with e1 _ e3
    subst e1; subst e3
    refine ⟨_, _, rfl, hnc, fun _ => ⟨g, 0, rfl, rfl, fun k hk j z hj => ?_⟩⟩
    have h3 := hc g rfl (k * 4 + j) z (eflat_at L k hk j z hj)
    rw [Addr.add_mid] at h3
    rw [← h3]; congr 2; omega
theorem eflat_take (L : List Ent) (j : Nat) : (L.take j).flatMap Ent.cs = (L.flatMap Ent.cs).take (j * 4) := by
  induction L generalizing j with
  | nil => simp
  | cons x t ih =>
    cases j with
    | zero => simp
    | succ j =>
      have h3 : (Ent.cs x).length = 4 := rfl
      rw [List.take_succ_cons, List.flatMap_cons, List.flatMap_cons, ih j, List.take_append (i := (j + 1) * 4), List.take_of_length_le (l := x.cs) (by omega)]
      congr 2; rw [h3]; omega
/-- the beginning of a row of one's own -/
theorem OwnEn.take {B n c j : Nat} {A : Option Addr} {L : List Ent} {w : World} (h : OwnEn B (.slice A n c) L w) (hj : j ≤ L.length) : OwnEn B (.slice A j c) (L.take j) w := by
  have hl : (L.take j).length = j := by rw [List.length_take]; omega
  refine ⟨by rw [ents_len], ?_⟩
  rw [hl, eflat_take]
  rcases h.2 with ⟨hv, h0⟩ | ⟨g, c', cur, hv, hB, hg, hnc, hm, hs, hx⟩
  · injection hv with e1 e2 e3
    subst e1; subst e2; subst e3
    exact .inl ⟨by rw [show j = 0 by omega], by omega⟩
  · injection hv with e1 e2 e3
    subst e1; subst e2; subst e3
    refine .inr ⟨g, c, cur, rfl, hB, hg, by omega, hm, hs, ?_⟩
    rw [← hx, List.take_take, Nat.min_eq_left (by omega)]
theorem Tryd.infoEn : (Tryd.prog.info? 41).map (fun i => (i.zero, i.size, i.bytes)) = some (some (.agg #[.int .i64 0, .int .i64 0, .int .i64 0, .string ⟨#[]⟩]), 4, 40) := by kernel_rfl
/-- entries appended onto a row of one's own -/
theorem run_append_En (w : World) (B : Nat) (v : Value) (L M : List Ent) (ty : TypeId) (a : Addr) (n c : Nat) (hown : OwnEn B v L w) (N : Nat → Prop) (hM : Ens N w (.slice (some a) n c) M) (hl : L.length + M.length ≤ 1050000) (hB : B ≤ w.heap.size) :
    ∃ v' w', (Builtin.append_ #[22, 22] ty #[v, .slice (some a) n c]).run Tryd.prog w = .ok v' w' ∧ OwnEn B v' (L ++ M) w' ∧ Grew v w v' w' ∧ Below B w w' := by
  obtain ⟨iO, hiO, hzO0, hzO1, hzO2⟩ := info_parts Tryd.infoEn
  obtain ⟨rfl, _⟩ := hM.len
  obtain ⟨A', c', hv, hc, hx⟩ := hM
  injection hv with e1 _ e3
  subst e1; subst e3
  have hlm := ents_len M
  have hgr := fun (w' : World) (hg : w.grownBy w' v.ownBlock) => (Below.refl B w).grown hg hB (fun g hg => (World.ownsRow.lt hown g hg).1)
  obtain ⟨v', w', hr, h2, h3, _, h5⟩ := run_append_own_at (P := Tryd.prog) w B 22 ty 41 iO _ 4 40 Tryd.underlying22 hiO hzO0 hzO1 hzO2 rfl (by decide) v L.length _ hown a M.length c (M.flatMap Ent.cs) hlm
    (by
      intro j z hj
      have hjl : j < M.length * 4 := by rw [← hlm]; exact (List.getElem?_eq_some_iff.1 hj).1
      have hq : j / 4 < M.length := by omega
      obtain ⟨g, o, e1, _, hcs⟩ := hx (by omega)
      injection e1 with e1
      subst e1
      have hm : (Ent.cs M[j / 4])[j % 4]? = some z := by
        have hlt : j % 4 < (Ent.cs M[j / 4]).length := by show j % 4 < 4; omega
        have := eflat_at M (j / 4) hq (j % 4) _ (List.getElem?_eq_getElem hlt)
        rw [show j / 4 * 4 + j % 4 = j by omega, hj] at this
        rw [List.getElem?_eq_getElem hlt]; exact this.symm
      have := hcs (j / 4) hq (j % 4) z hm
      rw [Addr.add_mid, ← this]
      congr 2; omega) (ents_one M) (by unfold maxLen; omega) (by omega) hB
  refine ⟨v', w', hr, ?_, ⟨h3, h5⟩, hgr w' h3⟩
  unfold OwnEn
  rw [List.length_append, List.flatMap_append]
  exact h2
end Go.Proofs.YtbiecoifeeikpaaDoor
/-
  The reference's Decode of a record answers what the plain function says.
  The bytes are there in memory, at most 1,000,000.
-/
set_option linter.unusedSimpArgs false
set_option linter.unusedVariables false
namespace Go.Proofs.YtbiecoifeeikpaaDoor
open Go.RowKit
set_option maxRecDepth 100000

/-- what Decode answers -/
def GotQ10 (r : Rcd × Nat × Nat) (w : World) (e : Ending) (w' : World) : Prop := e = .returned (.tuple #[r.1.val, .int .i64 (r.2.1 : Nat), .int .i64 (r.2.2 : Nat)]) ∧ Below w.heap.size w w'
theorem ownI_at {B : Nat} {v : Value} {l : List Int} {w : World} (h : OwnI B v l w) (hl : 0 < l.length) : ∃ g c, v = .slice (some ⟨g, 0, none⟩) l.length c ∧ l.length ≤ c ∧ g < w.heap.size ∧ B ≤ g ∧ ∀ j (hj : j < l.length), w.cell? ⟨g, j, none⟩ = some (.int .i64 l[j]) := by
  unfold OwnI at h
  have hc := fun (g : Nat) (hg : v.ownBlock = some g) => World.ownsRow.cells h hg
  have hlt := World.ownsRow.lt h
  rcases h.2 with ⟨rfl, h0⟩ | ⟨g, c, cur, rfl, hB, _, hnc, _⟩
  · omega
  · refine ⟨g, c, rfl, hnc, (hlt g rfl).2, hB, fun k hk => ?_⟩
    have h2 := hc g rfl k (.int .i64 l[k]) (by simp [hk])
    have e1 : (⟨g, 0, Option.none⟩ : Addr).add k = ⟨g, k, Option.none⟩ := by unfold Addr.add; split <;> simp_all
    rw [e1] at h2; exact h2
theorem byt_sets10 {w : World} {B g : Nat} {v a0 a1 a2 a3 a4 a5 a6 : Value} {l : List UInt8} (h : Byt w B v l) (hB : B ≤ g) : Byt (((((((w.setCell ⟨g, 0, none⟩ a0).setCell ⟨g, 1, none⟩ a1).setCell ⟨g, 2, none⟩ a2).setCell ⟨g, 3, none⟩ a3).setCell ⟨g, 4, none⟩ a4).setCell ⟨g, 5, none⟩ a5).setCell ⟨g, 6, none⟩ a6) B v l :=
  byt_set10 (byt_set10 (byt_set10 (byt_set10 (byt_set10 (byt_set10 (byt_set10 h hB) hB) hB) hB) hB) hB) hB
theorem conv_take10 {w : World} {B g o m cap : Nat} {l : List UInt8} (n : Nat) (h : Byt w B (.slice (some ⟨g, o, none⟩) m cap) l) (hn : n ≤ m) : (convert 46 9 (.slice (some ⟨g, o, none⟩) n cap)).run Tryd.prog w = .ok (.string ⟨(l.take n).toArray⟩) w := by
  obtain ⟨A, c, hv, _, hc⟩ := h
  injection hv with e1 e2 e3
  subst e2
  by_cases h0 : 0 < l.length
  · obtain ⟨g', o', e4, _, hcs⟩ := hc h0
    rw [e4] at e1
    injection e1 with e5
    injection e5 with e6 e7
    subst e6; subst e7
    exact conv_cells w g o cap l n hn hcs
  · have : l = [] := List.eq_nil_of_length_eq_zero (by omega)
    subst this
    obtain rfl : n = 0 := by simpa using hn
    exact conv_zero w g o cap
theorem text_parts {s : ByteArray} {l : List UInt8} (h : s.data.toList = l) : s = ⟨l.toArray⟩ := by
  apply ByteArray.ext; apply Array.toList_inj.1; rw [h]
end Go.Proofs.YtbiecoifeeikpaaDoor
/-
  Stage 10's contracts as laws hold them: values written out, what is answered by a letter.
  Bytes are at most 1,000,000; package crc's table lies as it was laid.
-/
set_option linter.unusedSimpArgs false
set_option linter.unusedVariables false
namespace Go.Proofs.YtbiecoifeeikpaaDoor
open Go.RowKit
set_option maxRecDepth 100000

theorem wenc_v (hd : Bool) (ht hv ix et kd : Int) (dt : ByteArray) (m : List UInt8) (w : World) (hs : dt.size ≤ 1050000) (hT : Tbl w) (hm : encR10 ⟨hd, ht, hv, ⟨ix, et, kd, dt⟩⟩ = m) :
    Calls Tryd.prog 30 #[.agg #[.bool hd, .int .i64 ht, .int .i64 hv, .int .i64 ix, .int .i64 et, .int .i64 kd, .string dt]] w (Made m w) := by
  rw [← hm]; exact wenc10_any ⟨hd, ht, hv, ⟨ix, et, kd, dt⟩⟩ w hs hT
theorem wmay_v (hd : Bool) (ht hv ix et kd : Int) (dt : ByteArray) (b : Bool) (w : World) (hs : dt.size ≤ 1050000) (hm : may10 ⟨hd, ht, hv, ⟨ix, et, kd, dt⟩⟩ = b) :
    Calls Tryd.prog 50 #[.agg #[.bool hd, .int .i64 ht, .int .i64 hv, .int .i64 ix, .int .i64 et, .int .i64 kd, .string dt]] w (Bl b w) := by
  rw [← hm]; exact wmay10_any ⟨hd, ht, hv, ⟨ix, et, kd, dt⟩⟩ w hs
theorem snap_v (ix st : Int) (cf dt : ByteArray) (m : List UInt8) (w : World) (hc : cf.size ≤ 1050000) (hs : dt.size ≤ 1050000) (hT : Tbl w) (hm : snapB10 ⟨ix, st, cf, dt⟩ = m) :
    Calls Tryd.prog 57 #[.agg #[.int .i64 ix, .int .i64 st, .string cf, .string dt]] w (Made m w) := by
  rw [← hm]; exact wsnap10_any ⟨ix, st, cf, dt⟩ w hc hs hT
/-- what Decode answers, its record's cells written out -/
theorem wdec_v (u : Value) (B : Nat) (l : List UInt8) (w : World) (h : Byt w B u l) (hB : B ≤ w.heap.size) (hl : l.length ≤ 1050000) (hT : Tbl w) (hd : Bool) (ht hv ix et kd : Int) (dt : ByteArray) (n e : Nat) (hr : decR10 l = (⟨hd, ht, hv, ⟨ix, et, kd, dt⟩⟩, n, e)) :
    Calls Tryd.prog 65 #[u] w fun x w' => x = .returned (.tuple #[.agg #[.bool hd, .int .i64 ht, .int .i64 hv, .int .i64 ix, .int .i64 et, .int .i64 kd, .string dt], .int .i64 n, .int .i64 e]) ∧ Below w.heap.size w w' := by
  obtain ⟨A, c, rfl⟩ := byt_slice h
  have := wdec10_any A c B l w h hB hl hT
  rw [hr] at this
  exact this
theorem wget_v (u : Value) (B : Nat) (l : List UInt8) (w : World) (h : Byt w B u l) (hB : B ≤ w.heap.size) (hl : l.length ≤ 1050000) (hT : Tbl w) (ix st : Int) (cf dt : ByteArray) (n e : Nat) (hr : getS10 l = (⟨ix, st, cf, dt⟩, n, e)) :
    Calls Tryd.prog 41 #[u] w fun x w' => x = .returned (.tuple #[.agg #[.int .i64 ix, .int .i64 st, .string cf, .string dt], .int .i64 n, .int .i64 e]) ∧ Below w.heap.size w w' := by
  have := wgetS_any u B l w h hB hl hT
  rw [hr] at this
  exact this
theorem own_nz {B : Nat} {v : Value} {l : List UInt8} {w : World} (h : OwnB B v l w) : l = [] → v = .slice none 0 0 ∨ ∃ g o c, v = .slice (some ⟨g, o, none⟩) 0 c := fun e => by
  subst e
  rcases h.2 with ⟨rfl, _⟩ | ⟨g, c, cur, rfl, _⟩
  · exact .inl rfl
  · exact .inr ⟨g, 0, c, rfl⟩
/-- Scan of a row of one's own -/
theorem wscan_v (v : Value) (B : Nat) (l : List UInt8) (w : World) (h : OwnB B v l w) (hl : l.length ≤ 1050000) (hT : Tbl w) (L : List Rcd) (u e : Nat) (hS : ScR l L u e) :
    Calls Tryd.prog 42 #[v] w fun x w' => ∃ A c, x = .returned (.tuple #[.slice A L.length c, .int .i64 u, .bool (e == 2)]) ∧ OwnRc 76 w.heap.size (.slice A L.length c) L w' ∧ Below w.heap.size w w' := by
  refine (Swscan_any v _ l w (Byt.of_own h) (Nat.le_refl _) hl hT (own_nz h)).mono ?_
  rintro x w' ⟨L', u', e', v', hs, rfl, ho, hb⟩
  obtain ⟨rfl, rfl, rfl⟩ := ScR.two hs hS
  obtain ⟨A, c, rfl⟩ := ho.slice
  exact ⟨A, c, rfl, ho, hb⟩
end Go.Proofs.YtbiecoifeeikpaaDoor
/-
  A function returns what the plain functions say: SClone.
-/
set_option linter.unusedSimpArgs false
set_option linter.unusedVariables false
namespace Go.Proofs.YtbiecoifeeikpaaDoor
open Go.RowKit
set_option maxRecDepth 100000

theorem clone_any (s : ByteArray) (w : World) (hs : s.size ≤ 281474976710656) : Calls Tryd.prog 49 #[.string s] w fun e w' => e = .returned (.string s) ∧ Below w.heap.size w w' := by
  go_enter Tryd.func49, Tryd.ntmps49
  go_wp2_with (go_at_call 71; refine (Tryd.stringslite_Clone s w hs).mono ?_; rintro e w' ⟨rfl, hb⟩)
  go_ret
  exact ⟨rfl, hb⟩
end Go.Proofs.YtbiecoifeeikpaaDoor
/-
  Package keep's small functions on a state: its last Index, which Index may come, a Term; copies.
  There are no conditions beyond those that each lemma names.
-/
set_option linter.unusedSimpArgs false
set_option linter.unusedVariables false
namespace Go.Proofs.YtbiecoifeeikpaaDoor
open Go.RowKit Go.Deep
set_option maxRecDepth 100000

/-- a state's cells -/
def Stc (w : World) (g o : Nat) (k : Kst) (v : Value) : Prop := w.rangeAt g o [.int .i64 k.ht, .int .i64 k.hv, .int .i64 k.s.ix, .int .i64 k.s.st, .string k.s.conf, .string k.s.data, v]
set_option maxHeartbeats 400000 in
theorem klast_any (g o : Nat) (ix : Int) (A : Option Addr) (n c : Nat) (w : World) (h2 : w.cell? ⟨g, o + 2, none⟩ = some (.int .i64 ix)) (h6 : w.cell? ⟨g, o + 6, none⟩ = some (.slice A n c)) (h0 : 0 ≤ ix ∧ ix ≤ 1099511627776) (hn : n ≤ 1050000) :
    Calls Tryd.prog 66 #[.pointer (some ⟨g, o, none⟩)] w fun e w' => e = .returned (.int .i64 (ix + (n : Int))) ∧ Below w.heap.size w w' := by
  go_enter Tryd.func66, Tryd.ntmps66
  go_wp2
  go_quiet (fail)
  go_wp2
  go_ret
  exact ⟨rfl, ⟨rfl, rfl, rfl, Nat.le_refl _, fun _ _ => rfl⟩⟩
set_option maxHeartbeats 400000 in
theorem kfits_any (g o : Nat) (ix i : Int) (A : Option Addr) (n c : Nat) (w : World) (h2 : w.cell? ⟨g, o + 2, none⟩ = some (.int .i64 ix)) (h6 : w.cell? ⟨g, o + 6, none⟩ = some (.slice A n c)) (h0 : 0 ≤ ix ∧ ix ≤ 1099511627776) (hn : n ≤ 1050000) (b : Bool) (hb : (decide (ix < i) && decide (i ≤ ix + (n : Int) + 1)) = b) :
    Calls Tryd.prog 44 #[.pointer (some ⟨g, o, none⟩), .int .i64 i] w fun e w' => e = .returned (.bool b) ∧ Below w.heap.size w w' := by
  subst hb
  go_enter Tryd.func44, Tryd.ntmps44
  by_cases h1 : ix < i
  · go_wp2_with fail
    refine (klast_any g o ix A n c w h2 h6 h0 hn).mono ?_
    rintro e w1 ⟨rfl, hb1⟩
    go_wp2
    go_ret
    exact ⟨by simp [h1], hb1⟩
  · go_wp2
    go_ret
    exact ⟨by rw [show decide (ix < i) = false from decide_eq_false (by omega)]; rfl, Below.refl _ _⟩
set_option maxHeartbeats 400000 in
theorem kcopySnap_any (ix st : Int) (cf dt : ByteArray) (w : World) (hc : cf.size ≤ 1050000) (hd : dt.size ≤ 1050000) :
    Calls Tryd.prog 56 #[.agg #[.int .i64 ix, .int .i64 st, .string cf, .string dt]] w fun e w' => e = .returned (.agg #[.int .i64 ix, .int .i64 st, .string cf, .string dt]) ∧ Below w.heap.size w w' := by
  go_enter Tryd.func56, Tryd.ntmps56
  go_wp2_with fail
  obtain ⟨b, hb⟩ : ∃ b, w.heap.size = b := ⟨_, rfl⟩
  obtain ⟨W, hW⟩ : ∃ W, (w.alloc (.cells #[.int .i64 ix, .int .i64 st, .string cf, .string dt] 33)).alloc (.cells #[.int .i64 0, .int .i64 0, .string ⟨#[]⟩, .string ⟨#[]⟩] 33) = W := ⟨_, rfl⟩
  have hbW : Below b w W := by rw [← hW, ← hb]; exact below_two _ _ _
  have hx : Rt W b 33 [.int .i64 ix, .int .i64 st, .string cf, .string dt] := by
    rw [← hW, ← hb]; exact Rt.below (Rt.new w _ _) (below_new _ _)
  have hy : Rt W (b + 1) 33 [.int .i64 0, .int .i64 0, .string ⟨#[]⟩, .string ⟨#[]⟩] := by
    rw [← hW, ← hb]; exact Rt.new_at _ _ _ _ (by simp)
  rw [hW, hb]
  clear hW
  refine (clone_any cf W (by omega)).mono ?_
  rintro e k1 ⟨rfl, hb1⟩
  have hx1 := hx.below hb1
  have hy1 := hy.below hb1
  have hB1 := hbW.trans (hb1.mono (Nat.le_trans (by omega) hbW.size))
  clear hx hy hbW hb1
  have c0 := hx1.cell (j := 2) rfl
  have c1 := hx1.cell (j := 3) rfl
  have f0 := hx1.frz 2
  go_wp2_with fail
  have hx2 := hx1.set 2 (.string cf)
  have hy2 := hy1.other (g' := b) 2 (.string cf) (by omega)
  obtain ⟨W2, hW2⟩ : ∃ W2, k1.setCell ⟨b, 2, none⟩ (.string cf) = W2 := ⟨_, rfl⟩
  have hB2 : Below b w W2 := by rw [← hW2]; exact hB1.setCell (Nat.le_refl _) _
  rw [hW2] at hx2 hy2 ⊢
  clear hW2 hx1 hy1 hB1 c0 c1 f0
  refine (clone_any dt W2 (by omega)).mono ?_
  rintro e k2 ⟨rfl, hb2⟩
  have hx3 := hx2.below hb2
  have hy3 := hy2.below hb2
  have hB3 := hB2.trans (hb2.mono (Nat.le_trans (by omega) hB2.size))
  clear hx2 hy2 hB2 hb2
  have c0 := hx3.cell (j := 0) rfl
  have c1 := hx3.cell (j := 1) rfl
  have c2 := hx3.cell (j := 2) rfl
  have c3 := hx3.cell (j := 3) rfl
  have f3 := hx3.frz 3
  have d0 := hy3.cell (j := 0) rfl
  have d1 := hy3.cell (j := 1) rfl
  have d2 := hy3.cell (j := 2) rfl
  have d3 := hy3.cell (j := 3) rfl
  have e0 := hy3.frz 0
  have e1 := hy3.frz 1
  have e2 := hy3.frz 2
  have e3 := hy3.frz 3
  have hB4 := ((((hB3.setCell (p := ⟨b, 3, none⟩) (Nat.le_refl b) (.string dt)).setCell (p := ⟨b + 1, 0, none⟩) (Nat.le_succ b) (.int .i64 ix)).setCell (p := ⟨b + 1, 1, none⟩) (Nat.le_succ b) (.int .i64 st)).setCell (p := ⟨b + 1, 2, none⟩) (Nat.le_succ b) (.string cf)).setCell (p := ⟨b + 1, 3, none⟩) (Nat.le_succ b) (.string dt)
  have hy4 := ((((hy3.other (g' := b) 3 (.string dt) (by omega)).set 0 (.int .i64 ix)).set 1 (.int .i64 st)).set 2 (.string cf)).set 3 (.string dt)
  obtain ⟨W4, hW4⟩ : ∃ W4, ((((k2.setCell ⟨b, 3, none⟩ (.string dt)).setCell ⟨b + 1, 0, none⟩ (.int .i64 ix)).setCell ⟨b + 1, 1, none⟩ (.int .i64 st)).setCell ⟨b + 1, 2, none⟩ (.string cf)).setCell ⟨b + 1, 3, none⟩ (.string dt) = W4 := ⟨_, rfl⟩
  rw [hW4] at hB4 hy4
  have g0 := hy4.cell (j := 0) rfl
  have g1 := hy4.cell (j := 1) rfl
  have g2 := hy4.cell (j := 2) rfl
  have g3 := hy4.cell (j := 3) rfl
  have HW4 := Lib.hid hW4
  clear hx3 hy3 hy4 hW4 hB3
  go_wp2
  rw [HW4.out]
  exact bodyPost_ret (v := .agg #[.int .i64 ix, .int .i64 st, .string cf, .string dt]) (by simp [results, Tryd.results56, go_sem, g0, g1, g2, g3]) rfl ⟨rfl, by rw [hb]; exact hB4⟩
end Go.Proofs.YtbiecoifeeikpaaDoor
/-
  slices.Clone, Insert and Replace on rows of entries.
  There are no conditions beyond those that each lemma names.
-/
set_option linter.unusedSimpArgs false
set_option linter.unusedVariables false
namespace Go.Proofs.YtbiecoifeeikpaaDoor
open Go.RowKit Go.Deep
set_option maxRecDepth 100000

theorem append_En {w : World} {ops : Array Oper} {rest : List Oper} {o : Oper} {a : Act} {Q : Exit → Act → World → Prop} (hgd : o.guard = none) (s x : Operand)
    (ho : o.op = .call { callee := .builtin .append, args := #[s, x], argTypes := #[22, 22] })
    (B : Nat) (v : Value) (L M : List Ent) (p : Addr) (n c : Nat) (N : Nat → Prop) (hs : a.eval s = v) (hown : OwnEn B v L w) (hx : a.eval x = .slice (some p) n c) (hM : Ens N w (.slice (some p) n c) M) (hl : L.length + M.length ≤ 1050000) (hB : B ≤ w.heap.size)
    (h : ∀ v' w', OwnEn B v' (L ++ M) w' → Grew v w v' w' → Below B w w' → wpList Tryd.prog ops Q rest (a.put o.dst v') w') : wpList Tryd.prog ops Q (o :: rest) a w := by
  refine wpList_plain hgd fun K hK => ?_
  obtain ⟨v', w', hr, h1, h2, h3⟩ := run_append_En w B v L M o.type p n c hown N hM hl hB
  unfold Oper.wp execOp
  simp only [ho, resolve, invoke, builtin, Sem.run_bind, Sem.run_pure, Result.andThen_ok, List.map_toArray, List.map_cons, List.map_nil, hs, hx, hr]
  exact hK _ _ (h v' w' h1 h2 h3)
theorem Tryd.zeroEn (w : World) : (zeroValue 41).run Tryd.prog w = .ok (.agg #[.int .i64 0, .int .i64 0, .int .i64 0, .string ⟨#[]⟩]) w := by kernel_rfl
theorem zcells_len (n : Nat) : (Builtin.zeroCells (Value.agg #[.int .i64 0, .int .i64 0, .int .i64 0, .string ⟨#[]⟩]).cells n).toList.length = n * 4 := by
  rw [Array.length_toList, size_zeroCells]; rfl
theorem zcells_one (n : Nat) : ∀ z ∈ (Builtin.zeroCells (Value.agg #[.int .i64 0, .int .i64 0, .int .i64 0, .string ⟨#[]⟩]).cells n).toList, z.oneCell' = true := by
  intro z hz
  rw [Array.mem_toList_iff] at hz
  unfold Builtin.zeroCells at hz
  obtain ⟨i, _, rfl⟩ := Array.mem_map.1 hz
  have h4 : (Value.agg #[.int .i64 0, .int .i64 0, .int .i64 0, .string ⟨#[]⟩]).cells = #[.int .i64 0, .int .i64 0, .int .i64 0, .string ⟨#[]⟩] := by kernel_rfl
  rw [h4]
  have : i % (#[Value.int .i64 0, .int .i64 0, .int .i64 0, .string ⟨#[]⟩] : Array Value).size < 4 := Nat.mod_lt _ (by decide)
  obtain ⟨j, hj⟩ : ∃ j, i % (#[Value.int .i64 0, .int .i64 0, .int .i64 0, .string ⟨#[]⟩] : Array Value).size = j := ⟨_, rfl⟩
  rw [hj] at this ⊢
  match j, this with
  | 0, _ => rfl
  | 1, _ => rfl
  | 2, _ => rfl
  | 3, _ => rfl
/-- clear on a row of entries -/
theorem run_clear_En (w : World) (g o m c : Nat) (hm : 0 < m) (hc : ∀ j, j < m * 4 → (w.cell? ⟨g, o + j, none⟩).isSome = true) (hf : ∀ j, j < m * 4 → w.frozen? ⟨g, o + j, none⟩ = false) :
    ∃ zs : List Value, zs.length = m * 4 ∧ ∀ ty, (Builtin.clear_ #[22] ty #[.slice (some ⟨g, o, none⟩) m c]).run Tryd.prog w = .ok (.tuple #[]) (w.setCells g o zs) := by
  refine ⟨_, zcells_len m, fun ty => ?_⟩
  have hst := run_storeCells_cells (P := Tryd.prog) g o (Builtin.zeroCells (Value.agg #[.int .i64 0, .int .i64 0, .int .i64 0, .string ⟨#[]⟩]).cells m).toList 0 w (by rw [zcells_len]; simpa using hc) (by rw [zcells_len]; simpa using hf) (zcells_one m)
  simp only [Nat.add_zero] at hst
  obtain ⟨k, rfl⟩ : ∃ k, m = k + 1 := ⟨m - 1, by omega⟩
  simp [Builtin.clear_, run_underlying Tryd.underlying22, Tryd.zeroEn, hst]
/-- what stands ahead of cells that are stored stands -/
theorem own_clear {w : World} {B j c o g : Nat} {L : List Ent} {zs : List Value} (h : OwnEn B (.slice (some ⟨g, 0, none⟩) j c) L w) (ho : L.length * 4 ≤ o) : OwnEn B (.slice (some ⟨g, 0, none⟩) j c) L (w.setCells g o zs) := by
  have key : ∀ (zs : List Value) (o : Nat) (w : World), OwnEn B (.slice (some ⟨g, 0, none⟩) j c) L w → L.length * 4 ≤ o → OwnEn B (.slice (some ⟨g, 0, none⟩) j c) L (w.setCells g o zs) := by
    intro zs
    induction zs with
    | nil => intro o w h _; exact h
    | cons z t ih =>
      intro o w h ho
      refine ih (o + 1) _ ?_ (by omega)
      refine ⟨h.1, ?_⟩
      rcases h.2 with ⟨hv, _⟩ | ⟨g', c', cur, hv, hB, hg, h1, h2, h3, h4⟩
      · cases hv
      · injection hv with e1 e2 e3
        injection e1 with e1; injection e1 with e1
        subst e1; subst e3
        refine .inr ⟨g, c, cur.setIfInBounds o z, by rw [e2], hB, heap_setCell_same w g o _ _ _ hg, h1, h2, by simpa using h3, ?_⟩
        rw [Array.toList_setIfInBounds, List.take_set, List.set_eq_of_length_le (by rw [List.length_take]; omega)]
        exact h4
  exact key zs o w h ho
theorem below_setCells11 {B g : Nat} (hg : B ≤ g) : ∀ (vs : List Value) (o : Nat) (w : World), Below B w (w.setCells g o vs)
  | [], _, w => Below.refl _ _
  | v :: r, o, w => ((Below.refl B w).setCell (p := ⟨g, o, none⟩) hg v).trans (below_setCells11 hg r (o + 1) _)
theorem grown_setCells11 {g : Nat} : ∀ (vs : List Value) (o : Nat) (w : World), w.grownBy (w.setCells g o vs) (some g)
  | [], _, w => ⟨rfl, rfl, rfl, Nat.le_refl _, fun _ _ _ => rfl⟩
  | v :: r, o, w => grown_trans10 (setCell_grown w ⟨g, o, none⟩ v) (grown_setCells11 r (o + 1) _)
set_option maxHeartbeats 400000 in
theorem kclone_any (N : Nat → Prop) (A : Option Addr) (n c : Nat) (L : List Ent) (w : World) (h : Ens N w (.slice A n c) L) (hl : L.length ≤ 1050000) :
    Calls Tryd.prog 48 #[.slice A n c] w fun e w' => ∃ v, e = .returned v ∧ OwnEn w.heap.size v L w' ∧ Below w.heap.size w w' := by
  have k0 := fun w => Lib.run_eql_slice_nil (P := Tryd.prog) w 22 41 A n c 0 0 Tryd.underlying22
  cases A with
  | none =>
    have hL : L = [] := by
      cases L with
      | nil => rfl
      | cons x t => obtain ⟨g, o, e, _⟩ := h.at_ 0 (by simp); cases e
    subst hL
    go_enter Tryd.func48, Tryd.ntmps48
    go_wp2
    go_ret
    exact ⟨_, rfl, OwnEn.nil _ _, Below.refl _ _⟩
  | some a =>
    have h1 := h.below (below_new w (.cells #[] 41))
    have hO : OwnEn w.heap.size (.slice (some ⟨w.heap.size, 0, none⟩) 0 0) [] (w.alloc (.cells #[] 41)) := ⟨rfl, .inr ⟨w.heap.size, 0, #[], rfl, Nat.le_refl _, heap_alloc_new _ _, Nat.le_refl _, Nat.zero_le _, rfl, rfl⟩⟩
    have hB := below_new w (.cells #[] 41)
    have H1 := Lib.hid h1
    have HO := Lib.hid hO
    clear h1 hO h
    go_enter Tryd.func48, Tryd.ntmps48
    go_wp2_with (at_builtin; refine append_En rfl _ _ rfl w.heap.size _ _ _ _ _ _ _ rfl HO.out rfl H1.out (by simpa using hl) hB.size ?_; intro v' w' g1 g2 g3)
    go_ret
    exact ⟨_, rfl, g1, hB.trans g3⟩
/-- what came of writing onto a row of one's own -/
def Rew (v : Value) (L : List Ent) (w : World) (e : Ending) (w' : World) : Prop := ∃ v', e = .returned v' ∧ OwnEn 0 v' L w' ∧ Grew v w v' w'
theorem Grew.refl (v : Value) (w : World) : Grew v w v w := ⟨grownBy_refl w _, .inl rfl⟩
set_option maxHeartbeats 400000 in
/-- Insert at the end -/
theorem kinsert_any (N : Nat → Prop) (A : Option Addr) (n c m d : Nat) (a : Addr) (L M : List Ent) (w : World) (hL : OwnEn 0 (.slice A n c) L w) (hM : Ens N w (.slice (some a) m d) M) (h0 : 0 < m) (hl : L.length + M.length ≤ 1050000) :
    Calls Tryd.prog 67 #[.slice A n c, .int .i64 n, .slice (some a) m d] w (Rew (.slice A n c) (L ++ M) w) := by
  have hn : n ≤ c := (Ens.of_own hL).len.2
  have H1 := Lib.hid hM
  have HO := Lib.hid hL
  have HL := Lib.hid hl
  have hx : ¬ m = 0 := by omega
  clear hM hL hl
  go_enter Tryd.func67, Tryd.ntmps67
  by_cases hcn : c = n
  · subst hcn
    go_wp2_with (at_builtin; refine append_En rfl _ _ rfl 0 (.slice A c c) _ _ _ _ _ _ rfl HO.out rfl H1.out HL.out (Nat.zero_le _) ?_; intro v' w' g1 g2 g3)
    go_ret
    exact ⟨v', rfl, g1, g2⟩
  · go_wp2_with (at_builtin; refine append_En rfl _ _ rfl 0 (.slice A n c) _ _ _ _ _ _ rfl HO.out rfl H1.out HL.out (Nat.zero_le _) ?_; intro v' w' g1 g2 g3)
    go_ret
    exact ⟨v', rfl, g1, g2⟩
theorem En.news {N : Nat → Prop} {w : World} {a : Addr} {n c : Nat} {M : List Ent} (hM : Ens N w (.slice (some a) n c) M) : ∀ j u, (M.flatMap Ent.cs)[j]? = some u → w.cell? (a.add j) = some u := by
  have hlm := ents_len M
  intro j z hj
  have hjl : j < M.length * 4 := by rw [← hlm]; exact (List.getElem?_eq_some_iff.1 hj).1
  have hq : j / 4 < M.length := by omega
  obtain ⟨g, o, e1, _, _, hcs⟩ := hM.at_ (j / 4) hq
  injection e1 with e1
  subst e1
  have hm : (Ent.cs M[j / 4])[j % 4]? = some z := by
    have hlt : j % 4 < (Ent.cs M[j / 4]).length := by show j % 4 < 4; omega
    have := eflat_at M (j / 4) hq (j % 4) _ (List.getElem?_eq_getElem hlt)
    rw [show j / 4 * 4 + j % 4 = j by omega, hj] at this
    rw [List.getElem?_eq_getElem hlt]; exact this.symm
  have := hcs (j % 4) z hm
  rw [Addr.add_mid, ← this]
  congr 2; omega
/-- entries appended where there is room -/
theorem append_fits_En {w : World} {ops : Array Oper} {rest : List Oper} {o : Oper} {a : Act} {Q : Exit → Act → World → Prop} (hgd : o.guard = none) (s x : Operand)
    (ho : o.op = .call { callee := .builtin .append, args := #[s, x], argTypes := #[22, 22] })
    (g i cap : Nat) (L M : List Ent) (p : Addr) (m c : Nat) (N : Nat → Prop) (hs : a.eval s = .slice (some ⟨g, 0, none⟩) i cap) (hown : OwnEn 0 (.slice (some ⟨g, 0, none⟩) i cap) L w) (hx : a.eval x = .slice (some p) m c) (hM : Ens N w (.slice (some p) m c) M) (hl : i + m ≤ cap)
    (h : ∀ w', OwnEn 0 (.slice (some ⟨g, 0, none⟩) (i + m) cap) (L ++ M) w' → w.grownBy w' (some g) → wpList Tryd.prog ops Q rest (a.put o.dst (.slice (some ⟨g, 0, none⟩) (i + m) cap)) w') : wpList Tryd.prog ops Q (o :: rest) a w := by
  refine wpList_plain hgd fun K hK => ?_
  obtain ⟨iO, hiO, hzO0, hzO1, hzO2⟩ := info_parts Tryd.infoEn
  have h1 := (Ens.of_own hown).len.1
  have h2 := hM.len.1
  have hown' : w.ownsRow 0 41 4 (.slice (some ⟨g, 0, none⟩) i cap) i (L.flatMap Ent.cs) := by rw [h1] at hown ⊢; exact hown
  obtain ⟨w', hr, g1, g2⟩ := run_append_fits (P := Tryd.prog) w 0 22 o.type 41 iO 4 Tryd.underlying22 hiO hzO1 g i cap _ hown' p m c (M.flatMap Ent.cs) (by rw [ents_len, h2]) (En.news hM) (ents_one M) hl
  unfold Oper.wp execOp
  simp only [ho, resolve, invoke, builtin, Sem.run_bind, Sem.run_pure, Result.andThen_ok, List.map_toArray, List.map_cons, List.map_nil, hs, hx, hr]
  refine hK _ _ (h w' ?_ g2)
  unfold OwnEn
  rw [List.length_append, List.flatMap_append, ← h1, ← h2]
  exact g1
theorem OwnEn.cells {B g i cap : Nat} {L : List Ent} {w : World} (h : OwnEn B (.slice (some ⟨g, 0, none⟩) i cap) L w) : (∀ j, j < cap * 4 → (w.cell? ⟨g, j, none⟩).isSome = true) ∧ ∀ j, w.frozen? ⟨g, j, none⟩ = false := by
  rcases h.2 with ⟨hv, _⟩ | ⟨g', c', cur, hv, hB, hg, h1, h2, h3, h4⟩
  · cases hv
  · injection hv with e1 e2 e3
    injection e1 with e1; injection e1 with e1
    subst e1; subst e3
    refine ⟨fun j hj => ?_, fun j => frozen_of_row w g j _ _ hg⟩
    rw [cell_of_row w g j _ _ _ hg, Array.getElem?_eq_getElem (by omega)]; rfl
set_option maxHeartbeats 400000 in
/-- Replace of all from i on -/
theorem kreplace_any (N : Nat → Prop) (A : Option Addr) (i n c m d : Nat) (a : Addr) (L M : List Ent) (w : World) (hL : OwnEn 0 (.slice A n c) L w) (hM : Ens N w (.slice (some a) m d) M) (h0 : 0 < m) (hi : i ≤ n) (hl : L.length + M.length ≤ 1050000) :
    Calls Tryd.prog 47 #[.slice A n c, .int .i64 i, .int .i64 n, .slice (some a) m d] w (Rew (.slice A n c) (L.take i ++ M) w) := by
  have hn : n ≤ c := (Ens.of_own hL).len.2
  have hnL : n = L.length := (Ens.of_own hL).len.1
  have hmM : m = M.length := hM.len.1
  have hx : ¬ m = 0 := by omega
  by_cases hin : i = n
  · subst hin
    have ht : L.take i = L := by rw [hnL, List.take_length]
    rw [ht]
    have H1 := Lib.hid hM
    have HO := Lib.hid hL
    have HL := Lib.hid hl
    clear hM hL ht hnL hl hi hmM
    go_enter Tryd.func47, Tryd.ntmps47
    by_cases hci : c = i
    · subst hci
      go_wp2_with fail
      refine (kinsert_any N A c c m d a L M w HO.out H1.out h0 HL.out).mono ?_
      rintro e w1 ⟨v', rfl, g1, g2⟩
      go_wp2
      go_ret
      exact ⟨_, rfl, g1, g2⟩
    · go_wp2_with fail
      refine (kinsert_any N A i c m d a L M w HO.out H1.out h0 HL.out).mono ?_
      rintro e w1 ⟨v', rfl, g1, g2⟩
      go_wp2
      go_ret
      exact ⟨_, rfl, g1, g2⟩
  · have HT := Lib.hid (hL.take (j := i) (by omega))
    have H1 := Lib.hid hM
    have hlt : (L.take i).length = i := by rw [List.length_take]; omega
    have HLT := Lib.hid (show (L.take i).length + M.length ≤ 1050000 by omega)
    have hii : i < n := by omega
    have hbi : ((i : Int) == (n : Int)) = false := by simp; omega
    obtain ⟨g, rfl⟩ : ∃ g, A = some ⟨g, 0, Option.none⟩ := by
      rcases hL.2 with ⟨hv, h2⟩ | ⟨g', c', cur, hv, _⟩
      · omega
      · injection hv with e1 _ _
        exact ⟨g', e1⟩
    have hlq : (L.take i ++ M).length = i + m := by rw [List.length_append, hlt, hmM]
    by_cases hq : i + m < n
    · have HQ := Lib.hid hlq
      have hbq : decide (((i + m : Nat) : Int) < (n : Int)) = true := by simp; omega
      have hbc : ¬ c = i + m := by omega
      clear hM hL hlt hl hnL hlq hmM
      go_enter Tryd.func47, Tryd.ntmps47
      go_wp2_with (at_builtin; refine append_fits_En rfl _ _ rfl g i c _ _ _ _ _ _ rfl HT.out rfl H1.out (by omega) ?_; intro w' g1 g2; (have C := g1.cells); (obtain ⟨zs, hz, hcl⟩ := run_clear_En w' g ((i + m) * 4) (n - (i + m)) (c - (i + m)) (by omega) (fun j hj => C.1 _ (by omega)) (fun j _ => C.2 _)); clear C)
      go_ret
      exact ⟨_, rfl, own_clear g1 (by rw [HQ.out]; exact Nat.le_refl _), grown_trans10 g2 (grown_setCells11 _ _ _), .inl rfl⟩
    · have HQ := Lib.hid hlq
      have hq2 : n ≤ i + m := by omega
      have HMM := Lib.hid hmM
      clear hM hL hlt hl hnL hlq hmM
      go_enter Tryd.func47, Tryd.ntmps47
      go_wp2_with (at_builtin; refine append_En rfl _ _ rfl 0 (.slice (some ⟨g, 0, none⟩) i c) _ _ _ _ _ _ rfl HT.out rfl H1.out HLT.out (Nat.zero_le _) ?_; intro v' w' g1 g2 g3; (obtain ⟨A2, c2, e2⟩ := g1.slice); rw [HQ.out] at e2; subst e2)
      go_ret
      exact ⟨_, rfl, g1, g2⟩
end Go.Proofs.YtbiecoifeeikpaaDoor
/-
  Records one behind the other: what they read as, also where the last one is torn.
  There are no conditions beyond those that each lemma names.
-/
set_option linter.unusedSimpArgs false
set_option linter.unusedVariables false
namespace Go.Proofs.YtbiecoifeeikpaaDoor
open Go.RowKit
set_option maxRecDepth 100000

/-- the bytes of records one behind the other -/
def encs10 (rs : List Rcd) : List UInt8 := rs.flatMap encR10
theorem encs10_snoc (rs : List Rcd) (r : Rcd) : encs10 (rs ++ [r]) = encs10 rs ++ encR10 r := by unfold encs10; rw [List.flatMap_append]; simp
theorem encs10_cons (rs : List Rcd) (r : Rcd) : encs10 (r :: rs) = encR10 r ++ encs10 rs := by unfold encs10; rw [List.flatMap_cons]
theorem encs10_len : ∀ rs : List Rcd, (encs10 rs).length ≤ 2607 * rs.length
  | [] => by simp [encs10]
  | r :: rs => by
    have := encs10_len rs
    have := enc10_short r
    rw [encs10_cons, List.length_append, List.length_cons]; omega
/-- where the last one begins -/
def Last10 (rs : List Rcd) (L : Nat) : Prop := (rs = [] ∧ L = 0) ∨ ∃ rs' r, rs = rs' ++ [r] ∧ L = (encs10 rs').length
theorem scr_torn10 (t : List UInt8) (e : Nat) (ht : decR10 t = (zRcd, 0, e)) (he : e ≠ 0) : ∀ rs : List Rcd, (∀ r ∈ rs, may10 r = true) → ScR (encs10 rs ++ t) rs (encs10 rs).length e
  | [], _ => by simpa [encs10] using ScR.nil t e ht he
  | r :: rs, h => by
    have hr := h r (List.mem_cons_self ..)
    have ih := scr_torn10 t e ht he rs fun q hq => h q (List.mem_cons_of_mem _ hq)
    rw [encs10_cons, List.append_assoc, List.length_append]
    refine ScR.cons _ r _ rs _ e (decR10_enc hr _) ?_
    rw [List.drop_left]; exact ih
theorem byt_take10 {w : World} {B n c : Nat} {A : Option Addr} {l : List UInt8} (h : Byt w B (.slice A l.length c) l) (hn : n ≤ l.length) : Byt w B (.slice A n c) (l.take n) := by
  obtain ⟨A', c', hv, hc, hcell⟩ := h
  injection hv with e1 _ e2; subst e1; subst e2
  have e : (l.take n).length = n := by rw [List.length_take]; omega
  refine ⟨A, c, by rw [e], by rw [e]; omega, fun h0 => ?_⟩
  rw [e] at h0
  obtain ⟨g, o, rfl, hg, hcs⟩ := hcell (by omega)
  refine ⟨g, o, rfl, hg, fun k hk => ?_⟩
  rw [e] at hk
  rw [hcs k (by omega)]; simp
end Go.Proofs.YtbiecoifeeikpaaDoor
/-
  Package frame's All tells the frames one behind the other as the plain relation says, in new memory.
  The bytes are there in memory, at most 1,000,000; package crc's table lies as it was laid.
-/
set_option linter.unusedSimpArgs false
set_option linter.unusedVariables false
namespace Go.Proofs.YtbiecoifeeikpaaDoor
open Go.RowKit Go.Deep
set_option maxRecDepth 100000

/-- the frames at the beginning, and how many bytes they take -/
inductive AllR : List UInt8 → List (Nat × List UInt8) → Nat → Prop
  | nil (l : List UInt8) (h : (openB l).2.2.2 ≠ 0) : AllR l [] 0
  | cons (l : List UInt8) (k : Nat) (b : List UInt8) (n : Nat) (fs : List (Nat × List UInt8)) (u : Nat) (h : openB l = (k, b, n, 0)) (h2 : AllR (l.drop n) fs u) : AllR l ((k, b) :: fs) (n + u)
theorem AllR.two {l : List UInt8} {fs : List (Nat × List UInt8)} {u : Nat} (h : AllR l fs u) : ∀ {gs : List (Nat × List UInt8)} {v : Nat}, AllR l gs v → fs = gs ∧ u = v := by
  induction h with
  | nil l h =>
    intro gs v h2
    cases h2 with
    | nil _ _ => exact ⟨rfl, rfl⟩
    | cons _ k b n fs u h3 h4 => rw [h3] at h; exact absurd rfl h
  | cons l k b n fs u h h2 ih =>
    intro gs v h3
    cases h3 with
    | nil _ h4 => rw [h] at h4; exact absurd rfl h4
    | cons _ k' b' n' fs' u' h4 h5 =>
      rw [h] at h4
      simp only [Prod.mk.injEq, and_true] at h4
      obtain ⟨rfl, rfl, rfl⟩ := h4
      obtain ⟨rfl, rfl⟩ := ih h5
      exact ⟨rfl, rfl⟩
theorem AllR.len {l : List UInt8} {fs : List (Nat × List UInt8)} {u : Nat} (h : AllR l fs u) : u ≤ l.length ∧ fs.length * 6 ≤ u := by
  induction h with
  | nil l h => exact ⟨Nat.zero_le _, Nat.le_refl _⟩
  | cons l k b n fs u h h2 ih =>
    have := openB_good h
    rw [List.length_drop] at ih
    simp only [List.length_cons]
    omega
/-- frames one behind the other -/
def catB (L : List (Nat × List UInt8)) : List UInt8 := L.flatMap fun p => sealB (p.1 : Int) p.2
theorem catB_snoc (L : List (Nat × List UInt8)) (p : Nat × List UInt8) : catB (L ++ [p]) = catB L ++ sealB (p.1 : Int) p.2 := by unfold catB; rw [List.flatMap_append]; simp
theorem AllR.cat {rest : List UInt8} {fs : List (Nat × List UInt8)} {u : Nat} (h : AllR rest fs u) : ∀ (L : List (Nat × List UInt8)), (∀ p ∈ L, 1 ≤ p.1 ∧ p.1 ≤ 255 ∧ p.2.length ≤ 4000) → AllR (catB L ++ rest) (L ++ fs) ((catB L).length + u)
  | [], _ => by simpa [catB] using h
  | p :: t, hp => by
    obtain ⟨h0, h1, h2⟩ := hp p (List.mem_cons_self ..)
    have ih := h.cat t (fun q hq => hp q (List.mem_cons_of_mem _ hq))
    have ho := openB_seal (p.1 : Int) p.2 (catB t ++ rest) (by omega) (by omega) h2
    have e : catB (p :: t) ++ rest = sealB (p.1 : Int) p.2 ++ (catB t ++ rest) := by unfold catB; rw [List.flatMap_cons, List.append_assoc]
    have e2 : (catB (p :: t)).length + u = (sealB (p.1 : Int) p.2).length + ((catB t).length + u) := by unfold catB; rw [List.flatMap_cons, List.length_append]; omega
    rw [e, e2]
    rw [Int.toNat_natCast] at ho
    refine AllR.cons _ p.1 p.2 _ _ _ ho ?_
    rw [List.drop_left]
    exact ih
def fcs (p : (Nat × List UInt8) × Value) : List Value := [.int .i64 (p.1.1 : Nat), p.2]
theorem fflat_at : ∀ (l : List ((Nat × List UInt8) × Value)) (k : Nat) (h : k < l.length) (j : Nat) (v : Value), (fcs l[k])[j]? = some v → (l.flatMap fcs)[k * 2 + j]? = some v
  | x :: t, 0, _, j, v, hv => by
    have hj : j < (fcs x).length := (List.getElem?_eq_some_iff.1 hv).1
    rw [List.flatMap_cons, Nat.zero_mul, Nat.zero_add, List.getElem?_append_left hj]; exact hv
  | x :: t, k + 1, h, j, v, hv => by
    have h3 : (fcs x).length = 2 := rfl
    rw [List.flatMap_cons, List.getElem?_append_right (by omega), h3, show (k + 1) * 2 + j - 2 = k * 2 + j by omega]
    exact fflat_at t k (by simpa using h) j v hv
theorem fcs_len (l : List ((Nat × List UInt8) × Value)) : (l.flatMap fcs).length = l.length * 2 := by
  induction l with
  | nil => rfl
  | cons x t ih =>
    have h3 : (fcs x).length = 2 := rfl
    rw [List.flatMap_cons, List.length_append, ih, h3, List.length_cons]; omega
theorem row_grown {B C e e2 s s2 n n2 : Nat} {v v2 : Value} {xs ys : List Value} {w w' : World} (h : w.ownsRow B e s v n xs) (h2 : w.ownsRow C e2 s2 v2 n2 ys) (hb : w.grownBy w' v2.ownBlock) (hne : e ≠ e2) : w'.ownsRow B e s v n xs := by
  refine ⟨h.1, ?_⟩
  rcases h.2 with h0 | ⟨g, c, cur, hv, hB, hg, r⟩
  · exact .inl h0
  · refine .inr ⟨g, c, cur, hv, hB, (hb.block g (Array.getElem?_eq_some_iff.1 hg).1 (fun ee => ?_)).trans hg, r⟩
    rcases h2.2 with ⟨hv2, _⟩ | ⟨g2, c2, cur2, hv2, _, hg2, _⟩
    · rw [hv2] at ee; cases ee
    · rw [hv2] at ee
      have e3 : g2 = g := (Option.some.inj (show some g = some g2 from ee)).symm
      subst e3
      rw [hg] at hg2
      injection hg2 with hg2
      injection hg2 with _ h4 _
      exact hne h4
theorem cells_new (w : World) (t : TypeId) (cs : List Value) : (w.alloc (.cells cs.toArray t)).rangeAt w.heap.size 0 cs := fun j v hj => by
  have hh : (w.alloc (.cells cs.toArray t)).heap[w.heap.size]? = some (.cells cs.toArray t (0, 0)) := heap_alloc_new _ _
  unfold World.cell?
  rw [hh]
  simpa using hj
theorem fopen_is (A : Option Addr) (n c B : Nat) (l : List UInt8) (r) (w : World) (h : Byt w B (.slice A n c) l) (hB : B ≤ w.heap.size) (hl : l.length ≤ 1050000) (hT : Tbl w) (hr : openB l = r) :
    Calls Tryd.prog 79 #[.slice A n c] w (GotO r w) := by
  rw [← hr, (byt_len h).1]
  exact fopen_any A c B l w (by rw [← (byt_len h).1]; exact h) hB hl hT
end Go.Proofs.YtbiecoifeeikpaaDoor
/-
  A byte of a slice is written: what the slice reads as behind it.
  There are no conditions beyond those that each lemma names.
-/
set_option linter.unusedSimpArgs false
set_option linter.unusedVariables false
namespace Go.Proofs.YtbiecoifeeikpaaDoor
open Go.RowKit
set_option maxRecDepth 100000

theorem byt_set {w : World} {B g n c k : Nat} {y : UInt8} {l : List UInt8} (h : Byt w B (.slice (some ⟨g, 0, none⟩) n c) l) (hk : k < l.length) :
    Byt (w.setCell ⟨g, k, none⟩ (.int .u8 (y.toNat : Int))) B (.slice (some ⟨g, 0, none⟩) n c) (l.set k y) := by
  obtain ⟨A', c', hv, hc, hcell⟩ := h
  injection hv with e1 e2 e3; subst e1; subst e3
  obtain ⟨g', o, hA, hg, hcs⟩ := hcell (by omega)
  injection hA with hA
  obtain ⟨rfl, rfl⟩ : g = g' ∧ 0 = o := by injection hA with a b; exact ⟨a, b⟩
  refine ⟨_, c, by rw [List.length_set, ← e2], by rw [List.length_set]; exact hc, fun _ => ⟨g, 0, rfl, hg, fun j hj => ?_⟩⟩
  have hj' : j < l.length := by rwa [List.length_set] at hj
  by_cases hjk : j = k
  · subst hjk
    rw [Nat.zero_add, List.getElem_set_self]
    have := hcs j hj'
    rw [Nat.zero_add] at this
    exact World.cell?_setCell_same _ _ _ this
  · rw [Nat.zero_add, List.getElem_set_ne (fun e => hjk e.symm)]
    have := hcs j hj'
    rw [Nat.zero_add] at this
    exact (World.cell?_setCell_other _ _ _ _ (by first | (simp; done) | (simp; omega))).trans this
theorem tbl_lt {w : World} (h : Tbl w) : 0 < w.heap.size := cell_lt (h 0 (by decide))
theorem tbl_keep2 {w w' : World} {B : Nat} (h : Tbl w) (hb : Below B w w') (hB : 0 < B) : Tbl w' := fun k hk =>
  (hb.cell (p := ⟨0, k, none⟩) hB).trans (h k hk)
theorem own_cells {B : Nat} {v : Value} {l : List UInt8} {w : World} (h : OwnB B v l w) (hl : 1 ≤ l.length) : ∃ g c, v = .slice (some ⟨g, 0, none⟩) l.length c ∧ g < w.heap.size ∧ (∀ j, w.frozen? ⟨g, j, none⟩ = false) ∧ ∀ j (h : j < l.length), w.cell? ⟨g, j, none⟩ = some (.int .u8 (l[j].toNat : Int)) := by
  obtain ⟨g, c, hv, hg, hcs⟩ := h.at_ hl
  subst hv
  refine ⟨g, c, rfl, hg, fun j => ?_, fun j hj => ?_⟩
  · rcases h.2 with ⟨hv, _⟩ | ⟨g', c', cur, hv, _, hh, _⟩
    · cases hv
    · injection hv with e1 _ _
      injection e1 with e1
      injection e1 with e1
      subst e1
      exact frozen_of_row w g j cur _ hh
  · have := hcs j (.int .u8 (l[j].toNat : Int)) (by simp [Lib.byteCells, hj])
    rw [Addr.add_mid, Nat.zero_add] at this; exact this
theorem u8_xor (x y : UInt8) : bits BinOp.xor IntKind.u8 (x.toNat : Int) (y.toNat : Int) = ((x ^^^ y).toNat : Int) := by
  have hx := x.toNat_lt; have hy := y.toNat_lt
  rw [u8_xor_nat _ _ (by omega) (by omega), UInt8.toNat_xor]
end Go.Proofs.YtbiecoifeeikpaaDoor
/-
  Package keep's loops over entries: copyEntries, inRow, addEntries.
  There are no conditions beyond those that each lemma names.
-/
set_option linter.unusedSimpArgs false
set_option linter.unusedVariables false
namespace Go.Proofs.YtbiecoifeeikpaaDoor
open Go.RowKit Go.Deep
set_option maxRecDepth 100000

theorem Ens.four {N : Nat → Prop} {w : World} {n c : Nat} {A : Option Addr} {L : List Ent} (h : Ens N w (.slice A n c) L) (k : Nat) (hk : k < L.length) {ix et kd : Int} {dt : ByteArray} (he : L[k] = ⟨ix, et, kd, dt⟩) : ∃ g o, A = some ⟨g, o, Option.none⟩ ∧ g < w.heap.size ∧
    w.cell? ⟨g, o + k * 4, none⟩ = some (.int .i64 ix) ∧ w.cell? ⟨g, o + k * 4 + 1, none⟩ = some (.int .i64 et) ∧ w.cell? ⟨g, o + k * 4 + 2, none⟩ = some (.int .i64 kd) ∧ w.cell? ⟨g, o + k * 4 + 3, none⟩ = some (.string dt) := by
  obtain ⟨g, o, hA, _, hl, hr⟩ := h.at_ k hk
  rw [he] at hr
  exact ⟨g, o, hA, hl, hr 0 _ rfl, hr 1 _ rfl, hr 2 _ rfl, hr 3 _ rfl⟩
set_option maxHeartbeats 400000 in
theorem kinRow_any (N : Nat → Prop) (A : Option Addr) (n c : Nat) (L : List Ent) (w : World) (h : Ens N w (.slice A n c) L) (hl : L.length ≤ 1050000) (hd : ∀ e ∈ L, e.data.size ≤ 1050000) (i0 : Int) (h0 : 0 < L.length) (hi0 : L[0].ix = i0) (hb0 : -9223372036854775808 ≤ i0 ∧ i0 ≤ 9223372036854775807) (r : Bool) (hr : row11 i0 L = r) :
    Calls Tryd.prog 45 #[.slice A n c] w fun e w' => e = .returned (.bool r) ∧ Below w.heap.size w w' := by
  have hnL : n = L.length := h.len.1
  have hnc : n ≤ c := h.len.2
  have HE := Lib.hid h
  have HR := Lib.hid hr
  have HL := Lib.hid hnL
  have HI := Lib.hid hi0
  obtain ⟨⟨x0, y0, z0, d0⟩, hx0⟩ : ∃ x, L[0] = x := ⟨_, rfl⟩
  rw [hx0] at hi0
  simp only at hi0
  subst hi0
  obtain ⟨g, o, rfl, hg, a0, _, _, _⟩ := h.four 0 h0 hx0
  rw [show o + 0 * 4 = o by omega] at a0
  have hn0 : 0 < n := by omega
  have hn1 : n ≤ 1050000 := by omega
  clear h hr hnL
  go_enter Tryd.func45, Tryd.ntmps45
  go_wp2_with fail
  go_loopw [7] (fun i wr => ∃ k : Nat, i = .int .i64 k ∧ k ≤ n ∧ Below w.heap.size w wr ∧ row11 x0 (L.take k) = true) (fun i _ => n - (intOf i).toNat)
  case atStart => exact ⟨0, rfl, Nat.zero_le _, Below.refl _ _, rfl⟩
  case round =>
    obtain ⟨k, rfl, hk, hbw, hrow⟩ := hrel
    by_cases hkn : k < n
    · have hkL : k < L.length := by rw [← HL.out]; exact hkn
      have hwk : IntKind.i64.wrap (x0 + (k : Int)) = x0 + (k : Int) := by
        rw [IntKind.wrap_i64]
        by_cases h1 : k = 0
        · subst h1; omega
        · have := (row11_at _ _ hrow 0 (by rw [List.length_take]; omega)).1
          rw [List.getElem_take, hx0] at this
          have := mayEnt10_is this
          simp only at this
          omega
      obtain ⟨⟨xk, yk, zk, dk⟩, hxk⟩ : ∃ x, L[k] = x := ⟨_, rfl⟩
      obtain ⟨g2, o2, e2, hg2, b0, b1, b2, b3⟩ := (HE.out.below (hbw.mono (Nat.le_refl _))).four k hkL hxk
      injection e2 with e2; injection e2 with e2 e3 _
      subst e2; subst e3
      have hdk : dk.size ≤ 1050000 := by have := hd L[k] (List.getElem_mem hkL); rw [hxk] at this; exact this
      have a0r := (hbw.cell (p := ⟨g, o, none⟩) hg).trans a0
      have hki : (k : Int) < (n : Int) := by omega
      obtain ⟨m, hm⟩ : ∃ m, mayEnt10 ⟨xk, yk, zk, dk⟩ = m := ⟨_, rfl⟩
      have hmm : may10 ⟨false, 0, 0, ⟨xk, yk, zk, dk⟩⟩ = m := by rw [← hm]; unfold may10; simp
      have HMM := Lib.hid hmm
      have HM := Lib.hid hm
      have HROW := Lib.hid hrow
      have HXK := Lib.hid hxk
      have HBW := Lib.hid hbw
      clear hmm hm hrow hxk hbw a0 hx0
      obtain ⟨b, hb⟩ : ∃ b, wr.heap.size = b := ⟨_, rfl⟩
      obtain ⟨W, hW⟩ : ∃ W, wr.alloc (.cells #[.int .i64 xk, .int .i64 yk, .int .i64 zk, .string dk] 41) = W := ⟨_, rfl⟩
      have hrt : Rt W b 41 [.int .i64 xk, .int .i64 yk, .int .i64 zk, .string dk] := by rw [← hW, ← hb]; exact Rt.new _ _ _
      have hWB : Below w.heap.size w W := by rw [← hW]; exact (HBW.out.alloc HBW.out.size _)
      have hbl : b < W.heap.size := hrt.lt
      have hg3 : g < W.heap.size := by rw [← hW]; simp; omega
      replace a0r : W.cell? ⟨g, o, none⟩ = some (.int .i64 x0) := by rw [← hW]; exact ((below_new wr _).cell (p := ⟨g, o, none⟩) hg2).trans a0r
      have c0 := hrt.cell (j := 0) rfl
      have c1 := hrt.cell (j := 1) rfl
      have c2 := hrt.cell (j := 2) rfl
      have c3 := hrt.cell (j := 3) rfl
      clear hrt
      by_cases hmt : m = true
      · subst hmt
        by_cases hne : xk = x0 + (k : Int)
        · have hne2 : (xk != x0 + (k : Int)) = false := by simp [hne]
          have hn3 : row11 x0 (L.take (k + 1)) = true := by
            rw [List.take_succ_eq_append_getElem hkL, HXK.out, row11_snoc, HROW.out, HM.out, List.length_take, Nat.min_eq_left (by omega), ← hne]; simp
          have HN3 := Lib.hid hn3
          have HNE := Lib.hid hne
          clear hn3 hne
          go_wp2_with fail
          have hWB := hWB.drew
          go_region_held3 (fun W => W.cell? ⟨b, 0, none⟩ = some (.int .i64 xk) ∧ W.cell? ⟨b, 1, none⟩ = some (.int .i64 yk) ∧ W.cell? ⟨b, 2, none⟩ = some (.int .i64 zk) ∧ W.cell? ⟨b, 3, none⟩ = some (.string dk) ∧ W.cell? ⟨g, o, none⟩ = some (.int .i64 x0)) (first | exact ⟨c0, c1, c2, c3, a0r⟩ | assumption) (first | (go_at_call 50; refine (wmay_v false 0 0 xk yk zk dk true _ hdk HMM.out).mono ?_; rintro e k9 ⟨rfl, h⟩; replace c0 := (h.cell (p := ⟨b, 0, none⟩) hbl).trans c0; replace c1 := (h.cell (p := ⟨b, 1, none⟩) hbl).trans c1; replace c2 := (h.cell (p := ⟨b, 2, none⟩) hbl).trans c2; replace c3 := (h.cell (p := ⟨b, 3, none⟩) hbl).trans c3; replace a0r := (h.cell (p := ⟨g, o, none⟩) hg3).trans a0r; replace hWB := hWB.trans (h.mono hWB.size); clear h))
          go_wp2
          go_roundw
          case rel => exact ⟨k + 1, by go_num, by omega, hWB, HN3.out⟩
          case measure => first | (simp [intOf]; omega) | (simp [intOf]; done)
        · have hne2 : (xk != x0 + (k : Int)) = true := by simpa using hne
          have hrf : r = false := by
            cases hrr : r with
            | false => rfl
            | true =>
              have h9 := row11_at L x0 (HR.out.trans hrr) k hkL
              rw [HXK.out] at h9
              exact absurd h9.2 hne
          subst hrf
          clear hne
          go_wp2_with fail
          have hWB := hWB.drew
          go_region_held3 (fun W => W.cell? ⟨b, 0, none⟩ = some (.int .i64 xk) ∧ W.cell? ⟨b, 1, none⟩ = some (.int .i64 yk) ∧ W.cell? ⟨b, 2, none⟩ = some (.int .i64 zk) ∧ W.cell? ⟨b, 3, none⟩ = some (.string dk) ∧ W.cell? ⟨g, o, none⟩ = some (.int .i64 x0)) (first | exact ⟨c0, c1, c2, c3, a0r⟩ | assumption) (first | (go_at_call 50; refine (wmay_v false 0 0 xk yk zk dk true _ hdk HMM.out).mono ?_; rintro e k9 ⟨rfl, h⟩; replace c0 := (h.cell (p := ⟨b, 0, none⟩) hbl).trans c0; replace c1 := (h.cell (p := ⟨b, 1, none⟩) hbl).trans c1; replace c2 := (h.cell (p := ⟨b, 2, none⟩) hbl).trans c2; replace c3 := (h.cell (p := ⟨b, 3, none⟩) hbl).trans c3; replace a0r := (h.cell (p := ⟨g, o, none⟩) hg3).trans a0r; replace hWB := hWB.trans (h.mono hWB.size); clear h))
          go_wp2
          go_ret
          exact ⟨rfl, hWB⟩
      · have hmf : m = false := by simpa using hmt
        subst hmf
        have hrf : r = false := by
          cases hrr : r with
          | false => rfl
          | true =>
            have h9 := row11_at L x0 (HR.out.trans hrr) k hkL
            rw [HXK.out, HM.out] at h9
            exact absurd h9.1 (by simp)
        subst hrf
        go_wp2_with fail
        have hWB := hWB.drew
        have hbl5 : b < W.drew.heap.size := hbl
        replace c0 : W.drew.cell? ⟨b, 0, none⟩ = _ := c0
        replace c1 : W.drew.cell? ⟨b, 1, none⟩ = _ := c1
        replace c2 : W.drew.cell? ⟨b, 2, none⟩ = _ := c2
        replace c3 : W.drew.cell? ⟨b, 3, none⟩ = _ := c3
        refine wp_region_noPanic ?_
        refine wp_region_held_drew (S := fun W => W.cell? ⟨b, 0, none⟩ = some (.int .i64 xk) ∧ W.cell? ⟨b, 1, none⟩ = some (.int .i64 yk) ∧ W.cell? ⟨b, 2, none⟩ = some (.int .i64 zk) ∧ W.cell? ⟨b, 3, none⟩ = some (.string dk)) (by kernel_rfl) ?_ (fun hHeld => ?_)
        · exact ⟨c0, c1, c2, c3⟩
        generalize W.drew = k5 at *
        refine wpAnyH_take (i := 0) (oi := { dst := some 12, op := Op.load 41 (Operand.tmp 4), type := 41, pos := "state.go:87", after := #[], guard := none }) (v := .agg #[.int .i64 xk, .int .i64 yk, .int .i64 zk, .string dk]) rfl (by kernel_rfl) (by kernel_rfl) (by kernel_rfl) (fun _ _ _ h => h) (Or.inl ⟨by rfl, fun w hSw => ?_⟩) (by assumption) ?_
        · (try dsimp only at hSw)
          obtain ⟨q0, q1, q2, q3⟩ := hSw
          go_simp
        try simp only [Act.put, List.setIfInBounds_toArray, List.set_cons_zero, List.set_cons_succ]
        refine wpAnyH_take (i := 1) (oi := { dst := some 13, op := Op.build 76 #[(2, Operand.tmp 12)], type := 76, pos := "state.go:87", after := #[{ on := 0, ground := Ground.data }], guard := none }) (v := .agg #[.bool false, .int .i64 0, .int .i64 0, .int .i64 xk, .int .i64 yk, .int .i64 zk, .string dk]) rfl (by kernel_rfl) (by kernel_rfl) (by kernel_rfl) (fun _ _ _ h => h) (Or.inl ⟨by rfl, fun w hSw => ?_⟩) (by assumption) ?_
        · (try dsimp only at hSw)
          go_simp
        try simp only [Act.put, List.setIfInBounds_toArray, List.set_cons_zero, List.set_cons_succ]
        refine wpAnyH_ready (rs := [2]) (by kernel_rfl) (by simp) ?_
        refine AllReadyH.cons (o := { dst := some 14, op := Op.call { callee := Callee.value (Operand.func 50), args := #[Operand.tmp 13], argTypes := #[76] }, type := 4, pos := "state.go:87", after := #[{ on := 1, ground := Ground.data }], guard := none }) rfl (fun K hK => ?_) AllReadyH.nil
        go_simp
        go_at_call 50
        refine (wmay_v false 0 0 xk yk zk dk false _ hdk HMM.out).mono ?_
        rintro e k9 ⟨rfl, h⟩
        replace hWB := hWB.trans (h.mono hWB.size)
        replace c0 := (h.cell (p := ⟨b, 0, none⟩) hbl5).trans c0
        replace c1 := (h.cell (p := ⟨b, 1, none⟩) hbl5).trans c1
        replace c2 := (h.cell (p := ⟨b, 2, none⟩) hbl5).trans c2
        replace c3 := (h.cell (p := ⟨b, 3, none⟩) hbl5).trans c3
        clear h
        refine hK.out _ _ ?_ (fun hHeld => ?_)
        · exact ⟨c0, c1, c2, c3⟩
        clear hK K
        try simp only [Act.put, List.setIfInBounds_toArray, List.set_cons_zero, List.set_cons_succ]
        refine wpAnyH_take (i := 3) (oi := { dst := some 15, op := Op.unOp UnOp.not 4 (Operand.tmp 14), type := 4, pos := "state.go:87", after := #[{ on := 2, ground := Ground.data }], guard := none }) (v := .bool true) rfl (by kernel_rfl) (by kernel_rfl) (by kernel_rfl) (fun _ _ _ h => h) (Or.inl ⟨by rfl, fun w hSw => ?_⟩) (by assumption) ?_
        · (try dsimp only at hSw)
          go_simp
        try simp only [Act.put, List.setIfInBounds_toArray, List.set_cons_zero, List.set_cons_succ]
        refine wpAnyH_take (i := 4) (oi := { dst := some 16, op := Op.move (Operand.tmp 15), type := 4, pos := "state.go:87", after := #[{ on := 3, ground := Ground.data }, { on := 2, ground := Ground.chain }], guard := none }) (v := .bool true) rfl (by kernel_rfl) (by kernel_rfl) (by kernel_rfl) (fun _ _ _ h => h) (Or.inl ⟨by rfl, fun w hSw => ?_⟩) (by assumption) ?_
        · (try dsimp only at hSw)
          go_simp
        try simp only [Act.put, List.setIfInBounds_toArray, List.set_cons_zero, List.set_cons_succ]
        refine wpAnyH_take (i := 5) (oi := { dst := some 17, op := Op.fieldAddr 41 (Operand.tmp 4) 0, type := 0, pos := "state.go:87", after := #[{ on := 4, ground := Ground.guard }], guard := some (4, false) }) (v := undef) rfl (by kernel_rfl) (by kernel_rfl) (by kernel_rfl) (fun _ _ _ h => h) (Or.inr ⟨by rfl, rfl⟩) (by assumption) ?_
        try simp only [Act.put, List.setIfInBounds_toArray, List.set_cons_zero, List.set_cons_succ]
        refine wpAnyH_take (i := 6) (oi := { dst := some 18, op := Op.load 2 (Operand.tmp 17), type := 2, pos := "state.go:87", after := #[{ on := 5, ground := Ground.data }, { on := 4, ground := Ground.guard }], guard := some (4, false) }) (v := undef) rfl (by kernel_rfl) (by kernel_rfl) (by kernel_rfl) (fun _ _ _ h => h) (Or.inr ⟨by rfl, rfl⟩) (by assumption) ?_
        try simp only [Act.put, List.setIfInBounds_toArray, List.set_cons_zero, List.set_cons_succ]
        refine wpAnyH_take (i := 7) (oi := { dst := some 19, op := Op.move (Operand.tmp 0), type := 22, pos := "state.go:87", after := #[{ on := 4, ground := Ground.guard }], guard := some (4, false) }) (v := undef) rfl (by kernel_rfl) (by kernel_rfl) (by kernel_rfl) (fun _ _ _ h => h) (Or.inr ⟨by rfl, rfl⟩) (by assumption) ?_
        try simp only [Act.put, List.setIfInBounds_toArray, List.set_cons_zero, List.set_cons_succ]
        refine wpAnyH_take (i := 8) (oi := { dst := some 20, op := Op.indexAddr 22 (Operand.tmp 19) (Operand.const (Value.int IntKind.i64 0)), type := 0, pos := "state.go:87", after := #[{ on := 7, ground := Ground.data }, { on := 4, ground := Ground.guard }], guard := some (4, false) }) (v := undef) rfl (by kernel_rfl) (by kernel_rfl) (by kernel_rfl) (fun _ _ _ h => h) (Or.inr ⟨by rfl, rfl⟩) (by assumption) ?_
        try simp only [Act.put, List.setIfInBounds_toArray, List.set_cons_zero, List.set_cons_succ]
        refine wpAnyH_take (i := 9) (oi := { dst := some 21, op := Op.fieldAddr 41 (Operand.tmp 20) 0, type := 0, pos := "state.go:87", after := #[{ on := 8, ground := Ground.data }, { on := 4, ground := Ground.guard }], guard := some (4, false) }) (v := undef) rfl (by kernel_rfl) (by kernel_rfl) (by kernel_rfl) (fun _ _ _ h => h) (Or.inr ⟨by rfl, rfl⟩) (by assumption) ?_
        try simp only [Act.put, List.setIfInBounds_toArray, List.set_cons_zero, List.set_cons_succ]
        refine wpAnyH_take (i := 10) (oi := { dst := some 22, op := Op.load 2 (Operand.tmp 21), type := 2, pos := "state.go:87", after := #[{ on := 9, ground := Ground.data }, { on := 4, ground := Ground.guard }], guard := some (4, false) }) (v := undef) rfl (by kernel_rfl) (by kernel_rfl) (by kernel_rfl) (fun _ _ _ h => h) (Or.inr ⟨by rfl, rfl⟩) (by assumption) ?_
        try simp only [Act.put, List.setIfInBounds_toArray, List.set_cons_zero, List.set_cons_succ]
        refine wpAnyH_take (i := 11) (oi := { dst := some 23, op := Op.move (Operand.tmp 3), type := 3, pos := "state.go:87", after := #[{ on := 4, ground := Ground.guard }], guard := some (4, false) }) (v := undef) rfl (by kernel_rfl) (by kernel_rfl) (by kernel_rfl) (fun _ _ _ h => h) (Or.inr ⟨by rfl, rfl⟩) (by assumption) ?_
        try simp only [Act.put, List.setIfInBounds_toArray, List.set_cons_zero, List.set_cons_succ]
        refine wpAnyH_take (i := 12) (oi := { dst := some 24, op := Op.binOp BinOp.add 2 (Operand.tmp 22) (Operand.tmp 23) 2, type := 2, pos := "state.go:87", after := #[{ on := 10, ground := Ground.data }, { on := 11, ground := Ground.data }, { on := 4, ground := Ground.guard }], guard := some (4, false) }) (v := undef) rfl (by kernel_rfl) (by kernel_rfl) (by kernel_rfl) (fun _ _ _ h => h) (Or.inr ⟨by rfl, rfl⟩) (by assumption) ?_
        try simp only [Act.put, List.setIfInBounds_toArray, List.set_cons_zero, List.set_cons_succ]
        refine wpAnyH_take (i := 13) (oi := { dst := some 25, op := Op.binOp BinOp.neq 2 (Operand.tmp 18) (Operand.tmp 24) 2, type := 4, pos := "state.go:87", after := #[{ on := 6, ground := Ground.data }, { on := 12, ground := Ground.data }, { on := 4, ground := Ground.guard }], guard := some (4, false) }) (v := undef) rfl (by kernel_rfl) (by kernel_rfl) (by kernel_rfl) (fun _ _ _ h => h) (Or.inr ⟨by rfl, rfl⟩) (by assumption) ?_
        try simp only [Act.put, List.setIfInBounds_toArray, List.set_cons_zero, List.set_cons_succ]
        refine wpAnyH_take (i := 14) (oi := { dst := some 26, op := Op.pick (Operand.tmp 16) (Operand.const (Value.bool true)) (Operand.tmp 25), type := 4, pos := "state.go:87", after := #[{ on := 4, ground := Ground.data }, { on := 13, ground := Ground.data }], guard := none }) (v := .bool true) rfl (by kernel_rfl) (by kernel_rfl) (by kernel_rfl) (fun _ _ _ h => h) (Or.inl ⟨by rfl, fun w hSw => ?_⟩) (by assumption) ?_
        · (try dsimp only at hSw)
          go_simp
        try simp only [Act.put, List.setIfInBounds_toArray, List.set_cons_zero, List.set_cons_succ]
        refine wpAnyH_done (by kernel_rfl) ?_ _
        refine NoPanic.normal ?_
        go_wp2
        go_ret
        exact ⟨rfl, hWB⟩
    · have hkn2 : k = n := by omega
      subst hkn2
      have hrt : r = true := by rw [← HR.out]; have := hrow; rw [HL.out, List.take_length] at this; exact this
      subst hrt
      go_wp2
      go_ret
      exact ⟨rfl, hbw⟩
theorem OwnEn.set_same {B n c k : Nat} {g : Nat} {L : List Ent} {w : World} {dt : ByteArray} (h : OwnEn B (.slice (some ⟨g, 0, none⟩) n c) L w) (hk : k < L.length) (hd : L[k].data = dt) : OwnEn B (.slice (some ⟨g, 0, none⟩) n c) L (w.setCell ⟨g, k * 4 + 3, none⟩ (.string dt)) := by
  refine ⟨h.1, ?_⟩
  rcases h.2 with ⟨hv, _⟩ | ⟨g', c', cur, hv, hB, hg, h1, h2, h3, h4⟩
  · cases hv
  · injection hv with e1 e2 e3
    injection e1 with e1; injection e1 with e1
    subst e1; subst e3; subst e2
    have hf := eflat_at L k hk 3 (.string dt) (by rw [← hd]; rfl)
    have hcur : cur.toList[k * 4 + 3]? = some (.string dt) := by
      have h5 := List.getElem?_take (l := cur.toList) (i := L.length * 4) (j := k * 4 + 3)
      rw [h4, if_pos (by omega)] at h5
      rw [← h5]; exact hf
    have hs : cur.setIfInBounds (k * 4 + 3) (.string dt) = cur := by
      apply Array.ext_getElem?
      intro i
      rw [Array.getElem?_setIfInBounds]
      split
      · rename_i he
        subst he
        rw [Array.getElem?_toList] at hcur
        split
        · exact hcur.symm
        · rename_i hx
          rw [Array.getElem?_eq_none (by omega)] at hcur; cases hcur
      · rfl
    refine .inr ⟨g, c, cur, rfl, hB, ?_, h1, h2, h3, h4⟩
    have := heap_setCell_same w g (k * 4 + 3) _ _ (.string dt) hg
    rw [hs] at this; exact this
set_option maxHeartbeats 400000 in
theorem kcopyE_any (N : Nat → Prop) (A : Option Addr) (n c : Nat) (L : List Ent) (w : World) (h : Ens N w (.slice A n c) L) (hl : L.length ≤ 1050000) (hd : ∀ e ∈ L, e.data.size ≤ 1050000) :
    Calls Tryd.prog 29 #[.slice A n c] w fun e w' => ∃ v, e = .returned v ∧ OwnEn w.heap.size v L w' ∧ Below w.heap.size w w' := by
  go_enter Tryd.func29, Tryd.ntmps29
  go_wp2_with fail
  refine (kclone_any N A n c L w h hl).mono ?_
  rintro e w1 ⟨v, rfl, hO, hB⟩
  obtain ⟨A1, c1, rfl⟩ := hO.slice
  obtain ⟨q, hq⟩ : ∃ q, L.length = q := ⟨_, rfl⟩
  rw [hq] at hO hl ⊢
  have HQ := Lib.hid hq
  clear hq h
  go_wp2_with fail
  go_loopw [10] (fun i wr => ∃ k : Nat, i = .int .i64 k ∧ k ≤ q ∧ OwnEn w.heap.size (.slice A1 q c1) L wr ∧ Below w.heap.size w wr) (fun i _ => q - (intOf i).toNat)
  case atStart => exact ⟨0, rfl, Nat.zero_le _, hO, hB⟩
  case round =>
    clear hO hB
    obtain ⟨k, rfl, hk, hO, hB⟩ := hrel
    by_cases hkn : k < q
    · have hkL : k < L.length := by rw [HQ.out]; exact hkn
      have hki : (k : Int) < (q : Int) := by omega
      obtain ⟨⟨xk, yk, zk, dk⟩, hxk⟩ : ∃ x, L[k] = x := ⟨_, rfl⟩
      obtain ⟨g, o, e2, hg, b0, b1, b2, b3⟩ := (Ens.of_own hO).four k hkL hxk
      have ho : o = 0 := by
        rcases hO.2 with ⟨hv, _⟩ | ⟨g', c', cur, hv, _⟩
        · rw [e2] at hv; cases hv
        · rw [e2] at hv; injection hv with e1; injection e1 with e1; injection e1
      subst ho; subst e2
      have hdk : dk.size ≤ 1050000 := by have := hd L[k] (List.getElem_mem hkL); rw [hxk] at this; exact this
      have hgB : w.heap.size ≤ g := (hO.lt g rfl).1
      have HXK := Lib.hid hxk
      rw [Nat.zero_add] at b0 b1 b2 b3
      clear hxk
      go_wp2_with fail
      obtain ⟨b, hb⟩ : ∃ b, wr.heap.size = b := ⟨_, rfl⟩
      obtain ⟨W, hW⟩ : ∃ W, wr.alloc (.cells #[.int .i64 xk, .int .i64 yk, .int .i64 zk, .string dk] 41) = W := ⟨_, rfl⟩
      have hO2 : OwnEn w.heap.size (.slice (some ⟨g, 0, none⟩) q c1) L W := by rw [← hW]; exact hO.below (below_new _ _)
      have hB2 : Below w.heap.size w W := by rw [← hW]; exact hB.alloc hB.size _
      rw [hW, hb]
      clear hW hO hB b0 b1 b2 b3 hb hg
      refine (clone_any dk W (by omega)).mono ?_
      rintro e w2 ⟨rfl, h2⟩
      have hO3 := hO2.below h2
      have hB3 := hB2.trans (h2.mono hB2.size)
      have hc3 := hO3.cells
      have f3 := hc3.2 (k * 4 + 3)
      obtain ⟨u3, hu3⟩ := Option.isSome_iff_exists.1 (hc3.1 (k * 4 + 3) (by have := (Ens.of_own hO3).len.2; omega))
      have hO4 := hO3.set_same (dt := dk) hkL (by rw [HXK.out])
      have hB4 := hB3.setCell (p := ⟨g, k * 4 + 3, none⟩) hgB (.string dk)
      clear hO2 hB2 h2 hO3 hB3 hc3
      go_wp2
      go_roundw
      case rel => exact ⟨k + 1, by go_num, by omega, hO4, hB4⟩
      case measure => first | (simp [intOf]; omega) | (simp [intOf]; done)
    · have hkn2 : k = q := by omega
      subst hkn2
      go_wp2
      go_ret
      exact ⟨_, rfl, hO, hB⟩
set_option maxHeartbeats 400000 in
theorem kaddE_any (B : Nat) (A : Option Addr) (n c : Nat) (L : List Ent) (w : World) (v : Value) (h : Ens (fun j => ¬ v.ownBlock = some j) w (.slice A n c) L) (hB : B ≤ w.heap.size) (hl : L.length ≤ 400) (hd : ∀ e ∈ L, e.data.size ≤ 1050000) (b : List UInt8) (hv : OwnB B v b w) (hb : b.length ≤ 1050000) (hT : Tbl w) (hB2 : 0 < B) :
    Calls Tryd.prog 27 #[v, .slice A n c] w fun e w' => ∃ v', e = .returned v' ∧ OwnB B v' (b ++ encs10 (L.map entR)) w' ∧ Below B w w' ∧ Off (fun j => v.ownBlock = some j) w w' := by
  have hnL : n = L.length := h.len.1
  have hnc : n ≤ c := h.len.2
  have HL := Lib.hid hnL
  have HE := Lib.hid h
  have HT := Lib.hid hT
  have hn4 : n ≤ 400 := by omega
  clear hnL h hT
  go_enter Tryd.func27, Tryd.ntmps27
  go_wp2_with fail
  go_loopw [0, 9] (fun u i wr => ∃ k : Nat, i = .int .i64 k ∧ k ≤ n ∧ OwnB B u (b ++ encs10 ((L.take k).map entR)) wr ∧ Below B w wr ∧ Off (fun j => v.ownBlock = some j) w wr ∧ (u.ownBlock = v.ownBlock ∨ ∀ j, u.ownBlock = some j → w.heap.size ≤ j)) (fun _ i _ => n - (intOf i).toNat)
  case atStart => exact ⟨0, rfl, Nat.zero_le _, by simpa [encs10] using hv, Below.refl _ _, Off.refl _ _, .inl rfl⟩
  case round =>
    clear hv
    obtain ⟨k, rfl, hk, hO, hw, hof, hown⟩ := hrel
    by_cases hkn : k < n
    · have hkL : k < L.length := by rw [← HL.out]; exact hkn
      have hki : (k : Int) < (n : Int) := by omega
      obtain ⟨⟨xk, yk, zk, dk⟩, hxk⟩ : ∃ x, L[k] = x := ⟨_, rfl⟩
      have hEr := HE.out.off hof
      obtain ⟨g, o, e2, hg, b0, b1, b2, b3⟩ := hEr.four k hkL hxk
      subst e2
      have hdk : dk.size ≤ 1050000 := by have := hd L[k] (List.getElem_mem hkL); rw [hxk] at this; exact this
      have hTr := tbl_keep2 HT.out hw hB2
      have hBr : B ≤ wr.heap.size := Nat.le_trans hB hw.size
      obtain ⟨l, hl2⟩ : ∃ l, b ++ encs10 ((L.take k).map entR) = l := ⟨_, rfl⟩
      have hll : l.length ≤ 1050000 + 2607 * 400 := by
        have h1 := encs10_len ((L.take k).map entR)
        rw [List.length_map, List.length_take, Nat.min_eq_left (by omega)] at h1
        rw [← hl2, List.length_append]; omega
      obtain ⟨m, hm⟩ : ∃ m, encR10 ⟨false, 0, 0, ⟨xk, yk, zk, dk⟩⟩ = m := ⟨_, rfl⟩
      have hml : m.length ≤ 2607 := by rw [← hm]; exact enc10_short _
      have hnext : b ++ encs10 ((L.take (k + 1)).map entR) = l ++ m := by
        rw [List.take_succ_eq_append_getElem hkL, hxk, List.map_append, ← hl2, ← hm]
        unfold encs10
        rw [List.flatMap_append, List.append_assoc]
        simp [entR]
      rw [hl2] at hO
      obtain ⟨A9, c9, hv9⟩ := own_slice hO
      obtain ⟨q, hq⟩ : ∃ q, l.length = q := ⟨_, rfl⟩
      rw [hq] at hv9
      subst hv9
      have HM := Lib.hid hm
      have HN := Lib.hid hnext
      have HLL := Lib.hid (show l.length + m.length ≤ 140737488355328 by omega)
      clear hxk hl2 hll hm hml hnext hEr hq
      go_wp2_with fail
      obtain ⟨W, hW⟩ : ∃ W, wr.alloc (.cells #[.int .i64 xk, .int .i64 yk, .int .i64 zk, .string dk] 41) = W := ⟨_, rfl⟩
      have hO2 : OwnB B (.slice A9 q c9) l W := by rw [← hW]; exact hO.below (below_new _ _)
      have hw2 : Below B w W := by rw [← hW]; exact hw.alloc hBr _
      have hof2 : Off (fun j => v.ownBlock = some j) w W := by rw [← hW]; exact hof.then_ (below_new _ _)
      have hT2 : Tbl W := by rw [← hW]; exact tbl_keep hTr (below_new _ _)
      have hBr2 : B ≤ W.heap.size := by rw [← hW]; simp; omega
      rw [hW]
      clear hW hO hw hTr hBr b0 b1 b2 b3 hg hof
      refine (wenc_v false 0 0 xk yk zk dk m _ hdk hT2 HM.out).mono ?_
      rintro e w2 ⟨v2, rfl, hv2, h2⟩
      have hO3 := hO2.below h2
      have hw3 := hw2.trans (h2.mono hBr2)
      have hof3 := hof2.then_ h2
      have hby := Byt.of_own hv2
      have hBr3 : B ≤ w2.heap.size := Nat.le_trans hBr2 h2.size
      clear hO2 hw2 h2 hT2 hBr2
      go_wp2_with (at_builtin; refine wpList_append_byt_at rfl _ _ rfl B _ _ _ _ _ rfl hO3 rfl hby HLL.out hBr3 ?_)
      intro v3 w3 hO4 hb4 g4
      have g4 : Grew (.slice A9 q c9) w2 v3 w3 := g4
      have hof4 := hof3.grown g4.1 (fun j hj => by
        rcases hown with ho | ho
        · exact .inl (by rw [← ho]; exact hj)
        · exact .inr (ho j hj))
      have hown4 : v3.ownBlock = v.ownBlock ∨ ∀ j, v3.ownBlock = some j → w.heap.size ≤ j := by
        rcases g4.2 with e | e
        · rw [e]; exact hown
        · exact .inr fun j hj => by rw [e] at hj; injection hj with hj; have := hof3.size; omega
      rw [← HN.out] at hO4
      have hw4 := hw3.trans hb4
      clear hO3 hby hw3 hb4 g4 hof3 hof2
      go_wp2
      go_roundw
      case rel => exact ⟨k + 1, by go_num, by omega, hO4, hw4, hof4, hown4⟩
      case measure => first | (simp [intOf]; omega) | (simp [intOf]; done)
    · have hkn2 : k = n := by omega
      subst hkn2
      rw [HL.out, List.take_length] at hO
      go_wp2
      go_ret
      exact ⟨_, rfl, hO, hw, hof⟩
end Go.Proofs.YtbiecoifeeikpaaDoor
/-
  Package keep's State: put, take, check, term, behind, copy.
  There are no conditions beyond those that each lemma names.
-/
set_option linter.unusedSimpArgs false
set_option linter.unusedVariables false
namespace Go.Proofs.YtbiecoifeeikpaaDoor
open Go.RowKit Go.Deep
set_option maxRecDepth 100000

def tm11 (st : Int) (L : List Ent) : Nat → Int
  | 0 => st
  | n + 1 => ((L[n]?).getD noEnt).et
theorem wrap64_in11 (n : Int) (h : -9223372036854775808 ≤ n ∧ n ≤ 9223372036854775807) : wrap64 n = n := by unfold wrap64; omega
theorem own_ne11 {T : TypeId} {g B : Nat} {cs : List Value} {v : Value} {L : List Ent} {w : World} (hT : T ≠ 41) (hx : Rt w g T cs) (hO : OwnEn B v L w) : v.ownBlock ≠ some g := by
  intro h
  rcases hO.2 with ⟨hv, _⟩ | ⟨g', c', cur, hv, _, hg, _⟩
  · rw [hv] at h; cases h
  · rw [hv] at h
    have e : g' = g := Option.some.inj (show some g' = some g from h)
    subst e
    unfold Rt at hx
    rw [hx] at hg
    injection hg with hg
    injection hg with _ h4 _
    exact hT h4
theorem Rt.grown11 {w w' : World} {g : Nat} {r : Option Nat} {t : TypeId} {cs : List Value} (h : Rt w g t cs) (hb : w.grownBy w' r) (hne : r ≠ some g) : Rt w' g t cs := (hb.block g h.lt (fun e => hne e.symm)).trans h
set_option maxHeartbeats 400000 in
theorem kput_any (T : TypeId) (g o : Nat) (cs : List Value) (k : Kst) (i : Int) (l : List Ent) (A : Option Addr) (m c : Nat) (a : Addr) (p d : Nat) (N : Nat → Prop) (w : World) (hT : T ≠ 41) (hx : Rt w g T cs) (h2 : cs[o + 2]? = some (.int .i64 k.s.ix)) (h6 : cs[o + 6]? = some (.slice A m c)) (hO : OwnEn 0 (.slice A m c) k.log w)
    (hE : Ens N w (.slice (some a) p d) l) (hp : 0 < p) (hi : l[0]?.map (·.ix) = some i) (hf : fits11 k i = true) (hl : k.log.length + l.length ≤ 1050000) (hix : 0 ≤ k.s.ix ∧ k.s.ix ≤ 1099511627776) :
    Calls Tryd.prog 28 #[.pointer (some ⟨g, o, none⟩), .slice (some a) p d] w fun e w' => ∃ v', e = .returned (.tuple #[]) ∧ Rt w' g T (cs.set (o + 6) v') ∧ OwnEn 0 v' (put11 k i l).log w' ∧ (v'.ownBlock = (Value.slice A m c).ownBlock ∨ v'.ownBlock = some w.heap.size) ∧ Off (fun j => j = g ∨ (Value.slice A m c).ownBlock = some j) w w' := by
  have c2 := hx.cell h2
  have c6 := hx.cell h6
  have hff := fits11_is.1 hf
  have hpl := hE.len.1
  have hml : m = k.log.length := (Ens.of_own hO).len.1
  obtain ⟨⟨x0, y0, z0, d0⟩, hx0⟩ : ∃ x, l[0]'(by omega) = x := ⟨_, rfl⟩
  have hi0 : x0 = i := by
    rw [List.getElem?_eq_getElem (by omega), hx0] at hi
    simpa using hi
  subst hi0
  obtain ⟨g2, o2, e2, _, b0, _, _, _⟩ := hE.four 0 (by omega) hx0
  injection e2 with e2
  subst e2
  rw [show o2 + 0 * 4 = o2 by omega] at b0
  obtain ⟨q, hq⟩ : ∃ q : Nat, x0 - k.s.ix - 1 = (q : Int) := ⟨(x0 - k.s.ix - 1).toNat, (Int.toNat_of_nonneg (by omega)).symm⟩
  have hqm : q ≤ m := by clear hO hE hx h2 h6 c2 c6 hx0; omega
  have hw1 : wrap64 (x0 - k.s.ix) = x0 - k.s.ix := by exact wrap64_in11 _ (by omega)
  have hw2 : wrap64 (q : Int) = q := by exact wrap64_in11 _ (by omega)
  have hne := own_ne11 hT hx hO
  have hput : (put11 k x0 l).log = k.log.take q ++ l := by unfold put11; rw [hq]; rfl
  rw [hput]
  obtain ⟨nn, hnn⟩ : ∃ nn, (k.log.take q ++ l).length = nn := ⟨_, rfl⟩
  have HNN := Lib.hid hnn
  clear hnn
  have HO := Lib.hid hO
  have HE := Lib.hid hE
  have HX := Lib.hid hx
  have HL := Lib.hid hl
  have HNE := Lib.hid hne
  have HM := Lib.hid hml
  clear hO hE hx hl hne hml hput hf hi hpl hx0
  go_enter Tryd.func28, Tryd.ntmps28
  go_wp2_with fail
  go_quiet (fail)
  go_wp2_with fail
  simp only [hw1, hq, hw2]
  obtain ⟨W, hW⟩ : ∃ W, w.drewN nq = W := ⟨_, rfl⟩
  have hWo : Off (fun j => j = g ∨ (Value.slice A m c).ownBlock = some j) w W := by rw [← hW]; exact ⟨rfl, rfl, rfl, Nat.le_refl _, fun _ _ _ => rfl⟩
  have hsz : W.heap.size = w.heap.size := by rw [← hW]; rfl
  have c6W : W.cell? ⟨g, o + 6, none⟩ = some (.slice A m c) := by rw [← hW]; exact c6
  have HOW := Lib.hid (show OwnEn 0 (.slice A m c) k.log W by rw [← hW]; exact HO.out)
  have HEW := Lib.hid (show Ens N W (.slice (some ⟨g2, o2, none⟩) p d) l by rw [← hW]; exact HE.out)
  have HXW := Lib.hid (show Rt W g T cs by rw [← hW]; exact HX.out)
  rw [hW]
  clear hW HO HE HX c6 c2 b0
  go_region_with (go_at_call 47; refine (kreplace_any N A q m c p d _ k.log l W.drew HOW.out HEW.out hp hqm HL.out).mono ?_; rintro e k9 ⟨v', rfl, g1, g2⟩; have hxk := Rt.grown11 (w := W.drew) HXW.out g2.1 HNE.out; have ck := hxk.cell h6; have fk := hxk.frz (o + 6); (obtain ⟨A2, d2, hv2⟩ := g1.slice); rw [HNN.out] at hv2; subst hv2)
  all_goals (
    have hend : ∃ v', Ending.returned (.tuple #[]) = Ending.returned (.tuple #[]) ∧ Rt (k9.setCell ⟨g, o + 6, none⟩ (.slice A2 nn d2)) g T (cs.set (o + 6) v') ∧ OwnEn 0 v' (k.log.take q ++ l) (k9.setCell ⟨g, o + 6, none⟩ (.slice A2 nn d2)) ∧ (v'.ownBlock = (Value.slice A m c).ownBlock ∨ v'.ownBlock = some w.heap.size) ∧ Off (fun j => j = g ∨ (Value.slice A m c).ownBlock = some j) w (k9.setCell ⟨g, o + 6, none⟩ (.slice A2 nn d2)) := by
      refine ⟨.slice A2 nn d2, rfl, hxk.set _ _, g1.off (S := fun j => j = g) ((Off.refl _ _).set (.inl rfl)) (fun j hj e => ?_), by rw [← hsz]; exact g2.2, (hWo.drew.grown g2.1 (fun j hj => .inl (.inr hj))).set (.inl (.inl rfl))⟩
      subst e
      exact own_ne11 hT hxk g1 hj
    exact Go.Great.bodyPost_end0 rfl rfl hend)
theorem below_dn {B : Nat} {w w' : World} (h : Below B w w') (n : Nat) : Below B w (w'.drewN n) := ⟨h.os, h.tape, h.output, h.size, h.block⟩
end Go.Proofs.YtbiecoifeeikpaaDoor
/-
  Package keep's State: check, behind, copy, take.
  There are no conditions beyond those that each lemma names.
-/
set_option linter.unusedSimpArgs false
set_option linter.unusedVariables false
namespace Go.Proofs.YtbiecoifeeikpaaDoor
open Go.RowKit Go.Deep
set_option maxRecDepth 100000

theorem write11_1 {k : Kst} {l : List Ent} {i : Int} (h0 : 0 < l.length) (hi : l[0].ix = i) : write11 k l = (if fits11 k i = true ∧ row11 i l = true then (if i + ((l.length : Int) - 1) - k.s.ix > 200 then (5, k) else (0, put11 k i l)) else (1, k)) := by
  cases l with
  | nil => simp at h0
  | cons e t =>
    simp only [List.getElem_cons_zero] at hi
    subst hi
    unfold write11
    simp only [List.length_cons]
    have : e.ix + (((t.length + 1 : Nat) : Int) - 1) - k.s.ix = e.ix + (t.length : Int) - k.s.ix := by omega
    simp only [this]
set_option maxHeartbeats 400000 in
theorem kcheck_any (g o : Nat) (k : Kst) (l : List Ent) (A : Option Addr) (m c : Nat) (a : Addr) (p d : Nat) (N : Nat → Prop) (w : World) (h2 : w.cell? ⟨g, o + 2, none⟩ = some (.int .i64 k.s.ix)) (h6 : w.cell? ⟨g, o + 6, none⟩ = some (.slice A m c)) (hm : m = k.log.length)
    (hE : Ens N w (.slice (some a) p d) l) (hp : 0 < p) (i : Int) (h0 : 0 < l.length) (hi : l[0].ix = i) (hb : -9223372036854775808 ≤ i ∧ i ≤ 9223372036854775807) (hix : 0 ≤ k.s.ix ∧ k.s.ix ≤ 1099511627776) (hm2 : m ≤ 1050000) (hl : l.length ≤ 1050000) (hd : ∀ e ∈ l, e.data.size ≤ 1050000) (r : Int) (hr : (write11 k l).1 = r) :
    Calls Tryd.prog 25 #[.pointer (some ⟨g, o, none⟩), .slice (some a) p d] w fun e w' => e = .returned (.int .i64 r) ∧ Below w.heap.size w w' := by
  rw [write11_1 h0 hi] at hr
  obtain ⟨⟨x0, y0, z0, d0⟩, hx0⟩ : ∃ x, l[0] = x := ⟨_, rfl⟩
  have hi2 : x0 = i := by rw [hx0] at hi; exact hi
  subst hi2
  obtain ⟨g2, o2, e2, hg2, b0, _, _, _⟩ := hE.four 0 h0 hx0
  injection e2 with e2
  subst e2
  rw [show o2 + 0 * 4 = o2 by omega] at b0
  have hpl := hE.len.1
  obtain ⟨f, hf⟩ : ∃ f, fits11 k x0 = f := ⟨_, rfl⟩
  obtain ⟨q, hq⟩ : ∃ q, row11 x0 l = q := ⟨_, rfl⟩
  rw [hf, hq] at hr
  have hf2 : (decide (k.s.ix < x0) && decide (x0 ≤ k.s.ix + (m : Int) + 1)) = f := by rw [← hf, hm]; rfl
  have HI := Lib.hid hi
  have HQ := Lib.hid hq
  have HF := Lib.hid hf2
  have HFF := Lib.hid hf
  have HE := Lib.hid hE
  have HP := Lib.hid hpl
  have HM := Lib.hid hm
  have hp2 : p ≤ 1050000 := by omega
  have hgl := cell_lt h2
  have hgl2 := cell_lt h6
  clear hf hq hf2 hi hx0 hpl hm
  go_enter Tryd.func25, Tryd.ntmps25
  go_wp2_with fail
  refine (kfits_any g o k.s.ix x0 A m c _ h2 h6 hix hm2 f HF.out).mono ?_
  rintro e w1 ⟨rfl, hb1⟩
  cases f with
  | false =>
    rw [if_neg (by simp)] at hr
    subst hr
    go_wp2
    go_ret
    exact ⟨rfl, hb1⟩
  | true =>
    go_wp2_with fail
    refine (kinRow_any N _ p d l w1 (HE.out.below hb1) hl hd x0 h0 HI.out hb q HQ.out).mono ?_
    rintro e w2 ⟨rfl, hb2⟩
    have hB := hb1.trans (hb2.mono hb1.size)
    cases q with
    | false =>
      rw [if_neg (by simp)] at hr
      subst hr
      go_wp2
      go_ret
      exact ⟨rfl, hB⟩
    | true =>
      rw [if_pos (by simp)] at hr
      have h2b := (hB.cell (p := ⟨g, o + 2, none⟩) hgl).trans h2
      obtain ⟨⟨xk, yk, zk, dk⟩, hxk⟩ : ∃ x, l[p - 1]'(by have := HP.out; omega) = x := ⟨_, rfl⟩
      have hrk := row11_at l x0 HQ.out (p - 1) (by have := HP.out; omega)
      rw [hxk] at hrk
      simp only at hrk
      have hmk := mayEnt10_is hrk.1
      simp only at hmk
      have hpk : ((p - 1 : Nat) : Int) = (p : Int) - 1 := by omega
      obtain ⟨g3, o3, e3, _, a0, _, _, _⟩ := (HE.out.below hB).four (p - 1) (by have := HP.out; omega) hxk
      injection e3 with e3
      injection e3 with e3 e4 _
      subst e3; subst e4
      have hpi : (p : Int) - 1 < p := by omega
      have hpi0 : (0 : Int) ≤ (p : Int) - 1 := by omega
      have hxe : xk = x0 + ((l.length : Int) - 1) := by rw [hrk.2, ← HP.out]; omega
      rw [← hxe] at hr
      have hlw : -9223372036854775808 ≤ xk - k.s.ix ∧ xk - k.s.ix ≤ 9223372036854775807 := by omega
      by_cases hgt : xk - k.s.ix > 200
      · rw [if_pos hgt] at hr
        subst hr
        have hti : ((p : Int) - 1).toNat = p - 1 := by omega
        clear hrk hxe hmk hxk hb1 hb2 hpk
        go_wp2_with fail
        go_quiet (fail)
        have hB := below_dn hB nq
        go_wp2
        go_ret
        exact ⟨rfl, hB⟩
      · rw [if_neg hgt] at hr
        subst hr
        have hti : ((p : Int) - 1).toNat = p - 1 := by omega
        clear hrk hxe hmk hxk hb1 hb2 hpk
        go_wp2_with fail
        go_quiet (fail)
        have hB := below_dn hB nq
        go_wp2
        go_ret
        exact ⟨rfl, hB⟩
end Go.Proofs.YtbiecoifeeikpaaDoor
/-
  Package keep's State.copy and take.
  There are no conditions beyond those that each lemma names.
-/
set_option linter.unusedSimpArgs false
set_option linter.unusedVariables false
namespace Go.Proofs.YtbiecoifeeikpaaDoor
open Go.RowKit Go.Deep
set_option maxRecDepth 100000

/-- a row of entries stands where a box of another type is written -/
theorem ownsRow_setb {T : TypeId} {B b : Nat} {cs : List Value} {v : Value} {L : List Ent} {w : World} (h : OwnEn B v L w) (hy : Rt w b T cs) (hT : T ≠ 41) (v0 v1 v2 v3 v4 v5 v6 : Value) :
    OwnEn B v L (((((((w.setCell ⟨b, 0, none⟩ v0).setCell ⟨b, 1, none⟩ v1).setCell ⟨b, 2, none⟩ v2).setCell ⟨b, 3, none⟩ v3).setCell ⟨b, 4, none⟩ v4).setCell ⟨b, 5, none⟩ v5).setCell ⟨b, 6, none⟩ v6) := by
  have key : ∀ (j : Nat) (u : Value) (w : World) (cs : List Value), OwnEn B v L w → Rt w b T cs → OwnEn B v L (w.setCell ⟨b, j, none⟩ u) := fun j u w cs h hy =>
    h.off (S := fun i => i = b) ((Off.refl _ w).set (.inl rfl)) fun i hi e => by subst e; exact own_ne11 hT hy h hi
  have h0 := key 0 v0 _ _ h hy
  have y0 := hy.set 0 v0
  have h1 := key 1 v1 _ _ h0 y0
  have y1 := y0.set 1 v1
  have h2 := key 2 v2 _ _ h1 y1
  have y2 := y1.set 2 v2
  have h3 := key 3 v3 _ _ h2 y2
  have y3 := y2.set 3 v3
  have h4 := key 4 v4 _ _ h3 y3
  have y4 := y3.set 4 v4
  have h5 := key 5 v5 _ _ h4 y4
  have y5 := y4.set 5 v5
  exact key 6 v6 _ _ h5 y5
set_option maxHeartbeats 400000 in
theorem kcopy_any (T : TypeId) (g o : Nat) (ht hv ix st : Int) (cf dt : ByteArray) (log : List Ent) (A : Option Addr) (m c : Nat) (w : World) (a0 : w.cell? ⟨g, o, none⟩ = some (.int .i64 ht)) (a1 : w.cell? ⟨g, o + 1, none⟩ = some (.int .i64 hv)) (a2 : w.cell? ⟨g, o + 2, none⟩ = some (.int .i64 ix)) (a3 : w.cell? ⟨g, o + 3, none⟩ = some (.int .i64 st)) (a4 : w.cell? ⟨g, o + 4, none⟩ = some (.string cf)) (a5 : w.cell? ⟨g, o + 5, none⟩ = some (.string dt)) (a6 : w.cell? ⟨g, o + 6, none⟩ = some (.slice A m c)) (N : Nat → Prop) (hE : Ens N w (.slice A m c) log)
    (hc : cf.size ≤ 1050000) (hd : dt.size ≤ 1050000) (hl : log.length ≤ 1050000) (hdd : ∀ e ∈ log, e.data.size ≤ 1050000) :
    Calls Tryd.prog 37 #[.pointer (some ⟨g, o, none⟩)] w fun e w' => ∃ v, e = .returned (.agg #[.int .i64 ht, .int .i64 hv, .int .i64 ix, .int .i64 st, .string cf, .string dt, v]) ∧ OwnEn w.heap.size v log w' ∧ Below w.heap.size w w' := by
  have HE := Lib.hid hE
  have hgl := cell_lt a0
  obtain ⟨b, hb⟩ : ∃ b, w.heap.size = b := ⟨_, rfl⟩
  clear hE
  rw [hb] at hgl
  go_enter Tryd.func37, Tryd.ntmps37
  go_wp2_with fail
  obtain ⟨W0, hW0⟩ : ∃ W0, w.alloc (.cells #[.int .i64 0, .int .i64 0, .int .i64 0, .int .i64 0, .string ⟨#[]⟩, .string ⟨#[]⟩, .slice none 0 0] 52) = W0 := ⟨_, rfl⟩
  have hy : Rt W0 b 52 [.int .i64 0, .int .i64 0, .int .i64 0, .int .i64 0, .string ⟨#[]⟩, .string ⟨#[]⟩, .slice none 0 0] := by rw [← hW0, ← hb]; exact Rt.new _ _ _
  have hB : Below b w W0 := by rw [← hW0, ← hb]; exact below_new _ _
  rw [hW0]
  clear hW0
  replace hy : Rt W0.drew b _ _ := hy
  replace hB : Below b w W0.drew := hB.drew
  refine wp_region_noPanic ?_
  refine wp_region_held_drew (S := fun W => Below b w W) (by kernel_rfl) ?_ (fun hHeld => ?_)
  · exact hB
  generalize W0.drew = k5 at *
  refine wpAnyH_take (i := 0) (oi := { dst := some 3, op := Op.move (Operand.tmp 0), type := 95, pos := "state.go:118", after := #[], guard := none }) (v := .pointer (some ⟨g, o, none⟩)) rfl (by kernel_rfl) (by kernel_rfl) (by kernel_rfl) (fun _ _ _ h => h) (Or.inl ⟨by rfl, fun w hSw => ?_⟩) (by assumption) ?_
  · (try dsimp only at hSw)
    go_simp
  try simp only [Act.put, List.setIfInBounds_toArray, List.set_cons_zero, List.set_cons_succ]
  refine wpAnyH_take (i := 1) (oi := { dst := some 4, op := Op.nilCheck (Operand.tmp 3), type := 0, pos := "state.go:118", after := #[{ on := 0, ground := Ground.data }], guard := none }) (v := .pointer (some ⟨g, o, none⟩)) rfl (by kernel_rfl) (by kernel_rfl) (by kernel_rfl) (fun _ _ _ h => h) (Or.inl ⟨by rfl, fun w hSw => ?_⟩) (by assumption) ?_
  · (try dsimp only at hSw)
    go_simp
  try simp only [Act.put, List.setIfInBounds_toArray, List.set_cons_zero, List.set_cons_succ]
  refine wpAnyH_take (i := 2) (oi := { dst := some 5, op := Op.fieldAddr 52 (Operand.tmp 4) 0, type := 0, pos := "state.go:118", after := #[{ on := 1, ground := Ground.data }], guard := none }) (v := .pointer (some ⟨g, o, none⟩)) rfl (by kernel_rfl) (by kernel_rfl) (by kernel_rfl) (fun _ _ _ h => h) (Or.inl ⟨by rfl, fun w hSw => ?_⟩) (by assumption) ?_
  · (try dsimp only at hSw)
    go_simp
  try simp only [Act.put, List.setIfInBounds_toArray, List.set_cons_zero, List.set_cons_succ]
  refine wpAnyH_take (i := 3) (oi := { dst := some 6, op := Op.load 24 (Operand.tmp 5), type := 24, pos := "state.go:118", after := #[{ on := 2, ground := Ground.data }], guard := none }) (v := .agg #[.int .i64 ht, .int .i64 hv]) rfl (by kernel_rfl) (by kernel_rfl) (by kernel_rfl) (fun _ _ _ h => h) (Or.inl ⟨by rfl, fun w hSw => ?_⟩) (by assumption) ?_
  · (try dsimp only at hSw)
    have q0 := (hSw.cell (p := ⟨g, o, none⟩) hgl).trans a0
    have q1 := (hSw.cell (p := ⟨g, o + 1, none⟩) hgl).trans a1
    go_simp
  try simp only [Act.put, List.setIfInBounds_toArray, List.set_cons_zero, List.set_cons_succ]
  refine wpAnyH_take (i := 4) (oi := { dst := some 7, op := Op.move (Operand.tmp 0), type := 95, pos := "state.go:118", after := #[], guard := none }) (v := .pointer (some ⟨g, o, none⟩)) rfl (by kernel_rfl) (by kernel_rfl) (by kernel_rfl) (fun _ _ _ h => h) (Or.inl ⟨by rfl, fun w hSw => ?_⟩) (by assumption) ?_
  · (try dsimp only at hSw)
    go_simp
  try simp only [Act.put, List.setIfInBounds_toArray, List.set_cons_zero, List.set_cons_succ]
  refine wpAnyH_take (i := 5) (oi := { dst := some 8, op := Op.nilCheck (Operand.tmp 7), type := 0, pos := "state.go:118", after := #[{ on := 4, ground := Ground.data }], guard := none }) (v := .pointer (some ⟨g, o, none⟩)) rfl (by kernel_rfl) (by kernel_rfl) (by kernel_rfl) (fun _ _ _ h => h) (Or.inl ⟨by rfl, fun w hSw => ?_⟩) (by assumption) ?_
  · (try dsimp only at hSw)
    go_simp
  try simp only [Act.put, List.setIfInBounds_toArray, List.set_cons_zero, List.set_cons_succ]
  refine wpAnyH_take (i := 6) (oi := { dst := some 9, op := Op.fieldAddr 52 (Operand.tmp 8) 1, type := 0, pos := "state.go:118", after := #[{ on := 5, ground := Ground.data }], guard := none }) (v := .pointer (some ⟨g, o + 2, none⟩)) rfl (by kernel_rfl) (by kernel_rfl) (by kernel_rfl) (fun _ _ _ h => h) (Or.inl ⟨by rfl, fun w hSw => ?_⟩) (by assumption) ?_
  · (try dsimp only at hSw)
    go_simp
  try simp only [Act.put, List.setIfInBounds_toArray, List.set_cons_zero, List.set_cons_succ]
  refine wpAnyH_take (i := 7) (oi := { dst := some 10, op := Op.load 33 (Operand.tmp 9), type := 33, pos := "state.go:118", after := #[{ on := 6, ground := Ground.data }], guard := none }) (v := .agg #[.int .i64 ix, .int .i64 st, .string cf, .string dt]) rfl (by kernel_rfl) (by kernel_rfl) (by kernel_rfl) (fun _ _ _ h => h) (Or.inl ⟨by rfl, fun w hSw => ?_⟩) (by assumption) ?_
  · (try dsimp only at hSw)
    have q2 := (hSw.cell (p := ⟨g, o + 2, none⟩) hgl).trans a2
    have q3 := (hSw.cell (p := ⟨g, o + 3, none⟩) hgl).trans a3
    have q4 := (hSw.cell (p := ⟨g, o + 4, none⟩) hgl).trans a4
    have q5 := (hSw.cell (p := ⟨g, o + 5, none⟩) hgl).trans a5
    go_simp
  try simp only [Act.put, List.setIfInBounds_toArray, List.set_cons_zero, List.set_cons_succ]
  refine wpAnyH_take (i := 9) (oi := { dst := some 12, op := Op.move (Operand.tmp 0), type := 95, pos := "state.go:118", after := #[], guard := none }) (v := .pointer (some ⟨g, o, none⟩)) rfl (by kernel_rfl) (by kernel_rfl) (by kernel_rfl) (fun _ _ _ h => h) (Or.inl ⟨by rfl, fun w hSw => ?_⟩) (by assumption) ?_
  · (try dsimp only at hSw)
    go_simp
  try simp only [Act.put, List.setIfInBounds_toArray, List.set_cons_zero, List.set_cons_succ]
  refine wpAnyH_take (i := 10) (oi := { dst := some 13, op := Op.nilCheck (Operand.tmp 12), type := 0, pos := "state.go:118", after := #[{ on := 9, ground := Ground.data }], guard := none }) (v := .pointer (some ⟨g, o, none⟩)) rfl (by kernel_rfl) (by kernel_rfl) (by kernel_rfl) (fun _ _ _ h => h) (Or.inl ⟨by rfl, fun w hSw => ?_⟩) (by assumption) ?_
  · (try dsimp only at hSw)
    go_simp
  try simp only [Act.put, List.setIfInBounds_toArray, List.set_cons_zero, List.set_cons_succ]
  refine wpAnyH_take (i := 11) (oi := { dst := some 14, op := Op.fieldAddr 52 (Operand.tmp 13) 2, type := 0, pos := "state.go:118", after := #[{ on := 10, ground := Ground.data }], guard := none }) (v := .pointer (some ⟨g, o + 6, none⟩)) rfl (by kernel_rfl) (by kernel_rfl) (by kernel_rfl) (fun _ _ _ h => h) (Or.inl ⟨by rfl, fun w hSw => ?_⟩) (by assumption) ?_
  · (try dsimp only at hSw)
    go_simp
  try simp only [Act.put, List.setIfInBounds_toArray, List.set_cons_zero, List.set_cons_succ]
  refine wpAnyH_take (i := 12) (oi := { dst := some 15, op := Op.load 22 (Operand.tmp 14), type := 22, pos := "state.go:118", after := #[{ on := 11, ground := Ground.data }], guard := none }) (v := .slice A m c) rfl (by kernel_rfl) (by kernel_rfl) (by kernel_rfl) (fun _ _ _ h => h) (Or.inl ⟨by rfl, fun w hSw => ?_⟩) (by assumption) ?_
  · (try dsimp only at hSw)
    have q6 := (hSw.cell (p := ⟨g, o + 6, none⟩) hgl).trans a6
    go_simp
  try simp only [Act.put, List.setIfInBounds_toArray, List.set_cons_zero, List.set_cons_succ]
  refine wpAnyH_ready (rs := [8]) (by kernel_rfl) (by simp) ?_
  refine AllReadyH.cons (o := { dst := some 11, op := Op.call { callee := Callee.value (Operand.func 56), args := #[Operand.tmp 10], argTypes := #[33] }, type := 33, pos := "state.go:118", after := #[{ on := 7, ground := Ground.data }], guard := none }) rfl (fun K hK => ?_) AllReadyH.nil
  go_simp
  go_at_call 56
  refine (kcopySnap_any ix st cf dt _ hc hd).mono ?_
  rintro e k8 ⟨rfl, h⟩
  replace hy := hy.below h
  replace hB := hB.trans (h.mono (Nat.le_trans (by omega) hB.size))
  clear h
  refine hK.out _ _ ?_ (fun hHeld => ?_)
  · exact hB
  clear hK K
  try simp only [Act.put, List.setIfInBounds_toArray, List.set_cons_zero, List.set_cons_succ]
  refine wpAnyH_ready (rs := [13]) (by kernel_rfl) (by simp) ?_
  refine AllReadyH.cons (o := { dst := some 16, op := Op.call { callee := Callee.value (Operand.func 29), args := #[Operand.tmp 15], argTypes := #[22] }, type := 22, pos := "state.go:118", after := #[{ on := 12, ground := Ground.data }, { on := 8, ground := Ground.chain }], guard := none }) rfl (fun K hK => ?_) AllReadyH.nil
  go_simp
  go_at_call 29
  have HEk := HE.out.below (show Below w.heap.size w k8 by rw [hb]; exact hB)
  refine (kcopyE_any N A m c log k8 HEk hl hdd).mono ?_
  rintro e k9 ⟨v, rfl, hv, h⟩
  replace hy := hy.below h
  have hv2 : OwnEn w.heap.size v log k9 := hv.down (Nat.le_trans (by rw [hb]; exact Nat.le_refl _) (Nat.le_trans (by omega) hB.size))
  replace hB := hB.trans (h.mono (Nat.le_trans (by omega) hB.size))
  obtain ⟨A3, c3, hv3⟩ := hv2.slice
  obtain ⟨n3, hn3⟩ : ∃ n3, log.length = n3 := ⟨_, rfl⟩
  rw [hn3] at hv3
  subst hv3
  have HV := Lib.hid hv2
  clear h HEk hv hv2 hn3
  refine hK.out _ _ ?_ (fun hHeld => ?_)
  · exact hB
  clear hK K
  try simp only [Act.put, List.setIfInBounds_toArray, List.set_cons_zero, List.set_cons_succ]
  refine wpAnyH_take (i := 14) (oi := { dst := some 17, op := Op.build 52 #[(0, Operand.tmp 6), (1, Operand.tmp 11), (2, Operand.tmp 16)], type := 52, pos := "state.go:118", after := #[{ on := 3, ground := Ground.data }, { on := 8, ground := Ground.data }, { on := 13, ground := Ground.data }], guard := none }) (v := .agg #[.int .i64 ht, .int .i64 hv, .int .i64 ix, .int .i64 st, .string cf, .string dt, .slice A3 n3 c3]) rfl (by kernel_rfl) (by kernel_rfl) (by kernel_rfl) (fun _ _ _ h => h) (Or.inl ⟨by rfl, fun w hSw => ?_⟩) (by assumption) ?_
  · (try dsimp only at hSw)
    go_simp
  try simp only [Act.put, List.setIfInBounds_toArray, List.set_cons_zero, List.set_cons_succ]
  have d0 := hy.cell (j := 0) rfl
  have e0 := hy.frz 0
  have d1 := hy.cell (j := 1) rfl
  have e1 := hy.frz 1
  have d2 := hy.cell (j := 2) rfl
  have e2 := hy.frz 2
  have d3 := hy.cell (j := 3) rfl
  have e3 := hy.frz 3
  have d4 := hy.cell (j := 4) rfl
  have e4 := hy.frz 4
  have d5 := hy.cell (j := 5) rfl
  have e5 := hy.frz 5
  have d6 := hy.cell (j := 6) rfl
  have e6 := hy.frz 6
  have hB9 := ((((((((((((((hB).setCell (p := ⟨b, 0, none⟩) (Nat.le_refl b) (.int .i64 ht))).setCell (p := ⟨b, 1, none⟩) (Nat.le_refl b) (.int .i64 hv))).setCell (p := ⟨b, 2, none⟩) (Nat.le_refl b) (.int .i64 ix))).setCell (p := ⟨b, 3, none⟩) (Nat.le_refl b) (.int .i64 st))).setCell (p := ⟨b, 4, none⟩) (Nat.le_refl b) (.string cf))).setCell (p := ⟨b, 5, none⟩) (Nat.le_refl b) (.string dt))).setCell (p := ⟨b, 6, none⟩) (Nat.le_refl b) (.slice A3 n3 c3))
  have hy9 := ((((((((((((((hy).set 0 (.int .i64 ht))).set 1 (.int .i64 hv))).set 2 (.int .i64 ix))).set 3 (.int .i64 st))).set 4 (.string cf))).set 5 (.string dt))).set 6 (.slice A3 n3 c3))
  have HV9 := Lib.hid (show OwnEn w.heap.size (.slice A3 n3 c3) log (((((((k9.setCell ⟨b, 0, none⟩ (.int .i64 ht)).setCell ⟨b, 1, none⟩ (.int .i64 hv)).setCell ⟨b, 2, none⟩ (.int .i64 ix)).setCell ⟨b, 3, none⟩ (.int .i64 st)).setCell ⟨b, 4, none⟩ (.string cf)).setCell ⟨b, 5, none⟩ (.string dt)).setCell ⟨b, 6, none⟩ (.slice A3 n3 c3)) from ownsRow_setb HV.out hy (by decide) _ _ _ _ _ _ _)
  refine wpAnyH_ready (rs := [15]) (by kernel_rfl) (by simp) ?_
  refine AllReadyH.cons (o := { dst := none, op := Op.store 52 (Operand.tmp 2) (Operand.tmp 17), type := 0, pos := "state.go:118", after := #[{ on := 14, ground := Ground.data }, { on := 13, ground := Ground.chain }, { on := 0, ground := Ground.phase }, { on := 1, ground := Ground.phase }, { on := 2, ground := Ground.phase }, { on := 3, ground := Ground.phase }, { on := 4, ground := Ground.phase }, { on := 5, ground := Ground.phase }, { on := 6, ground := Ground.phase }, { on := 7, ground := Ground.phase }, { on := 8, ground := Ground.phase }, { on := 9, ground := Ground.phase }, { on := 10, ground := Ground.phase }, { on := 11, ground := Ground.phase }, { on := 12, ground := Ground.phase }, { on := 13, ground := Ground.phase }, { on := 14, ground := Ground.phase }], guard := none }) rfl (fun K hK => ?_) AllReadyH.nil
  go_simp
  obtain ⟨W9, hW9⟩ : ∃ W9, (((((((k9.setCell ⟨b, 0, none⟩ (.int .i64 ht)).setCell ⟨b, 1, none⟩ (.int .i64 hv)).setCell ⟨b, 2, none⟩ (.int .i64 ix)).setCell ⟨b, 3, none⟩ (.int .i64 st)).setCell ⟨b, 4, none⟩ (.string cf)).setCell ⟨b, 5, none⟩ (.string dt)).setCell ⟨b, 6, none⟩ (.slice A3 n3 c3)) = W9 := ⟨_, rfl⟩
  rw [hW9] at hB9 hy9 HV9 ⊢
  refine hK.out _ _ ?_ (fun hHeld => ?_)
  · exact hB9
  clear hK K
  try simp only [Act.put, List.setIfInBounds_toArray, List.set_cons_zero, List.set_cons_succ]
  refine wpAnyH_done (by kernel_rfl) ?_ _
  refine NoPanic.normal ?_
  have g0 := hy9.cell (j := 0) rfl
  have g1 := hy9.cell (j := 1) rfl
  have g2 := hy9.cell (j := 2) rfl
  have g3 := hy9.cell (j := 3) rfl
  have g4 := hy9.cell (j := 4) rfl
  have g5 := hy9.cell (j := 5) rfl
  have g6 := hy9.cell (j := 6) rfl
  go_wp2
  exact bodyPost_ret (v := .agg #[.int .i64 ht, .int .i64 hv, .int .i64 ix, .int .i64 st, .string cf, .string dt, .slice A3 n3 c3]) (by simp [results, Tryd.results37, go_sem, g0, g1, g2, g3, g4, g5, g6]) rfl ⟨_, rfl, HV9.out, by rw [hb]; exact hB9⟩
end Go.Proofs.YtbiecoifeeikpaaDoor
/-
  Package keep's State.take plays a record.
  There are no conditions beyond those that each lemma names.
-/
set_option linter.unusedSimpArgs false
set_option linter.unusedVariables false
namespace Go.Proofs.YtbiecoifeeikpaaDoor
open Go.RowKit Go.Deep
set_option maxRecDepth 100000

theorem OwnEn.up {B : Nat} {v : Value} {L : List Ent} {w : World} (h : OwnEn 0 v L w) (hB : ∀ j, v.ownBlock = some j → B ≤ j) : OwnEn B v L w := by
  refine ⟨h.1, ?_⟩
  rcases h.2 with h | ⟨g, c, cur, hv, _, r⟩
  · exact .inl h
  · exact .inr ⟨g, c, cur, hv, hB g (by rw [hv]; rfl), r⟩
def Kst.cs (k : Kst) (v : Value) : List Value := [.int .i64 k.ht, .int .i64 k.hv, .int .i64 k.s.ix, .int .i64 k.s.st, .string k.s.conf, .string k.s.data, v]
/-- what came of a record that was played -/
def Took (g : Nat) (v : Value) (o : Option Kst) (w : World) (e : Ending) (w' : World) : Prop := match o with
  | none => e = .returned (.bool false) ∧ Below w.heap.size w w'
  | some k' => ∃ v', e = .returned (.bool true) ∧ Rt w' g 52 (k'.cs v') ∧ OwnEn 0 v' k'.log w' ∧ (v'.ownBlock = v.ownBlock ∨ ∀ j, v'.ownBlock = some j → w.heap.size ≤ j) ∧ Off (fun j => j = g ∨ v.ownBlock = some j) w w'
theorem state_ne_entry : (52 : TypeId) ≠ 41 := by decide
set_option maxHeartbeats 1000000 in
theorem ktake_any (g : Nat) (k : Kst) (A : Option Addr) (m c : Nat) (hd : Bool) (ht hv ix et kd : Int) (dt : ByteArray) (w : World) (hx : Rt w g 52 (k.cs (.slice A m c))) (hO : OwnEn 0 (.slice A m c) k.log w)
    (hix : 0 ≤ k.s.ix ∧ k.s.ix ≤ 1099511627776) (hl : k.log.length ≤ 1000000) (r : Option Kst) (hr : take11 k ⟨hd, ht, hv, ⟨ix, et, kd, dt⟩⟩ = r) :
    Calls Tryd.prog 43 #[.pointer (some ⟨g, 0, none⟩), .agg #[.bool hd, .int .i64 ht, .int .i64 hv, .int .i64 ix, .int .i64 et, .int .i64 kd, .string dt]] w (Took g (.slice A m c) r w) := by
  have hml : m = k.log.length := (Ens.of_own hO).len.1
  obtain ⟨b, hb⟩ : ∃ b, w.heap.size = b := ⟨_, rfl⟩
  obtain ⟨W, hW⟩ : ∃ W, w.alloc (.cells #[.bool hd, .int .i64 ht, .int .i64 hv, .int .i64 ix, .int .i64 et, .int .i64 kd, .string dt] 76) = W := ⟨_, rfl⟩
  have hB : Below b w W := by rw [← hW, ← hb]; exact below_new _ _
  have hy : Rt W b 76 [.bool hd, .int .i64 ht, .int .i64 hv, .int .i64 ix, .int .i64 et, .int .i64 kd, .string dt] := by rw [← hW, ← hb]; exact Rt.new _ _ _
  have hgb : g < b := by rw [← hb]; exact hx.lt
  have hxW : Rt W g 52 (k.cs (.slice A m c)) := hx.below (by rw [hb]; exact hB)
  have hOW : OwnEn 0 (.slice A m c) k.log W := hO.below (by rw [hb]; exact hB)
  have hWo : Off (fun j => j = g ∨ (Value.slice A m c).ownBlock = some j) w W := Off.of_below (by rw [hb]; exact hB)
  have b0 := hy.cell (j := 0) rfl
  have b1 := hy.cell (j := 1) rfl
  have b2 := hy.cell (j := 2) rfl
  have b3 := hy.cell (j := 3) rfl
  have b4 := hy.cell (j := 4) rfl
  have b5 := hy.cell (j := 5) rfl
  have b6 := hy.cell (j := 6) rfl
  have x2 := hxW.cell (j := 2) (v := .int .i64 k.s.ix) rfl
  have x6 := hxW.cell (j := 6) (v := .slice A m c) rfl
  have hWs : b < W.heap.size := hy.lt
  have HX := Lib.hid hxW
  have HO := Lib.hid hOW
  have HM := Lib.hid hml
  have hm2 : m ≤ 1000000 := by omega
  clear hx hO hxW hOW hml hy
  go_enter Tryd.func43, Tryd.ntmps43
  cases hd with
  | true =>
    have hr2 : r = some ⟨ht, hv, k.s, k.log⟩ := by rw [← hr]; unfold take11; rw [if_pos rfl]
    subst hr2
    have x0 := HX.out.cell (j := 0) (v := .int .i64 k.ht) rfl
    have x1 := HX.out.cell (j := 1) (v := .int .i64 k.hv) rfl
    have f0 := HX.out.frz 0
    have f1 := HX.out.frz 1
    clear b3 b4 b5 b6 x2 x6
    go_wp2
    go_ret
    refine ⟨.slice A m c, rfl, (HX.out.set 0 (.int .i64 ht)).set 1 (.int .i64 hv), ?_, .inl rfl, (hWo.set (.inl (.inl rfl))).set (.inl (.inl rfl))⟩
    have n1 := HO.out.off (S := fun j => j = g) ((Off.refl _ W).set (j := 0) (u := .int .i64 ht) (.inl rfl)) (fun j hj e => by subst e; exact own_ne11 state_ne_entry HX.out HO.out hj)
    exact n1.off (S := fun j => j = g) ((Off.refl _ _).set (j := 1) (u := .int .i64 hv) (.inl rfl)) (fun j hj e => by subst e; exact own_ne11 state_ne_entry (HX.out.set 0 (.int .i64 ht)) n1 hj)
  | false =>
    obtain ⟨f, hf⟩ : ∃ f, fits11 k ix = f := ⟨_, rfl⟩
    have hf2 : (decide (k.s.ix < ix) && decide (ix ≤ k.s.ix + (m : Int) + 1)) = f := by rw [← hf, HM.out]; rfl
    have HF := Lib.hid hf2
    have HFF := Lib.hid hf
    have hr2 : r = if f = true then some (put11 k ix [⟨ix, et, kd, dt⟩]) else none := by
      rw [← hr]; unfold take11; rw [if_neg (by simp), hf]
    clear hf hf2
    cases f with
    | false =>
      rw [if_neg (by simp)] at hr2
      subst hr2
      go_wp2_with fail
      refine (kfits_any g 0 k.s.ix ix A m c W x2 x6 hix (by omega) false HF.out).mono ?_
      rintro e w1 ⟨rfl, h1⟩
      have HX1 := Lib.hid (HX.out.below h1)
      have HO1 := Lib.hid (HO.out.below h1)
      have hWo1 := hWo.then_ h1
      have hB1 := hB.trans (h1.mono (Nat.le_of_lt hWs))
      replace b3 := (h1.cell (p := ⟨b, 3, none⟩) hWs).trans b3
      replace b4 := (h1.cell (p := ⟨b, 4, none⟩) hWs).trans b4
      replace b5 := (h1.cell (p := ⟨b, 5, none⟩) hWs).trans b5
      replace b6 := (h1.cell (p := ⟨b, 6, none⟩) hWs).trans b6
      have hz1 := h1.size
      clear h1 HX HO x2 x6 b0 b1 b2
      go_wp2
      go_ret
      exact ⟨rfl, by rw [hb]; exact hB1⟩
    | true =>
      rw [if_pos rfl] at hr2
      subst hr2
      go_wp2_with fail
      refine (kfits_any g 0 k.s.ix ix A m c W x2 x6 hix (by omega) true HF.out).mono ?_
      rintro e w1 ⟨rfl, h1⟩
      have HX1 := Lib.hid (HX.out.below h1)
      have HO1 := Lib.hid (HO.out.below h1)
      have hWo1 := hWo.then_ h1
      have hB1 := hB.trans (h1.mono (Nat.le_of_lt hWs))
      replace b3 := (h1.cell (p := ⟨b, 3, none⟩) hWs).trans b3
      replace b4 := (h1.cell (p := ⟨b, 4, none⟩) hWs).trans b4
      replace b5 := (h1.cell (p := ⟨b, 5, none⟩) hWs).trans b5
      replace b6 := (h1.cell (p := ⟨b, 6, none⟩) hWs).trans b6
      have hz1 := h1.size
      clear h1 HX HO x2 x6 b0 b1 b2
      go_wp2_with fail
      obtain ⟨W2, hW2⟩ : ∃ W2, w1.alloc (.cells #[.int .i64 ix, .int .i64 et, .int .i64 kd, .string dt] 41) = W2 := ⟨_, rfl⟩
      have h2 : Below w1.heap.size w1 W2 := by rw [← hW2]; exact below_new _ _
      have hy2 : Rt W2 w1.heap.size 41 [.int .i64 ix, .int .i64 et, .int .i64 kd, .string dt] := by rw [← hW2]; exact Rt.new _ _ _
      have hE : Ens (fun _ => True) W2 (.slice (some ⟨w1.heap.size, 0, none⟩) 1 1) [⟨ix, et, kd, dt⟩] := ⟨_, _, rfl, Nat.le_refl _, fun _ => ⟨_, 0, rfl, trivial, fun j hj => by
        have : j = 0 := by simpa using hj
        subst this
        intro i z hz
        show W2.cell? ⟨w1.heap.size, 0 + 0 * 4 + i, none⟩ = _
        rw [show 0 + 0 * 4 + i = i by omega]
        exact hy2.cell hz⟩⟩
      have HX2 := HX1.out.below h2
      have HO2 := HO1.out.below h2
      rw [hW2]
      refine (kput_any 52 g 0 _ k ix [⟨ix, et, kd, dt⟩] A m c _ 1 1 _ W2 state_ne_entry HX2 rfl rfl HO2 hE (by omega) rfl HFF.out (by simp; omega) hix).mono ?_
      rintro e w3 ⟨v', rfl, g1, g2, g3, g4⟩
      go_wp2
      go_ret
      refine ⟨v', rfl, g1, g2, ?_, ((hWo1.then_ h2).trans g4 (fun _ h => .inl h))⟩
      rcases g3 with g3 | g3
      · exact .inl g3
      · refine .inr fun j hj => ?_
        rw [g3] at hj
        injection hj with hj
        have := h2.size
        have := hB.size
        omega
end Go.Proofs.YtbiecoifeeikpaaDoor
/-
  A disk's rows: that they lie apart; a disk whose file was laid under its name; what a step answers.
  There are no conditions beyond those that each lemma names.
-/
set_option linter.unusedSimpArgs false
set_option linter.unusedVariables false
namespace Go.Proofs.YtbiecoifeeikpaaDoor
open Go.RowKit
set_option maxRecDepth 100000

/-- two files' rows are two -/
def Apart9 (p q : Fil × Value) : Prop := ∀ k, p.2.ownBlock = some k → q.2.ownBlock ≠ some k
theorem Apart9.symm {p q : Fil × Value} (h : Apart9 p q) : Apart9 q p := fun k hk e => h k e hk
theorem apart_of {ps : List (Fil × Value)} (hp : ps.Pairwise Apart9) {p q : Fil × Value} (h1 : p ∈ ps) (h2 : q ∈ ps) (hne : q.1.name ≠ p.1.name) : Apart9 p q := by
  induction ps with
  | nil => cases h1
  | cons x t ih =>
    obtain ⟨a1, a2⟩ := List.pairwise_cons.1 hp
    rcases List.mem_cons.1 h1 with e1 | m1
    · rcases List.mem_cons.1 h2 with e2 | m2
      · rw [e1, e2] at hne; exact absurd rfl hne
      · rw [e1]; exact a1 q m2
    · rcases List.mem_cons.1 h2 with e2 | m2
      · rw [e2]; exact (a1 p m1).symm
      · exact ih a2 m1 m2
theorem setP_apart {q : Fil × Value} {ps : List (Fil × Value)} (hs : ps.Pairwise fun x y => ltK x.1.name y.1.name = true) (hp : ps.Pairwise Apart9) (hq : ∀ p ∈ ps, p.1.name ≠ q.1.name → Apart9 q p) : (setP q ps).Pairwise Apart9 := by
  induction ps with
  | nil => exact List.pairwise_singleton _ _
  | cons x t ih =>
    obtain ⟨s1, s2⟩ := List.pairwise_cons.1 hs
    obtain ⟨a1, a2⟩ := List.pairwise_cons.1 hp
    unfold setP
    split
    · rename_i he
      exact List.pairwise_cons.2 ⟨fun p hp => hq p (List.mem_cons_of_mem _ hp) (by rw [he]; exact (ltK_ne (s1 p hp)).symm), a2⟩
    · rename_i hne
      split
      · rename_i hlt
        refine List.pairwise_cons.2 ⟨fun p hp => hq p hp ?_, hp⟩
        rcases List.mem_cons.1 hp with e | m
        · rw [e]; exact (ltK_ne hlt).symm
        · exact (ltK_ne (ltK_trans hlt (s1 p m))).symm
      · refine List.pairwise_cons.2 ⟨fun p hp => ?_, ih s2 a2 (fun p hp => hq p (List.mem_cons_of_mem _ hp))⟩
        rcases setP_mem hp with e | m
        · rw [e]; exact (hq x List.mem_cons_self (fun e => hne e.symm)).symm
        · exact a1 p m
theorem sorted_ps {ps : List (Fil × Value)} {l : List Fil} (hl : ps.map (·.1) = l) (h : Sorted9 l) : ps.Pairwise fun x y => ltK x.1.name y.1.name = true := by
  subst hl
  exact List.pairwise_map.1 h
/-- a file was laid under its name -/
theorem PD.put_mk {w : World} {S : Nat → Prop} {g b c : Nat} {l : List Fil} {ps : List (Fil × Value)} {f : Fil} {u : Value} (hl : ps.map (·.1) = l) (hg : S g) (hb : Box9 w g (some b) c) (hsb : S b) (hm : Map9 w (some b) (setP (f, u) ps))
    (hr : ∀ p ∈ ps, p.1.name ≠ f.name → OwnB 0 p.2 p.1.b w ∧ ∀ k, p.2.ownBlock = some k → S k) (hp : ps.Pairwise Apart9) (hu : OwnB 0 u f.b w) (hus : ∀ k, u.ownBlock = some k → S k)
    (hap : ∀ p ∈ ps, p.1.name ≠ f.name → Apart9 (f, u) p) (hs : Sorted9 l) (hgd : ∀ x ∈ l, Good9 x) (hgf : Good9 f) (hlt : ∀ k, S k → k < w.heap.size) : PD w S g (setF f l) c := by
  have hss := sorted_ps hl hs
  refine ⟨some b, setP (f, u) ps, by rw [setP_map, hl], hg, hb, fun b' hb' => by cases hb'; exact hsb, hm, fun p hp => ?_, setP_apart hss hp hap, setF_sorted hs, fun x hx => ?_, hlt⟩
  · rcases setP_mem_ne hss hp with e | ⟨m, hne⟩
    · rw [e]; exact ⟨hu, hus⟩
    · exact hr p m hne
  · rcases setF_mem hx with e | m
    · rw [e]; exact hgf
    · exact hgd x m
/-- S and all blocks that came since -/
def Grw (S : Nat → Prop) (w w' : World) : Nat → Prop := fun k => S k ∨ (w.heap.size ≤ k ∧ k < w'.heap.size)
theorem Grw.lt {S : Nat → Prop} {w w' : World} (h : ∀ k, S k → k < w.heap.size) (hs : w.heap.size ≤ w'.heap.size) : ∀ k, Grw S w w' k → k < w'.heap.size := fun k hk => by
  rcases hk with h1 | h1
  · exact Nat.lt_of_lt_of_le (h k h1) hs
  · exact h1.2
/-- a disk on which only the count was written -/
theorem PD.count {w w' : World} {S : Nat → Prop} {g : Nat} {l : List Fil} {c : Nat} (h : PD w S g l c) (hb : Below w.heap.size (w.setCell ⟨g, 1, none⟩ (.int .i64 ((c + 1 : Nat) : Int))) w') :
    PD w' (Grw S w w') g l (c + 1) ∧ Off S w w' := by
  obtain ⟨m, ps, h1, h2, h3, h4, h5, h6, h7, h8, h9, h10⟩ := h
  have ho : Off (fun k => k = g) w (w.setCell ⟨g, 1, none⟩ (.int .i64 ((c + 1 : Nat) : Int))) := (Off.refl _ w).set (.inl rfl)
  have hP : PD (w.setCell ⟨g, 1, none⟩ (.int .i64 ((c + 1 : Nat) : Int))) S g l (c + 1) := by
    refine ⟨m, ps, h1, h2, h3.set1 _, h4, h5.off ho (fun b hb => ?_), fun p hp => ⟨ho.ownsRow (h6 p hp).1 (fun k hk => ?_), (h6 p hp).2⟩, h7, h8, h9, fun k hk => Nat.lt_of_lt_of_le (h10 k hk) ho.size⟩
    · subst hb
      exact fun e => h3.ne_map (show w.ownsMap Tryd.prog 9 RH b ps.length (DD ps) from h5) e.symm
    · rintro rfl
      obtain ⟨cur, hc⟩ := own_type (h6 p hp).1 hk
      unfold Box9 at h3
      rw [h3] at hc
      injection hc with hc; injection hc with _ h4 _
      exact disk9_ne_u8 h4
  have hz : (w.setCell ⟨g, 1, none⟩ (.int .i64 ((c + 1 : Nat) : Int))).heap.size = w.heap.size := by simp [World.setCell]
  have hsz := hb.size
  rw [hz] at hsz
  refine ⟨(hP.below (by rw [hz]; exact hb)).more (fun k hk => .inl hk) (Grw.lt h10 hsz), (ho.mono (T := S) (fun k hk => by subst hk; exact .inl h2)).then_ (by rw [hz]; exact hb)⟩
/-- the file of that name, or a new one -/
def fileOf (n : ByteArray) (l : List Fil) : Fil := (getF n l).getD ⟨n, [], 0, false⟩
def app9 (n : ByteArray) (bs : List UInt8) (l : List Fil) : Int × List Fil :=
  if goodN n = false then (1, l) else if 1048576 < (fileOf n l).b.length + bs.length then (5, l) else (0, setF ⟨n, (fileOf n l).b ++ bs, (fileOf n l).fast, (fileOf n l).there⟩ l)
def swap9 (n : ByteArray) (bs : List UInt8) (l : List Fil) : Int × List Fil :=
  if goodN n = false then (1, l) else if 1048576 < bs.length then (5, l) else (0, setF ⟨n, bs, bs.length, true⟩ l)
def sync9 (n : ByteArray) (l : List Fil) : Int × List Fil := match getF n l with
  | none => (13, l)
  | some f => (0, setF ⟨n, f.b, f.b.length, true⟩ l)
def loose9 (n : ByteArray) (l : List Fil) : Int := match getF n l with
  | none => 0
  | some f => (f.b.length : Int) - f.fast
/-- what came of a step: its answer, the disk as it is, what was left alone -/
def Did (S : Nat → Prop) (g c : Nat) (r : Int × List Fil) (w : World) (e : Ending) (w' : World) : Prop := e = .returned (.int .i64 r.1) ∧ PD w' (Grw S w w') g r.2 (c + 1) ∧ Off S w w'
/-- the rows of a disk stand where its box and its map alone are written -/
theorem rows_off9 {w w' : World} {g c : Nat} {m : Option Nat} {qs : List (Fil × Value)} {p : Fil × Value} (hb : Box9 w g m c) (hm : Map9 w m qs) (ho : Off (fun k => k = g ∨ m = some k) w w') (hp : OwnB 0 p.2 p.1.b w) : OwnB 0 p.2 p.1.b w' :=
  ho.ownsRow hp fun k hk => by
    obtain ⟨cur, hc⟩ := own_type hp hk
    rintro (rfl | rfl)
    · unfold Box9 at hb
      rw [hb] at hc
      injection hc with hc; injection hc with _ h4 _
      exact disk9_ne_u8 h4
    · exact blk_ne_map hc (show w.ownsMap Tryd.prog 9 RH k qs.length (DD qs) from hm)
/-- behind put: the disk again -/
theorem PD.done {w W k : World} {S : Nat → Prop} {g b c : Nat} {m : Option Nat} {l : List Fil} {ps : List (Fil × Value)} {f : Fil} {u : Value} (hl : ps.map (·.1) = l) (hg : S g) (hsm : ∀ b, m = some b → S b) (hrs : ∀ p ∈ ps, ∀ j, p.2.ownBlock = some j → S j)
    (hp : ps.Pairwise Apart9) (hs : Sorted9 l) (hgd : ∀ x ∈ l, Good9 x) (hlt : ∀ j, S j → j < w.heap.size) (hW : Off S w W) (hbW : Box9 W g m c) (hmW : Map9 W m ps) (hr : ∀ p ∈ ps, p.1.name ≠ f.name → OwnB 0 p.2 p.1.b W)
    (hu : OwnB 0 u f.b W) (hus : ∀ j, u.ownBlock = some j → Grw S w W j) (hap : ∀ p ∈ ps, p.1.name ≠ f.name → Apart9 (f, u) p) (hgf : Good9 f)
    (hb : Box9 k g (some b) c) (hm : Map9 k (some b) (setP (f, u) ps)) (hor : m = some b ∨ (m = none ∧ W.heap.size ≤ b)) (ho : Off (fun j => j = g ∨ m = some j) W k) : PD k (Grw S w k) g (setF f l) c ∧ Off S w k := by
  have hbl : b < k.heap.size := World.ownsMap.lt (show k.ownsMap Tryd.prog 9 RH b (setP (f, u) ps).length (DD (setP (f, u) ps)) from hm)
  have hsb : Grw S w k b := by
    rcases hor with h | ⟨_, h⟩
    · exact .inl (hsm b h)
    · exact .inr ⟨Nat.le_trans hW.size h, hbl⟩
  have hsz := Nat.le_trans hW.size ho.size
  refine ⟨PD.put_mk hl (.inl hg) hb hsb hm (fun p hp hne => ⟨rows_off9 hbW hmW ho (hr p hp hne), fun j hj => .inl (hrs p hp j hj)⟩) hp (rows_off9 (p := (f, u)) hbW hmW ho hu) (fun j hj => ?_) hap hs hgd hgf (Grw.lt hlt hsz), hW.trans ho (fun j hj => ?_)⟩
  · rcases hus j hj with h | h
    · exact .inl h
    · exact .inr ⟨h.1, Nat.lt_of_lt_of_le h.2 ho.size⟩
  · rcases hj with h | h
    · subst h; exact .inl hg
    · exact .inl (hsm j h)
theorem fileOf_good {n : ByteArray} {l : List Fil} (hn : goodN n = true) (h : ∀ f ∈ l, Good9 f) : Good9 (fileOf n l) ∧ (fileOf n l).name = n := by
  unfold fileOf
  cases hg : getF n l with
  | none => exact ⟨⟨hn, Nat.le_refl _, by show 0 ≤ 1048576; omega, fun _ => rfl⟩, rfl⟩
  | some f => exact ⟨h f (getF_mem hg).1, (getF_mem hg).2⟩
/-- bytes that stand whatever is done to blocks of which S holds -/
def Safe9 (S : Nat → Prop) (w : World) (u : Value) (bs : List UInt8) : Prop := ∀ w', Off S w w' → Byt w' w'.heap.size u bs
theorem Safe9.of_byt {S : Nat → Prop} {w : World} {B : Nat} {u : Value} {bs : List UInt8} (h : Byt w B u bs) (hS : ∀ k, S k → B ≤ k) (hB : B ≤ w.heap.size) : Safe9 S w u bs := fun _ ho => (h.below (ho.below hS hB) (Nat.le_refl _)).more (Nat.le_trans hB ho.size)
theorem Safe9.of_own {S : Nat → Prop} {w : World} {B : Nat} {u : Value} {bs : List UInt8} (h : OwnB B u bs w) (hS : ∀ k, u.ownBlock = some k → ¬ S k) : Safe9 S w u bs := fun w' ho => by
  have h2 : OwnB B u bs w' := ho.ownsRow h hS
  exact Byt.of_own h2
/-- what the map answers of a name, told by the file of that name -/
theorem look_one {w : World} {S : Nat → Prop} {l : List Fil} {ps : List (Fil × Value)} {n : ByteArray} (hl : ps.map (·.1) = l) (h6 : ∀ p ∈ ps, OwnB 0 p.2 p.1.b w) (hS : ∀ p ∈ ps, ∀ k, p.2.ownBlock = some k → S k) (hp : ps.Pairwise Apart9) :
    ∃ A q ca, lookV n ps = .agg #[.slice A q ca, .int .i64 (((fileOf n l).fast : Nat) : Int), .bool (fileOf n l).there] ∧ (fileOf n l).b.length = q ∧ OwnB 0 (.slice A q ca) (fileOf n l).b w ∧ (∀ k, (Value.slice A q ca).ownBlock = some k → S k) ∧ ∀ p ∈ ps, p.1.name ≠ n → ∀ x, Apart9 (x, .slice A q ca) p := by
  have hg : getF n l = (ps.find? fun p => decide (p.1.name = n)).map (·.1) := by rw [← hl]; exact find_map9 n ps
  unfold lookV fileOf
  rw [hg]
  cases hf : ps.find? (fun p => decide (p.1.name = n)) with
  | none => exact ⟨none, 0, 0, rfl, rfl, ownB_nil 0 w, fun k hk => (by cases hk), fun p _ _ x k hk => (by cases hk)⟩
  | some p =>
    have hm := List.mem_of_find?_eq_some hf
    have hpn : p.1.name = n := by simpa using List.find?_some hf
    obtain ⟨A, ca, hv⟩ := own_slice (h6 p hm)
    refine ⟨A, _, ca, ?_, rfl, ?_, ?_, fun r hr hne x => ?_⟩
    · show fileV p = .agg #[.slice A p.1.b.length ca, .int .i64 ((p.1.fast : Nat) : Int), .bool p.1.there]
      unfold fileV; rw [hv]
    · show OwnB 0 (.slice A p.1.b.length ca) p.1.b w
      rw [← hv]; exact h6 p hm
    · show ∀ k, (Value.slice A p.1.b.length ca).ownBlock = some k → S k
      rw [← hv]; exact hS p hm
    · have := apart_of hp hm hr (by rw [hpn]; exact hne)
      unfold Apart9 at *
      rw [hv] at this; exact this
end Go.Proofs.YtbiecoifeeikpaaDoor
