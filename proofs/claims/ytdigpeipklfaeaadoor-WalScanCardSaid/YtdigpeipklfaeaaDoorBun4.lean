/-
  Contracts of the program's functions, of the reference's, and plain lemmas on what they answer (part 4 of 4).
  Each lemma names its conditions.
-/
import Derived.Test.YtdigpeipklfaeaaDoorBun3
import Derived.RangeFuncNested
import Derived.RangeFuncBox
import Derived.RangeFuncBound
import Derived.RangeFuncCalls
import Derived.RangeFuncLeaves
import Derived.Shelf.Abstract
import Derived.Shelf.RegionOpen
import Derived.WalkKit
import Derived.OwnWalkIn
import Derived.TacticsInMore
import Derived.LoopNIn
import Derived.LoopIn
import Derived.Test.YtdigpeipklfaeaaDoorBun2
import Derived.Test.YtdigpeipklfaeaaDoorBun1
import Derived.Test.YtdigpeipklfaeaaDoorProg
/-
  The reference's Decode of a record answers what the plain function says: further ways.
  The bytes are there in memory, at most 1,000,000.
-/
set_option linter.unusedSimpArgs false
set_option linter.unusedVariables false
namespace Go.Proofs.YtdigpeipklfaeaaDoor
open Go.RowKit
set_option maxRecDepth 100000

theorem rdec_err (A : Option Addr) (c B : Nat) (l : List UInt8) (k n e : Nat) (b : List UInt8) (w : World) (h : Byt w B (.slice A l.length c) l) (hB : B ≤ w.heap.size) (hl : l.length ≤ 1000000) (ho : openB l = (k, b, n, e)) (he : e ≠ 0) :
    Calls Tryd.prog 23 #[.slice A l.length c] w (GotQ10 (decR10 l) w) := by
  have hno := decR10_e ho he
  have he2 : ((e : Int) == 0) = false := by rw [beq_eq_false_iff_ne]; omega
  have he3 : ¬ (e : Int) = 0 := by omega
  have hop := ropen_any A c B l
  rw [ho] at hop
  obtain ⟨W1, hW1⟩ : ∃ W1, w.alloc (.cells #[.bool false, .int .i64 0, .int .i64 0, .int .i64 0, .int .i64 0, .int .i64 0, .string ⟨#[]⟩] 27) = W1 := ⟨_, rfl⟩
  have hb1 : Below w.heap.size w W1 := by rw [← hW1]; exact below_new _ _
  have p1 : Rt W1 w.heap.size 27 [.bool false, .int .i64 0, .int .i64 0, .int .i64 0, .int .i64 0, .int .i64 0, .string ⟨#[]⟩] := by rw [← hW1]; exact Rt.new w _ _
  have hop1 := hop W1 (h.below hb1 hB) (Nat.le_trans hB hb1.size) hl
  have HW1 := Lib.hid hW1
  have HB1 := Lib.hid hb1
  have HNO := Lib.hid hno
  obtain ⟨ln, hln⟩ : ∃ ln, l.length = ln := ⟨_, rfl⟩
  rw [hln] at hop1 ⊢
  clear hop hW1 h hb1 hln hl hno ho
  go_enter Tryd.func23, Tryd.ntmps23
  go_wp2_with fail
  rw [HW1.out]
  refine hop1.mono ?_
  rintro e1 k1 ⟨v1, rfl, ho1, h1⟩
  have p4 := p1.below h1
  have hb4 := HB1.out.trans (h1.mono HB1.out.size)
  obtain ⟨A2, c2, rfl⟩ := byt_slice ho1
  clear p1 HB1 HW1 h1 ho1 hop1
  have x0 := p4.cell (j := 0) rfl
  have y0 := p4.frz 0
  have x1 := p4.cell (j := 1) rfl
  have y1 := p4.frz 1
  have x2 := p4.cell (j := 2) rfl
  have y2 := p4.frz 2
  have x3 := p4.cell (j := 3) rfl
  have y3 := p4.frz 3
  have x4 := p4.cell (j := 4) rfl
  have y4 := p4.frz 4
  have x5 := p4.cell (j := 5) rfl
  have y5 := p4.frz 5
  have x6 := p4.cell (j := 6) rfl
  have y6 := p4.frz 6
  go_wp2
  have hxs : Rt _ w.heap.size 27 [.bool false, .int .i64 0, .int .i64 0, .int .i64 0, .int .i64 0, .int .i64 0, .string ⟨#[]⟩] := (((((((p4.set 0 (.bool false)).set 1 (.int .i64 0)).set 2 (.int .i64 0)).set 3 (.int .i64 0)).set 4 (.int .i64 0)).set 5 (.int .i64 0)).set 6 (.string ⟨#[]⟩))
  have hbs := (below_set10 ((below_set10 ((below_set10 ((below_set10 ((below_set10 ((below_set10 ((below_set10 (hb4) 0 (g := w.heap.size) (.bool false) (by omega))) 1 (g := w.heap.size) (.int .i64 0) (by omega))) 2 (g := w.heap.size) (.int .i64 0) (by omega))) 3 (g := w.heap.size) (.int .i64 0) (by omega))) 4 (g := w.heap.size) (.int .i64 0) (by omega))) 5 (g := w.heap.size) (.int .i64 0) (by omega))) 6 (g := w.heap.size) (.string ⟨#[]⟩) (by omega))
  refine body_world10 (fun W => Below w.heap.size w W ∧ Rt W w.heap.size 27 [.bool false, .int .i64 0, .int .i64 0, .int .i64 0, .int .i64 0, .int .i64 0, .string ⟨#[]⟩]) ⟨hbs, hxs⟩ ?_
  clear hbs hxs
  rintro W ⟨hbs, hxs⟩
  have d0 := hxs.cell (j := 0) rfl
  have d1 := hxs.cell (j := 1) rfl
  have d2 := hxs.cell (j := 2) rfl
  have d3 := hxs.cell (j := 3) rfl
  have d4 := hxs.cell (j := 4) rfl
  have d5 := hxs.cell (j := 5) rfl
  have d6 := hxs.cell (j := 6) rfl
  refine bodyPost_ret (v := .tuple #[.agg #[.bool false, .int .i64 0, .int .i64 0, .int .i64 0, .int .i64 0, .int .i64 0, .string ⟨#[]⟩], .int .i64 0, .int .i64 e]) (by simp [results, Tryd.results23, go_sem, d0, d1, d2, d3, d4, d5, d6]) rfl ?_
  exact ⟨by rw [HNO.out]; rfl, hbs⟩
end Go.Proofs.YtdigpeipklfaeaaDoor
/-
  The reference's Decode of a record answers what the plain function says.
  The bytes are there in memory, at most 1,000,000.
-/
set_option linter.unusedSimpArgs false
set_option linter.unusedVariables false
namespace Go.Proofs.YtdigpeipklfaeaaDoor
open Go.RowKit
set_option maxRecDepth 100000

theorem rdec10_any (A : Option Addr) (c B : Nat) (l : List UInt8) (w : World) (h : Byt w B (.slice A l.length c) l) (hB : B ≤ w.heap.size) (hl : l.length ≤ 1000000) :
    Calls Tryd.prog 23 #[.slice A l.length c] w (GotQ10 (decR10 l) w) := by
  obtain ⟨⟨k, b, n, e⟩, ho⟩ : ∃ x, openB l = x := ⟨_, rfl⟩
  by_cases he : e = 0
  · subst he
    by_cases h1 : k = 1
    · subst h1
      cases hn : numsL 2 b with
      | none => exact rdec_hard_none A c B n b l w h hB hl ho hn
      | some x =>
        obtain ⟨xs, rest⟩ := x
        by_cases hr : rest = []
        · subst hr
          obtain ⟨t, v, rfl, _⟩ := nums2_is hn
          by_cases hv0 : v < 0
          · exact rdec_hard_lo A c B n b l w h hB hl ho t v hn hv0
          · by_cases hv1 : 7 < v
            · exact rdec_hard_hi A c B n b l w h hB hl ho t v hn hv1
            · exact rdec_hard A c B n b l w h hB hl ho t v hn (by omega) (by omega)
        · exact rdec_hard_rest A c B n b l w h hB hl ho xs rest hn hr
    · by_cases h2 : k = 2
      · subst h2
        cases hn : numsL 3 b with
        | none => exact rdec_ent_none A c B n b l w h hB hl ho hn
        | some x =>
          obtain ⟨xs, rest⟩ := x
          obtain ⟨i, t, d, rfl, _⟩ := nums3_is hn
          by_cases hd0 : d < 1
          · exact rdec_ent_lo A c B n b l w h hB hl ho i t d rest hn hd0
          · by_cases hd1 : 3 < d
            · exact rdec_ent_hi A c B n b l w h hB hl ho i t d rest hn hd1
            · obtain ⟨⟨s, m, e⟩, hg⟩ : ∃ x, Nu.getT rest = x := ⟨_, rfl⟩
              by_cases he : e = 0
              · subst he
                exact rdec_ent_yes A c B n b l w h hB hl ho i t d rest hn (by omega) (by omega) ⟨s.toArray⟩ m (by rw [hg])
              · exact rdec_ent_text A c B n b l w h hB hl ho i t d rest hn (by omega) (by omega) s m e hg he
      · exact rdec_other A c B n b l k h1 h2 w h hB hl ho
  · exact rdec_err A c B l k n e b w h hB hl ho he
end Go.Proofs.YtdigpeipklfaeaaDoor
/-
  The reference's Scan tells the records one behind the other.
  The bytes are there in memory, at most 1,000,000.
-/
namespace Go.Proofs.YtdigpeipklfaeaaDoor
open Go.RowKit Go.Deep
set_option maxRecDepth 100000

theorem Tryd.infoSq : (Tryd.prog.info? 27).map (fun i => (i.zero, i.size, i.bytes)) = some (some (.agg #[.bool false, .int .i64 0, .int .i64 0, .int .i64 0, .int .i64 0, .int .i64 0, .string ⟨#[]⟩]), 7, 64) := by kernel_rfl
theorem wp_append_Sq {w : World} {o : Oper} {a : Act} {K : Act → World → Prop} {Q : Exit → Act → World → Prop} (s x : Operand)
    (ho : o.op = .call { callee := .builtin .append, args := #[s, x], argTypes := #[43, 43] })
    (B : Nat) (v : Value) (L : List Rcd) (y : Rcd) (g : Nat) (hs : a.eval s = v) (hown : OwnRc 27 B v L w) (hx : a.eval x = .slice (some ⟨g, 0, none⟩) 1 1) (hy : w.rangeAt g 0 y.cs) (hl : L.length ≤ 1000000) (hB : B ≤ w.heap.size)
    (h : ∀ v' w', OwnRc 27 B v' (L ++ [y]) w' → Below B w w' → K (a.put o.dst v') w') : o.wp Tryd.prog a w K Q := by
  obtain ⟨iO, hiO, hzO0, hzO1, hzO2⟩ := info_parts Tryd.infoSq
  have hlen := rcs_len L
  have hgr := fun (w' : World) (hg : w.grownBy w' v.ownBlock) => (Below.refl B w).grown hg hB (fun g hg => (World.ownsRow.lt hown g hg).1)
  obtain ⟨v', w', hr, h2, h3, _, _⟩ := run_append_own_at (P := Tryd.prog) w B 43 o.type 27 iO _ 7 64 Tryd.underlying43 hiO hzO0 hzO1 hzO2 rfl (by decide) v L.length _ hown ⟨g, 0, none⟩ 1 1 y.cs rfl
    (by
      intro j z hj
      rw [Addr.add_mid]; exact hy j z hj) (rcd_one y) (by unfold maxLen; omega) (by omega) hB
  unfold Oper.wp execOp
  simp only [ho, resolve, invoke, builtin, Sem.run_bind, Sem.run_pure, Result.andThen_ok, List.map_toArray, List.map_cons, List.map_nil, hs, hx, hr]
  refine h v' w' ?_ (hgr w' h3)
  unfold OwnRc
  rw [List.length_append, List.flatMap_append]
  simpa using h2
theorem wpList_append_Sq {w : World} {ops : Array Oper} {rest : List Oper} {o : Oper} {a : Act} {Q : Exit → Act → World → Prop} (hgd : o.guard = none) (s x : Operand)
    (ho : o.op = .call { callee := .builtin .append, args := #[s, x], argTypes := #[43, 43] })
    (B : Nat) (v : Value) (L : List Rcd) (y : Rcd) (g : Nat) (hs : a.eval s = v) (hown : OwnRc 27 B v L w) (hx : a.eval x = .slice (some ⟨g, 0, none⟩) 1 1) (hy : w.rangeAt g 0 y.cs) (hl : L.length ≤ 1000000) (hB : B ≤ w.heap.size)
    (h : ∀ v' w', OwnRc 27 B v' (L ++ [y]) w' → Below B w w' → wpList Tryd.prog ops Q rest (a.put o.dst v') w') : wpList Tryd.prog ops Q (o :: rest) a w :=
  wpList_plain hgd fun _ hK => wp_append_Sq s x ho B v L y g hs hown hx hy hl hB fun v' w' h1 h2 => hK _ _ (h v' w' h1 h2)
theorem Sqdec_is (A : Option Addr) (n c B : Nat) (l : List UInt8) (r) (w : World) (h : Byt w B (.slice A n c) l) (hB : B ≤ w.heap.size) (hl : l.length ≤ 1000000) (hr : decR10 l = r) :
    Calls Tryd.prog 23 #[.slice A n c] w (GotQ10 r w) := by
  obtain rfl : n = l.length := by obtain ⟨_, _, hv, _⟩ := h; injection hv
  rw [← hr]
  exact rdec10_any A c B l w h hB hl
/-- what Scan tells -/
def GotSq (l : List UInt8) (w : World) (e : Ending) (w' : World) : Prop := ∃ L u er v, ScR l L u er ∧ e = .returned (.tuple #[v, .int .i64 ((u : Nat) : Int), .bool (er == 2)]) ∧ OwnRc 27 w.heap.size v L w' ∧ Below w.heap.size w w'
set_option maxHeartbeats 1000000 in
theorem Sqscan_some (g o c B : Nat) (l : List UInt8) (w : World) (h : Byt w B (.slice (some ⟨g, o, none⟩) l.length c) l) (hB : B ≤ w.heap.size) (hl : l.length ≤ 1000000) :
    Calls Tryd.prog 22 #[.slice (some ⟨g, o, none⟩) l.length c] w (GotSq l w) := by
  have HB := Lib.hid h
  have hcl : l.length ≤ c := by obtain ⟨_, _, hv, hc, _⟩ := h; injection hv with _ _ e; omega
  clear h
  go_enter Tryd.func22, Tryd.ntmps22
  go_wp2_with fail
  go_loopw [5, 6] (fun v i wr => ∃ (acc : List Rcd) (k : Nat), i = .int .i64 k ∧ k ≤ l.length ∧ acc.length ≤ k ∧ OwnRc 27 w.heap.size v acc wr ∧ Below w.heap.size w wr ∧ ∀ L u e, ScR (l.drop k) L u e → ScR l (acc ++ L) (k + u) e) (fun _ i _ => l.length - (intOf i).toNat)
  case atStart => exact ⟨[], 0, rfl, Nat.zero_le _, Nat.zero_le _, OwnRc.nil _ _ _, Below.refl _ _, fun L u e h => by simpa using h⟩
  case round =>
    obtain ⟨acc, k, rfl, hk, hacc, hown, hb, hall⟩ := hrel
    obtain ⟨A9, c9, hv9⟩ := hown.slice
    subst hv9
    have HOWN := Lib.hid hown; have HALL := Lib.hid hall; have HACC := Lib.hid hacc
    have hby := (HB.out.below hb hB).cut (k := k) hk
    rw [add_lit_10] at hby
    have hBr : B ≤ wr.heap.size := Nat.le_trans hB hb.size
    have hdl : (l.drop k).length ≤ 1000000 := by rw [List.length_drop]; omega
    obtain ⟨r, hr⟩ : ∃ r, decR10 (l.drop k) = r := ⟨_, rfl⟩
    have HR := Lib.hid hr
    obtain ⟨⟨hd, ht, hv, ⟨ix, et, kd, dt⟩⟩, n, e⟩ := r
    have hkc : k ≤ c := by omega
    clear hown hall hacc hr
    have hnil : ScR [] [] 0 2 := ScR.nil _ 2 (decR10_e (l := []) (b := []) (k := 0) (n := 0) rfl (by decide)) (by decide)
    by_cases hck : l.length = k
    · have hlk : l.length = k := by omega
      have hd : l.drop k = [] := List.drop_of_length_le (by omega)
      have hby0 : Byt wr B (.slice (some ⟨g, o, none⟩) 0 0) [] := ⟨_, _, rfl, Nat.le_refl _, fun h => absurd h (by simp)⟩
      have hend : ScR l acc k 2 := by
        have := HALL.out [] 0 2 (by rw [hd]; exact hnil)
        simpa using this
      have HEND := Lib.hid hend
      have hki : ¬ (k : Int) < l.length := by omega
      clear hend hby hby0 HR hdl hd hnil
      subst hck
      go_wp2
      exact bodyPost_ret (v := .tuple #[_, .int .i64 (l.length : Nat), .bool true]) (by simp [results, Tryd.results22, go_sem]) rfl ⟨acc, _, 2, _, HEND.out, rfl, HOWN.out, hb⟩
    · have hki : (k : Int) < l.length := by omega
      rw [if_neg (by omega)] at hby
      have HBY := Lib.hid hby; clear hby hnil
      by_cases he : e = 0
      · subst he
        obtain ⟨n1, n2, n3, n4⟩ := decR10_good HR.out
        rw [List.length_drop] at n4
        have hsum : k + n ≤ l.length := by omega
        have HN := Lib.hid (And.intro n3 hsum)
        have hkn : (k : Int) + n ≤ 1000000 := by omega
        clear n1 n2 n3 n4 hsum
        go_wp2_with fail
        refine (Sqdec_is _ _ _ B (l.drop k) _ _ HBY.out hBr hdl HR.out).mono ?_
        rintro e w1 ⟨rfl, hb1⟩
        unfold Rcd.val
        simp only
        have hown1 := HOWN.out.below hb1
        have hbw1 := hb.trans (hb1.mono hb.size)
        clear hb1 hb
        obtain ⟨WA, hWA⟩ : ∃ WA, w1.alloc (Obj.cells #[.bool hd, .int .i64 ht, .int .i64 hv, .int .i64 ix, .int .i64 et, .int .i64 kd, .string dt] 27) = WA := ⟨_, rfl⟩
        have hza : WA.heap.size = w1.heap.size + 1 := by rw [← hWA]; simp
        have hba : Below w.heap.size w WA := by rw [← hWA]; exact hbw1.alloc hbw1.size _
        have hoa : OwnRc 27 w.heap.size (.slice A9 acc.length c9) acc WA := by rw [← hWA]; exact hown1.below (below_new _ _)
        have hcell := cells_new10 WA 27 [.bool hd, .int .i64 ht, .int .i64 hv, .int .i64 ix, .int .i64 et, .int .i64 kd, .string dt]
        have hb1 : Below w.heap.size w (WA.alloc (Obj.cells #[.bool hd, .int .i64 ht, .int .i64 hv, .int .i64 ix, .int .i64 et, .int .i64 kd, .string dt] 27)) := hba.alloc hba.size _
        have hown1a : OwnRc 27 w.heap.size (.slice A9 acc.length c9) acc (WA.alloc (Obj.cells #[.bool hd, .int .i64 ht, .int .i64 hv, .int .i64 ix, .int .i64 et, .int .i64 kd, .string dt] 27)) := hoa.below (below_new _ _)
        rw [hza] at hcell
        rw [← hWA] at hcell hown1a hb1
        have hal : acc.length ≤ 1000000 := by have := HACC.out; omega
        have HAL := Lib.hid hal
        clear hal hWA hza hba hoa
        go_wp2_with (at_builtin; refine wpList_append_Sq rfl _ _ rfl w.heap.size (.slice A9 acc.length c9) acc ⟨hd, ht, hv, ⟨ix, et, kd, dt⟩⟩ (w1.heap.size + 1) rfl hown1a rfl hcell HAL.out hb1.size ?_)
        intro v2 w2 hown2 hb2
        have hbw2 := hb1.trans hb2
        clear hown1a hcell hb1 hb2 hown1 hbw1
        go_wp2
        go_roundw
        case rel => exact ⟨acc ++ [⟨hd, ht, hv, ⟨ix, et, kd, dt⟩⟩], k + n, by go_num, HN.out.2, by have := HN.out.1; have := HACC.out; simp; omega, hown2, hbw2, fun L u e hh => by
          have := HALL.out (⟨hd, ht, hv, ⟨ix, et, kd, dt⟩⟩ :: L) (n + u) e (ScR.cons _ _ _ _ _ _ HR.out (by rw [List.drop_drop]; exact hh))
          rw [List.append_assoc, Nat.add_assoc]; exact this⟩
        case measure => have := HN.out; first | (simp [intOf]; omega) | (simp [intOf]; done)
      · have hee : ((e : Int) == 0) = false := by rw [beq_eq_false_iff_ne]; omega
        have hee2 : ¬ (e : Int) = 0 := by omega
        have hend : ScR l acc k e := by
          have hz := decR10_bad HR.out he
          have := HALL.out [] 0 e (ScR.nil _ e (by rw [HR.out, hz.1, hz.2.1]) he)
          simpa using this
        have HEND := Lib.hid hend
        have he23 := (decR10_bad HR.out he).2.2
        have h2e : ((e : Int) == 2) = (e == 2) := by rcases he23 with rfl | rfl <;> decide
        clear he hend he23
        go_wp2_with fail
        refine (Sqdec_is _ _ _ B (l.drop k) _ _ HBY.out hBr hdl HR.out).mono ?_
        rintro e9 w1 ⟨rfl, hb1⟩
        unfold Rcd.val
        simp only
        have hown1 := HOWN.out.below hb1
        have hbw1 := hb.trans (hb1.mono hb.size)
        have hown2 := hown1.below (below_new w1 (Obj.cells #[.bool hd, .int .i64 ht, .int .i64 hv, .int .i64 ix, .int .i64 et, .int .i64 kd, .string dt] 27))
        go_wp2
        exact bodyPost_ret (v := .tuple #[_, .int .i64 (k : Nat), .bool (e == 2)]) (by simp [results, Tryd.results22, go_sem]) rfl ⟨acc, k, e, _, HEND.out, rfl, hown2, hbw1.alloc hbw1.size _⟩
set_option maxHeartbeats 400000 in
theorem Sqscan_nil (w : World) : Calls Tryd.prog 22 #[.slice none 0 0] w (GotSq [] w) := by
  have hby : Byt w w.heap.size (.slice none 0 0) [] := Byt.of_own (ownB_nil 0 w)
  have HBY := Lib.hid hby; clear hby
  have hnil : ScR [] [] 0 2 := ScR.nil _ 2 (decR10_e (l := []) (b := []) (k := 0) (n := 0) rfl (by decide)) (by decide)
  have HNIL := Lib.hid hnil; clear hnil
  go_enter Tryd.func22, Tryd.ntmps22
  go_wp2_with fail
  go_loopw [5, 6] (fun v i wr => v = .slice none 0 0 ∧ i = .int .i64 0 ∧ wr = w) (fun _ _ _ => 1)
  case atStart => exact ⟨rfl, rfl, rfl⟩
  case round =>
    obtain ⟨rfl, rfl, rfl⟩ := hrel
    go_wp2
    exact bodyPost_ret (v := .tuple #[_, .int .i64 (0 : Nat), .bool true]) (by simp [results, Tryd.results22, go_sem]) rfl ⟨[], 0, 2, _, HNIL.out, rfl, OwnRc.nil _ _ _, Below.refl _ _⟩
/-- Scan of any bytes -/
theorem Sqscan_any (u : Value) (B : Nat) (l : List UInt8) (w : World) (h : Byt w B u l) (hB : B ≤ w.heap.size) (hl : l.length ≤ 1000000) (hz : l = [] → u = .slice none 0 0 ∨ ∃ g o c, u = .slice (some ⟨g, o, none⟩) 0 c) : Calls Tryd.prog 22 #[u] w (GotSq l w) := by
  obtain ⟨A, c, rfl⟩ := byt_slice h
  by_cases h0 : l = []
  · subst h0
    rcases hz rfl with e | ⟨g, o, c', e⟩
    · injection e with e1 e2 e3
      subst e1; subst e3
      exact Sqscan_nil w
    · injection e with e1 e2 e3
      subst e1
      exact Sqscan_some g o c B [] w h hB hl
  · have hlen : 0 < l.length := by cases l with | nil => exact absurd rfl h0 | cons x t => simp
    obtain ⟨A', c', hv, _, hx⟩ := id h
    injection hv with e1 _ _
    subst e1
    obtain ⟨g, o, rfl, _⟩ := hx hlen
    exact Sqscan_some g o c B l w h hB hl
end Go.Proofs.YtdigpeipklfaeaaDoor
/-
  slices.Chunk of a row of bytes, and what its iterator hands to a loop's body: the pieces, one behind the other.
  The bytes are at most 1,000,000; a piece has 3,000 of them.
-/
namespace Go.Proofs.YtdigpeipklfaeaaDoor
open Go.RowKit Go.Shelf
attribute [local go_sem] Oper.semAt_some
set_option maxRecDepth 100000

/-- a piece, as the iterator hands it out -/
def chunkV (b off len k : Nat) : Value := .slice (some ⟨b, off + 3000 * k, none⟩) (min 3000 (len - 3000 * k)) (min 3000 (len - 3000 * k))
/-- what a body must keep: the iterator's two boxes -/
def KpC (Bs Bn : Nat) (W W' : World) : Prop := W.heap.size ≤ W'.heap.size ∧ W'.heap[Bs]? = W.heap[Bs]? ∧ W'.heap[Bn]? = W.heap[Bn]?
theorem KpC.trans {Bs Bn : Nat} {A B C : World} (h : KpC Bs Bn A B) (k : KpC Bs Bn B C) : KpC Bs Bn A C := ⟨Nat.le_trans h.1 k.1, k.2.1.trans h.2.1, k.2.2.trans h.2.2⟩
theorem KpC.cell {Bs Bn : Nat} {W W' : World} (h : KpC Bs Bn W W') {v u : Value} (h1 : W.cell? ⟨Bs, 0, none⟩ = some v) (h2 : W.cell? ⟨Bn, 0, none⟩ = some u) : W'.cell? ⟨Bs, 0, none⟩ = some v ∧ W'.cell? ⟨Bn, 0, none⟩ = some u := by
  unfold World.cell? at *
  rw [h.2.1, h.2.2]
  exact ⟨h1, h2⟩
def Meet10 (b : Act) (R : World → Prop) : Exit → Act → World → Prop
  | .normal, a, W => a = b ∧ R W
  | _, _, _ => False
theorem wpIn_meet10 {F : Fence} {n : Nat} {P : Program} {c : Code} {Q : Exit → Act → World → Prop} {a b : Act} {w : World} {R : World → Prop} (h1 : c.wpIn F n P (Meet10 b R) a w) (h2 : ∀ W, R W → Q .normal b W) : c.wpIn F n P Q a w :=
  Code.wpIn_mono (fun e a' w' h => by
    cases e <;> first | exact h.elim | skip
    obtain ⟨rfl, h⟩ := h
    exact h2 _ h) h1
set_option maxHeartbeats 2000000 in
theorem chunk1_in (F : Fence) (n : Nat) (hf : F.fn 66) (hro : F.round = none) (hn : 1 ≤ n) (l Bs Bn b off len cap : Nat) (hlen : len ≤ 1000000) (hlc : len ≤ cap) (J Jx : List Nat → World → Prop) (hJd : ∀ s W, J s W → J s W.drew)
    (hY : ∀ pre x W, J pre W → pre.length < (len + 2999) / 3000 → YieldAt F (n - 1) Tryd.prog l #[chunkV b off len x] W fun e W' =>
      (e = .returned (.bool true) ∧ J (pre ++ [x]) W' ∧ KpC Bs Bn W W') ∨ (e = .returned (.bool false) ∧ Jx (pre ++ [x]) W'))
    (W : World) (hBs : W.cell? ⟨Bs, 0, none⟩ = some (.slice (some ⟨b, off, none⟩) len cap)) (hBn : W.cell? ⟨Bn, 0, none⟩ = some (.int .i64 3000)) (h0 : J [] W) :
    CallsIn F n Tryd.prog 66 #[.func (.yield l) #[] #[], .pointer (some ⟨Bs, 0, none⟩), .pointer (some ⟨Bn, 0, none⟩)] W fun e W' => (∃ v, e = .returned v) ∧
      ((∃ ys, ys = List.range ((len + 2999) / 3000) ∧ J ys W') ∨ (∃ pre, (∃ k, pre = List.range k) ∧ Jx pre W')) := by
  refine callsIn_of_wp Tryd.func66 rfl hf ?_ hro
  simp only [Tryd.ntmps66, List.size_toArray, List.length_cons, List.length_nil, Nat.reduceAdd, Nat.reduceSub, Array.replicate_succ, Array.replicate_zero, List.push_toArray, List.append_toArray, List.nil_append, List.cons_append]
  gi_wp2
  gi_loopw [4] (fun i wr => ∃ k : Nat, k ≤ (len + 2999) / 3000 ∧ i = .int .i64 ((3000 * k : Nat) : Int) ∧ J (List.range k) wr ∧ wr.cell? ⟨Bs, 0, none⟩ = some (.slice (some ⟨b, off, none⟩) len cap) ∧ wr.cell? ⟨Bn, 0, none⟩ = some (.int .i64 3000))
    (fun i _ => len + 3000 - (intOf i).toNat)
  case atStart => exact ⟨0, Nat.zero_le _, rfl, h0, hBs, hBn⟩
  case round =>
    obtain ⟨k, hk, rfl, hJs, hs, hm⟩ := hrel
    by_cases hlt : 3000 * k < len
    · obtain ⟨fn, tmps, assign, body, hy, hR⟩ := hY _ k wr.drew (hJd _ _ hJs) (by rw [List.length_range]; omega)
      have hki : 3000 * (k : Int) < len := by omega
      obtain ⟨m, hm1⟩ : ∃ m, min 3000 (len - 3000 * k) = m := ⟨_, rfl⟩
      have hm2 : min (3000 : Int) ((len - 3000 * k : Nat) : Int) = (m : Int) := by omega
      have hm3 : m ≤ 3000 := by omega
      have hm4 : 3000 * (k : Int) + m ≤ len := by omega
      have hm5 : 3000 * k + m ≤ len := by omega
      have hm6 : (0 : Int) ≤ m := by omega
      unfold chunkV at hy
      rw [hm1] at hy
      have hki2 : 0 ≤ 3000 * (k : Int) ∧ 3000 * (k : Int) ≤ len := by omega
      gi_wp2
      apply wpIn_meet10 (R := fun W => W = wr.drew)
      · gi_region
        all_goals exact ⟨rfl, rfl⟩
      rintro W1 rfl
      have hs1 : wr.drew.cell? ⟨Bs, 0, none⟩ = some (.slice (some ⟨b, off, none⟩) len cap) := hs
      have hm0 : wr.drew.cell? ⟨Bn, 0, none⟩ = some (.int .i64 3000) := hm
      gi_wp2
      refine hR.mono ?_
      rintro e W3 (⟨rfl, hJ3, hk3⟩ | ⟨rfl, hJx3⟩)
      · obtain ⟨hs3, hn3⟩ := hk3.cell hs1 hm0
        gi_wp2
        go_roundw
        case rel => exact ⟨k + 1, by omega, by congr 1, by rw [List.range_succ]; exact hJ3, hs3, hn3⟩
        case measure => simp [intOf]; omega
      · gi_wp2
        refine bodyPost_ret (results_none rfl _ _ _) rfl ?_
        exact ⟨⟨_, rfl⟩, .inr ⟨_, ⟨k + 1, rfl⟩, by rw [List.range_succ]; exact hJx3⟩⟩
    · have hge : (len : Int) ≤ 3000 * (k : Int) := by omega
      obtain rfl : k = (len + 2999) / 3000 := by omega
      gi_wp2
      go_end0
      exact ⟨⟨_, rfl⟩, .inl ⟨_, rfl, hJs⟩⟩
set_option maxHeartbeats 1000000 in
/-- slices.Chunk: both arguments are boxed; the function value captures the boxes -/
theorem chunk_in (F : Fence) (n : Nat) (hf : F.fn 49) (hro : F.round = none) (A : Option Addr) (len cap : Nat) (w : World) :
    CallsIn F n Tryd.prog 49 #[.slice A len cap, .int .i64 3000] w fun e w' => e = .returned (.func (.func 66) #[] #[.pointer (some ⟨w.heap.size, 0, none⟩), .pointer (some ⟨w.heap.size + 1, 0, none⟩)]) ∧ w' = (w.alloc (.cells #[.slice A len cap] 30)).alloc (.cells #[.int .i64 3000] 3) := by
  refine callsIn_of_wp Tryd.func49 rfl hf ?_ hro
  simp only [Tryd.ntmps49, List.size_toArray, List.length_cons, List.length_nil, Nat.reduceAdd, Nat.reduceSub, Array.replicate_succ, Array.replicate_zero, List.push_toArray, List.append_toArray, List.nil_append, List.cons_append]
  gi_wp2
  go_ret
  exact ⟨rfl, rfl⟩
/-- what slices.Chunk hands back: all pieces, one behind the other -/
theorem chunk_stops (F : Fence) (n : Nat) (hf : F.fn 66) (hro : F.round = none) (hn : 1 ≤ n) (Bs Bn b off len cap : Nat) (hlen : len ≤ 1000000) (hlc : len ≤ cap) (w : World) (h1 : Bs < w.heap.size) (h2 : Bn < w.heap.size)
    (hBs : w.cell? ⟨Bs, 0, none⟩ = some (.slice (some ⟨b, off, none⟩) len cap)) (hBn : w.cell? ⟨Bn, 0, none⟩ = some (.int .i64 3000)) :
    SeqStopsK F n Tryd.prog 66 #[.pointer (some ⟨Bs, 0, none⟩), .pointer (some ⟨Bn, 0, none⟩)] (fun x : Nat => #[chunkV b off len x]) (KpC Bs Bn) (fun ys => ys = List.range ((len + 2999) / 3000)) (fun pre => ∃ k, pre = List.range k) ((len + 2999) / 3000) w := fun l J Jx W hW hJ _ hY h0 => by
  have hd : ∀ s W', J s W' → J s W'.drew := fun s W' h => hJ s W' W'.drew none h ⟨rfl, rfl, rfl, Nat.le_refl _, fun _ _ _ => rfl⟩ (fun r e => by cases e)
  exact chunk1_in F n hf hro hn l Bs Bn b off len cap hlen hlc J Jx hd hY W ((hW.cell (p := ⟨Bs, 0, none⟩) h1).trans hBs) ((hW.cell (p := ⟨Bn, 0, none⟩) h2).trans hBn) h0
theorem kpC_b {Bs Bn : Nat} {w : World} (h1 : Bs < w.heap.size) (h2 : Bn < w.heap.size) (W : World) (l : Nat) (o o' : Obj) (hl : w.heap.size ≤ l) (h : W.heap[l]? = some o) (_ : o.isCells = false) (_ : o.isWalk = false) : KpC Bs Bn W (W.putObj l o') := by
  have hg := grownBy_putObj' W l o'
  have hlt := (Array.getElem?_eq_some_iff.1 h).1
  exact ⟨hg.size, hg.block Bs (by omega) (by simp; omega), hg.block Bn (by omega) (by simp; omega)⟩
end Go.Proofs.YtdigpeipklfaeaaDoor
/-
  Package wal's PutSnap makes what the plain function says, in new memory.
  Texts have at most 1,000,000 bytes; package crc's table lies as it was laid.
-/
namespace Go.Proofs.YtdigpeipklfaeaaDoor
open Go.RowKit Go.Shelf
attribute [local go_sem] Oper.semAt_some
set_option maxRecDepth 100000

def piecesOf (l : List UInt8) (pre : List Nat) : List UInt8 := pre.flatMap fun i => sealB 4 ((l.drop (3000 * i)).take 3000)
theorem piecesOf_snoc (l : List UInt8) (pre : List Nat) (x : Nat) : piecesOf l (pre ++ [x]) = piecesOf l pre ++ sealB 4 ((l.drop (3000 * x)).take 3000) := by unfold piecesOf; rw [List.flatMap_append]; simp
theorem piecesOf_len (l : List UInt8) (pre : List Nat) : (piecesOf l pre).length ≤ pre.length * 3015 := by
  induction pre with
  | nil => exact Nat.le_refl _
  | cons x t ih =>
    have h : piecesOf l (x :: t) = sealB 4 ((l.drop (3000 * x)).take 3000) ++ piecesOf l t := rfl
    rw [h, List.length_append, List.length_cons]
    have := seal_len 4 ((l.drop (3000 * x)).take 3000)
    have h2 : ((l.drop (3000 * x)).take 3000).length ≤ 3000 := by rw [List.length_take]; omega
    omega
/-- between two rounds -/
def SnapI (n₀ b m c : Nat) (w0 : World) (hd l : List UInt8) (N : Nat) (pre : List Nat) (W : World) : Prop :=
  (∃ v, Boxed W b 30 v ∧ W.ownsRow n₀ 5 1 v (hd ++ piecesOf l pre).length (Lib.byteCells (hd ++ piecesOf l pre)) ∧ v.ownBlock ≠ some (b + 1)) ∧ Boxed W (b + 1 + 1) 30 (.slice (some ⟨b + 1, 0, none⟩) m c) ∧ Boxed W (b + 1 + 1 + 1) 3 (.int .i64 3000) ∧
  (∀ k (h : k < l.length), W.cell? ⟨b + 1, 0 + k, none⟩ = some (.int .u8 (l[k].toNat : Int))) ∧ N ≤ W.heap.size ∧ Below n₀ w0 W
theorem bytesAt_own {g : Nat} {l : List UInt8} : Own (fun (_ : List Nat) W => ∀ k (h : k < l.length), W.cell? ⟨g, 0 + k, none⟩ = some (.int .u8 (l[k].toNat : Int))) := fun s A B row hs hg hr k hk => cell_kept (hs k hk) hg hr
theorem snapI_own {n₀ b m c N B : Nat} {w0 : World} {hd l : List UInt8} (h : n₀ ≤ B ∧ n₀ ≤ w0.heap.size) : OwnFrom B (SnapI n₀ b m c w0 hd l N) :=
  OwnFrom.and (Own.from (holdsRow_own n₀ b 30 5 1 (fun pre => (hd ++ piecesOf l pre).length) (fun pre => Lib.byteCells (hd ++ piecesOf l pre)) (fun _ v => v.ownBlock ≠ some (b + 1))) _)
    (OwnFrom.and (Own.from (boxed_own _ _ (fun _ => .slice (some ⟨b + 1, 0, none⟩) m c)) _) (OwnFrom.and (Own.from (boxed_own _ _ (fun _ => .int .i64 3000)) _) (OwnFrom.and (Own.from bytesAt_own _) (OwnFrom.and (fun s A B row hs hg hr => Nat.le_trans hs hg.size) (ownFrom_below h.2 h.1)))))
/-- what stands in a slice is put behind a row of one's own, within a fence -/
theorem wpIn_append_byt10 {F : Fence} {n : Nat} {w : World} {o : Oper} {a : Act} {K : Act → World → Prop} {Q : Exit → Act → World → Prop} (s x : Operand)
    (ho : o.op = .call { callee := .builtin .append, args := #[s, x], argTypes := #[30, 30] })
    (B C : Nat) (v u : Value) (l m : List UInt8) (hs : a.eval s = v) (hown : OwnB B v l w) (hx : a.eval x = u) (hu : OwnB C u m w) (hm : 0 < m.length) (hlm : l.length + m.length ≤ 140737488355328) (hB : B ≤ w.heap.size)
    (h : ∀ v' w', OwnB B v' (l ++ m) w' → Grew v w v' w' → K (a.put o.dst v') w') : o.wpIn F n Tryd.prog a w K Q := by
  obtain ⟨iR, hiR, hzR0, hzR1, hzR2⟩ := info_parts Tryd.infoU8
  obtain ⟨A, c, rfl, hc, hcell⟩ := Byt.of_own hu
  obtain ⟨g, oo, rfl, _, hcs⟩ := hcell hm
  unfold OwnB at hown
  obtain ⟨v', w', hr, h2, h3, _, h5⟩ := run_append_own_at (P := Tryd.prog) w B 30 o.type 5 iR (.int .u8 0) 1 1 Tryd.underlying30 hiR hzR0 hzR1 hzR2 rfl (by decide) v l.length _ hown ⟨g, oo, none⟩ m.length c (Lib.byteCells m) (by rw [bytes_len]; omega)
    (by
      intro j z hj
      have hjm : j < m.length := by
        have := (List.getElem?_eq_some_iff.1 hj).1; rwa [bytes_len] at this
      have e1 : (⟨g, oo, Option.none⟩ : Addr).add j = ⟨g, oo + j, Option.none⟩ := by unfold Addr.add; split <;> simp_all
      rw [e1, hcs j hjm]
      unfold Lib.byteCells at hj; rw [List.getElem?_map, List.getElem?_eq_getElem hjm] at hj; simpa using hj) (byteCells_one m) (by unfold maxLen; omega) (by omega) hB
  unfold Oper.wpIn
  refine ⟨?_, ?_⟩
  · simp [Oper.about, ho, resolve, Target.leads, Sem.run_pure]
  · rw [Oper.semAt_plain F _ _ (by rw [ho]; intro c hc'; cases hc')]
    simp [execOp, ho, resolve, invoke, builtin, hs, hx, hr, Result.andThen]
    refine h v' w' ?_ ⟨h3, h5⟩
    unfold OwnB; rw [Lib.byteCells_append, List.length_append]; exact h2
/-- what a round leaves -/
theorem snap_round {n₀ b m c N x : Nat} {w0 W k6 w1 : World} {hd l : List UInt8} {pre : List Nat} {v v' : Value} (hn : n₀ ≤ b) (hbN : b + 4 ≤ N) (hI : SnapI n₀ b m c w0 hd l N pre W) (hv : Boxed W b 30 v)
    (h6 : Below W.heap.size W.drew k6) (hown1 : OwnB n₀ v' ((hd ++ piecesOf l pre) ++ sealB 4 ((l.drop (3000 * x)).take 3000)) w1) (hg : Grew v k6 v' w1) :
    Boxed w1 b 30 v ∧ (∀ B, KeepsFrom B W (w1.setCell ⟨b, 0, none⟩ v') ∧ KpC (b + 1 + 1) (b + 1 + 1 + 1) W (w1.setCell ⟨b, 0, none⟩ v') ∧ SnapI n₀ b m c w0 hd l N (pre ++ [x]) (w1.setCell ⟨b, 0, none⟩ v')) := by
  obtain ⟨⟨v0, hv0, hrow, hne⟩, hS, hNn, hby, hsz, hbl⟩ := hI
  obtain rfl : v0 = v := by
    have e := (show W.heap[b]? = _ from hv0).symm.trans hv
    simp at e; exact e
  have h6' : Below W.heap.size W k6 := ((Below.refl W.heap.size W).drew).trans h6
  have row6 := ownsRow_below hrow h6'
  have bx6 : Boxed k6 b 30 v0 := (h6'.block b hv.lt).trans hv
  have hS6 : Boxed k6 (b + 1 + 1) 30 (.slice (some ⟨b + 1, 0, none⟩) m c) := (h6'.block _ hS.lt).trans hS
  have hN6 : Boxed k6 (b + 1 + 1 + 1) 3 (.int .i64 3000) := (h6'.block _ hNn.lt).trans hNn
  have t1 : (30 : TypeId) ≠ 5 := by decide
  have t2 : (3 : TypeId) ≠ 5 := by decide
  have bx1 : Boxed w1 b 30 v0 := bx6.kept hg.1 (bx6.not_row t1 row6)
  have hS1 := hS6.kept hg.1 (hS6.not_row t1 row6)
  have hN1 := hN6.kept hg.1 (hN6.not_row t2 row6)
  unfold OwnB at hown1
  have hb6 : b + 4 ≤ k6.heap.size := Nat.le_trans (Nat.le_trans hbN hsz) h6'.size
  refine ⟨bx1, fun B => ⟨?_, ?_, ?_⟩⟩
  · refine KeepsFrom.trans (Y := k6) ⟨h6'.size, fun k o _ hk _ => (h6'.block k (Array.getElem?_eq_some_iff.1 hk).1).trans hk⟩ (KeepsFrom.trans (Y := w1) ((KeepsOthers.of_grownBy hg.1 fun j o ej hj => ?_).from B) ((KeepsOthers.setCell _ _ _).from B))
    rcases row6.2 with ⟨rfl, _⟩ | ⟨g, cap, cur, rfl, _, hgb, _⟩
    · simp [Value.ownBlock] at ej
    · obtain rfl : g = j := by simpa [Value.ownBlock] using ej
      rw [hgb] at hj; cases hj; rfl
  · refine ⟨Nat.le_trans h6'.size (Nat.le_trans hg.1.size (by simp [World.setCell])), ?_, ?_⟩
    · have e1 := hS1.other (B' := b) (by omega) v'
      exact (show (w1.setCell ⟨b, 0, none⟩ v').heap[b + 1 + 1]? = _ from e1).trans (show W.heap[b + 1 + 1]? = _ from hS).symm
    · have e1 := hN1.other (B' := b) (by omega) v'
      exact (show (w1.setCell ⟨b, 0, none⟩ v').heap[b + 1 + 1 + 1]? = _ from e1).trans (show W.heap[b + 1 + 1 + 1]? = _ from hNn).symm
  · have hnb : v'.ownBlock ≠ some (b + 1) := by
      rcases hg.2 with e | e
      · rw [e]; exact hne
      · rw [e]; intro e2; injection e2 with e2; omega
    refine ⟨⟨v', bx1.set v', ?_, hnb⟩, hS1.other (by omega) v', hN1.other (by omega) v', fun k hk => ?_, ?_, ?_⟩
    · rw [piecesOf_snoc, ← List.append_assoc]
      exact hown1.kept (grownBy_setCell' w1 b v') (.inr (bx1.not_row t1 hown1).symm)
    · have c1 := (h6'.cell (p := ⟨b + 1, 0 + k, none⟩) (by have := hS.lt; simp; omega)).trans (hby k hk)
      have c2 := hg.1.cell c1 (fun e => hne e.symm)
      exact (World.cell?_setCell_other _ _ _ _ (fun e => by injection e with e1 _; omega)).trans c2
    · exact Nat.le_trans hsz (Nat.le_trans h6'.size (Nat.le_trans hg.1.size (by simp [World.setCell])))
    · have hle : n₀ ≤ W.heap.size := by omega
      refine ((hbl.trans (h6'.mono hle)).trans ((Below.refl n₀ k6).grown hg.1 (Nat.le_trans hle h6'.size) fun j ej => ?_)).setCell (p := ⟨b, 0, none⟩) hn v'
      exact (World.ownsRow.lt row6 j ej).1
/-- a piece, as it lies in memory -/
theorem chunk_byt {W : World} {g m x : Nat} {l : List UInt8} (hl : l.length = m) (h : ∀ k (h : k < l.length), W.cell? ⟨g, 0 + k, none⟩ = some (.int .u8 (l[k].toNat : Int))) : Byt W (g + 1) (chunkV g 0 m x) ((l.drop (3000 * x)).take 3000) := by
  have e : ((l.drop (3000 * x)).take 3000).length = min 3000 (m - 3000 * x) := by rw [List.length_take, List.length_drop, hl]
  refine ⟨some ⟨g, 0 + 3000 * x, none⟩, min 3000 (m - 3000 * x), by rw [e]; rfl, by rw [e]; exact Nat.le_refl _, fun h0 => ⟨g, 0 + 3000 * x, rfl, by omega, fun k hk => ?_⟩⟩
  rw [e] at hk
  have := h (3000 * x + k) (by omega)
  rw [Nat.zero_add] at this
  rw [Nat.zero_add, this]
  simp
set_option maxHeartbeats 4000000 in
theorem wsnap10_yes (s : Snp) (w : World) (hT : Tbl w) (hm : maySnp10 s = true) : Calls Tryd.prog 25 #[s.val] w (Made (headS10 s ++ pieces10 s.data.data.toList ((s.data.size + 2999) / 3000)) w) := by
  obtain ⟨ix, st, cf, dt⟩ := s
  obtain ⟨a1, a2, a3, a4, a5, a6⟩ := maySnp10_is hm
  simp only at a1 a2 a3 a4 a5 a6
  have hmh : mayHead10 ⟨ix, st, cf, dt⟩ (dt.size : Int) = true := by
    unfold mayHead10; simp only [Bool.and_eq_true, decide_eq_true_eq]; omega
  have hmay := fun W => wmayHead ⟨ix, st, cf, dt⟩ (dt.size : Int) W (by show cf.size ≤ _; omega)
  rw [hmh] at hmay
  clear hm hmh
  unfold Snp.val at *
  simp only at *
  obtain ⟨W0, hW0⟩ : ∃ W0, w.alloc (.cells #[.int .i64 ix, .int .i64 st, .string cf, .string dt] 55) = W0 := ⟨_, rfl⟩
  have hb : Below w.heap.size w W0 := by rw [← hW0]; exact below_one _ _
  have hlt : w.heap.size < W0.heap.size := by rw [← hW0]; simp
  have d0 : W0.cell? ⟨w.heap.size, 0, none⟩ = some (.int .i64 ix) := by rw [← hW0]; exact new_cell10 rfl
  have d1 : W0.cell? ⟨w.heap.size, 1, none⟩ = some (.int .i64 st) := by rw [← hW0]; exact new_cell10 rfl
  have d2 : W0.cell? ⟨w.heap.size, 2, none⟩ = some (.string cf) := by rw [← hW0]; exact new_cell10 rfl
  have d3 : W0.cell? ⟨w.heap.size, 3, none⟩ = some (.string dt) := by rw [← hW0]; exact new_cell10 rfl
  refine (callsIn_wide (n := 4)).1 ?_
  refine callsIn_of_wp_marks Tryd.func25 rfl trivial ?_ rfl
  simp only [Tryd.ntmps25, List.size_toArray, List.length_cons, List.length_nil, Nat.reduceAdd, Nat.reduceSub, Array.replicate_succ, Array.replicate_zero, List.push_toArray, List.append_toArray, List.nil_append, List.cons_append]
  have HB0 := Lib.hid hb
  have HT := Lib.hid hT
  clear hb hT
  gi_wp2_with fail
  refine ⟨trivial, (callsIn_wide.2 (hmay _)).mono ?_⟩
  rintro e k1 ⟨rfl, h⟩
  replace d0 := (h.cell (p := ⟨w.heap.size, 0, none⟩) hlt).trans d0
  replace d1 := (h.cell (p := ⟨w.heap.size, 1, none⟩) hlt).trans d1
  replace d2 := (h.cell (p := ⟨w.heap.size, 2, none⟩) hlt).trans d2
  replace d3 := (h.cell (p := ⟨w.heap.size, 3, none⟩) hlt).trans d3
  have lt1 : w.heap.size < k1.heap.size := Nat.lt_of_lt_of_le hlt h.size
  have HB1 := Lib.hid (HB0.out.trans (h.mono HB0.out.size))
  clear h hW0 hmay HB0
  gi_wp2_with fail
  refine ⟨trivial, (callsIn_wide.2 (wputHead ix st cf dt _ a1 a2 a3 a4 (by omega) (by omega))).mono ?_⟩
  rintro e k2 ⟨v2, rfl, ho, h⟩
  replace d3 := (h.cell (p := ⟨w.heap.size, 3, none⟩) lt1).trans d3
  have lt2 : w.heap.size < k2.heap.size := Nat.lt_of_lt_of_le lt1 h.size
  have HB2 := Lib.hid (HB1.out.trans (h.mono HB1.out.size))
  have HO2 := Lib.hid ho
  have hhl : (headB10 ix st cf (dt.size : Int)).length ≤ 4000 := by
    unfold headB10 Nu.putT
    have := Nu.put_len ix; have := Nu.put_len st; have := Nu.put_len (dt.size : Int); have := Nu.put_len (cf.data.toList.length : Int)
    have : cf.data.toList.length = cf.size := by simp
    simp only [List.length_append]; omega
  obtain ⟨hb, hhb⟩ : ∃ hb, headB10 ix st cf (dt.size : Int) = hb := ⟨_, rfl⟩
  rw [hhb] at HO2 hhl
  have hsl := fseal_any 3 v2 k2.heap.size hb k2 (Byt.of_own HO2.out) (Nat.le_refl _) (by omega) (HT.out.below HB2.out)
  have hhd : sealB 3 hb = headS10 ⟨ix, st, cf, dt⟩ := by rw [← hhb]; rfl
  rw [hhd] at hsl
  clear h ho d0 d1 d2
  gi_wp2_with fail
  refine ⟨trivial, (callsIn_wide.2 hsl).mono ?_⟩
  rintro e k3 ⟨v3, rfl, ho, h⟩
  replace d3 := (h.cell (p := ⟨w.heap.size, 3, none⟩) lt2).trans d3
  have lt3 : w.heap.size < k3.heap.size := Nat.lt_of_lt_of_le lt2 h.size
  have HB3 := Lib.hid (HB2.out.trans (h.mono HB2.out.size))
  have HO3 := Lib.hid (ho.down HB2.out.size)
  obtain ⟨A3, c3, hv3⟩ := own_slice ho
  subst hv3
  obtain ⟨hd, hhd2⟩ : ∃ hd, headS10 ⟨ix, st, cf, dt⟩ = hd := ⟨_, rfl⟩
  have hdl : hd.length ≤ 4007 := by rw [← hhd2, ← hhd]; exact sealB_short _ _
  rw [hhd2] at HO3 ⊢
  obtain ⟨hn, hhn⟩ : ∃ hn, hd.length = hn := ⟨_, rfl⟩
  rw [hhn] at HO3 ⊢
  obtain ⟨c9, W9, hr9, hby9, hb9, hz9⟩ := conv_text10 (k3.alloc (.cells #[.slice A3 hn c3] 30)) dt
  have hz8 : (k3.alloc (.cells #[.slice A3 hn c3] 30)).heap.size = k3.heap.size + 1 := by simp
  rw [hz8] at hr9 hby9 hb9 hz9
  have bx : Boxed (k3.alloc (.cells #[.slice A3 hn c3] 30)) k3.heap.size 30 (.slice A3 hn c3) := Boxed.new _ _ _
  have bx9 : Boxed W9 k3.heap.size 30 (.slice A3 hn c3) := (hb9.block _ (by omega)).trans bx
  have ho9 : OwnB w.heap.size (.slice A3 hn c3) hd W9 := OwnB.below (w := k3.alloc (.cells #[.slice A3 hn c3] 30)) (HO3.out.below (below_new k3 _)) (by rw [hz8]; exact hb9)
  have hbw9 : Below w.heap.size w W9 := (HB3.out.alloc HB3.out.size (.cells #[.slice A3 hn c3] 30)).trans (hb9.mono (by have := HB3.out.size; omega))
  have HHD := Lib.hid hhd2
  have HHN := Lib.hid hhn
  have HBX := Lib.hid bx9
  have HO9 := Lib.hid ho9
  have HO8 := Lib.hid HO3.out
  have HBW9 := Lib.hid hbw9
  have HBY9 := Lib.hid hby9
  have HB9 := Lib.hid hb9
  clear h ho hsl hhd HO2 hhb hhd2 hhn bx bx9 ho9 hbw9 hby9 HO3 HB2 HB1 hb9 hz8
  gi_wp2_with fail
  refine ⟨trivial, (chunk_in Fence.wide 3 trivial rfl _ _ _ _).mono ?_⟩
  rintro e k5 ⟨rfl, rfl⟩
  gi_wp2_with fail
  obtain ⟨W5, hW5⟩ : ∃ W5, ((W9.alloc (.cells #[.slice (some ⟨k3.heap.size + 1, 0, none⟩) dt.size c9] 30)).alloc (.cells #[.int .i64 3000] 3)) = W5 := ⟨_, rfl⟩
  have hz5 : W5.heap.size = k3.heap.size + 4 := by rw [← hW5]; simp; omega
  have bS : Boxed W5 (k3.heap.size + 1 + 1) 30 (.slice (some ⟨k3.heap.size + 1, 0, none⟩) dt.size c9) := by
    rw [← hW5]; have := Boxed.new W9 30 (.slice (some ⟨k3.heap.size + 1, 0, none⟩) dt.size c9); rw [hz9] at this; exact this.alloc _
  have bN : Boxed W5 (k3.heap.size + 1 + 1 + 1) 3 (.int .i64 3000) := by
    rw [← hW5]; have := Boxed.new (W9.alloc (.cells #[.slice (some ⟨k3.heap.size + 1, 0, none⟩) dt.size c9] 30)) 3 (.int .i64 3000); rw [World.size_alloc, hz9] at this; exact this
  have hb95 : Below W9.heap.size W9 W5 := by rw [← hW5]; exact (below_new W9 _).alloc (by simp) _
  have bO : Boxed W5 k3.heap.size 30 (.slice A3 hn c3) := (hb95.block _ (by omega)).trans HBX.out
  have hbw5 : Below w.heap.size w W5 := HBW9.out.trans (hb95.mono HBW9.out.size)
  have ho5 : OwnB w.heap.size (.slice A3 hn c3) hd W5 := HO9.out.below hb95
  have hby5 := HBY9.out.below hb95 (Nat.le_refl _)
  have hbo1 : (Value.slice A3 hn c3).ownBlock ≠ some (k3.heap.size + 1) := fun e => by have := (HO8.out.lt _ e).2; omega
  have hby5c : ∀ k (h : k < dt.data.toList.length), W5.cell? ⟨k3.heap.size + 1, 0 + k, none⟩ = some (.int .u8 (dt.data.toList[k].toNat : Int)) := fun k hk => by
    obtain ⟨A', c', hv', _, hx⟩ := id hby5
    injection hv' with e1 _ _
    subst e1
    obtain ⟨g', o', e2, _, hcs⟩ := hx (by omega)
    injection e2 with e3
    injection e3 with e4 e5
    subst e4; subst e5
    exact hcs k hk
  rw [hW5]
  have hst := chunk_stops Fence.wide 3 trivial rfl (by omega) (k3.heap.size + 1 + 1) (k3.heap.size + 1 + 1 + 1) (k3.heap.size + 1) 0 dt.size c9 (by omega) (byt_cap10 HBY9.out) W5 (by omega) (by omega) bS.cell bN.cell
  refine wpIn_rangeFunc_ownG rfl (by omega) (gf := 66) (lb := #[.pointer (some ⟨k3.heap.size + 1 + 1, 0, none⟩), .pointer (some ⟨k3.heap.size + 1 + 1 + 1, 0, none⟩)]) rfl trivial (enters_of Tryd.func66 (by kernel_rfl) rfl)
    hst (fun h k => h.trans k) (kpC_b (by omega) (by omega)) (Below.refl _ _) (fun _ => rfl)
    (SnapI w.heap.size k3.heap.size dt.size c9 w hd dt.data.toList W5.heap.size)
    (fun _ _ _ => False)
    (snapI_own ⟨hbw5.size, Nat.le_refl _⟩)
    (fun _ _ _ _ _ hs _ _ => hs)
    ⟨⟨_, bO, by rw [show hd ++ piecesOf dt.data.toList [] = hd from List.append_nil hd]; exact ho5, hbo1⟩, bS, bN, hby5c, Nat.le_refl _, hbw5⟩
    (fun x => { tmps := #[.agg #[.int .i64 ix, .int .i64 st, .string cf, .string dt], .pointer (some ⟨w.heap.size, 0, none⟩), .slice none 0 0, .pointer (some ⟨k3.heap.size, 0, none⟩), chunkV (k3.heap.size + 1) 0 dt.size x, .agg #[.int .i64 ix, .int .i64 st, .string cf, .string dt], .pointer (some ⟨w.heap.size, 3, none⟩), .string dt, .int .i64 dt.size, .bool true, .bool false, .agg #[.int .i64 ix, .int .i64 st, .string cf, .string dt], v2, .slice A3 hn c3, .pointer (some ⟨w.heap.size, 3, none⟩), .string dt, .slice (some ⟨k3.heap.size + 1, 0, none⟩) dt.size c9, .func (.func 66) #[] #[.pointer (some ⟨k3.heap.size + 1 + 1, 0, none⟩), .pointer (some ⟨k3.heap.size + 1 + 1 + 1, 0, none⟩)], chunkV (k3.heap.size + 1) 0 dt.size x, undef, undef, undef, undef, undef], defers := [] }) ?assign ?body ?done ?stop
  case assign =>
    intro l x W K hK
    gi_wp2
    exact hK
  case body =>
    rintro l pre x W hI hlt
    obtain ⟨⟨v, hv, hrow, hne⟩, hS, hNn, hbys, hszW, hblW⟩ := id hI
    have hwW := hblW.size
    have hbyp := chunk_byt (x := x) (size_list10 dt) hbys
    have hpl := piecesOf_len dt.data.toList pre
    have hTW := HT.out.below hblW
    obtain ⟨pc, hpc⟩ : ∃ pc, (dt.data.toList.drop (3000 * x)).take 3000 = pc := ⟨_, rfl⟩
    have hpcl : pc.length ≤ 3000 := by rw [← hpc, List.length_take]; omega
    rw [hpc] at hbyp
    have hseal := fseal_any 4 (chunkV (k3.heap.size + 1) 0 dt.size x) (k3.heap.size + 1 + 1) pc W.drew hbyp (by show _ ≤ W.heap.size; omega) (by omega) hTW
    have hsl0 : 0 < (sealB 4 pc).length := by rw [sealB_len 4 pc (by decide) (by decide) (by omega)]; omega
    have hslc := sealB_short 4 pc
    have hc := hv.cell
    have HPL := Lib.hid (show (hd ++ piecesOf dt.data.toList pre).length + 5000 ≤ 1000000 by rw [List.length_append]; omega)
    have HI := Lib.hid hI
    have HPC := Lib.hid hpc
    clear hpc
    obtain ⟨Av, cv, hvv⟩ := own_slice hrow
    obtain ⟨mv, hmv⟩ : ∃ mv, (hd ++ piecesOf dt.data.toList pre).length = mv := ⟨_, rfl⟩
    rw [hmv] at hvv
    subst hvv
    clear hI hS hNn hbys hpl hbyp
    gi_wp2
    refine wpIn_region_any (by kernel_rfl) ?_
    refine wpAnyIn_ready (rs := [0, 1]) (by kernel_rfl) (by simp) ?_
    refine AllReadyIn.cons rfl (fun K hK => ?_) (AllReadyIn.cons rfl (fun K hK => ?_) AllReadyIn.nil)
    · go_simp
      refine hK _ _ ?_
      clear hK K
      refine wpAnyIn_ready (rs := [1]) (by kernel_rfl) (by simp) ?_
      refine AllReadyIn.cons rfl (fun K hK => ?_) AllReadyIn.nil
      go_simp
      refine hK _ _ ?_
      clear hK K
      refine wpAnyIn_ready (rs := [2]) (by kernel_rfl) (by simp) ?_
      refine AllReadyIn.cons rfl (fun K hK => ?_) AllReadyIn.nil
      go_simp
      refine ⟨trivial, (CallsIn.inRound l (callsIn_wide.2 hseal)).mono ?_⟩
      rintro e k6 ⟨v6, rfl, ho6, h6⟩
      have h6' : Below W.heap.size W k6 := ((Below.refl W.heap.size W).drew).trans h6
      have hc6 : k6.cell? ⟨k3.heap.size, 0, none⟩ = some (.slice Av mv cv) := (h6'.cell (p := ⟨k3.heap.size, 0, none⟩) hv.lt).trans hc
      have how6 := ownsRow_below hrow h6'
      have hle6 := Nat.le_trans hwW h6'.size
      obtain ⟨A6, c6, hv6⟩ := own_slice ho6
      subst hv6
      obtain ⟨m6, hm6⟩ : ∃ m6, (sealB 4 pc).length = m6 := ⟨_, rfl⟩
      have HM6 := Lib.hid hm6
      rw [hm6] at ho6
      simp only [hm6]
      clear hm6
      try dsimp only
      refine hK _ _ ?_
      clear hK K
      refine wpAnyIn_ready (rs := [3]) (by kernel_rfl) (by simp) ?_
      refine AllReadyIn.cons rfl (fun K hK => ?_) AllReadyIn.nil
      rw [if_pos (by rfl)]
      refine wpIn_append_byt10 _ _ rfl w.heap.size W.heap.size _ (.slice A6 m6 c6) _ _ rfl how6 rfl ho6 hsl0 (by have := HPL.out; omega) hle6 ?_
      intro v' w1 hown1 hg1
      have hown2 := hown1
      rw [← HPC.out] at hown2
      obtain ⟨A7, c7, hv7⟩ := own_slice hown1
      obtain ⟨m7, hm7⟩ : ∃ m7, ((hd ++ piecesOf dt.data.toList pre) ++ sealB 4 pc).length = m7 := ⟨_, rfl⟩
      rw [hm7] at hv7
      subst hv7
      clear hm7
      obtain ⟨bx1, hfin⟩ := snap_round (by omega) (by omega) HI.out hv h6 hown2 hg1
      have hc1 := bx1.cell
      have hf1 := bx1.frozen
      refine hK _ _ ?_
      clear hK K
      refine wpAnyIn_ready (rs := [4]) (by kernel_rfl) (by simp) ?_
      refine AllReadyIn.cons rfl (fun K hK => ?_) AllReadyIn.nil
      go_simp
      refine hK _ _ ?_
      clear hK K
      refine wpAnyIn_done (by kernel_rfl) ?_ _
      gi_wp2
      exact hfin _
    · go_simp
      refine hK _ _ ?_
      clear hK K
      refine wpAnyIn_ready (rs := [0, 2]) (by kernel_rfl) (by simp) ?_
      refine AllReadyIn.cons rfl (fun K hK => ?_) (AllReadyIn.cons rfl (fun K hK => ?_) AllReadyIn.nil)
      · go_simp
        refine hK _ _ ?_
        clear hK K
        refine wpAnyIn_ready (rs := [2]) (by kernel_rfl) (by simp) ?_
        refine AllReadyIn.cons rfl (fun K hK => ?_) AllReadyIn.nil
        go_simp
        refine ⟨trivial, (CallsIn.inRound l (callsIn_wide.2 hseal)).mono ?_⟩
        rintro e k6 ⟨v6, rfl, ho6, h6⟩
        have h6' : Below W.heap.size W k6 := ((Below.refl W.heap.size W).drew).trans h6
        have hc6 : k6.cell? ⟨k3.heap.size, 0, none⟩ = some (.slice Av mv cv) := (h6'.cell (p := ⟨k3.heap.size, 0, none⟩) hv.lt).trans hc
        have how6 := ownsRow_below hrow h6'
        have hle6 := Nat.le_trans hwW h6'.size
        obtain ⟨A6, c6, hv6⟩ := own_slice ho6
        subst hv6
        obtain ⟨m6, hm6⟩ : ∃ m6, (sealB 4 pc).length = m6 := ⟨_, rfl⟩
        have HM6 := Lib.hid hm6
        rw [hm6] at ho6
        simp only [hm6]
        clear hm6
        try dsimp only
        refine hK _ _ ?_
        clear hK K
        refine wpAnyIn_ready (rs := [3]) (by kernel_rfl) (by simp) ?_
        refine AllReadyIn.cons rfl (fun K hK => ?_) AllReadyIn.nil
        rw [if_pos (by rfl)]
        refine wpIn_append_byt10 _ _ rfl w.heap.size W.heap.size _ (.slice A6 m6 c6) _ _ rfl how6 rfl ho6 hsl0 (by have := HPL.out; omega) hle6 ?_
        intro v' w1 hown1 hg1
        have hown2 := hown1
        rw [← HPC.out] at hown2
        obtain ⟨A7, c7, hv7⟩ := own_slice hown1
        obtain ⟨m7, hm7⟩ : ∃ m7, ((hd ++ piecesOf dt.data.toList pre) ++ sealB 4 pc).length = m7 := ⟨_, rfl⟩
        rw [hm7] at hv7
        subst hv7
        clear hm7
        obtain ⟨bx1, hfin⟩ := snap_round (by omega) (by omega) HI.out hv h6 hown2 hg1
        have hc1 := bx1.cell
        have hf1 := bx1.frozen
        refine hK _ _ ?_
        clear hK K
        refine wpAnyIn_ready (rs := [4]) (by kernel_rfl) (by simp) ?_
        refine AllReadyIn.cons rfl (fun K hK => ?_) AllReadyIn.nil
        go_simp
        refine hK _ _ ?_
        clear hK K
        refine wpAnyIn_done (by kernel_rfl) ?_ _
        gi_wp2
        exact hfin _
      · go_simp
        refine ⟨trivial, (CallsIn.inRound l (callsIn_wide.2 hseal)).mono ?_⟩
        rintro e k6 ⟨v6, rfl, ho6, h6⟩
        have h6' : Below W.heap.size W k6 := ((Below.refl W.heap.size W).drew).trans h6
        have hc6 : k6.cell? ⟨k3.heap.size, 0, none⟩ = some (.slice Av mv cv) := (h6'.cell (p := ⟨k3.heap.size, 0, none⟩) hv.lt).trans hc
        have how6 := ownsRow_below hrow h6'
        have hle6 := Nat.le_trans hwW h6'.size
        obtain ⟨A6, c6, hv6⟩ := own_slice ho6
        subst hv6
        obtain ⟨m6, hm6⟩ : ∃ m6, (sealB 4 pc).length = m6 := ⟨_, rfl⟩
        have HM6 := Lib.hid hm6
        rw [hm6] at ho6
        simp only [hm6]
        clear hm6
        try dsimp only
        refine hK _ _ ?_
        clear hK K
        refine wpAnyIn_ready (rs := [0]) (by kernel_rfl) (by simp) ?_
        refine AllReadyIn.cons rfl (fun K hK => ?_) AllReadyIn.nil
        go_simp
        refine hK _ _ ?_
        clear hK K
        refine wpAnyIn_ready (rs := [3]) (by kernel_rfl) (by simp) ?_
        refine AllReadyIn.cons rfl (fun K hK => ?_) AllReadyIn.nil
        rw [if_pos (by rfl)]
        refine wpIn_append_byt10 _ _ rfl w.heap.size W.heap.size _ (.slice A6 m6 c6) _ _ rfl how6 rfl ho6 hsl0 (by have := HPL.out; omega) hle6 ?_
        intro v' w1 hown1 hg1
        have hown2 := hown1
        rw [← HPC.out] at hown2
        obtain ⟨A7, c7, hv7⟩ := own_slice hown1
        obtain ⟨m7, hm7⟩ : ∃ m7, ((hd ++ piecesOf dt.data.toList pre) ++ sealB 4 pc).length = m7 := ⟨_, rfl⟩
        rw [hm7] at hv7
        subst hv7
        clear hm7
        obtain ⟨bx1, hfin⟩ := snap_round (by omega) (by omega) HI.out hv h6 hown2 hg1
        have hc1 := bx1.cell
        have hf1 := bx1.frozen
        refine hK _ _ ?_
        clear hK K
        refine wpAnyIn_ready (rs := [4]) (by kernel_rfl) (by simp) ?_
        refine AllReadyIn.cons rfl (fun K hK => ?_) AllReadyIn.nil
        go_simp
        refine hK _ _ ?_
        clear hK K
        refine wpAnyIn_done (by kernel_rfl) ?_ _
        gi_wp2
        exact hfin _
  case done =>
    rintro D ys W hD rfl ⟨⟨v, hv, hrow, hne⟩, hS, hNn, hbys, hszW, hblW⟩ hK
    have hc := hv.cell
    obtain ⟨Av, cv, hvv⟩ := own_slice hrow
    obtain ⟨mv, hmv⟩ : ∃ mv, (hd ++ piecesOf dt.data.toList (List.range ((dt.size + 2999) / 3000))).length = mv := ⟨_, rfl⟩
    rw [hmv] at hvv
    subst hvv
    clear hS hNn hbys
    gi_wp2
    refine ⟨by simp, .inl ⟨_, _, rfl, run_takeDeferred hK, ?_⟩⟩
    refine ⟨_, results_tmp rfl _ _ _, _, rfl, ?_, hblW.trans (belowK_b (w := w) (Nat.le_refl _) W D _ _ (by have := hbw5.size; omega) hK rfl rfl)⟩
    rw [HHD.out]
    exact ownsRow_putObj hrow _ hK rfl
  case stop =>
    rintro D c pre W _ _ h _
    exact h.elim
end Go.Proofs.YtdigpeipklfaeaaDoor
/-
  Package wal's PutSnap answers what the plain function says; open tells a frame of a kind.
  Texts have at most 1,000,000 bytes; package crc's table lies as it was laid.
-/
namespace Go.Proofs.YtdigpeipklfaeaaDoor
open Go.RowKit
set_option maxRecDepth 100000

theorem mayHead_snap (s : Snp) : mayHead10 s (s.data.size : Int) = maySnp10 s := by
  unfold mayHead10 maySnp10
  rw [Bool.eq_iff_iff]; simp only [Bool.and_eq_true, decide_eq_true_eq]; omega
theorem wsnap10_nil (s : Snp) (w : World) (hc : s.conf.size ≤ 1000000) (hs : s.data.size ≤ 1000000) (hm : maySnp10 s = false) : Calls Tryd.prog 25 #[s.val] w (Made [] w) := by
  have hmay := fun W => wmayHead s (s.data.size : Int) W hc
  rw [mayHead_snap, hm] at hmay
  clear hm
  obtain ⟨ix, st, cf, dt⟩ := s
  unfold Snp.val at *
  simp only at *
  obtain ⟨W0, hW0⟩ : ∃ W0, w.alloc (.cells #[.int .i64 ix, .int .i64 st, .string cf, .string dt] 55) = W0 := ⟨_, rfl⟩
  have hb : Below w.heap.size w W0 := by rw [← hW0]; exact below_one _ _
  have d0 : W0.cell? ⟨w.heap.size, 0, none⟩ = some (.int .i64 ix) := by rw [← hW0]; exact new_cell10 rfl
  have d1 : W0.cell? ⟨w.heap.size, 1, none⟩ = some (.int .i64 st) := by rw [← hW0]; exact new_cell10 rfl
  have d2 : W0.cell? ⟨w.heap.size, 2, none⟩ = some (.string cf) := by rw [← hW0]; exact new_cell10 rfl
  have d3 : W0.cell? ⟨w.heap.size, 3, none⟩ = some (.string dt) := by rw [← hW0]; exact new_cell10 rfl
  go_enter Tryd.func25, Tryd.ntmps25
  go_wp2_with fail
  refine (hmay _).mono ?_
  rintro e k1 ⟨rfl, h⟩
  have HB := Lib.hid (hb.trans (h.mono hb.size))
  clear h hb hW0 d0 d1 d2 d3
  go_wp2
  go_ret
  exact ⟨_, rfl, ownB_nil _ _, HB.out⟩
theorem wsnap10_any (s : Snp) (w : World) (hc : s.conf.size ≤ 1000000) (hs : s.data.size ≤ 1000000) (hT : Tbl w) : Calls Tryd.prog 25 #[s.val] w (Made (snapB10 s) w) := by
  unfold snapB10
  rcases hm : maySnp10 s with _ | _
  · rw [if_pos rfl]; exact wsnap10_nil s w hc hs hm
  · rw [if_neg (by simp)]; exact wsnap10_yes s w hT hm
/-- the body of a frame of kind k, how many bytes, the error -/
def openK (k : Nat) (l : List UInt8) : List UInt8 × Nat × Nat :=
  if (openB l).2.2.2 ≠ 0 then ([], 0, (openB l).2.2.2) else if (openB l).1 ≠ k then ([], 0, 3) else ((openB l).2.1, (openB l).2.2.1, 0)
def GotK (r : List UInt8 × Nat × Nat) (w : World) (e : Ending) (w' : World) : Prop := ∃ v, e = .returned (.tuple #[v, .int .i64 (r.2.1 : Nat), .int .i64 (r.2.2 : Nat)]) ∧ OwnB w.heap.size v r.1 w' ∧ Below w.heap.size w w'
set_option maxHeartbeats 1000000 in
theorem wopen_any (k : Nat) (A : Option Addr) (n c B : Nat) (l : List UInt8) (w : World) (h : Byt w B (.slice A n c) l) (hB : B ≤ w.heap.size) (hl : l.length ≤ 1000000) (hT : Tbl w) :
    Calls Tryd.prog 50 #[.slice A n c, .int .i64 k] w (GotK (openK k l) w) := by
  obtain rfl : n = l.length := by obtain ⟨_, _, hv, _⟩ := h; injection hv
  have hop := fopen_any A c B l w h hB hl hT
  obtain ⟨⟨k', b, m, e⟩, ho⟩ : ∃ x, openB l = x := ⟨_, rfl⟩
  have hd : openK k l = if e ≠ 0 then ([], 0, e) else if k' ≠ k then ([], 0, 3) else (b, m, 0) := by unfold openK; rw [ho]
  rw [ho] at hop
  obtain ⟨r, hr⟩ : ∃ r, openK k l = r := ⟨_, rfl⟩
  rw [hr] at hd ⊢
  have HD := Lib.hid hd
  obtain ⟨ln, hln⟩ : ∃ ln, l.length = ln := ⟨_, rfl⟩
  rw [hln] at hop ⊢
  clear hd hr h hT hB hln ho
  go_enter Tryd.func50, Tryd.ntmps50
  go_wp2_with fail
  refine hop.mono ?_
  rintro e1 k1 ⟨v1, rfl, ho1, h1⟩
  have HO := Lib.hid ho1
  have HB1 := Lib.hid h1
  clear hop ho1 h1
  obtain ⟨A1, c1, hv1⟩ := own_slice HO.out
  by_cases he : e = 0
  · subst he
    by_cases hk : k' = k
    · subst hk
      subst hv1
      go_wp2
      refine bodyPost_ret (v := .tuple #[.slice A1 b.length c1, .int .i64 m, .int .i64 0]) (by simp [results, Tryd.results50, go_sem]) rfl ⟨.slice A1 b.length c1, ?_, ?_, HB1.out⟩
      · rw [HD.out]; simp
      · rw [HD.out]; simp only [ne_eq, not_true_eq_false, if_false]; exact HO.out
    · have hk2 : ((k' : Int) == k) = false := by rw [beq_eq_false_iff_ne]; omega
      have hk3 : ¬ (k' : Int) = k := by omega
      go_wp2
      refine bodyPost_ret (v := .tuple #[.slice none 0 0, .int .i64 0, .int .i64 3]) (by simp [results, Tryd.results50, go_sem]) rfl ⟨.slice none 0 0, ?_, ?_, HB1.out⟩
      · rw [HD.out, if_neg (by simp), if_pos hk]; rfl
      · rw [HD.out, if_neg (by simp), if_pos hk]; exact ownB_nil _ _
  · have he2 : ((e : Int) == 0) = false := by rw [beq_eq_false_iff_ne]; omega
    have he3 : ¬ (e : Int) = 0 := by omega
    go_wp2
    refine bodyPost_ret (v := .tuple #[.slice none 0 0, .int .i64 0, .int .i64 e]) (by simp [results, Tryd.results50, go_sem]) rfl ⟨.slice none 0 0, ?_, ?_, HB1.out⟩
    · rw [HD.out, if_pos he]; rfl
    · rw [HD.out, if_pos he]; exact ownB_nil _ _
end Go.Proofs.YtdigpeipklfaeaaDoor
/-
  Package wal's getData answers what the plain function says.
  The bytes are there in memory, at most 1,000,000; package crc's table lies as it was laid.
-/
namespace Go.Proofs.YtdigpeipklfaeaaDoor
open Go.RowKit
set_option maxRecDepth 100000

def comb10 (b : List UInt8) (n : Nat) (r : List UInt8 × Nat × Nat) : List UInt8 × Nat × Nat := if r.2.2 ≠ 0 then ([], 0, r.2.2) else (b ++ r.1, n + r.2.1, 0)
/-- the Data of m bytes at the beginning of l, how many bytes its frames take, the error -/
def getD10 : Nat → Nat → List UInt8 → List UInt8 × Nat × Nat
  | 0, _, _ => ([], 0, 0)
  | f + 1, m, l => if m = 0 then ([], 0, 0) else if (openK 4 l).2.2 ≠ 0 then ([], 0, (openK 4 l).2.2) else if (openK 4 l).1.length ≠ min 3000 m then ([], 0, 3)
      else comb10 (openK 4 l).1 (openK 4 l).2.1 (getD10 f (m - (openK 4 l).1.length) (l.drop (openK 4 l).2.1))
theorem comb10_bad (b : List UInt8) (n : Nat) (r : List UInt8 × Nat × Nat) (h : (comb10 b n r).2.2 ≠ 0) : comb10 b n r = ([], 0, (comb10 b n r).2.2) := by
  unfold comb10 at h ⊢
  split
  · rfl
  · rename_i h2; rw [if_neg h2] at h; exact absurd rfl h
theorem getD10_bad (f m : Nat) (l : List UInt8) (h : (getD10 f m l).2.2 ≠ 0) : getD10 f m l = ([], 0, (getD10 f m l).2.2) := by
  cases f with
  | zero => exact absurd rfl h
  | succ f =>
    unfold getD10 at h ⊢
    by_cases h0 : m = 0
    · rw [if_pos h0] at h; exact absurd rfl h
    rw [if_neg h0] at h ⊢
    by_cases h1 : (openK 4 l).2.2 ≠ 0
    · rw [if_pos h1]
    rw [if_neg h1] at h ⊢
    by_cases h2 : (openK 4 l).1.length ≠ min 3000 m
    · rw [if_pos h2]
    rw [if_neg h2] at h ⊢
    exact comb10_bad _ _ _ h
theorem comb10_nil (r : List UInt8 × Nat × Nat) (h : r.2.2 ≠ 0 → r = ([], 0, r.2.2)) : comb10 [] 0 r = r := by
  unfold comb10
  by_cases h0 : r.2.2 = 0
  · rw [if_neg (by simpa using h0)]
    obtain ⟨a, b, c⟩ := r
    simp only at h0
    subst h0
    simp
  · rw [if_pos h0]; exact (h h0).symm
theorem comb10_comb (b c : List UInt8) (n m : Nat) (r : List UInt8 × Nat × Nat) : comb10 b n (comb10 c m r) = comb10 (b ++ c) (n + m) r := by
  unfold comb10
  by_cases h : r.2.2 ≠ 0
  · simp only [if_pos h]
  · simp only [if_neg h, ne_eq, not_true_eq_false, if_false, List.append_assoc, Nat.add_assoc]
theorem openK_good {k n : Nat} {l b : List UInt8} (h : openK k l = (b, n, 0)) : 6 ≤ n ∧ n ≤ l.length ∧ b.length ≤ 4000 ∧ openB l = (k, b, n, 0) := by
  unfold openK at h
  obtain ⟨⟨k', b', m, e⟩, ho⟩ : ∃ x, openB l = x := ⟨_, rfl⟩
  rw [ho] at h
  simp only at h
  by_cases he : e ≠ 0
  · rw [if_pos he] at h; simp only [Prod.mk.injEq] at h; exact absurd h.2.2 he
  rw [if_neg he] at h
  by_cases hk : k' ≠ k
  · rw [if_pos hk] at h; simp at h
  rw [if_neg hk] at h
  simp only [Prod.mk.injEq, and_true] at h
  obtain ⟨rfl, rfl⟩ := h
  have he0 : e = 0 := by omega
  have hk0 : k' = k := by omega
  subst he0; subst hk0
  have := openB_good ho
  exact ⟨this.1, this.2.1, this.2.2.1, ho⟩
theorem openK_bad {k n e : Nat} {l b : List UInt8} (h : openK k l = (b, n, e)) (he : e ≠ 0) : b = [] ∧ n = 0 ∧ (e = 2 ∨ e = 3) := by
  unfold openK at h
  obtain ⟨⟨k', b', m, e'⟩, ho⟩ : ∃ x, openB l = x := ⟨_, rfl⟩
  rw [ho] at h
  simp only at h
  by_cases he2 : e' ≠ 0
  · rw [if_pos he2] at h; simp only [Prod.mk.injEq] at h
    obtain ⟨rfl, rfl, rfl⟩ := h
    exact ⟨rfl, rfl, (openB_bad ho he2).2.2.2⟩
  rw [if_neg he2] at h
  by_cases hk : k' ≠ k
  · rw [if_pos hk] at h; simp only [Prod.mk.injEq] at h
    obtain ⟨rfl, rfl, rfl⟩ := h
    exact ⟨rfl, rfl, .inr rfl⟩
  · rw [if_neg hk] at h; simp only [Prod.mk.injEq] at h; exact absurd h.2.2.symm he
theorem openK_nil (k : Nat) : openK k [] = ([], 0, 2) := rfl
def GotD (r : List UInt8 × Nat × Nat) (w : World) (e : Ending) (w' : World) : Prop := e = .returned (.tuple #[.string ⟨r.1.toArray⟩, .int .i64 (r.2.1 : Nat), .int .i64 (r.2.2 : Nat)]) ∧ Below w.heap.size w w'
theorem wopen_is (k : Nat) (ki : Int) (hki : ki = (k : Int)) (A : Option Addr) (n c B : Nat) (l : List UInt8) (r) (w : World) (h : Byt w B (.slice A n c) l) (hB : B ≤ w.heap.size) (hl : l.length ≤ 1000000) (hT : Tbl w) (hr : openK k l = r) :
    Calls Tryd.prog 50 #[.slice A n c, .int .i64 ki] w (GotK r w) := by
  rw [← hr, hki]; exact wopen_any k A n c B l w h hB hl hT
theorem conv_any10 {w : World} {B : Nat} {v : Value} {l : List UInt8} (h : OwnB B v l w) : (convert 30 9 v).run Tryd.prog w = .ok (.string ⟨l.toArray⟩) w := by
  by_cases h0 : 1 ≤ l.length
  · exact conv_own h h0
  · have : l = [] := List.eq_nil_of_length_eq_zero (by omega)
    subst this
    rcases h.2 with ⟨rfl, _⟩ | ⟨g, c, cur, rfl, _⟩
    · rfl
    · exact conv_zero w g 0 c
def lenOfSlice10 : Value → Nat
  | .slice _ n _ => n
  | _ => 0
set_option maxHeartbeats 1000000 in
theorem wgetD_some (g o c B m : Nat) (l : List UInt8) (w : World) (h : Byt w B (.slice (some ⟨g, o, none⟩) l.length c) l) (hB : B ≤ w.heap.size) (hl : l.length ≤ 1000000) (hm : m ≤ 200000) (hT : Tbl w) :
    Calls Tryd.prog 53 #[.slice (some ⟨g, o, none⟩) l.length c, .int .i64 m] w (GotD (getD10 m m l) w) := by
  have HB := Lib.hid h
  have HT := Lib.hid hT; clear hT
  have hcl : l.length ≤ c := by obtain ⟨_, _, hv, hc, _⟩ := h; injection hv with _ _ e; omega
  clear h
  go_enter Tryd.func53, Tryd.ntmps53
  go_wp2_with fail
  go_loopw [7, 8] (fun v i wr => ∃ (acc : List UInt8) (k j f : Nat), acc.length = j ∧ i = .int .i64 k ∧ k ≤ l.length ∧ j ≤ m ∧ m - j ≤ f ∧ OwnB w.heap.size v acc wr ∧ Below w.heap.size w wr ∧ getD10 m m l = comb10 acc k (getD10 f (m - j) (l.drop k))) (fun v _ _ => m - (lenOfSlice10 v))
  case atStart => exact ⟨[], 0, 0, m, rfl, rfl, Nat.zero_le _, Nat.zero_le _, by omega, ownB_nil _ _, Below.refl _ _, by rw [comb10_nil _ (getD10_bad _ _ _)]; rfl⟩
  case round =>
    obtain ⟨acc, k, j, f, hj, rfl, hk, hjm, hf, hown, hb, heq⟩ := hrel
    obtain ⟨A9, c9, hv9⟩ := own_slice hown
    rw [hj] at hv9
    subst hv9
    have HOWN := Lib.hid hown; have HEQ := Lib.hid heq; have HJ := Lib.hid hj
    have hby := (HB.out.below hb hB).cut (k := k) hk
    rw [add_lit_10] at hby
    have hT2 := tbl_keep HT.out hb
    have hBr : B ≤ wr.heap.size := Nat.le_trans hB hb.size
    have hdl : (l.drop k).length ≤ 1000000 := by rw [List.length_drop]; omega
    have HT2 := Lib.hid hT2
    have hkc : k ≤ c := by omega
    clear hown heq hT2 hj
    by_cases hlt : j < m
    · have hji : (j : Int) < m := by omega
      obtain ⟨f', rfl⟩ : ∃ f', f = f' + 1 := ⟨f - 1, by omega⟩
      obtain ⟨⟨b, n, e⟩, hr⟩ : ∃ r, openK 4 (l.drop k) = r := ⟨_, rfl⟩
      have hun : getD10 (f' + 1) (m - j) (l.drop k) = if e ≠ 0 then ([], 0, e) else if b.length ≠ min 3000 (m - j) then ([], 0, 3) else comb10 b n (getD10 f' (m - j - b.length) ((l.drop k).drop n)) := by
        conv => lhs; unfold getD10
        rw [if_neg (by omega), hr]
      have HR := Lib.hid hr; have HUN := Lib.hid hun
      clear hun hr
      by_cases hck : c = k
      · have hlk : l.length = k := by omega
        have hd : l.drop k = [] := List.drop_of_length_le (by omega)
        have hby0 : Byt wr B (.slice (some ⟨g, o, none⟩) 0 0) [] := ⟨_, _, rfl, Nat.le_refl _, fun h => absurd h (by simp)⟩
        have hres : getD10 m m l = ([], 0, 2) := by
          have h1 := HR.out
          rw [hd, openK_nil] at h1
          simp only [Prod.mk.injEq] at h1
          obtain ⟨_, _, rfl⟩ := h1
          rw [HEQ.out, HUN.out, if_pos (by decide)]; rfl
        have HRES := Lib.hid hres
        subst hck
        have HBY := Lib.hid hby0
        clear hres hby hby0 hdl hd hlk
        go_wp2_with fail
        refine (wopen_is 4 4 rfl _ 0 0 B [] ([], 0, 2) _ HBY.out hBr (by simp) HT2.out (openK_nil 4)).mono ?_
        rintro e9 w1 ⟨v1, rfl, ho1, hb1⟩
        have hbw1 := hb.trans (hb1.mono hb.size)
        clear ho1
        go_wp2
        exact bodyPost_ret (v := .tuple #[.string ⟨#[]⟩, .int .i64 0, .int .i64 2]) (by simp [results, Tryd.results53, go_sem]) rfl ⟨by rw [HRES.out]; rfl, hbw1⟩
      · rw [if_neg hck] at hby
        have HBY := Lib.hid hby; clear hby
        by_cases he : e = 0
        · subst he
          obtain ⟨n1, n2, n3, n4⟩ := openK_good HR.out
          rw [List.length_drop] at n2
          have hsum : k + n ≤ l.length := by omega
          have HN := Lib.hid (And.intro n1 hsum)
          have hkn : (k : Int) + n ≤ 1000000 := by omega
          clear n1 n2 n4 hsum
          by_cases hbl : b.length = min 3000 (m - j)
          · have hmn : min (3000 : Int) ((m : Int) - j) = (b.length : Int) := by omega
            obtain ⟨bl, hbb⟩ : ∃ bl, b.length = bl := ⟨_, rfl⟩
            rw [hbb] at hmn hbl n3
            have HBB := Lib.hid hbb
            clear hbb
            have hnx : getD10 m m l = comb10 (acc ++ b) (k + n) (getD10 f' (m - (j + bl)) (l.drop (k + n))) := by
              rw [HEQ.out, HUN.out, if_neg (by simp), if_neg (by rw [HBB.out]; simpa using hbl), comb10_comb, HBB.out, List.drop_drop, Nat.sub_sub]
            have HNX := Lib.hid hnx
            have hbl2 : 1 ≤ bl := by omega
            have hbl3 : j + bl ≤ m := by omega
            have hwr : IntKind.i64.wrap ((m : Int) - j) = (m : Int) - j := by rw [IntKind.wrap_i64]; omega
            clear hnx hbl
            go_wp2_with fail
            refine (wopen_is 4 4 rfl _ _ _ B (l.drop k) _ _ HBY.out hBr hdl HT2.out HR.out).mono ?_
            rintro e9 w1 ⟨v1, rfl, ho1, hb1⟩
            have hown1 := HOWN.out.below hb1
            have hbw1 := hb.trans (hb1.mono hb.size)
            obtain ⟨A1, c1, hv1⟩ := own_slice ho1
            simp only [HBB.out] at hv1
            subst hv1
            have hby1 := Byt.of_own ho1
            clear hb1 ho1 hb
            have hal : acc.length + b.length ≤ 1000000 := by have := HBB.out; have := HJ.out; omega
            have HAL := Lib.hid hal
            clear hal
            go_wp2_with (at_builtin; refine wpList_append_byt rfl _ _ rfl w.heap.size _ _ _ _ _ rfl hown1 rfl hby1 (Nat.le_trans HAL.out (by decide)) hbw1.size ?_)
            intro v2 w2 hown2 hb2
            have hbw2 := hbw1.trans hb2
            have hab : (acc ++ b).length = j + bl := by rw [List.length_append, HBB.out, HJ.out]
            obtain ⟨A7, c7, hv7⟩ := own_slice hown2
            rw [hab] at hv7
            subst hv7
            clear hown1 hby1 hbw1 hb2
            have HAB := Lib.hid hab
            clear hab
            go_wp2
            go_roundw
            case rel => exact ⟨acc ++ b, k + n, j + bl, f', HAB.out, by go_num, HN.out.2, hbl3, by omega, hown2, hbw2, HNX.out⟩
            case measure => simp [lenOfSlice10]; omega
          · obtain ⟨bl, hbb⟩ : ∃ bl, b.length = bl := ⟨_, rfl⟩
            have hres : getD10 m m l = ([], 0, 3) := by rw [HEQ.out, HUN.out, if_neg (by simp), if_pos hbl]; rfl
            rw [hbb] at hbl n3
            have HBB := Lib.hid hbb
            have HRES := Lib.hid hres
            have hwr : IntKind.i64.wrap ((m : Int) - j) = (m : Int) - j := by rw [IntKind.wrap_i64]; omega
            have hmn : ¬ (bl : Int) = min (3000 : Int) ((m : Int) - j) := by omega
            clear hbb hres
            go_wp2_with fail
            refine (wopen_is 4 4 rfl _ _ _ B (l.drop k) _ _ HBY.out hBr hdl HT2.out HR.out).mono ?_
            rintro e9 w1 ⟨v1, rfl, ho1, hb1⟩
            have hbw1 := hb.trans (hb1.mono hb.size)
            obtain ⟨A1, c1, hv1⟩ := own_slice ho1
            simp only [HBB.out] at hv1
            subst hv1
            clear hb1 ho1 hb
            go_wp2
            exact bodyPost_ret (v := .tuple #[.string ⟨#[]⟩, .int .i64 0, .int .i64 3]) (by simp [results, Tryd.results53, go_sem]) rfl ⟨by rw [HRES.out]; rfl, hbw1⟩
        · have hee : ((e : Int) == 0) = false := by rw [beq_eq_false_iff_ne]; omega
          have hee2 : ¬ (e : Int) = 0 := by omega
          have hres : getD10 m m l = ([], 0, e) := by
            rw [HEQ.out, HUN.out, if_pos he]
            unfold comb10; rw [if_pos he]
          have HRES := Lib.hid hres
          obtain ⟨hb0, hn0, _⟩ := openK_bad HR.out he
          subst hb0; subst hn0
          clear he hres
          go_wp2_with fail
          refine (wopen_is 4 4 rfl _ _ _ B (l.drop k) _ _ HBY.out hBr hdl HT2.out HR.out).mono ?_
          rintro e9 w1 ⟨v1, rfl, ho1, hb1⟩
          have hbw1 := hb.trans (hb1.mono hb.size)
          clear ho1
          go_wp2
          exact bodyPost_ret (v := .tuple #[.string ⟨#[]⟩, .int .i64 0, .int .i64 e]) (by simp [results, Tryd.results53, go_sem]) rfl ⟨by rw [HRES.out]; rfl, hbw1⟩
    · have hge : (m : Int) ≤ j := by omega
      obtain rfl : j = m := by omega
      have hres : getD10 j j l = (acc, k, 0) := by
        rw [HEQ.out, Nat.sub_self]
        have : getD10 f 0 (l.drop k) = ([], 0, 0) := by cases f <;> rfl
        rw [this]; unfold comb10; simp
      have HRES := Lib.hid hres
      have hcv := conv_any10 HOWN.out
      clear hres hby hdl
      go_wp2
      exact bodyPost_ret (v := .tuple #[.string ⟨acc.toArray⟩, .int .i64 k, .int .i64 0]) (by simp [results, Tryd.results53, go_sem]) rfl ⟨by rw [HRES.out]; rfl, hb⟩
end Go.Proofs.YtdigpeipklfaeaaDoor
/-
  Package wal's GetSnap answers what the plain function says.
  The bytes are there in memory, at most 1,000,000; package crc's table lies as it was laid.
-/
namespace Go.Proofs.YtdigpeipklfaeaaDoor
open Go.RowKit
set_option maxRecDepth 100000

def zSnp : Snp := ⟨0, 0, ByteArray.empty, ByteArray.empty⟩
def rdS10 (s : RdS10) : (Snp × Int) × RdS10 :=
  ((⟨(rdN10 s).1, (rdN10 (rdN10 s).2).1, (rdT10 (rdN10 (rdN10 s).2).2).1, ByteArray.empty⟩, (rdN10 (rdT10 (rdN10 (rdN10 s).2).2).2).1), (rdN10 (rdT10 (rdN10 (rdN10 s).2).2).2).2)
def okS10 (b : List UInt8) : Bool := done10 (rdS10 (b, false)).2 && mayHead10 (rdS10 (b, false)).1.1 (rdS10 (b, false)).1.2
/-- the snapshot at the beginning, how many bytes it takes, the error -/
def getS10 (l : List UInt8) : Snp × Nat × Nat :=
  if (openK 3 l).2.2 ≠ 0 then (zSnp, 0, (openK 3 l).2.2)
  else if okS10 (openK 3 l).1 = false then (zSnp, 0, 3)
  else if (getD10 (rdS10 ((openK 3 l).1, false)).1.2.toNat (rdS10 ((openK 3 l).1, false)).1.2.toNat (l.drop (openK 3 l).2.1)).2.2 ≠ 0 then (zSnp, 0, (getD10 (rdS10 ((openK 3 l).1, false)).1.2.toNat (rdS10 ((openK 3 l).1, false)).1.2.toNat (l.drop (openK 3 l).2.1)).2.2)
  else (⟨(rdS10 ((openK 3 l).1, false)).1.1.ix, (rdS10 ((openK 3 l).1, false)).1.1.st, (rdS10 ((openK 3 l).1, false)).1.1.conf, ⟨(getD10 (rdS10 ((openK 3 l).1, false)).1.2.toNat (rdS10 ((openK 3 l).1, false)).1.2.toNat (l.drop (openK 3 l).2.1)).1.toArray⟩⟩,
    (openK 3 l).2.1 + (getD10 (rdS10 ((openK 3 l).1, false)).1.2.toNat (rdS10 ((openK 3 l).1, false)).1.2.toNat (l.drop (openK 3 l).2.1)).2.1, 0)
def GotS10 (r : Snp × Nat × Nat) (w : World) (e : Ending) (w' : World) : Prop := e = .returned (.tuple #[r.1.val, .int .i64 (r.2.1 : Nat), .int .i64 (r.2.2 : Nat)]) ∧ Below w.heap.size w w'
theorem comb10_len {b : List UInt8} {n N : Nat} {r : List UInt8 × Nat × Nat} (h : (comb10 b n r).2.2 = 0) (hr : r.2.2 = 0 → n + r.2.1 ≤ N) : (comb10 b n r).2.1 ≤ N := by
  unfold comb10 at h ⊢
  by_cases h0 : r.2.2 ≠ 0
  · rw [if_pos h0] at h; exact absurd h h0
  · rw [if_neg h0]; exact hr (by omega)
theorem getD10_len : ∀ (f m : Nat) (l : List UInt8), (getD10 f m l).2.2 = 0 → (getD10 f m l).2.1 ≤ l.length
  | 0, _, _, _ => Nat.zero_le _
  | f + 1, m, l, h => by
    unfold getD10 at h ⊢
    by_cases h0 : m = 0
    · rw [if_pos h0]; exact Nat.zero_le _
    rw [if_neg h0] at h ⊢
    by_cases h1 : (openK 4 l).2.2 ≠ 0
    · rw [if_pos h1] at h; exact absurd h h1
    rw [if_neg h1] at h ⊢
    by_cases h2 : (openK 4 l).1.length ≠ min 3000 m
    · rw [if_pos h2] at h; exact absurd h (by decide)
    rw [if_neg h2] at h ⊢
    obtain ⟨⟨b, n, e⟩, ho⟩ : ∃ x, openK 4 l = x := ⟨_, rfl⟩
    rw [ho] at h h1 ⊢
    simp only at h h1 ⊢
    have he : e = 0 := by omega
    subst he
    have hg := openK_good ho
    refine comb10_len h fun hr => ?_
    have := getD10_len f _ _ hr
    rw [List.length_drop] at this
    omega
theorem wgetD_is (g o N c B m : Nat) (l : List UInt8) (r) (w : World) (h : Byt w B (.slice (some ⟨g, o, none⟩) N c) l) (hB : B ≤ w.heap.size) (hl : l.length ≤ 1000000) (hm : m ≤ 200000) (hT : Tbl w) (hr : getD10 m m l = r) :
    Calls Tryd.prog 53 #[.slice (some ⟨g, o, none⟩) N c, .int .i64 m] w (GotD r w) := by
  obtain rfl : N = l.length := by obtain ⟨_, _, hv, _⟩ := h; injection hv
  rw [← hr]; exact wgetD_some g o c B m l w h hB hl hm hT
set_option maxHeartbeats 2000000 in
theorem wgetS_ok (g o c B n : Nat) (l b : List UInt8) (w : World) (h : Byt w B (.slice (some ⟨g, o, none⟩) l.length c) l) (hB : B ≤ w.heap.size) (hl : l.length ≤ 1000000) (hT : Tbl w) (ho : openK 3 l = (b, n, 0)) (ix st len : Int) (cf : ByteArray) (s1 s2 s3 s4 : RdS10)
    (q1 : rdN10 (b, false) = (ix, s1)) (q2 : rdN10 s1 = (st, s2)) (q3 : rdT10 s2 = (cf, s3)) (q4 : rdN10 s3 = (len, s4)) :
    Calls Tryd.prog 28 #[.slice (some ⟨g, o, none⟩) l.length c] w (GotS10 (getS10 l) w) := by
  have hbl := (openK_good ho).2.2.1
  obtain ⟨W1, hW1⟩ : ∃ W1, w.alloc (.cells #[.int .i64 0, .int .i64 0, .string ⟨#[]⟩, .string ⟨#[]⟩] 55) = W1 := ⟨_, rfl⟩
  have hb1 : Below w.heap.size w W1 := by rw [← hW1]; exact below_new _ _
  have p1 : Rt W1 w.heap.size 55 [.int .i64 0, .int .i64 0, .string ⟨#[]⟩, .string ⟨#[]⟩] := by rw [← hW1]; exact Rt.new w _ _
  have hby1 := h.below hb1 hB
  have hT1 := hT.below hb1
  have hop := wopen_is 3 3 rfl (some ⟨g, o, none⟩) l.length c B l _ W1 hby1 (Nat.le_trans hB hb1.size) hl hT1 ho
  have HW1 := Lib.hid hW1
  have HB1 := Lib.hid hb1
  have HBY1 := Lib.hid hby1
  have HT1 := Lib.hid hT1
  have HT0 := Lib.hid hT
  obtain ⟨ln, hln⟩ : ∃ ln, l.length = ln := ⟨_, rfl⟩
  have HLN := Lib.hid hln
  rw [hln] at hop ⊢
  clear h hT hW1 hb1 hby1 hT1 hln
  go_enter Tryd.func28, Tryd.ntmps28
  go_wp2_with fail
  rw [HW1.out]
  refine hop.mono ?_
  rintro e1 k1 ⟨v1, rfl, ho1, h1⟩
  have hby2 := HBY1.out.below h1 (Nat.le_trans hB HB1.out.size)
  have p2 := p1.below h1
  have hb2 := HB1.out.trans (h1.mono HB1.out.size)
  obtain ⟨A1, c1, hv1⟩ := own_slice ho1
  obtain ⟨bl, hbb⟩ : ∃ bl, b.length = bl := ⟨_, rfl⟩
  rw [hbb] at hv1
  subst hv1
  have HO := Lib.hid ho1
  clear ho1 h1 p1 hop
  obtain ⟨W2, hW2⟩ : ∃ W2, k1.alloc (.cells #[.slice A1 bl c1, .bool false] 91) = W2 := ⟨_, rfl⟩
  have hr0 : WRd W2 k1.heap.size k1.heap.size (b, false) := by rw [← hW2]; exact WRd.new k1 k1.heap.size b A1 bl c1 (Byt.of_own HO.out) (Nat.le_refl _)
  have h2 : Below k1.heap.size k1 W2 := by rw [← hW2]; exact below_new _ _
  have p3 := p2.below h2
  have hb3 := hb2.trans (h2.mono hb2.size)
  have hby3 := hby2.below h2 (Nat.le_trans hB hb2.size)
  have l1 := rdN10_len (b, false)
  have l2 := rdN10_len s1
  have l3 := rdT10_len s2
  have l4 := rdN10_len s3
  rw [q1] at l1
  rw [q2] at l2
  rw [q3] at l3
  rw [q4] at l4
  simp only at l1 l2 l3 l4
  have bb := get_bounds10 s3
  rw [q4] at bb
  simp only at bb
  have hcf := getT_size10 s2
  rw [q3] at hcf
  simp only at hcf
  have hbl4 : bl ≤ 4000 := by omega
  have hhd := w10head k1.heap.size k1.heap.size (b, false) s1 s2 s3 ix st cf W2 hr0 (by show b.length ≤ _; omega) (by omega) (by omega) q1 q2 q3 s4 len (by omega) q4 bb.1 bb.2
  have hwk : w.heap.size < k1.heap.size := p2.lt
  have HW2 := Lib.hid hW2
  have HP3 := Lib.hid p3
  have HB3 := Lib.hid hb3
  have HBY3 := Lib.hid hby3
  have hz2 : W2.heap.size = k1.heap.size + 1 := by rw [← hW2]; simp
  clear hW2 hr0 h2 p2 p3 hb2 hb3 hby2 hby3 HO HB1 HBY1 HW1
  go_wp2_with fail
  rw [HW2.out]
  refine hhd.mono ?_
  rintro e2 k2 ⟨rfl, hr2, hg2⟩
  have p4 := HP3.out.grown hg2 (by omega)
  have hb4 := HB3.out.trans (below_grown10 hg2 (B := w.heap.size) (by omega) (by omega))
  have hby4 := byt_grown10 HBY3.out hg2 (by omega) (by omega)
  have hz3 : k1.heap.size + 1 ≤ k2.heap.size := by have := hg2.size; omega
  have HR := Lib.hid hr2
  have HP4 := Lib.hid p4
  have HB4 := Lib.hid hb4
  have HBY4 := Lib.hid hby4
  clear hg2 hhd HP3 HB3 HBY3 HW2 hr2 p4 hb4 hby4
  have hcl : ln ≤ c := by have := HLN.out; have := byt_cap10 HBY4.out; omega
  have hnl : n ≤ ln := by have := (openK_good ho).2.1; have := HLN.out; omega
  have hn6 : 6 ≤ n := (openK_good ho).1
  obtain ⟨dn, hdn⟩ : ∃ dn, done10 s4 = dn := ⟨_, rfl⟩
  obtain ⟨y, hy⟩ : ∃ y, mayHead10 ⟨ix, st, cf, ByteArray.empty⟩ len = y := ⟨_, rfl⟩
  have hrd : rdS10 (b, false) = ((⟨ix, st, cf, ByteArray.empty⟩, len), s4) := by unfold rdS10; simp only [q1, q2, q3, q4]
  have hgs : getS10 l = if (dn && y) = false then (zSnp, 0, 3) else if (getD10 len.toNat len.toNat (l.drop n)).2.2 ≠ 0 then (zSnp, 0, (getD10 len.toNat len.toNat (l.drop n)).2.2)
      else (⟨ix, st, cf, ⟨(getD10 len.toNat len.toNat (l.drop n)).1.toArray⟩⟩, n + (getD10 len.toNat len.toNat (l.drop n)).2.1, 0) := by
    unfold getS10 okS10
    rw [ho]
    simp only [ne_eq, not_true_eq_false, if_false]
    rw [hrd]
    simp only [hdn, hy]
  have hdone := fun W hW => w10done k1.heap.size k1.heap.size s4 W hW (by omega)
  rw [show (!s4.2 && s4.1.length == 0) = dn from hdn] at hdone
  have hmay := fun W => wmayHead ⟨ix, st, cf, ByteArray.empty⟩ len W (by show cf.size ≤ _; omega)
  rw [hy] at hmay
  have HGS := Lib.hid hgs
  have HY := Lib.hid hy
  clear hdn hgs hrd hy q1 q2 q3 q4 ho
  go_wp2_with fail
  obtain ⟨W3, hW3⟩ : ∃ W3, k2.alloc (.cells #[.int .i64 ix, .int .i64 st, .string cf, .string ⟨#[]⟩] 55) = W3 := ⟨_, rfl⟩
  have h3 : Below k2.heap.size k2 W3 := by rw [← hW3]; exact below_new _ _
  have hx : Rt W3 k2.heap.size 55 [.int .i64 ix, .int .i64 st, .string cf, .string ⟨#[]⟩] := by rw [← hW3]; exact Rt.new k2 _ _
  rw [hW3]
  refine (hdone W3 (HR.out.then_ h3)).mono ?_
  rintro e3 k3 ⟨rfl, rfl⟩
  have p5 := HP4.out.below h3
  have hb5 := HB4.out.trans (h3.mono HB4.out.size)
  have hby5 := HBY4.out.below h3 (by omega)
  have hpk : w.heap.size < k2.heap.size := HP4.out.lt
  have hkz : k2.heap.size < k3.heap.size := hx.lt
  have HX := Lib.hid hx
  have HP5 := Lib.hid p5
  have HB5 := Lib.hid hb5
  have HBY5 := Lib.hid hby5
  have x0 := p5.cell (j := 0) rfl
  have y0 := p5.frz 0
  have x1 := p5.cell (j := 1) rfl
  have y1 := p5.frz 1
  have x2 := p5.cell (j := 2) rfl
  have y2 := p5.frz 2
  have x3 := p5.cell (j := 3) rfl
  have y3 := p5.frz 3
  have z0 := hx.cell (j := 0) rfl
  have z1 := hx.cell (j := 1) rfl
  have z2 := hx.cell (j := 2) rfl
  have z3 := hx.cell (j := 3) rfl
  clear hW3 h3 hx p5 hb5 hby5 hdone HR HP4 HB4 HBY4
  cases dn with
  | false =>
    go_wp2
    have hxs : Rt _ w.heap.size 55 [.int .i64 0, .int .i64 0, .string ⟨#[]⟩, .string ⟨#[]⟩] := ((((HP5.out.set 0 (.int .i64 0)).set 1 (.int .i64 0)).set 2 (.string ⟨#[]⟩)).set 3 (.string ⟨#[]⟩))
    have hbs := (below_set10 ((below_set10 ((below_set10 ((below_set10 (HB5.out) 0 (g := w.heap.size) (.int .i64 0) (Nat.le_refl _))) 1 (g := w.heap.size) (.int .i64 0) (Nat.le_refl _))) 2 (g := w.heap.size) (.string ⟨#[]⟩) (Nat.le_refl _))) 3 (g := w.heap.size) (.string ⟨#[]⟩) (Nat.le_refl _))
    refine body_world10 (fun W => Below w.heap.size w W ∧ Rt W w.heap.size 55 [.int .i64 0, .int .i64 0, .string ⟨#[]⟩, .string ⟨#[]⟩]) ⟨hbs, hxs⟩ ?_
    clear hbs hxs
    rintro W ⟨hbs, hxs⟩
    have d0 := hxs.cell (j := 0) rfl
    have d1 := hxs.cell (j := 1) rfl
    have d2 := hxs.cell (j := 2) rfl
    have d3 := hxs.cell (j := 3) rfl
    refine bodyPost_ret (v := .tuple #[.agg #[.int .i64 0, .int .i64 0, .string ⟨#[]⟩, .string ⟨#[]⟩], .int .i64 0, .int .i64 3]) (by simp [results, Tryd.results28, go_sem, d0, d1, d2, d3]) rfl ?_
    exact ⟨by rw [HGS.out, if_pos (by simp)]; rfl, hbs⟩
  | true =>
    go_wp2_with fail
    refine (hmay _).mono ?_
    rintro e4 k4 ⟨rfl, h4⟩
    have p6 := HP5.out.below h4
    have hx6 := HX.out.below h4
    have hb6 := HB5.out.trans (h4.mono HB5.out.size)
    have hby6 := HBY5.out.below h4 (by omega)
    have HX6 := Lib.hid hx6
    have HP6 := Lib.hid p6
    have HB6 := Lib.hid hb6
    have HBY6 := Lib.hid hby6
    have hkz4 : k2.heap.size < k4.heap.size := Nat.lt_of_lt_of_le hkz h4.size
    clear h4 x0 x1 x2 x3 y0 y1 y2 y3 z0 z1 z2 z3 HX HP5 HB5 HBY5 hmay
    have x0 := p6.cell (j := 0) rfl
    have y0 := p6.frz 0
    have x1 := p6.cell (j := 1) rfl
    have y1 := p6.frz 1
    have x2 := p6.cell (j := 2) rfl
    have y2 := p6.frz 2
    have x3 := p6.cell (j := 3) rfl
    have y3 := p6.frz 3
    have z0 := hx6.cell (j := 0) rfl
    have u0 := hx6.frz 0
    have z1 := hx6.cell (j := 1) rfl
    have u1 := hx6.frz 1
    have z2 := hx6.cell (j := 2) rfl
    have u2 := hx6.frz 2
    have z3 := hx6.cell (j := 3) rfl
    have u3 := hx6.frz 3
    clear p6 hx6 hb6 hby6
    cases y with
    | false =>
      go_wp2
      have hxs : Rt _ w.heap.size 55 [.int .i64 0, .int .i64 0, .string ⟨#[]⟩, .string ⟨#[]⟩] := ((((HP6.out.set 0 (.int .i64 0)).set 1 (.int .i64 0)).set 2 (.string ⟨#[]⟩)).set 3 (.string ⟨#[]⟩))
      have hbs := (below_set10 ((below_set10 ((below_set10 ((below_set10 (HB6.out) 0 (g := w.heap.size) (.int .i64 0) (Nat.le_refl _))) 1 (g := w.heap.size) (.int .i64 0) (Nat.le_refl _))) 2 (g := w.heap.size) (.string ⟨#[]⟩) (Nat.le_refl _))) 3 (g := w.heap.size) (.string ⟨#[]⟩) (Nat.le_refl _))
      refine body_world10 (fun W => Below w.heap.size w W ∧ Rt W w.heap.size 55 [.int .i64 0, .int .i64 0, .string ⟨#[]⟩, .string ⟨#[]⟩]) ⟨hbs, hxs⟩ ?_
      clear hbs hxs
      rintro W ⟨hbs, hxs⟩
      have d0 := hxs.cell (j := 0) rfl
      have d1 := hxs.cell (j := 1) rfl
      have d2 := hxs.cell (j := 2) rfl
      have d3 := hxs.cell (j := 3) rfl
      refine bodyPost_ret (v := .tuple #[.agg #[.int .i64 0, .int .i64 0, .string ⟨#[]⟩, .string ⟨#[]⟩], .int .i64 0, .int .i64 3]) (by simp [results, Tryd.results28, go_sem, d0, d1, d2, d3]) rfl ?_
      exact ⟨by rw [HGS.out, if_pos (by simp)]; rfl, hbs⟩
    | true =>
      have hlen : 0 ≤ len ∧ len ≤ 200000 := by
        have := HY.out
        unfold mayHead10 at this
        simp only [Bool.and_eq_true, decide_eq_true_eq] at this
        exact this.2
      obtain ⟨m, rfl⟩ : ∃ m : Nat, len = (m : Int) := ⟨len.toNat, by omega⟩
      obtain ⟨⟨d, size, er⟩, hgd⟩ : ∃ r, getD10 m m (l.drop n) = r := ⟨_, rfl⟩
      have hgs2 : getS10 l = if er ≠ 0 then (zSnp, 0, er) else (⟨ix, st, cf, ⟨d.toArray⟩⟩, n + size, 0) := by
        rw [HGS.out, if_neg (by simp), Int.toNat_natCast, hgd]
      have HGS2 := Lib.hid hgs2
      have hcut := HBY6.out.cut (k := n) (by have := HLN.out; omega)
      rw [add_lit_10] at hcut
      rw [HLN.out] at hcut
      have hT6 := HT0.out.below HB6.out
      have hBk : B ≤ k4.heap.size := Nat.le_trans hB HB6.out.size
      have hdl : (l.drop n).length ≤ 1000000 := by rw [List.length_drop]; omega
      have hsz : er = 0 → (n : Int) + size ≤ 1000000 := fun h => by
        have := getD10_len m m (l.drop n)
        rw [hgd] at this
        simp only at this
        have h2 := this h
        have := HLN.out
        rw [List.length_drop] at h2
        omega
      have hgetd : ∀ o' N c', Byt k4 B (.slice (some ⟨g, o', none⟩) N c') (l.drop n) → Calls Tryd.prog 53 #[.slice (some ⟨g, o', none⟩) N c', .int .i64 m] k4 (GotD (d, size, er) k4) := fun o' N c' hb' => wgetD_is g o' N c' B m (l.drop n) _ k4 hb' hBk hdl (by omega) hT6 hgd
      have hz : ∀ (o' N c' : Nat), (n : Int) ≤ ln := fun _ _ _ => by omega
      clear hz hgs2 hgd hdl
      by_cases hcn : c = n
      · rw [if_pos hcn, hcn, Nat.sub_self] at hcut
        obtain rfl : ln = n := by omega
        rw [Nat.sub_self] at hcut
        subst hcn
        have HC := Lib.hid hcut
        clear hcut
        go_wp2_with fail
        refine (hgetd _ _ _ HC.out).mono ?_
        rintro e5 k5 ⟨rfl, h5⟩
        have p7 := HP6.out.below h5
        have hx7 := HX6.out.below h5
        have hb7 := HB6.out.trans (h5.mono HB6.out.size)
        have HX7 := Lib.hid hx7
        have HP7 := Lib.hid p7
        have HB7 := Lib.hid hb7
        have hkz5 : k2.heap.size < k5.heap.size := Nat.lt_of_lt_of_le hkz4 h5.size
        clear h5 x0 x1 x2 x3 y0 y1 y2 y3 z0 z1 z2 z3 u0 u1 u2 u3 HX6 HP6 HB6 HBY6 hgetd HC
        have x0 := p7.cell (j := 0) rfl
        have y0 := p7.frz 0
        have x1 := p7.cell (j := 1) rfl
        have y1 := p7.frz 1
        have x2 := p7.cell (j := 2) rfl
        have y2 := p7.frz 2
        have x3 := p7.cell (j := 3) rfl
        have y3 := p7.frz 3
        have z0 := hx7.cell (j := 0) rfl
        have u0 := hx7.frz 0
        have z1 := hx7.cell (j := 1) rfl
        have u1 := hx7.frz 1
        have z2 := hx7.cell (j := 2) rfl
        have u2 := hx7.frz 2
        have z3 := hx7.cell (j := 3) rfl
        have u3 := hx7.frz 3
        clear p7 hx7 hb7
        by_cases he : er = 0
        · subst he
          have hsz2 := hsz rfl
          clear hsz
          go_wp2
          have hxs : Rt _ w.heap.size 55 [.int .i64 ix, .int .i64 st, .string cf, .string ⟨d.toArray⟩] := (((((HP7.out.other 3 (.string ⟨d.toArray⟩) (by omega : w.heap.size ≠ k2.heap.size)).set 0 (.int .i64 ix)).set 1 (.int .i64 st)).set 2 (.string cf)).set 3 (.string ⟨d.toArray⟩))
          have hbs := (below_set10 ((below_set10 ((below_set10 ((below_set10 ((below_set10 HB7.out 3 (g := k2.heap.size) (.string ⟨d.toArray⟩) (by omega))) 0 (g := w.heap.size) (.int .i64 ix) (Nat.le_refl _))) 1 (g := w.heap.size) (.int .i64 st) (Nat.le_refl _))) 2 (g := w.heap.size) (.string cf) (Nat.le_refl _))) 3 (g := w.heap.size) (.string ⟨d.toArray⟩) (Nat.le_refl _))
          refine body_world10 (fun W => Below w.heap.size w W ∧ Rt W w.heap.size 55 [.int .i64 ix, .int .i64 st, .string cf, .string ⟨d.toArray⟩]) ⟨hbs, hxs⟩ ?_
          clear hbs hxs
          rintro W ⟨hbs, hxs⟩
          have d0 := hxs.cell (j := 0) rfl
          have d1 := hxs.cell (j := 1) rfl
          have d2 := hxs.cell (j := 2) rfl
          have d3 := hxs.cell (j := 3) rfl
          refine bodyPost_ret (v := .tuple #[.agg #[.int .i64 ix, .int .i64 st, .string cf, .string ⟨d.toArray⟩], .int .i64 (((c : Nat) : Int) + size), .int .i64 0]) (by simp [results, Tryd.results28, go_sem, d0, d1, d2, d3]) rfl ?_
          exact ⟨by rw [HGS2.out, if_neg (by simp)]; rfl, hbs⟩
        · have he2 : ((er : Int) == 0) = false := by rw [beq_eq_false_iff_ne]; omega
          have he3 : ¬ (er : Int) = 0 := by omega
          clear hsz
          go_wp2
          have hxs : Rt _ w.heap.size 55 [.int .i64 0, .int .i64 0, .string ⟨#[]⟩, .string ⟨#[]⟩] := ((((HP7.out.set 0 (.int .i64 0)).set 1 (.int .i64 0)).set 2 (.string ⟨#[]⟩)).set 3 (.string ⟨#[]⟩))
          have hbs := (below_set10 ((below_set10 ((below_set10 ((below_set10 (HB7.out) 0 (g := w.heap.size) (.int .i64 0) (Nat.le_refl _))) 1 (g := w.heap.size) (.int .i64 0) (Nat.le_refl _))) 2 (g := w.heap.size) (.string ⟨#[]⟩) (Nat.le_refl _))) 3 (g := w.heap.size) (.string ⟨#[]⟩) (Nat.le_refl _))
          refine body_world10 (fun W => Below w.heap.size w W ∧ Rt W w.heap.size 55 [.int .i64 0, .int .i64 0, .string ⟨#[]⟩, .string ⟨#[]⟩]) ⟨hbs, hxs⟩ ?_
          clear hbs hxs
          rintro W ⟨hbs, hxs⟩
          have d0 := hxs.cell (j := 0) rfl
          have d1 := hxs.cell (j := 1) rfl
          have d2 := hxs.cell (j := 2) rfl
          have d3 := hxs.cell (j := 3) rfl
          refine bodyPost_ret (v := .tuple #[.agg #[.int .i64 0, .int .i64 0, .string ⟨#[]⟩, .string ⟨#[]⟩], .int .i64 0, .int .i64 er]) (by simp [results, Tryd.results28, go_sem, d0, d1, d2, d3]) rfl ?_
          exact ⟨by rw [HGS2.out, if_pos he]; rfl, hbs⟩
      · rw [if_neg hcn] at hcut
        have HC := Lib.hid hcut
        clear hcut
        go_wp2_with fail
        refine (hgetd _ _ _ HC.out).mono ?_
        rintro e5 k5 ⟨rfl, h5⟩
        have p7 := HP6.out.below h5
        have hx7 := HX6.out.below h5
        have hb7 := HB6.out.trans (h5.mono HB6.out.size)
        have HX7 := Lib.hid hx7
        have HP7 := Lib.hid p7
        have HB7 := Lib.hid hb7
        have hkz5 : k2.heap.size < k5.heap.size := Nat.lt_of_lt_of_le hkz4 h5.size
        clear h5 x0 x1 x2 x3 y0 y1 y2 y3 z0 z1 z2 z3 u0 u1 u2 u3 HX6 HP6 HB6 HBY6 hgetd HC
        have x0 := p7.cell (j := 0) rfl
        have y0 := p7.frz 0
        have x1 := p7.cell (j := 1) rfl
        have y1 := p7.frz 1
        have x2 := p7.cell (j := 2) rfl
        have y2 := p7.frz 2
        have x3 := p7.cell (j := 3) rfl
        have y3 := p7.frz 3
        have z0 := hx7.cell (j := 0) rfl
        have u0 := hx7.frz 0
        have z1 := hx7.cell (j := 1) rfl
        have u1 := hx7.frz 1
        have z2 := hx7.cell (j := 2) rfl
        have u2 := hx7.frz 2
        have z3 := hx7.cell (j := 3) rfl
        have u3 := hx7.frz 3
        clear p7 hx7 hb7
        by_cases he : er = 0
        · subst he
          have hsz2 := hsz rfl
          clear hsz
          go_wp2
          have hxs : Rt _ w.heap.size 55 [.int .i64 ix, .int .i64 st, .string cf, .string ⟨d.toArray⟩] := (((((HP7.out.other 3 (.string ⟨d.toArray⟩) (by omega : w.heap.size ≠ k2.heap.size)).set 0 (.int .i64 ix)).set 1 (.int .i64 st)).set 2 (.string cf)).set 3 (.string ⟨d.toArray⟩))
          have hbs := (below_set10 ((below_set10 ((below_set10 ((below_set10 ((below_set10 HB7.out 3 (g := k2.heap.size) (.string ⟨d.toArray⟩) (by omega))) 0 (g := w.heap.size) (.int .i64 ix) (Nat.le_refl _))) 1 (g := w.heap.size) (.int .i64 st) (Nat.le_refl _))) 2 (g := w.heap.size) (.string cf) (Nat.le_refl _))) 3 (g := w.heap.size) (.string ⟨d.toArray⟩) (Nat.le_refl _))
          refine body_world10 (fun W => Below w.heap.size w W ∧ Rt W w.heap.size 55 [.int .i64 ix, .int .i64 st, .string cf, .string ⟨d.toArray⟩]) ⟨hbs, hxs⟩ ?_
          clear hbs hxs
          rintro W ⟨hbs, hxs⟩
          have d0 := hxs.cell (j := 0) rfl
          have d1 := hxs.cell (j := 1) rfl
          have d2 := hxs.cell (j := 2) rfl
          have d3 := hxs.cell (j := 3) rfl
          refine bodyPost_ret (v := .tuple #[.agg #[.int .i64 ix, .int .i64 st, .string cf, .string ⟨d.toArray⟩], .int .i64 (((n : Nat) : Int) + size), .int .i64 0]) (by simp [results, Tryd.results28, go_sem, d0, d1, d2, d3]) rfl ?_
          exact ⟨by rw [HGS2.out, if_neg (by simp)]; rfl, hbs⟩
        · have he2 : ((er : Int) == 0) = false := by rw [beq_eq_false_iff_ne]; omega
          have he3 : ¬ (er : Int) = 0 := by omega
          clear hsz
          go_wp2
          have hxs : Rt _ w.heap.size 55 [.int .i64 0, .int .i64 0, .string ⟨#[]⟩, .string ⟨#[]⟩] := ((((HP7.out.set 0 (.int .i64 0)).set 1 (.int .i64 0)).set 2 (.string ⟨#[]⟩)).set 3 (.string ⟨#[]⟩))
          have hbs := (below_set10 ((below_set10 ((below_set10 ((below_set10 (HB7.out) 0 (g := w.heap.size) (.int .i64 0) (Nat.le_refl _))) 1 (g := w.heap.size) (.int .i64 0) (Nat.le_refl _))) 2 (g := w.heap.size) (.string ⟨#[]⟩) (Nat.le_refl _))) 3 (g := w.heap.size) (.string ⟨#[]⟩) (Nat.le_refl _))
          refine body_world10 (fun W => Below w.heap.size w W ∧ Rt W w.heap.size 55 [.int .i64 0, .int .i64 0, .string ⟨#[]⟩, .string ⟨#[]⟩]) ⟨hbs, hxs⟩ ?_
          clear hbs hxs
          rintro W ⟨hbs, hxs⟩
          have d0 := hxs.cell (j := 0) rfl
          have d1 := hxs.cell (j := 1) rfl
          have d2 := hxs.cell (j := 2) rfl
          have d3 := hxs.cell (j := 3) rfl
          refine bodyPost_ret (v := .tuple #[.agg #[.int .i64 0, .int .i64 0, .string ⟨#[]⟩, .string ⟨#[]⟩], .int .i64 0, .int .i64 er]) (by simp [results, Tryd.results28, go_sem, d0, d1, d2, d3]) rfl ?_
          exact ⟨by rw [HGS2.out, if_pos he]; rfl, hbs⟩
end Go.Proofs.YtdigpeipklfaeaaDoor
/-
  Package wal's GetSnap answers what the plain function says, whatever the bytes.
  The bytes are there in memory, at most 1,000,000; package crc's table lies as it was laid.
-/
namespace Go.Proofs.YtdigpeipklfaeaaDoor
open Go.RowKit
set_option maxRecDepth 100000

set_option maxHeartbeats 1000000 in
theorem wgetS_err (A : Option Addr) (N c B n e : Nat) (l b : List UInt8) (w : World) (h : Byt w B (.slice A N c) l) (hB : B ≤ w.heap.size) (hl : l.length ≤ 1000000) (hT : Tbl w) (ho : openK 3 l = (b, n, e)) (he : e ≠ 0) :
    Calls Tryd.prog 28 #[.slice A N c] w (GotS10 (getS10 l) w) := by
  have hgs : getS10 l = (zSnp, 0, e) := by unfold getS10; rw [ho, if_pos he]
  have he2 : ((e : Int) == 0) = false := by rw [beq_eq_false_iff_ne]; omega
  have he3 : ¬ (e : Int) = 0 := by omega
  obtain ⟨W1, hW1⟩ : ∃ W1, w.alloc (.cells #[.int .i64 0, .int .i64 0, .string ⟨#[]⟩, .string ⟨#[]⟩] 55) = W1 := ⟨_, rfl⟩
  have hb1 : Below w.heap.size w W1 := by rw [← hW1]; exact below_new _ _
  have p1 : Rt W1 w.heap.size 55 [.int .i64 0, .int .i64 0, .string ⟨#[]⟩, .string ⟨#[]⟩] := by rw [← hW1]; exact Rt.new w _ _
  have hop := wopen_is 3 3 rfl A N c B l _ W1 (h.below hb1 hB) (Nat.le_trans hB hb1.size) hl (hT.below hb1) ho
  have HW1 := Lib.hid hW1
  have HB1 := Lib.hid hb1
  have HGS := Lib.hid hgs
  clear h hT hW1 hb1 hgs ho
  go_enter Tryd.func28, Tryd.ntmps28
  go_wp2_with fail
  rw [HW1.out]
  refine hop.mono ?_
  rintro e1 k1 ⟨v1, rfl, ho1, h1⟩
  have p2 := p1.below h1
  have hb2 := HB1.out.trans (h1.mono HB1.out.size)
  obtain ⟨A1, c1, hv1⟩ := own_slice ho1
  subst hv1
  have HP2 := Lib.hid p2
  have HB2 := Lib.hid hb2
  have x0 := p2.cell (j := 0) rfl
  have y0 := p2.frz 0
  have x1 := p2.cell (j := 1) rfl
  have y1 := p2.frz 1
  have x2 := p2.cell (j := 2) rfl
  have y2 := p2.frz 2
  have x3 := p2.cell (j := 3) rfl
  have y3 := p2.frz 3
  clear ho1 h1 p1 hop HW1 HB1 p2 hb2
  go_wp2
  have hxs : Rt _ w.heap.size 55 [.int .i64 0, .int .i64 0, .string ⟨#[]⟩, .string ⟨#[]⟩] := ((((HP2.out.set 0 (.int .i64 0)).set 1 (.int .i64 0)).set 2 (.string ⟨#[]⟩)).set 3 (.string ⟨#[]⟩))
  have hbs := (below_set10 ((below_set10 ((below_set10 ((below_set10 (HB2.out) 0 (g := w.heap.size) (.int .i64 0) (Nat.le_refl _))) 1 (g := w.heap.size) (.int .i64 0) (Nat.le_refl _))) 2 (g := w.heap.size) (.string ⟨#[]⟩) (Nat.le_refl _))) 3 (g := w.heap.size) (.string ⟨#[]⟩) (Nat.le_refl _))
  refine body_world10 (fun W => Below w.heap.size w W ∧ Rt W w.heap.size 55 [.int .i64 0, .int .i64 0, .string ⟨#[]⟩, .string ⟨#[]⟩]) ⟨hbs, hxs⟩ ?_
  clear hbs hxs
  rintro W ⟨hbs, hxs⟩
  have d0 := hxs.cell (j := 0) rfl
  have d1 := hxs.cell (j := 1) rfl
  have d2 := hxs.cell (j := 2) rfl
  have d3 := hxs.cell (j := 3) rfl
  refine bodyPost_ret (v := .tuple #[.agg #[.int .i64 0, .int .i64 0, .string ⟨#[]⟩, .string ⟨#[]⟩], .int .i64 0, .int .i64 e]) (by simp [results, Tryd.results28, go_sem, d0, d1, d2, d3]) rfl ?_
  exact ⟨by rw [HGS.out]; rfl, hbs⟩
/-- GetSnap of any bytes -/
theorem wgetS_any (u : Value) (B : Nat) (l : List UInt8) (w : World) (h : Byt w B u l) (hB : B ≤ w.heap.size) (hl : l.length ≤ 1000000) (hT : Tbl w) : Calls Tryd.prog 28 #[u] w (GotS10 (getS10 l) w) := by
  obtain ⟨A, c, rfl⟩ := byt_slice h
  obtain ⟨⟨b, n, e⟩, ho⟩ : ∃ x, openK 3 l = x := ⟨_, rfl⟩
  by_cases he : e = 0
  · subst he
    have hg := openK_good ho
    obtain ⟨A', c', hv, _, hx⟩ := id h
    injection hv with e1 _ _
    subst e1
    obtain ⟨g, o, rfl, _⟩ := hx (by omega)
    obtain ⟨⟨ix, s1⟩, q1⟩ : ∃ x, rdN10 (b, false) = x := ⟨_, rfl⟩
    obtain ⟨⟨st, s2⟩, q2⟩ : ∃ x, rdN10 s1 = x := ⟨_, rfl⟩
    obtain ⟨⟨cf, s3⟩, q3⟩ : ∃ x, rdT10 s2 = x := ⟨_, rfl⟩
    obtain ⟨⟨len, s4⟩, q4⟩ : ∃ x, rdN10 s3 = x := ⟨_, rfl⟩
    exact wgetS_ok g o c B n l b w h hB hl hT ho ix st len cf s1 s2 s3 s4 q1 q2 q3 q4
  · exact wgetS_err A _ c B n e l b w h hB hl hT ho he
end Go.Proofs.YtdigpeipklfaeaaDoor
/-
  Snapshots as plain functions: what is written is read again, whatever stands behind; what is cut off is told as the beginning of one.
  There are no conditions beyond those that each lemma names.
-/
namespace Go.Proofs.YtdigpeipklfaeaaDoor
open Go.RowKit
set_option maxRecDepth 100000

theorem pieces10_cons (l : List UInt8) (k : Nat) : pieces10 l (k + 1) = sealB 4 (l.take 3000) ++ pieces10 (l.drop 3000) k := by
  unfold pieces10
  rw [List.range_succ_eq_map, List.flatMap_cons, List.flatMap_map]
  have e : ∀ i, (l.drop (3000 * (i + 1))).take 3000 = ((l.drop 3000).drop (3000 * i)).take 3000 := fun i => by rw [List.drop_drop]; congr 2; omega
  simp only [Nat.mul_zero, List.drop_zero, Nat.succ_eq_add_one, e]
theorem pieces10_nil (l : List UInt8) : pieces10 l 0 = [] := rfl
theorem openK_seal (k : Nat) (b r : List UInt8) (h1 : 1 ≤ k) (h2 : k ≤ 255) (hb : b.length ≤ 4000) : openK k (sealB (k : Int) b ++ r) = (b, (sealB (k : Int) b).length, 0) := by
  unfold openK
  rw [openB_seal (k : Int) b r (by omega) (by omega) hb]
  simp
theorem openK_cut (k : Nat) (b : List UInt8) (m : Nat) (h1 : 1 ≤ k) (h2 : k ≤ 255) (hb : b.length ≤ 4000) (hm : m < (sealB (k : Int) b).length) : openK k ((sealB (k : Int) b).take m) = ([], 0, 2) := by
  unfold openK
  rw [openB_cut (k : Int) b m (by omega) (by omega) hb hm]
  simp
theorem getD10_0 (f : Nat) (l : List UInt8) : getD10 f 0 l = ([], 0, 0) := by cases f <;> rfl
theorem getD10_step (f m n : Nat) (l b : List UInt8) (hm : m ≠ 0) (ho : openK 4 l = (b, n, 0)) (hb : b.length = min 3000 m) : getD10 (f + 1) m l = comb10 b n (getD10 f (m - b.length) (l.drop n)) := by
  conv => lhs; unfold getD10
  rw [if_neg hm, ho, if_neg (by simp), if_neg (by simpa using hb)]
theorem getD10_err (f m n e : Nat) (l b : List UInt8) (hm : m ≠ 0) (ho : openK 4 l = (b, n, e)) (he : e ≠ 0) : getD10 (f + 1) m l = ([], 0, e) := by
  conv => lhs; unfold getD10
  rw [if_neg hm, ho, if_pos he]
/-- Data goes to its frames and back, whatever stands behind -/
theorem getD10_put : ∀ (k f : Nat) (l more : List UInt8), l.length ≤ f → (l.length + 2999) / 3000 = k → getD10 f l.length (pieces10 l k ++ more) = (l, (pieces10 l k).length, 0)
  | 0, f, l, more, _, hk => by
    have : l = [] := List.eq_nil_of_length_eq_zero (by omega)
    subst this
    rw [List.length_nil, getD10_0, pieces10_nil]; rfl
  | k + 1, 0, l, more, hf, hk => by omega
  | k + 1, f + 1, l, more, hf, hk => by
    have hpl : (l.take 3000).length = min 3000 l.length := List.length_take
    rw [pieces10_cons, List.append_assoc]
    have ho := openK_seal 4 (l.take 3000) (pieces10 (l.drop 3000) k ++ more) (by decide) (by decide) (by rw [hpl]; omega)
    rw [show ((4 : Nat) : Int) = 4 from rfl] at ho
    rw [getD10_step f l.length _ _ _ (by omega) ho hpl, List.drop_left, hpl]
    have hdl : (l.drop 3000).length = l.length - 3000 := List.length_drop
    have ih := getD10_put k f (l.drop 3000) more (by omega) (by omega)
    rw [hdl, show l.length - 3000 = l.length - min 3000 l.length by omega] at ih
    rw [ih]
    unfold comb10
    rw [if_neg (by simp), List.take_append_drop, List.length_append]
theorem getD10_cut : ∀ (k f : Nat) (l : List UInt8) (j : Nat), l.length ≤ f → (l.length + 2999) / 3000 = k → j < (pieces10 l k).length → getD10 f l.length ((pieces10 l k).take j) = ([], 0, 2)
  | 0, f, l, j, _, hk, hj => by simp [pieces10_nil] at hj
  | k + 1, 0, l, j, hf, hk, _ => by omega
  | k + 1, f + 1, l, j, hf, hk, hj => by
    have hpl : (l.take 3000).length = min 3000 l.length := List.length_take
    rw [pieces10_cons] at hj ⊢
    rw [List.length_append] at hj
    by_cases h1 : j < (sealB 4 (l.take 3000)).length
    · rw [List.take_append_of_le_length (by omega)]
      have ho := openK_cut 4 (l.take 3000) j (by decide) (by decide) (by rw [hpl]; omega) h1
      exact getD10_err f l.length _ 2 _ _ (by omega) ho (by decide)
    · rw [List.take_append, List.take_of_length_le (by omega)]
      have ho := openK_seal 4 (l.take 3000) ((pieces10 (l.drop 3000) k).take (j - (sealB 4 (l.take 3000)).length)) (by decide) (by decide) (by rw [hpl]; omega)
      rw [show ((4 : Nat) : Int) = 4 from rfl] at ho
      rw [getD10_step f l.length _ _ _ (by omega) ho hpl, List.drop_left, hpl]
      have hdl : (l.drop 3000).length = l.length - 3000 := List.length_drop
      have ih := getD10_cut k f (l.drop 3000) (j - (sealB 4 (l.take 3000)).length) (by omega) (by omega) (by omega)
      rw [hdl, show l.length - 3000 = l.length - min 3000 l.length by omega] at ih
      rw [ih]
      rfl
theorem rdS10_put (ix st len : Int) (cf : ByteArray) (r : List UInt8) (h0 : 0 ≤ ix) (h1 : ix ≤ 1099511627776) (h2 : 0 ≤ st) (h3 : st ≤ 1099511627776) (hc : cf.size ≤ 50) (h4 : 0 ≤ len) (h5 : len ≤ 200000) :
    rdS10 (headB10 ix st cf len ++ r, false) = ((⟨ix, st, cf, ByteArray.empty⟩, len), (r, false)) := by
  have e : headB10 ix st cf len ++ r = Nu.put ix ++ (Nu.put st ++ (Nu.putT cf.data.toList ++ (Nu.put len ++ r))) := by unfold headB10; simp
  unfold rdS10
  rw [e, rdN10_put ix _ _ (by omega) (by omega)]
  simp only [rdN10_put st _ _ (by omega) (by omega : st ≤ 9223372036854775807), rdT10_put cf _ _ (by omega), rdN10_put len _ _ (by omega) (by omega : len ≤ 9223372036854775807)]
theorem headB10_len (ix st len : Int) (cf : ByteArray) (hc : cf.size ≤ 50) : (headB10 ix st cf len).length ≤ 100 := by
  unfold headB10 Nu.putT
  have := Nu.put_len ix; have := Nu.put_len st; have := Nu.put_len len; have := Nu.put_len (cf.data.toList.length : Int)
  have : cf.data.toList.length = cf.size := size_list10 _
  simp only [List.length_append]; omega
theorem headS10_is (s : Snp) : headS10 s = sealB 3 (headB10 s.ix s.st s.conf (s.data.size : Int)) := rfl
theorem snapB10_is {s : Snp} (h : maySnp10 s = true) : snapB10 s = sealB 3 (headB10 s.ix s.st s.conf (s.data.size : Int)) ++ pieces10 s.data.data.toList ((s.data.size + 2999) / 3000) := by
  unfold snapB10; rw [if_neg (by rw [h]; simp), headS10_is]
theorem okS10_put {s : Snp} (h : maySnp10 s = true) : okS10 (headB10 s.ix s.st s.conf (s.data.size : Int)) = true := by
  obtain ⟨a1, a2, a3, a4, a5, a6⟩ := maySnp10_is h
  have hr := rdS10_put s.ix s.st (s.data.size : Int) s.conf [] a1 a2 a3 a4 a5 (by omega) (by omega)
  rw [List.append_nil] at hr
  unfold okS10
  rw [hr]
  simp only
  rw [Bool.and_eq_true]
  refine ⟨rfl, ?_⟩
  unfold mayHead10; simp only [Bool.and_eq_true, decide_eq_true_eq]; omega
/-- what getS10 tells behind a good head -/
theorem getS10_head {s : Snp} (h : maySnp10 s = true) (r : List UInt8) : getS10 (sealB 3 (headB10 s.ix s.st s.conf (s.data.size : Int)) ++ r) =
    if (getD10 s.data.size s.data.size r).2.2 ≠ 0 then (zSnp, 0, (getD10 s.data.size s.data.size r).2.2) else (⟨s.ix, s.st, s.conf, ⟨(getD10 s.data.size s.data.size r).1.toArray⟩⟩, (sealB 3 (headB10 s.ix s.st s.conf (s.data.size : Int))).length + (getD10 s.data.size s.data.size r).2.1, 0) := by
  obtain ⟨a1, a2, a3, a4, a5, a6⟩ := maySnp10_is h
  have hl := headB10_len s.ix s.st (s.data.size : Int) s.conf a5
  have ho := openK_seal 3 (headB10 s.ix s.st s.conf (s.data.size : Int)) r (by decide) (by decide) (by omega)
  rw [show ((3 : Nat) : Int) = 3 from rfl] at ho
  have hr := rdS10_put s.ix s.st (s.data.size : Int) s.conf [] a1 a2 a3 a4 a5 (by omega) (by omega)
  rw [List.append_nil] at hr
  unfold getS10
  rw [ho]
  simp only [ne_eq, not_true_eq_false, if_false]
  rw [okS10_put h, if_neg (by simp), hr, List.drop_left]
  simp only [Int.toNat_natCast]
/-- a snapshot goes to bytes and back, whatever stands behind -/
theorem getS10_put {s : Snp} (h : maySnp10 s = true) (more : List UInt8) : getS10 (snapB10 s ++ more) = (s, (snapB10 s).length, 0) := by
  rw [snapB10_is h, List.append_assoc, getS10_head h]
  have hd := getD10_put ((s.data.size + 2999) / 3000) s.data.size s.data.data.toList more (by rw [size_list10]; exact Nat.le_refl _) (by rw [size_list10])
  rw [size_list10] at hd
  rw [hd, if_neg (by simp), List.length_append]
theorem getS10_cut {s : Snp} (h : maySnp10 s = true) {j : Nat} (hj : j < (snapB10 s).length) : getS10 ((snapB10 s).take j) = (zSnp, 0, 2) := by
  obtain ⟨a1, a2, a3, a4, a5, a6⟩ := maySnp10_is h
  have hl := headB10_len s.ix s.st (s.data.size : Int) s.conf a5
  rw [snapB10_is h] at hj ⊢
  rw [List.length_append] at hj
  by_cases h1 : j < (sealB 3 (headB10 s.ix s.st s.conf (s.data.size : Int))).length
  · rw [List.take_append_of_le_length (by omega)]
    have ho := openK_cut 3 (headB10 s.ix s.st s.conf (s.data.size : Int)) j (by decide) (by decide) (by omega) h1
    rw [show ((3 : Nat) : Int) = 3 from rfl] at ho
    unfold getS10
    rw [ho, if_pos (by decide)]
  · rw [List.take_append, List.take_of_length_le (by omega), getS10_head h]
    have hd := getD10_cut ((s.data.size + 2999) / 3000) s.data.size s.data.data.toList (j - (sealB 3 (headB10 s.ix s.st s.conf (s.data.size : Int))).length) (by rw [size_list10]; exact Nat.le_refl _) (by rw [size_list10]) (by omega)
    rw [size_list10] at hd
    rw [hd, if_pos (by decide)]
theorem getS10_bad {l : List UInt8} {s : Snp} {n e : Nat} (h : getS10 l = (s, n, e)) (he : e ≠ 0) : s = zSnp ∧ n = 0 := by
  unfold getS10 at h
  split at h
  · simp only [Prod.mk.injEq] at h; exact ⟨h.1.symm, h.2.1.symm⟩
  · split at h
    · simp only [Prod.mk.injEq] at h; exact ⟨h.1.symm, h.2.1.symm⟩
    · split at h
      · simp only [Prod.mk.injEq] at h; exact ⟨h.1.symm, h.2.1.symm⟩
      · simp only [Prod.mk.injEq] at h; exact absurd h.2.2.symm he
theorem snapB10_len {s : Snp} (h : maySnp10 s = true) : 6 ≤ (snapB10 s).length ∧ (snapB10 s).length ≤ 300000 := by
  obtain ⟨a1, a2, a3, a4, a5, a6⟩ := maySnp10_is h
  have hl := headB10_len s.ix s.st (s.data.size : Int) s.conf a5
  rw [snapB10_is h, List.length_append, sealB_len 3 _ (by decide) (by decide) (by omega)]
  have hp := pieces10_len s.data.data.toList ((s.data.size + 2999) / 3000)
  have h2 := put_len12 (headB10 s.ix s.st s.conf (s.data.size : Int)).length (by omega)
  split at h2 <;> omega
end Go.Proofs.YtdigpeipklfaeaaDoor
/-
  Two records of the reference are the same.
  There are no conditions.
-/
set_option linter.unusedSimpArgs false
set_option linter.unusedVariables false
namespace Go.Proofs.YtdigpeipklfaeaaDoor
open Go.RowKit
set_option maxRecDepth 100000

set_option maxHeartbeats 2000000 in
theorem req10_any (a b : Rcd) (w : World) : Calls Tryd.prog 18 #[a.val, b.val] w (Bl (eq10 a b) w) := by
  obtain ⟨ad, at1, av, ⟨ai, ae, ak, as1⟩⟩ := a
  obtain ⟨bd, bt1, bv, ⟨bi, be, bk, bs1⟩⟩ := b
  unfold Rcd.val eq10
  simp only
  obtain ⟨x, hx⟩ : ∃ x, eqEnt10 ⟨ai, ae, ak, as1⟩ ⟨bi, be, bk, bs1⟩ = x := ⟨_, rfl⟩
  rw [hx]
  have HX := Lib.hid hx
  clear hx
  obtain ⟨W0, hW0⟩ : ∃ W0, (w.alloc (.cells #[.bool ad, .int .i64 at1, .int .i64 av, .int .i64 ai, .int .i64 ae, .int .i64 ak, .string as1] 27)).alloc (.cells #[.bool bd, .int .i64 bt1, .int .i64 bv, .int .i64 bi, .int .i64 be, .int .i64 bk, .string bs1] 27) = W0 := ⟨_, rfl⟩
  have hsz : (w.alloc (.cells #[.bool ad, .int .i64 at1, .int .i64 av, .int .i64 ai, .int .i64 ae, .int .i64 ak, .string as1] 27)).heap.size = w.heap.size + 1 := by simp
  have hbx : Below w.heap.size w W0 := by rw [← hW0]; exact below_two _ _ _
  have a0 : W0.cell? ⟨w.heap.size, 0, none⟩ = some (.bool ad) := by rw [← hW0]; exact ((below_one (w.alloc (.cells #[.bool ad, .int .i64 at1, .int .i64 av, .int .i64 ai, .int .i64 ae, .int .i64 ak, .string as1] 27)) (.cells #[.bool bd, .int .i64 bt1, .int .i64 bv, .int .i64 bi, .int .i64 be, .int .i64 bk, .string bs1] 27)).cell (p := ⟨w.heap.size, 0, none⟩) (by simp)).trans (new_cell10 rfl)
  have a1 : W0.cell? ⟨w.heap.size, 1, none⟩ = some (.int .i64 at1) := by rw [← hW0]; exact ((below_one (w.alloc (.cells #[.bool ad, .int .i64 at1, .int .i64 av, .int .i64 ai, .int .i64 ae, .int .i64 ak, .string as1] 27)) (.cells #[.bool bd, .int .i64 bt1, .int .i64 bv, .int .i64 bi, .int .i64 be, .int .i64 bk, .string bs1] 27)).cell (p := ⟨w.heap.size, 1, none⟩) (by simp)).trans (new_cell10 rfl)
  have a2 : W0.cell? ⟨w.heap.size, 2, none⟩ = some (.int .i64 av) := by rw [← hW0]; exact ((below_one (w.alloc (.cells #[.bool ad, .int .i64 at1, .int .i64 av, .int .i64 ai, .int .i64 ae, .int .i64 ak, .string as1] 27)) (.cells #[.bool bd, .int .i64 bt1, .int .i64 bv, .int .i64 bi, .int .i64 be, .int .i64 bk, .string bs1] 27)).cell (p := ⟨w.heap.size, 2, none⟩) (by simp)).trans (new_cell10 rfl)
  have a3 : W0.cell? ⟨w.heap.size, 3, none⟩ = some (.int .i64 ai) := by rw [← hW0]; exact ((below_one (w.alloc (.cells #[.bool ad, .int .i64 at1, .int .i64 av, .int .i64 ai, .int .i64 ae, .int .i64 ak, .string as1] 27)) (.cells #[.bool bd, .int .i64 bt1, .int .i64 bv, .int .i64 bi, .int .i64 be, .int .i64 bk, .string bs1] 27)).cell (p := ⟨w.heap.size, 3, none⟩) (by simp)).trans (new_cell10 rfl)
  have a4 : W0.cell? ⟨w.heap.size, 4, none⟩ = some (.int .i64 ae) := by rw [← hW0]; exact ((below_one (w.alloc (.cells #[.bool ad, .int .i64 at1, .int .i64 av, .int .i64 ai, .int .i64 ae, .int .i64 ak, .string as1] 27)) (.cells #[.bool bd, .int .i64 bt1, .int .i64 bv, .int .i64 bi, .int .i64 be, .int .i64 bk, .string bs1] 27)).cell (p := ⟨w.heap.size, 4, none⟩) (by simp)).trans (new_cell10 rfl)
  have a5 : W0.cell? ⟨w.heap.size, 5, none⟩ = some (.int .i64 ak) := by rw [← hW0]; exact ((below_one (w.alloc (.cells #[.bool ad, .int .i64 at1, .int .i64 av, .int .i64 ai, .int .i64 ae, .int .i64 ak, .string as1] 27)) (.cells #[.bool bd, .int .i64 bt1, .int .i64 bv, .int .i64 bi, .int .i64 be, .int .i64 bk, .string bs1] 27)).cell (p := ⟨w.heap.size, 5, none⟩) (by simp)).trans (new_cell10 rfl)
  have a6 : W0.cell? ⟨w.heap.size, 6, none⟩ = some (.string as1) := by rw [← hW0]; exact ((below_one (w.alloc (.cells #[.bool ad, .int .i64 at1, .int .i64 av, .int .i64 ai, .int .i64 ae, .int .i64 ak, .string as1] 27)) (.cells #[.bool bd, .int .i64 bt1, .int .i64 bv, .int .i64 bi, .int .i64 be, .int .i64 bk, .string bs1] 27)).cell (p := ⟨w.heap.size, 6, none⟩) (by simp)).trans (new_cell10 rfl)
  have b0 : W0.cell? ⟨w.heap.size + 1, 0, none⟩ = some (.bool bd) := by rw [← hW0, ← hsz]; exact new_cell10 rfl
  have b1 : W0.cell? ⟨w.heap.size + 1, 1, none⟩ = some (.int .i64 bt1) := by rw [← hW0, ← hsz]; exact new_cell10 rfl
  have b2 : W0.cell? ⟨w.heap.size + 1, 2, none⟩ = some (.int .i64 bv) := by rw [← hW0, ← hsz]; exact new_cell10 rfl
  have b3 : W0.cell? ⟨w.heap.size + 1, 3, none⟩ = some (.int .i64 bi) := by rw [← hW0, ← hsz]; exact new_cell10 rfl
  have b4 : W0.cell? ⟨w.heap.size + 1, 4, none⟩ = some (.int .i64 be) := by rw [← hW0, ← hsz]; exact new_cell10 rfl
  have b5 : W0.cell? ⟨w.heap.size + 1, 5, none⟩ = some (.int .i64 bk) := by rw [← hW0, ← hsz]; exact new_cell10 rfl
  have b6 : W0.cell? ⟨w.heap.size + 1, 6, none⟩ = some (.string bs1) := by rw [← hW0, ← hsz]; exact new_cell10 rfl
  have HBX := Lib.hid hbx
  clear hbx hsz
  have go : ∀ (y z u : Bool), (ad == bd) = y → (at1 == bt1) = z → (av == bv) = u → Calls Tryd.prog 18 #[.agg #[.bool ad, .int .i64 at1, .int .i64 av, .int .i64 ai, .int .i64 ae, .int .i64 ak, .string as1], .agg #[.bool bd, .int .i64 bt1, .int .i64 bv, .int .i64 bi, .int .i64 be, .int .i64 bk, .string bs1]] w (Bl (y && z && u && x) w) := by
    intro y z u hy hz hu
    go_enter Tryd.func18, Tryd.ntmps18
    cases y with
    | false => go_wp2; go_ret; exact ⟨rfl, HBX.out⟩
    | true => cases z with
      | false => go_wp2; go_ret; exact ⟨rfl, HBX.out⟩
      | true => cases u with
        | false => go_wp2; go_ret; exact ⟨rfl, HBX.out⟩
        | true =>
          go_wp2_with fail
          refine (reqEntry_any ⟨ai, ae, ak, as1⟩ ⟨bi, be, bk, bs1⟩ _).mono ?_
          rintro e k2 ⟨rfl, hb2⟩
          rw [HX.out]
          have HB2 := Lib.hid (HBX.out.trans (hb2.mono HBX.out.size))
          clear hb2
          go_wp2
          go_ret
          exact ⟨by cases x <;> rfl, HB2.out⟩
  exact go _ _ _ rfl rfl rfl
end Go.Proofs.YtdigpeipklfaeaaDoor
/-
  Stage 10's contracts as laws hold them: values written out, what is answered by a letter.
  Bytes are at most 1,000,000; package crc's table lies as it was laid.
-/
namespace Go.Proofs.YtdigpeipklfaeaaDoor
open Go.RowKit
set_option maxRecDepth 100000

theorem wenc_v (hd : Bool) (ht hv ix et kd : Int) (dt : ByteArray) (m : List UInt8) (w : World) (hs : dt.size ≤ 1000000) (hT : Tbl w) (hm : encR10 ⟨hd, ht, hv, ⟨ix, et, kd, dt⟩⟩ = m) :
    Calls Tryd.prog 12 #[.agg #[.bool hd, .int .i64 ht, .int .i64 hv, .int .i64 ix, .int .i64 et, .int .i64 kd, .string dt]] w (Made m w) := by
  rw [← hm]; exact wenc10_any ⟨hd, ht, hv, ⟨ix, et, kd, dt⟩⟩ w hs hT
theorem wmay_v (hd : Bool) (ht hv ix et kd : Int) (dt : ByteArray) (b : Bool) (w : World) (hs : dt.size ≤ 1000000) (hm : may10 ⟨hd, ht, hv, ⟨ix, et, kd, dt⟩⟩ = b) :
    Calls Tryd.prog 15 #[.agg #[.bool hd, .int .i64 ht, .int .i64 hv, .int .i64 ix, .int .i64 et, .int .i64 kd, .string dt]] w (Bl b w) := by
  rw [← hm]; exact wmay10_any ⟨hd, ht, hv, ⟨ix, et, kd, dt⟩⟩ w hs
theorem renc_v (hd : Bool) (ht hv ix et kd : Int) (dt : ByteArray) (m : List UInt8) (w : World) (hs : dt.size ≤ 1000000) (hm : encR10 ⟨hd, ht, hv, ⟨ix, et, kd, dt⟩⟩ = m) :
    Calls Tryd.prog 16 #[.agg #[.bool hd, .int .i64 ht, .int .i64 hv, .int .i64 ix, .int .i64 et, .int .i64 kd, .string dt]] w (Made m w) := by
  rw [← hm]; exact renc10_any ⟨hd, ht, hv, ⟨ix, et, kd, dt⟩⟩ w hs
theorem rmay_v10 (hd : Bool) (ht hv ix et kd : Int) (dt : ByteArray) (b : Bool) (w : World) (hs : dt.size ≤ 1000000) (hm : may10 ⟨hd, ht, hv, ⟨ix, et, kd, dt⟩⟩ = b) :
    Calls Tryd.prog 14 #[.agg #[.bool hd, .int .i64 ht, .int .i64 hv, .int .i64 ix, .int .i64 et, .int .i64 kd, .string dt]] w (Bl b w) := by
  rw [← hm]; exact rmay10_any ⟨hd, ht, hv, ⟨ix, et, kd, dt⟩⟩ w hs
theorem snap_v (ix st : Int) (cf dt : ByteArray) (m : List UInt8) (w : World) (hc : cf.size ≤ 1000000) (hs : dt.size ≤ 1000000) (hT : Tbl w) (hm : snapB10 ⟨ix, st, cf, dt⟩ = m) :
    Calls Tryd.prog 25 #[.agg #[.int .i64 ix, .int .i64 st, .string cf, .string dt]] w (Made m w) := by
  rw [← hm]; exact wsnap10_any ⟨ix, st, cf, dt⟩ w hc hs hT
theorem rsnap_v (ix st : Int) (cf dt : ByteArray) (m : List UInt8) (w : World) (hc : cf.size ≤ 1000000) (hs : dt.size ≤ 1000000) (hm : snapB10 ⟨ix, st, cf, dt⟩ = m) :
    Calls Tryd.prog 26 #[.agg #[.int .i64 ix, .int .i64 st, .string cf, .string dt]] w (Made m w) := by
  rw [← hm]; exact rsnap10_any ⟨ix, st, cf, dt⟩ w hc hs
/-- what Decode answers, its record's cells written out -/
theorem wdec_v (u : Value) (B : Nat) (l : List UInt8) (w : World) (h : Byt w B u l) (hB : B ≤ w.heap.size) (hl : l.length ≤ 1000000) (hT : Tbl w) (hd : Bool) (ht hv ix et kd : Int) (dt : ByteArray) (n e : Nat) (hr : decR10 l = (⟨hd, ht, hv, ⟨ix, et, kd, dt⟩⟩, n, e)) :
    Calls Tryd.prog 17 #[u] w fun x w' => x = .returned (.tuple #[.agg #[.bool hd, .int .i64 ht, .int .i64 hv, .int .i64 ix, .int .i64 et, .int .i64 kd, .string dt], .int .i64 n, .int .i64 e]) ∧ Below w.heap.size w w' := by
  obtain ⟨A, c, rfl⟩ := byt_slice h
  have := wdec10_any A c B l w h hB hl hT
  rw [hr] at this
  exact this
theorem rdec_v (u : Value) (B : Nat) (l : List UInt8) (w : World) (h : Byt w B u l) (hB : B ≤ w.heap.size) (hl : l.length ≤ 1000000) (hd : Bool) (ht hv ix et kd : Int) (dt : ByteArray) (n e : Nat) (hr : decR10 l = (⟨hd, ht, hv, ⟨ix, et, kd, dt⟩⟩, n, e)) :
    Calls Tryd.prog 23 #[u] w fun x w' => x = .returned (.tuple #[.agg #[.bool hd, .int .i64 ht, .int .i64 hv, .int .i64 ix, .int .i64 et, .int .i64 kd, .string dt], .int .i64 n, .int .i64 e]) ∧ Below w.heap.size w w' := by
  obtain ⟨A, c, rfl⟩ := byt_slice h
  have := rdec10_any A c B l w h hB hl
  rw [hr] at this
  exact this
theorem wget_v (u : Value) (B : Nat) (l : List UInt8) (w : World) (h : Byt w B u l) (hB : B ≤ w.heap.size) (hl : l.length ≤ 1000000) (hT : Tbl w) (ix st : Int) (cf dt : ByteArray) (n e : Nat) (hr : getS10 l = (⟨ix, st, cf, dt⟩, n, e)) :
    Calls Tryd.prog 28 #[u] w fun x w' => x = .returned (.tuple #[.agg #[.int .i64 ix, .int .i64 st, .string cf, .string dt], .int .i64 n, .int .i64 e]) ∧ Below w.heap.size w w' := by
  have := wgetS_any u B l w h hB hl hT
  rw [hr] at this
  exact this
theorem own_nz {B : Nat} {v : Value} {l : List UInt8} {w : World} (h : OwnB B v l w) : l = [] → v = .slice none 0 0 ∨ ∃ g o c, v = .slice (some ⟨g, o, none⟩) 0 c := fun e => by
  subst e
  rcases h.2 with ⟨rfl, _⟩ | ⟨g, c, cur, rfl, _⟩
  · exact .inl rfl
  · exact .inr ⟨g, 0, c, rfl⟩
/-- Scan of a row of one's own -/
theorem wscan_v (v : Value) (B : Nat) (l : List UInt8) (w : World) (h : OwnB B v l w) (hl : l.length ≤ 1000000) (hT : Tbl w) (L : List Rcd) (u e : Nat) (hS : ScR l L u e) :
    Calls Tryd.prog 21 #[v] w fun x w' => ∃ A c, x = .returned (.tuple #[.slice A L.length c, .int .i64 u, .bool (e == 2)]) ∧ OwnRc 32 w.heap.size (.slice A L.length c) L w' ∧ Below w.heap.size w w' := by
  refine (Swscan_any v _ l w (Byt.of_own h) (Nat.le_refl _) hl hT (own_nz h)).mono ?_
  rintro x w' ⟨L', u', e', v', hs, rfl, ho, hb⟩
  obtain ⟨rfl, rfl, rfl⟩ := ScR.two hs hS
  obtain ⟨A, c, rfl⟩ := ho.slice
  exact ⟨A, c, rfl, ho, hb⟩
end Go.Proofs.YtdigpeipklfaeaaDoor
/-
  The beginning of stage 10's statements: one record and one snapshot go to bytes and back, and are told in a row.
  Package crc's table lies as it was laid.
-/
namespace Go.Proofs.YtdigpeipklfaeaaDoor
open Go.RowKit
set_option maxRecDepth 100000

set_option maxHeartbeats 1000000 in
theorem begun10_any (w : World) (hT : Tbl w) : Calls Tryd.prog 10 #[] w fun e w' => e = .returned (.bool true) ∧ Below w.heap.size w w' := by
  have HT := Lib.hid hT; clear hT
  have hm : may10 ⟨true, 3, 2, ⟨0, 0, 0, ⟨#[]⟩⟩⟩ = true := by decide
  have hl := enc10_len hm
  have hdec := decR10_enc hm []
  have hdec1 := decR10_enc hm ((encR10 ⟨true, 3, 2, ⟨0, 0, 0, ⟨#[]⟩⟩⟩).take 1)
  have hcut := decR10_cut hm (m := 1) (by omega)
  rw [List.append_nil] at hdec
  obtain ⟨s, hs⟩ : ∃ s, encR10 ⟨true, 3, 2, ⟨0, 0, 0, ⟨#[]⟩⟩⟩ = s := ⟨_, rfl⟩
  rw [hs] at hl hdec hdec1 hcut
  have hscan : ScR (s ++ s.take 1) [⟨true, 3, 2, ⟨0, 0, 0, ⟨#[]⟩⟩⟩] s.length 2 := ScR.cons _ _ s.length [] 0 2 hdec1 (ScR.nil _ 2 (by rw [List.drop_left]; exact hcut) (by decide))
  have hms : maySnp10 ⟨4, 2, ⟨#[49, 50]⟩, ⟨#[100]⟩⟩ = true := by decide
  have hget := getS10_put hms []
  have hgl := snapB10_len hms
  rw [List.append_nil] at hget
  obtain ⟨q, hq⟩ : ∃ q, snapB10 ⟨4, 2, ⟨#[49, 50]⟩, ⟨#[100]⟩⟩ = q := ⟨_, rfl⟩
  rw [hq] at hget hgl
  obtain ⟨n, hn⟩ : ∃ n, s.length = n := ⟨_, rfl⟩
  obtain ⟨m, hmm⟩ : ∃ m, q.length = m := ⟨_, rfl⟩
  rw [hn] at hl hdec hscan
  rw [hmm] at hget hgl
  have HS := Lib.hid hs
  have HN := Lib.hid hn
  have HM := Lib.hid hmm
  have HQ := Lib.hid hq
  clear hs hn hmm hq hm hms hcut hdec1
  go_enter Tryd.func10, Tryd.ntmps10
  go_wp2_with fail
  refine (wenc_v true 3 2 0 0 0 ⟨#[]⟩ s w (by decide) HT.out HS.out).mono ?_
  rintro e w1 ⟨v1, rfl, ho1, hb1⟩
  obtain ⟨g1, c1, hv1, hg1, hcs⟩ := ho1.at_ (by rw [HN.out]; omega)
  subst hv1
  have hby1 := Byt.of_own ho1
  have hT1 := tbl_keep HT.out hb1
  obtain ⟨x0, t0, hst⟩ : ∃ x t, s = x :: t := by cases s with | nil => simp at HN; have := HN.out; omega | cons x t => exact ⟨x, t, rfl⟩
  rw [HN.out] at ho1 hby1 ⊢
  have HO1 := Lib.hid ho1
  have HBY1 := Lib.hid hby1
  have HT1 := Lib.hid hT1
  have hcx : w1.cell? ⟨g1, 0, none⟩ = some (.int .u8 (x0.toNat : Int)) := by
    have := HO1.out.at_ (by rw [HN.out]; omega)
    obtain ⟨g', c', e1, _, hcs'⟩ := this
    injection e1 with e2
    injection e2 with e3
    injection e3 with e4
    subst e4
    have := hcs' 0 (.int .u8 (x0.toNat : Int)) (by rw [hst]; rfl)
    simpa [Addr.add] using this
  have HST := Lib.hid hst
  clear ho1 hby1 hT1 hcs hst
  go_wp2_with fail
  refine (wdec_v _ _ s w1 HBY1.out (Nat.le_refl _) (by rw [HN.out]; omega) HT1.out _ _ _ _ _ _ _ _ _ hdec).mono ?_
  rintro e w2 ⟨rfl, hb2⟩
  have hb12 := hb2.size
  have hcx2 := (hb2.cell (p := ⟨g1, 0, none⟩) (cell_lt hcx)).trans hcx
  have HO2 := Lib.hid (HO1.out.below hb2)
  have HBY2 := Lib.hid (HBY1.out.below hb2 (Nat.le_refl _))
  have HB2 := Lib.hid (hb1.trans (hb2.mono hb1.size))
  clear hcx hb1 hb2 HO1 HBY1
  go_wp2_with fail
  obtain ⟨wx, hwx⟩ : ∃ wx, w2.alloc (.cells #[.bool true, .int .i64 3, .int .i64 2, .int .i64 0, .int .i64 0, .int .i64 0, .string ⟨#[]⟩] 32) = wx := ⟨_, rfl⟩
  have hbx : Below w2.heap.size w2 wx := by rw [← hwx]; exact below_new _ _
  obtain ⟨rb, hrb⟩ : ∃ rb, w2.heap.size = rb := ⟨_, rfl⟩
  have hrv : wx.cell? ⟨rb, 2, none⟩ = some (.int .i64 2) := by rw [← hwx, ← hrb]; exact new_cell10 rfl
  rw [hwx, hrb]
  have hcxx := (hbx.cell (p := ⟨g1, 0, none⟩) (cell_lt hcx2)).trans hcx2
  have HB2x := Lib.hid (HB2.out.trans (hbx.mono HB2.out.size))
  have HBY2x := Lib.hid (HBY2.out.below hbx hb12)
  have hw1x : w1.heap.size ≤ wx.heap.size := Nat.le_trans hb12 hbx.size
  have hn0 : ¬ n = 0 := by omega
  have hn1 : 0 < n := by omega
  clear hcx2 HB2 HBY2 hbx hwx hrb
  have hrv3 : wx.drew.cell? ⟨rb, 2, none⟩ = some (.int .i64 2) := hrv
  have hcx3 : wx.drew.cell? ⟨g1, 0, none⟩ = some (.int .u8 (x0.toNat : Int)) := hcxx
  have HB3 : Hid (Below w.heap.size w wx.drew) := Lib.hid HB2x.out.drew
  have HBY3 : Hid (Byt wx.drew w1.heap.size (.slice (some ⟨g1, 0, none⟩) n c1) s) := Lib.hid HBY2x.out
  have hg1b : g1 < wx.drew.heap.size := cell_lt hcx3
  have hw1k : w1.heap.size ≤ wx.drew.heap.size := hw1x
  refine wp_region_noPanic ?_
  refine wp_region_held_drew (S := fun W => W.cell? ⟨g1, 0, none⟩ = some (.int .u8 (x0.toNat : Int)) ∧ W.cell? ⟨rb, 2, none⟩ = some (.int .i64 2)) (by kernel_rfl) ?_ (fun hHeld => ?_)
  · exact ⟨hcx3, hrv3⟩
  have hrbl : rb < wx.drew.heap.size := cell_lt hrv3
  generalize wx.drew = k0 at *
  clear HB2x HBY2x hcxx hrv
  refine wpAnyH_take (i := 0) (oi := { dst := some 24, op := Op.move (Operand.tmp 1), type := 30, pos := "law.go:30", after := #[], guard := none }) (v := .slice (some ⟨g1, 0, none⟩) n c1) rfl (by kernel_rfl) (by kernel_rfl) (by kernel_rfl) (fun _ _ _ h => h) (Or.inl ⟨by rfl, fun w hSw => ?_⟩) (by assumption) ?_
  · (try dsimp only at hSw)
    go_simp
  try simp only [Act.put, List.setIfInBounds_toArray, List.set_cons_zero, List.set_cons_succ]
  refine wpAnyH_take (i := 2) (oi := { dst := some 26, op := Op.move (Operand.tmp 1), type := 30, pos := "law.go:30", after := #[], guard := none }) (v := .slice (some ⟨g1, 0, none⟩) n c1) rfl (by kernel_rfl) (by kernel_rfl) (by kernel_rfl) (fun _ _ _ h => h) (Or.inl ⟨by rfl, fun w hSw => ?_⟩) (by assumption) ?_
  · (try dsimp only at hSw)
    go_simp
  try simp only [Act.put, List.setIfInBounds_toArray, List.set_cons_zero, List.set_cons_succ]
  refine wpAnyH_take (i := 3) (oi := { dst := some 27, op := Op.indexAddr 30 (Operand.tmp 26) (Operand.const (Value.int IntKind.i64 0)), type := 0, pos := "law.go:30", after := #[{ on := 2, ground := Ground.data }], guard := none }) (v := .pointer (some ⟨g1, 0, none⟩)) rfl (by kernel_rfl) (by kernel_rfl) (by kernel_rfl) (fun _ _ _ h => h) (Or.inl ⟨by rfl, fun w hSw => ?_⟩) (by assumption) ?_
  · (try dsimp only at hSw)
    go_simp
  try simp only [Act.put, List.setIfInBounds_toArray, List.set_cons_zero, List.set_cons_succ]
  refine wpAnyH_take (i := 4) (oi := { dst := some 28, op := Op.load 5 (Operand.tmp 27), type := 5, pos := "law.go:30", after := #[{ on := 3, ground := Ground.data }], guard := none }) (v := .int .u8 (x0.toNat : Int)) rfl (by kernel_rfl) (by kernel_rfl) (by kernel_rfl) (fun _ _ _ h => h) (Or.inl ⟨by rfl, fun w hSw => ?_⟩) (by assumption) ?_
  · (try dsimp only at hSw)
    go_simp
  try simp only [Act.put, List.setIfInBounds_toArray, List.set_cons_zero, List.set_cons_succ]
  refine wpAnyH_ready (rs := [1, 5]) (by kernel_rfl) (by simp) ?_
  refine AllReadyH.cons (o := { dst := some 25, op := Op.call { callee := Callee.builtin Builtin.append, args := #[Operand.const (Value.slice none 0 0), Operand.tmp 24], argTypes := #[30, 30] }, type := 30, pos := "law.go:30", after := #[{ on := 0, ground := Ground.data }], guard := none }) rfl (fun K hK => ?_) (AllReadyH.cons (o := { dst := some 29, op := Op.buildSlice 30 1 #[(0, Operand.tmp 28)], type := 30, pos := "law.go:30", after := #[{ on := 4, ground := Ground.data }], guard := none }) rfl (fun K hK => ?_) AllReadyH.nil)
  · rw [if_pos (by rfl)]
    refine wp_append_byt_at _ _ rfl k0.heap.size _ _ _ _ _ rfl (ownB_nil _ _) rfl HBY3.out (by have := HN.out; simp; omega) (Nat.le_refl _) ?_
    intro va ka howa hba hga
    rw [List.nil_append] at howa
    obtain ⟨Aa, ca, hva⟩ := own_slice howa
    rw [HN.out] at hva
    subst hva
    have hcxa : ka.cell? ⟨g1, 0, none⟩ = some (.int .u8 (x0.toNat : Int)) := (hba.cell (p := ⟨g1, 0, none⟩) hg1b).trans hcx3
    have hrva : ka.cell? ⟨rb, 2, none⟩ = some (.int .i64 2) := (hba.cell (p := ⟨rb, 2, none⟩) hrbl).trans hrv3
    refine hK.out _ _ ?_ (fun hHeld => ?_)
    · exact ⟨hcxa, hrva⟩
    clear hK K
    try simp only [Act.put, List.setIfInBounds_toArray, List.set_cons_zero, List.set_cons_succ]
    refine wpAnyH_ready (rs := [5]) (by kernel_rfl) (by simp) ?_
    refine AllReadyH.cons (o := { dst := some 29, op := Op.buildSlice 30 1 #[(0, Operand.tmp 28)], type := 30, pos := "law.go:30", after := #[{ on := 4, ground := Ground.data }], guard := none }) rfl (fun K hK => ?_) AllReadyH.nil
    go_simp
    have hbn := byt_new1 ka 5 (x0.toNat : Int) x0 rfl
    have hown6 := howa.below (below_new ka (.cells #[.int .u8 (x0.toNat : Int)] 5))
    have hb5 : Below k0.heap.size k0 (ka.alloc (.cells #[.int .u8 (x0.toNat : Int)] 5)) := hba.alloc hba.size _
    refine hK.out _ _ ?_ (fun hHeld => ?_)
    · exact ⟨((below_new ka _).cell (p := ⟨g1, 0, none⟩) (cell_lt hcxa)).trans hcxa, ((below_new ka _).cell (p := ⟨rb, 2, none⟩) (cell_lt hrva)).trans hrva⟩
    clear hK K
    try simp only [Act.put, List.setIfInBounds_toArray, List.set_cons_zero, List.set_cons_succ]
    refine wpAnyH_ready (rs := [6]) (by kernel_rfl) (by simp) ?_
    refine AllReadyH.cons (o := { dst := some 30, op := Op.call { callee := Callee.builtin Builtin.append, args := #[Operand.tmp 25, Operand.tmp 29], argTypes := #[30, 30] }, type := 30, pos := "law.go:30", after := #[{ on := 1, ground := Ground.data }, { on := 5, ground := Ground.data }, { on := 1, ground := Ground.chain }], guard := none }) rfl (fun K hK => ?_) AllReadyH.nil
    rw [if_pos (by rfl)]
    refine wp_append_byt_at _ _ rfl k0.heap.size _ _ _ _ _ rfl hown6 rfl hbn (by have := HN.out; simp; omega) hb5.size ?_
    intro vb kb howb hbb hgb
    have hB6 := HB3.out.trans ((hb5.trans hbb).mono HB3.out.size)
    have hcxb : kb.cell? ⟨g1, 0, none⟩ = some (.int .u8 (x0.toNat : Int)) := ((hb5.trans hbb).cell (p := ⟨g1, 0, none⟩) hg1b).trans hcx3
    have hrvb : kb.cell? ⟨rb, 2, none⟩ = some (.int .i64 2) := ((hb5.trans hbb).cell (p := ⟨rb, 2, none⟩) hrbl).trans hrv3
    obtain ⟨Ab, cb, hvb⟩ := own_slice howb
    have hlb : (s ++ [x0]).length = n + 1 := by rw [List.length_append, HN.out]; rfl
    rw [hlb] at hvb
    subst hvb
    have hsx : s ++ [x0] = s ++ s.take 1 := by rw [show s.take 1 = [x0] by rw [HST.out]; rfl]
    rw [hsx] at howb
    have HOB := Lib.hid howb
    have HB6 := Lib.hid hB6
    clear hsx howb hbb hgb hB6
    refine hK.out _ _ ?_ (fun hHeld => ?_)
    · exact ⟨hcxb, hrvb⟩
    clear hK K
    try simp only [Act.put, List.setIfInBounds_toArray, List.set_cons_zero, List.set_cons_succ]
    refine wpAnyH_ready (rs := [7]) (by kernel_rfl) (by simp) ?_
    refine AllReadyH.cons (o := { dst := some 31, op := Op.call { callee := Callee.value (Operand.func 21), args := #[Operand.tmp 30], argTypes := #[30] }, type := 46, pos := "law.go:30", after := #[{ on := 6, ground := Ground.data }, { on := 6, ground := Ground.chain }], guard := none }) rfl (fun K hK => ?_) AllReadyH.nil
    go_simp
    go_at_call 21
    refine (wscan_v _ _ _ kb HOB.out (by rw [List.length_append, List.length_take, HN.out]; omega) (tbl_keep HT.out HB6.out) _ n 2 hscan).mono ?_
    rintro e kc ⟨As, cs, rfl, hos, hbc⟩
    have hcxc : kc.cell? ⟨g1, 0, none⟩ = some (.int .u8 (x0.toNat : Int)) := (hbc.cell (p := ⟨g1, 0, none⟩) (cell_lt hcxb)).trans hcxb
    have hrvc : kc.cell? ⟨rb, 2, none⟩ = some (.int .i64 2) := (hbc.cell (p := ⟨rb, 2, none⟩) (cell_lt hrvb)).trans hrvb
    have HB7 := Lib.hid (HB6.out.trans (hbc.mono HB6.out.size))
    clear hos hbc
    try dsimp only
    refine hK.out _ _ ?_ (fun hHeld => ?_)
    · exact ⟨hcxc, hrvc⟩
    clear hK K
    try simp only [Act.put, List.setIfInBounds_toArray, List.set_cons_zero, List.set_cons_succ]
    refine wpAnyH_take (i := 8) (oi := { dst := some 23, op := Op.move (Operand.tmp 31), type := 46, pos := "law.go:30", after := #[{ on := 7, ground := Ground.data }], guard := none }) (v := .tuple #[.slice As 1 cs, .int .i64 n, .bool true]) rfl (by kernel_rfl) (by kernel_rfl) (by kernel_rfl) (fun _ _ _ h => h) (Or.inl ⟨by rfl, fun w hSw => ?_⟩) (by assumption) ?_
    · (try dsimp only at hSw)
      go_simp
    try simp only [Act.put, List.setIfInBounds_toArray, List.set_cons_zero, List.set_cons_succ]
    refine wpAnyH_take (i := 9) (oi := { dst := some 32, op := Op.extract (Operand.tmp 23) 0, type := 45, pos := "law.go:30", after := #[{ on := 8, ground := Ground.data }], guard := none }) (v := .slice As 1 cs) rfl (by kernel_rfl) (by kernel_rfl) (by kernel_rfl) (fun _ _ _ h => h) (Or.inl ⟨by rfl, fun w hSw => ?_⟩) (by assumption) ?_
    · (try dsimp only at hSw)
      go_simp
    try simp only [Act.put, List.setIfInBounds_toArray, List.set_cons_zero, List.set_cons_succ]
    refine wpAnyH_take (i := 10) (oi := { dst := some 33, op := Op.extract (Operand.tmp 23) 1, type := 3, pos := "law.go:30", after := #[{ on := 8, ground := Ground.data }, { on := 12, ground := Ground.gcOnly Departure.lateStores }], guard := none }) (v := .int .i64 n) rfl (by kernel_rfl) (by kernel_rfl) (by kernel_rfl) (fun _ _ _ h => h) (Or.inl ⟨by rfl, fun w hSw => ?_⟩) (by assumption) ?_
    · (try dsimp only at hSw)
      go_simp
    try simp only [Act.put, List.setIfInBounds_toArray, List.set_cons_zero, List.set_cons_succ]
    refine wpAnyH_take (i := 11) (oi := { dst := some 34, op := Op.extract (Operand.tmp 23) 2, type := 4, pos := "law.go:30", after := #[{ on := 8, ground := Ground.data }, { on := 13, ground := Ground.gcOnly Departure.lateStores }], guard := none }) (v := .bool true) rfl (by kernel_rfl) (by kernel_rfl) (by kernel_rfl) (fun _ _ _ h => h) (Or.inl ⟨by rfl, fun w hSw => ?_⟩) (by assumption) ?_
    · (try dsimp only at hSw)
      go_simp
    try simp only [Act.put, List.setIfInBounds_toArray, List.set_cons_zero, List.set_cons_succ]
    refine wpAnyH_ready (rs := [12]) (by kernel_rfl) (by simp) ?_
    refine AllReadyH.cons (o := { dst := some 5, op := Op.assign (Operand.tmp 32), type := 45, pos := "law.go:30", after := #[{ on := 9, ground := Ground.data }, { on := 7, ground := Ground.chain }, { on := 0, ground := Ground.phase }, { on := 1, ground := Ground.phase }, { on := 2, ground := Ground.phase }, { on := 3, ground := Ground.phase }, { on := 4, ground := Ground.phase }, { on := 5, ground := Ground.phase }, { on := 6, ground := Ground.phase }, { on := 7, ground := Ground.phase }, { on := 8, ground := Ground.phase }, { on := 9, ground := Ground.phase }, { on := 10, ground := Ground.textOnly Departure.lateStores }, { on := 11, ground := Ground.textOnly Departure.lateStores }], guard := none }) rfl (fun K hK => ?_) AllReadyH.nil
    go_simp
    refine hK.out _ _ ?_ (fun hHeld => ?_)
    · exact ⟨hcxc, hrvc⟩
    clear hK K
    try simp only [Act.put, List.setIfInBounds_toArray, List.set_cons_zero, List.set_cons_succ]
    refine wpAnyH_ready (rs := [13]) (by kernel_rfl) (by simp) ?_
    refine AllReadyH.cons (o := { dst := some 6, op := Op.assign (Operand.tmp 33), type := 3, pos := "law.go:30", after := #[{ on := 10, ground := Ground.data }, { on := 12, ground := Ground.chain }, { on := 0, ground := Ground.phase }, { on := 1, ground := Ground.phase }, { on := 2, ground := Ground.phase }, { on := 3, ground := Ground.phase }, { on := 4, ground := Ground.phase }, { on := 5, ground := Ground.phase }, { on := 6, ground := Ground.phase }, { on := 7, ground := Ground.phase }, { on := 8, ground := Ground.phase }, { on := 9, ground := Ground.phase }, { on := 10, ground := Ground.phase }, { on := 11, ground := Ground.textOnly Departure.lateStores }, { on := 12, ground := Ground.phase }], guard := none }) rfl (fun K hK => ?_) AllReadyH.nil
    go_simp
    refine hK.out _ _ ?_ (fun hHeld => ?_)
    · exact ⟨hcxc, hrvc⟩
    clear hK K
    try simp only [Act.put, List.setIfInBounds_toArray, List.set_cons_zero, List.set_cons_succ]
    refine wpAnyH_ready (rs := [14]) (by kernel_rfl) (by simp) ?_
    refine AllReadyH.cons (o := { dst := some 7, op := Op.assign (Operand.tmp 34), type := 4, pos := "law.go:30", after := #[{ on := 11, ground := Ground.data }, { on := 13, ground := Ground.chain }, { on := 0, ground := Ground.phase }, { on := 1, ground := Ground.phase }, { on := 2, ground := Ground.phase }, { on := 3, ground := Ground.phase }, { on := 4, ground := Ground.phase }, { on := 5, ground := Ground.phase }, { on := 6, ground := Ground.phase }, { on := 7, ground := Ground.phase }, { on := 8, ground := Ground.phase }, { on := 9, ground := Ground.phase }, { on := 10, ground := Ground.phase }, { on := 11, ground := Ground.phase }, { on := 12, ground := Ground.phase }, { on := 13, ground := Ground.phase }], guard := none }) rfl (fun K hK => ?_) AllReadyH.nil
    go_simp
    refine hK.out _ _ ?_ (fun hHeld => ?_)
    · exact ⟨hcxc, hrvc⟩
    clear hK K
    try simp only [Act.put, List.setIfInBounds_toArray, List.set_cons_zero, List.set_cons_succ]
    refine wpAnyH_done (by kernel_rfl) ?_ _
    refine NoPanic.normal ?_
    clear hcxc hcxb hcx3 hrv3
    go_wp2_with fail
    refine (snap_v 4 2 ⟨#[49, 50]⟩ ⟨#[100]⟩ q kc (by decide) (by decide) (tbl_keep HT.out HB7.out) HQ.out).mono ?_
    rintro e kd ⟨vd, rfl, hod, hbd⟩
    have HB8 := Lib.hid (HB7.out.trans (hbd.mono HB7.out.size))
    have HOD := Lib.hid hod
    have hrvd : kd.cell? ⟨rb, 2, none⟩ = some (.int .i64 2) := (hbd.cell (p := ⟨rb, 2, none⟩) (cell_lt hrvc)).trans hrvc
    clear hod hbd
    go_wp2_with fail
    refine (wget_v vd _ q kd (Byt.of_own HOD.out) (Nat.le_refl _) (by rw [HM.out]; omega) (tbl_keep HT.out HB8.out) _ _ _ _ _ _ hget).mono ?_
    rintro e ke ⟨rfl, hbe⟩
    have HB9 := Lib.hid (HB8.out.trans (hbe.mono HB8.out.size))
    have hrve : ke.cell? ⟨rb, 2, none⟩ = some (.int .i64 2) := (hbe.cell (p := ⟨rb, 2, none⟩) (cell_lt hrvd)).trans hrvd
    have hrbe := cell_lt hrve
    clear hbe
    have hm1 : (0 : Int) < m := by omega
    go_wp2
    go_ret
    exact ⟨rfl, by first | exact HB9.out | exact HB9.out.alloc HB9.out.size _ | exact (HB9.out.alloc HB9.out.size _).alloc (by simp; have := HB9.out.size; omega) _⟩
  · go_simp
    have hbn := byt_new1 k0 5 (x0.toNat : Int) x0 rfl
    have hcxn : (k0.alloc (.cells #[.int .u8 (x0.toNat : Int)] 5)).cell? ⟨g1, 0, none⟩ = some (.int .u8 (x0.toNat : Int)) := ((below_new k0 _).cell (p := ⟨g1, 0, none⟩) hg1b).trans hcx3
    have hrvn : (k0.alloc (.cells #[.int .u8 (x0.toNat : Int)] 5)).cell? ⟨rb, 2, none⟩ = some (.int .i64 2) := ((below_new k0 _).cell (p := ⟨rb, 2, none⟩) hrbl).trans hrv3
    have hbyn := HBY3.out.below (below_new k0 (.cells #[.int .u8 (x0.toNat : Int)] 5)) hw1k
    refine hK.out _ _ ?_ (fun hHeld => ?_)
    · exact ⟨hcxn, hrvn⟩
    clear hK K
    try simp only [Act.put, List.setIfInBounds_toArray, List.set_cons_zero, List.set_cons_succ]
    refine wpAnyH_ready (rs := [1]) (by kernel_rfl) (by simp) ?_
    refine AllReadyH.cons (o := { dst := some 25, op := Op.call { callee := Callee.builtin Builtin.append, args := #[Operand.const (Value.slice none 0 0), Operand.tmp 24], argTypes := #[30, 30] }, type := 30, pos := "law.go:30", after := #[{ on := 0, ground := Ground.data }], guard := none }) rfl (fun K hK => ?_) AllReadyH.nil
    rw [if_pos (by rfl)]
    refine wp_append_byt_at _ _ rfl (k0.alloc (.cells #[.int .u8 (x0.toNat : Int)] 5)).heap.size _ _ _ _ _ rfl (ownB_nil _ _) rfl hbyn (by have := HN.out; simp; omega) (Nat.le_refl _) ?_
    intro va ka howa hba hga
    rw [List.nil_append] at howa
    obtain ⟨Aa, ca, hva⟩ := own_slice howa
    rw [HN.out] at hva
    subst hva
    have hcxa : ka.cell? ⟨g1, 0, none⟩ = some (.int .u8 (x0.toNat : Int)) := (hba.cell (p := ⟨g1, 0, none⟩) (by simp; omega)).trans hcxn
    have hrva : ka.cell? ⟨rb, 2, none⟩ = some (.int .i64 2) := (hba.cell (p := ⟨rb, 2, none⟩) (by simp; omega)).trans hrvn
    have hbn2 := hbn.below hba (by simp)
    have hown6 := howa.down (B := k0.heap.size) (by simp)
    have hb5 : Below k0.heap.size k0 ka := (below_new k0 (.cells #[.int .u8 (x0.toNat : Int)] 5)).trans (hba.mono (by simp))
    refine hK.out _ _ ?_ (fun hHeld => ?_)
    · exact ⟨hcxa, hrva⟩
    clear hK K
    try simp only [Act.put, List.setIfInBounds_toArray, List.set_cons_zero, List.set_cons_succ]
    refine wpAnyH_ready (rs := [6]) (by kernel_rfl) (by simp) ?_
    refine AllReadyH.cons (o := { dst := some 30, op := Op.call { callee := Callee.builtin Builtin.append, args := #[Operand.tmp 25, Operand.tmp 29], argTypes := #[30, 30] }, type := 30, pos := "law.go:30", after := #[{ on := 1, ground := Ground.data }, { on := 5, ground := Ground.data }, { on := 1, ground := Ground.chain }], guard := none }) rfl (fun K hK => ?_) AllReadyH.nil
    rw [if_pos (by rfl)]
    refine wp_append_byt_at _ _ rfl k0.heap.size _ _ _ _ _ rfl hown6 rfl hbn2 (by have := HN.out; simp; omega) hb5.size ?_
    intro vb kb howb hbb hgb
    have hB6 := HB3.out.trans ((hb5.trans hbb).mono HB3.out.size)
    have hcxb : kb.cell? ⟨g1, 0, none⟩ = some (.int .u8 (x0.toNat : Int)) := ((hb5.trans hbb).cell (p := ⟨g1, 0, none⟩) hg1b).trans hcx3
    have hrvb : kb.cell? ⟨rb, 2, none⟩ = some (.int .i64 2) := ((hb5.trans hbb).cell (p := ⟨rb, 2, none⟩) hrbl).trans hrv3
    obtain ⟨Ab, cb, hvb⟩ := own_slice howb
    have hlb : (s ++ [x0]).length = n + 1 := by rw [List.length_append, HN.out]; rfl
    rw [hlb] at hvb
    subst hvb
    have hsx : s ++ [x0] = s ++ s.take 1 := by rw [show s.take 1 = [x0] by rw [HST.out]; rfl]
    rw [hsx] at howb
    have HOB := Lib.hid howb
    have HB6 := Lib.hid hB6
    clear hsx howb hbb hgb hB6
    refine hK.out _ _ ?_ (fun hHeld => ?_)
    · exact ⟨hcxb, hrvb⟩
    clear hK K
    try simp only [Act.put, List.setIfInBounds_toArray, List.set_cons_zero, List.set_cons_succ]
    refine wpAnyH_ready (rs := [7]) (by kernel_rfl) (by simp) ?_
    refine AllReadyH.cons (o := { dst := some 31, op := Op.call { callee := Callee.value (Operand.func 21), args := #[Operand.tmp 30], argTypes := #[30] }, type := 46, pos := "law.go:30", after := #[{ on := 6, ground := Ground.data }, { on := 6, ground := Ground.chain }], guard := none }) rfl (fun K hK => ?_) AllReadyH.nil
    go_simp
    go_at_call 21
    refine (wscan_v _ _ _ kb HOB.out (by rw [List.length_append, List.length_take, HN.out]; omega) (tbl_keep HT.out HB6.out) _ n 2 hscan).mono ?_
    rintro e kc ⟨As, cs, rfl, hos, hbc⟩
    have hcxc : kc.cell? ⟨g1, 0, none⟩ = some (.int .u8 (x0.toNat : Int)) := (hbc.cell (p := ⟨g1, 0, none⟩) (cell_lt hcxb)).trans hcxb
    have hrvc : kc.cell? ⟨rb, 2, none⟩ = some (.int .i64 2) := (hbc.cell (p := ⟨rb, 2, none⟩) (cell_lt hrvb)).trans hrvb
    have HB7 := Lib.hid (HB6.out.trans (hbc.mono HB6.out.size))
    clear hos hbc
    try dsimp only
    refine hK.out _ _ ?_ (fun hHeld => ?_)
    · exact ⟨hcxc, hrvc⟩
    clear hK K
    try simp only [Act.put, List.setIfInBounds_toArray, List.set_cons_zero, List.set_cons_succ]
    refine wpAnyH_take (i := 8) (oi := { dst := some 23, op := Op.move (Operand.tmp 31), type := 46, pos := "law.go:30", after := #[{ on := 7, ground := Ground.data }], guard := none }) (v := .tuple #[.slice As 1 cs, .int .i64 n, .bool true]) rfl (by kernel_rfl) (by kernel_rfl) (by kernel_rfl) (fun _ _ _ h => h) (Or.inl ⟨by rfl, fun w hSw => ?_⟩) (by assumption) ?_
    · (try dsimp only at hSw)
      go_simp
    try simp only [Act.put, List.setIfInBounds_toArray, List.set_cons_zero, List.set_cons_succ]
    refine wpAnyH_take (i := 9) (oi := { dst := some 32, op := Op.extract (Operand.tmp 23) 0, type := 45, pos := "law.go:30", after := #[{ on := 8, ground := Ground.data }], guard := none }) (v := .slice As 1 cs) rfl (by kernel_rfl) (by kernel_rfl) (by kernel_rfl) (fun _ _ _ h => h) (Or.inl ⟨by rfl, fun w hSw => ?_⟩) (by assumption) ?_
    · (try dsimp only at hSw)
      go_simp
    try simp only [Act.put, List.setIfInBounds_toArray, List.set_cons_zero, List.set_cons_succ]
    refine wpAnyH_take (i := 10) (oi := { dst := some 33, op := Op.extract (Operand.tmp 23) 1, type := 3, pos := "law.go:30", after := #[{ on := 8, ground := Ground.data }, { on := 12, ground := Ground.gcOnly Departure.lateStores }], guard := none }) (v := .int .i64 n) rfl (by kernel_rfl) (by kernel_rfl) (by kernel_rfl) (fun _ _ _ h => h) (Or.inl ⟨by rfl, fun w hSw => ?_⟩) (by assumption) ?_
    · (try dsimp only at hSw)
      go_simp
    try simp only [Act.put, List.setIfInBounds_toArray, List.set_cons_zero, List.set_cons_succ]
    refine wpAnyH_take (i := 11) (oi := { dst := some 34, op := Op.extract (Operand.tmp 23) 2, type := 4, pos := "law.go:30", after := #[{ on := 8, ground := Ground.data }, { on := 13, ground := Ground.gcOnly Departure.lateStores }], guard := none }) (v := .bool true) rfl (by kernel_rfl) (by kernel_rfl) (by kernel_rfl) (fun _ _ _ h => h) (Or.inl ⟨by rfl, fun w hSw => ?_⟩) (by assumption) ?_
    · (try dsimp only at hSw)
      go_simp
    try simp only [Act.put, List.setIfInBounds_toArray, List.set_cons_zero, List.set_cons_succ]
    refine wpAnyH_ready (rs := [12]) (by kernel_rfl) (by simp) ?_
    refine AllReadyH.cons (o := { dst := some 5, op := Op.assign (Operand.tmp 32), type := 45, pos := "law.go:30", after := #[{ on := 9, ground := Ground.data }, { on := 7, ground := Ground.chain }, { on := 0, ground := Ground.phase }, { on := 1, ground := Ground.phase }, { on := 2, ground := Ground.phase }, { on := 3, ground := Ground.phase }, { on := 4, ground := Ground.phase }, { on := 5, ground := Ground.phase }, { on := 6, ground := Ground.phase }, { on := 7, ground := Ground.phase }, { on := 8, ground := Ground.phase }, { on := 9, ground := Ground.phase }, { on := 10, ground := Ground.textOnly Departure.lateStores }, { on := 11, ground := Ground.textOnly Departure.lateStores }], guard := none }) rfl (fun K hK => ?_) AllReadyH.nil
    go_simp
    refine hK.out _ _ ?_ (fun hHeld => ?_)
    · exact ⟨hcxc, hrvc⟩
    clear hK K
    try simp only [Act.put, List.setIfInBounds_toArray, List.set_cons_zero, List.set_cons_succ]
    refine wpAnyH_ready (rs := [13]) (by kernel_rfl) (by simp) ?_
    refine AllReadyH.cons (o := { dst := some 6, op := Op.assign (Operand.tmp 33), type := 3, pos := "law.go:30", after := #[{ on := 10, ground := Ground.data }, { on := 12, ground := Ground.chain }, { on := 0, ground := Ground.phase }, { on := 1, ground := Ground.phase }, { on := 2, ground := Ground.phase }, { on := 3, ground := Ground.phase }, { on := 4, ground := Ground.phase }, { on := 5, ground := Ground.phase }, { on := 6, ground := Ground.phase }, { on := 7, ground := Ground.phase }, { on := 8, ground := Ground.phase }, { on := 9, ground := Ground.phase }, { on := 10, ground := Ground.phase }, { on := 11, ground := Ground.textOnly Departure.lateStores }, { on := 12, ground := Ground.phase }], guard := none }) rfl (fun K hK => ?_) AllReadyH.nil
    go_simp
    refine hK.out _ _ ?_ (fun hHeld => ?_)
    · exact ⟨hcxc, hrvc⟩
    clear hK K
    try simp only [Act.put, List.setIfInBounds_toArray, List.set_cons_zero, List.set_cons_succ]
    refine wpAnyH_ready (rs := [14]) (by kernel_rfl) (by simp) ?_
    refine AllReadyH.cons (o := { dst := some 7, op := Op.assign (Operand.tmp 34), type := 4, pos := "law.go:30", after := #[{ on := 11, ground := Ground.data }, { on := 13, ground := Ground.chain }, { on := 0, ground := Ground.phase }, { on := 1, ground := Ground.phase }, { on := 2, ground := Ground.phase }, { on := 3, ground := Ground.phase }, { on := 4, ground := Ground.phase }, { on := 5, ground := Ground.phase }, { on := 6, ground := Ground.phase }, { on := 7, ground := Ground.phase }, { on := 8, ground := Ground.phase }, { on := 9, ground := Ground.phase }, { on := 10, ground := Ground.phase }, { on := 11, ground := Ground.phase }, { on := 12, ground := Ground.phase }, { on := 13, ground := Ground.phase }], guard := none }) rfl (fun K hK => ?_) AllReadyH.nil
    go_simp
    refine hK.out _ _ ?_ (fun hHeld => ?_)
    · exact ⟨hcxc, hrvc⟩
    clear hK K
    try simp only [Act.put, List.setIfInBounds_toArray, List.set_cons_zero, List.set_cons_succ]
    refine wpAnyH_done (by kernel_rfl) ?_ _
    refine NoPanic.normal ?_
    clear hcxc hcxb hcx3 hrv3
    go_wp2_with fail
    refine (snap_v 4 2 ⟨#[49, 50]⟩ ⟨#[100]⟩ q kc (by decide) (by decide) (tbl_keep HT.out HB7.out) HQ.out).mono ?_
    rintro e kd ⟨vd, rfl, hod, hbd⟩
    have HB8 := Lib.hid (HB7.out.trans (hbd.mono HB7.out.size))
    have HOD := Lib.hid hod
    have hrvd : kd.cell? ⟨rb, 2, none⟩ = some (.int .i64 2) := (hbd.cell (p := ⟨rb, 2, none⟩) (cell_lt hrvc)).trans hrvc
    clear hod hbd
    go_wp2_with fail
    refine (wget_v vd _ q kd (Byt.of_own HOD.out) (Nat.le_refl _) (by rw [HM.out]; omega) (tbl_keep HT.out HB8.out) _ _ _ _ _ _ hget).mono ?_
    rintro e ke ⟨rfl, hbe⟩
    have HB9 := Lib.hid (HB8.out.trans (hbe.mono HB8.out.size))
    have hrve : ke.cell? ⟨rb, 2, none⟩ = some (.int .i64 2) := (hbe.cell (p := ⟨rb, 2, none⟩) (cell_lt hrvd)).trans hrvd
    have hrbe := cell_lt hrve
    clear hbe
    have hm1 : (0 : Int) < m := by omega
    go_wp2
    go_ret
    exact ⟨rfl, by first | exact HB9.out | exact HB9.out.alloc HB9.out.size _ | exact (HB9.out.alloc HB9.out.size _).alloc (by simp; have := HB9.out.size; omega) _⟩
end Go.Proofs.YtdigpeipklfaeaaDoor
/-
  A function returns what the plain functions say: L1Cut.
-/
set_option linter.unusedSimpArgs false
set_option linter.unusedVariables false
namespace Go.Proofs.YtdigpeipklfaeaaDoor
open Go.RowKit
set_option maxRecDepth 100000

theorem lcut_any (s : ByteArray) (n : Int) (w : World) (h0 : 0 ≤ n) (h1 : n ≤ 1000000) :
    Calls Tryd.prog 24 #[.string s, .int .i64 n] w (Some n w) := by
  obtain ⟨k, rfl⟩ := Int.eq_ofNat_of_zero_le h0
  by_cases h : k < s.size
  · go_enter Tryd.func24, Tryd.ntmps24
    go_wp2
    go_ret
    exact ⟨_, by rw [ByteArray.size_extract]; omega, rfl, rfl⟩
  · go_enter Tryd.func24, Tryd.ntmps24
    go_wp2
    go_ret
    exact ⟨s, by omega, rfl, rfl⟩
/-- the first bytes of a text -/
def cutS (s : ByteArray) (n : Nat) : ByteArray := if n < s.size then s.extract 0 n else s
theorem cutS_size (s : ByteArray) (n : Nat) : (cutS s n).size ≤ n := by
  unfold cutS; split
  · rw [ByteArray.size_extract]; omega
  · omega
theorem lcut_to (s t : ByteArray) (k : Nat) (w : World) (h1 : k ≤ 1000000) (ht : cutS s k = t) :
    Calls Tryd.prog 24 #[.string s, .int .i64 k] w fun e w' => e = .returned (.string t) ∧ w = w' := by
  subst ht
  by_cases h : k < s.size
  · have hc : cutS s k = s.extract 0 k := if_pos h
    have HC := Lib.hid hc; clear hc
    go_enter Tryd.func24, Tryd.ntmps24
    go_wp2
    go_ret
    exact ⟨by rw [HC.out]; rfl, rfl⟩
  · have hc : cutS s k = s := if_neg h
    have HC := Lib.hid hc; clear hc
    go_enter Tryd.func24, Tryd.ntmps24
    go_wp2
    go_ret
    exact ⟨by rw [HC.out]; rfl, rfl⟩
end Go.Proofs.YtdigpeipklfaeaaDoor
/-
  What the statements cut their values and bytes to: some value of the same kind and number with a text of at most 220 bytes; the first bytes.
  There are no conditions beyond those that each lemma names.
-/
set_option linter.unusedSimpArgs false
set_option linter.unusedVariables false
namespace Go.Proofs.YtdigpeipklfaeaaDoor
open Go.RowKit
set_option maxRecDepth 100000

/-- a value whose text has been cut -/
def CutR (r : Raw) (w : World) (e : Ending) (w' : World) : Prop := ∃ t : ByteArray, (t.size : Int) ≤ 220 ∧ e = .returned (Raw.mk r.kind r.n t).val ∧ Below w.heap.size w w'
/-- the first bytes -/
def Sh (B : Nat) (l : List UInt8) (m : Nat) (w : World) (e : Ending) (w' : World) : Prop := ∃ A c, e = .returned (.slice A (l.take m).length c) ∧ Byt w B (.slice A (l.take m).length c) (l.take m) ∧ w = w'
set_option maxRecDepth 100000 in
set_option maxHeartbeats 1000000 in
theorem short_any (A : Option Addr) (n c B m : Nat) (l : List UInt8) (w : World) (h : Byt w B (.slice A n c) l) (hm : m ≤ 1000000) :
    Calls Tryd.prog 20 #[.slice A n c, .int .i64 m] w (Sh B l m w) := by
  obtain ⟨A', c', hv, hc, hcell⟩ := id h
  injection hv with e1 e2 e3; subst e1; subst e3; subst e2
  have HB := Lib.hid h; clear h
  have HC := Lib.hid hcell; clear hcell
  by_cases hlt : m < l.length
  · obtain ⟨g, o, rfl, hg, hcs⟩ := HC.out (by omega)
    go_enter Tryd.func20, Tryd.ntmps20
    go_wp2
    go_ret
    have e : (l.take m).length = m := by rw [List.length_take]; omega
    refine ⟨some ⟨g, o, none⟩, c, by rw [e]; rfl, ?_, rfl⟩
    refine ⟨_, c, rfl, by omega, fun hn => ⟨g, o, rfl, hg, fun k hk => ?_⟩⟩
    rw [e] at hk
    rw [hcs k (by omega)]; simp
  · go_enter Tryd.func20, Tryd.ntmps20
    go_wp2
    go_ret
    have e : l.take m = l := List.take_of_length_le (by omega)
    refine ⟨A, c, by rw [e]; rfl, ?_, rfl⟩
    rw [e]; exact HB.out
end Go.Proofs.YtdigpeipklfaeaaDoor
/-
  Stage 10's laws cut a record's text, and turn records to the program's and back.
  There are no conditions.
-/
namespace Go.Proofs.YtdigpeipklfaeaaDoor
open Go.RowKit
set_option maxRecDepth 100000

theorem eqEnt10_self (e : Ent) : eqEnt10 e e = true := by unfold eqEnt10; simp
theorem eq10_self (r : Rcd) : eq10 r r = true := by unfold eq10; rw [eqEnt10_self]; simp
set_option maxHeartbeats 1000000 in
theorem cut10_any (hd : Bool) (ht hv ix et kd : Int) (dt : ByteArray) (w : World) :
    Calls Tryd.prog 11 #[.agg #[.bool hd, .int .i64 ht, .int .i64 hv, .int .i64 ix, .int .i64 et, .int .i64 kd, .string dt]] w fun e w' => e = .returned (.agg #[.bool hd, .int .i64 ht, .int .i64 hv, .int .i64 ix, .int .i64 et, .int .i64 kd, .string (cutS dt 300)]) ∧ Below w.heap.size w w' := by
  obtain ⟨q, hq⟩ : ∃ q, cutS dt 300 = q := ⟨_, rfl⟩
  rw [hq]
  have hlc := fun W => lcut_to dt q 300 W (by omega) hq
  clear hq
  go_enter Tryd.func11, Tryd.ntmps11
  go_wp2_with fail
  refine (hlc _).mono ?_
  rintro e w' ⟨rfl, rfl⟩
  go_wp2
  refine body_world10 (fun W => Below w.heap.size w W ∧ Rt W (w.heap.size + 1) 27 [.bool hd, .int .i64 ht, .int .i64 hv, .int .i64 ix, .int .i64 et, .int .i64 kd, .string q]) ⟨below_two _ _ _, Rt.new_at _ _ _ [.bool hd, .int .i64 ht, .int .i64 hv, .int .i64 ix, .int .i64 et, .int .i64 kd, .string q] (by simp)⟩ ?_
  rintro W ⟨hb, hx⟩
  have d0 := hx.cell (j := 0) rfl
  have d1 := hx.cell (j := 1) rfl
  have d2 := hx.cell (j := 2) rfl
  have d3 := hx.cell (j := 3) rfl
  have d4 := hx.cell (j := 4) rfl
  have d5 := hx.cell (j := 5) rfl
  have d6 := hx.cell (j := 6) rfl
  exact bodyPost_ret (v := .agg #[.bool hd, .int .i64 ht, .int .i64 hv, .int .i64 ix, .int .i64 et, .int .i64 kd, .string q]) (by simp [results, Tryd.results11, go_sem, d0, d1, d2, d3, d4, d5, d6]) rfl ⟨rfl, hb⟩
theorem of10_any (hd : Bool) (ht hv ix et kd : Int) (dt : ByteArray) (w : World) :
    Calls Tryd.prog 13 #[.agg #[.bool hd, .int .i64 ht, .int .i64 hv, .int .i64 ix, .int .i64 et, .int .i64 kd, .string dt]] w fun e w' => e = .returned (.agg #[.bool hd, .int .i64 ht, .int .i64 hv, .int .i64 ix, .int .i64 et, .int .i64 kd, .string dt]) ∧ Below w.heap.size w w' := by
  go_enter Tryd.func13, Tryd.ntmps13
  go_wp2
  refine body_world10 (fun W => Below w.heap.size w W ∧ Rt W (w.heap.size + 1) 32 [.bool hd, .int .i64 ht, .int .i64 hv, .int .i64 ix, .int .i64 et, .int .i64 kd, .string dt]) ⟨below_two _ _ _, Rt.new_at _ _ _ [.bool hd, .int .i64 ht, .int .i64 hv, .int .i64 ix, .int .i64 et, .int .i64 kd, .string dt] (by simp)⟩ ?_
  rintro W ⟨hb, hx⟩
  have d0 := hx.cell (j := 0) rfl
  have d1 := hx.cell (j := 1) rfl
  have d2 := hx.cell (j := 2) rfl
  have d3 := hx.cell (j := 3) rfl
  have d4 := hx.cell (j := 4) rfl
  have d5 := hx.cell (j := 5) rfl
  have d6 := hx.cell (j := 6) rfl
  exact bodyPost_ret (v := .agg #[.bool hd, .int .i64 ht, .int .i64 hv, .int .i64 ix, .int .i64 et, .int .i64 kd, .string dt]) (by simp [results, Tryd.results13, go_sem, d0, d1, d2, d3, d4, d5, d6]) rfl ⟨rfl, hb⟩
theorem back10_any (hd : Bool) (ht hv ix et kd : Int) (dt : ByteArray) (w : World) :
    Calls Tryd.prog 19 #[.agg #[.bool hd, .int .i64 ht, .int .i64 hv, .int .i64 ix, .int .i64 et, .int .i64 kd, .string dt]] w fun e w' => e = .returned (.agg #[.bool hd, .int .i64 ht, .int .i64 hv, .int .i64 ix, .int .i64 et, .int .i64 kd, .string dt]) ∧ Below w.heap.size w w' := by
  go_enter Tryd.func19, Tryd.ntmps19
  go_wp2
  refine body_world10 (fun W => Below w.heap.size w W ∧ Rt W (w.heap.size + 1) 27 [.bool hd, .int .i64 ht, .int .i64 hv, .int .i64 ix, .int .i64 et, .int .i64 kd, .string dt]) ⟨below_two _ _ _, Rt.new_at _ _ _ [.bool hd, .int .i64 ht, .int .i64 hv, .int .i64 ix, .int .i64 et, .int .i64 kd, .string dt] (by simp)⟩ ?_
  rintro W ⟨hb, hx⟩
  have d0 := hx.cell (j := 0) rfl
  have d1 := hx.cell (j := 1) rfl
  have d2 := hx.cell (j := 2) rfl
  have d3 := hx.cell (j := 3) rfl
  have d4 := hx.cell (j := 4) rfl
  have d5 := hx.cell (j := 5) rfl
  have d6 := hx.cell (j := 6) rfl
  exact bodyPost_ret (v := .agg #[.bool hd, .int .i64 ht, .int .i64 hv, .int .i64 ix, .int .i64 et, .int .i64 kd, .string dt]) (by simp [results, Tryd.results19, go_sem, d0, d1, d2, d3, d4, d5, d6]) rfl ⟨rfl, hb⟩
end Go.Proofs.YtdigpeipklfaeaaDoor
/-
  How a law's arguments that are records, a row of them, or a snapshot are opened.
  There are no conditions.
-/
namespace Go.Proofs.YtdigpeipklfaeaaDoor
open Go.RowKit Go.WideShapes Go.ChangeShapes Go.Joins Go.Deep
set_option maxRecDepth 100000

def I64b (a : Int) : Prop := -9223372036854775808 ≤ a ∧ a ≤ 9223372036854775807
theorem i64b_wf {a : Int} (h : (Lit.int .i64 a).wf = true) : I64b a := by
  have := bounds_i64 h; unfold I64b; omega
def Rcd.fit (r : Rcd) : Prop := I64b r.ht ∧ I64b r.hv ∧ I64b r.e.ix ∧ I64b r.e.et ∧ I64b r.e.kd ∧ r.e.data.size ≤ maxLen
def Snp.fit (s : Snp) : Prop := I64b s.ix ∧ I64b s.st ∧ s.conf.size ≤ maxLen ∧ s.data.size ≤ maxLen
/-- a slice value of records; its cells lie below block B -/
def Rcds (w : World) (B : Nat) (v : Value) (L : List Rcd) : Prop :=
  ∃ A c, v = .slice A L.length c ∧ L.length ≤ c ∧ (0 < L.length → ∃ g o, A = some ⟨g, o, Option.none⟩ ∧ g < B ∧ ∀ k (h : k < L.length), w.rangeAt g (o + k * 7) L[k].cs)
theorem Tryd.cellsRcd10 : Tryd.prog.cellsOf 27 = 7 := by kernel_rfl
theorem Tryd.cellsHard10 : Tryd.prog.cellsOf 23 = 2 := by kernel_rfl
theorem Tryd.cellsEntry10 : Tryd.prog.cellsOf 25 = 4 := by kernel_rfl
theorem Tryd.cellsSnap10 : Tryd.prog.cellsOf 55 = 4 := by kernel_rfl
theorem Tryd.cellsInt10 : Tryd.prog.cellsOf 3 = 1 := by kernel_rfl
theorem Tryd.cellsInt6410 : Tryd.prog.cellsOf 2 = 1 := by kernel_rfl
theorem Tryd.cellsString10 : Tryd.prog.cellsOf 9 = 1 := by kernel_rfl
theorem Tryd.cellsBool10 : Tryd.prog.cellsOf 4 = 1 := by kernel_rfl
theorem cell_in10 {w : World} {a : Addr} {v : Value} (h : w.cell? a = some v) : a.block < w.heap.size := cell_lt h
section
variable {H : Type} {enc : TypeId × Value → H} {w : World} {base : Nat} {spare : Nat → Bool} {held : Bool}
theorem trod_struct4_10 {P : Program} {t : TypeId} {f0 f1 f2 f3 : Field} {fuel : Nat} {cs : List Value} {x : DataW H × List MemPlace} (ht : P.underlying t = some (.struct #[f0, f1, f2, f3])) (h : DataW.trod enc P w base spare held fuel t cs = some x) :
    ∃ y0 y1 y2 y3 n, cs.length = P.cellsOf t ∧ DataW.trod enc P w base spare held n f0.type ((cs.drop f0.offset).take (P.cellsOf f0.type)) = some y0 ∧
      DataW.trod enc P w base spare held n f1.type ((cs.drop f1.offset).take (P.cellsOf f1.type)) = some y1 ∧ DataW.trod enc P w base spare held n f2.type ((cs.drop f2.offset).take (P.cellsOf f2.type)) = some y2 ∧
      DataW.trod enc P w base spare held n f3.type ((cs.drop f3.offset).take (P.cellsOf f3.type)) = some y3 := by
  obtain ⟨xs, n, _, rfl, hl, hlen, hf⟩ := DataW.trod_struct ht h
  match xs, hlen with
  | [y0, y1, y2, y3], _ => exact ⟨y0, y1, y2, y3, n, hl, by simpa using hf 0 f0 rfl, by simpa using hf 1 f1 rfl, by simpa using hf 2 f2 rfl, by simpa using hf 3 f3 rfl⟩
theorem trod_struct2_10 {P : Program} {t : TypeId} {f0 f1 : Field} {fuel : Nat} {cs : List Value} {x : DataW H × List MemPlace} (ht : P.underlying t = some (.struct #[f0, f1])) (h : DataW.trod enc P w base spare held fuel t cs = some x) :
    ∃ y0 y1 n, cs.length = P.cellsOf t ∧ DataW.trod enc P w base spare held n f0.type ((cs.drop f0.offset).take (P.cellsOf f0.type)) = some y0 ∧
      DataW.trod enc P w base spare held n f1.type ((cs.drop f1.offset).take (P.cellsOf f1.type)) = some y1 := by
  obtain ⟨xs, n, _, rfl, hl, hlen, hf⟩ := DataW.trod_struct ht h
  match xs, hlen with
  | [y0, y1], _ => exact ⟨y0, y1, n, hl, by simpa using hf 0 f0 rfl, by simpa using hf 1 f1 rfl⟩
theorem trod_struct3_10 {P : Program} {t : TypeId} {f0 f1 f2 : Field} {fuel : Nat} {cs : List Value} {x : DataW H × List MemPlace} (ht : P.underlying t = some (.struct #[f0, f1, f2])) (h : DataW.trod enc P w base spare held fuel t cs = some x) :
    ∃ y0 y1 y2 n, cs.length = P.cellsOf t ∧ DataW.trod enc P w base spare held n f0.type ((cs.drop f0.offset).take (P.cellsOf f0.type)) = some y0 ∧
      DataW.trod enc P w base spare held n f1.type ((cs.drop f1.offset).take (P.cellsOf f1.type)) = some y1 ∧ DataW.trod enc P w base spare held n f2.type ((cs.drop f2.offset).take (P.cellsOf f2.type)) = some y2 := by
  obtain ⟨xs, n, _, rfl, hl, hlen, hf⟩ := DataW.trod_struct ht h
  match xs, hlen with
  | [y0, y1, y2], _ => exact ⟨y0, y1, y2, n, hl, by simpa using hf 0 f0 rfl, by simpa using hf 1 f1 rfl, by simpa using hf 2 f2 rfl⟩
theorem hard_cells {fuel : Nat} {cs : List Value} {x : DataW H × List MemPlace} (h : DataW.trod enc Tryd.prog w base spare held fuel 23 cs = some x) : ∃ a b, cs = [.int .i64 a, .int .i64 b] ∧ I64b a ∧ I64b b := by
  obtain ⟨y0, y1, n, hl, h0, h1⟩ := trod_struct2_10 Tryd.underlying23 h
  rw [Tryd.cellsHard10] at hl
  match cs, hl with
  | [c0, c1], _ =>
    simp only [Tryd.cellsInt10, Tryd.cellsInt6410, List.drop_zero, List.drop_succ_cons, List.take_succ_cons, List.take_zero] at h0 h1
    obtain ⟨a, e0, _, wa⟩ := DataW.trod_int Tryd.underlying2 h0
    obtain ⟨b, e1, _, wb⟩ := DataW.trod_int Tryd.underlying3 h1
    simp only [List.cons.injEq, and_true] at e0 e1
    subst e0; subst e1
    exact ⟨a, b, rfl, i64b_wf wa, i64b_wf wb⟩
theorem entry_cells {fuel : Nat} {cs : List Value} {x : DataW H × List MemPlace} (h : DataW.trod enc Tryd.prog w base spare held fuel 25 cs = some x) : ∃ a b c s, cs = [.int .i64 a, .int .i64 b, .int .i64 c, .string s] ∧ I64b a ∧ I64b b ∧ I64b c ∧ s.size ≤ maxLen := by
  obtain ⟨y0, y1, y2, y3, n, hl, h0, h1, h2, h3⟩ := trod_struct4_10 Tryd.underlying25 h
  rw [Tryd.cellsEntry10] at hl
  match cs, hl with
  | [c0, c1, c2, c3], _ =>
    simp only [Tryd.cellsInt10, Tryd.cellsInt6410, Tryd.cellsString10, List.drop_zero, List.drop_succ_cons, List.take_succ_cons, List.take_zero] at h0 h1 h2 h3
    obtain ⟨a, e0, _, wa⟩ := DataW.trod_int Tryd.underlying2 h0
    obtain ⟨b, e1, _, wb⟩ := DataW.trod_int Tryd.underlying2 h1
    obtain ⟨c, e2, _, wc⟩ := DataW.trod_int Tryd.underlying3 h2
    obtain ⟨s, e3, _, ws⟩ := DataW.trod_string Tryd.underlying9 h3
    simp only [List.cons.injEq, and_true] at e0 e1 e2 e3
    subst e0; subst e1; subst e2; subst e3
    exact ⟨a, b, c, s, rfl, i64b_wf wa, i64b_wf wb, i64b_wf wc, ws⟩
theorem rcd_cells {fuel : Nat} {cs : List Value} {x : DataW H × List MemPlace} (h : DataW.trod enc Tryd.prog w base spare held fuel 27 cs = some x) : ∃ r : Rcd, cs = r.cs ∧ r.fit := by
  obtain ⟨y0, y1, y2, n, hl, h0, h1, h2⟩ := trod_struct3_10 Tryd.underlying27 h
  rw [Tryd.cellsRcd10] at hl
  match cs, hl with
  | [c0, c1, c2, c3, c4, c5, c6], _ =>
    simp only [Tryd.cellsBool10, Tryd.cellsHard10, Tryd.cellsEntry10, List.drop_zero, List.drop_succ_cons, List.take_succ_cons, List.take_zero] at h0 h1 h2
    obtain ⟨b, e0, _⟩ := DataW.trod_bool Tryd.underlying4 h0
    obtain ⟨ht, hv, e1, w1, w2⟩ := hard_cells h1
    obtain ⟨ix, et, kd, dt, e2, w3, w4, w5, w6⟩ := entry_cells h2
    simp only [List.cons.injEq, and_true] at e0 e1 e2
    obtain ⟨rfl, rfl⟩ := e1
    obtain ⟨rfl, rfl, rfl, rfl⟩ := e2
    subst e0
    exact ⟨⟨b, ht, hv, ⟨ix, et, kd, dt⟩⟩, rfl, w1, w2, w3, w4, w5, w6⟩
theorem snp_cells {fuel : Nat} {cs : List Value} {x : DataW H × List MemPlace} (h : DataW.trod enc Tryd.prog w base spare held fuel 55 cs = some x) : ∃ s : Snp, cs = [.int .i64 s.ix, .int .i64 s.st, .string s.conf, .string s.data] ∧ s.fit := by
  obtain ⟨y0, y1, y2, y3, n, hl, h0, h1, h2, h3⟩ := trod_struct4_10 Tryd.underlying55 h
  rw [Tryd.cellsSnap10] at hl
  match cs, hl with
  | [c0, c1, c2, c3], _ =>
    simp only [Tryd.cellsInt6410, Tryd.cellsString10, List.drop_zero, List.drop_succ_cons, List.take_succ_cons, List.take_zero] at h0 h1 h2 h3
    obtain ⟨a, e0, _, wa⟩ := DataW.trod_int Tryd.underlying2 h0
    obtain ⟨b, e1, _, wb⟩ := DataW.trod_int Tryd.underlying2 h1
    obtain ⟨c, e2, _, wc⟩ := DataW.trod_string Tryd.underlying9 h2
    obtain ⟨s, e3, _, ws⟩ := DataW.trod_string Tryd.underlying9 h3
    simp only [List.cons.injEq, and_true] at e0 e1 e2 e3
    subst e0; subst e1; subst e2; subst e3
    exact ⟨⟨a, b, c, s⟩, rfl, i64b_wf wa, i64b_wf wb, wc, ws⟩
end
section
variable {H : Type} {enc : TypeId × Value → H} {W : World} {base b0 : Nat} {sp : Nat → Bool} {hd : Bool} {r : Reach} {v : Value} {d : DataW H} {p : List MemPlace}
theorem open_rcd (hv : Value.okWide Tryd.prog W r b0 27 v) (h : DataW.Trod enc Tryd.prog W base sp hd 27 v d p) : ∃ x : Rcd, v = x.val ∧ x.fit := by
  obtain ⟨cs, rfl, hsz⟩ := okWide_struct Tryd.underlying27 hv
  obtain ⟨fuel, hf⟩ := h
  obtain ⟨x, hx, hfit⟩ := rcd_cells hf
  have hx2 : cs.toList = x.cs := by simpa [Value.cells] using hx
  exact ⟨x, by unfold Rcd.val; congr 1; apply Array.toList_inj.1; rw [hx2]; rfl, hfit⟩
theorem open_snp (hv : Value.okWide Tryd.prog W r b0 55 v) (h : DataW.Trod enc Tryd.prog W base sp hd 55 v d p) : ∃ x : Snp, v = x.val ∧ x.fit := by
  obtain ⟨cs, rfl, hsz⟩ := okWide_struct Tryd.underlying55 hv
  obtain ⟨fuel, hf⟩ := h
  obtain ⟨x, hx, hfit⟩ := snp_cells hf
  have hx2 : cs.toList = [.int .i64 x.ix, .int .i64 x.st, .string x.conf, .string x.data] := by simpa [Value.cells] using hx
  exact ⟨x, by unfold Snp.val; congr 1; apply Array.toList_inj.1; rw [hx2], hfit⟩
theorem open_rcds (hv : Value.okWide Tryd.prog W r b0 43 v) (h : DataW.Trod enc Tryd.prog W 0 (fun _ => true) true 43 v d p) :
    ∃ (A : Option Addr) (c : Nat) (L : List Rcd), v = .slice A L.length c ∧ Rcds W W.heap.size (.slice A L.length c) L ∧ ∀ b ∈ L, b.fit := by
  obtain ⟨a0, len, cap, rfl⟩ := okWide_slice Tryd.underlying43 hv
  obtain ⟨fuel, hf⟩ := h
  have hf2 : DataW.trod enc Tryd.prog W 0 (fun _ => true) true fuel 43 [.slice a0 len cap] = some (d, p) := by simpa [Value.cells] using hf
  rcases open_slice Tryd.underlying43 hf2 with ⟨hcs, _⟩ | ⟨a, len', cap', m, n, D, Pl, hcs, _, hl, hm, hmm, _, hx⟩
  · simp only [List.cons.injEq, and_true] at hcs
    injection hcs with e1 e2 e3
    subst e1; subst e2; subst e3
    exact ⟨none, 0, [], rfl, ⟨none, 0, rfl, Nat.le_refl _, fun h => absurd h (by decide)⟩, fun x hx => by cases hx⟩
  · simp only [List.cons.injEq, and_true] at hcs
    injection hcs with e1 e2 e3
    subst e1; subst e2; subst e3
    simp only [if_true] at hmm
    subst hmm
    rw [Tryd.cellsRcd10] at hx
    have hz : Inhabited Rcd := ⟨zRcd⟩
    obtain ⟨f, hf⟩ := choose_lt (α := Rcd) (p := fun i b => W.cells? 0 (a.add (i * 7)) 7 = some b.cs ∧ b.fit) (fun i (hi : i < len) => by
      obtain ⟨cs', h1, h2⟩ := hx i (by omega)
      obtain ⟨b, rfl, h4⟩ := rcd_cells h2
      exact ⟨b, h1, h4⟩)
    have hln : ((List.range len).map f).length = len := by simp
    refine ⟨some a, m, (List.range len).map f, by rw [hln], ?_, fun x hx => ?_⟩
    · refine ⟨some a, m, rfl, by rw [hln]; exact hl, fun h0 => ?_⟩
      rw [hln] at h0
      obtain ⟨hc0, _⟩ := hf 0 h0
      obtain ⟨_, hl0, hcc⟩ := World.cells?_some hc0
      have hc := hcc 0 (by decide)
      obtain ⟨g, o, spot⟩ := a
      have hspot : spot = Option.none := by simpa [Addr.add] using World.cell?_spot hc
      subst hspot
      refine ⟨g, o, rfl, ?_, fun k hk => ?_⟩
      · have := cell_in10 hc; simpa [Addr.add] using this
      · rw [hln] at hk
        obtain ⟨h1, h3⟩ := hf k hk
        have e : ((List.range len).map f)[k]'(by rw [hln]; exact hk) = f k := by simp
        rw [e]
        refine fun j v hj => ?_
        obtain ⟨_, hli, hci⟩ := World.cells?_some h1
        have hj3 : j < 7 := (List.getElem?_eq_some_iff.1 hj).1
        have e2 : ((⟨g, o, Option.none⟩ : Addr).add (k * 7)).add j = ⟨g, o + k * 7 + j, Option.none⟩ := by
          rw [add_add]; unfold Addr.add; split
          · have h0 : k * 7 + j = 0 := by assumption
            have : o + k * 7 + j = o := by omega
            rw [this]
          · show (⟨g, o + (k * 7 + j), _⟩ : Addr) = _
            rw [Nat.add_assoc]
        rw [← e2, hci j hj3]; exact hj
    · obtain ⟨i, hi, rfl⟩ := List.mem_map.1 hx
      obtain ⟨h1, h3⟩ := hf i (List.mem_range.1 hi)
      exact h3
end
theorem Rcds.below {w w' : World} {B C : Nat} {v : Value} {L : List Rcd} (h : Rcds w B v L) (hb : Below C w w') (hC : B ≤ C) : Rcds w' B v L := by
  obtain ⟨A, c, hv, hc, h⟩ := h
  refine ⟨A, c, hv, hc, fun hn => ?_⟩
  obtain ⟨g, o, hA, hg, hcs⟩ := h hn
  exact ⟨g, o, hA, hg, fun k hk j z hj => (hb.cell (p := ⟨g, o + k * 7 + j, Option.none⟩) (Nat.lt_of_lt_of_le hg hC)).trans (hcs k hk j z hj)⟩
theorem Rcds.at_ {w : World} {B n c : Nat} {A : Option Addr} {L : List Rcd} (h : Rcds w B (.slice A n c) L) (k : Nat) (hk : k < L.length) : ∃ g o, A = some ⟨g, o, Option.none⟩ ∧ g < B ∧ w.rangeAt g (o + k * 7) L[k].cs := by
  obtain ⟨A', c', hv, _, h⟩ := h
  injection hv with e1 e2 e3
  subst e1
  obtain ⟨g, o, rfl, hg, hcs⟩ := h (by omega)
  exact ⟨g, o, rfl, hg, hcs k hk⟩
end Go.Proofs.YtdigpeipklfaeaaDoor
