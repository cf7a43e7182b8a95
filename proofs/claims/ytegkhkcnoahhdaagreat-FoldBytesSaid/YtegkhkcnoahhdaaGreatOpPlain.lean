/- The reference's PutRaw writes a value's kind, and its number or text, in new memory. -/
import Derived.Test.YtegkhkcnoahhdaaGreatRePut
import Derived.Test.YtegkhkcnoahhdaaGreatReDocSet
import Derived.Deep.RegionHeld3
set_option linter.unusedSimpArgs false
set_option linter.unusedVariables false
namespace Go.Proofs.YtegkhkcnoahhdaaGreat
open Lib (hid)
open Go.RowKit
set_option maxRecDepth 100000
def putR (r : Raw) : List UInt8 := Nu.put r.kind ++ (if r.kind = 1 then Nu.put r.n else if r.kind = 2 then Nu.putT r.s.data.toList else [])
def Raw.ok (r : Raw) : Prop := (-9223372036854775808 ≤ r.kind ∧ r.kind ≤ 9223372036854775807) ∧ (-9223372036854775808 ≤ r.n ∧ r.n ≤ 9223372036854775807) ∧ r.s.size ≤ 1000000
theorem made_app {l m : List UInt8} {w w' : World} {v : Value} (hown : w'.ownsRow w.heap.size 5 1 v (l.length + m.length) (Lib.byteCells l ++ Lib.byteCells m)) (hb : Below w.heap.size w w') : Made (l ++ m) w (.returned v) w' :=
 ⟨v, rfl, by unfold OwnB; rw [List.length_append, Lib.byteCells_append]; exact hown, hb⟩
theorem putT_len (s : ByteArray) : (Nu.putT s.data.toList).length ≤ s.size + 10 := by
 have h1 := Nu.put_len (s.data.toList.length : Int)
 unfold Nu.putT; rw [List.length_append]
 have e : s.data.toList.length = s.size := by rw [Array.length_toList]; rfl
 omega
theorem putT_ne (l : List UInt8) : 1 ≤ (Nu.putT l).length := by
 have h1 := Nu.put_ne (l.length : Int); unfold Nu.putT; rw [List.length_append]; omega
set_option maxRecDepth 100000 in
set_option maxHeartbeats 4000000 in
theorem rputRaw_any (r : Raw) (w : World) (hr : r.ok) : Calls Tryz.prog 68 #[r.val] w (Made (putR r) w) := by
 obtain ⟨iR, hiR, hzR0, hzR1, hzR2⟩ := info_parts Tryz.infoU8
 obtain ⟨k, n, t⟩ := r
 obtain ⟨⟨hk0, hk1⟩, ⟨hn0, hn1⟩, hs⟩ := hr
 simp only at hk0 hk1 hn0 hn1 hs
 unfold Raw.val
 have hkl := Nu.put_len k
 by_cases h1 : k = 1
 ·subst h1
  have hp : putR ⟨1, n, t⟩ = Nu.put 1 ++ Nu.put n := by unfold putR; simp
  have hnl := Nu.put_len n
  have HP := hid hp; clear hp
  go_enter Tryz.func68, Tryz.ntmps68
  go_wp2_with fail
  refine (rput_any _ _ hk0 hk1).mono ?_
  rintro e w1 ⟨v, rfl, hown, hb⟩
  have c0 : w1.cell? ⟨w.heap.size, 0, none⟩ = some (.int .i64 1) := (hb.cell (p := ⟨w.heap.size, 0, none⟩) (by simp)).trans (World.cell?_alloc_mark w _ _ _ 0)
  have c1 : w1.cell? ⟨w.heap.size, 1, none⟩ = some (.int .i64 n) := (hb.cell (p := ⟨w.heap.size, 1, none⟩) (by simp)).trans (World.cell?_alloc_mark w _ _ _ 1)
  have hown := hown.down (B := w.heap.size) (by simp)
  have hbw : Below w.heap.size w w1 := (below_one w _).trans (hb.mono (by simp))
  clear hb
  go_wp2_with fail
  refine (rput_any _ _ hn0 hn1).mono ?_
  rintro e w2 ⟨v2, rfl, hown2, hb2⟩
  obtain ⟨g, c, rfl, hg, hcells⟩ := hown2.at_ (Nu.put_ne n)
  have hown := hown.below hb2
  have hbw := hbw.trans (hb2.mono hbw.size)
  have hB := hbw.size
  clear hown2 hb2 c0 c1
  go_wp2_with (at_builtin; refine wpList_append_own _ rfl (.tmp 11) (.tmp 14) 50 rfl w.heap.size 5 iR (.int .u8 0) 1 1 Tryz.underlying50 hiR hzR0 hzR1 hzR2 rfl (by decide) _ _ _ rfl hown ⟨g, 0, none⟩ (Nu.put n).length c (Lib.byteCells (Nu.put n)) rfl (by rw [Lib.byteCells_length, Nat.mul_one]) hcells (byteCells_one _) ?c3 ?c4 hB ?_)
  case c3 => unfold maxLen; omega
  case c4 => omega
  intro v3 w3 hown3 hg3 _
  have hb3 := hbw.grown hg3 hB (fun g hg => (hown.lt g hg).1)
  go_wp2
  go_ret
  rw [HP.out]
  exact made_app hown3 hb3
 ·by_cases h2 : k = 2
  ·subst h2
   have hp : putR ⟨2, n, t⟩ = Nu.put 2 ++ Nu.putT t.data.toList := by unfold putR; simp
   have hnl := putT_len t
   have HP := hid hp; clear hp
   go_enter Tryz.func68, Tryz.ntmps68
   go_wp2_with fail
   refine (rput_any _ _ hk0 hk1).mono ?_
   rintro e w1 ⟨v, rfl, hown, hb⟩
   have c0 : w1.cell? ⟨w.heap.size, 0, none⟩ = some (.int .i64 2) := (hb.cell (p := ⟨w.heap.size, 0, none⟩) (by simp)).trans (World.cell?_alloc_mark w _ _ _ 0)
   have c1 : w1.cell? ⟨w.heap.size, 2, none⟩ = some (.string t) := (hb.cell (p := ⟨w.heap.size, 2, none⟩) (by simp)).trans (World.cell?_alloc_mark w _ _ _ 2)
   have hown := hown.down (B := w.heap.size) (by simp)
   have hbw : Below w.heap.size w w1 := (below_one w _).trans (hb.mono (by simp))
   clear hb
   go_wp2_with fail
   refine (rputText_any t _ hs).mono ?_
   rintro e w2 ⟨v2, rfl, hown2, hb2⟩
   obtain ⟨g, c, rfl, hg, hcells⟩ := hown2.at_ (putT_ne _)
   have hown := hown.below hb2
   have hbw := hbw.trans (hb2.mono hbw.size)
   have hB := hbw.size
   clear hown2 hb2 c0 c1
   generalize hy : Nu.putT t.data.toList = y at *
   clear hy
   go_wp2_with (at_builtin; refine wpList_append_own _ rfl (.tmp 18) (.tmp 21) 50 rfl w.heap.size 5 iR (.int .u8 0) 1 1 Tryz.underlying50 hiR hzR0 hzR1 hzR2 rfl (by decide) _ _ _ rfl hown ⟨g, 0, none⟩ y.length c (Lib.byteCells y) rfl (by rw [Lib.byteCells_length, Nat.mul_one]) hcells (byteCells_one _) ?c3 ?c4 hB ?_)
   case c3 => unfold maxLen; omega
   case c4 => omega
   intro v3 w3 hown3 hg3 _
   have hb3 := hbw.grown hg3 hB (fun g hg => (hown.lt g hg).1)
   go_wp2
   go_ret
   rw [HP.out]
   exact made_app hown3 hb3
  ·have hp : putR ⟨k, n, t⟩ = Nu.put k := by unfold putR; simp [h1, h2]
   have HP := hid hp; clear hp
   have k1 : (k == 1) = false := by rw [beq_eq_false_iff_ne]; exact h1
   have k2 : (k == 2) = false := by rw [beq_eq_false_iff_ne]; exact h2
   clear h1 h2
   go_enter Tryz.func68, Tryz.ntmps68
   go_wp2_with fail
   refine (rput_any _ _ hk0 hk1).mono ?_
   rintro e w1 ⟨v, rfl, hown, hb⟩
   have c0 : w1.cell? ⟨w.heap.size, 0, none⟩ = some (.int .i64 k) := (hb.cell (p := ⟨w.heap.size, 0, none⟩) (by simp)).trans (World.cell?_alloc_mark w _ _ _ 0)
   have hown := hown.down (B := w.heap.size) (by simp)
   have hbw : Below w.heap.size w w1 := (below_one w _).trans (hb.mono (by simp))
   clear hb
   go_wp2
   go_ret
   rw [HP.out]
   exact ⟨v, rfl, hown, hbw⟩
end Go.Proofs.YtegkhkcnoahhdaaGreat
/-
The reference's GetRaw reads a value as the plain function says, whatever the bytes.
-/
namespace Go.Proofs.YtegkhkcnoahhdaaGreat
open Lib (hid)
open Go.RowKit
set_option maxRecDepth 100000
def noRaw : Raw := ⟨0, 0, ⟨#[]⟩⟩
def getR (l : List UInt8) : Raw × Nat × Nat :=
  if (Nu.get l).2.2 ≠ 0 then (noRaw, 0, (Nu.get l).2.2)
  else if (Nu.get l).1 = 0 then (noRaw, (Nu.get l).2.1, 0)
  else if (Nu.get l).1 = 1 then
    (if (Nu.get (l.drop (Nu.get l).2.1)).2.2 ≠ 0 then (noRaw, 0, (Nu.get (l.drop (Nu.get l).2.1)).2.2)
     else (⟨1, (Nu.get (l.drop (Nu.get l).2.1)).1, ⟨#[]⟩⟩, (Nu.get l).2.1 + (Nu.get (l.drop (Nu.get l).2.1)).2.1, 0))
  else if (Nu.get l).1 = 2 then
    (if (Nu.getT (l.drop (Nu.get l).2.1)).2.2 ≠ 0 then (noRaw, 0, (Nu.getT (l.drop (Nu.get l).2.1)).2.2)
     else if (Ru.vld (Nu.getT (l.drop (Nu.get l).2.1)).1 && decide ((Nu.getT (l.drop (Nu.get l).2.1)).1.length ≤ 200)) = true then (⟨2, 0, ⟨(Nu.getT (l.drop (Nu.get l).2.1)).1.toArray⟩⟩, (Nu.get l).2.1 + (Nu.getT (l.drop (Nu.get l).2.1)).2.1, 0)
     else (noRaw, 0, 1))
  else (noRaw, 0, 1)
def GotR (r : Raw × Nat × Nat) (w : World) (e : Ending) (w' : World) : Prop := e = .returned (.tuple #[r.1.val, .int .i64 r.2.1, .int .i64 r.2.2]) ∧ Below w.heap.size w w'
theorem getR_err (l : List UInt8) (k : Int) (n e : Nat) (h : Nu.get l = (k, n, e)) (he : e ≠ 0) : getR l = (noRaw, 0, e) := by
 unfold getR; rw [h]; exact if_pos he
theorem getR_0 (l : List UInt8) (n : Nat) (h : Nu.get l = (0, n, 0)) : getR l = (noRaw, n, 0) := by
 unfold getR; rw [h]; simp
theorem getR_1e (l : List UInt8) (n : Nat) (m : Int) (j e : Nat) (h : Nu.get l = (1, n, 0)) (h1 : Nu.get (l.drop n) = (m, j, e)) (he : e ≠ 0) : getR l = (noRaw, 0, e) := by
 unfold getR; rw [h]; simp [h1, he]
theorem getR_1 (l : List UInt8) (n : Nat) (m : Int) (j : Nat) (h : Nu.get l = (1, n, 0)) (h1 : Nu.get (l.drop n) = (m, j, 0)) : getR l = (⟨1, m, ⟨#[]⟩⟩, n + j, 0) := by
 unfold getR; rw [h]; simp [h1]
theorem getR_2e (l : List UInt8) (n : Nat) (t : List UInt8) (j e : Nat) (h : Nu.get l = (2, n, 0)) (h1 : Nu.getT (l.drop n) = (t, j, e)) (he : e ≠ 0) : getR l = (noRaw, 0, e) := by
 unfold getR; rw [h]; simp [h1, he]
theorem getR_2 (l : List UInt8) (n : Nat) (t : List UInt8) (j : Nat) (h : Nu.get l = (2, n, 0)) (h1 : Nu.getT (l.drop n) = (t, j, 0)) : getR l = if (Ru.vld t && decide (t.length ≤ 200)) = true then (⟨2, 0, ⟨t.toArray⟩⟩, n + j, 0) else (noRaw, 0, 1) := by
 unfold getR; rw [h]; simp [h1]
theorem getR_x (l : List UInt8) (k : Int) (n : Nat) (h : Nu.get l = (k, n, 0)) (h0 : k ≠ 0) (h1 : k ≠ 1) (h2 : k ≠ 2) : getR l = (noRaw, 0, 1) := by
 unfold getR; rw [h]; simp [h0, h1, h2]
theorem getT_le (l : List UInt8) : (Nu.getT l).1.length ≤ l.length := by
 rw [getT_of]; split
 ·simp
 ·split
  ·simp
  ·split
   ·simp
   ·simp only [List.length_take, List.length_drop]; omega
theorem getT_len (l : List UInt8) : (Nu.getT l).2.1 ≤ l.length := by
 have h := Nu.get_len l
 rw [getT_of]; split
 ·simp
 ·split
  ·simp
  ·split
   ·simp
   ·simp only; omega
theorem add_lit (g o j : Nat) : (some (⟨g, o, Option.none⟩ : Addr)).map (·.add j) = some ⟨g, o + j, Option.none⟩ := by
 show some (Addr.add ⟨g, o, Option.none⟩ j) = _
 unfold Addr.add; split <;> simp_all
end Go.Proofs.YtegkhkcnoahhdaaGreat
/-
The reference's bytesOf writes a batch as the plain function says, in new memory.
-/
namespace Go.Proofs.YtegkhkcnoahhdaaGreat
open Lib (hid)
open Go.RowKit
set_option maxRecDepth 100000
structure Bat where
 client : Int
 seq : Int
 ops : List Opn
def bytesO (o : Opn) : List UInt8 := Nu.put o.kind ++ Nu.putT o.key.data.toList ++ (if o.kind = 1 then putR o.val else if o.kind = 3 then putR o.val ++ putR o.old else if o.kind = 4 then Nu.put o.n else [])
def bytesB (b : Bat) : List UInt8 := Nu.put b.client ++ Nu.put b.seq ++ Nu.put (b.ops.length : Int) ++ b.ops.flatMap bytesO
def BatV (w : World) (B : Nat) (v : Value) (b : Bat) : Prop := ∃ s, v = .agg #[.int .i64 b.client, .int .i64 b.seq, s] ∧ Ops w B s b.ops
def i64 (n : Int) : Prop := -9223372036854775808 ≤ n ∧ n ≤ 9223372036854775807
def Opn.ok (o : Opn) : Prop := i64 o.kind ∧ o.key.size ≤ 1000000 ∧ o.val.ok ∧ o.old.ok ∧ i64 o.n
def Bat.ok (b : Bat) : Prop := i64 b.client ∧ i64 b.seq ∧ ∀ x ∈ b.ops, x.ok
theorem putR_le (r : Raw) (h : r.ok) : (putR r).length ≤ 1000020 := by
 have h1 := Nu.put_len r.kind
 have h2 := Nu.put_len r.n
 have h3 := putT_len r.s
 have h4 := h.2.2
 unfold putR
 rw [List.length_append]
 split
 ·omega
 ·split
  ·omega
  ·simp; omega
theorem rputRaw_is (v : Value) (r : Raw) (w : World) (hv : v = r.val) (hr : r.ok) : Calls Tryz.prog 68 #[v] w (Made (putR r) w) := by
 rw [hv]; exact rputRaw_any r w hr
set_option maxRecDepth 100000 in
set_option maxHeartbeats 4000000 in
theorem rbytesOf_any (B : Nat) (v : Value) (b : Bat) (w : World) (h : BatV w B v b) (hB : B ≤ w.heap.size) (hok : b.ok) (hl : b.ops.length ≤ 1000) : Calls Tryz.prog 52 #[v] w (Made (bytesB b) w) := by
 obtain ⟨s, rfl, hops⟩ := h
 obtain ⟨bc, bs, l⟩ := b
 obtain ⟨A, c, hs, hc, hcell⟩ := id hops
 subst hs
 obtain ⟨⟨c0, c1⟩, ⟨s0, s1⟩, hsm⟩ := hok
 simp only at hl c0 c1 s0 s1 hsm
 have HOPS := hid hops; clear hops
 have HCELL := hid hcell; clear hcell
 have hpc := Nu.put_len bc
 have hps := Nu.put_len bs
 have hpl := Nu.put_len (l.length : Int)
 have l0 : -9223372036854775808 ≤ (l.length : Int) := by omega
 have l1 : (l.length : Int) ≤ 9223372036854775807 := by omega
 obtain ⟨W0, hW0⟩ : ∃ W0, w.alloc (Obj.cells #[Value.int IntKind.i64 bc, Value.int IntKind.i64 bs, Value.slice A l.length c] 33) = W0 := ⟨_, rfl⟩
 have hsz : W0.heap.size = w.heap.size + 1 := by rw [← hW0]; simp
 have hlt : w.heap.size < W0.heap.size := by omega
 clear hsz
 have q1 : W0.cell? ⟨w.heap.size, 1, none⟩ = some (.int .i64 bs) := by rw [← hW0]; exact World.cell?_alloc_mark w _ _ _ 1
 have q2 : W0.cell? ⟨w.heap.size, 2, none⟩ = some (.slice A l.length c) := by rw [← hW0]; exact World.cell?_alloc_mark w _ _ _ 2
 have hb0 : Below w.heap.size w W0 := by rw [← hW0]; exact below_one w _
 have HW := hid hW0; clear hW0
 go_enter Tryz.func52, Tryz.ntmps52
 go_wp2_with fail
 rw [HW.out]
 refine (rput_any _ _ c0 c1).mono ?_
 rintro e w1 ⟨v1, rfl, hown1, hb1⟩
 have r1 : w1.cell? ⟨w.heap.size, 1, none⟩ = some (.int .i64 bs) := (hb1.cell (p := ⟨w.heap.size, 1, none⟩) hlt).trans q1
 go_wp2_with fail
 refine (rput_any _ _ s0 s1).mono ?_
 rintro e w2 ⟨v2, rfl, hown2, hb2⟩
 have hbb2 : Below W0.heap.size W0 w2 := hb1.trans (hb2.mono hb1.size)
 have hown1' := hown1.below hb2
 have hbyt2 := Byt.of_own hown2
 go_wp2_with (at_builtin; refine wpList_append_byt rfl _ _ rfl W0.heap.size _ _ _ _ _ rfl hown1' rfl hbyt2 ?x1 hbb2.size ?_)
 case x1 => omega
 intro v3 w3 hown3 hb3
 have hbb3 := hbb2.trans hb3
 have r2 : w3.cell? ⟨w.heap.size, 2, none⟩ = some (.slice A l.length c) := (hbb3.cell (p := ⟨w.heap.size, 2, none⟩) hlt).trans q2
 clear hown1 hown1' hb1 hb2 hb3 hbyt2 hown2 r1 hbb2
 go_wp2_with fail
 refine (rput_any _ _ l0 l1).mono ?_
 rintro e w4 ⟨v4, rfl, hown4, hb4⟩
 have hbb4 : Below W0.heap.size W0 w4 := hbb3.trans (hb4.mono hbb3.size)
 have hown3' := hown3.below hb4
 have hbyt4 := Byt.of_own hown4
 go_wp2_with (at_builtin; refine wpList_append_byt rfl _ _ rfl W0.heap.size _ _ _ _ _ rfl hown3' rfl hbyt4 ?x2 hbb4.size ?_)
 case x2 => simp; omega
 intro v5 w5 hown5 hb5
 have hbb5 := hbb4.trans hb5
 clear hown3 hown3' hb4 hb5 hbyt4 hown4 hbb3 hbb4 r2
 go_wp2
 obtain ⟨hd, hhd⟩ : ∃ hd, hd = Nu.put bc ++ (Nu.put bs ++ Nu.put (l.length : Int)) := ⟨_, rfl⟩
 rw [← hhd] at hown5
 have hdl : hd.length ≤ 30 := by rw [hhd]; simp; omega
 have HHD := hid hhd; clear hhd
 go_loopw [3, 4] (fun v i wr => ∃ k : Nat, i = .int .i64 k ∧ k ≤ l.length ∧ OwnB W0.heap.size v (hd ++ (l.take k).flatMap bytesO) wr ∧ Below W0.heap.size W0 wr ∧ (hd ++ (l.take k).flatMap bytesO).length ≤ 30 + k * 5000000) (fun _ i _ => l.length - (intOf i).toNat)
 case atStart => exact ⟨0, rfl, by omega, by simpa using hown5, hbb5, by simpa using hdl⟩
 case round =>
  obtain ⟨k, rfl, hk, hown, hbw, hlen⟩ := hrel
  obtain ⟨m, hm⟩ : ∃ m, m = hd ++ (l.take k).flatMap bytesO := ⟨_, rfl⟩
  rw [← hm] at hown hlen
  have HM := hid hm; clear hm hown5 hbb5
  have qq2 : wr.cell? ⟨w.heap.size, 2, none⟩ = some (.slice A l.length c) := (hbw.cell (p := ⟨w.heap.size, 2, none⟩) hlt).trans q2
  by_cases hkl : k < l.length
  ·obtain ⟨g, o, rfl, hg, hcs⟩ := HCELL.out (by omega)
   obtain ⟨x, hx⟩ : ∃ x, l[k] = x := ⟨_, rfl⟩
   have hr := hcs k hkl
   have hxs := hsm l[k] (List.getElem_mem ..)
   have htk : l.take (k + 1) = l.take k ++ [x] := by rw [List.take_add_one, List.getElem?_eq_getElem hkl, hx]; rfl
   rw [hx] at hxs hr
   have hr2 : wr.rangeAt g (o + k * 9) x.cs := range_below (range_below hr hb0 (Nat.lt_of_lt_of_le hg hB)) hbw (by omega)
   have hsp : (hd ++ (l.take (k + 1)).flatMap bytesO) = m ++ bytesO x := by rw [htk, HM.out]; simp
   have HSP := hid hsp; clear hsp htk hr hx hcs q1 q2
   obtain ⟨xk, xy, ⟨vk, vn, vs⟩, ⟨ok, on, os⟩, xn⟩ := x
   obtain ⟨⟨xk0, xk1⟩, hys, hvr, hor, ⟨xn0, xn1⟩⟩ := hxs
   simp only at xk0 xk1 hys hvr hor xn0 xn1
   have n1 := Nu.put_len xk
   have n2 := putT_len xy
   have n3 := putR_le ⟨vk, vn, vs⟩ hvr
   have n4 := putR_le ⟨ok, on, os⟩ hor
   have n5 := Nu.put_len xn
   by_cases h1 : xk = 1
   ·subst h1
    obtain ⟨wb, hwb⟩ : ∃ wb, wr.alloc (Obj.cells #[.int .i64 1, .string xy, .int .i64 vk, .int .i64 vn, .string vs, .int .i64 ok, .int .i64 on, .string os, .int .i64 xn] 64) = wb := ⟨_, rfl⟩
    have hown0 : OwnB W0.heap.size u3 m wb := by rw [← hwb]; exact hown.alloc _
    have hap0 : u3.ownBlock ≠ some wr.heap.size := fun e => by have := (hown.lt _ e).2; omega
    have hbox0 : wb.rangeAt wr.heap.size 0 [.int .i64 1, .string xy, .int .i64 vk, .int .i64 vn, .string vs, .int .i64 ok, .int .i64 on, .string os, .int .i64 xn] := by
     intro j v hv
     rw [← hwb, World.cell?_alloc_mark, Nat.zero_add]
     simpa using hv
    have hgb0 : wr.heap.size < wb.heap.size := by rw [← hwb]; simp
    have hbw0 : Below W0.heap.size W0 wb := by rw [← hwb]; exact hbw.alloc hbw.size _
    have HWB := hid hwb; clear hwb hown hbw
    go_wp2_with (refine wpList_load_mid rfl 64 _ rfl g (o + k * 9) rfl [.int .i64 1, .string xy, .int .i64 vk, .int .i64 vn, .string vs, .int .i64 ok, .int .i64 on, .string os, .int .i64 xn] _ hr2 Tryz.underlying64 rfl Tryz.infoOp ?_)
    rw [HWB.out]
    refine (rput_any _ _ xk0 xk1).mono ?_
    rintro e wa1 ⟨va1, rfl, howna1, hba1⟩
    have hbv1 : Below W0.heap.size W0 wa1 := hbw0.trans (hba1.mono hbw0.size)
    have hownv1 := hown0.below hba1
    have hboxv1 := range_below hbox0 hba1 hgb0
    have hgbv1 : wr.heap.size < wa1.heap.size := Nat.lt_of_lt_of_le hgb0 hba1.size
    have hbyt1 := Byt.of_own howna1
    go_wp2_with (at_builtin; refine wpList_append_byt_at rfl _ _ rfl W0.heap.size _ _ _ _ _ rfl hownv1 rfl hbyt1 ?x1_1 hbv1.size ?_)
    case x1_1 => first | omega | (simp only [List.length_append]; omega)
    intro v1 w1 hown1 hb1 hgw1
    have hbw1 := hbv1.trans hb1
    have hap1 := hgw1.apart hgbv1 hap0
    have hbox1 := hgw1.range hboxv1 hap0
    have hgb1 : wr.heap.size < w1.heap.size := Nat.lt_of_lt_of_le hgbv1 hb1.size
    clear hbv1 hownv1 hboxv1 hgbv1 hbyt1 hb1 hgw1 hap0 hbox0 hgb0 hown0 hbw0 howna1 hba1
    have q2_1 : w1.cell? ⟨wr.heap.size, 1, none⟩ = some (.string xy) := hbox1 1 _ rfl
    go_wp2_with fail
    refine (rputText_any xy _ hys).mono ?_
    rintro e wa2 ⟨va2, rfl, howna2, hba2⟩
    clear q2_1
    have hbv2 : Below W0.heap.size W0 wa2 := hbw1.trans (hba2.mono hbw1.size)
    have hownv2 := hown1.below hba2
    have hboxv2 := range_below hbox1 hba2 hgb1
    have hgbv2 : wr.heap.size < wa2.heap.size := Nat.lt_of_lt_of_le hgb1 hba2.size
    have hbyt2 := Byt.of_own howna2
    go_wp2_with (at_builtin; refine wpList_append_byt_at rfl _ _ rfl W0.heap.size _ _ _ _ _ rfl hownv2 rfl hbyt2 ?x2_2 hbv2.size ?_)
    case x2_2 => first | omega | (simp only [List.length_append]; omega)
    intro v2 w2 hown2 hb2 hgw2
    have hbw2 := hbv2.trans hb2
    have hap2 := hgw2.apart hgbv2 hap1
    have hbox2 := hgw2.range hboxv2 hap1
    have hgb2 : wr.heap.size < w2.heap.size := Nat.lt_of_lt_of_le hgbv2 hb2.size
    clear hbv2 hownv2 hboxv2 hgbv2 hbyt2 hb2 hgw2 hap1 hbox1 hgb1 hown1 hbw1 howna2 hba2
    have qk : w2.cell? ⟨wr.heap.size, 0, none⟩ = some (.int .i64 1) := hbox2 0 _ rfl
    have q3_2 : w2.cell? ⟨wr.heap.size, 2, none⟩ = some (.int .i64 vk) := hbox2 2 _ rfl
    have q3_3 : w2.cell? ⟨wr.heap.size, 3, none⟩ = some (.int .i64 vn) := hbox2 3 _ rfl
    have q3_4 : w2.cell? ⟨wr.heap.size, 4, none⟩ = some (.string vs) := hbox2 4 _ rfl
    go_wp2_with fail
    refine (rputRaw_is _ ⟨vk, vn, vs⟩ _ rfl hvr).mono ?_
    rintro e wa3 ⟨va3, rfl, howna3, hba3⟩
    clear q3_2 q3_3 q3_4
    have hbv3 : Below W0.heap.size W0 wa3 := hbw2.trans (hba3.mono hbw2.size)
    have hownv3 := hown2.below hba3
    have hboxv3 := range_below hbox2 hba3 hgb2
    have hgbv3 : wr.heap.size < wa3.heap.size := Nat.lt_of_lt_of_le hgb2 hba3.size
    have hbyt3 := Byt.of_own howna3
    go_wp2_with (at_builtin; refine wpList_append_byt_at rfl _ _ rfl W0.heap.size _ _ _ _ _ rfl hownv3 rfl hbyt3 ?x3_3 hbv3.size ?_)
    case x3_3 => first | omega | (simp only [List.length_append]; omega)
    intro v3 w3 hown3 hb3 hgw3
    have hbw3 := hbv3.trans hb3
    have hap3 := hgw3.apart hgbv3 hap2
    have hbox3 := hgw3.range hboxv3 hap2
    have hgb3 : wr.heap.size < w3.heap.size := Nat.lt_of_lt_of_le hgbv3 hb3.size
    clear hbv3 hownv3 hboxv3 hgbv3 hbyt3 hb3 hgw3 hap2 hbox2 hgb2 hown2 hbw2 howna3 hba3
    clear qk
    go_wp2
    go_roundw
    case rel =>
     refine ⟨k + 1, by go_num, by omega, ?_, hbw3, ?_⟩
     ·rw [HSP.out]; simpa [bytesO] using hown3
     ·rw [HSP.out]; simp only [bytesO, List.length_append]; simp; omega
    case measure => simp [intOf]; omega
   ·by_cases h3 : xk = 3
    ·subst h3
     obtain ⟨wb, hwb⟩ : ∃ wb, wr.alloc (Obj.cells #[.int .i64 3, .string xy, .int .i64 vk, .int .i64 vn, .string vs, .int .i64 ok, .int .i64 on, .string os, .int .i64 xn] 64) = wb := ⟨_, rfl⟩
     have hown0 : OwnB W0.heap.size u3 m wb := by rw [← hwb]; exact hown.alloc _
     have hap0 : u3.ownBlock ≠ some wr.heap.size := fun e => by have := (hown.lt _ e).2; omega
     have hbox0 : wb.rangeAt wr.heap.size 0 [.int .i64 3, .string xy, .int .i64 vk, .int .i64 vn, .string vs, .int .i64 ok, .int .i64 on, .string os, .int .i64 xn] := by
      intro j v hv
      rw [← hwb, World.cell?_alloc_mark, Nat.zero_add]
      simpa using hv
     have hgb0 : wr.heap.size < wb.heap.size := by rw [← hwb]; simp
     have hbw0 : Below W0.heap.size W0 wb := by rw [← hwb]; exact hbw.alloc hbw.size _
     have HWB := hid hwb; clear hwb hown hbw
     go_wp2_with (refine wpList_load_mid rfl 64 _ rfl g (o + k * 9) rfl [.int .i64 3, .string xy, .int .i64 vk, .int .i64 vn, .string vs, .int .i64 ok, .int .i64 on, .string os, .int .i64 xn] _ hr2 Tryz.underlying64 rfl Tryz.infoOp ?_)
     rw [HWB.out]
     refine (rput_any _ _ xk0 xk1).mono ?_
     rintro e wa1 ⟨va1, rfl, howna1, hba1⟩
     have hbv1 : Below W0.heap.size W0 wa1 := hbw0.trans (hba1.mono hbw0.size)
     have hownv1 := hown0.below hba1
     have hboxv1 := range_below hbox0 hba1 hgb0
     have hgbv1 : wr.heap.size < wa1.heap.size := Nat.lt_of_lt_of_le hgb0 hba1.size
     have hbyt1 := Byt.of_own howna1
     go_wp2_with (at_builtin; refine wpList_append_byt_at rfl _ _ rfl W0.heap.size _ _ _ _ _ rfl hownv1 rfl hbyt1 ?x4_1 hbv1.size ?_)
     case x4_1 => first | omega | (simp only [List.length_append]; omega)
     intro v1 w1 hown1 hb1 hgw1
     have hbw1 := hbv1.trans hb1
     have hap1 := hgw1.apart hgbv1 hap0
     have hbox1 := hgw1.range hboxv1 hap0
     have hgb1 : wr.heap.size < w1.heap.size := Nat.lt_of_lt_of_le hgbv1 hb1.size
     clear hbv1 hownv1 hboxv1 hgbv1 hbyt1 hb1 hgw1 hap0 hbox0 hgb0 hown0 hbw0 howna1 hba1
     have q5_1 : w1.cell? ⟨wr.heap.size, 1, none⟩ = some (.string xy) := hbox1 1 _ rfl
     go_wp2_with fail
     refine (rputText_any xy _ hys).mono ?_
     rintro e wa2 ⟨va2, rfl, howna2, hba2⟩
     clear q5_1
     have hbv2 : Below W0.heap.size W0 wa2 := hbw1.trans (hba2.mono hbw1.size)
     have hownv2 := hown1.below hba2
     have hboxv2 := range_below hbox1 hba2 hgb1
     have hgbv2 : wr.heap.size < wa2.heap.size := Nat.lt_of_lt_of_le hgb1 hba2.size
     have hbyt2 := Byt.of_own howna2
     go_wp2_with (at_builtin; refine wpList_append_byt_at rfl _ _ rfl W0.heap.size _ _ _ _ _ rfl hownv2 rfl hbyt2 ?x5_2 hbv2.size ?_)
     case x5_2 => first | omega | (simp only [List.length_append]; omega)
     intro v2 w2 hown2 hb2 hgw2
     have hbw2 := hbv2.trans hb2
     have hap2 := hgw2.apart hgbv2 hap1
     have hbox2 := hgw2.range hboxv2 hap1
     have hgb2 : wr.heap.size < w2.heap.size := Nat.lt_of_lt_of_le hgbv2 hb2.size
     clear hbv2 hownv2 hboxv2 hgbv2 hbyt2 hb2 hgw2 hap1 hbox1 hgb1 hown1 hbw1 howna2 hba2
     have qk : w2.cell? ⟨wr.heap.size, 0, none⟩ = some (.int .i64 3) := hbox2 0 _ rfl
     have q2 : w2.cell? ⟨wr.heap.size, 2, none⟩ = some (.int .i64 vk) := hbox2 2 _ rfl
     have q3 : w2.cell? ⟨wr.heap.size, 3, none⟩ = some (.int .i64 vn) := hbox2 3 _ rfl
     have q4 : w2.cell? ⟨wr.heap.size, 4, none⟩ = some (.string vs) := hbox2 4 _ rfl
     have q5 : w2.cell? ⟨wr.heap.size, 5, none⟩ = some (.int .i64 ok) := hbox2 5 _ rfl
     have q6 : w2.cell? ⟨wr.heap.size, 6, none⟩ = some (.int .i64 on) := hbox2 6 _ rfl
     have q7 : w2.cell? ⟨wr.heap.size, 7, none⟩ = some (.string os) := hbox2 7 _ rfl
     have hbd : Below W0.heap.size W0 w2.drew := hbw2.drew
     have hownd : OwnB W0.heap.size v2 _ w2.drew := hown2
     have hgbd : wr.heap.size < w2.drew.heap.size := hgb2
     go_wp2_with fail
     go_region_held3 (fun W => W.cell? ⟨wr.heap.size, 2, none⟩ = some (.int .i64 vk) ∧ W.cell? ⟨wr.heap.size, 3, none⟩ = some (.int .i64 vn) ∧ W.cell? ⟨wr.heap.size, 4, none⟩ = some (.string vs) ∧ W.cell? ⟨wr.heap.size, 5, none⟩ = some (.int .i64 ok) ∧ W.cell? ⟨wr.heap.size, 6, none⟩ = some (.int .i64 on) ∧ W.cell? ⟨wr.heap.size, 7, none⟩ = some (.string os)) (first | exact ⟨q2, q3, q4, q5, q6, q7⟩ | assumption | exact (stands_below hba3 hgbd).six (by assumption) | exact (stands_grew hgw3 hap2).six (by assumption) | exact (stands_below hba4 hgb3).six (by assumption) | exact (stands_grew hgw4 hap3).six (by assumption)) (first | (go_at_call_of 68 (Value.string os); refine (rputRaw_is _ ⟨ok, on, os⟩ _ rfl hor).mono ?_; rintro e wa4 ⟨va4, rfl, howna4, hba4⟩; have hbv4 : Below W0.heap.size W0 wa4 := hbw3.trans (hba4.mono hbw3.size); have hownv4 := hown3.below hba4; have hbyt4 := Byt.of_own howna4) | (go_at_call_of 68 (Value.string vs); refine (rputRaw_is _ ⟨vk, vn, vs⟩ _ rfl hvr).mono ?_; rintro e wa3 ⟨va3, rfl, howna3, hba3⟩; have hbv3 : Below W0.heap.size W0 wa3 := hbd.trans (hba3.mono hbd.size); have hownv3 := hownd.below hba3; have hgbv3 : wr.heap.size < wa3.heap.size := Nat.lt_of_lt_of_le hgbd hba3.size; have hbyt3 := Byt.of_own howna3) | (rw [if_pos (by rfl)]; refine wp_append_byt_at _ _ rfl W0.heap.size _ _ _ _ _ rfl hownv4 rfl hbyt4 ?_ hbv4.size ?_; (first | omega | (simp only [List.length_append]; omega)); intro v4 w4 hown4 hb4 hgw4) | (rw [if_pos (by rfl)]; refine wp_append_byt_at _ _ rfl W0.heap.size _ _ _ _ _ rfl hownv3 rfl hbyt3 ?_ hbv3.size ?_; (first | omega | (simp only [List.length_append]; omega)); intro v3 w3 hown3 hb3 hgw3; have hbw3 := hbv3.trans hb3; have hap3 := hgw3.apart hgbv3 hap2; have hgb3 : wr.heap.size < w3.heap.size := Nat.lt_of_lt_of_le hgbv3 hb3.size))
     have hbw4 := hbv4.trans hb4
     go_wp2
     go_roundw
     case rel =>
      refine ⟨k + 1, by go_num, by omega, ?_, hbw4, ?_⟩
      ·rw [HSP.out]; simpa [bytesO] using hown4
      ·rw [HSP.out]; simp only [bytesO, List.length_append]; simp; omega
     case measure => simp [intOf]; omega
    ·by_cases h4 : xk = 4
     ·subst h4
      obtain ⟨wb, hwb⟩ : ∃ wb, wr.alloc (Obj.cells #[.int .i64 4, .string xy, .int .i64 vk, .int .i64 vn, .string vs, .int .i64 ok, .int .i64 on, .string os, .int .i64 xn] 64) = wb := ⟨_, rfl⟩
      have hown0 : OwnB W0.heap.size u3 m wb := by rw [← hwb]; exact hown.alloc _
      have hap0 : u3.ownBlock ≠ some wr.heap.size := fun e => by have := (hown.lt _ e).2; omega
      have hbox0 : wb.rangeAt wr.heap.size 0 [.int .i64 4, .string xy, .int .i64 vk, .int .i64 vn, .string vs, .int .i64 ok, .int .i64 on, .string os, .int .i64 xn] := by
       intro j v hv
       rw [← hwb, World.cell?_alloc_mark, Nat.zero_add]
       simpa using hv
      have hgb0 : wr.heap.size < wb.heap.size := by rw [← hwb]; simp
      have hbw0 : Below W0.heap.size W0 wb := by rw [← hwb]; exact hbw.alloc hbw.size _
      have HWB := hid hwb; clear hwb hown hbw
      go_wp2_with (refine wpList_load_mid rfl 64 _ rfl g (o + k * 9) rfl [.int .i64 4, .string xy, .int .i64 vk, .int .i64 vn, .string vs, .int .i64 ok, .int .i64 on, .string os, .int .i64 xn] _ hr2 Tryz.underlying64 rfl Tryz.infoOp ?_)
      rw [HWB.out]
      refine (rput_any _ _ xk0 xk1).mono ?_
      rintro e wa1 ⟨va1, rfl, howna1, hba1⟩
      have hbv1 : Below W0.heap.size W0 wa1 := hbw0.trans (hba1.mono hbw0.size)
      have hownv1 := hown0.below hba1
      have hboxv1 := range_below hbox0 hba1 hgb0
      have hgbv1 : wr.heap.size < wa1.heap.size := Nat.lt_of_lt_of_le hgb0 hba1.size
      have hbyt1 := Byt.of_own howna1
      go_wp2_with (at_builtin; refine wpList_append_byt_at rfl _ _ rfl W0.heap.size _ _ _ _ _ rfl hownv1 rfl hbyt1 ?x6_1 hbv1.size ?_)
      case x6_1 => first | omega | (simp only [List.length_append]; omega)
      intro v1 w1 hown1 hb1 hgw1
      have hbw1 := hbv1.trans hb1
      have hap1 := hgw1.apart hgbv1 hap0
      have hbox1 := hgw1.range hboxv1 hap0
      have hgb1 : wr.heap.size < w1.heap.size := Nat.lt_of_lt_of_le hgbv1 hb1.size
      clear hbv1 hownv1 hboxv1 hgbv1 hbyt1 hb1 hgw1 hap0 hbox0 hgb0 hown0 hbw0 howna1 hba1
      have q7_1 : w1.cell? ⟨wr.heap.size, 1, none⟩ = some (.string xy) := hbox1 1 _ rfl
      go_wp2_with fail
      refine (rputText_any xy _ hys).mono ?_
      rintro e wa2 ⟨va2, rfl, howna2, hba2⟩
      clear q7_1
      have hbv2 : Below W0.heap.size W0 wa2 := hbw1.trans (hba2.mono hbw1.size)
      have hownv2 := hown1.below hba2
      have hboxv2 := range_below hbox1 hba2 hgb1
      have hgbv2 : wr.heap.size < wa2.heap.size := Nat.lt_of_lt_of_le hgb1 hba2.size
      have hbyt2 := Byt.of_own howna2
      go_wp2_with (at_builtin; refine wpList_append_byt_at rfl _ _ rfl W0.heap.size _ _ _ _ _ rfl hownv2 rfl hbyt2 ?x7_2 hbv2.size ?_)
      case x7_2 => first | omega | (simp only [List.length_append]; omega)
      intro v2 w2 hown2 hb2 hgw2
      have hbw2 := hbv2.trans hb2
      have hap2 := hgw2.apart hgbv2 hap1
      have hbox2 := hgw2.range hboxv2 hap1
      have hgb2 : wr.heap.size < w2.heap.size := Nat.lt_of_lt_of_le hgbv2 hb2.size
      clear hbv2 hownv2 hboxv2 hgbv2 hbyt2 hb2 hgw2 hap1 hbox1 hgb1 hown1 hbw1 howna2 hba2
      have qk : w2.cell? ⟨wr.heap.size, 0, none⟩ = some (.int .i64 4) := hbox2 0 _ rfl
      have q8_8 : w2.cell? ⟨wr.heap.size, 8, none⟩ = some (.int .i64 xn) := hbox2 8 _ rfl
      go_wp2_with fail
      refine (rput_any _ _ xn0 xn1).mono ?_
      rintro e wa3 ⟨va3, rfl, howna3, hba3⟩
      clear q8_8
      have hbv3 : Below W0.heap.size W0 wa3 := hbw2.trans (hba3.mono hbw2.size)
      have hownv3 := hown2.below hba3
      have hboxv3 := range_below hbox2 hba3 hgb2
      have hgbv3 : wr.heap.size < wa3.heap.size := Nat.lt_of_lt_of_le hgb2 hba3.size
      have hbyt3 := Byt.of_own howna3
      go_wp2_with (at_builtin; refine wpList_append_byt_at rfl _ _ rfl W0.heap.size _ _ _ _ _ rfl hownv3 rfl hbyt3 ?x8_3 hbv3.size ?_)
      case x8_3 => first | omega | (simp only [List.length_append]; omega)
      intro v3 w3 hown3 hb3 hgw3
      have hbw3 := hbv3.trans hb3
      have hap3 := hgw3.apart hgbv3 hap2
      have hbox3 := hgw3.range hboxv3 hap2
      have hgb3 : wr.heap.size < w3.heap.size := Nat.lt_of_lt_of_le hgbv3 hb3.size
      clear hbv3 hownv3 hboxv3 hgbv3 hbyt3 hb3 hgw3 hap2 hbox2 hgb2 hown2 hbw2 howna3 hba3
      clear qk
      go_wp2
      go_roundw
      case rel =>
       refine ⟨k + 1, by go_num, by omega, ?_, hbw3, ?_⟩
       ·rw [HSP.out]; simpa [bytesO] using hown3
       ·rw [HSP.out]; simp only [bytesO, List.length_append]; simp; omega
      case measure => simp [intOf]; omega
     ·have k1 : (xk == 1) = false := by rw [beq_eq_false_iff_ne]; exact h1
      have k3 : (xk == 3) = false := by rw [beq_eq_false_iff_ne]; exact h3
      have k4 : (xk == 4) = false := by rw [beq_eq_false_iff_ne]; exact h4
      have H1 := hid h1; have H3 := hid h3; have H4 := hid h4
      clear h1 h3 h4
      obtain ⟨wb, hwb⟩ : ∃ wb, wr.alloc (Obj.cells #[.int .i64 xk, .string xy, .int .i64 vk, .int .i64 vn, .string vs, .int .i64 ok, .int .i64 on, .string os, .int .i64 xn] 64) = wb := ⟨_, rfl⟩
      have hown0 : OwnB W0.heap.size u3 m wb := by rw [← hwb]; exact hown.alloc _
      have hap0 : u3.ownBlock ≠ some wr.heap.size := fun e => by have := (hown.lt _ e).2; omega
      have hbox0 : wb.rangeAt wr.heap.size 0 [.int .i64 xk, .string xy, .int .i64 vk, .int .i64 vn, .string vs, .int .i64 ok, .int .i64 on, .string os, .int .i64 xn] := by
       intro j v hv
       rw [← hwb, World.cell?_alloc_mark, Nat.zero_add]
       simpa using hv
      have hgb0 : wr.heap.size < wb.heap.size := by rw [← hwb]; simp
      have hbw0 : Below W0.heap.size W0 wb := by rw [← hwb]; exact hbw.alloc hbw.size _
      have HWB := hid hwb; clear hwb hown hbw
      go_wp2_with (refine wpList_load_mid rfl 64 _ rfl g (o + k * 9) rfl [.int .i64 xk, .string xy, .int .i64 vk, .int .i64 vn, .string vs, .int .i64 ok, .int .i64 on, .string os, .int .i64 xn] _ hr2 Tryz.underlying64 rfl Tryz.infoOp ?_)
      rw [HWB.out]
      refine (rput_any _ _ xk0 xk1).mono ?_
      rintro e wa1 ⟨va1, rfl, howna1, hba1⟩
      have hbv1 : Below W0.heap.size W0 wa1 := hbw0.trans (hba1.mono hbw0.size)
      have hownv1 := hown0.below hba1
      have hboxv1 := range_below hbox0 hba1 hgb0
      have hgbv1 : wr.heap.size < wa1.heap.size := Nat.lt_of_lt_of_le hgb0 hba1.size
      have hbyt1 := Byt.of_own howna1
      go_wp2_with (at_builtin; refine wpList_append_byt_at rfl _ _ rfl W0.heap.size _ _ _ _ _ rfl hownv1 rfl hbyt1 ?x9_1 hbv1.size ?_)
      case x9_1 => first | omega | (simp only [List.length_append]; omega)
      intro v1 w1 hown1 hb1 hgw1
      have hbw1 := hbv1.trans hb1
      have hap1 := hgw1.apart hgbv1 hap0
      have hbox1 := hgw1.range hboxv1 hap0
      have hgb1 : wr.heap.size < w1.heap.size := Nat.lt_of_lt_of_le hgbv1 hb1.size
      clear hbv1 hownv1 hboxv1 hgbv1 hbyt1 hb1 hgw1 hap0 hbox0 hgb0 hown0 hbw0 howna1 hba1
      have q10_1 : w1.cell? ⟨wr.heap.size, 1, none⟩ = some (.string xy) := hbox1 1 _ rfl
      go_wp2_with fail
      refine (rputText_any xy _ hys).mono ?_
      rintro e wa2 ⟨va2, rfl, howna2, hba2⟩
      clear q10_1
      have hbv2 : Below W0.heap.size W0 wa2 := hbw1.trans (hba2.mono hbw1.size)
      have hownv2 := hown1.below hba2
      have hboxv2 := range_below hbox1 hba2 hgb1
      have hgbv2 : wr.heap.size < wa2.heap.size := Nat.lt_of_lt_of_le hgb1 hba2.size
      have hbyt2 := Byt.of_own howna2
      go_wp2_with (at_builtin; refine wpList_append_byt_at rfl _ _ rfl W0.heap.size _ _ _ _ _ rfl hownv2 rfl hbyt2 ?x10_2 hbv2.size ?_)
      case x10_2 => first | omega | (simp only [List.length_append]; omega)
      intro v2 w2 hown2 hb2 hgw2
      have hbw2 := hbv2.trans hb2
      have hap2 := hgw2.apart hgbv2 hap1
      have hbox2 := hgw2.range hboxv2 hap1
      have hgb2 : wr.heap.size < w2.heap.size := Nat.lt_of_lt_of_le hgbv2 hb2.size
      clear hbv2 hownv2 hboxv2 hgbv2 hbyt2 hb2 hgw2 hap1 hbox1 hgb1 hown1 hbw1 howna2 hba2
      have qk : w2.cell? ⟨wr.heap.size, 0, none⟩ = some (.int .i64 xk) := hbox2 0 _ rfl
      go_wp2
      go_roundw
      case rel =>
       refine ⟨k + 1, by go_num, by omega, ?_, hbw2, ?_⟩
       ·rw [HSP.out]; simpa [bytesO, H1.out, H3.out, H4.out] using hown2
       ·rw [HSP.out]; simp only [bytesO, List.length_append]; simp [H1.out, H3.out, H4.out]; omega
      case measure => simp [intOf]; omega
  ·have hfin : hd ++ l.flatMap bytesO = m := by rw [HM.out, List.take_of_length_le (by omega)]
   have HF := hid hfin; clear hfin
   go_wp2
   go_ret
   refine ⟨u3, rfl, ?_, hb0.trans (hbw.mono (by omega))⟩
   unfold bytesB
   have : hd ++ l.flatMap bytesO = Nu.put bc ++ Nu.put bs ++ Nu.put (l.length : Int) ++ l.flatMap bytesO := by rw [HHD.out]; simp
   rw [← this, HF.out]
   exact hown.down (by omega)
end Go.Proofs.YtegkhkcnoahhdaaGreat
/-
The reference's MayBatch says which batches may be, as the plain function does.
-/
namespace Go.Proofs.YtegkhkcnoahhdaaGreat
open Lib (hid)
open Go.RowKit
set_option maxRecDepth 100000
def mayB (b : Bat) : Bool := decide (1 ≤ b.client) && decide (b.client ≤ 5) && decide (1 ≤ b.seq) && decide (b.seq ≤ 1099511627776) && mayOs b.ops && decide ((bytesB b).length ≤ 1200)
theorem Bat.small {b : Bat} (h : b.ok) : ∀ x ∈ b.ops, x.small := fun x hx => by
 obtain ⟨_, h2, h3, h4, _⟩ := h.2.2 x hx
 exact ⟨h2, h3.2.2, h4.2.2⟩
theorem rmayOps_is (B : Nat) (v : Value) (l : List Opn) (x : Bool) (w : World) (h : Ops w B v l) (hB : B ≤ w.heap.size) (hsm : ∀ x ∈ l, x.small) (hx : mayOs l = x) : Calls Tryz.prog 51 #[v] w (Bl x w) := by
 rw [← hx]; exact rmayOps_any B v l w h hB hsm
theorem rbytesOf_is (B : Nat) (v : Value) (b : Bat) (m : List UInt8) (w : World) (h : BatV w B v b) (hB : B ≤ w.heap.size) (hok : b.ok) (hl : b.ops.length ≤ 1000) (hm : bytesB b = m) : Calls Tryz.prog 52 #[v] w (Made m w) := by
 rw [← hm]; exact rbytesOf_any B v b w h hB hok hl
theorem Ops.keep {w w' : World} {B C : Nat} {v : Value} {l : List Opn} (h : Ops w B v l) (hb : Below C w w') (hC : B ≤ C) : Ops w' B v l := by
 obtain ⟨A, c, hv, hc, h⟩ := h
 refine ⟨A, c, hv, hc, fun hn => ?_⟩
 obtain ⟨g, o, hA, hg, hcs⟩ := h hn
 exact ⟨g, o, hA, hg, fun k hk => range_below (hcs k hk) hb (Nat.lt_of_lt_of_le hg hC)⟩
theorem BatV.keep {w w' : World} {B C : Nat} {v : Value} {b : Bat} (h : BatV w B v b) (hb : Below C w w') (hC : B ≤ C) : BatV w' B v b := by
 obtain ⟨s, hv, h⟩ := h
 exact ⟨s, hv, h.keep hb hC⟩
set_option maxRecDepth 100000 in
set_option maxHeartbeats 2000000 in
theorem rmayBatch_any (B : Nat) (v : Value) (b : Bat) (w : World) (h : BatV w B v b) (hB : B ≤ w.heap.size) (hok : b.ok) (hl : b.ops.length ≤ 1000) : Calls Tryz.prog 28 #[v] w (Bl (mayB b) w) := by
 have hsm := b.small hok
 obtain ⟨s, rfl, hops⟩ := id h
 obtain ⟨m, hm⟩ : ∃ m, bytesB b = m := ⟨_, rfl⟩
 obtain ⟨mo, hmo⟩ : ∃ x, mayOs b.ops = x := ⟨_, rfl⟩
 have hM : mayB b = (decide (1 ≤ b.client) && decide (b.client ≤ 5) && decide (1 ≤ b.seq) && decide (b.seq ≤ 1099511627776) && mo && decide (m.length ≤ 1200)) := by unfold mayB; rw [hm, hmo]
 have HM := hid hM; have HB := hid h; have HO := hid hops; have HMM := hid hm; have HMO := hid hmo
 clear hM h hops hm hmo
 by_cases hin : 1 ≤ b.client ∧ b.client ≤ 5 ∧ 1 ≤ b.seq ∧ b.seq ≤ 1099511627776
 ·obtain ⟨i1, i2, i3, i4⟩ := hin
  obtain ⟨W0, hW0⟩ : ∃ W0, w.alloc (Obj.cells #[Value.int IntKind.i64 b.client, Value.int IntKind.i64 b.seq, s] 33) = W0 := ⟨_, rfl⟩
  have hb0 : Below w.heap.size w W0 := by rw [← hW0]; exact below_one w _
  have hlt : w.heap.size < W0.heap.size := by rw [← hW0]; simp
  have q0 : W0.cell? ⟨w.heap.size, 0, none⟩ = some (.int .i64 b.client) := by rw [← hW0]; exact World.cell?_alloc_mark w _ _ _ 0
  have q1 : W0.cell? ⟨w.heap.size, 1, none⟩ = some (.int .i64 b.seq) := by rw [← hW0]; exact World.cell?_alloc_mark w _ _ _ 1
  have q2 : W0.cell? ⟨w.heap.size, 2, none⟩ = some s := by rw [← hW0]; exact World.cell?_alloc_mark w _ _ _ 2
  have HW := hid hW0; clear hW0
  go_enter Tryz.func28, Tryz.ntmps28
  go_wp2_with fail
  rw [HW.out]
  refine (rmayOps_is B s b.ops mo W0 (HO.out.keep hb0 hB) (Nat.le_trans hB hb0.size) hsm HMO.out).mono ?_
  rintro e w1 ⟨rfl, hb1⟩
  have hbw1 := hb0.trans (hb1.mono (Nat.le_of_lt hlt))
  have r0 : w1.cell? ⟨w.heap.size, 0, none⟩ = some (.int .i64 b.client) := (hb1.cell (p := ⟨w.heap.size, 0, none⟩) hlt).trans q0
  have r1 : w1.cell? ⟨w.heap.size, 1, none⟩ = some (.int .i64 b.seq) := (hb1.cell (p := ⟨w.heap.size, 1, none⟩) hlt).trans q1
  have r2 : w1.cell? ⟨w.heap.size, 2, none⟩ = some s := (hb1.cell (p := ⟨w.heap.size, 2, none⟩) hlt).trans q2
  clear q0 q1 q2 hb1
  cases mo
  ·have hf : mayB b = false := by rw [HM.out]; simp
   have HF := hid hf; clear hf
   go_wp2
   go_ret
   exact ⟨ret_bool HF.out.symm, hbw1⟩
  ·have hf : mayB b = decide (m.length ≤ 1200) := by rw [HM.out, decide_eq_true i1, decide_eq_true i2, decide_eq_true i3, decide_eq_true i4]; rfl
   have HF := hid hf; clear hf
   go_wp2_with fail
   refine (rbytesOf_is B _ b m _ (HB.out.keep hbw1 hB) (Nat.le_trans hB hbw1.size) hok hl HMM.out).mono ?_
   rintro e w2 ⟨v2, rfl, hown2, hb2⟩
   have hbw2 := hbw1.trans (hb2.mono hbw1.size)
   obtain ⟨A2, c2, rfl, -⟩ := Byt.of_own hown2
   clear hown2 hb2 r0 r1 r2
   go_wp2
   go_ret
   exact ⟨ret_bool (by rw [HF.out]; first | rfl | (simp; omega) | (rw [decide_eq_decide]; omega)), hbw2⟩
 ·have hf : mayB b = false := by
   rw [HM.out]
   by_cases a1 : 1 ≤ b.client
   ·by_cases a2 : b.client ≤ 5
    ·by_cases a3 : 1 ≤ b.seq
     ·rw [decide_eq_false (p := b.seq ≤ 1099511627776) (fun a4 => hin ⟨a1, a2, a3, a4⟩)]; simp
     ·rw [decide_eq_false a3]; simp
    ·rw [decide_eq_false a2]; simp
   ·rw [decide_eq_false a1]; simp
  have HF := hid hf; clear hf
  have hc : b.client < 1 ∨ (1 ≤ b.client ∧ 5 < b.client) ∨ (1 ≤ b.client ∧ b.client ≤ 5 ∧ b.seq < 1) ∨ (1 ≤ b.client ∧ b.client ≤ 5 ∧ 1 ≤ b.seq ∧ 1099511627776 < b.seq) := by omega
  clear hin
  rcases hc with h1 | ⟨h1, h2⟩ | ⟨h1, h2, h3⟩ | ⟨h1, h2, h3, h4⟩
  all_goals
   go_enter Tryz.func28, Tryz.ntmps28
   go_wp2
   go_ret
   exact ⟨ret_bool HF.out.symm, below_one _ _⟩
end Go.Proofs.YtegkhkcnoahhdaaGreat
/-
The reference's EncodeBatch writes a batch that may be, and nothing of another one.
-/
namespace Go.Proofs.YtegkhkcnoahhdaaGreat
open Lib (hid)
open Go.RowKit
set_option maxRecDepth 100000
def encB (b : Bat) : List UInt8 := if mayB b then bytesB b else []
theorem rmayBatch_is (B : Nat) (v : Value) (b : Bat) (x : Bool) (w : World) (h : BatV w B v b) (hB : B ≤ w.heap.size) (hok : b.ok) (hl : b.ops.length ≤ 1000) (hx : mayB b = x) : Calls Tryz.prog 28 #[v] w (Bl x w) := by
 rw [← hx]; exact rmayBatch_any B v b w h hB hok hl
set_option maxRecDepth 100000 in
set_option maxHeartbeats 2000000 in
theorem rencodeBatch_any (B : Nat) (v : Value) (b : Bat) (w : World) (h : BatV w B v b) (hB : B ≤ w.heap.size) (hok : b.ok) (hl : b.ops.length ≤ 1000) : Calls Tryz.prog 41 #[v] w (Made (encB b) w) := by
 obtain ⟨x, hx⟩ : ∃ x, mayB b = x := ⟨_, rfl⟩
 have he : encB b = if x then bytesB b else [] := by unfold encB; rw [hx]
 have HE := hid he; clear he
 have HX := hid hx; clear hx
 have HB := hid h
 obtain ⟨s, rfl, -⟩ := h
 obtain ⟨W0, hW0⟩ : ∃ W0, w.alloc (Obj.cells #[Value.int IntKind.i64 b.client, Value.int IntKind.i64 b.seq, s] 33) = W0 := ⟨_, rfl⟩
 have hb0 : Below w.heap.size w W0 := by rw [← hW0]; exact below_one w _
 have hlt : w.heap.size < W0.heap.size := by rw [← hW0]; simp
 have q0 : W0.cell? ⟨w.heap.size, 0, none⟩ = some (.int .i64 b.client) := by rw [← hW0]; exact World.cell?_alloc_mark w _ _ _ 0
 have q1 : W0.cell? ⟨w.heap.size, 1, none⟩ = some (.int .i64 b.seq) := by rw [← hW0]; exact World.cell?_alloc_mark w _ _ _ 1
 have q2 : W0.cell? ⟨w.heap.size, 2, none⟩ = some s := by rw [← hW0]; exact World.cell?_alloc_mark w _ _ _ 2
 have HW := hid hW0; clear hW0
 go_enter Tryz.func41, Tryz.ntmps41
 go_wp2_with fail
 rw [HW.out]
 refine (rmayBatch_is B _ b x _ (HB.out.keep hb0 hB) (Nat.le_trans hB hb0.size) hok hl HX.out).mono ?_
 rintro e w1 ⟨rfl, hb1⟩
 have hbw1 := hb0.trans (hb1.mono (Nat.le_of_lt hlt))
 have r0 : w1.cell? ⟨w.heap.size, 0, none⟩ = some (.int .i64 b.client) := (hb1.cell (p := ⟨w.heap.size, 0, none⟩) hlt).trans q0
 have r1 : w1.cell? ⟨w.heap.size, 1, none⟩ = some (.int .i64 b.seq) := (hb1.cell (p := ⟨w.heap.size, 1, none⟩) hlt).trans q1
 have r2 : w1.cell? ⟨w.heap.size, 2, none⟩ = some s := (hb1.cell (p := ⟨w.heap.size, 2, none⟩) hlt).trans q2
 clear q0 q1 q2 hb1
 cases x
 ·go_wp2
  go_ret
  exact ⟨_, rfl, by rw [HE.out]; exact ownB_nil _ _, hbw1⟩
 ·go_wp2_with fail
  refine (rbytesOf_any B _ b _ (HB.out.keep hbw1 hB) (Nat.le_trans hB hbw1.size) hok hl).mono ?_
  rintro e w2 ⟨v2, rfl, hown2, hb2⟩
  clear r0 r1 r2
  go_wp2
  go_ret
  exact ⟨_, rfl, by rw [HE.out]; exact hown2.down hbw1.size, hbw1.trans (hb2.mono hbw1.size)⟩
end Go.Proofs.YtegkhkcnoahhdaaGreat
/-
The reference's EqBatch says whether two batches are one, as the plain function does.
-/
namespace Go.Proofs.YtegkhkcnoahhdaaGreat
open Lib (hid)
open Go.RowKit
set_option maxRecDepth 100000
def eqO (x y : Opn) : Bool := x.kind == y.kind && x.key.data.toList == y.key.data.toList && eqR x.val y.val && eqR x.old y.old && x.n == y.n
def eqOs (l m : List Opn) : Bool := decide (l.length = m.length) && (l.zip m).all fun p => eqO p.1 p.2
def eqB (a b : Bat) : Bool := a.client == b.client && a.seq == b.seq && eqOs a.ops b.ops
theorem req_v (u v : Value) (a b : Raw) (x : Bool) (w : World) (hu : u = a.val) (hv : v = b.val) (h : eqR a b = x) : Calls Tryz.prog 55 #[u, v] w (Bl x w) := by
 rw [hu, hv, ← h]; exact req_any a b w
theorem toList_inj {a b : ByteArray} (h : a.toList = b.toList) : a = b := by
 rw [ByteArray.toList_eq, ByteArray.toList_eq] at h; exact bytes_eq h
theorem zip_take (al bl : List Opn) (k : Nat) (h1 : k < al.length) (h2 : k < bl.length) : (al.take (k + 1)).zip (bl.take (k + 1)) = (al.take k).zip (bl.take k) ++ [(al[k], bl[k])] := by
 rw [List.take_add_one, List.take_add_one, List.getElem?_eq_getElem h1, List.getElem?_eq_getElem h2, List.zip_append (by simp; omega)]; rfl
theorem eqB_go {al bl : List Opn} {k : Nat} {x y : Opn} {h1 : k < al.length} {h2 : k < bl.length} (h : ((al.take k).zip (bl.take k)).all (fun p => eqO p.1 p.2) = true) (hx : al[k] = x) (hy : bl[k] = y) (he : eqO x y = true) :
  ((al.take (k + 1)).zip (bl.take (k + 1))).all (fun p => eqO p.1 p.2) = true := by
 rw [zip_take al bl k h1 h2, List.all_append, h, hx, hy]; simp [he]
theorem eqB_no {ac aq bc bq : Int} {al bl : List Opn} {k : Nat} {x y : Opn} {h1 : k < al.length} {h2 : k < bl.length} (hx : al[k] = x) (hy : bl[k] = y) (he : eqO x y = false) : eqB ⟨ac, aq, al⟩ ⟨bc, bq, bl⟩ = false := by
 have : ((al.zip bl).all fun p => eqO p.1 p.2) = false := by
  rw [List.all_eq_false]
  refine ⟨(x, y), ?_, by rw [he]; simp⟩
  rw [← hx, ← hy, ← List.getElem_zip (h := by rw [List.length_zip]; omega)]
  exact List.getElem_mem _
 unfold eqB eqOs
 rw [this]; simp
set_option maxRecDepth 100000 in
set_option maxHeartbeats 8000000 in
theorem reqBatch_any (B : Nat) (u v : Value) (a b : Bat) (w : World) (ha : BatV w B u a) (hb : BatV w B v b) (hB : B ≤ w.heap.size) (hl : a.ops.length ≤ 1000000) : Calls Tryz.prog 30 #[u, v] w (Bl (eqB a b) w) := by
 obtain ⟨s, rfl, hs⟩ := ha
 obtain ⟨t, rfl, ht⟩ := hb
 obtain ⟨ac, aq, al⟩ := a
 obtain ⟨bc, bq, bl⟩ := b
 simp only at hs ht hl ⊢
 obtain ⟨A, c, rfl, hc, hA⟩ := hs
 obtain ⟨D, d, rfl, hd, hD⟩ := ht
 by_cases h1 : ac = bc
 ·by_cases h2 : aq = bq
  ·by_cases h3 : al.length = bl.length
   ·subst h1; subst h2
    have e1 : (ac != ac) = false := by simp
    have e2 : (aq != aq) = false := by simp
    have e3 : ((al.length : Int) != (bl.length : Int)) = false := by rw [bne_eq_false_iff_eq]; omega
    have H3 := hid h3; clear h3
    have HA := hid hA; clear hA
    have HD := hid hD; clear hD
    obtain ⟨W0, hW0⟩ : ∃ W0, (w.alloc (Obj.cells #[Value.int IntKind.i64 ac, Value.int IntKind.i64 aq, Value.slice A al.length c] 33)).alloc (Obj.cells #[Value.int IntKind.i64 ac, Value.int IntKind.i64 aq, Value.slice D bl.length d] 33) = W0 := ⟨_, rfl⟩
    have hb0 : Below w.heap.size w W0 := by rw [← hW0]; exact below_two w _ _
    have g1 : w.heap.size < W0.heap.size := by rw [← hW0]; simp; omega
    have g2 : w.heap.size + 1 < W0.heap.size := by rw [← hW0]; simp
    have fa : ∀ j v, #[Value.int IntKind.i64 ac, Value.int IntKind.i64 aq, Value.slice A al.length c][j]? = some v → W0.cell? ⟨w.heap.size, j, none⟩ = some v := fun j v h => by
     rw [← hW0, (below_new (w.alloc _) _).cell (p := ⟨w.heap.size, j, none⟩) (by simp), World.cell?_alloc_mark]; exact h
    have hs1 : w.heap.size + 1 = (w.alloc (Obj.cells #[Value.int IntKind.i64 ac, Value.int IntKind.i64 aq, Value.slice A al.length c] 33)).heap.size := by simp
    have fb : ∀ j v, #[Value.int IntKind.i64 ac, Value.int IntKind.i64 aq, Value.slice D bl.length d][j]? = some v → W0.cell? ⟨w.heap.size + 1, j, none⟩ = some v := fun j v h => by
     rw [hs1, ← hW0, World.cell?_alloc_mark]; exact h
    have p0 : W0.cell? ⟨w.heap.size, 0, none⟩ = some (.int .i64 ac) := fa 0 _ rfl
    have p1 : W0.cell? ⟨w.heap.size, 1, none⟩ = some (.int .i64 aq) := fa 1 _ rfl
    have p2 : W0.cell? ⟨w.heap.size, 2, none⟩ = some (.slice A al.length c) := fa 2 _ rfl
    have r0 : W0.cell? ⟨w.heap.size + 1, 0, none⟩ = some (.int .i64 ac) := fb 0 _ rfl
    have r1 : W0.cell? ⟨w.heap.size + 1, 1, none⟩ = some (.int .i64 aq) := fb 1 _ rfl
    have r2 : W0.cell? ⟨w.heap.size + 1, 2, none⟩ = some (.slice D bl.length d) := fb 2 _ rfl
    clear fa fb hs1
    go_enter Tryz.func30, Tryz.ntmps30
    go_wp2
    have HW0 := hid hW0; clear hW0
    go_loopw [5] (fun i wr => ∃ k : Nat, i = .int .i64 k ∧ k ≤ al.length ∧ Below W0.heap.size W0 wr ∧ ((al.take k).zip (bl.take k)).all (fun p => eqO p.1 p.2) = true) (fun i _ => al.length - (intOf i).toNat)
    case atStart => exact ⟨0, rfl, by omega, Below.refl _ _, by simp⟩
    case round =>
     obtain ⟨k, rfl, hk, hbw, hall⟩ := hrel
     have HALL := hid hall; clear hall
     have pp2 : wr.cell? ⟨w.heap.size, 2, none⟩ = some (.slice A al.length c) := (hbw.cell (p := ⟨w.heap.size, 2, none⟩) g1).trans p2
     have rr2 : wr.cell? ⟨w.heap.size + 1, 2, none⟩ = some (.slice D bl.length d) := (hbw.cell (p := ⟨w.heap.size + 1, 2, none⟩) g2).trans r2
     clear p0 p1 p2 r0 r1 r2
     by_cases hkl : k < al.length
     ·have hkm : k < bl.length := by have := H3.out; omega
      obtain ⟨ga, oa, rfl, hga, hca⟩ := HA.out (by omega)
      obtain ⟨gb, ob, rfl, hgb, hcb⟩ := HD.out (by omega)
      have ha := range_below (range_below (hca k hkl) hb0 (Nat.lt_of_lt_of_le hga hB)) hbw (by omega)
      have hb := range_below (range_below (hcb k hkm) hb0 (Nat.lt_of_lt_of_le hgb hB)) hbw (by omega)
      obtain ⟨x, hx⟩ : ∃ x, al[k] = x := ⟨_, rfl⟩
      obtain ⟨y, hy⟩ : ∃ y, bl[k] = y := ⟨_, rfl⟩
      rw [hx] at ha
      rw [hy] at hb
      have hi1 : (0 : Int) ≤ (k : Int) := by omega
      have hi2 : (k : Int) < (al.length : Int) := by omega
      have hi3 : (k : Int) < (bl.length : Int) := by omega
      have HX := hid hx; have HY := hid hy
      clear hca hcb HA HD hx hy
      obtain ⟨xk, xy, ⟨vk, vn, vs⟩, ⟨ok, on, os⟩, xn⟩ := x
      obtain ⟨yk, yy, ⟨wk, wn, ws⟩, ⟨qk, qn, qs⟩, yn⟩ := y
      have a0 : wr.cell? ⟨ga, oa + k * 9, none⟩ = some (.int .i64 xk) := ha 0 _ rfl
      have a1 : wr.cell? ⟨ga, oa + k * 9 + 1, none⟩ = some (.string xy) := ha 1 _ rfl
      have a2 : wr.cell? ⟨ga, oa + k * 9 + 2, none⟩ = some (.int .i64 vk) := ha 2 _ rfl
      have a3 : wr.cell? ⟨ga, oa + k * 9 + 3, none⟩ = some (.int .i64 vn) := ha 3 _ rfl
      have a4 : wr.cell? ⟨ga, oa + k * 9 + 4, none⟩ = some (.string vs) := ha 4 _ rfl
      have a5 : wr.cell? ⟨ga, oa + k * 9 + 5, none⟩ = some (.int .i64 ok) := ha 5 _ rfl
      have a6 : wr.cell? ⟨ga, oa + k * 9 + 6, none⟩ = some (.int .i64 on) := ha 6 _ rfl
      have a7 : wr.cell? ⟨ga, oa + k * 9 + 7, none⟩ = some (.string os) := ha 7 _ rfl
      have a8 : wr.cell? ⟨ga, oa + k * 9 + 8, none⟩ = some (.int .i64 xn) := ha 8 _ rfl
      have b0 : wr.cell? ⟨gb, ob + k * 9, none⟩ = some (.int .i64 yk) := hb 0 _ rfl
      have b1 : wr.cell? ⟨gb, ob + k * 9 + 1, none⟩ = some (.string yy) := hb 1 _ rfl
      have b2 : wr.cell? ⟨gb, ob + k * 9 + 2, none⟩ = some (.int .i64 wk) := hb 2 _ rfl
      have b3 : wr.cell? ⟨gb, ob + k * 9 + 3, none⟩ = some (.int .i64 wn) := hb 3 _ rfl
      have b4 : wr.cell? ⟨gb, ob + k * 9 + 4, none⟩ = some (.string ws) := hb 4 _ rfl
      have b5 : wr.cell? ⟨gb, ob + k * 9 + 5, none⟩ = some (.int .i64 qk) := hb 5 _ rfl
      have b6 : wr.cell? ⟨gb, ob + k * 9 + 6, none⟩ = some (.int .i64 qn) := hb 6 _ rfl
      have b7 : wr.cell? ⟨gb, ob + k * 9 + 7, none⟩ = some (.string qs) := hb 7 _ rfl
      have b8 : wr.cell? ⟨gb, ob + k * 9 + 8, none⟩ = some (.int .i64 yn) := hb 8 _ rfl
      clear ha hb
      go_wp2_with fail
      go_region_held3 (fun W => W.cell? ⟨w.heap.size, 2, none⟩ = some (.slice (some ⟨ga, oa, none⟩) al.length c) ∧ W.cell? ⟨w.heap.size + 1, 2, none⟩ = some (.slice (some ⟨gb, ob, none⟩) bl.length d) ∧ W.cell? ⟨ga, oa + k * 9, none⟩ = some (.int .i64 xk) ∧ W.cell? ⟨ga, oa + k * 9 + 1, none⟩ = some (.string xy) ∧ W.cell? ⟨ga, oa + k * 9 + 2, none⟩ = some (.int .i64 vk) ∧ W.cell? ⟨ga, oa + k * 9 + 3, none⟩ = some (.int .i64 vn) ∧ W.cell? ⟨ga, oa + k * 9 + 4, none⟩ = some (.string vs) ∧ W.cell? ⟨ga, oa + k * 9 + 5, none⟩ = some (.int .i64 ok) ∧ W.cell? ⟨ga, oa + k * 9 + 6, none⟩ = some (.int .i64 on) ∧ W.cell? ⟨ga, oa + k * 9 + 7, none⟩ = some (.string os) ∧ W.cell? ⟨ga, oa + k * 9 + 8, none⟩ = some (.int .i64 xn) ∧ W.cell? ⟨gb, ob + k * 9, none⟩ = some (.int .i64 yk) ∧ W.cell? ⟨gb, ob + k * 9 + 1, none⟩ = some (.string yy) ∧ W.cell? ⟨gb, ob + k * 9 + 2, none⟩ = some (.int .i64 wk) ∧ W.cell? ⟨gb, ob + k * 9 + 3, none⟩ = some (.int .i64 wn) ∧ W.cell? ⟨gb, ob + k * 9 + 4, none⟩ = some (.string ws) ∧ W.cell? ⟨gb, ob + k * 9 + 5, none⟩ = some (.int .i64 qk) ∧ W.cell? ⟨gb, ob + k * 9 + 6, none⟩ = some (.int .i64 qn) ∧ W.cell? ⟨gb, ob + k * 9 + 7, none⟩ = some (.string qs) ∧ W.cell? ⟨gb, ob + k * 9 + 8, none⟩ = some (.int .i64 yn)) (first | exact ⟨pp2, rr2, a0, a1, a2, a3, a4, a5, a6, a7, a8, b0, b1, b2, b3, b4, b5, b6, b7, b8⟩ | go_keep) (fail)
      ·obtain ⟨W2, hW2⟩ : ∃ W2, ((wr.alloc (Obj.cells #[.int .i64 xk, .string xy, .int .i64 vk, .int .i64 vn, .string vs, .int .i64 ok, .int .i64 on, .string os, .int .i64 xn] 64)).alloc (Obj.cells #[.int .i64 yk, .string yy, .int .i64 wk, .int .i64 wn, .string ws, .int .i64 qk, .int .i64 qn, .string qs, .int .i64 yn] 64)).drew = W2 := ⟨_, rfl⟩
       have hlow : ∀ j v, (#[.int .i64 xk, .string xy, .int .i64 vk, .int .i64 vn, .string vs, .int .i64 ok, .int .i64 on, .string os, .int .i64 xn] : Array Value)[j]? = some v → W2.cell? ⟨wr.heap.size, j, none⟩ = some v := fun j v h => by
        rw [← hW2]
        exact ((below_new (wr.alloc _) _).cell (p := ⟨wr.heap.size, j, none⟩) (by simp)).trans ((World.cell?_alloc_mark wr _ _ _ j).trans h)
       have hhigh : ∀ j v, (#[.int .i64 yk, .string yy, .int .i64 wk, .int .i64 wn, .string ws, .int .i64 qk, .int .i64 qn, .string qs, .int .i64 yn] : Array Value)[j]? = some v → W2.cell? ⟨wr.heap.size + 1, j, none⟩ = some v := fun j v h => by
        rw [← hW2]
        have e := World.cell?_alloc_mark (wr.alloc (Obj.cells #[.int .i64 xk, .string xy, .int .i64 vk, .int .i64 vn, .string vs, .int .i64 ok, .int .i64 on, .string os, .int .i64 xn] 64)) #[.int .i64 yk, .string yy, .int .i64 wk, .int .i64 wn, .string ws, .int .i64 qk, .int .i64 qn, .string qs, .int .i64 yn] 64 (0, 0) j
        rw [show (wr.alloc (Obj.cells #[.int .i64 xk, .string xy, .int .i64 vk, .int .i64 vn, .string vs, .int .i64 ok, .int .i64 on, .string os, .int .i64 xn] 64)).heap.size = wr.heap.size + 1 by simp] at e
        exact e.trans h
       have hb2 : Below W0.heap.size W0 W2 := by rw [← hW2]; exact ((hbw.alloc hbw.size _).alloc (Nat.le_trans hbw.size (by simp)) _).drew
       have hgx : wr.heap.size < W2.heap.size := by rw [← hW2]; show _ < ((wr.alloc _).alloc _).heap.size; simp; try omega
       have hgy : wr.heap.size + 1 < W2.heap.size := by rw [← hW2]; show _ < ((wr.alloc _).alloc _).heap.size; simp; try omega
       have c0 : W2.cell? ⟨wr.heap.size, 0, none⟩ = some (.int .i64 xk) := hlow 0 _ rfl
       have d0 : W2.cell? ⟨wr.heap.size + 1, 0, none⟩ = some (.int .i64 yk) := hhigh 0 _ rfl
       have c1 : W2.cell? ⟨wr.heap.size, 1, none⟩ = some (.string xy) := hlow 1 _ rfl
       have d1 : W2.cell? ⟨wr.heap.size + 1, 1, none⟩ = some (.string yy) := hhigh 1 _ rfl
       have c2 : W2.cell? ⟨wr.heap.size, 2, none⟩ = some (.int .i64 vk) := hlow 2 _ rfl
       have d2 : W2.cell? ⟨wr.heap.size + 1, 2, none⟩ = some (.int .i64 wk) := hhigh 2 _ rfl
       have c3 : W2.cell? ⟨wr.heap.size, 3, none⟩ = some (.int .i64 vn) := hlow 3 _ rfl
       have d3 : W2.cell? ⟨wr.heap.size + 1, 3, none⟩ = some (.int .i64 wn) := hhigh 3 _ rfl
       have c4 : W2.cell? ⟨wr.heap.size, 4, none⟩ = some (.string vs) := hlow 4 _ rfl
       have d4 : W2.cell? ⟨wr.heap.size + 1, 4, none⟩ = some (.string ws) := hhigh 4 _ rfl
       have c5 : W2.cell? ⟨wr.heap.size, 5, none⟩ = some (.int .i64 ok) := hlow 5 _ rfl
       have d5 : W2.cell? ⟨wr.heap.size + 1, 5, none⟩ = some (.int .i64 qk) := hhigh 5 _ rfl
       have c6 : W2.cell? ⟨wr.heap.size, 6, none⟩ = some (.int .i64 on) := hlow 6 _ rfl
       have d6 : W2.cell? ⟨wr.heap.size + 1, 6, none⟩ = some (.int .i64 qn) := hhigh 6 _ rfl
       have c7 : W2.cell? ⟨wr.heap.size, 7, none⟩ = some (.string os) := hlow 7 _ rfl
       have d7 : W2.cell? ⟨wr.heap.size + 1, 7, none⟩ = some (.string qs) := hhigh 7 _ rfl
       have c8 : W2.cell? ⟨wr.heap.size, 8, none⟩ = some (.int .i64 xn) := hlow 8 _ rfl
       have d8 : W2.cell? ⟨wr.heap.size + 1, 8, none⟩ = some (.int .i64 yn) := hhigh 8 _ rfl
       have HW2 := hid hW2; rw [hW2]; clear hW2 hlow hhigh
       by_cases k1 : xk = yk
       ·have n1 : (xk != yk) = false := by rw [k1]; simp
        by_cases k2 : xy = yy
        ·have n2 : (xy.toList == yy.toList) = true := by rw [k2]; simp
         obtain ⟨ev, hev⟩ : ∃ ev, eqR ⟨vk, vn, vs⟩ ⟨wk, wn, ws⟩ = ev := ⟨_, rfl⟩
         obtain ⟨eo, heo⟩ : ∃ eo, eqR ⟨ok, on, os⟩ ⟨qk, qn, qs⟩ = eo := ⟨_, rfl⟩
         have hE : eqO ⟨xk, xy, ⟨vk, vn, vs⟩, ⟨ok, on, os⟩, xn⟩ ⟨yk, yy, ⟨wk, wn, ws⟩, ⟨qk, qn, qs⟩, yn⟩ = (ev && eo && xn == yn) := by unfold eqO; rw [hev, heo, k1, k2]; simp
         have HE := hid hE; have HEV := hid hev; have HEO := hid heo; have HK1 := hid k1; have HK2 := hid k2
         clear hE hev heo k1 k2
         go_wp2_with fail
         refine (req_v _ _ ⟨vk, vn, vs⟩ ⟨wk, wn, ws⟩ ev _ rfl rfl HEV.out).mono ?_
         rintro e w3 ⟨rfl, hb3⟩
         have hbb3 := hb2.trans (hb3.mono hb2.size)
         have ec5 : w3.cell? ⟨wr.heap.size, 5, none⟩ = some (.int .i64 ok) := (hb3.cell (p := ⟨wr.heap.size, 5, none⟩) hgx).trans c5
         have ed5 : w3.cell? ⟨wr.heap.size + 1, 5, none⟩ = some (.int .i64 qk) := (hb3.cell (p := ⟨wr.heap.size + 1, 5, none⟩) hgy).trans d5
         have ec6 : w3.cell? ⟨wr.heap.size, 6, none⟩ = some (.int .i64 on) := (hb3.cell (p := ⟨wr.heap.size, 6, none⟩) hgx).trans c6
         have ed6 : w3.cell? ⟨wr.heap.size + 1, 6, none⟩ = some (.int .i64 qn) := (hb3.cell (p := ⟨wr.heap.size + 1, 6, none⟩) hgy).trans d6
         have ec7 : w3.cell? ⟨wr.heap.size, 7, none⟩ = some (.string os) := (hb3.cell (p := ⟨wr.heap.size, 7, none⟩) hgx).trans c7
         have ed7 : w3.cell? ⟨wr.heap.size + 1, 7, none⟩ = some (.string qs) := (hb3.cell (p := ⟨wr.heap.size + 1, 7, none⟩) hgy).trans d7
         have ec8 : w3.cell? ⟨wr.heap.size, 8, none⟩ = some (.int .i64 xn) := (hb3.cell (p := ⟨wr.heap.size, 8, none⟩) hgx).trans c8
         have ed8 : w3.cell? ⟨wr.heap.size + 1, 8, none⟩ = some (.int .i64 yn) := (hb3.cell (p := ⟨wr.heap.size + 1, 8, none⟩) hgy).trans d8
         have hgx1 := Nat.lt_of_lt_of_le hgx hb3.size
         have hgy1 := Nat.lt_of_lt_of_le hgy hb3.size
         clear c0 d0 c1 d1 c2 d2 c3 d3 c4 d4 c5 d5 c6 d6 c7 d7 c8 d8
         cases ev
         ·have hf := eqB_no (ac := ac) (aq := aq) (bc := ac) (bq := aq) HX.out HY.out (by rw [HE.out]; simp)
          have HF := hid hf; clear hf
          go_wp2
          go_ret
          exact ⟨ret_bool HF.out.symm, (hb0.trans (hbb3.mono (Nat.le_of_lt g1)))⟩
         ·go_wp2_with fail
          refine (req_v _ _ ⟨ok, on, os⟩ ⟨qk, qn, qs⟩ eo _ rfl rfl HEO.out).mono ?_
          rintro e w4 ⟨rfl, hb4⟩
          have hbb4 := hbb3.trans (hb4.mono hbb3.size)
          have fc8 : w4.cell? ⟨wr.heap.size, 8, none⟩ = some (.int .i64 xn) := (hb4.cell (p := ⟨wr.heap.size, 8, none⟩) hgx1).trans ec8
          have fd8 : w4.cell? ⟨wr.heap.size + 1, 8, none⟩ = some (.int .i64 yn) := (hb4.cell (p := ⟨wr.heap.size + 1, 8, none⟩) hgy1).trans ed8
          clear ec5 ec6 ec7 ec8 ed5 ed6 ed7 ed8
          cases eo
          ·have hf := eqB_no (ac := ac) (aq := aq) (bc := ac) (bq := aq) HX.out HY.out (by rw [HE.out]; simp)
           have HF := hid hf; clear hf
           go_wp2
           go_ret
           exact ⟨ret_bool HF.out.symm, (hb0.trans (hbb4.mono (Nat.le_of_lt g1)))⟩
          ·by_cases k3 : xn = yn
           ·have n3 : (xn != yn) = false := by rw [k3]; simp
            have hy2 := eqB_go HALL.out HX.out HY.out (by rw [HE.out, k3]; simp)
            have HG := hid hy2; clear hy2
            clear k3
            go_wp2
            go_roundw
            case rel => exact ⟨k + 1, by go_num, by omega, hbb4, HG.out⟩
            case measure => simp [intOf]; omega
           ·have n3 : (xn != yn) = true := by rw [bne_iff_ne]; exact k3
            have hf := eqB_no (ac := ac) (aq := aq) (bc := ac) (bq := aq) HX.out HY.out (by rw [HE.out, beq_eq_false_iff_ne.2 k3]; simp)
            have HF := hid hf; clear hf k3
            go_wp2
            go_ret
            exact ⟨ret_bool HF.out.symm, (hb0.trans (hbb4.mono (Nat.le_of_lt g1)))⟩
        ·have n2 : (xy.toList == yy.toList) = false := by rw [beq_eq_false_iff_ne]; exact fun e => k2 (toList_inj e)
         have hf := eqB_no (ac := ac) (aq := aq) (bc := ac) (bq := aq) HX.out HY.out (by unfold eqO; rw [beq_eq_false_iff_ne.2 (fun e => k2 (bytes_eq e))]; simp)
         have HF := hid hf; clear hf k2
         go_wp2
         go_ret
         exact ⟨ret_bool HF.out.symm, (hb0.trans (hb2.mono (Nat.le_of_lt g1)))⟩
       ·have n1 : (xk != yk) = true := by rw [bne_iff_ne]; exact k1
        have hf := eqB_no (ac := ac) (aq := aq) (bc := ac) (bq := aq) HX.out HY.out (by unfold eqO; rw [beq_eq_false_iff_ne.2 k1]; simp)
        have HF := hid hf; clear hf k1
        go_wp2
        go_ret
        exact ⟨ret_bool HF.out.symm, (hb0.trans (hb2.mono (Nat.le_of_lt g1)))⟩
      ·obtain ⟨W2, hW2⟩ : ∃ W2, ((wr.alloc (Obj.cells #[.int .i64 yk, .string yy, .int .i64 wk, .int .i64 wn, .string ws, .int .i64 qk, .int .i64 qn, .string qs, .int .i64 yn] 64)).alloc (Obj.cells #[.int .i64 xk, .string xy, .int .i64 vk, .int .i64 vn, .string vs, .int .i64 ok, .int .i64 on, .string os, .int .i64 xn] 64)).drew = W2 := ⟨_, rfl⟩
       have hlow : ∀ j v, (#[.int .i64 yk, .string yy, .int .i64 wk, .int .i64 wn, .string ws, .int .i64 qk, .int .i64 qn, .string qs, .int .i64 yn] : Array Value)[j]? = some v → W2.cell? ⟨wr.heap.size, j, none⟩ = some v := fun j v h => by
        rw [← hW2]
        exact ((below_new (wr.alloc _) _).cell (p := ⟨wr.heap.size, j, none⟩) (by simp)).trans ((World.cell?_alloc_mark wr _ _ _ j).trans h)
       have hhigh : ∀ j v, (#[.int .i64 xk, .string xy, .int .i64 vk, .int .i64 vn, .string vs, .int .i64 ok, .int .i64 on, .string os, .int .i64 xn] : Array Value)[j]? = some v → W2.cell? ⟨wr.heap.size + 1, j, none⟩ = some v := fun j v h => by
        rw [← hW2]
        have e := World.cell?_alloc_mark (wr.alloc (Obj.cells #[.int .i64 yk, .string yy, .int .i64 wk, .int .i64 wn, .string ws, .int .i64 qk, .int .i64 qn, .string qs, .int .i64 yn] 64)) #[.int .i64 xk, .string xy, .int .i64 vk, .int .i64 vn, .string vs, .int .i64 ok, .int .i64 on, .string os, .int .i64 xn] 64 (0, 0) j
        rw [show (wr.alloc (Obj.cells #[.int .i64 yk, .string yy, .int .i64 wk, .int .i64 wn, .string ws, .int .i64 qk, .int .i64 qn, .string qs, .int .i64 yn] 64)).heap.size = wr.heap.size + 1 by simp] at e
        exact e.trans h
       have hb2 : Below W0.heap.size W0 W2 := by rw [← hW2]; exact ((hbw.alloc hbw.size _).alloc (Nat.le_trans hbw.size (by simp)) _).drew
       have hgx : wr.heap.size + 1 < W2.heap.size := by rw [← hW2]; show _ < ((wr.alloc _).alloc _).heap.size; simp; try omega
       have hgy : wr.heap.size < W2.heap.size := by rw [← hW2]; show _ < ((wr.alloc _).alloc _).heap.size; simp; try omega
       have c0 : W2.cell? ⟨wr.heap.size + 1, 0, none⟩ = some (.int .i64 xk) := hhigh 0 _ rfl
       have d0 : W2.cell? ⟨wr.heap.size, 0, none⟩ = some (.int .i64 yk) := hlow 0 _ rfl
       have c1 : W2.cell? ⟨wr.heap.size + 1, 1, none⟩ = some (.string xy) := hhigh 1 _ rfl
       have d1 : W2.cell? ⟨wr.heap.size, 1, none⟩ = some (.string yy) := hlow 1 _ rfl
       have c2 : W2.cell? ⟨wr.heap.size + 1, 2, none⟩ = some (.int .i64 vk) := hhigh 2 _ rfl
       have d2 : W2.cell? ⟨wr.heap.size, 2, none⟩ = some (.int .i64 wk) := hlow 2 _ rfl
       have c3 : W2.cell? ⟨wr.heap.size + 1, 3, none⟩ = some (.int .i64 vn) := hhigh 3 _ rfl
       have d3 : W2.cell? ⟨wr.heap.size, 3, none⟩ = some (.int .i64 wn) := hlow 3 _ rfl
       have c4 : W2.cell? ⟨wr.heap.size + 1, 4, none⟩ = some (.string vs) := hhigh 4 _ rfl
       have d4 : W2.cell? ⟨wr.heap.size, 4, none⟩ = some (.string ws) := hlow 4 _ rfl
       have c5 : W2.cell? ⟨wr.heap.size + 1, 5, none⟩ = some (.int .i64 ok) := hhigh 5 _ rfl
       have d5 : W2.cell? ⟨wr.heap.size, 5, none⟩ = some (.int .i64 qk) := hlow 5 _ rfl
       have c6 : W2.cell? ⟨wr.heap.size + 1, 6, none⟩ = some (.int .i64 on) := hhigh 6 _ rfl
       have d6 : W2.cell? ⟨wr.heap.size, 6, none⟩ = some (.int .i64 qn) := hlow 6 _ rfl
       have c7 : W2.cell? ⟨wr.heap.size + 1, 7, none⟩ = some (.string os) := hhigh 7 _ rfl
       have d7 : W2.cell? ⟨wr.heap.size, 7, none⟩ = some (.string qs) := hlow 7 _ rfl
       have c8 : W2.cell? ⟨wr.heap.size + 1, 8, none⟩ = some (.int .i64 xn) := hhigh 8 _ rfl
       have d8 : W2.cell? ⟨wr.heap.size, 8, none⟩ = some (.int .i64 yn) := hlow 8 _ rfl
       have HW2 := hid hW2; rw [hW2]; clear hW2 hlow hhigh
       by_cases k1 : xk = yk
       ·have n1 : (xk != yk) = false := by rw [k1]; simp
        by_cases k2 : xy = yy
        ·have n2 : (xy.toList == yy.toList) = true := by rw [k2]; simp
         obtain ⟨ev, hev⟩ : ∃ ev, eqR ⟨vk, vn, vs⟩ ⟨wk, wn, ws⟩ = ev := ⟨_, rfl⟩
         obtain ⟨eo, heo⟩ : ∃ eo, eqR ⟨ok, on, os⟩ ⟨qk, qn, qs⟩ = eo := ⟨_, rfl⟩
         have hE : eqO ⟨xk, xy, ⟨vk, vn, vs⟩, ⟨ok, on, os⟩, xn⟩ ⟨yk, yy, ⟨wk, wn, ws⟩, ⟨qk, qn, qs⟩, yn⟩ = (ev && eo && xn == yn) := by unfold eqO; rw [hev, heo, k1, k2]; simp
         have HE := hid hE; have HEV := hid hev; have HEO := hid heo; have HK1 := hid k1; have HK2 := hid k2
         clear hE hev heo k1 k2
         go_wp2_with fail
         refine (req_v _ _ ⟨vk, vn, vs⟩ ⟨wk, wn, ws⟩ ev _ rfl rfl HEV.out).mono ?_
         rintro e w3 ⟨rfl, hb3⟩
         have hbb3 := hb2.trans (hb3.mono hb2.size)
         have ec5 : w3.cell? ⟨wr.heap.size + 1, 5, none⟩ = some (.int .i64 ok) := (hb3.cell (p := ⟨wr.heap.size + 1, 5, none⟩) hgx).trans c5
         have ed5 : w3.cell? ⟨wr.heap.size, 5, none⟩ = some (.int .i64 qk) := (hb3.cell (p := ⟨wr.heap.size, 5, none⟩) hgy).trans d5
         have ec6 : w3.cell? ⟨wr.heap.size + 1, 6, none⟩ = some (.int .i64 on) := (hb3.cell (p := ⟨wr.heap.size + 1, 6, none⟩) hgx).trans c6
         have ed6 : w3.cell? ⟨wr.heap.size, 6, none⟩ = some (.int .i64 qn) := (hb3.cell (p := ⟨wr.heap.size, 6, none⟩) hgy).trans d6
         have ec7 : w3.cell? ⟨wr.heap.size + 1, 7, none⟩ = some (.string os) := (hb3.cell (p := ⟨wr.heap.size + 1, 7, none⟩) hgx).trans c7
         have ed7 : w3.cell? ⟨wr.heap.size, 7, none⟩ = some (.string qs) := (hb3.cell (p := ⟨wr.heap.size, 7, none⟩) hgy).trans d7
         have ec8 : w3.cell? ⟨wr.heap.size + 1, 8, none⟩ = some (.int .i64 xn) := (hb3.cell (p := ⟨wr.heap.size + 1, 8, none⟩) hgx).trans c8
         have ed8 : w3.cell? ⟨wr.heap.size, 8, none⟩ = some (.int .i64 yn) := (hb3.cell (p := ⟨wr.heap.size, 8, none⟩) hgy).trans d8
         have hgx1 := Nat.lt_of_lt_of_le hgx hb3.size
         have hgy1 := Nat.lt_of_lt_of_le hgy hb3.size
         clear c0 d0 c1 d1 c2 d2 c3 d3 c4 d4 c5 d5 c6 d6 c7 d7 c8 d8
         cases ev
         ·have hf := eqB_no (ac := ac) (aq := aq) (bc := ac) (bq := aq) HX.out HY.out (by rw [HE.out]; simp)
          have HF := hid hf; clear hf
          go_wp2
          go_ret
          exact ⟨ret_bool HF.out.symm, (hb0.trans (hbb3.mono (Nat.le_of_lt g1)))⟩
         ·go_wp2_with fail
          refine (req_v _ _ ⟨ok, on, os⟩ ⟨qk, qn, qs⟩ eo _ rfl rfl HEO.out).mono ?_
          rintro e w4 ⟨rfl, hb4⟩
          have hbb4 := hbb3.trans (hb4.mono hbb3.size)
          have fc8 : w4.cell? ⟨wr.heap.size + 1, 8, none⟩ = some (.int .i64 xn) := (hb4.cell (p := ⟨wr.heap.size + 1, 8, none⟩) hgx1).trans ec8
          have fd8 : w4.cell? ⟨wr.heap.size, 8, none⟩ = some (.int .i64 yn) := (hb4.cell (p := ⟨wr.heap.size, 8, none⟩) hgy1).trans ed8
          clear ec5 ec6 ec7 ec8 ed5 ed6 ed7 ed8
          cases eo
          ·have hf := eqB_no (ac := ac) (aq := aq) (bc := ac) (bq := aq) HX.out HY.out (by rw [HE.out]; simp)
           have HF := hid hf; clear hf
           go_wp2
           go_ret
           exact ⟨ret_bool HF.out.symm, (hb0.trans (hbb4.mono (Nat.le_of_lt g1)))⟩
          ·by_cases k3 : xn = yn
           ·have n3 : (xn != yn) = false := by rw [k3]; simp
            have hy2 := eqB_go HALL.out HX.out HY.out (by rw [HE.out, k3]; simp)
            have HG := hid hy2; clear hy2
            clear k3
            go_wp2
            go_roundw
            case rel => exact ⟨k + 1, by go_num, by omega, hbb4, HG.out⟩
            case measure => simp [intOf]; omega
           ·have n3 : (xn != yn) = true := by rw [bne_iff_ne]; exact k3
            have hf := eqB_no (ac := ac) (aq := aq) (bc := ac) (bq := aq) HX.out HY.out (by rw [HE.out, beq_eq_false_iff_ne.2 k3]; simp)
            have HF := hid hf; clear hf k3
            go_wp2
            go_ret
            exact ⟨ret_bool HF.out.symm, (hb0.trans (hbb4.mono (Nat.le_of_lt g1)))⟩
        ·have n2 : (xy.toList == yy.toList) = false := by rw [beq_eq_false_iff_ne]; exact fun e => k2 (toList_inj e)
         have hf := eqB_no (ac := ac) (aq := aq) (bc := ac) (bq := aq) HX.out HY.out (by unfold eqO; rw [beq_eq_false_iff_ne.2 (fun e => k2 (bytes_eq e))]; simp)
         have HF := hid hf; clear hf k2
         go_wp2
         go_ret
         exact ⟨ret_bool HF.out.symm, (hb0.trans (hb2.mono (Nat.le_of_lt g1)))⟩
       ·have n1 : (xk != yk) = true := by rw [bne_iff_ne]; exact k1
        have hf := eqB_no (ac := ac) (aq := aq) (bc := ac) (bq := aq) HX.out HY.out (by unfold eqO; rw [beq_eq_false_iff_ne.2 k1]; simp)
        have HF := hid hf; clear hf k1
        go_wp2
        go_ret
        exact ⟨ret_bool HF.out.symm, (hb0.trans (hb2.mono (Nat.le_of_lt g1)))⟩
     ·have hfin : eqB ⟨ac, aq, al⟩ ⟨ac, aq, bl⟩ = true := by
       have h1 := HALL.out
       rw [List.take_of_length_le (by omega), List.take_of_length_le (by have := H3.out; omega)] at h1
       unfold eqB eqOs
       rw [h1, decide_eq_true H3.out]; simp
      have HF := hid hfin; clear hfin HALL
      go_wp2
      go_ret
      exact ⟨ret_bool HF.out.symm, hb0.trans (hbw.mono (Nat.le_of_lt g1))⟩
   ·have e3 : ((al.length : Int) != (bl.length : Int)) = true := by rw [bne_iff_ne]; omega
    have hf : eqB ⟨ac, aq, al⟩ ⟨bc, bq, bl⟩ = false := by unfold eqB eqOs; rw [decide_eq_false h3]; simp
    subst h1; subst h2
    have e1 : (ac != ac) = false := by simp
    have e2 : (aq != aq) = false := by simp
    have HF := hid hf; clear hf h3 hA hD
    go_enter Tryz.func30, Tryz.ntmps30
    go_wp2
    go_ret
    exact ⟨ret_bool HF.out.symm, below_two _ _ _⟩
  ·have e2 : (aq != bq) = true := by rw [bne_iff_ne]; exact h2
   have hf : eqB ⟨ac, aq, al⟩ ⟨bc, bq, bl⟩ = false := by unfold eqB; rw [beq_eq_false_iff_ne.2 h2]; simp
   subst h1
   have e1 : (ac != ac) = false := by simp
   have HF := hid hf; clear hf h2 hA hD
   go_enter Tryz.func30, Tryz.ntmps30
   go_wp2
   go_ret
   exact ⟨ret_bool HF.out.symm, below_two _ _ _⟩
 ·have e1 : (ac != bc) = true := by rw [bne_iff_ne]; exact h1
  have hf : eqB ⟨ac, aq, al⟩ ⟨bc, bq, bl⟩ = false := by unfold eqB; rw [beq_eq_false_iff_ne.2 h1]; simp
  have HF := hid hf; clear hf h1 hA hD
  go_enter Tryz.func30, Tryz.ntmps30
  go_wp2
  go_ret
  exact ⟨ret_bool HF.out.symm, below_two _ _ _⟩
end Go.Proofs.YtegkhkcnoahhdaaGreat
/-
Plain facts on numbers written seven bits a byte, with no program in them: what is read has just one text of bytes.
-/
set_option linter.unusedVariables false
namespace Go.Proofs.YtegkhkcnoahhdaaGreat.Nu
open Go
theorem getF_canon : ∀ (l : List UInt8) (i u : Nat) (n : Int) (k : Nat), i ≤ 9 → u < 128 ^ i → getF i u (128 ^ i) l = (n, k, 0) →
  ∃ q : Nat, n = unzz (u + q * 128 ^ i) ∧ i ≤ k ∧ l.take (k - i) = vr (10 - i) q ∧ q < 2 * 128 ^ (9 - i) ∧ (0 < i → q ≠ 0) := by
 intro l; induction l with
 | nil => intro i u n k _ _ h; simp [getF] at h
 | cons c t ih =>
  intro i u n k hi hu h
  have hc := c.toNat_lt
  simp only [getF] at h
  by_cases hbad : (i = 9 ∧ 1 < c.toNat) ∨ (0 < i ∧ c.toNat = 0)
  ·rw [if_pos hbad] at h; simp at h
  ·rw [if_neg hbad] at h
   by_cases hlt : c.toNat < 128
   ·rw [if_pos hlt] at h
    simp only [Prod.mk.injEq] at h
    obtain ⟨rfl, rfl, _⟩ := h
    refine ⟨c.toNat, by rw [Nat.mod_eq_of_lt hlt], by omega, ?_, ?_, fun h0 => by omega⟩
    ·rw [show i + 1 - i = 1 by omega]
     have hf : 10 - i = (9 - i) + 1 := by omega
     rw [hf]; simp only [vr, if_pos hlt, List.take_succ_cons, List.take_zero]
     simp [Nat.toUInt8]
    ·by_cases h9 : i = 9
     ·subst h9; simp; omega
     ·have : (128 : Nat) ^ 1 ≤ 128 ^ (9 - i) := Nat.pow_le_pow_right (by decide) (by omega)
      simp at this; omega
   ·rw [if_neg hlt] at h
    have hi8 : i ≤ 8 := by omega
    have hp : (128 : Nat) ^ (i + 1) = 128 ^ i * 128 := Nat.pow_succ ..
    have hu2 : u + c.toNat % 128 * 128 ^ i < 128 ^ (i + 1) := by
     have h2 : c.toNat % 128 * 128 ^ i ≤ 127 * 128 ^ i := Nat.mul_le_mul_right _ (by omega)
     omega
    rw [← hp] at h
    obtain ⟨q, hq1, hq2, hq3, hq4, hq5⟩ := ih (i + 1) _ n k (by omega) hu2 h
    have hq0 := hq5 (by omega)
    refine ⟨c.toNat % 128 + q * 128, ?_, by omega, ?_, ?_, fun _ => by omega⟩
    ·rw [hq1, hp]; congr 1
     rw [Nat.add_mul, Nat.mul_assoc, Nat.mul_comm 128, Nat.add_assoc]
    ·have hki : k - i = (k - (i + 1)) + 1 := by omega
     have hf : 10 - i = (10 - (i + 1)) + 1 := by omega
     rw [hki, hf]
     simp only [vr]
     rw [if_neg (by omega), List.take_succ_cons, hq3]
     congr 1
     ·have e1 : (c.toNat % 128 + q * 128) % 128 + 128 = c.toNat := by omega
      rw [e1]; simp [Nat.toUInt8]
     ·congr 1; omega
    ·have hf : 9 - i = (9 - (i + 1)) + 1 := by omega
     rw [hf, Nat.pow_succ]
     omega
theorem get_canon (l : List UInt8) (n : Int) (k : Nat) (h : get l = (n, k, 0)) : l.take k = put n ∧ k = (put n).length ∧ -9223372036854775808 ≤ n ∧ n ≤ 9223372036854775807 := by
 obtain ⟨q, hq1, _, hq3, hq4, _⟩ := getF_canon l 0 0 n k (by decide) (by decide) h
 have h9 : (128 : Nat) ^ 9 = 9223372036854775808 := by decide
 simp only [Nat.zero_add, Nat.pow_zero, Nat.mul_one, Nat.sub_zero] at hq1 hq3 hq4
 rw [h9] at hq4
 have hz : zz n = q := by rw [hq1, zz_unzz]
 have hp : put n = vr 10 q := by unfold put var; rw [hz]
 have hlen : k ≤ l.length := by have := get_len l; rw [h] at this; exact this
 refine ⟨by rw [hp, hq3], ?_, ?_, ?_⟩
 ·have := congrArg List.length hq3
  rw [List.length_take, Nat.min_eq_left hlen] at this
  rw [hp]; exact this
 ·rw [hq1]; unfold unzz; split <;> omega
 ·rw [hq1]; unfold unzz; split <;> omega
theorem get_split (l : List UInt8) (n : Int) (k : Nat) (h : get l = (n, k, 0)) : l = put n ++ l.drop k := by
 have h1 := (get_canon l n k h).1
 conv => lhs; rw [← List.take_append_drop k l, h1]
theorem getT_canon (l t : List UInt8) (k : Nat) (h : getT l = (t, k, 0)) : l = putT t ++ l.drop k ∧ k = (putT t).length ∧ t.length ≤ 1048576 := by
 unfold getT at h
 obtain ⟨x, hg⟩ : ∃ x, get l = x := ⟨_, rfl⟩
 obtain ⟨n, j, e⟩ := x
 rw [hg] at h
 simp only at h
 by_cases he : e = 0
 ·subst he
  simp only [ne_eq, not_true_eq_false, if_false] at h
  by_cases h1 : n < 0 ∨ 1048576 < n
  ·rw [if_pos h1] at h; simp at h
  ·rw [if_neg h1] at h
   by_cases h2 : (l.length : Int) - j < n
   ·rw [if_pos h2] at h; simp at h
   ·rw [if_neg h2] at h
    simp only [Prod.mk.injEq] at h
    obtain ⟨rfl, rfl, _⟩ := h
    have hs := get_split l n j hg
    have hk := (get_canon l n j hg).2.1
    have hj : j ≤ l.length := by have := get_len l; rw [hg] at this; exact this
    have hlen : ((l.drop j).take n.toNat).length = n.toNat := by rw [List.length_take, List.length_drop]; omega
    have hn : ((((l.drop j).take n.toNat).length : Nat) : Int) = n := by rw [hlen]; omega
    unfold putT
    rw [hn]
    refine ⟨?_, by rw [List.length_append, ← hk, hlen], by omega⟩
    rw [List.append_assoc, ← List.drop_drop, List.take_append_drop]
    exact hs
 ·rw [if_pos he] at h
  simp only [Prod.mk.injEq] at h
  omega
end Go.Proofs.YtegkhkcnoahhdaaGreat.Nu
/-
Plain facts on values written as bytes, with no program's run in them: what is written is read again.
-/
namespace Go.Proofs.YtegkhkcnoahhdaaGreat
open Go.RowKit
set_option maxRecDepth 100000
def pNum (l : List UInt8) : Option (Int × List UInt8) := if (Nu.get l).2.2 = 0 then some ((Nu.get l).1, l.drop (Nu.get l).2.1) else none
def pTxt (l : List UInt8) : Option (ByteArray × List UInt8) := if (Nu.getT l).2.2 = 0 then some (⟨(Nu.getT l).1.toArray⟩, l.drop (Nu.getT l).2.1) else none
def pRaw (l : List UInt8) : Option (Raw × List UInt8) := if (getR l).2.2 = 0 then some ((getR l).1, l.drop (getR l).2.1) else none
theorem pNum_put (n : Int) (r : List UInt8) (h0 : -9223372036854775808 ≤ n) (h1 : n ≤ 9223372036854775807) : pNum (Nu.put n ++ r) = some (n, r) := by
 unfold pNum; rw [Nu.get_put n r h0 h1]; simp
theorem pTxt_putT (s : ByteArray) (r : List UInt8) (h : s.size ≤ 1000000) : pTxt (Nu.putT s.data.toList ++ r) = some (s, r) := by
 have hl : s.data.toList.length = s.size := by rw [Array.length_toList]; rfl
 unfold pTxt; rw [Nu.getT_putT s.data.toList r (by omega)]; simp
theorem getR_putR (r : Raw) (t : List UInt8) (h : mayR r = true) (hok : r.ok) : getR (putR r ++ t) = (r, (putR r).length, 0) := by
 obtain ⟨k, n, s⟩ := r
 obtain ⟨⟨k0, k1⟩, ⟨n0, n1⟩, hs⟩ := hok
 simp only at k0 k1 n0 n1 hs
 have hl : s.data.toList.length = s.size := by rw [Array.length_toList]; rfl
 unfold mayR at h
 simp only at h
 by_cases h0 : k = 0
 ·subst h0
  simp at h
  have hs0 : s = ⟨#[]⟩ := bytes_eq (by simp [h.2])
  have e : putR ⟨0, n, s⟩ = Nu.put 0 := by unfold putR; simp
  rw [e, getR_0 _ _ (Nu.get_put 0 t (by decide) (by decide)), h.1, hs0]; rfl
 ·by_cases h1 : k = 1
  ·subst h1
   simp at h
   have hs0 : s = ⟨#[]⟩ := bytes_eq (by simp [h])
   have e : putR ⟨1, n, s⟩ = Nu.put 1 ++ Nu.put n := by unfold putR; simp
   rw [e, List.append_assoc, getR_1 _ _ n (Nu.put n).length (Nu.get_put 1 _ (by decide) (by decide)) (by rw [List.drop_left]; exact Nu.get_put n t n0 n1), hs0, List.length_append]
  ·by_cases h2 : k = 2
   ·subst h2
    simp at h
    have e : putR ⟨2, n, s⟩ = Nu.put 2 ++ Nu.putT s.data.toList := by unfold putR; simp
    rw [e, List.append_assoc, getR_2 _ _ s.data.toList (Nu.putT s.data.toList).length (Nu.get_put 2 _ (by decide) (by decide)) (by rw [List.drop_left]; exact Nu.getT_putT _ t (by omega))]
    rw [if_pos (by rw [h.1.2, hl]; simpa using h.2), List.length_append, h.1.1]
   ·simp [h0, h1, h2] at h
theorem pRaw_putR (r : Raw) (t : List UInt8) (h : mayR r = true) (hok : r.ok) : pRaw (putR r ++ t) = some (r, t) := by
 unfold pRaw; rw [getR_putR r t h hok]; simp
theorem getR_canon (l : List UInt8) (r : Raw) (k : Nat) (h : getR l = (r, k, 0)) : l = putR r ++ l.drop k ∧ k = (putR r).length ∧ mayR r = true ∧ r.ok := by
 obtain ⟨x, hg⟩ : ∃ x, Nu.get l = x := ⟨_, rfl⟩
 obtain ⟨n, j, e⟩ := x
 by_cases he : e = 0
 ·subst he
  have hs := Nu.get_split l n j hg
  have hc := Nu.get_canon l n j hg
  by_cases h0 : n = 0
  ·subst h0
   rw [getR_0 l j hg] at h
   simp only [Prod.mk.injEq] at h
   obtain ⟨rfl, rfl, _⟩ := h
   have e1 : putR noRaw = Nu.put 0 := by unfold putR noRaw; simp
   rw [e1]
   exact ⟨hs, hc.2.1, rfl, ⟨by decide, by decide⟩, ⟨by decide, by decide⟩, by decide⟩
  ·by_cases h1 : n = 1
   ·subst h1
    obtain ⟨y, hy⟩ : ∃ y, Nu.get (l.drop j) = y := ⟨_, rfl⟩
    obtain ⟨m, i, e2⟩ := y
    by_cases he2 : e2 = 0
    ·subst he2
     rw [getR_1 l j m i hg hy] at h
     simp only [Prod.mk.injEq] at h
     obtain ⟨rfl, rfl, _⟩ := h
     have hs2 := Nu.get_split _ m i hy
     have hc2 := Nu.get_canon _ m i hy
     have e1 : putR ⟨1, m, ⟨#[]⟩⟩ = Nu.put 1 ++ Nu.put m := by unfold putR; simp
     rw [e1]
     refine ⟨?_, by rw [List.length_append, ← hc.2.1, ← hc2.2.1], rfl, ⟨(by decide : (-9223372036854775808 : Int) ≤ 1), (by decide : (1 : Int) ≤ 9223372036854775807)⟩, hc2.2.2, by show (0 : Nat) ≤ _; omega⟩
     rw [List.append_assoc, ← List.drop_drop, ← hs2]; exact hs
    ·rw [getR_1e l j m i e2 hg hy he2] at h
     simp only [Prod.mk.injEq] at h; omega
   ·by_cases h2 : n = 2
    ·subst h2
     obtain ⟨y, hy⟩ : ∃ y, Nu.getT (l.drop j) = y := ⟨_, rfl⟩
     obtain ⟨t, i, e2⟩ := y
     by_cases he2 : e2 = 0
     ·subst he2
      rw [getR_2 l j t i hg hy] at h
      by_cases hv : (Ru.vld t && decide (t.length ≤ 200)) = true
      ·rw [if_pos hv] at h
       simp only [Prod.mk.injEq] at h
       obtain ⟨rfl, rfl, _⟩ := h
       have hs2 := Nu.getT_canon _ t i hy
       have e1 : putR ⟨2, 0, ⟨t.toArray⟩⟩ = Nu.put 2 ++ Nu.putT t := by unfold putR; simp
       rw [e1]
       have hv2 : Ru.vld t = true ∧ t.length ≤ 200 := by simpa using hv
       refine ⟨?_, by rw [List.length_append, ← hc.2.1, ← hs2.2.1], ?_, ⟨(by decide : (-9223372036854775808 : Int) ≤ 2), (by decide : (2 : Int) ≤ 9223372036854775807)⟩, ⟨(by decide : (-9223372036854775808 : Int) ≤ 0), (by decide : (0 : Int) ≤ 9223372036854775807)⟩, ?_⟩
       ·rw [List.append_assoc, ← List.drop_drop, ← hs2.1]; exact hs
       ·have hz : (ByteArray.mk t.toArray).size = t.length := by show t.toArray.size = _; simp
        unfold mayR; simp [hv2.1]; rw [hz]; exact hv2.2
       ·show t.toArray.size ≤ _; simp; omega
      ·rw [if_neg hv] at h
       simp only [Prod.mk.injEq] at h; omega
     ·rw [getR_2e l j t i e2 hg hy he2] at h
      simp only [Prod.mk.injEq] at h; omega
    ·rw [getR_x l n j hg h0 h1 h2] at h
     simp only [Prod.mk.injEq] at h; omega
 ·rw [getR_err l n j e hg he] at h
  simp only [Prod.mk.injEq] at h; omega
theorem eqR_rfl (r : Raw) : eqR r r = true := by unfold eqR; simp
theorem eqR_eq {a b : Raw} (h : eqR a b = true) : a = b := by
 obtain ⟨k, n, s⟩ := a
 obtain ⟨k2, n2, s2⟩ := b
 unfold eqR at h
 simp only [Bool.and_eq_true, beq_iff_eq] at h
 rw [h.1.1, h.1.2, bytes_eq h.2]
end Go.Proofs.YtegkhkcnoahhdaaGreat
/-
Plain facts on batches written as bytes, with no program's run in them: what is written is read again, so two that may be have one text of bytes only if they are one.
-/
namespace Go.Proofs.YtegkhkcnoahhdaaGreat
open Go.RowKit
set_option maxRecDepth 100000
theorem zR_of {r : Raw} (h : eqR r zR = true) : r = zR := by
 obtain ⟨k, n, s⟩ := r
 unfold eqR zR at h
 simp at h
 have : s = ⟨#[]⟩ := bytes_eq (by simp [h.2])
 rw [h.1.1, h.1.2, this]; rfl
def pOp (l : List UInt8) : Option (Opn × List UInt8) :=
 (pNum l).bind fun a => (pTxt a.2).bind fun b =>
  if a.1 = 1 then (pRaw b.2).bind fun c => some (⟨1, b.1, c.1, zR, 0⟩, c.2)
  else if a.1 = 2 then some (⟨2, b.1, zR, zR, 0⟩, b.2)
  else if a.1 = 3 then (pRaw b.2).bind fun c => (pRaw c.2).bind fun d => some (⟨3, b.1, c.1, d.1, 0⟩, d.2)
  else if a.1 = 4 then (pNum b.2).bind fun c => some (⟨4, b.1, zR, zR, c.1⟩, c.2)
  else none
theorem pOp_bytesO (o : Opn) (r : List UInt8) (h : mayO o = true) (hok : o.ok) : pOp (bytesO o ++ r) = some (o, r) := by
 obtain ⟨k, y, v, q, n⟩ := o
 obtain ⟨⟨k0, k1⟩, hy, hv, hq, ⟨n0, n1⟩⟩ := hok
 simp only at k0 k1 hy hv hq n0 n1
 unfold mayO mayKind at h
 simp only [Bool.and_eq_true] at h
 obtain ⟨_, h⟩ := h
 unfold bytesO pOp
 simp only [List.append_assoc]
 rw [pNum_put k _ k0 k1]
 simp only [Option.bind_some]
 rw [pTxt_putT y _ hy]
 simp only [Option.bind_some]
 by_cases h1 : k = 1
 ·subst h1
  simp at h
  simp only [if_true]
  rw [pRaw_putR v r h.1.1.2 hv]
  simp only [Option.bind_some]
  rw [zR_of h.1.2, h.2]
 ·by_cases h2 : k = 2
  ·subst h2
   simp at h
   simp only [show ¬ (2 : Int) = 1 by decide, show ¬ (2 : Int) = 3 by decide, show ¬ (2 : Int) = 4 by decide, if_false, if_true, List.nil_append]
   rw [zR_of h.1.1, zR_of h.1.2, h.2]
  ·by_cases h3 : k = 3
   ·subst h3
    simp at h
    simp only [show ¬ (3 : Int) = 1 by decide, show ¬ (3 : Int) = 2 by decide, if_false, if_true, List.append_assoc]
    rw [pRaw_putR v _ h.1.1.1 hv]
    simp only [Option.bind_some]
    rw [pRaw_putR q _ h.1.1.2 hq]
    simp only [Option.bind_some]
    rw [h.2]
   ·by_cases h4 : k = 4
    ·subst h4
     simp at h
     simp only [show ¬ (4 : Int) = 1 by decide, show ¬ (4 : Int) = 2 by decide, show ¬ (4 : Int) = 3 by decide, if_false, if_true]
     rw [pNum_put n r n0 n1]
     simp only [Option.bind_some]
     rw [zR_of h.1.1.1, zR_of h.1.1.2]
    ·simp [h1, h2, h3, h4] at h
def pOps : Nat → List UInt8 → Option (List Opn × List UInt8)
 | 0, l => some ([], l)
 | n + 1, l => (pOp l).bind fun a => (pOps n a.2).bind fun b => some (a.1 :: b.1, b.2)
theorem pOps_flat : ∀ (os : List Opn) (r : List UInt8), (∀ x ∈ os, mayO x = true) → (∀ x ∈ os, x.ok) → pOps os.length (os.flatMap bytesO ++ r) = some (os, r)
 | [], r, _, _ => by simp [pOps]
 | x :: t, r, h, hok => by
  simp only [List.length_cons, pOps, List.flatMap_cons, List.append_assoc]
  rw [pOp_bytesO x _ (h x (by simp)) (hok x (by simp))]
  simp only [Option.bind_some]
  rw [pOps_flat t r (fun z hz => h z (by simp [hz])) (fun z hz => hok z (by simp [hz]))]
  simp
def pBat (l : List UInt8) : Option (Bat × List UInt8) :=
 (pNum l).bind fun a => (pNum a.2).bind fun b => (pNum b.2).bind fun c => (pOps c.1.toNat c.2).bind fun d => some (⟨a.1, b.1, d.1⟩, d.2)
theorem mayB_ops {b : Bat} (h : mayB b = true) : ∀ x ∈ b.ops, mayO x = true := by
 unfold mayB mayOs at h
 simp only [Bool.and_eq_true] at h
 exact List.all_eq_true.1 h.1.2.2
theorem mayB_len {b : Bat} (h : mayB b = true) : 1 ≤ b.ops.length ∧ b.ops.length ≤ 8 := by
 unfold mayB mayOs at h
 simp only [Bool.and_eq_true, decide_eq_true_eq] at h
 exact ⟨h.1.2.1.1, h.1.2.1.2⟩
theorem pBat_bytesB (b : Bat) (r : List UInt8) (h : mayB b = true) (hok : b.ok) : pBat (bytesB b ++ r) = some (b, r) := by
 have hl := mayB_len h
 unfold pBat bytesB
 simp only [List.append_assoc]
 rw [pNum_put _ _ hok.1.1 hok.1.2]
 simp only [Option.bind_some]
 rw [pNum_put _ _ hok.2.1.1 hok.2.1.2]
 simp only [Option.bind_some]
 rw [pNum_put _ _ (by omega) (by omega)]
 simp only [Option.bind_some, Int.toNat_natCast]
 rw [pOps_flat b.ops r (mayB_ops h) hok.2.2]
 rfl
theorem eqO_rfl (o : Opn) : eqO o o = true := by unfold eqO; simp [eqR_rfl]
theorem eqOs_rfl (l : List Opn) : eqOs l l = true := by
  have hl : l.length = l.length := rfl
  unfold eqOs
  rw [decide_eq_true hl, Bool.true_and, List.all_eq_true]
  intro p hp
  have : p.1 = p.2 := by
   obtain ⟨k, hk, rfl⟩ := List.getElem_of_mem hp
   simp
  rw [this]; exact eqO_rfl _
theorem eqB_rfl (b : Bat) : eqB b b = true := by unfold eqB; simp [eqOs_rfl]
theorem eqO_eq {a b : Opn} (h : eqO a b = true) : a = b := by
 obtain ⟨k, y, v, q, n⟩ := a
 obtain ⟨k2, y2, v2, q2, n2⟩ := b
 unfold eqO at h
 simp only [Bool.and_eq_true, beq_iff_eq] at h
 obtain ⟨⟨⟨⟨h1, h2⟩, h3⟩, h4⟩, h5⟩ := h
 rw [h1, bytes_eq h2, eqR_eq h3, eqR_eq h4, h5]
theorem eqOs_eq : ∀ {l m : List Opn}, eqOs l m = true → l = m
 | [], [], _ => rfl
 | [], _ :: _, h => by simp [eqOs] at h
 | _ :: _, [], h => by simp [eqOs] at h
 | x :: l, y :: m, h => by
  unfold eqOs at h
  simp only [Bool.and_eq_true, decide_eq_true_eq, List.length_cons, List.zip_cons_cons, List.all_cons] at h
  have h2 : eqOs l m = true := by
   have hl : l.length = m.length := by omega
   unfold eqOs; rw [decide_eq_true hl, Bool.true_and]; exact h.2.2
  rw [eqO_eq h.2.1, eqOs_eq h2]
theorem eqB_iff {a b : Bat} : eqB a b = true ↔ a = b := by
 constructor
 ·intro h
  obtain ⟨c, s, l⟩ := a
  obtain ⟨c2, s2, l2⟩ := b
  unfold eqB at h
  simp only [Bool.and_eq_true, beq_iff_eq] at h
  rw [h.1.1, h.1.2, eqOs_eq h.2]
 ·rintro rfl; exact eqB_rfl _
end Go.Proofs.YtegkhkcnoahhdaaGreat
