/-
  The reference's bytesOf writes a batch as the plain function says, in new memory.
-/
import Derived.Test.YtdhppekfehbngaaReMayOps
import Derived.Test.YtdhppekfehbngaaWAppend
import Derived.Test.YtdhppekfehbngaaReGetRaw
import Derived.Deep.RegionHeld3
set_option linter.unusedSimpArgs false
set_option linter.unusedVariables false
namespace Go.Proofs.Ytdhppekfehbngaa
open Go.RowKit
set_option maxRecDepth 100000

/-- a batch as data -/
structure Bat where
  client : Int
  seq : Int
  ops : List Opn
def bytesO (o : Opn) : List UInt8 := Nu.put o.kind ++ Nu.putT o.key.data.toList ++ (if o.kind = 1 then putR o.val else if o.kind = 3 then putR o.val ++ putR o.old else if o.kind = 4 then Nu.put o.n else [])
def bytesB (b : Bat) : List UInt8 := Nu.put b.client ++ Nu.put b.seq ++ Nu.put (b.ops.length : Int) ++ b.ops.flatMap bytesO
/-- the value v is the batch b -/
def BatV (w : World) (B : Nat) (v : Value) (b : Bat) : Prop := ∃ s, v = .agg #[.int .i64 b.client, .int .i64 b.seq, s] ∧ Ops w B s b.ops
def i64 (n : Int) : Prop := -9223372036854775808 ≤ n ∧ n ≤ 9223372036854775807
def Opn.ok (o : Opn) : Prop := i64 o.kind ∧ o.key.size ≤ 1000000 ∧ o.val.ok ∧ o.old.ok ∧ i64 o.n
def Bat.ok (b : Bat) : Prop := i64 b.client ∧ i64 b.seq ∧ ∀ x ∈ b.ops, x.ok
theorem putR_le (r : Raw) (h : r.ok) : (putR r).length ≤ 1000020 := by
  have h1 := Nu.put_len r.kind
  have h2 := Nu.put_len r.n
  have h3 := putT_len r.s
  have h4 := h.2.2
  unfold putR
  rw [List.length_append]
  split
  · omega
  · split
    · omega
    · simp; omega
theorem rputRaw_is (v : Value) (r : Raw) (w : World) (hv : v = r.val) (hr : r.ok) : Calls Try.prog 42 #[v] w (Made (putR r) w) := by
  rw [hv]; exact rputRaw_any r w hr
set_option maxRecDepth 100000 in
set_option maxHeartbeats 4000000 in
theorem rbytesOf_any (B : Nat) (v : Value) (b : Bat) (w : World) (h : BatV w B v b) (hB : B ≤ w.heap.size) (hok : b.ok) (hl : b.ops.length ≤ 1000) : Calls Try.prog 31 #[v] w (Made (bytesB b) w) := by
  obtain ⟨s, rfl, hops⟩ := h
  obtain ⟨bc, bs, l⟩ := b
  obtain ⟨A, c, hs, hc, hcell⟩ := id hops
  subst hs
  obtain ⟨⟨c0, c1⟩, ⟨s0, s1⟩, hsm⟩ := hok
  simp only at hl c0 c1 s0 s1 hsm
  have HOPS := Lib.hid hops; clear hops
  have HCELL := Lib.hid hcell; clear hcell
  have hpc := Nu.put_len bc
  have hps := Nu.put_len bs
  have hpl := Nu.put_len (l.length : Int)
  have l0 : -9223372036854775808 ≤ (l.length : Int) := by omega
  have l1 : (l.length : Int) ≤ 9223372036854775807 := by omega
  obtain ⟨W0, hW0⟩ : ∃ W0, w.alloc (Obj.cells #[Value.int IntKind.i64 bc, Value.int IntKind.i64 bs, Value.slice A l.length c] 31) = W0 := ⟨_, rfl⟩
  have hsz : W0.heap.size = w.heap.size + 1 := by rw [← hW0]; simp
  have hlt : w.heap.size < W0.heap.size := by omega
  clear hsz
  have q1 : W0.cell? ⟨w.heap.size, 1, none⟩ = some (.int .i64 bs) := by rw [← hW0]; exact World.cell?_alloc_mark w _ _ _ 1
  have q2 : W0.cell? ⟨w.heap.size, 2, none⟩ = some (.slice A l.length c) := by rw [← hW0]; exact World.cell?_alloc_mark w _ _ _ 2
  have hb0 : Below w.heap.size w W0 := by rw [← hW0]; exact below_one w _
  have HW := Lib.hid hW0; clear hW0
  go_enter Try.func31, Try.ntmps31
  go_wp2_with fail
  rw [HW.out]
  refine (rput_any _ _ c0 c1).mono ?_
  rintro e w1 ⟨v1, rfl, hown1, hb1⟩
  have r1 : w1.cell? ⟨w.heap.size, 1, none⟩ = some (.int .i64 bs) := (hb1.cell (p := ⟨w.heap.size, 1, none⟩) hlt).trans q1
  go_wp2_with fail
  refine (rput_any _ _ s0 s1).mono ?_
  rintro e w2 ⟨v2, rfl, hown2, hb2⟩
  have hbb2 : Below W0.heap.size W0 w2 := hb1.trans (hb2.mono hb1.size)
  have hown1' := hown1.below hb2
  have hbyt2 := Byt.of_own hown2
  go_wp2_with (at_builtin; refine wpList_append_byt rfl _ _ rfl W0.heap.size _ _ _ _ _ rfl hown1' rfl hbyt2 ?x1 hbb2.size ?_)
  case x1 => omega
  intro v3 w3 hown3 hb3
  have hbb3 := hbb2.trans hb3
  have r2 : w3.cell? ⟨w.heap.size, 2, none⟩ = some (.slice A l.length c) := (hbb3.cell (p := ⟨w.heap.size, 2, none⟩) hlt).trans q2
  clear hown1 hown1' hb1 hb2 hb3 hbyt2 hown2 r1 hbb2
  go_wp2_with fail
  refine (rput_any _ _ l0 l1).mono ?_
  rintro e w4 ⟨v4, rfl, hown4, hb4⟩
  have hbb4 : Below W0.heap.size W0 w4 := hbb3.trans (hb4.mono hbb3.size)
  have hown3' := hown3.below hb4
  have hbyt4 := Byt.of_own hown4
  go_wp2_with (at_builtin; refine wpList_append_byt rfl _ _ rfl W0.heap.size _ _ _ _ _ rfl hown3' rfl hbyt4 ?x2 hbb4.size ?_)
  case x2 => simp; omega
  intro v5 w5 hown5 hb5
  have hbb5 := hbb4.trans hb5
  clear hown3 hown3' hb4 hb5 hbyt4 hown4 hbb3 hbb4 r2
  go_wp2
  obtain ⟨hd, hhd⟩ : ∃ hd, hd = Nu.put bc ++ (Nu.put bs ++ Nu.put (l.length : Int)) := ⟨_, rfl⟩
  rw [← hhd] at hown5
  have hdl : hd.length ≤ 30 := by rw [hhd]; simp; omega
  have HHD := Lib.hid hhd; clear hhd
  go_loopw [3, 4] (fun v i wr => ∃ k : Nat, i = .int .i64 k ∧ k ≤ l.length ∧ OwnB W0.heap.size v (hd ++ (l.take k).flatMap bytesO) wr ∧ Below W0.heap.size W0 wr ∧ (hd ++ (l.take k).flatMap bytesO).length ≤ 30 + k * 5000000) (fun _ i _ => l.length - (intOf i).toNat)
  case atStart => exact ⟨0, rfl, by omega, by simpa using hown5, hbb5, by simpa using hdl⟩
  case round =>
    obtain ⟨k, rfl, hk, hown, hbw, hlen⟩ := hrel
    obtain ⟨m, hm⟩ : ∃ m, m = hd ++ (l.take k).flatMap bytesO := ⟨_, rfl⟩
    rw [← hm] at hown hlen
    have HM := Lib.hid hm; clear hm hown5 hbb5
    have qq2 : wr.cell? ⟨w.heap.size, 2, none⟩ = some (.slice A l.length c) := (hbw.cell (p := ⟨w.heap.size, 2, none⟩) hlt).trans q2
    by_cases hkl : k < l.length
    · obtain ⟨g, o, rfl, hg, hcs⟩ := HCELL.out (by omega)
      obtain ⟨x, hx⟩ : ∃ x, l[k] = x := ⟨_, rfl⟩
      have hr := hcs k hkl
      have hxs := hsm l[k] (List.getElem_mem ..)
      have htk : l.take (k + 1) = l.take k ++ [x] := by rw [List.take_add_one, List.getElem?_eq_getElem hkl, hx]; rfl
      rw [hx] at hxs hr
      have hr2 : wr.rangeAt g (o + k * 9) x.cs := range_below (range_below hr hb0 (Nat.lt_of_lt_of_le hg hB)) hbw (by omega)
      have hsp : (hd ++ (l.take (k + 1)).flatMap bytesO) = m ++ bytesO x := by rw [htk, HM.out]; simp
      have HSP := Lib.hid hsp; clear hsp htk hr hx hcs q1 q2
      obtain ⟨xk, xy, ⟨vk, vn, vs⟩, ⟨ok, on, os⟩, xn⟩ := x
      obtain ⟨⟨xk0, xk1⟩, hys, hvr, hor, ⟨xn0, xn1⟩⟩ := hxs
      simp only at xk0 xk1 hys hvr hor xn0 xn1
      have n1 := Nu.put_len xk
      have n2 := putT_len xy
      have n3 := putR_le ⟨vk, vn, vs⟩ hvr
      have n4 := putR_le ⟨ok, on, os⟩ hor
      have n5 := Nu.put_len xn
      by_cases h1 : xk = 1
      · subst h1
        obtain ⟨wb, hwb⟩ : ∃ wb, wr.alloc (Obj.cells #[.int .i64 1, .string xy, .int .i64 vk, .int .i64 vn, .string vs, .int .i64 ok, .int .i64 on, .string os, .int .i64 xn] 25) = wb := ⟨_, rfl⟩
        have hown0 : OwnB W0.heap.size u3 m wb := by rw [← hwb]; exact hown.alloc _
        have hap0 : u3.ownBlock ≠ some wr.heap.size := fun e => by have := (hown.lt _ e).2; omega
        have hbox0 : wb.rangeAt wr.heap.size 0 [.int .i64 1, .string xy, .int .i64 vk, .int .i64 vn, .string vs, .int .i64 ok, .int .i64 on, .string os, .int .i64 xn] := by
          intro j v hv
          rw [← hwb, World.cell?_alloc_mark, Nat.zero_add]
          simpa using hv
        have hgb0 : wr.heap.size < wb.heap.size := by rw [← hwb]; simp
        have hbw0 : Below W0.heap.size W0 wb := by rw [← hwb]; exact hbw.alloc hbw.size _
        have HWB := Lib.hid hwb; clear hwb hown hbw
        go_wp2_with (refine wpList_load_mid rfl 25 _ rfl g (o + k * 9) rfl [.int .i64 1, .string xy, .int .i64 vk, .int .i64 vn, .string vs, .int .i64 ok, .int .i64 on, .string os, .int .i64 xn] _ hr2 Try.underlying25 rfl Try.infoOp ?_)
        rw [HWB.out]
        refine (rput_any _ _ xk0 xk1).mono ?_
        rintro e wa1 ⟨va1, rfl, howna1, hba1⟩
        have hbv1 : Below W0.heap.size W0 wa1 := hbw0.trans (hba1.mono hbw0.size)
        have hownv1 := hown0.below hba1
        have hboxv1 := range_below hbox0 hba1 hgb0
        have hgbv1 : wr.heap.size < wa1.heap.size := Nat.lt_of_lt_of_le hgb0 hba1.size
        have hbyt1 := Byt.of_own howna1
        go_wp2_with (at_builtin; refine wpList_append_byt_at rfl _ _ rfl W0.heap.size _ _ _ _ _ rfl hownv1 rfl hbyt1 ?x1_1 hbv1.size ?_)
        case x1_1 => first | omega | (simp only [List.length_append]; omega)
        intro v1 w1 hown1 hb1 hgw1
        have hbw1 := hbv1.trans hb1
        have hap1 := hgw1.apart hgbv1 hap0
        have hbox1 := hgw1.range hboxv1 hap0
        have hgb1 : wr.heap.size < w1.heap.size := Nat.lt_of_lt_of_le hgbv1 hb1.size
        clear hbv1 hownv1 hboxv1 hgbv1 hbyt1 hb1 hgw1 hap0 hbox0 hgb0 hown0 hbw0 howna1 hba1
        have q2_1 : w1.cell? ⟨wr.heap.size, 1, none⟩ = some (.string xy) := hbox1 1 _ rfl
        go_wp2_with fail
        refine (rputText_any xy _ hys).mono ?_
        rintro e wa2 ⟨va2, rfl, howna2, hba2⟩
        clear q2_1
        have hbv2 : Below W0.heap.size W0 wa2 := hbw1.trans (hba2.mono hbw1.size)
        have hownv2 := hown1.below hba2
        have hboxv2 := range_below hbox1 hba2 hgb1
        have hgbv2 : wr.heap.size < wa2.heap.size := Nat.lt_of_lt_of_le hgb1 hba2.size
        have hbyt2 := Byt.of_own howna2
        go_wp2_with (at_builtin; refine wpList_append_byt_at rfl _ _ rfl W0.heap.size _ _ _ _ _ rfl hownv2 rfl hbyt2 ?x2_2 hbv2.size ?_)
        case x2_2 => first | omega | (simp only [List.length_append]; omega)
        intro v2 w2 hown2 hb2 hgw2
        have hbw2 := hbv2.trans hb2
        have hap2 := hgw2.apart hgbv2 hap1
        have hbox2 := hgw2.range hboxv2 hap1
        have hgb2 : wr.heap.size < w2.heap.size := Nat.lt_of_lt_of_le hgbv2 hb2.size
        clear hbv2 hownv2 hboxv2 hgbv2 hbyt2 hb2 hgw2 hap1 hbox1 hgb1 hown1 hbw1 howna2 hba2
        have qk : w2.cell? ⟨wr.heap.size, 0, none⟩ = some (.int .i64 1) := hbox2 0 _ rfl
        have q3_2 : w2.cell? ⟨wr.heap.size, 2, none⟩ = some (.int .i64 vk) := hbox2 2 _ rfl
        have q3_3 : w2.cell? ⟨wr.heap.size, 3, none⟩ = some (.int .i64 vn) := hbox2 3 _ rfl
        have q3_4 : w2.cell? ⟨wr.heap.size, 4, none⟩ = some (.string vs) := hbox2 4 _ rfl
        go_wp2_with fail
        refine (rputRaw_is _ ⟨vk, vn, vs⟩ _ rfl hvr).mono ?_
        rintro e wa3 ⟨va3, rfl, howna3, hba3⟩
        clear q3_2 q3_3 q3_4
        have hbv3 : Below W0.heap.size W0 wa3 := hbw2.trans (hba3.mono hbw2.size)
        have hownv3 := hown2.below hba3
        have hboxv3 := range_below hbox2 hba3 hgb2
        have hgbv3 : wr.heap.size < wa3.heap.size := Nat.lt_of_lt_of_le hgb2 hba3.size
        have hbyt3 := Byt.of_own howna3
        go_wp2_with (at_builtin; refine wpList_append_byt_at rfl _ _ rfl W0.heap.size _ _ _ _ _ rfl hownv3 rfl hbyt3 ?x3_3 hbv3.size ?_)
        case x3_3 => first | omega | (simp only [List.length_append]; omega)
        intro v3 w3 hown3 hb3 hgw3
        have hbw3 := hbv3.trans hb3
        have hap3 := hgw3.apart hgbv3 hap2
        have hbox3 := hgw3.range hboxv3 hap2
        have hgb3 : wr.heap.size < w3.heap.size := Nat.lt_of_lt_of_le hgbv3 hb3.size
        clear hbv3 hownv3 hboxv3 hgbv3 hbyt3 hb3 hgw3 hap2 hbox2 hgb2 hown2 hbw2 howna3 hba3
        clear qk
        go_wp2
        go_roundw
        case rel =>
          refine ⟨k + 1, by go_num, by omega, ?_, hbw3, ?_⟩
          · rw [HSP.out]; simpa [bytesO] using hown3
          · rw [HSP.out]; simp only [bytesO, List.length_append]; simp; omega
        case measure => simp [intOf]; omega
      · by_cases h3 : xk = 3
        · subst h3
          obtain ⟨wb, hwb⟩ : ∃ wb, wr.alloc (Obj.cells #[.int .i64 3, .string xy, .int .i64 vk, .int .i64 vn, .string vs, .int .i64 ok, .int .i64 on, .string os, .int .i64 xn] 25) = wb := ⟨_, rfl⟩
          have hown0 : OwnB W0.heap.size u3 m wb := by rw [← hwb]; exact hown.alloc _
          have hap0 : u3.ownBlock ≠ some wr.heap.size := fun e => by have := (hown.lt _ e).2; omega
          have hbox0 : wb.rangeAt wr.heap.size 0 [.int .i64 3, .string xy, .int .i64 vk, .int .i64 vn, .string vs, .int .i64 ok, .int .i64 on, .string os, .int .i64 xn] := by
            intro j v hv
            rw [← hwb, World.cell?_alloc_mark, Nat.zero_add]
            simpa using hv
          have hgb0 : wr.heap.size < wb.heap.size := by rw [← hwb]; simp
          have hbw0 : Below W0.heap.size W0 wb := by rw [← hwb]; exact hbw.alloc hbw.size _
          have HWB := Lib.hid hwb; clear hwb hown hbw
          go_wp2_with (refine wpList_load_mid rfl 25 _ rfl g (o + k * 9) rfl [.int .i64 3, .string xy, .int .i64 vk, .int .i64 vn, .string vs, .int .i64 ok, .int .i64 on, .string os, .int .i64 xn] _ hr2 Try.underlying25 rfl Try.infoOp ?_)
          rw [HWB.out]
          refine (rput_any _ _ xk0 xk1).mono ?_
          rintro e wa1 ⟨va1, rfl, howna1, hba1⟩
          have hbv1 : Below W0.heap.size W0 wa1 := hbw0.trans (hba1.mono hbw0.size)
          have hownv1 := hown0.below hba1
          have hboxv1 := range_below hbox0 hba1 hgb0
          have hgbv1 : wr.heap.size < wa1.heap.size := Nat.lt_of_lt_of_le hgb0 hba1.size
          have hbyt1 := Byt.of_own howna1
          go_wp2_with (at_builtin; refine wpList_append_byt_at rfl _ _ rfl W0.heap.size _ _ _ _ _ rfl hownv1 rfl hbyt1 ?x4_1 hbv1.size ?_)
          case x4_1 => first | omega | (simp only [List.length_append]; omega)
          intro v1 w1 hown1 hb1 hgw1
          have hbw1 := hbv1.trans hb1
          have hap1 := hgw1.apart hgbv1 hap0
          have hbox1 := hgw1.range hboxv1 hap0
          have hgb1 : wr.heap.size < w1.heap.size := Nat.lt_of_lt_of_le hgbv1 hb1.size
          clear hbv1 hownv1 hboxv1 hgbv1 hbyt1 hb1 hgw1 hap0 hbox0 hgb0 hown0 hbw0 howna1 hba1
          have q5_1 : w1.cell? ⟨wr.heap.size, 1, none⟩ = some (.string xy) := hbox1 1 _ rfl
          go_wp2_with fail
          refine (rputText_any xy _ hys).mono ?_
          rintro e wa2 ⟨va2, rfl, howna2, hba2⟩
          clear q5_1
          have hbv2 : Below W0.heap.size W0 wa2 := hbw1.trans (hba2.mono hbw1.size)
          have hownv2 := hown1.below hba2
          have hboxv2 := range_below hbox1 hba2 hgb1
          have hgbv2 : wr.heap.size < wa2.heap.size := Nat.lt_of_lt_of_le hgb1 hba2.size
          have hbyt2 := Byt.of_own howna2
          go_wp2_with (at_builtin; refine wpList_append_byt_at rfl _ _ rfl W0.heap.size _ _ _ _ _ rfl hownv2 rfl hbyt2 ?x5_2 hbv2.size ?_)
          case x5_2 => first | omega | (simp only [List.length_append]; omega)
          intro v2 w2 hown2 hb2 hgw2
          have hbw2 := hbv2.trans hb2
          have hap2 := hgw2.apart hgbv2 hap1
          have hbox2 := hgw2.range hboxv2 hap1
          have hgb2 : wr.heap.size < w2.heap.size := Nat.lt_of_lt_of_le hgbv2 hb2.size
          clear hbv2 hownv2 hboxv2 hgbv2 hbyt2 hb2 hgw2 hap1 hbox1 hgb1 hown1 hbw1 howna2 hba2
          have qk : w2.cell? ⟨wr.heap.size, 0, none⟩ = some (.int .i64 3) := hbox2 0 _ rfl
          have q2 : w2.cell? ⟨wr.heap.size, 2, none⟩ = some (.int .i64 vk) := hbox2 2 _ rfl
          have q3 : w2.cell? ⟨wr.heap.size, 3, none⟩ = some (.int .i64 vn) := hbox2 3 _ rfl
          have q4 : w2.cell? ⟨wr.heap.size, 4, none⟩ = some (.string vs) := hbox2 4 _ rfl
          have q5 : w2.cell? ⟨wr.heap.size, 5, none⟩ = some (.int .i64 ok) := hbox2 5 _ rfl
          have q6 : w2.cell? ⟨wr.heap.size, 6, none⟩ = some (.int .i64 on) := hbox2 6 _ rfl
          have q7 : w2.cell? ⟨wr.heap.size, 7, none⟩ = some (.string os) := hbox2 7 _ rfl
          have hbd : Below W0.heap.size W0 w2.drew := hbw2.drew
          have hownd : OwnB W0.heap.size v2 _ w2.drew := hown2
          have hgbd : wr.heap.size < w2.drew.heap.size := hgb2
          go_wp2_with fail
          go_region_held3 (fun W => W.cell? ⟨wr.heap.size, 2, none⟩ = some (.int .i64 vk) ∧ W.cell? ⟨wr.heap.size, 3, none⟩ = some (.int .i64 vn) ∧ W.cell? ⟨wr.heap.size, 4, none⟩ = some (.string vs) ∧ W.cell? ⟨wr.heap.size, 5, none⟩ = some (.int .i64 ok) ∧ W.cell? ⟨wr.heap.size, 6, none⟩ = some (.int .i64 on) ∧ W.cell? ⟨wr.heap.size, 7, none⟩ = some (.string os)) (first | exact ⟨q2, q3, q4, q5, q6, q7⟩ | assumption | exact (stands_below hba3 hgbd).six (by assumption) | exact (stands_grew hgw3 hap2).six (by assumption) | exact (stands_below hba4 hgb3).six (by assumption) | exact (stands_grew hgw4 hap3).six (by assumption)) (first | (go_at_call_of 42 (Value.string os); refine (rputRaw_is _ ⟨ok, on, os⟩ _ rfl hor).mono ?_; rintro e wa4 ⟨va4, rfl, howna4, hba4⟩; have hbv4 : Below W0.heap.size W0 wa4 := hbw3.trans (hba4.mono hbw3.size); have hownv4 := hown3.below hba4; have hbyt4 := Byt.of_own howna4) | (go_at_call_of 42 (Value.string vs); refine (rputRaw_is _ ⟨vk, vn, vs⟩ _ rfl hvr).mono ?_; rintro e wa3 ⟨va3, rfl, howna3, hba3⟩; have hbv3 : Below W0.heap.size W0 wa3 := hbd.trans (hba3.mono hbd.size); have hownv3 := hownd.below hba3; have hgbv3 : wr.heap.size < wa3.heap.size := Nat.lt_of_lt_of_le hgbd hba3.size; have hbyt3 := Byt.of_own howna3) | (rw [if_pos (by rfl)]; refine wp_append_byt_at _ _ rfl W0.heap.size _ _ _ _ _ rfl hownv4 rfl hbyt4 ?_ hbv4.size ?_; (first | omega | (simp only [List.length_append]; omega)); intro v4 w4 hown4 hb4 hgw4) | (rw [if_pos (by rfl)]; refine wp_append_byt_at _ _ rfl W0.heap.size _ _ _ _ _ rfl hownv3 rfl hbyt3 ?_ hbv3.size ?_; (first | omega | (simp only [List.length_append]; omega)); intro v3 w3 hown3 hb3 hgw3; have hbw3 := hbv3.trans hb3; have hap3 := hgw3.apart hgbv3 hap2; have hgb3 : wr.heap.size < w3.heap.size := Nat.lt_of_lt_of_le hgbv3 hb3.size))
          have hbw4 := hbv4.trans hb4
          go_wp2
          go_roundw
          case rel =>
            refine ⟨k + 1, by go_num, by omega, ?_, hbw4, ?_⟩
            · rw [HSP.out]; simpa [bytesO] using hown4
            · rw [HSP.out]; simp only [bytesO, List.length_append]; simp; omega
          case measure => simp [intOf]; omega
        · by_cases h4 : xk = 4
          · subst h4
            obtain ⟨wb, hwb⟩ : ∃ wb, wr.alloc (Obj.cells #[.int .i64 4, .string xy, .int .i64 vk, .int .i64 vn, .string vs, .int .i64 ok, .int .i64 on, .string os, .int .i64 xn] 25) = wb := ⟨_, rfl⟩
            have hown0 : OwnB W0.heap.size u3 m wb := by rw [← hwb]; exact hown.alloc _
            have hap0 : u3.ownBlock ≠ some wr.heap.size := fun e => by have := (hown.lt _ e).2; omega
            have hbox0 : wb.rangeAt wr.heap.size 0 [.int .i64 4, .string xy, .int .i64 vk, .int .i64 vn, .string vs, .int .i64 ok, .int .i64 on, .string os, .int .i64 xn] := by
              intro j v hv
              rw [← hwb, World.cell?_alloc_mark, Nat.zero_add]
              simpa using hv
            have hgb0 : wr.heap.size < wb.heap.size := by rw [← hwb]; simp
            have hbw0 : Below W0.heap.size W0 wb := by rw [← hwb]; exact hbw.alloc hbw.size _
            have HWB := Lib.hid hwb; clear hwb hown hbw
            go_wp2_with (refine wpList_load_mid rfl 25 _ rfl g (o + k * 9) rfl [.int .i64 4, .string xy, .int .i64 vk, .int .i64 vn, .string vs, .int .i64 ok, .int .i64 on, .string os, .int .i64 xn] _ hr2 Try.underlying25 rfl Try.infoOp ?_)
            rw [HWB.out]
            refine (rput_any _ _ xk0 xk1).mono ?_
            rintro e wa1 ⟨va1, rfl, howna1, hba1⟩
            have hbv1 : Below W0.heap.size W0 wa1 := hbw0.trans (hba1.mono hbw0.size)
            have hownv1 := hown0.below hba1
            have hboxv1 := range_below hbox0 hba1 hgb0
            have hgbv1 : wr.heap.size < wa1.heap.size := Nat.lt_of_lt_of_le hgb0 hba1.size
            have hbyt1 := Byt.of_own howna1
            go_wp2_with (at_builtin; refine wpList_append_byt_at rfl _ _ rfl W0.heap.size _ _ _ _ _ rfl hownv1 rfl hbyt1 ?x6_1 hbv1.size ?_)
            case x6_1 => first | omega | (simp only [List.length_append]; omega)
            intro v1 w1 hown1 hb1 hgw1
            have hbw1 := hbv1.trans hb1
            have hap1 := hgw1.apart hgbv1 hap0
            have hbox1 := hgw1.range hboxv1 hap0
            have hgb1 : wr.heap.size < w1.heap.size := Nat.lt_of_lt_of_le hgbv1 hb1.size
            clear hbv1 hownv1 hboxv1 hgbv1 hbyt1 hb1 hgw1 hap0 hbox0 hgb0 hown0 hbw0 howna1 hba1
            have q7_1 : w1.cell? ⟨wr.heap.size, 1, none⟩ = some (.string xy) := hbox1 1 _ rfl
            go_wp2_with fail
            refine (rputText_any xy _ hys).mono ?_
            rintro e wa2 ⟨va2, rfl, howna2, hba2⟩
            clear q7_1
            have hbv2 : Below W0.heap.size W0 wa2 := hbw1.trans (hba2.mono hbw1.size)
            have hownv2 := hown1.below hba2
            have hboxv2 := range_below hbox1 hba2 hgb1
            have hgbv2 : wr.heap.size < wa2.heap.size := Nat.lt_of_lt_of_le hgb1 hba2.size
            have hbyt2 := Byt.of_own howna2
            go_wp2_with (at_builtin; refine wpList_append_byt_at rfl _ _ rfl W0.heap.size _ _ _ _ _ rfl hownv2 rfl hbyt2 ?x7_2 hbv2.size ?_)
            case x7_2 => first | omega | (simp only [List.length_append]; omega)
            intro v2 w2 hown2 hb2 hgw2
            have hbw2 := hbv2.trans hb2
            have hap2 := hgw2.apart hgbv2 hap1
            have hbox2 := hgw2.range hboxv2 hap1
            have hgb2 : wr.heap.size < w2.heap.size := Nat.lt_of_lt_of_le hgbv2 hb2.size
            clear hbv2 hownv2 hboxv2 hgbv2 hbyt2 hb2 hgw2 hap1 hbox1 hgb1 hown1 hbw1 howna2 hba2
            have qk : w2.cell? ⟨wr.heap.size, 0, none⟩ = some (.int .i64 4) := hbox2 0 _ rfl
            have q8_8 : w2.cell? ⟨wr.heap.size, 8, none⟩ = some (.int .i64 xn) := hbox2 8 _ rfl
            go_wp2_with fail
            refine (rput_any _ _ xn0 xn1).mono ?_
            rintro e wa3 ⟨va3, rfl, howna3, hba3⟩
            clear q8_8
            have hbv3 : Below W0.heap.size W0 wa3 := hbw2.trans (hba3.mono hbw2.size)
            have hownv3 := hown2.below hba3
            have hboxv3 := range_below hbox2 hba3 hgb2
            have hgbv3 : wr.heap.size < wa3.heap.size := Nat.lt_of_lt_of_le hgb2 hba3.size
            have hbyt3 := Byt.of_own howna3
            go_wp2_with (at_builtin; refine wpList_append_byt_at rfl _ _ rfl W0.heap.size _ _ _ _ _ rfl hownv3 rfl hbyt3 ?x8_3 hbv3.size ?_)
            case x8_3 => first | omega | (simp only [List.length_append]; omega)
            intro v3 w3 hown3 hb3 hgw3
            have hbw3 := hbv3.trans hb3
            have hap3 := hgw3.apart hgbv3 hap2
            have hbox3 := hgw3.range hboxv3 hap2
            have hgb3 : wr.heap.size < w3.heap.size := Nat.lt_of_lt_of_le hgbv3 hb3.size
            clear hbv3 hownv3 hboxv3 hgbv3 hbyt3 hb3 hgw3 hap2 hbox2 hgb2 hown2 hbw2 howna3 hba3
            clear qk
            go_wp2
            go_roundw
            case rel =>
              refine ⟨k + 1, by go_num, by omega, ?_, hbw3, ?_⟩
              · rw [HSP.out]; simpa [bytesO] using hown3
              · rw [HSP.out]; simp only [bytesO, List.length_append]; simp; omega
            case measure => simp [intOf]; omega
          · have k1 : (xk == 1) = false := by rw [beq_eq_false_iff_ne]; exact h1
            have k3 : (xk == 3) = false := by rw [beq_eq_false_iff_ne]; exact h3
            have k4 : (xk == 4) = false := by rw [beq_eq_false_iff_ne]; exact h4
            have H1 := Lib.hid h1; have H3 := Lib.hid h3; have H4 := Lib.hid h4
            clear h1 h3 h4
            obtain ⟨wb, hwb⟩ : ∃ wb, wr.alloc (Obj.cells #[.int .i64 xk, .string xy, .int .i64 vk, .int .i64 vn, .string vs, .int .i64 ok, .int .i64 on, .string os, .int .i64 xn] 25) = wb := ⟨_, rfl⟩
            have hown0 : OwnB W0.heap.size u3 m wb := by rw [← hwb]; exact hown.alloc _
            have hap0 : u3.ownBlock ≠ some wr.heap.size := fun e => by have := (hown.lt _ e).2; omega
            have hbox0 : wb.rangeAt wr.heap.size 0 [.int .i64 xk, .string xy, .int .i64 vk, .int .i64 vn, .string vs, .int .i64 ok, .int .i64 on, .string os, .int .i64 xn] := by
              intro j v hv
              rw [← hwb, World.cell?_alloc_mark, Nat.zero_add]
              simpa using hv
            have hgb0 : wr.heap.size < wb.heap.size := by rw [← hwb]; simp
            have hbw0 : Below W0.heap.size W0 wb := by rw [← hwb]; exact hbw.alloc hbw.size _
            have HWB := Lib.hid hwb; clear hwb hown hbw
            go_wp2_with (refine wpList_load_mid rfl 25 _ rfl g (o + k * 9) rfl [.int .i64 xk, .string xy, .int .i64 vk, .int .i64 vn, .string vs, .int .i64 ok, .int .i64 on, .string os, .int .i64 xn] _ hr2 Try.underlying25 rfl Try.infoOp ?_)
            rw [HWB.out]
            refine (rput_any _ _ xk0 xk1).mono ?_
            rintro e wa1 ⟨va1, rfl, howna1, hba1⟩
            have hbv1 : Below W0.heap.size W0 wa1 := hbw0.trans (hba1.mono hbw0.size)
            have hownv1 := hown0.below hba1
            have hboxv1 := range_below hbox0 hba1 hgb0
            have hgbv1 : wr.heap.size < wa1.heap.size := Nat.lt_of_lt_of_le hgb0 hba1.size
            have hbyt1 := Byt.of_own howna1
            go_wp2_with (at_builtin; refine wpList_append_byt_at rfl _ _ rfl W0.heap.size _ _ _ _ _ rfl hownv1 rfl hbyt1 ?x9_1 hbv1.size ?_)
            case x9_1 => first | omega | (simp only [List.length_append]; omega)
            intro v1 w1 hown1 hb1 hgw1
            have hbw1 := hbv1.trans hb1
            have hap1 := hgw1.apart hgbv1 hap0
            have hbox1 := hgw1.range hboxv1 hap0
            have hgb1 : wr.heap.size < w1.heap.size := Nat.lt_of_lt_of_le hgbv1 hb1.size
            clear hbv1 hownv1 hboxv1 hgbv1 hbyt1 hb1 hgw1 hap0 hbox0 hgb0 hown0 hbw0 howna1 hba1
            have q10_1 : w1.cell? ⟨wr.heap.size, 1, none⟩ = some (.string xy) := hbox1 1 _ rfl
            go_wp2_with fail
            refine (rputText_any xy _ hys).mono ?_
            rintro e wa2 ⟨va2, rfl, howna2, hba2⟩
            clear q10_1
            have hbv2 : Below W0.heap.size W0 wa2 := hbw1.trans (hba2.mono hbw1.size)
            have hownv2 := hown1.below hba2
            have hboxv2 := range_below hbox1 hba2 hgb1
            have hgbv2 : wr.heap.size < wa2.heap.size := Nat.lt_of_lt_of_le hgb1 hba2.size
            have hbyt2 := Byt.of_own howna2
            go_wp2_with (at_builtin; refine wpList_append_byt_at rfl _ _ rfl W0.heap.size _ _ _ _ _ rfl hownv2 rfl hbyt2 ?x10_2 hbv2.size ?_)
            case x10_2 => first | omega | (simp only [List.length_append]; omega)
            intro v2 w2 hown2 hb2 hgw2
            have hbw2 := hbv2.trans hb2
            have hap2 := hgw2.apart hgbv2 hap1
            have hbox2 := hgw2.range hboxv2 hap1
            have hgb2 : wr.heap.size < w2.heap.size := Nat.lt_of_lt_of_le hgbv2 hb2.size
            clear hbv2 hownv2 hboxv2 hgbv2 hbyt2 hb2 hgw2 hap1 hbox1 hgb1 hown1 hbw1 howna2 hba2
            have qk : w2.cell? ⟨wr.heap.size, 0, none⟩ = some (.int .i64 xk) := hbox2 0 _ rfl
            go_wp2
            go_roundw
            case rel =>
              refine ⟨k + 1, by go_num, by omega, ?_, hbw2, ?_⟩
              · rw [HSP.out]; simpa [bytesO, H1.out, H3.out, H4.out] using hown2
              · rw [HSP.out]; simp only [bytesO, List.length_append]; simp [H1.out, H3.out, H4.out]; omega
            case measure => simp [intOf]; omega
    · have hfin : hd ++ l.flatMap bytesO = m := by rw [HM.out, List.take_of_length_le (by omega)]
      have HF := Lib.hid hfin; clear hfin
      go_wp2
      go_ret
      refine ⟨u3, rfl, ?_, hb0.trans (hbw.mono (by omega))⟩
      unfold bytesB
      have : hd ++ l.flatMap bytesO = Nu.put bc ++ Nu.put bs ++ Nu.put (l.length : Int) ++ l.flatMap bytesO := by rw [HHD.out]; simp
      rw [← this, HF.out]
      exact hown.down (by omega)
end Go.Proofs.Ytdhppekfehbngaa
