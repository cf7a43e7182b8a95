/-
  The reference's EqBatch says whether two batches are one, as the plain function does.
  The batches lie in memory; they have at most 1,000,000 operations.
-/
import Derived.Test.YtdhppekfehbngaaReEncodeBatch
import Derived.Deep.RegionHeld3
set_option linter.unusedSimpArgs false
set_option linter.unusedVariables false
namespace Go.Proofs.Ytdhppekfehbngaa
open Go.RowKit
set_option maxRecDepth 100000

def eqO (x y : Opn) : Bool := x.kind == y.kind && x.key.data.toList == y.key.data.toList && eqR x.val y.val && eqR x.old y.old && x.n == y.n
def eqOs (l m : List Opn) : Bool := decide (l.length = m.length) && (l.zip m).all fun p => eqO p.1 p.2
def eqB (a b : Bat) : Bool := a.client == b.client && a.seq == b.seq && eqOs a.ops b.ops
theorem req_v (u v : Value) (a b : Raw) (x : Bool) (w : World) (hu : u = a.val) (hv : v = b.val) (h : eqR a b = x) : Calls Try.prog 29 #[u, v] w (Bl x w) := by
  rw [hu, hv, ← h]; exact req_any a b w
theorem toList_inj {a b : ByteArray} (h : a.toList = b.toList) : a = b := by
  rw [ByteArray.toList_eq, ByteArray.toList_eq] at h; exact bytes_eq h
theorem zip_take (al bl : List Opn) (k : Nat) (h1 : k < al.length) (h2 : k < bl.length) : (al.take (k + 1)).zip (bl.take (k + 1)) = (al.take k).zip (bl.take k) ++ [(al[k], bl[k])] := by
  rw [List.take_add_one, List.take_add_one, List.getElem?_eq_getElem h1, List.getElem?_eq_getElem h2, List.zip_append (by simp; omega)]; rfl
theorem eqB_go {al bl : List Opn} {k : Nat} {x y : Opn} {h1 : k < al.length} {h2 : k < bl.length} (h : ((al.take k).zip (bl.take k)).all (fun p => eqO p.1 p.2) = true) (hx : al[k] = x) (hy : bl[k] = y) (he : eqO x y = true) :
    ((al.take (k + 1)).zip (bl.take (k + 1))).all (fun p => eqO p.1 p.2) = true := by
  rw [zip_take al bl k h1 h2, List.all_append, h, hx, hy]; simp [he]
theorem eqB_no {ac aq bc bq : Int} {al bl : List Opn} {k : Nat} {x y : Opn} {h1 : k < al.length} {h2 : k < bl.length} (hx : al[k] = x) (hy : bl[k] = y) (he : eqO x y = false) : eqB ⟨ac, aq, al⟩ ⟨bc, bq, bl⟩ = false := by
  have : ((al.zip bl).all fun p => eqO p.1 p.2) = false := by
    rw [List.all_eq_false]
    refine ⟨(x, y), ?_, by rw [he]; simp⟩
    rw [← hx, ← hy, ← List.getElem_zip (h := by rw [List.length_zip]; omega)]
    exact List.getElem_mem _
  unfold eqB eqOs
  rw [this]; simp
set_option maxRecDepth 100000 in
set_option maxHeartbeats 8000000 in
theorem reqBatch_any (B : Nat) (u v : Value) (a b : Bat) (w : World) (ha : BatV w B u a) (hb : BatV w B v b) (hB : B ≤ w.heap.size) (hl : a.ops.length ≤ 1000000) : Calls Try.prog 20 #[u, v] w (Bl (eqB a b) w) := by
  obtain ⟨s, rfl, hs⟩ := ha
  obtain ⟨t, rfl, ht⟩ := hb
  obtain ⟨ac, aq, al⟩ := a
  obtain ⟨bc, bq, bl⟩ := b
  simp only at hs ht hl ⊢
  obtain ⟨A, c, rfl, hc, hA⟩ := hs
  obtain ⟨D, d, rfl, hd, hD⟩ := ht
  by_cases h1 : ac = bc
  · by_cases h2 : aq = bq
    · by_cases h3 : al.length = bl.length
      · subst h1; subst h2
        have e1 : (ac != ac) = false := by simp
        have e2 : (aq != aq) = false := by simp
        have e3 : ((al.length : Int) != (bl.length : Int)) = false := by rw [bne_eq_false_iff_eq]; omega
        have H3 := Lib.hid h3; clear h3

        have HA := Lib.hid hA; clear hA
        have HD := Lib.hid hD; clear hD
        obtain ⟨W0, hW0⟩ : ∃ W0, (w.alloc (Obj.cells #[Value.int IntKind.i64 ac, Value.int IntKind.i64 aq, Value.slice A al.length c] 31)).alloc (Obj.cells #[Value.int IntKind.i64 ac, Value.int IntKind.i64 aq, Value.slice D bl.length d] 31) = W0 := ⟨_, rfl⟩
        have hb0 : Below w.heap.size w W0 := by rw [← hW0]; exact below_two w _ _
        have g1 : w.heap.size < W0.heap.size := by rw [← hW0]; simp; omega
        have g2 : w.heap.size + 1 < W0.heap.size := by rw [← hW0]; simp
        have fa : ∀ j v, #[Value.int IntKind.i64 ac, Value.int IntKind.i64 aq, Value.slice A al.length c][j]? = some v → W0.cell? ⟨w.heap.size, j, none⟩ = some v := fun j v h => by
          rw [← hW0, (below_new (w.alloc _) _).cell (p := ⟨w.heap.size, j, none⟩) (by simp), World.cell?_alloc_mark]; exact h
        have hs1 : w.heap.size + 1 = (w.alloc (Obj.cells #[Value.int IntKind.i64 ac, Value.int IntKind.i64 aq, Value.slice A al.length c] 31)).heap.size := by simp
        have fb : ∀ j v, #[Value.int IntKind.i64 ac, Value.int IntKind.i64 aq, Value.slice D bl.length d][j]? = some v → W0.cell? ⟨w.heap.size + 1, j, none⟩ = some v := fun j v h => by
          rw [hs1, ← hW0, World.cell?_alloc_mark]; exact h
        have p0 : W0.cell? ⟨w.heap.size, 0, none⟩ = some (.int .i64 ac) := fa 0 _ rfl
        have p1 : W0.cell? ⟨w.heap.size, 1, none⟩ = some (.int .i64 aq) := fa 1 _ rfl
        have p2 : W0.cell? ⟨w.heap.size, 2, none⟩ = some (.slice A al.length c) := fa 2 _ rfl
        have r0 : W0.cell? ⟨w.heap.size + 1, 0, none⟩ = some (.int .i64 ac) := fb 0 _ rfl
        have r1 : W0.cell? ⟨w.heap.size + 1, 1, none⟩ = some (.int .i64 aq) := fb 1 _ rfl
        have r2 : W0.cell? ⟨w.heap.size + 1, 2, none⟩ = some (.slice D bl.length d) := fb 2 _ rfl
        clear fa fb hs1
        go_enter Try.func20, Try.ntmps20
        go_wp2
        have HW0 := Lib.hid hW0; clear hW0
        go_loopw [5] (fun i wr => ∃ k : Nat, i = .int .i64 k ∧ k ≤ al.length ∧ Below W0.heap.size W0 wr ∧ ((al.take k).zip (bl.take k)).all (fun p => eqO p.1 p.2) = true) (fun i _ => al.length - (intOf i).toNat)
        case atStart => exact ⟨0, rfl, by omega, Below.refl _ _, by simp⟩
        case round =>
          obtain ⟨k, rfl, hk, hbw, hall⟩ := hrel
          have HALL := Lib.hid hall; clear hall
          have pp2 : wr.cell? ⟨w.heap.size, 2, none⟩ = some (.slice A al.length c) := (hbw.cell (p := ⟨w.heap.size, 2, none⟩) g1).trans p2
          have rr2 : wr.cell? ⟨w.heap.size + 1, 2, none⟩ = some (.slice D bl.length d) := (hbw.cell (p := ⟨w.heap.size + 1, 2, none⟩) g2).trans r2
          clear p0 p1 p2 r0 r1 r2
          by_cases hkl : k < al.length
          · have hkm : k < bl.length := by have := H3.out; omega
            obtain ⟨ga, oa, rfl, hga, hca⟩ := HA.out (by omega)
            obtain ⟨gb, ob, rfl, hgb, hcb⟩ := HD.out (by omega)
            have ha := range_below (range_below (hca k hkl) hb0 (Nat.lt_of_lt_of_le hga hB)) hbw (by omega)
            have hb := range_below (range_below (hcb k hkm) hb0 (Nat.lt_of_lt_of_le hgb hB)) hbw (by omega)
            obtain ⟨x, hx⟩ : ∃ x, al[k] = x := ⟨_, rfl⟩
            obtain ⟨y, hy⟩ : ∃ y, bl[k] = y := ⟨_, rfl⟩
            rw [hx] at ha
            rw [hy] at hb
            have hi1 : (0 : Int) ≤ (k : Int) := by omega
            have hi2 : (k : Int) < (al.length : Int) := by omega
            have hi3 : (k : Int) < (bl.length : Int) := by omega
            have HX := Lib.hid hx; have HY := Lib.hid hy
            clear hca hcb HA HD hx hy
            obtain ⟨xk, xy, ⟨vk, vn, vs⟩, ⟨ok, on, os⟩, xn⟩ := x
            obtain ⟨yk, yy, ⟨wk, wn, ws⟩, ⟨qk, qn, qs⟩, yn⟩ := y
            have a0 : wr.cell? ⟨ga, oa + k * 9, none⟩ = some (.int .i64 xk) := ha 0 _ rfl
            have a1 : wr.cell? ⟨ga, oa + k * 9 + 1, none⟩ = some (.string xy) := ha 1 _ rfl
            have a2 : wr.cell? ⟨ga, oa + k * 9 + 2, none⟩ = some (.int .i64 vk) := ha 2 _ rfl
            have a3 : wr.cell? ⟨ga, oa + k * 9 + 3, none⟩ = some (.int .i64 vn) := ha 3 _ rfl
            have a4 : wr.cell? ⟨ga, oa + k * 9 + 4, none⟩ = some (.string vs) := ha 4 _ rfl
            have a5 : wr.cell? ⟨ga, oa + k * 9 + 5, none⟩ = some (.int .i64 ok) := ha 5 _ rfl
            have a6 : wr.cell? ⟨ga, oa + k * 9 + 6, none⟩ = some (.int .i64 on) := ha 6 _ rfl
            have a7 : wr.cell? ⟨ga, oa + k * 9 + 7, none⟩ = some (.string os) := ha 7 _ rfl
            have a8 : wr.cell? ⟨ga, oa + k * 9 + 8, none⟩ = some (.int .i64 xn) := ha 8 _ rfl
            have b0 : wr.cell? ⟨gb, ob + k * 9, none⟩ = some (.int .i64 yk) := hb 0 _ rfl
            have b1 : wr.cell? ⟨gb, ob + k * 9 + 1, none⟩ = some (.string yy) := hb 1 _ rfl
            have b2 : wr.cell? ⟨gb, ob + k * 9 + 2, none⟩ = some (.int .i64 wk) := hb 2 _ rfl
            have b3 : wr.cell? ⟨gb, ob + k * 9 + 3, none⟩ = some (.int .i64 wn) := hb 3 _ rfl
            have b4 : wr.cell? ⟨gb, ob + k * 9 + 4, none⟩ = some (.string ws) := hb 4 _ rfl
            have b5 : wr.cell? ⟨gb, ob + k * 9 + 5, none⟩ = some (.int .i64 qk) := hb 5 _ rfl
            have b6 : wr.cell? ⟨gb, ob + k * 9 + 6, none⟩ = some (.int .i64 qn) := hb 6 _ rfl
            have b7 : wr.cell? ⟨gb, ob + k * 9 + 7, none⟩ = some (.string qs) := hb 7 _ rfl
            have b8 : wr.cell? ⟨gb, ob + k * 9 + 8, none⟩ = some (.int .i64 yn) := hb 8 _ rfl
            clear ha hb
            go_wp2_with fail
            go_region_held3 (fun W => W.cell? ⟨w.heap.size, 2, none⟩ = some (.slice (some ⟨ga, oa, none⟩) al.length c) ∧ W.cell? ⟨w.heap.size + 1, 2, none⟩ = some (.slice (some ⟨gb, ob, none⟩) bl.length d) ∧ W.cell? ⟨ga, oa + k * 9, none⟩ = some (.int .i64 xk) ∧ W.cell? ⟨ga, oa + k * 9 + 1, none⟩ = some (.string xy) ∧ W.cell? ⟨ga, oa + k * 9 + 2, none⟩ = some (.int .i64 vk) ∧ W.cell? ⟨ga, oa + k * 9 + 3, none⟩ = some (.int .i64 vn) ∧ W.cell? ⟨ga, oa + k * 9 + 4, none⟩ = some (.string vs) ∧ W.cell? ⟨ga, oa + k * 9 + 5, none⟩ = some (.int .i64 ok) ∧ W.cell? ⟨ga, oa + k * 9 + 6, none⟩ = some (.int .i64 on) ∧ W.cell? ⟨ga, oa + k * 9 + 7, none⟩ = some (.string os) ∧ W.cell? ⟨ga, oa + k * 9 + 8, none⟩ = some (.int .i64 xn) ∧ W.cell? ⟨gb, ob + k * 9, none⟩ = some (.int .i64 yk) ∧ W.cell? ⟨gb, ob + k * 9 + 1, none⟩ = some (.string yy) ∧ W.cell? ⟨gb, ob + k * 9 + 2, none⟩ = some (.int .i64 wk) ∧ W.cell? ⟨gb, ob + k * 9 + 3, none⟩ = some (.int .i64 wn) ∧ W.cell? ⟨gb, ob + k * 9 + 4, none⟩ = some (.string ws) ∧ W.cell? ⟨gb, ob + k * 9 + 5, none⟩ = some (.int .i64 qk) ∧ W.cell? ⟨gb, ob + k * 9 + 6, none⟩ = some (.int .i64 qn) ∧ W.cell? ⟨gb, ob + k * 9 + 7, none⟩ = some (.string qs) ∧ W.cell? ⟨gb, ob + k * 9 + 8, none⟩ = some (.int .i64 yn)) (first | exact ⟨pp2, rr2, a0, a1, a2, a3, a4, a5, a6, a7, a8, b0, b1, b2, b3, b4, b5, b6, b7, b8⟩ | go_keep) (fail)
            · obtain ⟨W2, hW2⟩ : ∃ W2, ((wr.alloc (Obj.cells #[.int .i64 xk, .string xy, .int .i64 vk, .int .i64 vn, .string vs, .int .i64 ok, .int .i64 on, .string os, .int .i64 xn] 25)).alloc (Obj.cells #[.int .i64 yk, .string yy, .int .i64 wk, .int .i64 wn, .string ws, .int .i64 qk, .int .i64 qn, .string qs, .int .i64 yn] 25)).drew = W2 := ⟨_, rfl⟩
              have hlow : ∀ j v, (#[.int .i64 xk, .string xy, .int .i64 vk, .int .i64 vn, .string vs, .int .i64 ok, .int .i64 on, .string os, .int .i64 xn] : Array Value)[j]? = some v → W2.cell? ⟨wr.heap.size, j, none⟩ = some v := fun j v h => by
                rw [← hW2]
                exact ((below_new (wr.alloc _) _).cell (p := ⟨wr.heap.size, j, none⟩) (by simp)).trans ((World.cell?_alloc_mark wr _ _ _ j).trans h)
              have hhigh : ∀ j v, (#[.int .i64 yk, .string yy, .int .i64 wk, .int .i64 wn, .string ws, .int .i64 qk, .int .i64 qn, .string qs, .int .i64 yn] : Array Value)[j]? = some v → W2.cell? ⟨wr.heap.size + 1, j, none⟩ = some v := fun j v h => by
                rw [← hW2]
                have e := World.cell?_alloc_mark (wr.alloc (Obj.cells #[.int .i64 xk, .string xy, .int .i64 vk, .int .i64 vn, .string vs, .int .i64 ok, .int .i64 on, .string os, .int .i64 xn] 25)) #[.int .i64 yk, .string yy, .int .i64 wk, .int .i64 wn, .string ws, .int .i64 qk, .int .i64 qn, .string qs, .int .i64 yn] 25 (0, 0) j
                rw [show (wr.alloc (Obj.cells #[.int .i64 xk, .string xy, .int .i64 vk, .int .i64 vn, .string vs, .int .i64 ok, .int .i64 on, .string os, .int .i64 xn] 25)).heap.size = wr.heap.size + 1 by simp] at e
                exact e.trans h
              have hb2 : Below W0.heap.size W0 W2 := by rw [← hW2]; exact ((hbw.alloc hbw.size _).alloc (Nat.le_trans hbw.size (by simp)) _).drew
              have hgx : wr.heap.size < W2.heap.size := by rw [← hW2]; show _ < ((wr.alloc _).alloc _).heap.size; simp; try omega
              have hgy : wr.heap.size + 1 < W2.heap.size := by rw [← hW2]; show _ < ((wr.alloc _).alloc _).heap.size; simp; try omega
              have c0 : W2.cell? ⟨wr.heap.size, 0, none⟩ = some (.int .i64 xk) := hlow 0 _ rfl
              have d0 : W2.cell? ⟨wr.heap.size + 1, 0, none⟩ = some (.int .i64 yk) := hhigh 0 _ rfl
              have c1 : W2.cell? ⟨wr.heap.size, 1, none⟩ = some (.string xy) := hlow 1 _ rfl
              have d1 : W2.cell? ⟨wr.heap.size + 1, 1, none⟩ = some (.string yy) := hhigh 1 _ rfl
              have c2 : W2.cell? ⟨wr.heap.size, 2, none⟩ = some (.int .i64 vk) := hlow 2 _ rfl
              have d2 : W2.cell? ⟨wr.heap.size + 1, 2, none⟩ = some (.int .i64 wk) := hhigh 2 _ rfl
              have c3 : W2.cell? ⟨wr.heap.size, 3, none⟩ = some (.int .i64 vn) := hlow 3 _ rfl
              have d3 : W2.cell? ⟨wr.heap.size + 1, 3, none⟩ = some (.int .i64 wn) := hhigh 3 _ rfl
              have c4 : W2.cell? ⟨wr.heap.size, 4, none⟩ = some (.string vs) := hlow 4 _ rfl
              have d4 : W2.cell? ⟨wr.heap.size + 1, 4, none⟩ = some (.string ws) := hhigh 4 _ rfl
              have c5 : W2.cell? ⟨wr.heap.size, 5, none⟩ = some (.int .i64 ok) := hlow 5 _ rfl
              have d5 : W2.cell? ⟨wr.heap.size + 1, 5, none⟩ = some (.int .i64 qk) := hhigh 5 _ rfl
              have c6 : W2.cell? ⟨wr.heap.size, 6, none⟩ = some (.int .i64 on) := hlow 6 _ rfl
              have d6 : W2.cell? ⟨wr.heap.size + 1, 6, none⟩ = some (.int .i64 qn) := hhigh 6 _ rfl
              have c7 : W2.cell? ⟨wr.heap.size, 7, none⟩ = some (.string os) := hlow 7 _ rfl
              have d7 : W2.cell? ⟨wr.heap.size + 1, 7, none⟩ = some (.string qs) := hhigh 7 _ rfl
              have c8 : W2.cell? ⟨wr.heap.size, 8, none⟩ = some (.int .i64 xn) := hlow 8 _ rfl
              have d8 : W2.cell? ⟨wr.heap.size + 1, 8, none⟩ = some (.int .i64 yn) := hhigh 8 _ rfl
              have HW2 := Lib.hid hW2; rw [hW2]; clear hW2 hlow hhigh
              by_cases k1 : xk = yk
              · have n1 : (xk != yk) = false := by rw [k1]; simp
                by_cases k2 : xy = yy
                · have n2 : (xy.toList == yy.toList) = true := by rw [k2]; simp
                  obtain ⟨ev, hev⟩ : ∃ ev, eqR ⟨vk, vn, vs⟩ ⟨wk, wn, ws⟩ = ev := ⟨_, rfl⟩
                  obtain ⟨eo, heo⟩ : ∃ eo, eqR ⟨ok, on, os⟩ ⟨qk, qn, qs⟩ = eo := ⟨_, rfl⟩
                  have hE : eqO ⟨xk, xy, ⟨vk, vn, vs⟩, ⟨ok, on, os⟩, xn⟩ ⟨yk, yy, ⟨wk, wn, ws⟩, ⟨qk, qn, qs⟩, yn⟩ = (ev && eo && xn == yn) := by unfold eqO; rw [hev, heo, k1, k2]; simp
                  have HE := Lib.hid hE; have HEV := Lib.hid hev; have HEO := Lib.hid heo; have HK1 := Lib.hid k1; have HK2 := Lib.hid k2
                  clear hE hev heo k1 k2
                  go_wp2_with fail
                  refine (req_v _ _ ⟨vk, vn, vs⟩ ⟨wk, wn, ws⟩ ev _ rfl rfl HEV.out).mono ?_
                  rintro e w3 ⟨rfl, hb3⟩
                  have hbb3 := hb2.trans (hb3.mono hb2.size)
                  have ec5 : w3.cell? ⟨wr.heap.size, 5, none⟩ = some (.int .i64 ok) := (hb3.cell (p := ⟨wr.heap.size, 5, none⟩) hgx).trans c5
                  have ed5 : w3.cell? ⟨wr.heap.size + 1, 5, none⟩ = some (.int .i64 qk) := (hb3.cell (p := ⟨wr.heap.size + 1, 5, none⟩) hgy).trans d5
                  have ec6 : w3.cell? ⟨wr.heap.size, 6, none⟩ = some (.int .i64 on) := (hb3.cell (p := ⟨wr.heap.size, 6, none⟩) hgx).trans c6
                  have ed6 : w3.cell? ⟨wr.heap.size + 1, 6, none⟩ = some (.int .i64 qn) := (hb3.cell (p := ⟨wr.heap.size + 1, 6, none⟩) hgy).trans d6
                  have ec7 : w3.cell? ⟨wr.heap.size, 7, none⟩ = some (.string os) := (hb3.cell (p := ⟨wr.heap.size, 7, none⟩) hgx).trans c7
                  have ed7 : w3.cell? ⟨wr.heap.size + 1, 7, none⟩ = some (.string qs) := (hb3.cell (p := ⟨wr.heap.size + 1, 7, none⟩) hgy).trans d7
                  have ec8 : w3.cell? ⟨wr.heap.size, 8, none⟩ = some (.int .i64 xn) := (hb3.cell (p := ⟨wr.heap.size, 8, none⟩) hgx).trans c8
                  have ed8 : w3.cell? ⟨wr.heap.size + 1, 8, none⟩ = some (.int .i64 yn) := (hb3.cell (p := ⟨wr.heap.size + 1, 8, none⟩) hgy).trans d8
                  have hgx1 := Nat.lt_of_lt_of_le hgx hb3.size
                  have hgy1 := Nat.lt_of_lt_of_le hgy hb3.size
                  clear c0 d0 c1 d1 c2 d2 c3 d3 c4 d4 c5 d5 c6 d6 c7 d7 c8 d8
                  cases ev
                  · have hf := eqB_no (ac := ac) (aq := aq) (bc := ac) (bq := aq) HX.out HY.out (by rw [HE.out]; simp)
                    have HF := Lib.hid hf; clear hf
                    go_wp2
                    go_ret
                    exact ⟨ret_bool HF.out.symm, (hb0.trans (hbb3.mono (Nat.le_of_lt g1)))⟩
                  · go_wp2_with fail
                    refine (req_v _ _ ⟨ok, on, os⟩ ⟨qk, qn, qs⟩ eo _ rfl rfl HEO.out).mono ?_
                    rintro e w4 ⟨rfl, hb4⟩
                    have hbb4 := hbb3.trans (hb4.mono hbb3.size)
                    have fc8 : w4.cell? ⟨wr.heap.size, 8, none⟩ = some (.int .i64 xn) := (hb4.cell (p := ⟨wr.heap.size, 8, none⟩) hgx1).trans ec8
                    have fd8 : w4.cell? ⟨wr.heap.size + 1, 8, none⟩ = some (.int .i64 yn) := (hb4.cell (p := ⟨wr.heap.size + 1, 8, none⟩) hgy1).trans ed8
                    clear ec5 ec6 ec7 ec8 ed5 ed6 ed7 ed8
                    cases eo
                    · have hf := eqB_no (ac := ac) (aq := aq) (bc := ac) (bq := aq) HX.out HY.out (by rw [HE.out]; simp)
                      have HF := Lib.hid hf; clear hf
                      go_wp2
                      go_ret
                      exact ⟨ret_bool HF.out.symm, (hb0.trans (hbb4.mono (Nat.le_of_lt g1)))⟩
                    · by_cases k3 : xn = yn
                      · have n3 : (xn != yn) = false := by rw [k3]; simp
                        have hy2 := eqB_go HALL.out HX.out HY.out (by rw [HE.out, k3]; simp)
                        have HG := Lib.hid hy2; clear hy2
                        clear k3
                        go_wp2
                        go_roundw
                        case rel => exact ⟨k + 1, by go_num, by omega, hbb4, HG.out⟩
                        case measure => simp [intOf]; omega
                      · have n3 : (xn != yn) = true := by rw [bne_iff_ne]; exact k3
                        have hf := eqB_no (ac := ac) (aq := aq) (bc := ac) (bq := aq) HX.out HY.out (by rw [HE.out, beq_eq_false_iff_ne.2 k3]; simp)
                        have HF := Lib.hid hf; clear hf k3
                        go_wp2
                        go_ret
                        exact ⟨ret_bool HF.out.symm, (hb0.trans (hbb4.mono (Nat.le_of_lt g1)))⟩
                · have n2 : (xy.toList == yy.toList) = false := by rw [beq_eq_false_iff_ne]; exact fun e => k2 (toList_inj e)
                  have hf := eqB_no (ac := ac) (aq := aq) (bc := ac) (bq := aq) HX.out HY.out (by unfold eqO; rw [beq_eq_false_iff_ne.2 (fun e => k2 (bytes_eq e))]; simp)
                  have HF := Lib.hid hf; clear hf k2
                  go_wp2
                  go_ret
                  exact ⟨ret_bool HF.out.symm, (hb0.trans (hb2.mono (Nat.le_of_lt g1)))⟩
              · have n1 : (xk != yk) = true := by rw [bne_iff_ne]; exact k1
                have hf := eqB_no (ac := ac) (aq := aq) (bc := ac) (bq := aq) HX.out HY.out (by unfold eqO; rw [beq_eq_false_iff_ne.2 k1]; simp)
                have HF := Lib.hid hf; clear hf k1
                go_wp2
                go_ret
                exact ⟨ret_bool HF.out.symm, (hb0.trans (hb2.mono (Nat.le_of_lt g1)))⟩
            · obtain ⟨W2, hW2⟩ : ∃ W2, ((wr.alloc (Obj.cells #[.int .i64 yk, .string yy, .int .i64 wk, .int .i64 wn, .string ws, .int .i64 qk, .int .i64 qn, .string qs, .int .i64 yn] 25)).alloc (Obj.cells #[.int .i64 xk, .string xy, .int .i64 vk, .int .i64 vn, .string vs, .int .i64 ok, .int .i64 on, .string os, .int .i64 xn] 25)).drew = W2 := ⟨_, rfl⟩
              have hlow : ∀ j v, (#[.int .i64 yk, .string yy, .int .i64 wk, .int .i64 wn, .string ws, .int .i64 qk, .int .i64 qn, .string qs, .int .i64 yn] : Array Value)[j]? = some v → W2.cell? ⟨wr.heap.size, j, none⟩ = some v := fun j v h => by
                rw [← hW2]
                exact ((below_new (wr.alloc _) _).cell (p := ⟨wr.heap.size, j, none⟩) (by simp)).trans ((World.cell?_alloc_mark wr _ _ _ j).trans h)
              have hhigh : ∀ j v, (#[.int .i64 xk, .string xy, .int .i64 vk, .int .i64 vn, .string vs, .int .i64 ok, .int .i64 on, .string os, .int .i64 xn] : Array Value)[j]? = some v → W2.cell? ⟨wr.heap.size + 1, j, none⟩ = some v := fun j v h => by
                rw [← hW2]
                have e := World.cell?_alloc_mark (wr.alloc (Obj.cells #[.int .i64 yk, .string yy, .int .i64 wk, .int .i64 wn, .string ws, .int .i64 qk, .int .i64 qn, .string qs, .int .i64 yn] 25)) #[.int .i64 xk, .string xy, .int .i64 vk, .int .i64 vn, .string vs, .int .i64 ok, .int .i64 on, .string os, .int .i64 xn] 25 (0, 0) j
                rw [show (wr.alloc (Obj.cells #[.int .i64 yk, .string yy, .int .i64 wk, .int .i64 wn, .string ws, .int .i64 qk, .int .i64 qn, .string qs, .int .i64 yn] 25)).heap.size = wr.heap.size + 1 by simp] at e
                exact e.trans h
              have hb2 : Below W0.heap.size W0 W2 := by rw [← hW2]; exact ((hbw.alloc hbw.size _).alloc (Nat.le_trans hbw.size (by simp)) _).drew
              have hgx : wr.heap.size + 1 < W2.heap.size := by rw [← hW2]; show _ < ((wr.alloc _).alloc _).heap.size; simp; try omega
              have hgy : wr.heap.size < W2.heap.size := by rw [← hW2]; show _ < ((wr.alloc _).alloc _).heap.size; simp; try omega
              have c0 : W2.cell? ⟨wr.heap.size + 1, 0, none⟩ = some (.int .i64 xk) := hhigh 0 _ rfl
              have d0 : W2.cell? ⟨wr.heap.size, 0, none⟩ = some (.int .i64 yk) := hlow 0 _ rfl
              have c1 : W2.cell? ⟨wr.heap.size + 1, 1, none⟩ = some (.string xy) := hhigh 1 _ rfl
              have d1 : W2.cell? ⟨wr.heap.size, 1, none⟩ = some (.string yy) := hlow 1 _ rfl
              have c2 : W2.cell? ⟨wr.heap.size + 1, 2, none⟩ = some (.int .i64 vk) := hhigh 2 _ rfl
              have d2 : W2.cell? ⟨wr.heap.size, 2, none⟩ = some (.int .i64 wk) := hlow 2 _ rfl
              have c3 : W2.cell? ⟨wr.heap.size + 1, 3, none⟩ = some (.int .i64 vn) := hhigh 3 _ rfl
              have d3 : W2.cell? ⟨wr.heap.size, 3, none⟩ = some (.int .i64 wn) := hlow 3 _ rfl
              have c4 : W2.cell? ⟨wr.heap.size + 1, 4, none⟩ = some (.string vs) := hhigh 4 _ rfl
              have d4 : W2.cell? ⟨wr.heap.size, 4, none⟩ = some (.string ws) := hlow 4 _ rfl
              have c5 : W2.cell? ⟨wr.heap.size + 1, 5, none⟩ = some (.int .i64 ok) := hhigh 5 _ rfl
              have d5 : W2.cell? ⟨wr.heap.size, 5, none⟩ = some (.int .i64 qk) := hlow 5 _ rfl
              have c6 : W2.cell? ⟨wr.heap.size + 1, 6, none⟩ = some (.int .i64 on) := hhigh 6 _ rfl
              have d6 : W2.cell? ⟨wr.heap.size, 6, none⟩ = some (.int .i64 qn) := hlow 6 _ rfl
              have c7 : W2.cell? ⟨wr.heap.size + 1, 7, none⟩ = some (.string os) := hhigh 7 _ rfl
              have d7 : W2.cell? ⟨wr.heap.size, 7, none⟩ = some (.string qs) := hlow 7 _ rfl
              have c8 : W2.cell? ⟨wr.heap.size + 1, 8, none⟩ = some (.int .i64 xn) := hhigh 8 _ rfl
              have d8 : W2.cell? ⟨wr.heap.size, 8, none⟩ = some (.int .i64 yn) := hlow 8 _ rfl
              have HW2 := Lib.hid hW2; rw [hW2]; clear hW2 hlow hhigh
              by_cases k1 : xk = yk
              · have n1 : (xk != yk) = false := by rw [k1]; simp
                by_cases k2 : xy = yy
                · have n2 : (xy.toList == yy.toList) = true := by rw [k2]; simp
                  obtain ⟨ev, hev⟩ : ∃ ev, eqR ⟨vk, vn, vs⟩ ⟨wk, wn, ws⟩ = ev := ⟨_, rfl⟩
                  obtain ⟨eo, heo⟩ : ∃ eo, eqR ⟨ok, on, os⟩ ⟨qk, qn, qs⟩ = eo := ⟨_, rfl⟩
                  have hE : eqO ⟨xk, xy, ⟨vk, vn, vs⟩, ⟨ok, on, os⟩, xn⟩ ⟨yk, yy, ⟨wk, wn, ws⟩, ⟨qk, qn, qs⟩, yn⟩ = (ev && eo && xn == yn) := by unfold eqO; rw [hev, heo, k1, k2]; simp
                  have HE := Lib.hid hE; have HEV := Lib.hid hev; have HEO := Lib.hid heo; have HK1 := Lib.hid k1; have HK2 := Lib.hid k2
                  clear hE hev heo k1 k2
                  go_wp2_with fail
                  refine (req_v _ _ ⟨vk, vn, vs⟩ ⟨wk, wn, ws⟩ ev _ rfl rfl HEV.out).mono ?_
                  rintro e w3 ⟨rfl, hb3⟩
                  have hbb3 := hb2.trans (hb3.mono hb2.size)
                  have ec5 : w3.cell? ⟨wr.heap.size + 1, 5, none⟩ = some (.int .i64 ok) := (hb3.cell (p := ⟨wr.heap.size + 1, 5, none⟩) hgx).trans c5
                  have ed5 : w3.cell? ⟨wr.heap.size, 5, none⟩ = some (.int .i64 qk) := (hb3.cell (p := ⟨wr.heap.size, 5, none⟩) hgy).trans d5
                  have ec6 : w3.cell? ⟨wr.heap.size + 1, 6, none⟩ = some (.int .i64 on) := (hb3.cell (p := ⟨wr.heap.size + 1, 6, none⟩) hgx).trans c6
                  have ed6 : w3.cell? ⟨wr.heap.size, 6, none⟩ = some (.int .i64 qn) := (hb3.cell (p := ⟨wr.heap.size, 6, none⟩) hgy).trans d6
                  have ec7 : w3.cell? ⟨wr.heap.size + 1, 7, none⟩ = some (.string os) := (hb3.cell (p := ⟨wr.heap.size + 1, 7, none⟩) hgx).trans c7
                  have ed7 : w3.cell? ⟨wr.heap.size, 7, none⟩ = some (.string qs) := (hb3.cell (p := ⟨wr.heap.size, 7, none⟩) hgy).trans d7
                  have ec8 : w3.cell? ⟨wr.heap.size + 1, 8, none⟩ = some (.int .i64 xn) := (hb3.cell (p := ⟨wr.heap.size + 1, 8, none⟩) hgx).trans c8
                  have ed8 : w3.cell? ⟨wr.heap.size, 8, none⟩ = some (.int .i64 yn) := (hb3.cell (p := ⟨wr.heap.size, 8, none⟩) hgy).trans d8
                  have hgx1 := Nat.lt_of_lt_of_le hgx hb3.size
                  have hgy1 := Nat.lt_of_lt_of_le hgy hb3.size
                  clear c0 d0 c1 d1 c2 d2 c3 d3 c4 d4 c5 d5 c6 d6 c7 d7 c8 d8
                  cases ev
                  · have hf := eqB_no (ac := ac) (aq := aq) (bc := ac) (bq := aq) HX.out HY.out (by rw [HE.out]; simp)
                    have HF := Lib.hid hf; clear hf
                    go_wp2
                    go_ret
                    exact ⟨ret_bool HF.out.symm, (hb0.trans (hbb3.mono (Nat.le_of_lt g1)))⟩
                  · go_wp2_with fail
                    refine (req_v _ _ ⟨ok, on, os⟩ ⟨qk, qn, qs⟩ eo _ rfl rfl HEO.out).mono ?_
                    rintro e w4 ⟨rfl, hb4⟩
                    have hbb4 := hbb3.trans (hb4.mono hbb3.size)
                    have fc8 : w4.cell? ⟨wr.heap.size + 1, 8, none⟩ = some (.int .i64 xn) := (hb4.cell (p := ⟨wr.heap.size + 1, 8, none⟩) hgx1).trans ec8
                    have fd8 : w4.cell? ⟨wr.heap.size, 8, none⟩ = some (.int .i64 yn) := (hb4.cell (p := ⟨wr.heap.size, 8, none⟩) hgy1).trans ed8
                    clear ec5 ec6 ec7 ec8 ed5 ed6 ed7 ed8
                    cases eo
                    · have hf := eqB_no (ac := ac) (aq := aq) (bc := ac) (bq := aq) HX.out HY.out (by rw [HE.out]; simp)
                      have HF := Lib.hid hf; clear hf
                      go_wp2
                      go_ret
                      exact ⟨ret_bool HF.out.symm, (hb0.trans (hbb4.mono (Nat.le_of_lt g1)))⟩
                    · by_cases k3 : xn = yn
                      · have n3 : (xn != yn) = false := by rw [k3]; simp
                        have hy2 := eqB_go HALL.out HX.out HY.out (by rw [HE.out, k3]; simp)
                        have HG := Lib.hid hy2; clear hy2
                        clear k3
                        go_wp2
                        go_roundw
                        case rel => exact ⟨k + 1, by go_num, by omega, hbb4, HG.out⟩
                        case measure => simp [intOf]; omega
                      · have n3 : (xn != yn) = true := by rw [bne_iff_ne]; exact k3
                        have hf := eqB_no (ac := ac) (aq := aq) (bc := ac) (bq := aq) HX.out HY.out (by rw [HE.out, beq_eq_false_iff_ne.2 k3]; simp)
                        have HF := Lib.hid hf; clear hf k3
                        go_wp2
                        go_ret
                        exact ⟨ret_bool HF.out.symm, (hb0.trans (hbb4.mono (Nat.le_of_lt g1)))⟩
                · have n2 : (xy.toList == yy.toList) = false := by rw [beq_eq_false_iff_ne]; exact fun e => k2 (toList_inj e)
                  have hf := eqB_no (ac := ac) (aq := aq) (bc := ac) (bq := aq) HX.out HY.out (by unfold eqO; rw [beq_eq_false_iff_ne.2 (fun e => k2 (bytes_eq e))]; simp)
                  have HF := Lib.hid hf; clear hf k2
                  go_wp2
                  go_ret
                  exact ⟨ret_bool HF.out.symm, (hb0.trans (hb2.mono (Nat.le_of_lt g1)))⟩
              · have n1 : (xk != yk) = true := by rw [bne_iff_ne]; exact k1
                have hf := eqB_no (ac := ac) (aq := aq) (bc := ac) (bq := aq) HX.out HY.out (by unfold eqO; rw [beq_eq_false_iff_ne.2 k1]; simp)
                have HF := Lib.hid hf; clear hf k1
                go_wp2
                go_ret
                exact ⟨ret_bool HF.out.symm, (hb0.trans (hb2.mono (Nat.le_of_lt g1)))⟩
          · have hfin : eqB ⟨ac, aq, al⟩ ⟨ac, aq, bl⟩ = true := by
              have h1 := HALL.out
              rw [List.take_of_length_le (by omega), List.take_of_length_le (by have := H3.out; omega)] at h1
              unfold eqB eqOs
              rw [h1, decide_eq_true H3.out]; simp
            have HF := Lib.hid hfin; clear hfin HALL
            go_wp2
            go_ret
            exact ⟨ret_bool HF.out.symm, hb0.trans (hbw.mono (Nat.le_of_lt g1))⟩
      · have e3 : ((al.length : Int) != (bl.length : Int)) = true := by rw [bne_iff_ne]; omega
        have hf : eqB ⟨ac, aq, al⟩ ⟨bc, bq, bl⟩ = false := by unfold eqB eqOs; rw [decide_eq_false h3]; simp
        subst h1; subst h2
        have e1 : (ac != ac) = false := by simp
        have e2 : (aq != aq) = false := by simp
        have HF := Lib.hid hf; clear hf h3 hA hD
        go_enter Try.func20, Try.ntmps20
        go_wp2
        go_ret
        exact ⟨ret_bool HF.out.symm, below_two _ _ _⟩
    · have e2 : (aq != bq) = true := by rw [bne_iff_ne]; exact h2
      have hf : eqB ⟨ac, aq, al⟩ ⟨bc, bq, bl⟩ = false := by unfold eqB; rw [beq_eq_false_iff_ne.2 h2]; simp
      subst h1
      have e1 : (ac != ac) = false := by simp
      have HF := Lib.hid hf; clear hf h2 hA hD
      go_enter Try.func20, Try.ntmps20
      go_wp2
      go_ret
      exact ⟨ret_bool HF.out.symm, below_two _ _ _⟩
  · have e1 : (ac != bc) = true := by rw [bne_iff_ne]; exact h1
    have hf : eqB ⟨ac, aq, al⟩ ⟨bc, bq, bl⟩ = false := by unfold eqB; rw [beq_eq_false_iff_ne.2 h1]; simp
    have HF := Lib.hid hf; clear hf h1 hA hD
    go_enter Try.func20, Try.ntmps20
    go_wp2
    go_ret
    exact ⟨ret_bool HF.out.symm, below_two _ _ _⟩
end Go.Proofs.Ytdhppekfehbngaa
