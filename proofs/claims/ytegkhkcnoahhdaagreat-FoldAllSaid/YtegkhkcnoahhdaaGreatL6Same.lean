/- The laws' Same and tells: a document has just what the reference's has; bytes are a document's, just its, or nobody's. -/
import Derived.Test.YtegkhkcnoahhdaaGreatL6Begun
import Derived.Test.YtegkhkcnoahhdaaGreatLawKit
set_option linter.unusedSimpArgs false
set_option linter.unusedVariables false
namespace Go.Proofs.YtegkhkcnoahhdaaGreat
open Lib (hid)
open Go.RowKit
set_option maxRecDepth 100000
theorem dGet_at {l : List Par} (h : Srt l) (k : Nat) (hk : k < l.length) : dGet l l[k].k = (l[k].v, true) := by
 have hp : pos l l[k].k = k := by
  refine pos_is l _ k (Nat.le_of_lt hk) (fun t ht htk => srt_at h htk hk) (fun _ => lesB_self _)
 have hh : hasK l l[k].k = true := by
  unfold hasK
  rw [hp, List.getElem?_eq_getElem hk]
  simp [sameK]
 rw [dGet_yes h hh]
 congr 1
 simp only [hp]
theorem OwnS.cellAt {B g n c : Nat} {ks : List ByteArray} {w : World} (h : OwnS B (.slice (some ⟨g, 0, none⟩) n c) ks w) (i : Nat) (hi : i < ks.length) : w.cell? ⟨g, i, none⟩ = some (.string ks[i]) := by
 have hn : n = ks.length := by
  rcases h.2 with ⟨e, _⟩ | ⟨g', c', cur, e, _⟩
  ·cases e
  ·injection e
 subst hn
 have h2 := World.ownsRow.cellAt h i (by omega)
 rw [h2]; simp [hi]
theorem OwnS.lt {B g n c : Nat} {ks : List ByteArray} {w : World} (h : OwnS B (.slice (some ⟨g, 0, none⟩) n c) ks w) : B ≤ g ∧ g < w.heap.size := World.ownsRow.lt h g rfl
set_option maxHeartbeats 1000000 in
theorem lsame_any (B g C : Nat) (rv : Value) (l : List Par) (w : World) (h : Dc w B g l) (hr : DocV w C rv l) (hC : C ≤ w.heap.size) :
  Calls Tryz.prog 31 #[.pointer (some ⟨g, 0, none⟩), rv] w (Bl true w) := by
 obtain ⟨s, rfl, A, c, rfl, hc, hcell⟩ := hr
 obtain ⟨n, hn⟩ : ∃ n, l.length = n := ⟨_, rfl⟩
 have hlen := h.1.len
 rw [hn] at hc hlen ⊢
 have HC := hid hcell
 have HN := hid hn
 have HD := hid h
 have hb := Below.refl w.heap.size w
 clear h hcell hn
 go_enter Tryz.func31, Tryz.ntmps31
 go_wp2_with fail
 refine (lkeys_is B g n l _ (HD.out.below (below_one w _)) HN.out).mono ?_
 rintro e k1 ⟨gk, rfl, hK, h⟩
 have hb1 : Below w.heap.size w k1 := (below_one w _).trans (h.mono (by simp))
 have q0 : k1.cell? ⟨w.heap.size, 0, none⟩ = some (.slice A n c) := (h.cell (p := ⟨w.heap.size, 0, none⟩) (by simp)).trans (by go_simp)
 have hz := h.size
 simp at hz
 have HK := hid hK
 clear h hK
 go_wp2
 go_loopw [6] (fun i wr => ∃ k : Nat, i = .int .i64 k ∧ k ≤ n ∧ Below k1.heap.size k1 wr) (fun i _ => n - (intOf i).toNat)
 case atStart => exact ⟨0, rfl, by omega, Below.refl _ _⟩
 case round =>
  obtain ⟨k, rfl, hk, hbw⟩ := hrel
  have hbw1 : Below w.heap.size w wr := hb1.trans (hbw.mono hb1.size)
  by_cases hkl : k < n
  ·have hkl2 : k < l.length := by have := HN.out; omega
   obtain ⟨gr, o, rfl, hgr, hcs⟩ := HC.out (by have := HN.out; omega)
   have hget := dGet_at HD.out.1.srt k hkl2
   have hks := HD.out.1.key l[k] (List.getElem_mem ..)
   obtain ⟨x, hx⟩ : ∃ x, l[k] = x := ⟨_, rfl⟩
   have hr := range_below (hcs k hkl2) hbw1 (Nat.lt_of_lt_of_le hgr hC)
   have hkc := HK.out.cellAt k (by rw [List.length_map]; omega)
   have hkg := HK.out.lt.2
   rw [List.getElem_map, hx] at hkc
   replace hkc := (hbw.cell (p := ⟨gk, k, none⟩) hkg).trans hkc
   have hq := (hbw.cell (p := ⟨w.heap.size, 0, none⟩) (by show w.heap.size < _; omega)).trans q0
   rw [hx] at hget hks hr
   obtain ⟨xy, ⟨vk, vn, vs⟩⟩ := x
   simp only at hget hks hkc
   have a0 : wr.cell? ⟨gr, o + k * 4, none⟩ = some (.string xy) := hr 0 _ rfl
   have a1 : wr.cell? ⟨gr, o + k * 4 + 1, none⟩ = some (.int .i64 vk) := hr 1 _ rfl
   have a2 : wr.cell? ⟨gr, o + k * 4 + 2, none⟩ = some (.int .i64 vn) := hr 2 _ rfl
   have a3 : wr.cell? ⟨gr, o + k * 4 + 3, none⟩ = some (.string vs) := hr 3 _ rfl
   have hkg2 : gk < wr.heap.size := Nat.lt_of_lt_of_le hkg hbw.size
   have hgr2 : gr < wr.heap.size := Nat.lt_of_lt_of_le (Nat.lt_of_lt_of_le hgr hC) hbw1.size
   have hws : w.heap.size < wr.heap.size := by have := hbw.size; omega
   have hki : (k : Int) < (n : Int) := by omega
   have HGET := hid hget
   have HKL := hid hkl
   have hdw := HD.out.below hbw1
   have HDW := hid hdw
   have hs1 : (xy.toList != xy.toList) = false := by simp
   have hs2 : (xy.toList == xy.toList) = true := by simp
   clear hr hcs hget hx hdw
   go_wp2_with fail
   refine (lget_is B g l xy vk vn vs true _ HDW.out (by omega) HGET.out).mono ?_
   rintro e k2 ⟨rfl, h⟩
   have hz2 := h.size
   replace hkc := (h.cell (p := ⟨gk, k, none⟩) hkg2).trans hkc
   replace hq := (h.cell (p := ⟨w.heap.size, 0, none⟩) hws).trans hq
   replace a0 := (h.cell (p := ⟨gr, o + k * 4, none⟩) hgr2).trans a0
   replace a1 := (h.cell (p := ⟨gr, o + k * 4 + 1, none⟩) hgr2).trans a1
   replace a2 := (h.cell (p := ⟨gr, o + k * 4 + 2, none⟩) hgr2).trans a2
   replace a3 := (h.cell (p := ⟨gr, o + k * 4 + 3, none⟩) hgr2).trans a3
   have hb2 : Below k1.heap.size k1 k2 := hbw.trans (h.mono hbw.size)
   have hkg3 : gk < k2.heap.size := Nat.lt_of_lt_of_le hkg2 hz2
   have hgr3 : gr < k2.heap.size := Nat.lt_of_lt_of_le hgr2 hz2
   have hws3 : w.heap.size < k2.heap.size := by omega
   clear h
   have hvs := hks
   have hb : Below w.heap.size w k2 := hb1.trans (hb2.mono hb1.size)
   have HB2 := hid hb2; clear hb2
   go_wp2_with fail
   have lt0 : gk < k2.heap.size := LT9
   have lt1 : w.heap.size < k2.heap.size := LT9
   have lt2 : gr < k2.heap.size := LT9
   refine wp_world (fun W => W.cell? ⟨gk, k, none⟩ = some (.string xy) ∧ W.cell? ⟨w.heap.size, 0, none⟩ = some (.slice (some ⟨gr, o, none⟩) n c) ∧ W.cell? ⟨gr, o + k * 4, none⟩ = some (.string xy) ∧ W.cell? ⟨gr, o + k * 4 + 1, none⟩ = some (.int .i64 vk) ∧ W.cell? ⟨gr, o + k * 4 + 2, none⟩ = some (.int .i64 vn) ∧ W.cell? ⟨gr, o + k * 4 + 3, none⟩ = some (.string vs) ∧ W.cell? ⟨k2.heap.size, 0, none⟩ = some (.int .i64 vk) ∧ W.cell? ⟨k2.heap.size, 1, none⟩ = some (.int .i64 vn) ∧ W.cell? ⟨k2.heap.size, 2, none⟩ = some (.string vs) ∧ Below (k2.heap.size) k2 W ∧ k2.heap.size + 1 ≤ W.heap.size) ⟨(by go_simp), (by go_simp), (by go_simp), (by go_simp), (by go_simp), (by go_simp), (by go_simp), (by go_simp), (by go_simp), (by
     repeat' (first | with_reducible exact Below.refl _ _ | (with_reducible refine Below.alloc ?_ ?_ _) | (with_reducible refine Below.setCell ?_ ?_ _) | exact LT9)), LT9⟩ ?_
   clear hkc hq a0 a1 a2 a3
   rintro k3 ⟨hkc, hq, a0, a1, a2, a3, v0, v1, v2, hk, hz⟩
   replace HB2 := hid (Below.trans HB2.out (Below.mono hk (Below.size HB2.out)))
   replace hb : Below w.heap.size w k3 := hb.trans (hk.mono (by first | exact hb.size | omega | (simp; omega)))
   have lt0 : gk < k3.heap.size := LT9
   have lt1 : w.heap.size < k3.heap.size := LT9
   have lt2 : gr < k3.heap.size := LT9
   have lt3 : k2.heap.size < k3.heap.size := LT9
   clear hk
   have sz0 : gk < k3.heap.size := by omega
   have sz1 : w.heap.size < k3.heap.size := by omega
   have sz2 : gr < k3.heap.size := by omega
   have sz3 : k2.heap.size < k3.heap.size := by omega
   go_region_held3 (fun W => W.cell? ⟨gk, k, none⟩ = some (.string xy) ∧ W.cell? ⟨w.heap.size, 0, none⟩ = some (.slice (some ⟨gr, o, none⟩) n c) ∧ W.cell? ⟨gr, o + k * 4, none⟩ = some (.string xy) ∧ W.cell? ⟨gr, o + k * 4 + 1, none⟩ = some (.int .i64 vk) ∧ W.cell? ⟨gr, o + k * 4 + 2, none⟩ = some (.int .i64 vn) ∧ W.cell? ⟨gr, o + k * 4 + 3, none⟩ = some (.string vs) ∧ W.cell? ⟨k2.heap.size, 0, none⟩ = some (.int .i64 vk) ∧ W.cell? ⟨k2.heap.size, 1, none⟩ = some (.int .i64 vn) ∧ W.cell? ⟨k2.heap.size, 2, none⟩ = some (.string vs)) (first | exact ⟨hkc, hq, a0, a1, a2, a3, v0, v1, v2⟩ | assumption) (first | (go_at_call 55; refine (req_is _ _ ⟨vk, vn, vs⟩ ⟨vk, vn, vs⟩ true _ rfl rfl (eqR_rfl _)).mono ?_; rintro e k9 ⟨rfl, h⟩; replace hkc := (h.cell (p := ⟨gk, k, none⟩) sz0).trans hkc; replace hq := (h.cell (p := ⟨w.heap.size, 0, none⟩) sz1).trans hq; replace a0 := (h.cell (p := ⟨gr, o + k * 4, none⟩) sz2).trans a0; replace a1 := (h.cell (p := ⟨gr, o + k * 4 + 1, none⟩) sz2).trans a1; replace a2 := (h.cell (p := ⟨gr, o + k * 4 + 2, none⟩) sz2).trans a2; replace a3 := (h.cell (p := ⟨gr, o + k * 4 + 3, none⟩) sz2).trans a3; replace v0 := (h.cell (p := ⟨k2.heap.size, 0, none⟩) sz3).trans v0; replace v1 := (h.cell (p := ⟨k2.heap.size, 1, none⟩) sz3).trans v1; replace v2 := (h.cell (p := ⟨k2.heap.size, 2, none⟩) sz3).trans v2; have hb9 : Below w.heap.size w k9 := Below.trans (hb.drew) (h.mono hb.drew.size); have HB9 := hid (Below.trans (Below.drew HB2.out) (h.mono (Below.drew HB2.out).size)); clear h))
   go_wp2
   go_roundw
   case rel => exact ⟨k + 1, by go_num, by have := HKL.out; omega, HB9.out⟩
   case measure => have := HKL.out; simp [intOf]; omega
  ·have hkn : k = n := by omega
   subst hkn
   go_wp2
   go_ret
   exact ⟨rfl, hbw1⟩
end Go.Proofs.YtegkhkcnoahhdaaGreat
