/-
  Package conf's Middle says what the plain function says.
  Lists have at most 1,000 servers.
-/
import Derived.Test.YtbiecoifeeikpaaC12Mid
namespace Go.Proofs.Ytbiecoifeeikpaa
open Go.RowKit Go.Shelf Go.Sort
set_option maxRecDepth 100000

theorem Try.infoI64c : (Try.prog.info? 2).map (fun i => (i.zero, i.size, i.bytes)) = some (some (.int .i64 0), 1, 8) := by kernel_rfl
theorem make_i64s12 (n : Nat) (hn : n ≤ 1000) (w : World) : (Instr.makeSlice 38 (.int .i64 (n : Int)) (.int .i64 (n : Int))).run Try.prog w = .ok (.slice (some ⟨w.heap.size, 0, none⟩) n n) (w.alloc (.cells (madeCells #[.int .i64 0] n) 2)) :=
  run_make_row' _ _ _ 8 Try.underlying38 Try.infoI64c rfl .i64 .i64 n (by omega) (by omega) w
def atV (M : List Int) (x : Int) : Value := .int .i64 (M.getD x.toNat 0)
theorem snoc_zero12 {L : List Int} {M : List Int} {k : Nat} (h : k < L.length) (h0 : M.getD L[k].toNat 0 = 0) :
    (L.take k).map (atV M) ++ List.replicate (L.length - k) (Value.int .i64 0) = (L.take (k + 1)).map (atV M) ++ List.replicate (L.length - (k + 1)) (Value.int .i64 0) := by
  rw [List.take_succ_eq_append_getElem h, List.map_append]
  have : L.length - k = (L.length - (k + 1)) + 1 := by omega
  rw [this, List.replicate_succ]
  simp only [List.map_cons, List.map_nil, atV, h0]
  simp
theorem RowC.holds {w : World} {g : Nat} {l : List Int} (h : RowC w g (l.map (Value.int .i64))) : Holds (Value.int .i64) w g 0 l.toArray := by
  intro j hj
  have hj' : j < l.length := by simpa using hj
  obtain ⟨h1, h2⟩ := h.2 j (by simpa using hj')
  rw [Nat.zero_add]
  refine ⟨?_, h2⟩
  rw [h1]
  simp [hj']
theorem sorted_cell12 {w : World} {g : Nat} {l : List Int} (hH : Holds (Value.int .i64) w g 0 l.toArray) (hg : g < w.heap.size) (nn : Nat) (os : Array Obj) (k : Nat) (hk : k < l.length) :
    (grow (putRow (Value.int .i64) (Sort.ahead w nn) g 0 (l.mergeSort fun x y => decide (x ≤ y)).toArray) os).cell? ⟨g, k, none⟩ = some (.int .i64 ((sort12 l).getD k 0)) := by
  have hH2 : Holds (Value.int .i64) (Sort.ahead w nn) g 0 l.toArray := hH
  have hp := holds_putRow (Value.int .i64) (Sort.ahead w nn) g 0 l.toArray (l.mergeSort fun x y => decide (x ≤ y)).toArray hH2 (by simp)
  have hlen : (l.mergeSort fun x y => decide (x ≤ y)).length = l.length := List.length_mergeSort _
  have := (hp k (by simpa [hlen] using hk)).1
  rw [Nat.zero_add] at this
  rw [cell?_grow _ _ _ (by simpa using hg), this]
  unfold sort12
  have hk2 : k < (l.mergeSort fun x y => decide (x ≤ y)).length := by rw [hlen]; exact hk
  simp [hk2]
theorem mid12_zero {L M : List Int} (h : may12 L = false) : (if may12 L = true then mid12 L M else 0) = 0 := by rw [h]; rfl
def midR (L M : List Int) : Int := if may12 L = true then mid12 L M else 0
set_option maxHeartbeats 2000000 in
theorem mid12_w (A : Option Addr) (c B : Nat) (L : List Int) (A2 : Option Addr) (c2 B2 : Nat) (M : List Int) (w : World) (h : Ints w B (.slice A L.length c) L) (h2 : Ints w B2 (.slice A2 M.length c2) M) (hB : B ≤ w.heap.size) (hB2 : B2 ≤ w.heap.size) (hl : L.length ≤ 1000) (hl2 : M.length ≤ 1000) :
    Calls Try.prog 25 #[.slice A L.length c, .slice A2 M.length c2] w fun e w' => e = .returned (.int .i64 (midR L M)) ∧ Below w.heap.size w w' := by
  have m1 := may12_w A c B L w h hl
  cases hb : may12 L with
  | false =>
    rw [hb] at m1
    have hr : midR L M = 0 := by unfold midR; rw [hb]; rfl
    rw [hr]
    obtain ⟨n, hn⟩ : ∃ n, L.length = n := ⟨_, rfl⟩
    obtain ⟨m, hm⟩ : ∃ n, M.length = n := ⟨_, rfl⟩
    rw [hn] at m1 ⊢
    rw [hm]
    clear h h2 hb hr hn hm hl hl2
    go_enter Try.func25, Try.ntmps25
    go_wp2_with fail
    refine m1.mono ?_
    rintro e w' ⟨rfl, rfl⟩
    go_wp2
    go_ret
    exact ⟨rfl, Below.refl _ _⟩
  | true =>
    rw [hb] at m1
    have hr : midR L M = mid12 L M := by unfold midR; rw [hb]; rfl
    have hmem : ∀ x ∈ L, 1 ≤ x ∧ x ≤ 7 := fun x hx => by have := mayF_mem (may12_F hb) x hx; omega
    have hl7 := may12_len hb
    have hpos := may12_pos hb
    obtain ⟨n, hn⟩ : ∃ n, L.length = n := ⟨_, rfl⟩
    obtain ⟨m, hm⟩ : ∃ n, M.length = n := ⟨_, rfl⟩
    rw [hn] at h hl m1 hl7 hpos ⊢
    rw [hm] at h2 hl2 ⊢
    rw [hr]
    have hmk := make_i64s12 n (by omega) w
    obtain ⟨W1, hW1⟩ : ∃ W1, w.alloc (.cells (madeCells #[.int .i64 0] n) 2) = W1 := ⟨_, rfl⟩
    have hr1 : RowC W1 w.heap.size (List.replicate n (.int .i64 0)) := by rw [← hW1]; exact RowC.made w _ n _
    have hb1 : Below w.heap.size w W1 := by rw [← hW1]; exact below_new12 w _
    rw [hW1] at hmk
    obtain ⟨r, hr9⟩ : ∃ r, mid12 L M = r := ⟨_, rfl⟩
    rw [hr9]
    have HRR := Lib.hid hr9
    have HI := Lib.hid h
    have HI2 := Lib.hid h2
    have HN := Lib.hid hn
    have HMM := Lib.hid hm
    have HM := Lib.hid hmem
    have HR1 := Lib.hid hr1
    have HB1 := Lib.hid hb1
    clear h h2 hn hm hmem hr1 hb1 hW1 hb hr hr9
    go_enter Try.func25, Try.ntmps25
    go_wp2_with fail
    refine m1.mono ?_
    rintro e w' ⟨rfl, rfl⟩
    go_wp2
    go_loopw [16] (fun i wr => ∃ k : Nat, k ≤ n ∧ i = .int .i64 k ∧ RowC wr w.heap.size ((L.take k).map (atV M) ++ List.replicate (L.length - k) (.int .i64 0)) ∧ Below w.heap.size w wr) (fun i _ => n - (intOf i).toNat)
    case atStart => exact ⟨0, Nat.zero_le _, rfl, by rw [HN.out]; exact HR1.out, HB1.out⟩
    case round =>
      obtain ⟨k, hk, rfl, hrow, hbw⟩ := hrel
      have HRW := Lib.hid hrow
      have HBW := Lib.hid hbw
      clear hrow hbw HR1 HB1
      by_cases hlt : k < n
      · have hkl : k < L.length := by rw [HN.out]; exact hlt
        obtain ⟨g, o, hA, hg, hcell⟩ := HI.out.at_ k hkl
        subst hA
        have hc2 : wr.cell? ⟨g, o + k, none⟩ = some (.int .i64 L[k]) := (HBW.out.cell (p := ⟨g, o + k, none⟩) (by show g < _; omega)).trans hcell
        have hx9 := HM.out L[k] (List.getElem_mem hkl)
        by_cases hin : L[k] < (m : Int)
        · have hsn := set_snoc12 (atV M) L (Value.int .i64 0) k hkl
          have hrl : ((L.take k).map (atV M) ++ List.replicate (L.length - k) (Value.int .i64 0)).length = n := by simp; have := HN.out; omega
          obtain ⟨hold, hfr⟩ := HRW.out.2 k (by rw [hrl]; exact hlt)
          have hrs := HRW.out.set k (atV M L[k])
          rw [hsn] at hrs
          obtain ⟨y, hy⟩ : ∃ y : Nat, L[k] = (y : Int) := ⟨L[k].toNat, by omega⟩
          have hym : y < M.length := by rw [HMM.out]; omega
          obtain ⟨g2, o2, hA2, hg2, hcell2⟩ := HI2.out.at_ y hym
          subst hA2
          have hc3 : wr.cell? ⟨g2, o2 + y, none⟩ = some (.int .i64 M[y]) := (HBW.out.cell (p := ⟨g2, o2 + y, none⟩) (by show g2 < _; omega)).trans hcell2
          unfold atV at hrs
          have hgd : M.getD (y : Int).toNat 0 = M[y] := by simp [hym]
          rw [hy] at hc2 hx9 hrs hin
          rw [hgd] at hrs
          have hyl : y < m := by omega
          generalize ((L.take k).map (atV M) ++ List.replicate (L.length - k) (Value.int .i64 0))[k]'(by rw [hrl]; exact hlt) = old at hold
          have HRS := Lib.hid hrs
          obtain ⟨z, hz⟩ : ∃ z, M[y] = z := ⟨_, rfl⟩
          rw [hz] at hc3 HRS
          have hyt : ((y : Int)).toNat = y := by omega
          clear hcell hcell2 hy hsn hrl hrs hkl hym hgd hz
          go_wp2
          go_roundw
          case rel => exact ⟨k + 1, by omega, by go_num, HRS.out, HBW.out.setCell (Nat.le_refl _) _⟩
          case measure => simp [intOf]; omega
        · have hg0 : M.getD L[k].toNat 0 = 0 := by
            rw [List.getD_eq_getElem?_getD, List.getElem?_eq_none (by rw [HMM.out]; omega)]
            rfl
          have hsz := snoc_zero12 hkl hg0
          have hrw := HRW.out
          rw [hsz] at hrw
          have HRS := Lib.hid hrw
          obtain ⟨x, hx⟩ : ∃ x, L[k] = x := ⟨_, rfl⟩
          rw [hx] at hc2 hx9 hin
          clear hcell hx hsz hrw hg0 hkl
          go_wp2
          go_roundw
          case rel => exact ⟨k + 1, by omega, by go_num, HRS.out, HBW.out⟩
          case measure => simp [intOf]; omega
      · have hkn : k = n := by omega
        have hrw := HRW.out
        have hfin : (L.take k).map (atV M) ++ List.replicate (L.length - k) (Value.int .i64 0) = (has12 L M).map (Value.int .i64) := by
          rw [List.take_of_length_le (by rw [HN.out]; omega), show L.length - k = 0 by rw [HN.out]; omega]
          unfold has12 atV
          simp
        rw [hfin] at hrw
        have hH := hrw.holds
        have hlen : (has12 L M).length = n := by unfold has12; rw [List.length_map]; exact HN.out
        have hG := hrw.1
        have hS := Try.slices_Sort_int_f32 w.heap.size 0 n (has12 L M) wr hH hG (by rw [hlen]; omega)
        rw [hlen] at hS
        obtain ⟨d, hd⟩ : ∃ d : Nat, (n - 1) / 2 = d := ⟨_, rfl⟩
        have hcl := fun nn os => sorted_cell12 hH hG nn os d (by rw [hlen]; omega)
        have hval : (sort12 (has12 L M)).getD d 0 = r := by
          rw [← HRR.out]
          unfold mid12 sort12
          rw [HN.out, hd]
        rw [hval] at hcl
        have hd2 : ((n : Int) - 1) / 2 = (d : Int) := by omega
        have hd3 : Int.tdiv ((n : Int) - 1) 2 = (d : Int) := by rw [Int.tdiv_eq_ediv_of_nonneg (by omega)]; exact hd2
        have hdn : d < n := by omega
        have HBW2 := Lib.hid (fun nn os => HBW.out.grown (grownBy_sorted_i (w := wr) (g := w.heap.size) (n := nn) (os := os) ((has12 L M).mergeSort fun x y => decide (x ≤ y)).toArray) HBW.out.size (fun j hj => by cases hj; exact Nat.le_refl _))
        clear hrw hfin hH hlen hd hval HRW
        go_wp2_with fail
        refine hS.mono ?_
        rintro e w' ⟨rfl, nn, os, rfl⟩
        have hcl2 := hcl nn os
        have hbb := HBW2.out nn os
        generalize hw9 : grow (putRow (Value.int .i64) (Sort.ahead wr nn) w.heap.size 0 ((has12 L M).mergeSort fun x y => decide (x ≤ y)).toArray) os = w9 at hcl2 ⊢
        have hb9 : Below w.heap.size w w9 := by rw [← hw9]; exact hbb
        have HB9 := Lib.hid hb9
        clear hcl hw9 hb9 hbb HBW2 hS hkn
        go_wp2
        go_ret
        exact ⟨rfl, HB9.out⟩
end Go.Proofs.Ytbiecoifeeikpaa
