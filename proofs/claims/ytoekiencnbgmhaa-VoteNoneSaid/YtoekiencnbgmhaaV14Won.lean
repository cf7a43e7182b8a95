/-
  A server's votes: Won and Lost.
  Lists have at most seven servers, as the box says.
-/
import Derived.Test.YtoekiencnbgmhaaV14Box
import Derived.Test.YtoekiencnbgmhaaRegH
import Derived.Test.YtoekiencnbgmhaaC12Begun
namespace Go.Proofs.Ytoekiencnbgmhaa
open Go.RowKit Go.Deep
set_option maxRecDepth 100000

theorem won_len14 (L : List Int) (q : Int → Bool) (h : L.length ≤ 7) : (L.filter q).length ≤ 7 := Nat.le_trans (List.length_filter_le _ _) h
set_option maxHeartbeats 1500000 in
theorem vwon_any {B : Nat} {w : World} {g : Nat} {v : Value} {L : List Int} {s : Int → Int} (h : VB B w g v L s) :
    Calls Try.prog 33 #[.pointer (some ⟨g, 0, none⟩)] w fun e w' => e = .returned (.bool (won14 L s)) ∧ Below w.heap.size w w' := by
  have hV := h
  obtain ⟨A, c, rfl, hI, c0⟩ := h.parts
  have hg := h.box.lt
  have HL := Lib.hid h.short
  obtain ⟨n, hn⟩ : ∃ n, L.length = n := ⟨_, rfl⟩
  have hn7 : n ≤ 7 := by rw [← hn]; exact HL.out
  rw [hn] at c0 hI
  have HN := Lib.hid hn
  have HI0 := Lib.hid hI
  obtain ⟨r, hr⟩ : ∃ r, won14 L s = r := ⟨_, rfl⟩
  rw [hr]
  have HR := Lib.hid hr
  clear h hI hr hn
  go_enter Try.func33, Try.ntmps33
  go_wp2_with fail
  have hb0 : Below w.heap.size w w.drew := (Below.refl _ _).drew
  replace hV := hV.below hb0
  replace c0 : w.drew.cell? ⟨g, 0, none⟩ = some (.slice A n c) := c0
  refine wp_region_noPanic ?_
  refine wp_region_held_drew (S := fun W => W.cell? ⟨g, 0, none⟩ = some (.slice A n c)) (by kernel_rfl) ?_ (fun hHeld => ?_)
  · exact c0
  generalize w.drew = kz at *
  refine tkH 0 (.pointer (some ⟨g, 0, none⟩)) rfl (fun w hSw => ?_) ?_
  · (try dsimp only at hSw)
    go_simp
  try simp only [Act.put, List.setIfInBounds_toArray, List.set_cons_zero, List.set_cons_succ]
  refine tkH 1 (.bool true) rfl (fun w hSw => ?_) ?_
  · (try dsimp only at hSw)
    go_simp
  try simp only [Act.put, List.setIfInBounds_toArray, List.set_cons_zero, List.set_cons_succ]
  refine tkH 2 (.bool true) rfl (fun w hSw => ?_) ?_
  · (try dsimp only at hSw)
    go_simp
  try simp only [Act.put, List.setIfInBounds_toArray, List.set_cons_zero, List.set_cons_succ]
  refine tkH 3 (.pointer (some ⟨g, 0, none⟩)) rfl (fun w hSw => ?_) ?_
  · (try dsimp only at hSw)
    go_simp
  try simp only [Act.put, List.setIfInBounds_toArray, List.set_cons_zero, List.set_cons_succ]
  refine tkH 4 (.pointer (some ⟨g, 0, none⟩)) rfl (fun w hSw => ?_) ?_
  · (try dsimp only at hSw)
    go_simp
  try simp only [Act.put, List.setIfInBounds_toArray, List.set_cons_zero, List.set_cons_succ]
  refine tkH 5 (.pointer (some ⟨g, 0, none⟩)) rfl (fun w hSw => ?_) ?_
  · (try dsimp only at hSw)
    go_simp
  try simp only [Act.put, List.setIfInBounds_toArray, List.set_cons_zero, List.set_cons_succ]
  refine tkH 6 (.slice A n c) rfl (fun w hSw => ?_) ?_
  · (try dsimp only at hSw)
    go_simp
  try simp only [Act.put, List.setIfInBounds_toArray, List.set_cons_zero, List.set_cons_succ]
  refine tkH 7 (.pointer (some ⟨g, 0, none⟩)) rfl (fun w hSw => ?_) ?_
  · (try dsimp only at hSw)
    go_simp
  try simp only [Act.put, List.setIfInBounds_toArray, List.set_cons_zero, List.set_cons_succ]
  refine stH 8 rfl (fun K hK => ?_)
  go_simp
  go_at_call 62
  refine (vwho_any hV 1).mono ?_
  rintro e k9 ⟨u, rfl, ho, h⟩
  obtain ⟨Au, cu, rfl⟩ := ho.slice
  obtain ⟨m, hm⟩ : ∃ m, (L.filter fun i => decide (s i = 1)).length = m := ⟨_, rfl⟩
  rw [hm] at ho
  rw [hm]
  have hm7 : m ≤ 7 := by rw [← hm]; exact won_len14 _ _ HL.out
  replace c0 := (h.cell (p := ⟨g, 0, none⟩) hV.box.lt).trans c0
  replace hV := hV.below h
  replace hb0 := hb0.trans (h.mono hb0.size)
  have HM := Lib.hid hm
  have HI2 := Lib.hid (show Ints k9 k9.heap.size (.slice Au m cu) (L.filter fun i => decide (s i = 1)) from Ints.of_own ho)
  clear ho hm h
  refine hK.out _ _ ?_ (fun hHeld => ?_)
  · exact c0
  clear hK K
  try simp only [Act.put, List.setIfInBounds_toArray, List.set_cons_zero, List.set_cons_succ]
  refine stH 9 rfl (fun K hK => ?_)
  go_simp
  go_at_call 61
  have hIv : Ints k9 k9.heap.size (.slice A n c) L := (HI0.out.keep hb0 (Nat.le_refl _)).more hb0.size
  refine (maj_n hIv HI2.out HN.out HM.out (by omega) (by omega) ((won_maj14 L s).trans HR.out)).mono ?_
  rintro e k10 ⟨rfl, h⟩
  replace c0 := (h.cell (p := ⟨g, 0, none⟩) (Nat.lt_of_lt_of_le hg (Nat.le_trans hb0.size (Nat.le_refl _)))).trans c0
  replace hb0 := hb0.trans (h.mono hb0.size)
  clear hV h hIv
  refine hK.out _ _ ?_ (fun hHeld => ?_)
  · exact c0
  clear hK K
  try simp only [Act.put, List.setIfInBounds_toArray, List.set_cons_zero, List.set_cons_succ]
  refine tkH 10 (.bool r) rfl (fun w hSw => ?_) ?_
  · (try dsimp only at hSw)
    go_simp
  try simp only [Act.put, List.setIfInBounds_toArray, List.set_cons_zero, List.set_cons_succ]
  refine tkH 11 (.bool r) rfl (fun w hSw => ?_) ?_
  · (try dsimp only at hSw)
    go_simp
  try simp only [Act.put, List.setIfInBounds_toArray, List.set_cons_zero, List.set_cons_succ]
  refine wpAnyH_done (by kernel_rfl) ?_ _
  refine NoPanic.normal ?_
  go_wp2
  go_ret
  exact ⟨rfl, hb0⟩
set_option maxHeartbeats 1500000 in
theorem vlost_any {B : Nat} {w : World} {g : Nat} {v : Value} {L : List Int} {s : Int → Int} (h : VB B w g v L s) :
    Calls Try.prog 35 #[.pointer (some ⟨g, 0, none⟩)] w fun e w' => e = .returned (.bool (lost14 L s)) ∧ Below w.heap.size w w' := by
  have hV := h
  obtain ⟨A, c, rfl, hI, c0⟩ := h.parts
  have hg := h.box.lt
  have HL := Lib.hid h.short
  obtain ⟨n, hn⟩ : ∃ n, L.length = n := ⟨_, rfl⟩
  have hn7 : n ≤ 7 := by rw [← hn]; exact HL.out
  rw [hn] at c0 hI
  have HN := Lib.hid hn
  have HI0 := Lib.hid hI
  obtain ⟨r, hr⟩ : ∃ r, lost14 L s = r := ⟨_, rfl⟩
  rw [hr]
  have HR := Lib.hid hr
  clear h hI hr hn
  by_cases h0 : n = 0
  · subst h0
    go_enter Try.func35, Try.ntmps35
    go_wp2
    go_ret
    refine ⟨bool_ret ?_, Below.refl _ _⟩
    rw [← HR.out]
    unfold lost14
    rw [List.eq_nil_of_length_eq_zero HN.out]
    rfl
  · have hl : ¬ (n : Int) = 0 := by omega
    obtain ⟨j, hj⟩ : ∃ j, decide (L.length / 2 < L.countP fun i => decide (s i = 1) || decide (s i = 0)) = j := ⟨_, rfl⟩
    have hrj : r = !j := by
      rw [← HR.out]
      unfold lost14
      have hne : L ≠ [] := fun e => h0 (by rw [← HN.out, e]; rfl)
      rw [hj, decide_eq_true hne, Bool.true_and]
    go_enter Try.func35, Try.ntmps35
    go_wp2_with fail
    have hb0 : Below w.heap.size w w.drew := (Below.refl _ _).drew
    replace hV := hV.below hb0
    replace c0 : w.drew.cell? ⟨g, 0, none⟩ = some (.slice A n c) := c0
    have hz0 : w.heap.size ≤ w.drew.heap.size := hb0.size
    refine wp_region_noPanic ?_
    refine wp_region_held_drew (S := fun W => W.cell? ⟨g, 0, none⟩ = some (.slice A n c)) (by kernel_rfl) ?_ (fun hHeld => ?_)
    · exact c0
    generalize w.drew = kz at *
    refine tkH 0 (.pointer (some ⟨g, 0, none⟩)) rfl (fun w hSw => ?_) ?_
    · (try dsimp only at hSw)
      go_simp
    try simp only [Act.put, List.setIfInBounds_toArray, List.set_cons_zero, List.set_cons_succ]
    refine tkH 1 (.pointer (some ⟨g, 0, none⟩)) rfl (fun w hSw => ?_) ?_
    · (try dsimp only at hSw)
      go_simp
    try simp only [Act.put, List.setIfInBounds_toArray, List.set_cons_zero, List.set_cons_succ]
    refine tkH 2 (.pointer (some ⟨g, 0, none⟩)) rfl (fun w hSw => ?_) ?_
    · (try dsimp only at hSw)
      go_simp
    try simp only [Act.put, List.setIfInBounds_toArray, List.set_cons_zero, List.set_cons_succ]
    refine tkH 3 (.slice A n c) rfl (fun w hSw => ?_) ?_
    · (try dsimp only at hSw)
      go_simp
    try simp only [Act.put, List.setIfInBounds_toArray, List.set_cons_zero, List.set_cons_succ]
    refine tkH 4 (.pointer (some ⟨g, 0, none⟩)) rfl (fun w hSw => ?_) ?_
    · (try dsimp only at hSw)
      go_simp
    try simp only [Act.put, List.setIfInBounds_toArray, List.set_cons_zero, List.set_cons_succ]
    refine tkH 6 (.pointer (some ⟨g, 0, none⟩)) rfl (fun w hSw => ?_) ?_
    · (try dsimp only at hSw)
      go_simp
    try simp only [Act.put, List.setIfInBounds_toArray, List.set_cons_zero, List.set_cons_succ]
    refine stH 5 rfl (fun K hK => ?_)
    go_simp
    go_at_call 62
    refine (vwho_any hV 1).mono ?_
    rintro e k9 ⟨u, rfl, ho, h⟩
    obtain ⟨Au, cu, rfl⟩ := ho.slice
    obtain ⟨m, hm⟩ : ∃ m, (L.filter fun i => decide (s i = 1)).length = m := ⟨_, rfl⟩
    rw [hm] at ho
    rw [hm]
    have hm7 : m ≤ 7 := by rw [← hm]; exact won_len14 _ _ HL.out
    replace c0 := (h.cell (p := ⟨g, 0, none⟩) hV.box.lt).trans c0
    replace hV := hV.below h
    replace hb0 := hb0.trans (h.mono hb0.size)
    have HO1 := Lib.hid ho
    have HM1 := Lib.hid hm
    have hz9 : kz.heap.size ≤ k9.heap.size := h.size
    clear ho hm h
    refine hK.out _ _ ?_ (fun hHeld => ?_)
    · exact c0
    clear hK K
    try simp only [Act.put, List.setIfInBounds_toArray, List.set_cons_zero, List.set_cons_succ]
    refine stH 7 rfl (fun K hK => ?_)
    go_simp
    go_at_call 62
    refine (vwho_any hV 0).mono ?_
    rintro e k11 ⟨u, rfl, ho, h⟩
    obtain ⟨Av, cv, rfl⟩ := ho.slice
    obtain ⟨q, hq⟩ : ∃ m, (L.filter fun i => decide (s i = 0)).length = m := ⟨_, rfl⟩
    rw [hq] at ho
    rw [hq]
    have hq7 : q ≤ 7 := by rw [← hq]; exact won_len14 _ _ HL.out
    replace c0 := (h.cell (p := ⟨g, 0, none⟩) hV.box.lt).trans c0
    replace hV := hV.below h
    replace hb0 := hb0.trans (h.mono hb0.size)
    have ho1 := HO1.out.below h
    have hz11 : kz.heap.size ≤ k11.heap.size := Nat.le_trans hz9 h.size
    have HO2 := Lib.hid ho1
    have HQ := Lib.hid hq
    have HI2 := Lib.hid (show Ints k11 k11.heap.size (.slice Av q cv) (L.filter fun i => decide (s i = 0)) from Ints.of_own ho)
    clear ho hq ho1 h HO1
    refine hK.out _ _ ?_ (fun hHeld => ?_)
    · exact c0
    clear hK K
    try simp only [Act.put, List.setIfInBounds_toArray, List.set_cons_zero, List.set_cons_succ]
    refine stH 8 rfl (fun K hK => ?_)
    refine wp_append_ints _ _ rfl kz.heap.size k11.heap.size (.slice Au m cu) (.slice Av q cv) _ _ rfl HO2.out rfl HI2.out ?x1 ?x2 ?_
    case x1 => have := HM1.out; have := HQ.out; omega
    case x2 => exact hz11
    intro v12 k12 ho12 hb12 hg12 hf12
    obtain ⟨A12, c12, rfl⟩ := ho12.slice
    obtain ⟨t, ht⟩ : ∃ t, ((L.filter fun i => decide (s i = 1)) ++ L.filter fun i => decide (s i = 0)).length = t := ⟨_, rfl⟩
    have ht14 : t ≤ 14 := by rw [← ht, List.length_append, HM1.out, HQ.out]; omega
    rw [ht] at ho12 ⊢
    have HT := Lib.hid ht
    have HI3 := Lib.hid (show Ints k12 k12.heap.size (.slice A12 t c12) ((L.filter fun i => decide (s i = 1)) ++ L.filter fun i => decide (s i = 0)) from Ints.of_own ho12)
    clear ht ho12 HO2 HI2
    replace c0 := (hb12.cell (p := ⟨g, 0, none⟩) (Nat.lt_of_lt_of_le hg hz0)).trans c0
    replace hb0 := hb0.trans (hb12.mono hz0)
    refine hK.out _ _ ?_ (fun hHeld => ?_)
    · exact c0
    clear hK K
    try simp only [Act.put, List.setIfInBounds_toArray, List.set_cons_zero, List.set_cons_succ]
    refine stH 9 rfl (fun K hK => ?_)
    go_simp
    go_at_call 61
    have hIv : Ints k12 k12.heap.size (.slice A n c) L := (HI0.out.keep hb0 (Nat.le_refl _)).more hb0.size
    refine (maj_n hIv HI3.out HN.out HT.out (by omega) (by omega) ((lost_maj14 L s).trans hj)).mono ?_
    rintro e k10 ⟨rfl, h⟩
    replace c0 := (h.cell (p := ⟨g, 0, none⟩) (Nat.lt_of_lt_of_le hg (Nat.le_trans hb0.size (Nat.le_refl _)))).trans c0
    replace hb0 := hb0.trans (h.mono hb0.size)
    clear hV h hIv
    refine hK.out _ _ ?_ (fun hHeld => ?_)
    · exact c0
    clear hK K
    try simp only [Act.put, List.setIfInBounds_toArray, List.set_cons_zero, List.set_cons_succ]
    refine tkH 10 (.bool (!j)) rfl (fun w hSw => ?_) ?_
    · (try dsimp only at hSw)
      go_simp
    try simp only [Act.put, List.setIfInBounds_toArray, List.set_cons_zero, List.set_cons_succ]
    refine tkH 11 (.bool (!j)) rfl (fun w hSw => ?_) ?_
    · (try dsimp only at hSw)
      go_simp
    try simp only [Act.put, List.setIfInBounds_toArray, List.set_cons_zero, List.set_cons_succ]
    refine wpAnyH_done (by kernel_rfl) ?_ _
    refine NoPanic.normal ?_
    go_wp2
    go_ret
    exact ⟨by rw [hrj]; rfl, hb0⟩
end Go.Proofs.Ytoekiencnbgmhaa
