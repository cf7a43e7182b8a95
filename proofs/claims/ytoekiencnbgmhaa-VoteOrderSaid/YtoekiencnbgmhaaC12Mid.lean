/-
  Package conf's Majority and Middle say what the plain functions say.
  Lists have at most 1,000 servers.
-/
import Derived.Test.YtoekiencnbgmhaaC12Maj
set_option linter.unusedSimpArgs false
set_option linter.unusedVariables false
namespace Go.Proofs.Ytoekiencnbgmhaa
open Go.RowKit Go.Shelf Go.Sort
set_option maxRecDepth 100000

set_option maxHeartbeats 2000000 in
theorem maj12_w (A : Option Addr) (c B : Nat) (L : List Int) (A2 : Option Addr) (c2 B2 : Nat) (M : List Int) (w : World) (h : Ints w B (.slice A L.length c) L) (h2 : Ints w B2 (.slice A2 M.length c2) M) (hB : B ≤ w.heap.size) (hB2 : B2 ≤ w.heap.size) (hl : L.length ≤ 1000) (hl2 : M.length ≤ 1000) :
    Calls Try.prog 61 #[.slice A L.length c, .slice A2 M.length c2] w fun e w' => e = .returned (.bool (maj12 L M)) ∧ Below w.heap.size w w' := by
  have hvl := (callsIn_wide (n := 1)).1 (values_in Fence.wide 1 trivial rfl A2 M.length c2 w)
  obtain ⟨W1, hW1⟩ : ∃ W1, w.alloc (.cells #[.slice A2 M.length c2] 50) = W1 := ⟨_, rfl⟩
  have hb1 : Below w.heap.size w W1 := by rw [← hW1]; exact below_new12 w _
  have hz1 : W1.heap.size = w.heap.size + 1 := by rw [← hW1]; simp
  have hc1 : W1.cell? ⟨w.heap.size, 0, none⟩ = some (.slice A2 M.length c2) := by rw [← hW1, World.cell?_alloc_mark]; rfl
  have hso := sorted12 A2 c2 M hl2 w.heap.size W1 (by omega) hc1 ((h2.keep hb1 hB2).more (by omega))
  rw [hW1] at hvl
  have hi1 := h.keep hb1 hB
  obtain ⟨n, hn⟩ : ∃ n, L.length = n := ⟨_, rfl⟩
  obtain ⟨m, hm⟩ : ∃ n, M.length = n := ⟨_, rfl⟩
  rw [hn] at hi1 hl ⊢
  rw [hm] at hvl ⊢
  have HI := Lib.hid hi1
  have HN := Lib.hid hn
  have HM := Lib.hid hm
  have HB1 := Lib.hid hb1
  have HZ1 := Lib.hid hz1
  have HL2 := Lib.hid hl2
  clear h h2 hn hm hc1 hW1 hi1 hb1 hz1 hl2
  go_enter Try.func61, Try.ntmps61
  go_wp2_with fail
  refine hvl.mono ?_
  rintro e w1 ⟨rfl, rfl⟩
  go_wp2_with fail
  refine hso.mono ?_
  rintro e w2 ⟨v, rfl, ho, hb2⟩
  obtain ⟨As, cs, rfl⟩ := ho.slice
  obtain ⟨ms, hms⟩ : ∃ ms, (sort12 M).length = ms := ⟨_, rfl⟩
  rw [hms] at ho ⊢
  have HO := Lib.hid ho
  have HMS := Lib.hid hms
  have HB2 := Lib.hid (HB1.out.trans (hb2.mono HB1.out.size))
  have HI2 := Lib.hid ((HI.out.keep (Below.refl _ _) (Nat.le_refl _)).keep hb2 (by have := HZ1.out; omega))
  clear ho hms hb2 hvl hso
  go_wp2
  go_loopw [6, 16] (fun t i wr => ∃ k q : Nat, k ≤ n ∧ i = .int .i64 k ∧ t = .int .i64 q ∧ q ≤ k ∧ (L.take k).countP (fun x => M.contains x) = q ∧ Below w2.heap.size w2 wr) (fun _ i _ => n - (intOf i).toNat)
  case atStart => exact ⟨0, 0, Nat.zero_le _, rfl, rfl, Nat.le_refl _, rfl, Below.refl _ _⟩
  case round =>
    obtain ⟨k, q, hk, rfl, rfl, hqk, hrec, hbw⟩ := hrel
    have HR := Lib.hid hrec
    have HBW := Lib.hid hbw
    clear hrec
    by_cases hlt : k < n
    · have hkl : k < L.length := by rw [HN.out]; exact hlt
      obtain ⟨g, o, hA, hg, hcell⟩ := HI2.out.at_ k hkl
      subst hA
      have hg9 : g < w2.heap.size := cell_in hcell
      have hc2 : wr.cell? ⟨g, o + k, none⟩ = some (.int .i64 L[k]) := (HBW.out.cell (p := ⟨g, o + k, none⟩) hg9).trans hcell
      have hd := countP_take12 L (fun x => M.contains x) k hkl
      obtain ⟨x, hx⟩ : ∃ x, L[k] = x := ⟨_, rfl⟩
      rw [hx] at hc2 hd
      have how := OwnZ.below (w := w2) (by have := HO.out; rw [← HMS.out] at this; exact this) HBW.out
      have hbs := bsearch12_w As cs _ (sort12 M) x wr (Ints.of_own how) (by rw [sort12_len]; exact HL2.out) (sort12_sorted M)
      rw [sort12_contains, HMS.out] at hbs
      obtain ⟨cp, hcp⟩ : ∃ cp, (sort12 M).countP (· < x) = cp := ⟨_, rfl⟩
      rw [hcp] at hbs
      cases hb : M.contains x with
      | true =>
        rw [hb] at hbs
        have HD := Lib.hid (show (L.take (k + 1)).countP (fun x => M.contains x) = q + 1 by rw [hd, HR.out]; simp at hb; simp [hb])
        clear hd hx hkl hb hcp how hcell hbw
        go_wp2_with fail
        refine hbs.mono ?_
        rintro e w' ⟨rfl, q9, rfl⟩
        go_wp2
        go_roundw
        case rel => exact ⟨k + 1, q + 1, by omega, by go_num, by go_num, by omega, HD.out, below_drewN HBW.out q9⟩
        case measure => simp [intOf]; omega
      | false =>
        rw [hb] at hbs
        have HD := Lib.hid (show (L.take (k + 1)).countP (fun x => M.contains x) = q by rw [hd, HR.out]; simp at hb; simp [hb])
        clear hd hx hkl hb hcp how hcell hbw
        go_wp2_with fail
        refine hbs.mono ?_
        rintro e w' ⟨rfl, q9, rfl⟩
        go_wp2
        go_roundw
        case rel => exact ⟨k + 1, q, by omega, by go_num, rfl, by omega, HD.out, below_drewN HBW.out q9⟩
        case measure => simp [intOf]; omega
    · have hkn : k = n := by omega
      have hq : L.countP (fun x => M.contains x) = q := by rw [← HR.out, List.take_of_length_le (by rw [HN.out]; omega)]
      have HQ := Lib.hid hq
      clear hq hbw
      go_wp2
      go_ret
      refine ⟨?_, HB2.out.trans (HBW.out.mono HB2.out.size)⟩
      refine bool_ret ?_
      unfold maj12
      rw [HQ.out, HN.out, decide_eq_decide]
      omega
end Go.Proofs.Ytoekiencnbgmhaa
