/-
  Package conf's Add and Remove make what the plain functions say.
  Lists have at most 1,000 servers.
-/
import Derived.Test.YtbiecoifeeikpaaC12Cat
import Derived.Test.YtbiecoifeeikpaaC12Code
import Derived.Deep.RegionHeld3
import Derived.IntWalk
import Derived.WalkSmall
namespace Go.Proofs.Ytbiecoifeeikpaa
open Go.RowKit Go.Deep
set_option maxRecDepth 100000

/-- slices.BinarySearch at a list that may be -/
theorem bsearch12_w (A : Option Addr) (c B : Nat) (L : List Int) (x : Int) (w : World) (h : Ints w B (.slice A L.length c) L) (hl : L.length ≤ 1000) (hs : L.Pairwise (· ≤ ·)) :
    Calls Try.prog 26 #[.slice A L.length c, .int .i64 x] w fun e w' => e = .returned (.tuple #[.int .i64 (L.countP (· < x) : Nat), .bool (L.contains x)]) ∧ ∃ q, w' = w.drewN q := by
  by_cases h0 : 0 < L.length
  · obtain ⟨g, o, rfl, _, _⟩ := h.at_ 0 h0
    have := Try.slices_BinarySearch_int g o L.length c L x w (Nat.le_refl _) (by omega) (fun j hj => by
      obtain ⟨g', o', e, _, hc⟩ := h.at_ j hj
      injection e with e; injection e with e1 e2; subst e1; subst e2
      rw [hc]; simp [hj]) (by rw [List.take_length]; exact hs)
    rw [List.take_length] at this
    exact this
  · have h1 : L = [] := List.eq_nil_of_length_eq_zero (by omega)
    subst h1
    refine (Try.slices_BinarySearch_int_empty A c x w).mono ?_
    rintro e w' ⟨rfl, rfl⟩
    exact ⟨rfl, 0, rfl⟩
theorem below_drewN12 (w : World) (q : Nat) : Below w.heap.size w (w.drewN q) := below_drewN (Below.refl _ w) q
theorem Ints.len12 {w : World} {B n c : Nat} {A : Option Addr} {l : List Int} (h : Ints w B (.slice A n c) l) : n = l.length := h.cap.1
theorem countP_contains12 {L : List Int} {x : Int} (h : L.contains x = true) : L.countP (· < x) + 1 ≤ L.length := by
  have h1 : 0 < L.countP (fun y => !decide (y < x)) := List.countP_pos_iff.2 ⟨x, by simpa using h, by simp⟩
  have h2 := List.length_eq_countP_add_countP (fun y => decide (y < x)) (l := L)
  have h3 : L.countP (fun y => !decide (y < x)) = L.countP (fun y => decide ¬ decide (y < x) = true) := by
    congr 1; funext y; by_cases h : y < x <;> simp [h]
  omega
set_option maxHeartbeats 400000 in
theorem add12_in (g o : Nat) (c B : Nat) (L : List Int) (x : Int) (w : World) (h : Ints w B (.slice (some ⟨g, o, none⟩) L.length c) L) (hB : B ≤ w.heap.size) (hb : may12 L = true) (hx : may12 [x] = true) (hc : L.contains x = false) (hci : ¬ c = L.countP (· < x)) :
    Calls Try.prog 10 #[.slice (some ⟨g, o, none⟩) L.length c, .int .i64 x] w (Dec12 (some (ins12 L x)) w) := by
  have hl7 := may12_len hb
  have m1 := may12_w _ c B L w h (by omega)
  rw [hb] at m1
  have hcap := h.cap.2
  have hcl : L.countP (· < x) ≤ L.length := List.countP_le_length
  obtain ⟨W1, hW1⟩ : ∃ W1, w.alloc (.cells #[.int .i64 x] 3) = W1 := ⟨_, rfl⟩
  have hi1 : Ints W1 (w.heap.size + 1) (.slice (some ⟨w.heap.size, 0, none⟩) [x].length [x].length) [x] := by rw [← hW1]; exact ints_new w _ _ [x] rfl
  have m2 := may12_w _ _ _ [x] W1 hi1 (by simp)
  rw [hx] at m2
  have hb1 : Below w.heap.size w W1 := by rw [← hW1]; exact below_new12 w _
  have b1 := bsearch12_w _ c B L x W1 (h.keep hb1 hB) (by omega) (may12_sorted hb)
  rw [hc] at b1
  obtain ⟨i, hi⟩ : ∃ i, L.countP (· < x) = i := ⟨_, rfl⟩
  rw [hi] at b1 hcl hci
  have hit := h.take i hcl
  have hid := h.drop i hcl
  have hR : ins12 L x = L.take i ++ [x] ++ L.drop i := by unfold ins12; rw [hi]
  obtain ⟨R, hR9⟩ : ∃ R, ins12 L x = R := ⟨_, rfl⟩
  rw [hR9] at hR
  have HFL := Lib.hid (show [L.take i, [x], L.drop i].flatten = R by rw [hR]; simp)
  have HFP := Lib.hid (show 0 < R.length by rw [hR]; simp; omega)
  have HFM := Lib.hid (show R.length ≤ 3000 by rw [hR]; simp; omega)
  obtain ⟨n, hn⟩ : ∃ n, L.length = n := ⟨_, rfl⟩
  rw [hn] at h m1 b1 hcl hcap hid ⊢
  rw [if_neg hci] at hid
  simp only [Option.map_some, add7] at hid
  have hcn : ¬ c < i := by omega
  have hcn2 : ¬ n < i := by omega
  have HIT := Lib.hid hit
  have HID := Lib.hid hid
  have HR := Lib.hid hR9
  have hbk0 := hb1
  clear h hb hx hc hit hid hi hn hi1 hl7 hR hR9
  go_enter Try.func10, Try.ntmps10
  go_wp2_with fail
  refine m1.mono ?_
  rintro e w' ⟨rfl, rfl⟩
  go_wp2_with fail
  refine m2.mono ?_
  rintro e w' ⟨rfl, rfl⟩
  go_wp2_with fail
  refine b1.mono ?_
  rintro e w' ⟨rfl, q, rfl⟩
  have hbk1 : Below w.heap.size w (W1.drewN q) := below_drewN hb1 q
  generalize W1.drewN q = k1 at hbk1 ⊢
  clear m1 m2 b1 hW1 hb1 hbk0
  go_wp2_with fail
  replace hbk1 : Below w.heap.size w k1.drew := hbk1.drew
  refine wp_region_noPanic ?_
  refine wp_region_held_drew (S := fun W => True) (by kernel_rfl) ?_ (fun hHeld => ?_)
  · exact trivial
  generalize k1.drew = k2 at *
  have hbk2 := hbk1
  refine wpAnyH_take (i := 0) (oi := { dst := some 24, op := Op.move (Operand.tmp 0), type := 22, pos := "conf.go:64", after := #[], guard := none }) (v := .slice (some ⟨g, o, none⟩) n c) rfl (by kernel_rfl) (by kernel_rfl) (by kernel_rfl) (fun _ _ _ h => h) (Or.inl ⟨by rfl, fun w hSw => ?_⟩) (by assumption) ?_
  · (try dsimp only at hSw)
    go_simp
  try simp only [Act.put, List.setIfInBounds_toArray, List.set_cons_zero, List.set_cons_succ]
  refine wpAnyH_take (i := 1) (oi := { dst := some 25, op := Op.move (Operand.tmp 6), type := 3, pos := "conf.go:64", after := #[], guard := none }) (v := .int .i64 i) rfl (by kernel_rfl) (by kernel_rfl) (by kernel_rfl) (fun _ _ _ h => h) (Or.inl ⟨by rfl, fun w hSw => ?_⟩) (by assumption) ?_
  · (try dsimp only at hSw)
    go_simp
  try simp only [Act.put, List.setIfInBounds_toArray, List.set_cons_zero, List.set_cons_succ]
  refine wpAnyH_take (i := 2) (oi := { dst := some 26, op := Op.slice 22 (Operand.tmp 24) none (some (Operand.tmp 25)) none, type := 22, pos := "conf.go:64", after := #[{ on := 0, ground := Ground.data }, { on := 1, ground := Ground.data }], guard := none }) (v := .slice (some ⟨g, o, none⟩) i c) rfl (by kernel_rfl) (by kernel_rfl) (by kernel_rfl) (fun _ _ _ h => h) (Or.inl ⟨by rfl, fun w hSw => ?_⟩) (by assumption) ?_
  · (try dsimp only at hSw)
    go_simp
  try simp only [Act.put, List.setIfInBounds_toArray, List.set_cons_zero, List.set_cons_succ]
  refine wpAnyH_take (i := 3) (oi := { dst := some 27, op := Op.move (Operand.tmp 1), type := 3, pos := "conf.go:64", after := #[], guard := none }) (v := .int .i64 x) rfl (by kernel_rfl) (by kernel_rfl) (by kernel_rfl) (fun _ _ _ h => h) (Or.inl ⟨by rfl, fun w hSw => ?_⟩) (by assumption) ?_
  · (try dsimp only at hSw)
    go_simp
  try simp only [Act.put, List.setIfInBounds_toArray, List.set_cons_zero, List.set_cons_succ]
  refine wpAnyH_take (i := 5) (oi := { dst := some 29, op := Op.move (Operand.tmp 0), type := 22, pos := "conf.go:64", after := #[], guard := none }) (v := .slice (some ⟨g, o, none⟩) n c) rfl (by kernel_rfl) (by kernel_rfl) (by kernel_rfl) (fun _ _ _ h => h) (Or.inl ⟨by rfl, fun w hSw => ?_⟩) (by assumption) ?_
  · (try dsimp only at hSw)
    go_simp
  try simp only [Act.put, List.setIfInBounds_toArray, List.set_cons_zero, List.set_cons_succ]
  refine wpAnyH_take (i := 6) (oi := { dst := some 30, op := Op.move (Operand.tmp 6), type := 3, pos := "conf.go:64", after := #[], guard := none }) (v := .int .i64 i) rfl (by kernel_rfl) (by kernel_rfl) (by kernel_rfl) (fun _ _ _ h => h) (Or.inl ⟨by rfl, fun w hSw => ?_⟩) (by assumption) ?_
  · (try dsimp only at hSw)
    go_simp
  try simp only [Act.put, List.setIfInBounds_toArray, List.set_cons_zero, List.set_cons_succ]
  refine wpAnyH_take (i := 7) (oi := { dst := some 31, op := Op.slice 22 (Operand.tmp 29) (some (Operand.tmp 30)) none none, type := 22, pos := "conf.go:64", after := #[{ on := 5, ground := Ground.data }, { on := 6, ground := Ground.data }], guard := none }) (v := .slice (some ⟨g, o + i, none⟩) (n - i) (c - i)) rfl (by kernel_rfl) (by kernel_rfl) (by kernel_rfl) (fun _ _ _ h => h) (Or.inl ⟨by rfl, fun w hSw => ?_⟩) (by assumption) ?_
  · (try dsimp only at hSw)
    go_simp
  try simp only [Act.put, List.setIfInBounds_toArray, List.set_cons_zero, List.set_cons_succ]
  refine wpAnyH_ready (rs := [4]) (by kernel_rfl) (by simp) ?_
  refine AllReadyH.cons (o := { dst := some 28, op := Op.buildSlice 22 1 #[(0, Operand.tmp 27)], type := 22, pos := "conf.go:64", after := #[{ on := 3, ground := Ground.data }], guard := none }) rfl (fun K hK => ?_) AllReadyH.nil
  go_simp
  refine hK.out _ _ ?_ (fun hHeld => ?_)
  · exact trivial
  clear hK K
  try simp only [Act.put, List.setIfInBounds_toArray, List.set_cons_zero, List.set_cons_succ]
  obtain ⟨k3, hk3⟩ : ∃ k, k2.alloc (.cells #[.int .i64 x] 3) = k := ⟨_, rfl⟩
  rw [hk3]
  have hbk3 : Below k2.heap.size k2 k3 := by rw [← hk3]; exact below_new12 _ _
  have hzk3 : k3.heap.size = k2.heap.size + 1 := by rw [← hk3]; simp
  have hi3 : Ints k3 (k2.heap.size + 1) (.slice (some ⟨k2.heap.size, 0, none⟩) 1 1) [x] := by rw [← hk3]; exact ints_new k2 _ _ [x] rfl
  refine wpAnyH_ready (rs := [8]) (by kernel_rfl) (by simp) ?_
  refine AllReadyH.cons (o := { dst := some 32, op := Op.buildSlice 53 3 #[(0, Operand.tmp 26), (1, Operand.tmp 28), (2, Operand.tmp 31)], type := 53, pos := "conf.go:64", after := #[{ on := 2, ground := Ground.data }, { on := 4, ground := Ground.data }, { on := 7, ground := Ground.data }], guard := none }) rfl (fun K hK => ?_) AllReadyH.nil
  go_simp
  refine hK.out _ _ ?_ (fun hHeld => ?_)
  · exact trivial
  clear hK K
  try simp only [Act.put, List.setIfInBounds_toArray, List.set_cons_zero, List.set_cons_succ]
  obtain ⟨k4, hk4⟩ : ∃ k, k3.alloc (.cells #[.slice (some ⟨g, o, none⟩) i c, .slice (some ⟨k2.heap.size, 0, none⟩) 1 1, .slice (some ⟨g, o + i, none⟩) (n - i) (c - i)] 22) = k := ⟨_, rfl⟩
  rw [hk4]
  have hbk4 : Below k3.heap.size k3 k4 := by rw [← hk4]; exact below_new12 _ _
  have hzk4 : k4.heap.size = k3.heap.size + 1 := by rw [← hk4]; simp
  have hs4 : Sls k4 (k3.heap.size + 1) (.slice (some ⟨k3.heap.size, 0, none⟩) 3 3) [.slice (some ⟨g, o, none⟩) i c, .slice (some ⟨k2.heap.size, 0, none⟩) 1 1, .slice (some ⟨g, o + i, none⟩) (n - i) (c - i)] := by rw [← hk4]; exact sls_new k3 _ _
  have hbw4 : Below w.heap.size w k4 := (hbk2.trans (hbk3.mono hbk2.size)).trans (hbk4.mono (hbk2.trans (hbk3.mono hbk2.size)).size)
  have hj1 : Ints k4 (k3.heap.size + 1) (.slice (some ⟨g, o, none⟩) i c) (L.take i) := ((HIT.out.keep (Below.refl _ _) (Nat.le_refl _)).keep hbw4 hB).more (by have := hbw4.size; have := hbk2.size; omega)
  have hj3 : Ints k4 (k3.heap.size + 1) (.slice (some ⟨g, o + i, none⟩) (n - i) (c - i)) (L.drop i) := ((HID.out.keep (Below.refl _ _) (Nat.le_refl _)).keep hbw4 hB).more (by have := hbw4.size; have := hbk2.size; omega)
  have hj2 : Ints k4 (k3.heap.size + 1) (.slice (some ⟨k2.heap.size, 0, none⟩) 1 1) [x] := (hi3.keep hbk4 (by omega)).more (by omega)
  have hil : Ilss k4 (k3.heap.size + 1) [.slice (some ⟨g, o, none⟩) i c, .slice (some ⟨k2.heap.size, 0, none⟩) 1 1, .slice (some ⟨g, o + i, none⟩) (n - i) (c - i)] [L.take i, [x], L.drop i] := ⟨rfl, fun k hk _ => by
    match k, hk with
    | 0, _ => exact hj1
    | 1, _ => exact hj2
    | 2, _ => exact hj3
  ⟩
  have hcc := concat12_w _ 3 3 (k3.heap.size + 1) _ _ k4 hs4 rfl hil (by rw [hzk4]; exact Nat.le_refl _) (by rw [HFL.out]; exact HFP.out) (by rw [HFL.out]; exact HFM.out) (by decide)
  rw [HFL.out] at hcc
  rw [hzk3] at hcc
  clear hs4 hil hj1 hj3 hj2 hi3 hk3 hk4
  refine wpAnyH_ready (rs := [9]) (by kernel_rfl) (by simp) ?_
  refine AllReadyH.cons (o := { dst := some 33, op := Op.call { callee := Callee.value (Operand.func 27), args := #[Operand.tmp 32], argTypes := #[53] }, type := 22, pos := "conf.go:64", after := #[{ on := 8, ground := Ground.data }], guard := none }) rfl (fun K hK => ?_) AllReadyH.nil
  go_simp
  go_at_call 27
  refine hcc.mono ?_
  rintro e k5 ⟨v5, rfl, ho5, hb5⟩
  obtain ⟨A5, c5, rfl⟩ := ho5.slice
  refine hK.out _ _ ?_ (fun hHeld => ?_)
  · exact trivial
  clear hK K
  try simp only [Act.put, List.setIfInBounds_toArray, List.set_cons_zero, List.set_cons_succ]
  obtain ⟨m5, hm5⟩ : ∃ m5, R.length = m5 := ⟨_, rfl⟩
  rw [hm5] at ho5 ⊢
  have HO5 := Lib.hid ho5
  have HM5 := Lib.hid hm5
  have HB5 := Lib.hid (hbw4.trans (hb5.mono hbw4.size))
  clear ho5 hm5 hb5 hcc
  refine wpAnyH_take (i := 10) (oi := { dst := some 4, op := Op.assign (Operand.tmp 33), type := 22, pos := "conf.go:64", after := #[{ on := 9, ground := Ground.data }, { on := 9, ground := Ground.chain }, { on := 0, ground := Ground.phase }, { on := 1, ground := Ground.phase }, { on := 2, ground := Ground.phase }, { on := 3, ground := Ground.phase }, { on := 4, ground := Ground.phase }, { on := 5, ground := Ground.phase }, { on := 6, ground := Ground.phase }, { on := 7, ground := Ground.phase }, { on := 8, ground := Ground.phase }, { on := 9, ground := Ground.phase }], guard := none }) (v := .slice A5 m5 c5) rfl (by kernel_rfl) (by kernel_rfl) (by kernel_rfl) (fun _ _ _ h => h) (Or.inl ⟨by rfl, fun w hSw => ?_⟩) (by assumption) ?_
  · (try dsimp only at hSw)
    go_simp
  try simp only [Act.put, List.setIfInBounds_toArray, List.set_cons_zero, List.set_cons_succ]
  refine wpAnyH_take (i := 11) (oi := { dst := some 5, op := Op.assign (Operand.const (Value.bool true)), type := 4, pos := "conf.go:64", after := #[{ on := 10, ground := Ground.chain }, { on := 0, ground := Ground.phase }, { on := 1, ground := Ground.phase }, { on := 2, ground := Ground.phase }, { on := 3, ground := Ground.phase }, { on := 4, ground := Ground.phase }, { on := 5, ground := Ground.phase }, { on := 6, ground := Ground.phase }, { on := 7, ground := Ground.phase }, { on := 8, ground := Ground.phase }, { on := 9, ground := Ground.phase }, { on := 10, ground := Ground.phase }], guard := none }) (v := .bool true) rfl (by kernel_rfl) (by kernel_rfl) (by kernel_rfl) (fun _ _ _ h => h) (Or.inl ⟨by rfl, fun w hSw => ?_⟩) (by assumption) ?_
  · (try dsimp only at hSw)
    go_simp
  try simp only [Act.put, List.setIfInBounds_toArray, List.set_cons_zero, List.set_cons_succ]
  refine wpAnyH_done (by kernel_rfl) ?_ _
  refine NoPanic.normal ?_
  go_wp2
  go_ret2
  refine ⟨HB5.out, A5, c5, ?_, ?_⟩
  · rw [HR.out, HM5.out]
    rfl
  · rw [HR.out]
    have h9 := HO5.out
    rw [← HM5.out] at h9
    exact Ints.of_own h9
set_option maxHeartbeats 400000 in
theorem add12_at (g o : Nat) (c B : Nat) (L : List Int) (x : Int) (w : World) (h : Ints w B (.slice (some ⟨g, o, none⟩) L.length c) L) (hB : B ≤ w.heap.size) (hb : may12 L = true) (hx : may12 [x] = true) (hc : L.contains x = false) (hci : c = L.countP (· < x)) :
    Calls Try.prog 10 #[.slice (some ⟨g, o, none⟩) L.length c, .int .i64 x] w (Dec12 (some (ins12 L x)) w) := by
  have hl7 := may12_len hb
  have m1 := may12_w _ c B L w h (by omega)
  rw [hb] at m1
  have hcap := h.cap.2
  have hcl : L.countP (· < x) ≤ L.length := List.countP_le_length
  obtain ⟨W1, hW1⟩ : ∃ W1, w.alloc (.cells #[.int .i64 x] 3) = W1 := ⟨_, rfl⟩
  have hi1 : Ints W1 (w.heap.size + 1) (.slice (some ⟨w.heap.size, 0, none⟩) [x].length [x].length) [x] := by rw [← hW1]; exact ints_new w _ _ [x] rfl
  have m2 := may12_w _ _ _ [x] W1 hi1 (by simp)
  rw [hx] at m2
  have hb1 : Below w.heap.size w W1 := by rw [← hW1]; exact below_new12 w _
  have b1 := bsearch12_w _ c B L x W1 (h.keep hb1 hB) (by omega) (may12_sorted hb)
  rw [hc] at b1
  obtain ⟨i, hi⟩ : ∃ i, L.countP (· < x) = i := ⟨_, rfl⟩
  rw [hi] at b1 hcl hci
  have hit := h.take i hcl
  have hid := h.drop i hcl
  have hR : ins12 L x = L.take i ++ [x] ++ L.drop i := by unfold ins12; rw [hi]
  obtain ⟨R, hR9⟩ : ∃ R, ins12 L x = R := ⟨_, rfl⟩
  rw [hR9] at hR
  have HFL := Lib.hid (show [L.take i, [x], L.drop i].flatten = R by rw [hR]; simp)
  have HFP := Lib.hid (show 0 < R.length by rw [hR]; simp; omega)
  have HFM := Lib.hid (show R.length ≤ 3000 by rw [hR]; simp; omega)
  obtain ⟨n, hn⟩ : ∃ n, L.length = n := ⟨_, rfl⟩
  rw [hn] at h m1 b1 hcl hcap hid ⊢
  subst hci
  have hnc : n = c := by omega
  subst hnc
  rw [if_pos rfl, Nat.sub_self] at hid
  have HIT := Lib.hid hit
  have HID := Lib.hid hid
  have HR := Lib.hid hR9
  have hbk0 := hb1
  clear h hb hx hc hit hid hi hn hi1 hl7 hR hR9
  go_enter Try.func10, Try.ntmps10
  go_wp2_with fail
  refine m1.mono ?_
  rintro e w' ⟨rfl, rfl⟩
  go_wp2_with fail
  refine m2.mono ?_
  rintro e w' ⟨rfl, rfl⟩
  go_wp2_with fail
  refine b1.mono ?_
  rintro e w' ⟨rfl, q, rfl⟩
  have hbk1 : Below w.heap.size w (W1.drewN q) := below_drewN hb1 q
  generalize W1.drewN q = k1 at hbk1 ⊢
  clear m1 m2 b1 hW1 hb1 hbk0
  go_wp2_with fail
  replace hbk1 : Below w.heap.size w k1.drew := hbk1.drew
  refine wp_region_noPanic ?_
  refine wp_region_held_drew (S := fun W => True) (by kernel_rfl) ?_ (fun hHeld => ?_)
  · exact trivial
  generalize k1.drew = k2 at *
  have hbk2 := hbk1
  refine wpAnyH_take (i := 0) (oi := { dst := some 24, op := Op.move (Operand.tmp 0), type := 22, pos := "conf.go:64", after := #[], guard := none }) (v := .slice (some ⟨g, o, none⟩) n n) rfl (by kernel_rfl) (by kernel_rfl) (by kernel_rfl) (fun _ _ _ h => h) (Or.inl ⟨by rfl, fun w hSw => ?_⟩) (by assumption) ?_
  · (try dsimp only at hSw)
    go_simp
  try simp only [Act.put, List.setIfInBounds_toArray, List.set_cons_zero, List.set_cons_succ]
  refine wpAnyH_take (i := 1) (oi := { dst := some 25, op := Op.move (Operand.tmp 6), type := 3, pos := "conf.go:64", after := #[], guard := none }) (v := .int .i64 n) rfl (by kernel_rfl) (by kernel_rfl) (by kernel_rfl) (fun _ _ _ h => h) (Or.inl ⟨by rfl, fun w hSw => ?_⟩) (by assumption) ?_
  · (try dsimp only at hSw)
    go_simp
  try simp only [Act.put, List.setIfInBounds_toArray, List.set_cons_zero, List.set_cons_succ]
  refine wpAnyH_take (i := 2) (oi := { dst := some 26, op := Op.slice 22 (Operand.tmp 24) none (some (Operand.tmp 25)) none, type := 22, pos := "conf.go:64", after := #[{ on := 0, ground := Ground.data }, { on := 1, ground := Ground.data }], guard := none }) (v := .slice (some ⟨g, o, none⟩) n n) rfl (by kernel_rfl) (by kernel_rfl) (by kernel_rfl) (fun _ _ _ h => h) (Or.inl ⟨by rfl, fun w hSw => ?_⟩) (by assumption) ?_
  · (try dsimp only at hSw)
    go_simp
  try simp only [Act.put, List.setIfInBounds_toArray, List.set_cons_zero, List.set_cons_succ]
  refine wpAnyH_take (i := 3) (oi := { dst := some 27, op := Op.move (Operand.tmp 1), type := 3, pos := "conf.go:64", after := #[], guard := none }) (v := .int .i64 x) rfl (by kernel_rfl) (by kernel_rfl) (by kernel_rfl) (fun _ _ _ h => h) (Or.inl ⟨by rfl, fun w hSw => ?_⟩) (by assumption) ?_
  · (try dsimp only at hSw)
    go_simp
  try simp only [Act.put, List.setIfInBounds_toArray, List.set_cons_zero, List.set_cons_succ]
  refine wpAnyH_take (i := 5) (oi := { dst := some 29, op := Op.move (Operand.tmp 0), type := 22, pos := "conf.go:64", after := #[], guard := none }) (v := .slice (some ⟨g, o, none⟩) n n) rfl (by kernel_rfl) (by kernel_rfl) (by kernel_rfl) (fun _ _ _ h => h) (Or.inl ⟨by rfl, fun w hSw => ?_⟩) (by assumption) ?_
  · (try dsimp only at hSw)
    go_simp
  try simp only [Act.put, List.setIfInBounds_toArray, List.set_cons_zero, List.set_cons_succ]
  refine wpAnyH_take (i := 6) (oi := { dst := some 30, op := Op.move (Operand.tmp 6), type := 3, pos := "conf.go:64", after := #[], guard := none }) (v := .int .i64 n) rfl (by kernel_rfl) (by kernel_rfl) (by kernel_rfl) (fun _ _ _ h => h) (Or.inl ⟨by rfl, fun w hSw => ?_⟩) (by assumption) ?_
  · (try dsimp only at hSw)
    go_simp
  try simp only [Act.put, List.setIfInBounds_toArray, List.set_cons_zero, List.set_cons_succ]
  refine wpAnyH_take (i := 7) (oi := { dst := some 31, op := Op.slice 22 (Operand.tmp 29) (some (Operand.tmp 30)) none none, type := 22, pos := "conf.go:64", after := #[{ on := 5, ground := Ground.data }, { on := 6, ground := Ground.data }], guard := none }) (v := .slice (some ⟨g, o, none⟩) 0 0) rfl (by kernel_rfl) (by kernel_rfl) (by kernel_rfl) (fun _ _ _ h => h) (Or.inl ⟨by rfl, fun w hSw => ?_⟩) (by assumption) ?_
  · (try dsimp only at hSw)
    go_simp
  try simp only [Act.put, List.setIfInBounds_toArray, List.set_cons_zero, List.set_cons_succ]
  refine wpAnyH_ready (rs := [4]) (by kernel_rfl) (by simp) ?_
  refine AllReadyH.cons (o := { dst := some 28, op := Op.buildSlice 22 1 #[(0, Operand.tmp 27)], type := 22, pos := "conf.go:64", after := #[{ on := 3, ground := Ground.data }], guard := none }) rfl (fun K hK => ?_) AllReadyH.nil
  go_simp
  refine hK.out _ _ ?_ (fun hHeld => ?_)
  · exact trivial
  clear hK K
  try simp only [Act.put, List.setIfInBounds_toArray, List.set_cons_zero, List.set_cons_succ]
  obtain ⟨k3, hk3⟩ : ∃ k, k2.alloc (.cells #[.int .i64 x] 3) = k := ⟨_, rfl⟩
  rw [hk3]
  have hbk3 : Below k2.heap.size k2 k3 := by rw [← hk3]; exact below_new12 _ _
  have hzk3 : k3.heap.size = k2.heap.size + 1 := by rw [← hk3]; simp
  have hi3 : Ints k3 (k2.heap.size + 1) (.slice (some ⟨k2.heap.size, 0, none⟩) 1 1) [x] := by rw [← hk3]; exact ints_new k2 _ _ [x] rfl
  refine wpAnyH_ready (rs := [8]) (by kernel_rfl) (by simp) ?_
  refine AllReadyH.cons (o := { dst := some 32, op := Op.buildSlice 53 3 #[(0, Operand.tmp 26), (1, Operand.tmp 28), (2, Operand.tmp 31)], type := 53, pos := "conf.go:64", after := #[{ on := 2, ground := Ground.data }, { on := 4, ground := Ground.data }, { on := 7, ground := Ground.data }], guard := none }) rfl (fun K hK => ?_) AllReadyH.nil
  go_simp
  refine hK.out _ _ ?_ (fun hHeld => ?_)
  · exact trivial
  clear hK K
  try simp only [Act.put, List.setIfInBounds_toArray, List.set_cons_zero, List.set_cons_succ]
  obtain ⟨k4, hk4⟩ : ∃ k, k3.alloc (.cells #[.slice (some ⟨g, o, none⟩) n n, .slice (some ⟨k2.heap.size, 0, none⟩) 1 1, .slice (some ⟨g, o, none⟩) 0 0] 22) = k := ⟨_, rfl⟩
  rw [hk4]
  have hbk4 : Below k3.heap.size k3 k4 := by rw [← hk4]; exact below_new12 _ _
  have hzk4 : k4.heap.size = k3.heap.size + 1 := by rw [← hk4]; simp
  have hs4 : Sls k4 (k3.heap.size + 1) (.slice (some ⟨k3.heap.size, 0, none⟩) 3 3) [.slice (some ⟨g, o, none⟩) n n, .slice (some ⟨k2.heap.size, 0, none⟩) 1 1, .slice (some ⟨g, o, none⟩) 0 0] := by rw [← hk4]; exact sls_new k3 _ _
  have hbw4 : Below w.heap.size w k4 := (hbk2.trans (hbk3.mono hbk2.size)).trans (hbk4.mono (hbk2.trans (hbk3.mono hbk2.size)).size)
  have hj1 : Ints k4 (k3.heap.size + 1) (.slice (some ⟨g, o, none⟩) n n) (L.take n) := ((HIT.out.keep (Below.refl _ _) (Nat.le_refl _)).keep hbw4 hB).more (by have := hbw4.size; have := hbk2.size; omega)
  have hj3 : Ints k4 (k3.heap.size + 1) (.slice (some ⟨g, o, none⟩) 0 0) (L.drop n) := ((HID.out.keep (Below.refl _ _) (Nat.le_refl _)).keep hbw4 hB).more (by have := hbw4.size; have := hbk2.size; omega)
  have hj2 : Ints k4 (k3.heap.size + 1) (.slice (some ⟨k2.heap.size, 0, none⟩) 1 1) [x] := (hi3.keep hbk4 (by omega)).more (by omega)
  have hil : Ilss k4 (k3.heap.size + 1) [.slice (some ⟨g, o, none⟩) n n, .slice (some ⟨k2.heap.size, 0, none⟩) 1 1, .slice (some ⟨g, o, none⟩) 0 0] [L.take n, [x], L.drop n] := ⟨rfl, fun k hk _ => by
    match k, hk with
    | 0, _ => exact hj1
    | 1, _ => exact hj2
    | 2, _ => exact hj3
  ⟩
  have hcc := concat12_w _ 3 3 (k3.heap.size + 1) _ _ k4 hs4 rfl hil (by rw [hzk4]; exact Nat.le_refl _) (by rw [HFL.out]; exact HFP.out) (by rw [HFL.out]; exact HFM.out) (by decide)
  rw [HFL.out] at hcc
  rw [hzk3] at hcc
  clear hs4 hil hj1 hj3 hj2 hi3 hk3 hk4
  refine wpAnyH_ready (rs := [9]) (by kernel_rfl) (by simp) ?_
  refine AllReadyH.cons (o := { dst := some 33, op := Op.call { callee := Callee.value (Operand.func 27), args := #[Operand.tmp 32], argTypes := #[53] }, type := 22, pos := "conf.go:64", after := #[{ on := 8, ground := Ground.data }], guard := none }) rfl (fun K hK => ?_) AllReadyH.nil
  go_simp
  go_at_call 27
  refine hcc.mono ?_
  rintro e k5 ⟨v5, rfl, ho5, hb5⟩
  obtain ⟨A5, c5, rfl⟩ := ho5.slice
  refine hK.out _ _ ?_ (fun hHeld => ?_)
  · exact trivial
  clear hK K
  try simp only [Act.put, List.setIfInBounds_toArray, List.set_cons_zero, List.set_cons_succ]
  obtain ⟨m5, hm5⟩ : ∃ m5, R.length = m5 := ⟨_, rfl⟩
  rw [hm5] at ho5 ⊢
  have HO5 := Lib.hid ho5
  have HM5 := Lib.hid hm5
  have HB5 := Lib.hid (hbw4.trans (hb5.mono hbw4.size))
  clear ho5 hm5 hb5 hcc
  refine wpAnyH_take (i := 10) (oi := { dst := some 4, op := Op.assign (Operand.tmp 33), type := 22, pos := "conf.go:64", after := #[{ on := 9, ground := Ground.data }, { on := 9, ground := Ground.chain }, { on := 0, ground := Ground.phase }, { on := 1, ground := Ground.phase }, { on := 2, ground := Ground.phase }, { on := 3, ground := Ground.phase }, { on := 4, ground := Ground.phase }, { on := 5, ground := Ground.phase }, { on := 6, ground := Ground.phase }, { on := 7, ground := Ground.phase }, { on := 8, ground := Ground.phase }, { on := 9, ground := Ground.phase }], guard := none }) (v := .slice A5 m5 c5) rfl (by kernel_rfl) (by kernel_rfl) (by kernel_rfl) (fun _ _ _ h => h) (Or.inl ⟨by rfl, fun w hSw => ?_⟩) (by assumption) ?_
  · (try dsimp only at hSw)
    go_simp
  try simp only [Act.put, List.setIfInBounds_toArray, List.set_cons_zero, List.set_cons_succ]
  refine wpAnyH_take (i := 11) (oi := { dst := some 5, op := Op.assign (Operand.const (Value.bool true)), type := 4, pos := "conf.go:64", after := #[{ on := 10, ground := Ground.chain }, { on := 0, ground := Ground.phase }, { on := 1, ground := Ground.phase }, { on := 2, ground := Ground.phase }, { on := 3, ground := Ground.phase }, { on := 4, ground := Ground.phase }, { on := 5, ground := Ground.phase }, { on := 6, ground := Ground.phase }, { on := 7, ground := Ground.phase }, { on := 8, ground := Ground.phase }, { on := 9, ground := Ground.phase }, { on := 10, ground := Ground.phase }], guard := none }) (v := .bool true) rfl (by kernel_rfl) (by kernel_rfl) (by kernel_rfl) (fun _ _ _ h => h) (Or.inl ⟨by rfl, fun w hSw => ?_⟩) (by assumption) ?_
  · (try dsimp only at hSw)
    go_simp
  try simp only [Act.put, List.setIfInBounds_toArray, List.set_cons_zero, List.set_cons_succ]
  refine wpAnyH_done (by kernel_rfl) ?_ _
  refine NoPanic.normal ?_
  go_wp2
  go_ret2
  refine ⟨HB5.out, A5, c5, ?_, ?_⟩
  · rw [HR.out, HM5.out]
    rfl
  · rw [HR.out]
    have h9 := HO5.out
    rw [← HM5.out] at h9
    exact Ints.of_own h9
set_option maxHeartbeats 400000 in
theorem rem12_in (g o : Nat) (c B : Nat) (L : List Int) (x : Int) (w : World) (h : Ints w B (.slice (some ⟨g, o, none⟩) L.length c) L) (hB : B ≤ w.heap.size) (hb : may12 L = true) (hx : ¬ L.length = 1) (hc : L.contains x = true) (hci : ¬ c = L.countP (· < x) + 1) :
    Calls Try.prog 12 #[.slice (some ⟨g, o, none⟩) L.length c, .int .i64 x] w (Dec12 (some (del12 L x)) w) := by
  have hl7 := may12_len hb
  have m1 := may12_w _ c B L w h (by omega)
  rw [hb] at m1
  have hcap := h.cap.2
  have hcl : L.countP (· < x) + 1 ≤ L.length := countP_contains12 hc
  have b1 := bsearch12_w _ c B L x w h (by omega) (may12_sorted hb)
  rw [hc] at b1
  obtain ⟨i, hi⟩ : ∃ i, L.countP (· < x) = i := ⟨_, rfl⟩
  rw [hi] at b1 hcl hci
  have hit := h.take i (by omega)
  have hid := h.drop (i + 1) hcl
  have hR : del12 L x = L.take i ++ L.drop (i + 1) := by unfold del12; rw [hi]
  obtain ⟨R, hR9⟩ : ∃ R, del12 L x = R := ⟨_, rfl⟩
  rw [hR9] at hR
  have hpos := may12_pos hb
  have HFL := Lib.hid (show [L.take i, L.drop (i + 1)].flatten = R by rw [hR]; simp)
  have HFP := Lib.hid (show 0 < R.length by rw [hR]; simp; omega)
  have HFM := Lib.hid (show R.length ≤ 3000 by rw [hR]; simp; omega)
  obtain ⟨n, hn⟩ : ∃ n, L.length = n := ⟨_, rfl⟩
  rw [hn] at h m1 b1 hcl hcap hid hx ⊢
  have hx2 : ((n : Int) == 1) = false := by
    have : ¬ (n : Int) = 1 := by omega
    simp [this]
  rw [if_neg hci] at hid
  simp only [Option.map_some, add7] at hid
  have hcn : ¬ c < i := by omega
  have hcn2 : ¬ n < i + 1 := by omega
  have HIT := Lib.hid hit
  have HID := Lib.hid hid
  have HR := Lib.hid hR9
  have hw1 : IntKind.i64.wrap ((i : Int) + 1) = (i : Int) + 1 := by rw [IntKind.wrap_i64]; omega
  have hw2 : ((i : Int) + 1).toNat = i + 1 := by omega
  have hf3 : ¬ ((i : Int) + 1 < (i : Int)) := by omega
  have hf4 : ¬ ((i : Int) + 1 < 0) := by omega
  have hf5 : 0 ≤ (i : Int) + 1 := by omega
  have hf6 : ¬ ((n : Int) < (i : Int) + 1) := by omega
  clear h hb hc hit hid hi hn hl7 hR hR9
  go_enter Try.func12, Try.ntmps12
  go_wp2_with fail
  refine m1.mono ?_
  rintro e w' ⟨rfl, rfl⟩
  go_wp2_with fail
  refine b1.mono ?_
  rintro e w' ⟨rfl, q, rfl⟩
  have hbk1 : Below w.heap.size w (w.drewN q) := below_drewN12 w q
  generalize w.drewN q = k1 at hbk1 ⊢
  clear m1 b1
  go_wp2_with fail
  replace hbk1 : Below w.heap.size w k1.drew := hbk1.drew
  refine wp_region_noPanic ?_
  refine wp_region_held_drew (S := fun W => True) (by kernel_rfl) ?_ (fun hHeld => ?_)
  · exact trivial
  generalize k1.drew = k2 at *
  have hbk2 := hbk1
  refine wpAnyH_take (i := 0) (oi := { dst := some 24, op := Op.move (Operand.tmp 0), type := 22, pos := "conf.go:77", after := #[], guard := none }) (v := .slice (some ⟨g, o, none⟩) n c) rfl (by kernel_rfl) (by kernel_rfl) (by kernel_rfl) (fun _ _ _ h => h) (Or.inl ⟨by rfl, fun w hSw => ?_⟩) (by assumption) ?_
  · (try dsimp only at hSw)
    go_simp
  try simp only [Act.put, List.setIfInBounds_toArray, List.set_cons_zero, List.set_cons_succ]
  refine wpAnyH_take (i := 1) (oi := { dst := some 25, op := Op.move (Operand.tmp 6), type := 3, pos := "conf.go:77", after := #[], guard := none }) (v := .int .i64 i) rfl (by kernel_rfl) (by kernel_rfl) (by kernel_rfl) (fun _ _ _ h => h) (Or.inl ⟨by rfl, fun w hSw => ?_⟩) (by assumption) ?_
  · (try dsimp only at hSw)
    go_simp
  try simp only [Act.put, List.setIfInBounds_toArray, List.set_cons_zero, List.set_cons_succ]
  refine wpAnyH_take (i := 2) (oi := { dst := some 26, op := Op.slice 22 (Operand.tmp 24) none (some (Operand.tmp 25)) none, type := 22, pos := "conf.go:77", after := #[{ on := 0, ground := Ground.data }, { on := 1, ground := Ground.data }], guard := none }) (v := .slice (some ⟨g, o, none⟩) i c) rfl (by kernel_rfl) (by kernel_rfl) (by kernel_rfl) (fun _ _ _ h => h) (Or.inl ⟨by rfl, fun w hSw => ?_⟩) (by assumption) ?_
  · (try dsimp only at hSw)
    go_simp
  try simp only [Act.put, List.setIfInBounds_toArray, List.set_cons_zero, List.set_cons_succ]
  refine wpAnyH_take (i := 3) (oi := { dst := some 27, op := Op.move (Operand.tmp 0), type := 22, pos := "conf.go:77", after := #[], guard := none }) (v := .slice (some ⟨g, o, none⟩) n c) rfl (by kernel_rfl) (by kernel_rfl) (by kernel_rfl) (fun _ _ _ h => h) (Or.inl ⟨by rfl, fun w hSw => ?_⟩) (by assumption) ?_
  · (try dsimp only at hSw)
    go_simp
  try simp only [Act.put, List.setIfInBounds_toArray, List.set_cons_zero, List.set_cons_succ]
  refine wpAnyH_take (i := 4) (oi := { dst := some 28, op := Op.move (Operand.tmp 6), type := 3, pos := "conf.go:77", after := #[], guard := none }) (v := .int .i64 i) rfl (by kernel_rfl) (by kernel_rfl) (by kernel_rfl) (fun _ _ _ h => h) (Or.inl ⟨by rfl, fun w hSw => ?_⟩) (by assumption) ?_
  · (try dsimp only at hSw)
    go_simp
  try simp only [Act.put, List.setIfInBounds_toArray, List.set_cons_zero, List.set_cons_succ]
  refine wpAnyH_take (i := 5) (oi := { dst := some 29, op := Op.binOp BinOp.add 3 (Operand.tmp 28) (Operand.const (Value.int IntKind.i64 1)) 3, type := 3, pos := "conf.go:77", after := #[{ on := 4, ground := Ground.data }], guard := none }) (v := .int .i64 ((i : Int) + 1)) rfl (by kernel_rfl) (by kernel_rfl) (by kernel_rfl) (fun _ _ _ h => h) (Or.inl ⟨by rfl, fun w hSw => ?_⟩) (by assumption) ?_
  · (try dsimp only at hSw)
    go_simp
  try simp only [Act.put, List.setIfInBounds_toArray, List.set_cons_zero, List.set_cons_succ]
  refine wpAnyH_take (i := 6) (oi := { dst := some 30, op := Op.slice 22 (Operand.tmp 27) (some (Operand.tmp 29)) none none, type := 22, pos := "conf.go:77", after := #[{ on := 3, ground := Ground.data }, { on := 5, ground := Ground.data }], guard := none }) (v := .slice (some ⟨g, o + (i + 1), none⟩) (n - (i + 1)) (c - (i + 1))) rfl (by kernel_rfl) (by kernel_rfl) (by kernel_rfl) (fun _ _ _ h => h) (Or.inl ⟨by rfl, fun w hSw => ?_⟩) (by assumption) ?_
  · (try dsimp only at hSw)
    go_simp
  try simp only [Act.put, List.setIfInBounds_toArray, List.set_cons_zero, List.set_cons_succ]
  refine wpAnyH_ready (rs := [7]) (by kernel_rfl) (by simp) ?_
  refine AllReadyH.cons (o := { dst := some 31, op := Op.buildSlice 53 2 #[(0, Operand.tmp 26), (1, Operand.tmp 30)], type := 53, pos := "conf.go:77", after := #[{ on := 2, ground := Ground.data }, { on := 6, ground := Ground.data }], guard := none }) rfl (fun K hK => ?_) AllReadyH.nil
  go_simp
  refine hK.out _ _ ?_ (fun hHeld => ?_)
  · exact trivial
  clear hK K
  try simp only [Act.put, List.setIfInBounds_toArray, List.set_cons_zero, List.set_cons_succ]
  obtain ⟨k4, hk4⟩ : ∃ k, k2.alloc (.cells #[.slice (some ⟨g, o, none⟩) i c, .slice (some ⟨g, o + (i + 1), none⟩) (n - (i + 1)) (c - (i + 1))] 22) = k := ⟨_, rfl⟩
  rw [hk4]
  have hbk4 : Below k2.heap.size k2 k4 := by rw [← hk4]; exact below_new12 _ _
  have hzk4 : k4.heap.size = k2.heap.size + 1 := by rw [← hk4]; simp
  have hs4 : Sls k4 (k2.heap.size + 1) (.slice (some ⟨k2.heap.size, 0, none⟩) 2 2) [.slice (some ⟨g, o, none⟩) i c, .slice (some ⟨g, o + (i + 1), none⟩) (n - (i + 1)) (c - (i + 1))] := by rw [← hk4]; exact sls_new k2 _ _
  have hbw4 : Below w.heap.size w k4 := hbk2.trans (hbk4.mono hbk2.size)
  have hj1 : Ints k4 (k2.heap.size + 1) (.slice (some ⟨g, o, none⟩) i c) (L.take i) := ((HIT.out.keep (Below.refl _ _) (Nat.le_refl _)).keep hbw4 hB).more (by have := hbw4.size; have := hbk2.size; omega)
  have hj3 : Ints k4 (k2.heap.size + 1) (.slice (some ⟨g, o + (i + 1), none⟩) (n - (i + 1)) (c - (i + 1))) (L.drop (i + 1)) := ((HID.out.keep (Below.refl _ _) (Nat.le_refl _)).keep hbw4 hB).more (by have := hbw4.size; have := hbk2.size; omega)
  have hil : Ilss k4 (k2.heap.size + 1) [.slice (some ⟨g, o, none⟩) i c, .slice (some ⟨g, o + (i + 1), none⟩) (n - (i + 1)) (c - (i + 1))] [L.take i, L.drop (i + 1)] := ⟨rfl, fun k hk _ => by
    match k, hk with
    | 0, _ => exact hj1
    | 1, _ => exact hj3
  ⟩
  have hcc := concat12_w _ 2 2 (k2.heap.size + 1) _ _ k4 hs4 rfl hil (by rw [hzk4]; exact Nat.le_refl _) (by rw [HFL.out]; exact HFP.out) (by rw [HFL.out]; exact HFM.out) (by decide)
  rw [HFL.out] at hcc

  clear hs4 hil hj1 hj3  hk4
  refine wpAnyH_ready (rs := [8]) (by kernel_rfl) (by simp) ?_
  refine AllReadyH.cons (o := { dst := some 32, op := Op.call { callee := Callee.value (Operand.func 27), args := #[Operand.tmp 31], argTypes := #[53] }, type := 22, pos := "conf.go:77", after := #[{ on := 7, ground := Ground.data }], guard := none }) rfl (fun K hK => ?_) AllReadyH.nil
  go_simp
  go_at_call 27
  refine hcc.mono ?_
  rintro e k5 ⟨v5, rfl, ho5, hb5⟩
  obtain ⟨A5, c5, rfl⟩ := ho5.slice
  refine hK.out _ _ ?_ (fun hHeld => ?_)
  · exact trivial
  clear hK K
  try simp only [Act.put, List.setIfInBounds_toArray, List.set_cons_zero, List.set_cons_succ]
  obtain ⟨m5, hm5⟩ : ∃ m5, R.length = m5 := ⟨_, rfl⟩
  rw [hm5] at ho5 ⊢
  have HO5 := Lib.hid ho5
  have HM5 := Lib.hid hm5
  have HB5 := Lib.hid (hbw4.trans (hb5.mono hbw4.size))
  clear ho5 hm5 hb5 hcc
  refine wpAnyH_take (i := 9) (oi := { dst := some 4, op := Op.assign (Operand.tmp 32), type := 22, pos := "conf.go:77", after := #[{ on := 8, ground := Ground.data }, { on := 8, ground := Ground.chain }, { on := 0, ground := Ground.phase }, { on := 1, ground := Ground.phase }, { on := 2, ground := Ground.phase }, { on := 3, ground := Ground.phase }, { on := 4, ground := Ground.phase }, { on := 5, ground := Ground.phase }, { on := 6, ground := Ground.phase }, { on := 7, ground := Ground.phase }, { on := 8, ground := Ground.phase }], guard := none }) (v := .slice A5 m5 c5) rfl (by kernel_rfl) (by kernel_rfl) (by kernel_rfl) (fun _ _ _ h => h) (Or.inl ⟨by rfl, fun w hSw => ?_⟩) (by assumption) ?_
  · (try dsimp only at hSw)
    go_simp
  try simp only [Act.put, List.setIfInBounds_toArray, List.set_cons_zero, List.set_cons_succ]
  refine wpAnyH_take (i := 10) (oi := { dst := some 5, op := Op.assign (Operand.const (Value.bool true)), type := 4, pos := "conf.go:77", after := #[{ on := 9, ground := Ground.chain }, { on := 0, ground := Ground.phase }, { on := 1, ground := Ground.phase }, { on := 2, ground := Ground.phase }, { on := 3, ground := Ground.phase }, { on := 4, ground := Ground.phase }, { on := 5, ground := Ground.phase }, { on := 6, ground := Ground.phase }, { on := 7, ground := Ground.phase }, { on := 8, ground := Ground.phase }, { on := 9, ground := Ground.phase }], guard := none }) (v := .bool true) rfl (by kernel_rfl) (by kernel_rfl) (by kernel_rfl) (fun _ _ _ h => h) (Or.inl ⟨by rfl, fun w hSw => ?_⟩) (by assumption) ?_
  · (try dsimp only at hSw)
    go_simp
  try simp only [Act.put, List.setIfInBounds_toArray, List.set_cons_zero, List.set_cons_succ]
  refine wpAnyH_done (by kernel_rfl) ?_ _
  refine NoPanic.normal ?_
  go_wp2
  go_ret2
  refine ⟨HB5.out, A5, c5, ?_, ?_⟩
  · rw [HR.out, HM5.out]
    rfl
  · rw [HR.out]
    have h9 := HO5.out
    rw [← HM5.out] at h9
    exact Ints.of_own h9
set_option maxHeartbeats 400000 in
theorem rem12_at (g o : Nat) (c B : Nat) (L : List Int) (x : Int) (w : World) (h : Ints w B (.slice (some ⟨g, o, none⟩) L.length c) L) (hB : B ≤ w.heap.size) (hb : may12 L = true) (hx : ¬ L.length = 1) (hc : L.contains x = true) (hci : c = L.countP (· < x) + 1) :
    Calls Try.prog 12 #[.slice (some ⟨g, o, none⟩) L.length c, .int .i64 x] w (Dec12 (some (del12 L x)) w) := by
  have hl7 := may12_len hb
  have m1 := may12_w _ c B L w h (by omega)
  rw [hb] at m1
  have hcap := h.cap.2
  have hcl : L.countP (· < x) + 1 ≤ L.length := countP_contains12 hc
  have b1 := bsearch12_w _ c B L x w h (by omega) (may12_sorted hb)
  rw [hc] at b1
  obtain ⟨i, hi⟩ : ∃ i, L.countP (· < x) = i := ⟨_, rfl⟩
  rw [hi] at b1 hcl hci
  have hit := h.take i (by omega)
  have hid := h.drop (i + 1) hcl
  have hR : del12 L x = L.take i ++ L.drop (i + 1) := by unfold del12; rw [hi]
  obtain ⟨R, hR9⟩ : ∃ R, del12 L x = R := ⟨_, rfl⟩
  rw [hR9] at hR
  have hpos := may12_pos hb
  have HFL := Lib.hid (show [L.take i, L.drop (i + 1)].flatten = R by rw [hR]; simp)
  have HFP := Lib.hid (show 0 < R.length by rw [hR]; simp; omega)
  have HFM := Lib.hid (show R.length ≤ 3000 by rw [hR]; simp; omega)
  obtain ⟨n, hn⟩ : ∃ n, L.length = n := ⟨_, rfl⟩
  rw [hn] at h m1 b1 hcl hcap hid hx ⊢
  have hx2 : ((n : Int) == 1) = false := by
    have : ¬ (n : Int) = 1 := by omega
    simp [this]
  have hnc : n = i + 1 := by omega
  subst hci
  subst hnc
  rw [if_pos rfl, Nat.sub_self] at hid
  have HIT := Lib.hid hit
  have HID := Lib.hid hid
  have HR := Lib.hid hR9
  have hw1 : IntKind.i64.wrap ((i : Int) + 1) = (i : Int) + 1 := by rw [IntKind.wrap_i64]; omega
  have hw2 : ((i : Int) + 1).toNat = i + 1 := by omega
  have hf3 : ¬ ((i : Int) + 1 < (i : Int)) := by omega
  have hf4 : ¬ ((i : Int) + 1 < 0) := by omega
  have hf5 : 0 ≤ (i : Int) + 1 := by omega

  clear h hb hc hit hid hi hn hl7 hR hR9
  go_enter Try.func12, Try.ntmps12
  go_wp2_with fail
  refine m1.mono ?_
  rintro e w' ⟨rfl, rfl⟩
  go_wp2_with fail
  refine b1.mono ?_
  rintro e w' ⟨rfl, q, rfl⟩
  have hbk1 : Below w.heap.size w (w.drewN q) := below_drewN12 w q
  generalize w.drewN q = k1 at hbk1 ⊢
  clear m1 b1
  go_wp2_with fail
  replace hbk1 : Below w.heap.size w k1.drew := hbk1.drew
  refine wp_region_noPanic ?_
  refine wp_region_held_drew (S := fun W => True) (by kernel_rfl) ?_ (fun hHeld => ?_)
  · exact trivial
  generalize k1.drew = k2 at *
  have hbk2 := hbk1
  refine wpAnyH_take (i := 0) (oi := { dst := some 24, op := Op.move (Operand.tmp 0), type := 22, pos := "conf.go:77", after := #[], guard := none }) (v := .slice (some ⟨g, o, none⟩) (i + 1) (i + 1)) rfl (by kernel_rfl) (by kernel_rfl) (by kernel_rfl) (fun _ _ _ h => h) (Or.inl ⟨by rfl, fun w hSw => ?_⟩) (by assumption) ?_
  · (try dsimp only at hSw)
    go_simp
  try simp only [Act.put, List.setIfInBounds_toArray, List.set_cons_zero, List.set_cons_succ]
  refine wpAnyH_take (i := 1) (oi := { dst := some 25, op := Op.move (Operand.tmp 6), type := 3, pos := "conf.go:77", after := #[], guard := none }) (v := .int .i64 i) rfl (by kernel_rfl) (by kernel_rfl) (by kernel_rfl) (fun _ _ _ h => h) (Or.inl ⟨by rfl, fun w hSw => ?_⟩) (by assumption) ?_
  · (try dsimp only at hSw)
    go_simp
  try simp only [Act.put, List.setIfInBounds_toArray, List.set_cons_zero, List.set_cons_succ]
  refine wpAnyH_take (i := 2) (oi := { dst := some 26, op := Op.slice 22 (Operand.tmp 24) none (some (Operand.tmp 25)) none, type := 22, pos := "conf.go:77", after := #[{ on := 0, ground := Ground.data }, { on := 1, ground := Ground.data }], guard := none }) (v := .slice (some ⟨g, o, none⟩) i (i + 1)) rfl (by kernel_rfl) (by kernel_rfl) (by kernel_rfl) (fun _ _ _ h => h) (Or.inl ⟨by rfl, fun w hSw => ?_⟩) (by assumption) ?_
  · (try dsimp only at hSw)
    go_simp
  try simp only [Act.put, List.setIfInBounds_toArray, List.set_cons_zero, List.set_cons_succ]
  refine wpAnyH_take (i := 3) (oi := { dst := some 27, op := Op.move (Operand.tmp 0), type := 22, pos := "conf.go:77", after := #[], guard := none }) (v := .slice (some ⟨g, o, none⟩) (i + 1) (i + 1)) rfl (by kernel_rfl) (by kernel_rfl) (by kernel_rfl) (fun _ _ _ h => h) (Or.inl ⟨by rfl, fun w hSw => ?_⟩) (by assumption) ?_
  · (try dsimp only at hSw)
    go_simp
  try simp only [Act.put, List.setIfInBounds_toArray, List.set_cons_zero, List.set_cons_succ]
  refine wpAnyH_take (i := 4) (oi := { dst := some 28, op := Op.move (Operand.tmp 6), type := 3, pos := "conf.go:77", after := #[], guard := none }) (v := .int .i64 i) rfl (by kernel_rfl) (by kernel_rfl) (by kernel_rfl) (fun _ _ _ h => h) (Or.inl ⟨by rfl, fun w hSw => ?_⟩) (by assumption) ?_
  · (try dsimp only at hSw)
    go_simp
  try simp only [Act.put, List.setIfInBounds_toArray, List.set_cons_zero, List.set_cons_succ]
  refine wpAnyH_take (i := 5) (oi := { dst := some 29, op := Op.binOp BinOp.add 3 (Operand.tmp 28) (Operand.const (Value.int IntKind.i64 1)) 3, type := 3, pos := "conf.go:77", after := #[{ on := 4, ground := Ground.data }], guard := none }) (v := .int .i64 ((i : Int) + 1)) rfl (by kernel_rfl) (by kernel_rfl) (by kernel_rfl) (fun _ _ _ h => h) (Or.inl ⟨by rfl, fun w hSw => ?_⟩) (by assumption) ?_
  · (try dsimp only at hSw)
    go_simp
  try simp only [Act.put, List.setIfInBounds_toArray, List.set_cons_zero, List.set_cons_succ]
  refine wpAnyH_take (i := 6) (oi := { dst := some 30, op := Op.slice 22 (Operand.tmp 27) (some (Operand.tmp 29)) none none, type := 22, pos := "conf.go:77", after := #[{ on := 3, ground := Ground.data }, { on := 5, ground := Ground.data }], guard := none }) (v := .slice (some ⟨g, o, none⟩) 0 0) rfl (by kernel_rfl) (by kernel_rfl) (by kernel_rfl) (fun _ _ _ h => h) (Or.inl ⟨by rfl, fun w hSw => ?_⟩) (by assumption) ?_
  · (try dsimp only at hSw)
    go_simp
  try simp only [Act.put, List.setIfInBounds_toArray, List.set_cons_zero, List.set_cons_succ]
  refine wpAnyH_ready (rs := [7]) (by kernel_rfl) (by simp) ?_
  refine AllReadyH.cons (o := { dst := some 31, op := Op.buildSlice 53 2 #[(0, Operand.tmp 26), (1, Operand.tmp 30)], type := 53, pos := "conf.go:77", after := #[{ on := 2, ground := Ground.data }, { on := 6, ground := Ground.data }], guard := none }) rfl (fun K hK => ?_) AllReadyH.nil
  go_simp
  refine hK.out _ _ ?_ (fun hHeld => ?_)
  · exact trivial
  clear hK K
  try simp only [Act.put, List.setIfInBounds_toArray, List.set_cons_zero, List.set_cons_succ]
  obtain ⟨k4, hk4⟩ : ∃ k, k2.alloc (.cells #[.slice (some ⟨g, o, none⟩) i (i + 1), .slice (some ⟨g, o, none⟩) 0 0] 22) = k := ⟨_, rfl⟩
  rw [hk4]
  have hbk4 : Below k2.heap.size k2 k4 := by rw [← hk4]; exact below_new12 _ _
  have hzk4 : k4.heap.size = k2.heap.size + 1 := by rw [← hk4]; simp
  have hs4 : Sls k4 (k2.heap.size + 1) (.slice (some ⟨k2.heap.size, 0, none⟩) 2 2) [.slice (some ⟨g, o, none⟩) i (i + 1), .slice (some ⟨g, o, none⟩) 0 0] := by rw [← hk4]; exact sls_new k2 _ _
  have hbw4 : Below w.heap.size w k4 := hbk2.trans (hbk4.mono hbk2.size)
  have hj1 : Ints k4 (k2.heap.size + 1) (.slice (some ⟨g, o, none⟩) i (i + 1)) (L.take i) := ((HIT.out.keep (Below.refl _ _) (Nat.le_refl _)).keep hbw4 hB).more (by have := hbw4.size; have := hbk2.size; omega)
  have hj3 : Ints k4 (k2.heap.size + 1) (.slice (some ⟨g, o, none⟩) 0 0) (L.drop (i + 1)) := ((HID.out.keep (Below.refl _ _) (Nat.le_refl _)).keep hbw4 hB).more (by have := hbw4.size; have := hbk2.size; omega)
  have hil : Ilss k4 (k2.heap.size + 1) [.slice (some ⟨g, o, none⟩) i (i + 1), .slice (some ⟨g, o, none⟩) 0 0] [L.take i, L.drop (i + 1)] := ⟨rfl, fun k hk _ => by
    match k, hk with
    | 0, _ => exact hj1
    | 1, _ => exact hj3
  ⟩
  have hcc := concat12_w _ 2 2 (k2.heap.size + 1) _ _ k4 hs4 rfl hil (by rw [hzk4]; exact Nat.le_refl _) (by rw [HFL.out]; exact HFP.out) (by rw [HFL.out]; exact HFM.out) (by decide)
  rw [HFL.out] at hcc

  clear hs4 hil hj1 hj3  hk4
  refine wpAnyH_ready (rs := [8]) (by kernel_rfl) (by simp) ?_
  refine AllReadyH.cons (o := { dst := some 32, op := Op.call { callee := Callee.value (Operand.func 27), args := #[Operand.tmp 31], argTypes := #[53] }, type := 22, pos := "conf.go:77", after := #[{ on := 7, ground := Ground.data }], guard := none }) rfl (fun K hK => ?_) AllReadyH.nil
  go_simp
  go_at_call 27
  refine hcc.mono ?_
  rintro e k5 ⟨v5, rfl, ho5, hb5⟩
  obtain ⟨A5, c5, rfl⟩ := ho5.slice
  refine hK.out _ _ ?_ (fun hHeld => ?_)
  · exact trivial
  clear hK K
  try simp only [Act.put, List.setIfInBounds_toArray, List.set_cons_zero, List.set_cons_succ]
  obtain ⟨m5, hm5⟩ : ∃ m5, R.length = m5 := ⟨_, rfl⟩
  rw [hm5] at ho5 ⊢
  have HO5 := Lib.hid ho5
  have HM5 := Lib.hid hm5
  have HB5 := Lib.hid (hbw4.trans (hb5.mono hbw4.size))
  clear ho5 hm5 hb5 hcc
  refine wpAnyH_take (i := 9) (oi := { dst := some 4, op := Op.assign (Operand.tmp 32), type := 22, pos := "conf.go:77", after := #[{ on := 8, ground := Ground.data }, { on := 8, ground := Ground.chain }, { on := 0, ground := Ground.phase }, { on := 1, ground := Ground.phase }, { on := 2, ground := Ground.phase }, { on := 3, ground := Ground.phase }, { on := 4, ground := Ground.phase }, { on := 5, ground := Ground.phase }, { on := 6, ground := Ground.phase }, { on := 7, ground := Ground.phase }, { on := 8, ground := Ground.phase }], guard := none }) (v := .slice A5 m5 c5) rfl (by kernel_rfl) (by kernel_rfl) (by kernel_rfl) (fun _ _ _ h => h) (Or.inl ⟨by rfl, fun w hSw => ?_⟩) (by assumption) ?_
  · (try dsimp only at hSw)
    go_simp
  try simp only [Act.put, List.setIfInBounds_toArray, List.set_cons_zero, List.set_cons_succ]
  refine wpAnyH_take (i := 10) (oi := { dst := some 5, op := Op.assign (Operand.const (Value.bool true)), type := 4, pos := "conf.go:77", after := #[{ on := 9, ground := Ground.chain }, { on := 0, ground := Ground.phase }, { on := 1, ground := Ground.phase }, { on := 2, ground := Ground.phase }, { on := 3, ground := Ground.phase }, { on := 4, ground := Ground.phase }, { on := 5, ground := Ground.phase }, { on := 6, ground := Ground.phase }, { on := 7, ground := Ground.phase }, { on := 8, ground := Ground.phase }, { on := 9, ground := Ground.phase }], guard := none }) (v := .bool true) rfl (by kernel_rfl) (by kernel_rfl) (by kernel_rfl) (fun _ _ _ h => h) (Or.inl ⟨by rfl, fun w hSw => ?_⟩) (by assumption) ?_
  · (try dsimp only at hSw)
    go_simp
  try simp only [Act.put, List.setIfInBounds_toArray, List.set_cons_zero, List.set_cons_succ]
  refine wpAnyH_done (by kernel_rfl) ?_ _
  refine NoPanic.normal ?_
  go_wp2
  go_ret2
  refine ⟨HB5.out, A5, c5, ?_, ?_⟩
  · rw [HR.out, HM5.out]
    rfl
  · rw [HR.out]
    have h9 := HO5.out
    rw [← HM5.out] at h9
    exact Ints.of_own h9
end Go.Proofs.Ytbiecoifeeikpaa
