/-
  Package conf's Add and Remove at any list and any number.
  Lists have at most 1,000 servers.
-/
import Derived.Test.YtbiecoifeeikpaaC12Add
namespace Go.Proofs.Ytbiecoifeeikpaa
open Go.RowKit Go.Deep
set_option maxRecDepth 100000

theorem add12_none1 {L : List Int} {x : Int} (h : may12 L = false) : add12 L x = none := by unfold add12; rw [if_neg (fun e => by rw [h] at e; exact absurd e.1 (by decide))]
theorem add12_none2 {L : List Int} {x : Int} (h : may12 [x] = false) : add12 L x = none := by unfold add12; rw [if_neg (fun e => by rw [h] at e; exact absurd e.2.1 (by decide))]
theorem add12_none3 {L : List Int} {x : Int} (h : L.contains x = true) : add12 L x = none := by unfold add12; rw [if_neg (fun e => by rw [h] at e; exact absurd e.2.2 (by decide))]
theorem add12_some {L : List Int} {x : Int} (h : may12 L = true) (h2 : may12 [x] = true) (h3 : L.contains x = false) : add12 L x = some (ins12 L x) := by unfold add12; rw [if_pos ⟨h, h2, h3⟩]
theorem rem12_none1 {L : List Int} {x : Int} (h : may12 L = false) : rem12 L x = none := by unfold rem12; rw [if_neg (fun e => by rw [h] at e; exact absurd e.1 (by decide))]
theorem rem12_none2 {L : List Int} {x : Int} (h : L.length = 1) : rem12 L x = none := by unfold rem12; rw [if_neg (fun e => e.2.1 h)]
theorem rem12_none3 {L : List Int} {x : Int} (h : L.contains x = false) : rem12 L x = none := by unfold rem12; rw [if_neg (fun e => by rw [h] at e; exact absurd e.2.2 (by decide))]
theorem rem12_some {L : List Int} {x : Int} (h : may12 L = true) (h2 : ¬ L.length = 1) (h3 : L.contains x = true) : rem12 L x = some (del12 L x) := by unfold rem12; rw [if_pos ⟨h, h2, h3⟩]
set_option maxHeartbeats 1000000 in
theorem add12_w (A : Option Addr) (c B : Nat) (L : List Int) (x : Int) (w : World) (h : Ints w B (.slice A L.length c) L) (hB : B ≤ w.heap.size) (hl : L.length ≤ 1000) :
    Calls Try.prog 10 #[.slice A L.length c, .int .i64 x] w (Dec12 (add12 L x) w) := by
  have m1 := may12_w A c B L w h hl
  cases hb : may12 L with
  | false =>
    rw [add12_none1 hb]
    rw [hb] at m1
    obtain ⟨n, hn⟩ : ∃ n, L.length = n := ⟨_, rfl⟩
    rw [hn] at m1 ⊢
    clear h hl hb hn
    go_enter Try.func10, Try.ntmps10
    go_wp2_with fail
    refine m1.mono ?_
    rintro e w' ⟨rfl, rfl⟩
    go_wp2
    go_ret2
    exact ⟨Below.refl _ _, rfl⟩
  | true =>
    rw [hb] at m1
    obtain ⟨W1, hW1⟩ : ∃ W1, w.alloc (.cells #[.int .i64 x] 3) = W1 := ⟨_, rfl⟩
    have hi1 : Ints W1 (w.heap.size + 1) (.slice (some ⟨w.heap.size, 0, none⟩) [x].length [x].length) [x] := by rw [← hW1]; exact ints_new w _ _ [x] rfl
    have m2 := may12_w _ _ _ [x] W1 hi1 (by simp)
    have hb1 : Below w.heap.size w W1 := by rw [← hW1]; exact below_new12 w _
    cases hx : may12 [x] with
    | false =>
      rw [add12_none2 hx]
      rw [hx] at m2
      obtain ⟨n, hn⟩ : ∃ n, L.length = n := ⟨_, rfl⟩
      rw [hn] at m1 ⊢
      have HB1 := Lib.hid hb1
      clear h hl hb hx hn hi1 hb1
      go_enter Try.func10, Try.ntmps10
      go_wp2_with fail
      refine m1.mono ?_
      rintro e w' ⟨rfl, rfl⟩
      go_wp2_with fail
      refine m2.mono ?_
      rintro e w' ⟨rfl, rfl⟩
      go_wp2
      go_ret2
      exact ⟨HB1.out, rfl⟩
    | true =>
      rw [hx] at m2
      cases hc : L.contains x with
      | true =>
        rw [add12_none3 hc]
        have b1 := bsearch12_w _ c B L x W1 (h.keep hb1 hB) hl (may12_sorted hb)
        rw [hc] at b1
        have hcl : L.countP (· < x) ≤ L.length := List.countP_le_length
        obtain ⟨i, hi⟩ : ∃ i, L.countP (· < x) = i := ⟨_, rfl⟩
        rw [hi] at b1
        obtain ⟨n, hn⟩ : ∃ n, L.length = n := ⟨_, rfl⟩
        rw [hn] at m1 b1 ⊢
        have HB1 := Lib.hid hb1
        clear h hl hb hx hn hi1 hb1 hi hc hcl
        go_enter Try.func10, Try.ntmps10
        go_wp2_with fail
        refine m1.mono ?_
        rintro e w' ⟨rfl, rfl⟩
        go_wp2_with fail
        refine m2.mono ?_
        rintro e w' ⟨rfl, rfl⟩
        go_wp2_with fail
        refine b1.mono ?_
        rintro e w' ⟨rfl, q, rfl⟩
        go_wp2
        go_ret2
        exact ⟨below_drewN HB1.out q, rfl⟩
      | false =>
        rw [add12_some hb hx hc]
        obtain ⟨g, o, rfl, _, _⟩ := h.at_ 0 (may12_pos hb)
        by_cases hci : c = L.countP (· < x)
        · exact add12_at g o c B L x w h hB hb hx hc hci
        · exact add12_in g o c B L x w h hB hb hx hc hci
set_option maxHeartbeats 1000000 in
theorem rem12_w (A : Option Addr) (c B : Nat) (L : List Int) (x : Int) (w : World) (h : Ints w B (.slice A L.length c) L) (hB : B ≤ w.heap.size) (hl : L.length ≤ 1000) :
    Calls Try.prog 12 #[.slice A L.length c, .int .i64 x] w (Dec12 (rem12 L x) w) := by
  have m1 := may12_w A c B L w h hl
  cases hb : may12 L with
  | false =>
    rw [rem12_none1 hb]
    rw [hb] at m1
    obtain ⟨n, hn⟩ : ∃ n, L.length = n := ⟨_, rfl⟩
    rw [hn] at m1 ⊢
    clear h hl hb hn
    go_enter Try.func12, Try.ntmps12
    go_wp2_with fail
    refine m1.mono ?_
    rintro e w' ⟨rfl, rfl⟩
    go_wp2
    go_ret2
    exact ⟨Below.refl _ _, rfl⟩
  | true =>
    rw [hb] at m1
    by_cases h1 : L.length = 1
    · rw [rem12_none2 h1]
      rw [h1] at m1 ⊢
      clear h hl hb h1
      go_enter Try.func12, Try.ntmps12
      go_wp2_with fail
      refine m1.mono ?_
      rintro e w' ⟨rfl, rfl⟩
      go_wp2
      go_ret2
      exact ⟨Below.refl _ _, rfl⟩
    · cases hc : L.contains x with
      | false =>
        rw [rem12_none3 hc]
        have b1 := bsearch12_w _ c B L x w h hl (may12_sorted hb)
        rw [hc] at b1
        obtain ⟨i, hi⟩ : ∃ i, L.countP (· < x) = i := ⟨_, rfl⟩
        rw [hi] at b1
        obtain ⟨n, hn⟩ : ∃ n, L.length = n := ⟨_, rfl⟩
        rw [hn] at m1 b1 h1 ⊢
        have h2 : ¬ (n : Int) = 1 := by omega
        have h3 : ((n : Int) == 1) = false := by simp [h2]
        clear h hl hb hn hi hc
        go_enter Try.func12, Try.ntmps12
        go_wp2_with fail
        refine m1.mono ?_
        rintro e w' ⟨rfl, rfl⟩
        go_wp2_with fail
        refine b1.mono ?_
        rintro e w' ⟨rfl, q, rfl⟩
        go_wp2
        go_ret2
        exact ⟨below_drewN (Below.refl _ _) q, rfl⟩
      | true =>
        rw [rem12_some hb h1 hc]
        obtain ⟨g, o, rfl, _, _⟩ := h.at_ 0 (may12_pos hb)
        by_cases hci : c = L.countP (· < x) + 1
        · exact rem12_at g o c B L x w h hB hb h1 hc hci
        · exact rem12_in g o c B L x w h hB hb h1 hc hci
end Go.Proofs.Ytbiecoifeeikpaa
