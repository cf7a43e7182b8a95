/-
  Package conf's Add and Remove make what the plain functions say.
  Lists have at most 1,000 servers.
-/
import Derived.Test.YtoekiencnbgmhaaC12Cat
import Derived.Test.YtoekiencnbgmhaaC12Code
import Derived.Deep.RegionHeld3
import Derived.IntWalk
import Derived.WalkSmall
set_option linter.unusedSimpArgs false
set_option linter.unusedVariables false
namespace Go.Proofs.Ytoekiencnbgmhaa
open Go.RowKit Go.Deep
set_option maxRecDepth 100000

/-- slices.BinarySearch at a list that may be -/
theorem bsearch12_w (A : Option Addr) (c B : Nat) (L : List Int) (x : Int) (w : World) (h : Ints w B (.slice A L.length c) L) (hl : L.length ≤ 1000) (hs : L.Pairwise (· ≤ ·)) :
    Calls Try.prog 72 #[.slice A L.length c, .int .i64 x] w fun e w' => e = .returned (.tuple #[.int .i64 (L.countP (· < x) : Nat), .bool (L.contains x)]) ∧ ∃ q, w' = w.drewN q := by
  by_cases h0 : 0 < L.length
  · obtain ⟨g, o, rfl, _, _⟩ := h.at_ 0 h0
    have := Try.slices_BinarySearch_int g o L.length c L x w (Nat.le_refl _) (by omega) (fun j hj => by
      obtain ⟨g', o', e, _, hc⟩ := h.at_ j hj
      injection e with e; injection e with e1 e2; subst e1; subst e2
      rw [hc]; simp [hj]) (by rw [List.take_length]; exact hs)
    rw [List.take_length] at this
    exact this
  · have h1 : L = [] := List.eq_nil_of_length_eq_zero (by omega)
    subst h1
    refine (Try.slices_BinarySearch_int_empty A c x w).mono ?_
    rintro e w' ⟨rfl, rfl⟩
    exact ⟨rfl, 0, rfl⟩
theorem below_drewN12 (w : World) (q : Nat) : Below w.heap.size w (w.drewN q) := below_drewN (Below.refl _ w) q
theorem Ints.len12 {w : World} {B n c : Nat} {A : Option Addr} {l : List Int} (h : Ints w B (.slice A n c) l) : n = l.length := h.cap.1
theorem countP_contains12 {L : List Int} {x : Int} (h : L.contains x = true) : L.countP (· < x) + 1 ≤ L.length := by
  have h1 : 0 < L.countP (fun y => !decide (y < x)) := List.countP_pos_iff.2 ⟨x, by simpa using h, by simp⟩
  have h2 := List.length_eq_countP_add_countP (fun y => decide (y < x)) (l := L)
  have h3 : L.countP (fun y => !decide (y < x)) = L.countP (fun y => decide ¬ decide (y < x) = true) := by
    congr 1; funext y; by_cases h : y < x <;> simp [h]
  omega
end Go.Proofs.Ytoekiencnbgmhaa
