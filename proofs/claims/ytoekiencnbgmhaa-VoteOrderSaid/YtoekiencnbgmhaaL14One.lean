/-
  A server of the law's votes; what was said in whatever order.
  The servers are at most seven.
-/
import Derived.Test.YtoekiencnbgmhaaV14Begun
import Derived.Test.YtoekiencnbgmhaaL14Open
namespace Go.Proofs.Ytoekiencnbgmhaa
open Go.RowKit Go.Deep
set_option maxRecDepth 100000

/-- what the server i + 1 says -/
def word14 (Y : List Bool) (i : Nat) : Int := if Y.getD i false = true then 1 else 2
theorem word14_yes {Y : List Bool} {i : Nat} (h : Y.getD i false = true) : word14 Y i = 1 := by unfold word14; rw [if_pos h]
theorem word14_no {Y : List Bool} {i : Nat} (h : Y.getD i false = false) : word14 Y i = 2 := by unfold word14; rw [h]; rfl
set_option maxHeartbeats 1000000 in
theorem one14_any {B : Nat} {w : World} {g : Nat} {v : Value} {L : List Int} {s : Int → Int} (h : VB B w g v L s) {A : Option Addr} {c n C : Nat} {Y : List Bool} (hY : Bls w C (.slice A n c) Y) (hn : Y.length = n) (i : Nat) (hi : i < 1000) :
    Calls Try.prog 36 #[.pointer (some ⟨g, 0, none⟩), .int .i64 i, .slice A n c] w fun e w' => (∃ u, e = .returned u) ∧ VB B w' g v L (take14 L s ((i : Int) + 1) (word14 Y i)) ∧ w.grownBy w' (some g) ∧ Below B w w' := by
  have hy := vyes_n (b := takes14 L s ((i : Int) + 1)) h ((i : Int) + 1) rfl rfl
  have hn' := vno_n (b := takes14 L s ((i : Int) + 1)) h ((i : Int) + 1) rfl rfl
  have hwr : IntKind.i64.wrap ((i : Int) + 1) = (i : Int) + 1 := by rw [IntKind.wrap_i64]; omega
  by_cases hlt : i < n
  · obtain ⟨ga, o, rfl, _, hc⟩ := hY.at_ i (by rw [hn]; exact hlt)
    have hg : Y.getD i false = Y[i]'(by rw [hn]; exact hlt) := by rw [List.getD_eq_getElem?_getD, List.getElem?_eq_getElem (by rw [hn]; exact hlt)]; rfl
    obtain ⟨b, hb⟩ : ∃ b, Y[i]'(by rw [hn]; exact hlt) = b := ⟨_, rfl⟩
    rw [hb] at hg hc
    have hlti : (i : Int) < n := by omega
    cases b with
    | true =>
      rw [word14_yes hg]
      have HY := Lib.hid hy
      clear hy hn' hY hb hg h hn
      go_enter Try.func36, Try.ntmps36
      go_wp2_with fail
      refine HY.out.mono ?_
      rintro e w' ⟨rfl, h1, h2, h3⟩
      go_wp2
      go_end0
      exact ⟨⟨_, rfl⟩, h1, h2, h3⟩
    | false =>
      rw [word14_no hg]
      have HY := Lib.hid hn'
      clear hy hn' hY hb hg h hn
      go_enter Try.func36, Try.ntmps36
      go_wp2_with fail
      refine HY.out.mono ?_
      rintro e w' ⟨rfl, h1, h2, h3⟩
      go_wp2
      go_end0
      exact ⟨⟨_, rfl⟩, h1, h2, h3⟩
  · have hg : Y.getD i false = false := by rw [List.getD_eq_getElem?_getD, List.getElem?_eq_none (by rw [hn]; omega)]; rfl
    have hlti : ¬ (i : Int) < n := by omega
    rw [word14_no hg]
    have HY := Lib.hid hn'
    clear hy hn' hY hg h hn
    go_enter Try.func36, Try.ntmps36
    go_wp2_with fail
    refine HY.out.mono ?_
    rintro e w' ⟨rfl, h1, h2, h3⟩
    go_wp2
    go_end0
    exact ⟨⟨_, rfl⟩, h1, h2, h3⟩
/-- servers 1 to n -/
def upto14 (n : Nat) : List Int := (List.range n).map fun k : Nat => (k : Int) + 1
theorem upto14_len (n : Nat) : (upto14 n).length = n := by unfold upto14; simp
theorem upto14_succ (n : Nat) : upto14 (n + 1) = upto14 n ++ [(n : Int) + 1] := by unfold upto14; rw [List.range_succ, List.map_append]; rfl
theorem upto14_mem {n : Nat} {x : Int} : x ∈ upto14 n ↔ 1 ≤ x ∧ x ≤ n := by
  unfold upto14
  rw [List.mem_map]
  constructor
  · rintro ⟨k, hk, rfl⟩
    have := List.mem_range.1 hk
    omega
  · rintro ⟨h1, h2⟩
    exact ⟨(x - 1).toNat, List.mem_range.2 (by omega), by omega⟩
theorem upto14_may {n : Nat} (h1 : 1 ≤ n) (h7 : n ≤ 7) : may12 (upto14 n) = true := by
  have : n = 1 ∨ n = 2 ∨ n = 3 ∨ n = 4 ∨ n = 5 ∨ n = 6 ∨ n = 7 := by omega
  rcases this with rfl | rfl | rfl | rfl | rfl | rfl | rfl <;> decide +kernel
/-- what has been said is nothing, or the server's own word -/
def Told14 (Y : List Bool) (s : Int → Int) : Prop := ∀ i : Nat, s ((i : Int) + 1) = 0 ∨ s ((i : Int) + 1) = word14 Y i
theorem Told14.zero (Y : List Bool) : Told14 Y fun _ => 0 := fun _ => .inl rfl
theorem word14_ne (Y : List Bool) (i : Nat) : word14 Y i ≠ 0 := by unfold word14; split <;> decide
theorem Told14.take {Y : List Bool} {s : Int → Int} (h : Told14 Y s) (L : List Int) (i : Nat) : Told14 Y (take14 L s ((i : Int) + 1) (word14 Y i)) := by
  intro j
  unfold take14
  split
  · by_cases e : j = i
    · subst e; rw [upd14_same]; exact .inr rfl
    · rw [upd14_other s _ (by omega)]; exact h j
  · exact h j
theorem Told14.has {Y : List Bool} {s : Int → Int} (h : Told14 Y s) {L : List Int} {i : Nat} (hi : ((i : Int) + 1) ∈ L) : take14 L s ((i : Int) + 1) (word14 Y i) ((i : Int) + 1) = word14 Y i := by
  rcases h i with h0 | h0
  · rw [take14_do _ (takes14_yes (by simpa using hi) h0), upd14_same]
  · rw [take14_not _ (takes14_no2 (by rw [h0]; exact word14_ne Y i)), h0]
theorem Told14.keep {Y : List Bool} {s : Int → Int} (h : Told14 Y s) {L : List Int} {i j : Nat} (hj : s ((j : Int) + 1) = word14 Y j) : take14 L s ((i : Int) + 1) (word14 Y i) ((j : Int) + 1) = word14 Y j := by
  unfold take14
  split
  · by_cases e : j = i
    · subst e; rw [upd14_same]
    · rw [upd14_other s _ (by omega)]; exact hj
  · exact hj
/-- how many say yes -/
def yes14 (Y : List Bool) (n : Nat) : Nat := (List.range n).countP fun i => Y.getD i false
theorem yes14_succ (Y : List Bool) (n : Nat) : yes14 Y (n + 1) = yes14 Y n + if Y.getD n false = true then 1 else 0 := by
  unfold yes14; rw [List.range_succ, List.countP_append, List.countP_singleton]
theorem yes14_le (Y : List Bool) (n : Nat) : yes14 Y n ≤ n := by unfold yes14; exact Nat.le_trans List.countP_le_length (by simp)
theorem yes14_end (Y : List Bool) {j : Nat} (h : Y.length ≤ j) : ∀ d, yes14 Y (j + d) = yes14 Y j
  | 0 => rfl
  | d + 1 => by
    rw [show j + (d + 1) = (j + d) + 1 by omega, yes14_succ, yes14_end Y h d, List.getD_eq_getElem?_getD, List.getElem?_eq_none (by omega)]
    rfl
theorem told14_counts {Y : List Bool} {s : Int → Int} {n : Nat} (h : ∀ j, j < n → s ((j : Int) + 1) = word14 Y j) :
    (upto14 n).countP (fun i => decide (s i = 1)) = yes14 Y n ∧ (upto14 n).countP (fun i => decide (s i = 1) || decide (s i = 0)) = yes14 Y n := by
  induction n with
  | zero => exact ⟨rfl, rfl⟩
  | succ n ih =>
    obtain ⟨h1, h2⟩ := ih fun j hj => h j (by omega)
    rw [upto14_succ, List.countP_append, List.countP_append, h1, h2, yes14_succ, List.countP_singleton, List.countP_singleton, h n (by omega)]
    unfold word14
    cases Y.getD n false <;> exact ⟨rfl, rfl⟩
theorem told14_won {Y : List Bool} {s : Int → Int} {n : Nat} (h : ∀ j, j < n → s ((j : Int) + 1) = word14 Y j) : won14 (upto14 n) s = decide (n < 2 * yes14 Y n) := by
  unfold won14
  rw [(told14_counts h).1, upto14_len]
  congr 1
  rw [eq_iff_iff]
  omega
theorem told14_lost {Y : List Bool} {s : Int → Int} {n : Nat} (hn : 1 ≤ n) (h : ∀ j, j < n → s ((j : Int) + 1) = word14 Y j) : lost14 (upto14 n) s = !decide (n < 2 * yes14 Y n) := by
  have hne : upto14 n ≠ [] := fun e => by have := upto14_len n; rw [e] at this; exact absurd this (by simp; omega)
  unfold lost14
  rw [(told14_counts h).2, upto14_len, decide_eq_true hne, Bool.true_and]
  congr 2
  rw [eq_iff_iff]
  omega
/-- each place comes up -/
theorem turn14 {n t j : Nat} (hn : 0 < n) (ht : t < n) (hj : j < n) : ∃ i, i < n ∧ (i + t) % n = j := by
  refine ⟨(j + (n - t)) % n, Nat.mod_lt _ hn, ?_⟩
  rw [Nat.mod_add_mod, show j + (n - t) + t = j + n by omega, Nat.add_mod_right, Nat.mod_eq_of_lt hj]
end Go.Proofs.Ytoekiencnbgmhaa
