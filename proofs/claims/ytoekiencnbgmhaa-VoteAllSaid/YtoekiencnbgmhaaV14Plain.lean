/-
  Votes, by themselves: what was said, how many said it, who has won, who has lost.
  There is no program here.
-/
import Derived.Test.YtoekiencnbgmhaaC12Plain
namespace Go.Proofs.Ytoekiencnbgmhaa
set_option maxRecDepth 100000

/-- what was said, once i has said x -/
def upd14 (s : Int → Int) (i x : Int) : Int → Int := fun j => if j = i then x else s j
theorem upd14_same (s : Int → Int) (i x : Int) : upd14 s i x i = x := by unfold upd14; rw [if_pos rfl]
theorem upd14_other (s : Int → Int) {i j : Int} (x : Int) (h : j ≠ i) : upd14 s i x j = s j := by unfold upd14; rw [if_neg h]
/-- more than half said yes -/
def won14 (L : List Int) (s : Int → Int) : Bool := decide (L.length / 2 < L.countP fun i => decide (s i = 1))
/-- it can't be won any more -/
def lost14 (L : List Int) (s : Int → Int) : Bool := decide (L ≠ []) && !decide (L.length / 2 < L.countP fun i => decide (s i = 1) || decide (s i = 0))
/-- does it count? -/
def takes14 (L : List Int) (s : Int → Int) (i : Int) : Bool := L.contains i && decide (s i = 0)
/-- and what was said then -/
def take14 (L : List Int) (s : Int → Int) (i x : Int) : Int → Int := if takes14 L s i = true then upd14 s i x else s
theorem maj_of14 {L M : List Int} {q : Int → Bool} (h : ∀ x ∈ L, M.contains x = q x) : maj12 L M = decide (L.length / 2 < L.countP q) := by
  unfold maj12
  rw [List.countP_congr (fun x hx => by rw [h x hx])]
theorem filter_contains14 {L : List Int} {q : Int → Bool} {x : Int} (hx : x ∈ L) : (L.filter q).contains x = q x := by
  rw [Bool.eq_iff_iff, List.contains_iff_mem, List.mem_filter]
  exact ⟨fun h => h.2, fun h => ⟨hx, h⟩⟩
theorem won_maj14 (L : List Int) (s : Int → Int) : maj12 L (L.filter fun i => decide (s i = 1)) = won14 L s := maj_of14 fun _ hx => filter_contains14 hx
theorem lost_maj14 (L : List Int) (s : Int → Int) : maj12 L ((L.filter fun i => decide (s i = 1)) ++ L.filter fun i => decide (s i = 0)) = decide (L.length / 2 < L.countP fun i => decide (s i = 1) || decide (s i = 0)) :=
  maj_of14 fun x hx => by
    have h1 := filter_contains14 (q := fun i => decide (s i = 1)) hx
    have h2 := filter_contains14 (q := fun i => decide (s i = 0)) hx
    rw [Bool.eq_iff_iff, List.contains_iff_mem] at h1 h2 ⊢
    rw [List.mem_append, h1, h2, Bool.or_eq_true]
theorem countP_upd14 {L : List Int} (hn : L.Nodup) {i : Int} (hi : i ∈ L) (s : Int → Int) (x : Int) (q : Int → Bool) (h0 : q (s i) = false) (h1 : q x = true) :
    (L.countP fun j => q (upd14 s i x j)) = (L.countP fun j => q (s j)) + 1 := by
  induction L with
  | nil => cases hi
  | cons y t ih =>
    rw [List.nodup_cons] at hn
    rw [List.countP_cons, List.countP_cons]
    by_cases e : y = i
    · subst e
      rw [upd14_same, h1, h0]
      rw [List.countP_congr (fun z hz => by rw [upd14_other s x (fun h => hn.1 (by rw [← h]; exact hz))])]
      simp
    · rw [upd14_other s x e, ih hn.2 (by rcases List.mem_cons.1 hi with h | h; · exact absurd h.symm e
                                         · exact h)]
      omega
theorem countP_same14 {L : List Int} {i : Int} (s : Int → Int) (x : Int) (q : Int → Bool) (h0 : q (s i) = false) (h1 : q x = false) :
    (L.countP fun j => q (upd14 s i x j)) = L.countP fun j => q (s j) := by
  refine List.countP_congr fun z _ => ?_
  by_cases e : z = i
  · subst e; rw [upd14_same, h0, h1]
  · rw [upd14_other s x e]
theorem countP_split14 (L : List Int) (s : Int → Int) (hs : ∀ i, s i = 0 ∨ s i = 1 ∨ s i = 2) :
    (L.countP fun i => decide (s i = 1) || decide (s i = 0)) + (L.countP fun i => decide (s i = 2)) = L.length := by
  induction L with
  | nil => rfl
  | cons y t ih =>
    rw [List.countP_cons, List.countP_cons, List.length_cons]
    rcases hs y with h | h | h <;> simp [h] <;> omega
/-- what stands of a law's lists: who said yes, who said no -/
structure VR (L : List Int) (s : Int → Int) (Y N : List Int) : Prop where
  word : ∀ i, s i = 0 ∨ s i = 1 ∨ s i = 2
  yes : ∀ i, Y.contains i = decide (s i = 1)
  no : ∀ i, N.contains i = decide (s i = 2)
  len : N.length = L.countP fun i => decide (s i = 2)
theorem VR.zero (L : List Int) : VR L (fun _ => 0) [] [] :=
  ⟨fun _ => .inl rfl, fun _ => rfl, fun _ => rfl, by induction L with
    | nil => rfl
    | cons y t ih => rw [List.countP_cons, ← ih]; rfl⟩
theorem VR.takes {L : List Int} {s : Int → Int} {Y N : List Int} (h : VR L s Y N) (i : Int) : takes14 L s i = (L.contains i && !Y.contains i && !N.contains i) := by
  unfold takes14
  rw [h.yes, h.no]
  rcases h.word i with e | e | e <;> simp [e]
theorem mem_of_takes14 {L : List Int} {s : Int → Int} {i : Int} (h : takes14 L s i = true) : i ∈ L ∧ s i = 0 := by
  unfold takes14 at h
  rw [Bool.and_eq_true, List.contains_iff_mem, decide_eq_true_eq] at h
  exact h
theorem VR.add_yes {L : List Int} {s : Int → Int} {Y N : List Int} (h : VR L s Y N) {i : Int} (ht : takes14 L s i = true) : VR L (take14 L s i 1) (Y ++ [i]) N := by
  obtain ⟨_, h0⟩ := mem_of_takes14 ht
  unfold take14
  rw [if_pos ht]
  refine ⟨fun j => ?_, fun j => ?_, fun j => ?_, ?_⟩
  · by_cases e : j = i
    · subst e; rw [upd14_same]; exact .inr (.inl rfl)
    · rw [upd14_other s 1 e]; exact h.word j
  · by_cases e : j = i
    · subst e; rw [upd14_same]; simp
    · rw [upd14_other s 1 e, ← h.yes j]; simp [e]
  · by_cases e : j = i
    · subst e; rw [upd14_same, h.no, h0]; rfl
    · rw [upd14_other s 1 e, ← h.no j]
  · rw [h.len]; exact (countP_same14 s 1 (fun x => decide (x = 2)) (by rw [h0]; rfl) rfl).symm
theorem VR.add_no {L : List Int} {s : Int → Int} {Y N : List Int} (h : VR L s Y N) (hn : L.Nodup) {i : Int} (ht : takes14 L s i = true) : VR L (take14 L s i 2) Y (N ++ [i]) := by
  obtain ⟨hm, h0⟩ := mem_of_takes14 ht
  unfold take14
  rw [if_pos ht]
  refine ⟨fun j => ?_, fun j => ?_, fun j => ?_, ?_⟩
  · by_cases e : j = i
    · subst e; rw [upd14_same]; exact .inr (.inr rfl)
    · rw [upd14_other s 2 e]; exact h.word j
  · by_cases e : j = i
    · subst e; rw [upd14_same, h.yes, h0]; rfl
    · rw [upd14_other s 2 e, ← h.yes j]
  · by_cases e : j = i
    · subst e; rw [upd14_same]; simp
    · rw [upd14_other s 2 e, ← h.no j]; simp [e]
  · rw [List.length_append, h.len]; exact (countP_upd14 hn hm s 2 (fun x => decide (x = 2)) (by rw [h0]; rfl) rfl).symm
theorem VR.none {L : List Int} {s : Int → Int} {Y N : List Int} (h : VR L s Y N) {i x : Int} (ht : takes14 L s i = false) : VR L (take14 L s i x) Y N := by
  unfold take14
  rw [ht]; exact h
theorem VR.won {L : List Int} {s : Int → Int} {Y N : List Int} (h : VR L s Y N) (hm : may12 L = true) : won14 L s = decide (L.length < 2 * L.countP fun i => Y.contains i) := by
  have e : (L.countP fun i => Y.contains i) = L.countP fun i => decide (s i = 1) := List.countP_congr fun i _ => by rw [h.yes i]
  unfold won14
  rw [e]
  congr 1
  rw [eq_iff_iff]
  omega
theorem VR.lost {L : List Int} {s : Int → Int} {Y N : List Int} (h : VR L s Y N) (hm : may12 L = true) : lost14 L s = decide (2 * ((L.length : Int) - N.length) ≤ L.length) := by
  have h1 := countP_split14 L s h.word
  have h2 := may12_pos hm
  have h3 : L ≠ [] := fun e => by rw [e] at h2; exact absurd h2 (by decide)
  have h4 := h.len
  unfold lost14
  rw [decide_eq_true h3, Bool.true_and, ← decide_not]
  congr 1
  rw [eq_iff_iff]
  omega
theorem may12_nodup {l : List Int} (h : may12 l = true) : l.Nodup := (mayF_rising (may12_F h)).imp fun h => by omega
end Go.Proofs.Ytoekiencnbgmhaa
