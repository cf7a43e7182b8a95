/-
  Lists of servers, plainly: which may be, one more, one less, who is more than half, the middle one.
  There are no conditions beyond those that each lemma names.
-/
set_option linter.unusedSimpArgs false
set_option linter.unusedVariables false
namespace Go.Proofs.Ytoekiencnbgmhaa
set_option maxRecDepth 100000

/-- rising behind p, up to seven -/
def mayF : Int → List Int → Bool
  | _, [] => true
  | p, x :: xs => decide (p < x) && decide (x ≤ 7) && mayF x xs
def may12 (l : List Int) : Bool := mayF 0 l && decide (0 < l.length)
/-- all lists that rise beyond 7 - n, up to seven -/
def subs : Nat → List (List Int)
  | 0 => [[]]
  | n + 1 => subs n ++ (subs n).map (fun l => (7 - (n : Int)) :: l)
theorem subs_nil : ∀ n, [] ∈ subs n
  | 0 => by simp [subs]
  | n + 1 => by unfold subs; exact List.mem_append_left _ (subs_nil n)
theorem mayF_subs : ∀ (n : Nat) (l : List Int), n ≤ 7 → mayF (7 - (n : Int)) l = true → l ∈ subs n
  | n, [], _, _ => subs_nil n
  | 0, x :: xs, _, h => by simp [mayF] at h; omega
  | n + 1, x :: xs, hn, h => by
    have h' := h
    simp only [mayF, Bool.and_eq_true, decide_eq_true_eq] at h
    unfold subs
    by_cases e : x = 7 - (n : Int)
    · subst e
      exact List.mem_append_right _ (List.mem_map.2 ⟨xs, mayF_subs n xs (by omega) h.2, rfl⟩)
    · refine List.mem_append_left _ (mayF_subs n (x :: xs) (by omega) ?_)
      simp only [mayF, Bool.and_eq_true, decide_eq_true_eq]
      exact ⟨⟨by omega, h.1.2⟩, h.2⟩
theorem may_subs {l : List Int} (h : mayF 0 l = true) : l ∈ subs 7 := mayF_subs 7 l (Nat.le_refl _) h
/-- what holds of all of them -/
theorem all_may {P : List Int → Bool} (h : (subs 7).all P = true) {l : List Int} (hl : mayF 0 l = true) : P l = true := List.all_eq_true.1 h l (may_subs hl)
def ids : List Int := [1, 2, 3, 4, 5, 6, 7]
theorem ids_mem {k : Int} (h0 : 1 ≤ k) (h1 : k ≤ 7) : k ∈ ids := by
  have : k = 1 ∨ k = 2 ∨ k = 3 ∨ k = 4 ∨ k = 5 ∨ k = 6 ∨ k = 7 := by omega
  rcases this with h | h | h | h | h | h | h <;> subst h <;> simp [ids]
theorem all_may2 {P : List Int → Int → Bool} (h : ((subs 7).all fun l => ids.all (P l)) = true) {l : List Int} (hl : mayF 0 l = true) {k : Int} (h0 : 1 ≤ k) (h1 : k ≤ 7) : P l k = true :=
  List.all_eq_true.1 (all_may (P := fun l => ids.all (P l)) h hl) k (ids_mem h0 h1)

/-- one more: where it goes -/
def ins12 (l : List Int) (k : Int) : List Int := l.take (l.countP (· < k)) ++ [k] ++ l.drop (l.countP (· < k))
def del12 (l : List Int) (k : Int) : List Int := l.take (l.countP (· < k)) ++ l.drop (l.countP (· < k) + 1)
def add12 (l : List Int) (k : Int) : Option (List Int) := if may12 l = true ∧ may12 [k] = true ∧ l.contains k = false then some (ins12 l k) else none
def rem12 (l : List Int) (k : Int) : Option (List Int) := if may12 l = true ∧ l.length ≠ 1 ∧ l.contains k = true then some (del12 l k) else none
/-- the reference's change -/
def chg12 (l : List Int) (k : Int) (add : Bool) : List Int := ids.filter fun i => (decide (i = k) && add) || (!decide (i = k) && l.contains i)
def change12 (l : List Int) (k : Int) (add : Bool) : List Int × Bool :=
  if may12 l = true ∧ 1 ≤ k ∧ k ≤ 7 ∧ (l.contains k != add) = true then (chg12 l k add, decide (0 < (chg12 l k add).length)) else ([], false)
theorem mayF_one (k : Int) : mayF 0 [k] = (decide (0 < k) && decide (k ≤ 7)) := by simp [mayF]
theorem may_one (k : Int) : may12 [k] = (decide (1 ≤ k) && decide (k ≤ 7)) := by
  unfold may12
  rw [mayF_one]
  have : decide (0 < k) = decide (1 ≤ k) := by rw [decide_eq_decide]; omega
  rw [this]; simp
theorem may12_F {l : List Int} (h : may12 l = true) : mayF 0 l = true := by unfold may12 at h; simp at h; exact h.1
theorem may12_pos {l : List Int} (h : may12 l = true) : 0 < l.length := by unfold may12 at h; simp only [Bool.and_eq_true, decide_eq_true_eq] at h; exact h.2
theorem mayF_mem : ∀ {p : Int} {l : List Int}, mayF p l = true → ∀ x ∈ l, p < x ∧ x ≤ 7
  | _, [], _, x, hx => by cases hx
  | p, y :: ys, h, x, hx => by
    simp only [mayF, Bool.and_eq_true, decide_eq_true_eq] at h
    rcases List.mem_cons.1 hx with e | e
    · subst e; exact h.1
    · have := mayF_mem h.2 x e; omega
theorem mayF_len : ∀ {p : Int} {l : List Int}, mayF p l = true → p ≤ 7 → (l.length : Int) ≤ 7 - p
  | _, [], _, hp => by simp; omega
  | p, y :: ys, h, hp => by
    simp only [mayF, Bool.and_eq_true, decide_eq_true_eq] at h
    have := mayF_len h.2 h.1.2
    simp only [List.length_cons]; omega
theorem may12_len {l : List Int} (h : may12 l = true) : l.length ≤ 7 := by have := mayF_len (may12_F h) (by omega); omega
theorem mayF_rising : ∀ {p : Int} {l : List Int}, mayF p l = true → l.Pairwise (· < ·)
  | _, [], _ => .nil
  | p, y :: ys, h => by
    have h' := h
    simp only [mayF, Bool.and_eq_true, decide_eq_true_eq] at h
    exact .cons (fun x hx => (mayF_mem h.2 x hx).1) (mayF_rising h.2)
theorem may12_sorted {l : List Int} (h : may12 l = true) : l.Pairwise (· ≤ ·) := (mayF_rising (may12_F h)).imp fun h => Int.le_of_lt h

theorem ins_chg_all : ((subs 7).all fun l => ids.all fun k => l.contains k || (decide (ins12 l k = chg12 l k true) && decide (0 < (chg12 l k true).length))) = true := by decide +kernel
theorem del_chg_all : ((subs 7).all fun l => ids.all fun k => !l.contains k || (decide (del12 l k = chg12 l k false) && (decide (l.length = 1) == decide ((chg12 l k false).length = 0)))) = true := by decide +kernel
/-- the program's and the reference's -/
theorem add_change (l : List Int) (k : Int) : (match add12 l k with | some r => (r, true) | none => ([], false)) = change12 l k true := by
  unfold add12 change12
  by_cases hm : may12 l = true
  · by_cases h1 : 1 ≤ k ∧ k ≤ 7
    · by_cases hc : l.contains k = true
      · rw [if_neg (fun e => by rw [hc] at e; exact absurd e.2.2 (by decide)), if_neg (fun e => by rw [hc] at e; exact absurd e.2.2.2 (by decide))]
      · have hc' : l.contains k = false := by simpa using hc
        have := all_may2 ins_chg_all (may12_F hm) h1.1 h1.2
        simp only [hc', Bool.false_or, Bool.and_eq_true, decide_eq_true_eq] at this
        rw [if_pos ⟨hm, by rw [may_one]; simp; exact h1, hc'⟩, if_pos ⟨hm, h1.1, h1.2, by rw [hc']; rfl⟩]
        simp only [this.1, decide_eq_true this.2]
    · rw [if_neg (fun e => by have := e.2.1; rw [may_one] at this; simp at this; exact h1 this), if_neg (fun e => h1 ⟨e.2.1, e.2.2.1⟩)]
  · rw [if_neg (fun e => hm e.1), if_neg (fun e => hm e.1)]
theorem rem_change (l : List Int) (k : Int) : (match rem12 l k with | some r => (r, true) | none => ([], false)) = (if (change12 l k false).2 = true then change12 l k false else ([], false)) := by
  unfold rem12 change12
  by_cases hm : may12 l = true
  · by_cases hc : l.contains k = true
    · have hk := mayF_mem (may12_F hm) k (by simpa using hc)
      have := all_may2 del_chg_all (may12_F hm) (k := k) (by omega) hk.2
      simp only [hc, Bool.not_true, Bool.false_or, Bool.and_eq_true, decide_eq_true_eq, beq_iff_eq] at this
      rw [if_pos (c := may12 l = true ∧ 1 ≤ k ∧ k ≤ 7 ∧ (l.contains k != false) = true) ⟨hm, by omega, hk.2, by rw [hc]; rfl⟩]
      by_cases h1 : l.length = 1
      · have h0 : (chg12 l k false).length = 0 := by have := this.2; rw [decide_eq_true h1] at this; exact of_decide_eq_true this.symm
        rw [if_neg (fun e => e.2.1 h1)]
        simp [h0]
      · have h0 : ¬ (chg12 l k false).length = 0 := by have := this.2; rw [decide_eq_false h1] at this; exact of_decide_eq_false this.symm
        rw [if_pos ⟨hm, h1, hc⟩]
        have h2 : 0 < (chg12 l k false).length := by omega
        simp [h2, this.1]
    · have hc' : l.contains k = false := by simpa using hc
      have h9 : ¬ (may12 l = true ∧ 1 ≤ k ∧ k ≤ 7 ∧ (l.contains k != false) = true) := fun e => by rw [hc'] at e; exact absurd e.2.2.2 (by decide)
      rw [if_neg (fun e => hc e.2.2), if_neg h9]
      rfl
  · have h9 : ¬ (may12 l = true ∧ 1 ≤ k ∧ k ≤ 7 ∧ (l.contains k != false) = true) := fun e => hm e.1
    rw [if_neg (fun e => hm e.1), if_neg h9]
    rfl

/-- servers by bits -/
def setL (b : Nat) : List Int := ((List.range 7).filter fun k => b / 2 ^ k % 2 == 1).map fun k => (((k + 1 : Nat)) : Int)
theorem setL_mayF : ((List.range 128).all fun b => mayF 0 (setL b)) = true := by decide +kernel
theorem setL_may (b : Nat) (h : b < 128) : mayF 0 (setL b) = true := List.all_eq_true.1 setL_mayF b (List.mem_range.2 h)

/-- more than half -/
def maj12 (l yes : List Int) : Bool := decide (l.length / 2 < l.countP (fun x => yes.contains x))
def miss12 (a b : List Int) : Nat := a.countP (fun x => !b.contains x)
def near12 (a b : List Int) : Bool := may12 a && may12 b && decide (miss12 a b + miss12 b a ≤ 1)
/-- what each has -/
def has12 (l : List Int) (at_ : List Int) : List Int := l.map fun i => at_.getD i.toNat 0
def mid12 (l : List Int) (at_ : List Int) : Int := ((has12 l at_).mergeSort fun x y => decide (x ≤ y)).getD ((l.length - 1) / 2) 0

/-- two majorities of lists that are near have one in common -/
theorem meet_sub {l m a b : List Int} (hs : l.Sublist m) (hm : m.length ≤ l.length + 1) (ha : maj12 l a = true) (hb : maj12 m b = true ∨ maj12 l a = true ∧ maj12 m b = true) : ∃ x ∈ a, x ∈ b ∧ x ∈ m := by
  have hb : maj12 m b = true := by rcases hb with h | h; exact h; exact h.2
  unfold maj12 at ha hb
  simp only [decide_eq_true_eq] at ha hb
  have h1 : l.countP (fun x => a.contains x) ≤ m.countP (fun x => a.contains x) := hs.countP_le
  have hle := hs.length_le
  by_cases h : ∃ x ∈ m, a.contains x = true ∧ b.contains x = true
  · obtain ⟨x, hx, e1, e2⟩ := h
    exact ⟨x, by simpa using e1, by simpa using e2, hx⟩
  · exfalso
    have h2 : m.countP (fun x => a.contains x) + m.countP (fun x => b.contains x) ≤ m.length := by
      have h3 : m.countP (fun x => b.contains x) ≤ m.countP (fun x => !a.contains x) := by
        refine List.countP_mono_left fun x hx hxb => ?_
        cases e : a.contains x
        · rfl
        · exact absurd ⟨x, hx, e, hxb⟩ h
      have h4 := List.length_eq_countP_add_countP (fun x => a.contains x) (l := m)
      have h5 : m.countP (fun x => !a.contains x) = m.countP (fun x => decide ¬ a.contains x = true) := by
        congr 1; funext x; cases a.contains x <;> rfl
      omega
    omega
theorem meet_sub' {l m a b : List Int} (hs : m.Sublist l) (hm : l.length ≤ m.length + 1) (ha : maj12 l a = true) (hb : maj12 m b = true) : ∃ x ∈ a, x ∈ b ∧ x ∈ l := by
  obtain ⟨x, h1, h2, h3⟩ := meet_sub hs hm hb (.inl ha)
  exact ⟨x, h2, h1, h3⟩
theorem ins_sub (l : List Int) (k : Int) : l.Sublist (ins12 l k) := by
  unfold ins12
  have h : l.take (l.countP (· < k)) ++ l.drop (l.countP (· < k)) = l := List.take_append_drop _ _
  have h2 : (l.take (l.countP (· < k)) ++ l.drop (l.countP (· < k))).Sublist (l.take (l.countP (· < k)) ++ [k] ++ l.drop (l.countP (· < k))) :=
    List.Sublist.append (List.sublist_append_left _ _) (List.Sublist.refl _)
  rw [h] at h2
  exact h2
theorem ins_len (l : List Int) (k : Int) : (ins12 l k).length = l.length + 1 := by
  unfold ins12
  have := List.countP_le_length (p := fun x => decide (x < k)) (l := l)
  simp; omega
theorem del_sub (l : List Int) (k : Int) : (del12 l k).Sublist l := by
  unfold del12
  have h : l.take (l.countP (· < k)) ++ l.drop (l.countP (· < k)) = l := List.take_append_drop _ _
  have h2 : (l.take (l.countP (· < k)) ++ l.drop (l.countP (· < k) + 1)).Sublist (l.take (l.countP (· < k)) ++ l.drop (l.countP (· < k))) :=
    List.Sublist.append (List.Sublist.refl _) (by rw [← List.drop_drop]; exact List.drop_sublist _ _)
  rw [h] at h2
  exact h2
theorem del_len (l : List Int) (k : Int) : l.length ≤ (del12 l k).length + 1 := by
  unfold del12
  simp; omega

theorem one_all : ((subs 7).all fun l => ids.all fun k => l.contains k || !decide (0 < l.length) || (may12 (ins12 l k) && decide ((ins12 l k).length ≠ 1) && (ins12 l k).contains k && decide (del12 (ins12 l k) k = l) && near12 l (ins12 l k) && near12 (ins12 l k) l)) = true := by decide +kernel

/-- more than half have the middle one at least, and no greater number -/
theorem sorted_ge {S : List Int} (hs : S.Pairwise (· ≤ ·)) (k : Nat) (hk : k < S.length) : S.length - k ≤ S.countP (fun x => decide (S.getD k 0 ≤ x)) := by
  have h1 : (S.drop k).countP (fun x => decide (S.getD k 0 ≤ x)) ≤ S.countP (fun x => decide (S.getD k 0 ≤ x)) := (List.drop_sublist k S).countP_le
  have h2 : (S.drop k).countP (fun x => decide (S.getD k 0 ≤ x)) = (S.drop k).length := by
    rw [List.countP_eq_length]
    intro x hx
    obtain ⟨i, hi, rfl⟩ := List.mem_iff_getElem.1 hx
    rw [List.getElem_drop, decide_eq_true_eq, List.getD_eq_getElem?_getD, List.getElem?_eq_getElem hk, Option.getD_some]
    by_cases e : i = 0
    · subst e; exact Int.le_refl _
    · exact List.pairwise_iff_getElem.1 hs k (k + i) hk (by simp at hi; omega) (by omega)
  rw [List.length_drop] at h2
  omega
theorem sorted_gt {S : List Int} (hs : S.Pairwise (· ≤ ·)) (k : Nat) (hk : k < S.length) : S.countP (fun x => decide (S.getD k 0 < x)) ≤ S.length - (k + 1) := by
  have h0 : S.countP (fun x => decide (S.getD k 0 < x)) = (S.take (k + 1)).countP (fun x => decide (S.getD k 0 < x)) + (S.drop (k + 1)).countP (fun x => decide (S.getD k 0 < x)) := by
    rw [← List.countP_append, List.take_append_drop]
  have h1 : (S.take (k + 1)).countP (fun x => decide (S.getD k 0 < x)) = 0 := by
    rw [List.countP_eq_zero]
    intro x hx
    obtain ⟨i, hi, rfl⟩ := List.mem_iff_getElem.1 hx
    rw [List.getElem_take, decide_eq_true_eq, List.getD_eq_getElem?_getD, List.getElem?_eq_getElem hk, Option.getD_some]
    simp at hi
    by_cases e : i = k
    · subst e; exact Int.lt_irrefl _
    · have := List.pairwise_iff_getElem.1 hs i k (by omega) hk (by omega)
      omega
  have h2 : (S.drop (k + 1)).countP (fun x => decide (S.getD k 0 < x)) ≤ (S.drop (k + 1)).length := List.countP_le_length
  rw [List.length_drop] at h2
  omega
theorem mid_counts (l at_ : List Int) (h0 : 0 < l.length) : l.length < 2 * (has12 l at_).countP (fun x => decide (mid12 l at_ ≤ x)) ∧ 2 * (has12 l at_).countP (fun x => decide (mid12 l at_ < x)) ≤ l.length := by
  have hp := List.mergeSort_perm (has12 l at_) (fun x y => decide (x ≤ y))
  have hs : ((has12 l at_).mergeSort fun x y => decide (x ≤ y)).Pairwise (· ≤ ·) := by
    have := List.pairwise_mergeSort (le := fun x y : Int => decide (x ≤ y)) (fun a b c h1 h2 => by simp at *; omega) (fun a b => by simp; omega) (has12 l at_)
    exact this.imp fun h => by simpa using h
  have hl : ((has12 l at_).mergeSort fun x y => decide (x ≤ y)).length = l.length := by rw [List.length_mergeSort]; simp [has12]
  have hk : (l.length - 1) / 2 < ((has12 l at_).mergeSort fun x y => decide (x ≤ y)).length := by rw [hl]; omega
  have h1 := sorted_ge hs _ hk
  have h2 := sorted_gt hs _ hk
  rw [hp.countP_eq] at h1 h2
  rw [hl] at h1 h2
  unfold mid12
  omega
/-- a part of a list that is told by its numbers is more than half just if so many have it -/
theorem maj_filter (l : List Int) (q : Int → Bool) : maj12 l (l.filter q) = decide (l.length / 2 < l.countP q) := by
  unfold maj12
  have h : l.countP (fun x => (l.filter q).contains x) = l.countP q := by
    refine List.countP_congr fun x hx => ?_
    simp [hx]
  rw [h]
theorem mid_have (l at_ : List Int) (h0 : 0 < l.length) : maj12 l (l.filter fun i => decide (mid12 l at_ ≤ at_.getD i.toNat 0)) = true ∧ maj12 l (l.filter fun i => decide (mid12 l at_ < at_.getD i.toNat 0)) = false := by
  have h := mid_counts l at_ h0
  unfold has12 at h
  rw [List.countP_map, List.countP_map] at h
  rw [maj_filter, maj_filter]
  constructor
  · exact decide_eq_true (by have := h.1; simp only [Function.comp_def] at this; omega)
  · exact decide_eq_false (by have := h.2; simp only [Function.comp_def] at this; omega)
end Go.Proofs.Ytoekiencnbgmhaa
