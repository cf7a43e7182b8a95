/-
  What a crash leaves of some of a disk's files, whichever come first.
  There are no conditions.
-/
import Derived.Test.YtbdengcblncfmaaD9Rows
set_option linter.unusedSimpArgs false
set_option linter.unusedVariables false
namespace Go.Proofs.Ytbdengcblncfmaa
open Go.RowKit
set_option maxRecDepth 100000

theorem left9_cases (n : Int) (f : Fil) : left9 n f = [] ∨ ∃ f', left9 n f = [f'] ∧ f'.name = f.name := by
  unfold left9
  split
  · exact .inr ⟨_, rfl, rfl⟩
  · exact .inl rfl
theorem crash9_cons (n : Int) (f : Fil) (l : List Fil) : crash9 n (f :: l) = left9 n f ++ crash9 n l := by unfold crash9; rw [List.flatMap_cons]
theorem crash9_mem {n : Int} {l : List Fil} {x : Fil} (h : x ∈ crash9 n l) : ∃ f ∈ l, x.name = f.name := by
  unfold crash9 at h
  obtain ⟨f, hf, hx⟩ := List.mem_flatMap.1 h
  refine ⟨f, hf, ?_⟩
  rcases left9_cases n f with e | ⟨f', e, hn⟩
  · rw [e] at hx; cases hx
  · rw [e, List.mem_singleton] at hx; rw [hx]; exact hn
theorem setF_head {f : Fil} {l : List Fil} (h : ∀ z ∈ l, ltK f.name z.name = true) : setF f l = f :: l := by
  cases l with
  | nil => rfl
  | cons x t =>
    have h1 := h x List.mem_cons_self
    unfold setF
    rw [if_neg (ltK_ne h1), if_pos h1]
/-- one file more has been looked at -/
theorem crash9_step {n : Int} {l : List Fil} (hs : Sorted9 l) {x : Fil} (hx : x ∈ l) (P : Fil → Bool) (hP : P x = false) :
    (left9 n x = [] → crash9 n (l.filter fun f => P f || decide (f.name = x.name)) = crash9 n (l.filter P)) ∧ ∀ f', left9 n x = [f'] → crash9 n (l.filter fun f => P f || decide (f.name = x.name)) = setF f' (crash9 n (l.filter P)) := by
  unfold Sorted9 at hs
  induction l with
  | nil => cases hx
  | cons y t ih =>
    obtain ⟨s1, s2⟩ := List.pairwise_cons.1 hs
    rcases List.mem_cons.1 hx with e | hx
    · subst e
      have e1 : (t.filter fun f => P f || decide (f.name = x.name)) = t.filter P := List.filter_congr fun f hf => by
        rw [decide_eq_false (ltK_ne (s1 f hf)).symm, Bool.or_false]
      have e2 : (P x || decide (x.name = x.name)) = true := by rw [decide_eq_true rfl, Bool.or_true]
      rw [List.filter_cons_of_pos (p := fun f => P f || decide (f.name = x.name)) e2, e1, List.filter_cons_of_neg (by rw [hP]; simp), crash9_cons]
      refine ⟨fun h => by rw [h, List.nil_append], fun f' h => ?_⟩
      rw [h, List.singleton_append, setF_head]
      intro z hz
      obtain ⟨f, hf, hn⟩ := crash9_mem hz
      have hn2 : f'.name = x.name := by
        rcases left9_cases n x with e | ⟨f2, e, hn3⟩
        · rw [e] at h; cases h
        · rw [e] at h; injection h with h; rw [← h]; exact hn3
      rw [hn, hn2]
      exact s1 f (List.mem_filter.1 hf).1
    · have hyx := s1 x hx
      have e2 : (P y || decide (y.name = x.name)) = P y := by rw [decide_eq_false (ltK_ne hyx), Bool.or_false]
      obtain ⟨i1, i2⟩ := ih s2 hx
      cases hPy : P y with
      | false =>
        rw [List.filter_cons_of_neg (p := fun f => P f || decide (f.name = x.name)) (by rw [e2, hPy]; simp), List.filter_cons_of_neg (by rw [hPy]; simp)]
        exact ⟨i1, i2⟩
      | true =>
        rw [List.filter_cons_of_pos (p := fun f => P f || decide (f.name = x.name)) (by rw [e2, hPy]), List.filter_cons_of_pos hPy, crash9_cons, crash9_cons]
        refine ⟨fun h => by rw [i1 h], fun f' h => ?_⟩
        rw [i2 f' h]
        have hn2 : f'.name = x.name := by
          rcases left9_cases n x with e | ⟨f2, e, hn3⟩
          · rw [e] at h; cases h
          · rw [e] at h; injection h with h; rw [← h]; exact hn3
        rcases left9_cases n y with e | ⟨y', e, hn3⟩
        · rw [e]; rfl
        · rw [e]
          show y' :: setF f' (crash9 n (t.filter P)) = setF f' (y' :: crash9 n (t.filter P))
          have h3 : ltK y'.name f'.name = true := by rw [hn3, hn2]; exact hyx
          have h4 : ¬ ltK f'.name y'.name = true := fun h5 => by
            have := ltK_trans h3 h5
            rw [ltK_irrefl] at this; cases this
          conv => rhs; unfold setF
          rw [if_neg (ltK_ne h3).symm, if_neg h4]
/-- the files of which left says nothing any more -/
def seen9 (left : Lit → Bool) (l : List Fil) : List Fil := l.filter fun f => !left (.string f.name.data.toList)
theorem seen9_start (ps : List (Fil × Value)) : seen9 (Maps.has (DD ps)) (ps.map (·.1)) = [] := by
  unfold seen9
  rw [List.filter_eq_nil_iff]
  intro f hf
  obtain ⟨p, hp, rfl⟩ := List.mem_map.1 hf
  rw [dd_has, List.any_eq_true.2 ⟨p, hp, by simp⟩]; simp
theorem seen9_end {left : Lit → Bool} (l : List Fil) (h : ∀ k, left k = false) : seen9 left l = l := by
  unfold seen9
  rw [List.filter_eq_self]
  intro f _; rw [h]; rfl
theorem seen9_step {n : Int} {l : List Fil} (hs : Sorted9 l) {x : Fil} (hx : x ∈ l) (left : Lit → Bool) (hl : left (.string x.name.data.toList) = true) :
    (left9 n x = [] → crash9 n (seen9 (fun z => left z && !z.sameKey (.string x.name.data.toList)) l) = crash9 n (seen9 left l)) ∧ ∀ f', left9 n x = [f'] → crash9 n (seen9 (fun z => left z && !z.sameKey (.string x.name.data.toList)) l) = setF f' (crash9 n (seen9 left l)) := by
  have e : seen9 (fun z => left z && !z.sameKey (.string x.name.data.toList)) l = l.filter fun f => (!left (.string f.name.data.toList)) || decide (f.name = x.name) := by
    unfold seen9
    congr 1; funext f
    simp only [same_name]
    cases left (.string f.name.data.toList) <;> cases decide (f.name = x.name) <;> rfl
  rw [e]
  exact crash9_step hs hx (fun f => !left (.string f.name.data.toList)) (by rw [hl]; rfl)
theorem crash9_good {n : Int} {l : List Fil} (h : ∀ f ∈ l, Good9 f) : ∀ f ∈ crash9 n l, Good9 f := by
  intro x hx
  unfold crash9 at hx
  obtain ⟨f, hf, hx⟩ := List.mem_flatMap.1 hx
  obtain ⟨g1, g2, g3, g4⟩ := h f hf
  unfold left9 at hx
  split at hx
  · rw [List.mem_singleton] at hx
    have hk := kOf9_le (n := n) g2
    subst hx
    refine ⟨g1, ?_, ?_, fun h => by cases h⟩
    · show f.fast + kOf9 n f ≤ (f.b.take _).length
      rw [List.length_take]; omega
    · show (f.b.take _).length ≤ _
      rw [List.length_take]; omega
  · cases hx
theorem crash9_len (n : Int) (l : List Fil) : (crash9 n l).length ≤ l.length := by
  unfold crash9
  induction l with
  | nil => exact Nat.le_refl _
  | cons f t ih =>
    have h : (left9 n f).length ≤ 1 := by
      rcases left9_cases n f with e | ⟨f', e, _⟩
      · rw [e]; exact Nat.zero_le _
      · rw [e]; exact Nat.le_refl _
    rw [List.flatMap_cons, List.length_append, List.length_cons]; omega
theorem at_find9 {n : ByteArray} {ps : List (Fil × Value)} {v : Value} (h : ∀ zd, (DD ps).atKey (.string n.data.toList) zd = .held v) : ∃ p ∈ ps, p.1.name = n ∧ v = fileV p := by
  have h1 := h (.held (.bool true))
  have h2 := h (.held (.bool false))
  rw [dd_at] at h1 h2
  cases hf : ps.find? (fun p => decide (p.1.name = n)) with
  | none => rw [hf] at h1 h2; simp only at h1 h2; rw [← h1] at h2; cases h2
  | some p =>
    rw [hf] at h1
    refine ⟨p, List.mem_of_find?_eq_some hf, by simpa using List.find?_some hf, ?_⟩
    injection h1 with h1
    exact h1.symm
end Go.Proofs.Ytbdengcblncfmaa
