/-
  The reference's steps, as plain data: what it puts in its row is what is put in its place.
  There are no conditions beyond those that each lemma names.
-/
import Derived.Test.YtbdengcblncfmaaQ9App
import Derived.Test.YtbdengcblncfmaaQ9Crash
import Derived.Test.YtbdengcblncfmaaL9Twice
set_option linter.unusedSimpArgs false
set_option linter.unusedVariables false
namespace Go.Proofs.Ytbdengcblncfmaa
open Go.RowKit
set_option maxRecDepth 100000

theorem less_before9 : ∀ (a b : List UInt8), Op.bytesLess a b = bytesBefore a b
  | [], [] => rfl
  | [], _ :: _ => rfl
  | _ :: _, [] => rfl
  | x :: a, y :: b => by
    rw [Op.bytesLess, bytesBefore, less_before9 a b]
theorem ltN_is (a b : ByteArray) : ltN a b = ltK a b := by
  unfold ltN ltK
  rw [less_before9, ByteArray.toList_eq, ByteArray.toList_eq]
theorem setF_at {f : Fil} : ∀ {l : List Fil} (_ : Sorted9 l) (k : Nat) (hk : k < l.length) (_ : l[k].name = f.name), setF f l = l.set k f
  | x :: t, _, 0, _, hn => by
    unfold setF
    rw [if_pos (show f.name = x.name from hn.symm)]; rfl
  | x :: t, hs, k + 1, hk, hn => by
    obtain ⟨h1, h2⟩ := List.pairwise_cons.1 hs
    have hk2 : k < t.length := by simpa using hk
    have hn2 : t[k].name = f.name := hn
    have hlt := h1 t[k] (List.getElem_mem hk2)
    rw [hn2] at hlt
    unfold setF
    rw [if_neg (ltK_ne hlt).symm, if_neg (fun h3 => by have := ltK_trans hlt h3; rw [ltK_irrefl] at this; cases this), setF_at h2 k hk2 hn2]; rfl
theorem setF_ins {f : Fil} : ∀ {l : List Fil} (k : Nat) (_ : stop9 f.name l k) (_ : ∀ x ∈ l, x.name ≠ f.name), setF f l = insAt k f l
  | [], k, _, _ => by unfold setF insAt; simp
  | x :: t, 0, hst, hne => by
    have h1 := hst.2.2 (by simp)
    have h2 : ltK x.name f.name = false := by rw [← ltN_is]; exact h1
    have h3 := ltK_total (hne x List.mem_cons_self) h2
    unfold setF
    rw [if_neg (hne x List.mem_cons_self).symm, if_pos h3]; rfl
  | x :: t, k + 1, hst, hne => by
    obtain ⟨a1, a2, a3⟩ := hst
    have h1 : ltK x.name f.name = true := by rw [← ltN_is]; exact a2 x (by simp)
    unfold setF
    rw [if_neg (ltK_ne h1).symm, if_neg (fun h3 => by have := ltK_trans h1 h3; rw [ltK_irrefl] at this; cases this)]
    rw [setF_ins k ⟨by simpa using a1, fun y hy => a2 y (by rw [List.take_succ_cons]; exact List.mem_cons_of_mem _ hy), fun h => a3 (by simpa using h)⟩ (fun y hy => hne y (List.mem_cons_of_mem _ hy))]; rfl
theorem getF_no {n : ByteArray} {l : List Fil} (h : ixF n l = none) : getF n l = none := by
  unfold getF
  rw [List.find?_eq_none]
  intro x hx
  simpa using ixF_none_ne h x hx
theorem getF_ix {n : ByteArray} {l : List Fil} {k : Nat} (hs : Sorted9 l) (h : ixF n l = some k) : ∃ hk : k < l.length, l[k].name = n ∧ getF n l = some l[k] := by
  obtain ⟨hk, hn⟩ := ixF_is h
  have := getF_at hs k hk
  rw [hn] at this
  exact ⟨hk, hn, this⟩
/-- what the reference puts in its row -/
theorem has9_is {n : ByteArray} {l l1 : List Fil} {k : Nat} (hs : Sorted9 l) (h : Has9 n l l1 k) (hk : k < l1.length) : l1[k] = fileOf n l ∧ ∀ f : Fil, f.name = n → l1.set k f = setF f l := by
  rcases h with ⟨h, rfl⟩ | ⟨h, hst, rfl⟩
  · obtain ⟨hk2, hn, hg⟩ := getF_ix hs h
    refine ⟨by unfold fileOf; rw [hg]; rfl, fun f hf => (setF_at hs k hk2 (by rw [hn, hf])).symm⟩
  · have hg := getF_no h
    refine ⟨by rw [insAt_at hst.1]; unfold fileOf; rw [hg]; rfl, fun f hf => ?_⟩
    rw [setF_ins k (by rw [hf]; exact hst) (by rw [hf]; exact ixF_none_ne h)]
    unfold insAt
    have hl : (l.take k).length = k := by rw [List.length_take]; have := hst.1; omega
    rw [List.set_append_right _ _ (by omega), hl, Nat.sub_self]; rfl
theorem lenF_is {n : ByteArray} {l : List Fil} (hs : Sorted9 l) : lenF n l = (fileOf n l).b.length := by
  rcases h : ixF n l with _ | k
  · rw [lenF_no h]; unfold fileOf; rw [getF_no h]; rfl
  · obtain ⟨hk, hn, hg⟩ := getF_ix hs h
    rw [lenF_at h hk]; unfold fileOf; rw [hg]; rfl
/-- what holds of the files throughout -/
def Fit9 (l : List Fil) : Prop := Sorted9 l ∧ ∀ f ∈ l, Good9 f
theorem Fit9.set {l : List Fil} {f : Fil} (h : Fit9 l) (hf : Good9 f) : Fit9 (setF f l) := ⟨setF_sorted h.1, fun x hx => by
  rcases setF_mem hx with e | m
  · rw [e]; exact hf
  · exact h.2 x m⟩
theorem Fit9.len {l : List Fil} (h : Fit9 l) : ∀ f ∈ l, f.b.length ≤ 1048576 := fun f hf => (h.2 f hf).2.2.1
theorem Fit9.nil : Fit9 [] := ⟨List.Pairwise.nil, fun f hf => by cases hf⟩
theorem Fit9.crash {l : List Fil} {n : Int} (h : Fit9 l) : Fit9 (crash9 n l) := by
  refine ⟨?_, crash9_good h.2⟩
  have hs := h.1
  clear h
  unfold Sorted9 at *
  induction l with
  | nil => exact List.Pairwise.nil
  | cons x t ih =>
    obtain ⟨h1, h2⟩ := List.pairwise_cons.1 hs
    rw [crash9_cons]
    rcases left9_cases n x with e | ⟨f', e, hn⟩
    · rw [e]; exact ih h2
    · rw [e]
      refine List.pairwise_cons.2 ⟨fun y hy => ?_, ih h2⟩
      obtain ⟨f, hf, hyn⟩ := crash9_mem hy
      rw [hn, hyn]; exact h1 f hf
theorem Fit9.app {n : ByteArray} {bs : List UInt8} {l : List Fil} (h : Fit9 l) : Fit9 (app9 n bs l).2 := by
  unfold app9
  split
  · exact h
  · rename_i hg
    split
    · exact h
    · rename_i hb
      have hgn : goodN n = true := by cases hx : goodN n <;> simp_all
      obtain ⟨⟨g1, g2, g3, g4⟩, g5⟩ := fileOf_good hgn h.2
      exact h.set ⟨hgn, by show (fileOf n l).fast ≤ ((fileOf n l).b ++ bs).length; rw [List.length_append]; omega, by show ((fileOf n l).b ++ bs).length ≤ _; rw [List.length_append]; omega, g4⟩
theorem Fit9.swap {n : ByteArray} {bs : List UInt8} {l : List Fil} (h : Fit9 l) : Fit9 (swap9 n bs l).2 := by
  unfold swap9
  split
  · exact h
  · rename_i hg
    split
    · exact h
    · rename_i hb
      have hgn : goodN n = true := by cases hx : goodN n <;> simp_all
      exact h.set ⟨hgn, Nat.le_refl _, by show bs.length ≤ _; omega, fun h => by cases h⟩
theorem Fit9.sync {n : ByteArray} {l : List Fil} (h : Fit9 l) : Fit9 (sync9 n l).2 := by
  unfold sync9
  split
  · exact h
  · rename_i f hg
    obtain ⟨hm, hn⟩ := getF_mem hg
    obtain ⟨g1, g2, g3, g4⟩ := h.2 f hm
    exact h.set ⟨by rw [← hn]; exact g1, Nat.le_refl _, g3, fun h => by cases h⟩
theorem app9_is {n : ByteArray} {bs : List UInt8} {l l1 : List Fil} {k : Nat} (hs : Sorted9 l) (h : Has9 n l l1 k) (hk : k < l1.length) (hg : goodN n = true) (hl : lenF n l + bs.length ≤ 1048576) : app9 n bs l = (0, l1.set k ⟨n, l1[k].b ++ bs, l1[k].fast, l1[k].there⟩) := by
  obtain ⟨h1, h2⟩ := has9_is hs h hk
  rw [lenF_is hs] at hl
  unfold app9
  rw [if_neg (by rw [hg]; simp), if_neg (by omega), h1, h2 _ rfl]
theorem swap9_is {n : ByteArray} {bs : List UInt8} {l l1 : List Fil} {k : Nat} (hs : Sorted9 l) (h : Has9 n l l1 k) (hk : k < l1.length) (hg : goodN n = true) (hl : bs.length ≤ 1048576) : swap9 n bs l = (0, l1.set k ⟨n, bs, bs.length, true⟩) := by
  obtain ⟨h1, h2⟩ := has9_is hs h hk
  unfold swap9
  rw [if_neg (by rw [hg]; simp), if_neg (by omega), h2 _ rfl]
theorem Has9.lt {n : ByteArray} {l l1 : List Fil} {k : Nat} (h : Has9 n l l1 k) : k < l1.length := (ixF_is h.ix).1
end Go.Proofs.Ytbdengcblncfmaa
