/-
  Plain facts on values written as bytes, with no program's run in them: what is written is read again.
  The conditions are the ranges of the integers and that the value may be.
-/
import Derived.Test.YtffklbkdmfeimaaReGetRaw
import Derived.Test.YtffklbkdmfeimaaNumCanon
namespace Go.Proofs.Ytffklbkdmfeimaa
open Go.RowKit
set_option maxRecDepth 100000

def pNum (l : List UInt8) : Option (Int × List UInt8) := if (Nu.get l).2.2 = 0 then some ((Nu.get l).1, l.drop (Nu.get l).2.1) else none
def pTxt (l : List UInt8) : Option (ByteArray × List UInt8) := if (Nu.getT l).2.2 = 0 then some (⟨(Nu.getT l).1.toArray⟩, l.drop (Nu.getT l).2.1) else none
def pRaw (l : List UInt8) : Option (Raw × List UInt8) := if (getR l).2.2 = 0 then some ((getR l).1, l.drop (getR l).2.1) else none
theorem pNum_put (n : Int) (r : List UInt8) (h0 : -9223372036854775808 ≤ n) (h1 : n ≤ 9223372036854775807) : pNum (Nu.put n ++ r) = some (n, r) := by
  unfold pNum; rw [Nu.get_put n r h0 h1]; simp
theorem pTxt_putT (s : ByteArray) (r : List UInt8) (h : s.size ≤ 1000000) : pTxt (Nu.putT s.data.toList ++ r) = some (s, r) := by
  have hl : s.data.toList.length = s.size := by rw [Array.length_toList]; rfl
  unfold pTxt; rw [Nu.getT_putT s.data.toList r (by omega)]; simp
theorem data_nil {s : ByteArray} (h : s.data.toList.isEmpty = true) : s = ⟨#[]⟩ := by
  apply bytes_eq; simpa using h
theorem getR_putR (r : Raw) (t : List UInt8) (h : mayR r = true) (hok : r.ok) : getR (putR r ++ t) = (r, (putR r).length, 0) := by
  obtain ⟨k, n, s⟩ := r
  obtain ⟨⟨k0, k1⟩, ⟨n0, n1⟩, hs⟩ := hok
  simp only at k0 k1 n0 n1 hs
  have hl : s.data.toList.length = s.size := by rw [Array.length_toList]; rfl
  unfold mayR at h
  simp only at h
  by_cases h0 : k = 0
  · subst h0
    simp at h
    have hs0 : s = ⟨#[]⟩ := bytes_eq (by simp [h.2])
    have e : putR ⟨0, n, s⟩ = Nu.put 0 := by unfold putR; simp
    rw [e, getR_0 _ _ (Nu.get_put 0 t (by decide) (by decide)), h.1, hs0]; rfl
  · by_cases h1 : k = 1
    · subst h1
      simp at h
      have hs0 : s = ⟨#[]⟩ := bytes_eq (by simp [h])
      have e : putR ⟨1, n, s⟩ = Nu.put 1 ++ Nu.put n := by unfold putR; simp
      rw [e, List.append_assoc, getR_1 _ _ n (Nu.put n).length (Nu.get_put 1 _ (by decide) (by decide)) (by rw [List.drop_left]; exact Nu.get_put n t n0 n1), hs0, List.length_append]
    · by_cases h2 : k = 2
      · subst h2
        simp at h
        have e : putR ⟨2, n, s⟩ = Nu.put 2 ++ Nu.putT s.data.toList := by unfold putR; simp
        rw [e, List.append_assoc, getR_2 _ _ s.data.toList (Nu.putT s.data.toList).length (Nu.get_put 2 _ (by decide) (by decide)) (by rw [List.drop_left]; exact Nu.getT_putT _ t (by omega))]
        rw [if_pos (by rw [h.1.2, hl]; simpa using h.2), List.length_append, h.1.1]
      · simp [h0, h1, h2] at h
theorem pRaw_putR (r : Raw) (t : List UInt8) (h : mayR r = true) (hok : r.ok) : pRaw (putR r ++ t) = some (r, t) := by
  unfold pRaw; rw [getR_putR r t h hok]; simp
theorem getR_canon (l : List UInt8) (r : Raw) (k : Nat) (h : getR l = (r, k, 0)) : l = putR r ++ l.drop k ∧ k = (putR r).length ∧ mayR r = true ∧ r.ok := by
  obtain ⟨x, hg⟩ : ∃ x, Nu.get l = x := ⟨_, rfl⟩
  obtain ⟨n, j, e⟩ := x
  by_cases he : e = 0
  · subst he
    have hs := Nu.get_split l n j hg
    have hc := Nu.get_canon l n j hg
    by_cases h0 : n = 0
    · subst h0
      rw [getR_0 l j hg] at h
      simp only [Prod.mk.injEq] at h
      obtain ⟨rfl, rfl, _⟩ := h
      have e1 : putR noRaw = Nu.put 0 := by unfold putR noRaw; simp
      rw [e1]
      exact ⟨hs, hc.2.1, rfl, ⟨by decide, by decide⟩, ⟨by decide, by decide⟩, by decide⟩
    · by_cases h1 : n = 1
      · subst h1
        obtain ⟨y, hy⟩ : ∃ y, Nu.get (l.drop j) = y := ⟨_, rfl⟩
        obtain ⟨m, i, e2⟩ := y
        by_cases he2 : e2 = 0
        · subst he2
          rw [getR_1 l j m i hg hy] at h
          simp only [Prod.mk.injEq] at h
          obtain ⟨rfl, rfl, _⟩ := h
          have hs2 := Nu.get_split _ m i hy
          have hc2 := Nu.get_canon _ m i hy
          have e1 : putR ⟨1, m, ⟨#[]⟩⟩ = Nu.put 1 ++ Nu.put m := by unfold putR; simp
          rw [e1]
          refine ⟨?_, by rw [List.length_append, ← hc.2.1, ← hc2.2.1], rfl, ⟨(by decide : (-9223372036854775808 : Int) ≤ 1), (by decide : (1 : Int) ≤ 9223372036854775807)⟩, hc2.2.2, by show (0 : Nat) ≤ _; omega⟩
          rw [List.append_assoc, ← List.drop_drop, ← hs2]; exact hs
        · rw [getR_1e l j m i e2 hg hy he2] at h
          simp only [Prod.mk.injEq] at h; omega
      · by_cases h2 : n = 2
        · subst h2
          obtain ⟨y, hy⟩ : ∃ y, Nu.getT (l.drop j) = y := ⟨_, rfl⟩
          obtain ⟨t, i, e2⟩ := y
          by_cases he2 : e2 = 0
          · subst he2
            rw [getR_2 l j t i hg hy] at h
            by_cases hv : (Ru.vld t && decide (t.length ≤ 200)) = true
            · rw [if_pos hv] at h
              simp only [Prod.mk.injEq] at h
              obtain ⟨rfl, rfl, _⟩ := h
              have hs2 := Nu.getT_canon _ t i hy
              have e1 : putR ⟨2, 0, ⟨t.toArray⟩⟩ = Nu.put 2 ++ Nu.putT t := by unfold putR; simp
              rw [e1]
              have hv2 : Ru.vld t = true ∧ t.length ≤ 200 := by simpa using hv
              refine ⟨?_, by rw [List.length_append, ← hc.2.1, ← hs2.2.1], ?_, ⟨(by decide : (-9223372036854775808 : Int) ≤ 2), (by decide : (2 : Int) ≤ 9223372036854775807)⟩, ⟨(by decide : (-9223372036854775808 : Int) ≤ 0), (by decide : (0 : Int) ≤ 9223372036854775807)⟩, ?_⟩
              · rw [List.append_assoc, ← List.drop_drop, ← hs2.1]; exact hs
              · have hz : (ByteArray.mk t.toArray).size = t.length := by show t.toArray.size = _; simp
                unfold mayR; simp [hv2.1]; rw [hz]; exact hv2.2
              · show t.toArray.size ≤ _; simp; omega
            · rw [if_neg hv] at h
              simp only [Prod.mk.injEq] at h; omega
          · rw [getR_2e l j t i e2 hg hy he2] at h
            simp only [Prod.mk.injEq] at h; omega
        · rw [getR_x l n j hg h0 h1 h2] at h
          simp only [Prod.mk.injEq] at h; omega
  · rw [getR_err l n j e hg he] at h
    simp only [Prod.mk.injEq] at h; omega

theorem eqR_rfl (r : Raw) : eqR r r = true := by unfold eqR; simp
theorem eqR_eq {a b : Raw} (h : eqR a b = true) : a = b := by
  obtain ⟨k, n, s⟩ := a
  obtain ⟨k2, n2, s2⟩ := b
  unfold eqR at h
  simp only [Bool.and_eq_true, beq_iff_eq] at h
  rw [h.1.1, h.1.2, bytes_eq h.2]
end Go.Proofs.Ytffklbkdmfeimaa
