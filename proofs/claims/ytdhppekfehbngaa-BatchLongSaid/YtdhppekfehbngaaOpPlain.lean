/-
  Plain facts on batches written as bytes, with no program's run in them: what is written is read again, so two that may be have one text of bytes only if they are one.
  The conditions are the ranges of the integers and that the batch may be.
-/
import Derived.Test.YtdhppekfehbngaaReEncodeBatch
import Derived.Test.YtdhppekfehbngaaReGetRaw
import Derived.Test.YtdhppekfehbngaaReEqBatch
import Derived.Test.YtdhppekfehbngaaRawPlain
set_option linter.unusedSimpArgs false
set_option linter.unusedVariables false
namespace Go.Proofs.Ytdhppekfehbngaa
open Go.RowKit
set_option maxRecDepth 100000

theorem zR_of {r : Raw} (h : eqR r zR = true) : r = zR := by
  obtain ⟨k, n, s⟩ := r
  unfold eqR zR at h
  simp at h
  have : s = ⟨#[]⟩ := bytes_eq (by simp [h.2])
  rw [h.1.1, h.1.2, this]; rfl
/-- an operation at the beginning of bytes, and what stands behind it -/
def pOp (l : List UInt8) : Option (Opn × List UInt8) :=
  (pNum l).bind fun a => (pTxt a.2).bind fun b =>
    if a.1 = 1 then (pRaw b.2).bind fun c => some (⟨1, b.1, c.1, zR, 0⟩, c.2)
    else if a.1 = 2 then some (⟨2, b.1, zR, zR, 0⟩, b.2)
    else if a.1 = 3 then (pRaw b.2).bind fun c => (pRaw c.2).bind fun d => some (⟨3, b.1, c.1, d.1, 0⟩, d.2)
    else if a.1 = 4 then (pNum b.2).bind fun c => some (⟨4, b.1, zR, zR, c.1⟩, c.2)
    else none
theorem pOp_bytesO (o : Opn) (r : List UInt8) (h : mayO o = true) (hok : o.ok) : pOp (bytesO o ++ r) = some (o, r) := by
  obtain ⟨k, y, v, q, n⟩ := o
  obtain ⟨⟨k0, k1⟩, hy, hv, hq, ⟨n0, n1⟩⟩ := hok
  simp only at k0 k1 hy hv hq n0 n1
  unfold mayO mayKind at h
  simp only [Bool.and_eq_true] at h
  obtain ⟨_, h⟩ := h
  unfold bytesO pOp
  simp only [List.append_assoc]
  rw [pNum_put k _ k0 k1]
  simp only [Option.bind_some]
  rw [pTxt_putT y _ hy]
  simp only [Option.bind_some]
  by_cases h1 : k = 1
  · subst h1
    simp at h
    simp only [if_true]
    rw [pRaw_putR v r h.1.1.2 hv]
    simp only [Option.bind_some]
    rw [zR_of h.1.2, h.2]
  · by_cases h2 : k = 2
    · subst h2
      simp at h
      simp only [show ¬ (2 : Int) = 1 by decide, show ¬ (2 : Int) = 3 by decide, show ¬ (2 : Int) = 4 by decide, if_false, if_true, List.nil_append]
      rw [zR_of h.1.1, zR_of h.1.2, h.2]
    · by_cases h3 : k = 3
      · subst h3
        simp at h
        simp only [show ¬ (3 : Int) = 1 by decide, show ¬ (3 : Int) = 2 by decide, if_false, if_true, List.append_assoc]
        rw [pRaw_putR v _ h.1.1.1 hv]
        simp only [Option.bind_some]
        rw [pRaw_putR q _ h.1.1.2 hq]
        simp only [Option.bind_some]
        rw [h.2]
      · by_cases h4 : k = 4
        · subst h4
          simp at h
          simp only [show ¬ (4 : Int) = 1 by decide, show ¬ (4 : Int) = 2 by decide, show ¬ (4 : Int) = 3 by decide, if_false, if_true]
          rw [pNum_put n r n0 n1]
          simp only [Option.bind_some]
          rw [zR_of h.1.1.1, zR_of h.1.1.2]
        · simp [h1, h2, h3, h4] at h
/-- so many operations -/
def pOps : Nat → List UInt8 → Option (List Opn × List UInt8)
  | 0, l => some ([], l)
  | n + 1, l => (pOp l).bind fun a => (pOps n a.2).bind fun b => some (a.1 :: b.1, b.2)
theorem pOps_flat : ∀ (os : List Opn) (r : List UInt8), (∀ x ∈ os, mayO x = true) → (∀ x ∈ os, x.ok) → pOps os.length (os.flatMap bytesO ++ r) = some (os, r)
  | [], r, _, _ => by simp [pOps]
  | x :: t, r, h, hok => by
    simp only [List.length_cons, pOps, List.flatMap_cons, List.append_assoc]
    rw [pOp_bytesO x _ (h x (by simp)) (hok x (by simp))]
    simp only [Option.bind_some]
    rw [pOps_flat t r (fun z hz => h z (by simp [hz])) (fun z hz => hok z (by simp [hz]))]
    simp
/-- a batch at the beginning of bytes -/
def pBat (l : List UInt8) : Option (Bat × List UInt8) :=
  (pNum l).bind fun a => (pNum a.2).bind fun b => (pNum b.2).bind fun c => (pOps c.1.toNat c.2).bind fun d => some (⟨a.1, b.1, d.1⟩, d.2)
theorem mayB_ops {b : Bat} (h : mayB b = true) : ∀ x ∈ b.ops, mayO x = true := by
  unfold mayB mayOs at h
  simp only [Bool.and_eq_true] at h
  exact List.all_eq_true.1 h.1.2.2
theorem mayB_len {b : Bat} (h : mayB b = true) : 1 ≤ b.ops.length ∧ b.ops.length ≤ 8 := by
  unfold mayB mayOs at h
  simp only [Bool.and_eq_true, decide_eq_true_eq] at h
  exact ⟨h.1.2.1.1, h.1.2.1.2⟩
theorem pBat_bytesB (b : Bat) (r : List UInt8) (h : mayB b = true) (hok : b.ok) : pBat (bytesB b ++ r) = some (b, r) := by
  have hl := mayB_len h
  unfold pBat bytesB
  simp only [List.append_assoc]
  rw [pNum_put _ _ hok.1.1 hok.1.2]
  simp only [Option.bind_some]
  rw [pNum_put _ _ hok.2.1.1 hok.2.1.2]
  simp only [Option.bind_some]
  rw [pNum_put _ _ (by omega) (by omega)]
  simp only [Option.bind_some, Int.toNat_natCast]
  rw [pOps_flat b.ops r (mayB_ops h) hok.2.2]
  rfl
/-- two batches that may be, whose bytes begin one text: they are one -/
theorem bytesB_inj {a b : Bat} {r t : List UInt8} (ha : mayB a = true) (hb : mayB b = true) (hao : a.ok) (hbo : b.ok) (h : bytesB a ++ r = bytesB b ++ t) : a = b ∧ r = t := by
  have h1 := pBat_bytesB a r ha hao
  rw [h, pBat_bytesB b t hb hbo] at h1
  simp only [Option.some.injEq, Prod.mk.injEq] at h1
  exact ⟨h1.1.symm, h1.2.symm⟩
theorem eqO_rfl (o : Opn) : eqO o o = true := by unfold eqO; simp [eqR_rfl]
theorem eqOs_rfl (l : List Opn) : eqOs l l = true := by
    have hl : l.length = l.length := rfl
    unfold eqOs
    rw [decide_eq_true hl, Bool.true_and, List.all_eq_true]
    intro p hp
    have : p.1 = p.2 := by
      obtain ⟨k, hk, rfl⟩ := List.getElem_of_mem hp
      simp
    rw [this]; exact eqO_rfl _
theorem eqB_rfl (b : Bat) : eqB b b = true := by unfold eqB; simp [eqOs_rfl]
theorem eqO_eq {a b : Opn} (h : eqO a b = true) : a = b := by
  obtain ⟨k, y, v, q, n⟩ := a
  obtain ⟨k2, y2, v2, q2, n2⟩ := b
  unfold eqO at h
  simp only [Bool.and_eq_true, beq_iff_eq] at h
  obtain ⟨⟨⟨⟨h1, h2⟩, h3⟩, h4⟩, h5⟩ := h
  rw [h1, bytes_eq h2, eqR_eq h3, eqR_eq h4, h5]
theorem eqOs_eq : ∀ {l m : List Opn}, eqOs l m = true → l = m
  | [], [], _ => rfl
  | [], _ :: _, h => by simp [eqOs] at h
  | _ :: _, [], h => by simp [eqOs] at h
  | x :: l, y :: m, h => by
    unfold eqOs at h
    simp only [Bool.and_eq_true, decide_eq_true_eq, List.length_cons, List.zip_cons_cons, List.all_cons] at h
    have h2 : eqOs l m = true := by
      have hl : l.length = m.length := by omega
      unfold eqOs; rw [decide_eq_true hl, Bool.true_and]; exact h.2.2
    rw [eqO_eq h.2.1, eqOs_eq h2]
theorem eqB_iff {a b : Bat} : eqB a b = true ↔ a = b := by
  constructor
  · intro h
    obtain ⟨c, s, l⟩ := a
    obtain ⟨c2, s2, l2⟩ := b
    unfold eqB at h
    simp only [Bool.and_eq_true, beq_iff_eq] at h
    rw [h.1.1, h.1.2, eqOs_eq h.2]
  · rintro rfl; exact eqB_rfl _
end Go.Proofs.Ytdhppekfehbngaa
