/-
  A region that draws its order, of whose world something is held: an operation by its place alone.
  There are no conditions.
-/
import Derived.Deep.RegionHeld3
set_option linter.unusedSimpArgs false
set_option linter.unusedVariables false
namespace Go.Proofs.Ytoekiencnbgmhaa
open Go
section
variable {P : Program} {ops : Array Oper} {Q : Exit → Act → World → Prop} {md : Region.Mode} {S : World → Prop}
/-- number i first: it yields v wherever S holds -/
theorem tkH {n : Nat} {L : Array Bool} {a : Act} {w : World} (i : Nat) (v : Value) {d : Option Tmp} {x : Op} {t : TypeId} {p : String} {e : Array Edge} {g : Option (Nat × Bool)} (hi : ops[i]? = some ⟨d, x, t, p, e, g⟩)
    (hy : ∀ w, S w → (execOp a.eval ⟨d, x, t, p, e, g⟩).run P w = .ok (.value v) w) (h : wpAnyH P md ops Q S n (L.setIfInBounds i true) (a.put d v) w)
    (hb : (Region.noSelect ops && Region.free md ops L i && (Region.ready md ops L).contains i) = true := by kernel_rfl) (hQ : ∀ c a w, Q (.panic c) (a.put d v) w → Q (.panic c) a w := by exact fun _ _ _ h => h)
    (hS : S w := by assumption) (hw : Region.wanted ⟨d, x, t, p, e, g⟩ (yielded ops a.tmps) = true := by rfl) : wpAnyH P md ops Q S (n + 1) L a w := by
  simp only [Bool.and_eq_true] at hb
  exact wpAnyH_take hi hb.1.1 hb.1.2 hb.2 hQ (.inl ⟨hw, hy⟩) hS h
/-- number i is not wanted -/
theorem skH {n : Nat} {L : Array Bool} {a : Act} {w : World} (i : Nat) {d : Option Tmp} {x : Op} {t : TypeId} {p : String} {e : Array Edge} {g : Option (Nat × Bool)} (hi : ops[i]? = some ⟨d, x, t, p, e, g⟩)
    (h : wpAnyH P md ops Q S n (L.setIfInBounds i true) (a.put d undef) w)
    (hb : (Region.noSelect ops && Region.free md ops L i && (Region.ready md ops L).contains i) = true := by kernel_rfl) (hQ : ∀ c a w, Q (.panic c) (a.put d undef) w → Q (.panic c) a w := by exact fun _ _ _ h => h)
    (hS : S w := by assumption) (hw : Region.wanted ⟨d, x, t, p, e, g⟩ (yielded ops a.tmps) = false := by rfl) : wpAnyH P md ops Q S (n + 1) L a w := by
  simp only [Bool.and_eq_true] at hb
  exact wpAnyH_take hi hb.1.1 hb.1.2 hb.2 hQ (.inr ⟨hw, rfl⟩) hS h
/-- number i alone may come up -/
theorem stH {n : Nat} {L : Array Bool} {a : Act} {w : World} (i : Nat) {d : Option Tmp} {x : Op} {t : TypeId} {p : String} {e : Array Edge} {g : Option (Nat × Bool)} (hi : ops[i]? = some ⟨d, x, t, p, e, g⟩)
    (h : ∀ K : Act → World → Prop, Shut (∀ a w, S w → (S w → wpAnyH P md ops Q S n (L.setIfInBounds i true) a w) → K a w) → Oper.wp P ⟨d, x, t, p, e, g⟩ a w K Q)
    (hr : Region.ready md ops L = [i] := by kernel_rfl) (hw : Region.wanted ⟨d, x, t, p, e, g⟩ (yielded ops a.tmps) = true := by rfl) : wpAnyH P md ops Q S (n + 1) L a w :=
  wpAnyH_ready hr (by simp) (AllReadyH.cons hi (fun K hK => by rw [if_pos hw]; exact h K hK) AllReadyH.nil)
/-- one of two may come up -/
theorem stH2 {n : Nat} {L : Array Bool} {a : Act} {w : World} (i j : Nat) {d : Option Tmp} {x : Op} {t : TypeId} {p : String} {e : Array Edge} {g : Option (Nat × Bool)} (hi : ops[i]? = some ⟨d, x, t, p, e, g⟩)
    {d2 : Option Tmp} {x2 : Op} {t2 : TypeId} {p2 : String} {e2 : Array Edge} {g2 : Option (Nat × Bool)} (hj : ops[j]? = some ⟨d2, x2, t2, p2, e2, g2⟩)
    (h : ∀ K : Act → World → Prop, Shut (∀ a w, S w → (S w → wpAnyH P md ops Q S n (L.setIfInBounds i true) a w) → K a w) → Oper.wp P ⟨d, x, t, p, e, g⟩ a w K Q)
    (h2 : ∀ K : Act → World → Prop, Shut (∀ a w, S w → (S w → wpAnyH P md ops Q S n (L.setIfInBounds j true) a w) → K a w) → Oper.wp P ⟨d2, x2, t2, p2, e2, g2⟩ a w K Q)
    (hr : Region.ready md ops L = [i, j] := by kernel_rfl) (hw : Region.wanted ⟨d, x, t, p, e, g⟩ (yielded ops a.tmps) = true := by rfl) (hw2 : Region.wanted ⟨d2, x2, t2, p2, e2, g2⟩ (yielded ops a.tmps) = true := by rfl) : wpAnyH P md ops Q S (n + 1) L a w :=
  wpAnyH_ready hr (by simp) (AllReadyH.cons hi (fun K hK => by rw [if_pos hw]; exact h K hK) (AllReadyH.cons hj (fun K hK => by rw [if_pos hw2]; exact h2 K hK) AllReadyH.nil))
end
end Go.Proofs.Ytoekiencnbgmhaa
