/-
  A region that draws its order and whose last operation, which waits for all others, may write what the others load: what is held of the world need not hold behind that one.
  There are no conditions.
-/
import Derived.Deep.RegionHeld3
set_option linter.unusedSimpArgs false
set_option linter.unusedVariables false
namespace Go.Proofs.Ytbdengcblncfmaa
open Go
section
variable {P : Program} {ops : Array Oper} {Q : Exit → Act → World → Prop} {md : Region.Mode} {S : World → Prop} {f : Nat}

/-- whatever order is picked from here on; S holds behind every operation but f -/
def AnyF (P : Program) (md : Region.Mode) (ops : Array Oper) (Q : Exit → Act → World → Prop) (S : World → Prop) (f : Nat) : Nat → Array Bool → Act → World → Prop
  | 0, L, a, w => Region.ready md ops L = [] ∧ Q .normal a w
  | n + 1, L, a, w => (Region.ready md ops L = [] → Q .normal a w) ∧ ∀ i ∈ Region.ready md ops L, wpOp P ops Q i (fun b v => (i = f ∨ S v) ∧ AnyF P md ops Q S f n (L.setIfInBounds i true) b v) a w
theorem any_of_f : ∀ (n : Nat) (L : Array Bool) (a : Act) (w : World), AnyF P md ops Q S f n L a w → wpAny P md ops Q n L a w
  | 0, _, _, _, h => h
  | n + 1, _, _, _, h => ⟨h.1, fun i hi => wpOp_mono (fun b v hv => any_of_f n _ b v hv.2) (h.2 i hi)⟩
/-- does operation i come ahead of f in every order? -/
def waits (md : Region.Mode) (ops : Array Oper) (f i : Nat) : Bool := match ops[f]? with
  | some o => o.after.any fun e => Region.binds md e && e.on == i
  | none => false
theorem anyF_first {i : Nat} {o : Oper} {v : Value} (hi : ops[i]? = some o) (hsel : ∀ (j : Nat) (o : Oper) cs b, ops[j]? = some o → o.op ≠ .select cs b) (hQ : ∀ c a w, Q (.panic c) (a.put o.dst v) w → Q (.panic c) a w) (hw : waits md ops f i = true) (n : Nat) :
    ∀ (L : Array Bool) (a : Act) (w : World), (∀ j p, ops[j]? = some p → j ≠ i → L.getD j true = false → (∀ e ∈ p.after, Region.binds md e = true → e.on ≠ i) → o.apart ops p = true) →
      i ∈ Region.ready md ops L → YieldsIf P ops S o v a → S w → AnyF P md ops Q S f n (L.setIfInBounds i true) (a.put o.dst v) w → AnyF P md ops Q S f (n + 1) L a w := by
  have never : ∀ {p : Oper}, ops[f]? = some p → ¬ ∀ e ∈ p.after, Region.binds md e = true → e.on ≠ i := by
    intro p hp hno
    unfold waits at hw
    rw [hp] at hw
    obtain ⟨e, he, hb⟩ := Array.any_eq_true'.1 hw
    rw [Bool.and_eq_true] at hb
    exact hno e he hb.1 (by simpa using hb.2)
  induction n with
  | zero =>
    intro L a w _ hr hy hS H
    refine ⟨fun h0 => (by rw [h0] at hr; cases hr), fun j hj => ?_⟩
    by_cases e : j = i
    · subst e; exact hy.wpOp hi hS ⟨.inr hS, H⟩
    · have h1 := ready_mono hj e
      rw [H.1] at h1; cases h1
  | succ n ih =>
    intro L a w hfree hr hy hS H
    refine ⟨fun h0 => (by rw [h0] at hr; cases hr), fun j hj => ?_⟩
    by_cases e : j = i
    · subst e; exact hy.wpOp hi hS ⟨.inr hS, H⟩
    obtain ⟨hjL, p, hp, hafter⟩ := mem_ready.1 hj
    have hno : ∀ e ∈ p.after, Region.binds md e = true → e.on ≠ i := by
      intro x hx hb hxi
      have h1 := hafter x hx hb
      have h0 := (mem_ready.1 hr).1
      rw [hxi] at h1
      by_cases hsz : i < L.size
      · simp [hsz] at h0 h1
        rw [h0] at h1; cases h1
      · simp [Array.getElem?_eq_none (Nat.le_of_not_lt hsz)] at h1
    have hjf : j ≠ f := by
      rintro rfl
      exact never hp hno
    have h2 := wpOp_putIf hp (hfree j p hp e hjL hno) (fun cs b => hsel i o cs b hi) (fun cs b => hsel j p cs b hp) hQ hy (H.2 j (ready_mono hj e))
    refine wpOp_mono (fun b u hu => ?_) h2
    have hSu : S u := hu.2.1.resolve_left hjf
    refine ⟨.inr hSu, ih (L.setIfInBounds j true) b u (fun k q hq hki hkL hkn => hfree k q hq hki ?_ hkn) (ready_mono hr (Ne.symm e)) hu.1 hSu ?_⟩
    · by_cases ejk : j = k
      · subst ejk; exact hjL
      · rwa [getD_set_ne true ejk] at hkL
    · rw [Array.setIfInBounds_comm _ _ e]; exact hu.2.2
theorem anyF_take {i : Nat} {oi : Oper} {v : Value} {n : Nat} {L : Array Bool} {a : Act} {w : World} (hi : ops[i]? = some oi) (hw : waits md ops f i = true)
    (hs : Region.noSelect ops = true) (hf : Region.free md ops L i = true) (hr : (Region.ready md ops L).contains i = true)
    (hQ : ∀ c a w, Q (.panic c) (a.put oi.dst v) w → Q (.panic c) a w) (hy : YieldsIf P ops S oi v a) (hS : S w)
    (h : AnyF P md ops Q S f n (L.setIfInBounds i true) (a.put oi.dst v) w) : AnyF P md ops Q S f (n + 1) L a w :=
  anyF_first hi (Region.noSelect_spec hs) hQ hw n L a w (Region.free_spec hi hf) (by simpa using hr) hy hS h
/-- number i first, by its place alone -/
theorem tkF {n : Nat} {L : Array Bool} {a : Act} {w : World} (i : Nat) (v : Value) {d : Option Tmp} {x : Op} {t : TypeId} {p : String} {e : Array Edge} {g : Option (Nat × Bool)} (hi : ops[i]? = some ⟨d, x, t, p, e, g⟩)
    (hy : ∀ w, S w → (execOp a.eval ⟨d, x, t, p, e, g⟩).run P w = .ok (.value v) w) (h : AnyF P md ops Q S f n (L.setIfInBounds i true) (a.put d v) w)
    (hb : (waits md ops f i && Region.noSelect ops && Region.free md ops L i && (Region.ready md ops L).contains i) = true := by kernel_rfl) (hQ : ∀ c a w, Q (.panic c) (a.put d v) w → Q (.panic c) a w := by exact fun _ _ _ h => h)
    (hS : S w := by assumption) (hw : Region.wanted ⟨d, x, t, p, e, g⟩ (yielded ops a.tmps) = true := by rfl) : AnyF P md ops Q S f (n + 1) L a w := by
  simp only [Bool.and_eq_true] at hb
  exact anyF_take hi hb.1.1.1 hb.1.1.2 hb.1.2 hb.2 hQ (.inl ⟨hw, hy⟩) hS h
/-- .. whatever way it yields -/
theorem tkG {n : Nat} {L : Array Bool} {a : Act} {w : World} (i : Nat) (v : Value) {d : Option Tmp} {x : Op} {t : TypeId} {p : String} {e : Array Edge} {g : Option (Nat × Bool)} (hi : ops[i]? = some ⟨d, x, t, p, e, g⟩)
    (hy : YieldsIf P ops S ⟨d, x, t, p, e, g⟩ v a) (h : AnyF P md ops Q S f n (L.setIfInBounds i true) (a.put d v) w)
    (hb : (waits md ops f i && Region.noSelect ops && Region.free md ops L i && (Region.ready md ops L).contains i) = true := by kernel_rfl) (hQ : ∀ c a w, Q (.panic c) (a.put d v) w → Q (.panic c) a w := by exact fun _ _ _ h => h)
    (hS : S w := by assumption) : AnyF P md ops Q S f (n + 1) L a w := by
  simp only [Bool.and_eq_true] at hb
  exact anyF_take hi hb.1.1.1 hb.1.1.2 hb.1.2 hb.2 hQ hy hS h
/-- one operation alone may come up -/
theorem anyF_step {i : Nat} {o : Oper} {n : Nat} {L : Array Bool} {a : Act} {w : World} (hr : Region.ready md ops L = [i]) (ho : ops[i]? = some o)
    (h : ∀ K : Act → World → Prop, Shut (∀ b v, (i = f ∨ S v) → AnyF P md ops Q S f n (L.setIfInBounds i true) b v → K b v) → if Region.wanted o (yielded ops a.tmps) = true then Oper.wp P o a w K Q else K (a.put o.dst undef) w) : AnyF P md ops Q S f (n + 1) L a w :=
  ⟨fun h0 => (by rw [h0] at hr; cases hr), fun j hj => by
    rw [hr, List.mem_singleton] at hj
    subst hj
    exact wpOp_step ho (fun K hK => h K (fun b v h1 h2 => hK b v ⟨h1, h2⟩))⟩
theorem stF {n : Nat} {L : Array Bool} {a : Act} {w : World} (i : Nat) {d : Option Tmp} {x : Op} {t : TypeId} {p : String} {e : Array Edge} {g : Option (Nat × Bool)} (hi : ops[i]? = some ⟨d, x, t, p, e, g⟩)
    (h : ∀ K : Act → World → Prop, Shut (∀ b v, (i = f ∨ S v) → AnyF P md ops Q S f n (L.setIfInBounds i true) b v → K b v) → Oper.wp P ⟨d, x, t, p, e, g⟩ a w K Q)
    (hr : Region.ready md ops L = [i] := by kernel_rfl) (hw : Region.wanted ⟨d, x, t, p, e, g⟩ (yielded ops a.tmps) = true := by rfl) : AnyF P md ops Q S f (n + 1) L a w :=
  anyF_step hr hi fun K hK => by rw [if_pos hw]; exact h K hK
theorem anyF_done {L : Array Bool} {a : Act} {w : World} (hr : Region.ready md ops L = []) (h : Q .normal a w) : ∀ n, AnyF P md ops Q S f n L a w
  | 0 => ⟨hr, h⟩
  | _ + 1 => ⟨fun _ => h, by rw [hr]; simp⟩
theorem region_f {id : Nat} {a : Act} {w : World} (f : Nat) (S : World → Prop) (hm : P.follows .mixedOrders = true)
    (h : AnyF P .any ops Q S f ops.size (Array.replicate ops.size false) a w.drew) : (Code.region id ops true).wp P Q a w :=
  wp_region_any hm (any_of_f _ _ _ _ h)
end
end Go.Proofs.Ytbdengcblncfmaa
