/-
  Contracts of the program's functions, of the reference's, and plain lemmas on what they answer (part 3 of 3).
  Each lemma names its conditions.
-/
import Derived.Test.YtmmlkfkepncpgaaCun2
import Derived.Lib.AppendZeros
/-
  LogConf's plain facts: entries some of which name servers; which of these counts.
  There are no conditions beyond those that each lemma names.
-/
namespace Go.Proofs.Ytmmlkfkepncpgaa
open Go.RowKit Go.Deep
set_option maxRecDepth 100000

def t12 : ByteArray := ⟨#[49, 50]⟩
def t1234 : ByteArray := ⟨#[49, 50, 51, 52]⟩
def tx : ByteArray := ⟨#[120]⟩
def t13 : ByteArray := ⟨#[49, 51]⟩
def t123 : ByteArray := ⟨#[49, 50, 51]⟩
/-- an entry as the law makes them -/
def Gd (kd : Int) (d : ByteArray) : Prop := (kd = 1 ∧ d = t12) ∨ (kd = 3 ∧ (d = t12 ∨ d = t1234 ∨ d = tx ∨ d = t13))
def wE (e : Ent) : Option (ByteArray × Int) := if e.kd = 3 ∧ (e.data == tx) = false then some (e.data, e.ix) else none
def wnt (L : List Ent) : ByteArray × Int := (L.reverse.findSome? wE).getD (t123, 5)
theorem dec_good {d : ByteArray} (h : d = t12 ∨ d = t1234 ∨ d = t13 ∨ d = t123) : dec12 d = some (decL d) := by
  unfold dec12
  rw [if_pos]
  rcases h with rfl | rfl | rfl | rfl <;> decide
theorem dec_x : dec12 tx = none := by
  unfold dec12
  rw [if_neg]
  decide
theorem tx_ne {d : ByteArray} (h : d = t12 ∨ d = t1234 ∨ d = t13) : (d == tx) = false := by rcases h with rfl | rfl | rfl <;> decide
theorem cnfE_wE {e : Ent} (h : Gd e.kd e.data) : cnfE e = (wE e).map fun p => (decL p.1, p.2) := by
  unfold cnfE wE
  rcases h with ⟨h1, h2⟩ | ⟨h1, h2⟩
  · rw [if_neg (by omega), if_neg (by omega)]; rfl
  · rw [if_pos h1]
    rcases h2 with h2 | h2 | h2 | h2
    · rw [h2, dec_good (.inl rfl), if_pos ⟨h1, tx_ne (.inl rfl)⟩]; rfl
    · rw [h2, dec_good (.inr (.inl rfl)), if_pos ⟨h1, tx_ne (.inr (.inl rfl))⟩]; rfl
    · rw [h2, dec_x, if_neg (by rintro ⟨_, h⟩; exact absurd h (by decide))]; rfl
    · rw [h2, dec_good (.inr (.inr (.inl rfl))), if_pos ⟨h1, tx_ne (.inr (.inr rfl))⟩]; rfl
theorem find_wE : ∀ {L : List Ent}, (∀ e ∈ L, Gd e.kd e.data) → L.findSome? cnfE = (L.findSome? wE).map fun p => (decL p.1, p.2)
  | [], _ => rfl
  | e :: l, h => by
    rw [List.findSome?_cons, List.findSome?_cons, cnfE_wE (h e (by simp))]
    cases hw : wE e with
    | none => exact find_wE fun x hx => h x (by simp [hx])
    | some p => rfl
def sCnf : Snp := ⟨5, 1, t123, ⟨#[]⟩⟩
theorem cnf_wnt {L : List Ent} (h : ∀ e ∈ L, Gd e.kd e.data) : cnf13 ⟨sCnf, L⟩ = some (decL (wnt L).1, (wnt L).2) := by
  unfold cnf13 wnt
  simp only
  rw [find_wE (fun e he => h e (List.mem_reverse.1 he))]
  cases L.reverse.findSome? wE with
  | none =>
    show (dec12 t123).map _ = _
    rw [dec_good (.inr (.inr (.inr rfl)))]; rfl
  | some p => rfl
theorem wnt_snoc (L : List Ent) (e : Ent) : wnt (L ++ [e]) = match wE e with | some p => p | none => wnt L := by
  unfold wnt
  rw [List.reverse_append]
  show (List.findSome? wE (e :: L.reverse)).getD _ = _
  rw [List.findSome?_cons]
  cases wE e <;> rfl
theorem wnt_size {L : List Ent} (h : ∀ e ∈ L, Gd e.kd e.data) : (wnt L).1.size ≤ 4 ∧ ∀ k (hk : k < (wnt L).1.size), 48 ≤ ((wnt L).1[k]).toNat ∧ ((wnt L).1[k]).toNat < 58 := by
  have key : wnt L = (t123, 5) ∨ ∃ e ∈ L, (wnt L).1 = e.data ∧ (e.data = t12 ∨ e.data = t1234 ∨ e.data = t13) := by
    unfold wnt
    cases hf : L.reverse.findSome? wE with
    | none => exact .inl rfl
    | some p =>
      obtain ⟨e, he, hw⟩ := List.exists_of_findSome?_eq_some hf
      have hg := h e (List.mem_reverse.1 he)
      unfold wE at hw
      split at hw
      · rename_i hc
        injection hw with hw
        subst hw
        refine .inr ⟨e, List.mem_reverse.1 he, rfl, ?_⟩
        rcases hg with ⟨h1, _⟩ | ⟨_, h2⟩
        · omega
        · rcases h2 with h2 | h2 | h2 | h2
          · exact .inl h2
          · exact .inr (.inl h2)
          · rw [h2] at hc; exact absurd hc.2 (by decide)
          · exact .inr (.inr h2)
      · cases hw
  have fin : ∀ d : ByteArray, (d = t12 ∨ d = t1234 ∨ d = t13 ∨ d = t123) → d.size ≤ 4 ∧ ∀ k (hk : k < d.size), 48 ≤ (d[k]).toNat ∧ (d[k]).toNat < 58 := by
    rintro d (rfl | rfl | rfl | rfl)
    all_goals exact ⟨by decide, by decide⟩
  rcases key with h1 | ⟨e, _, h1, h2⟩
  · rw [h1]; exact fin _ (.inr (.inr (.inr rfl)))
  · rw [h1]; rcases h2 with h2 | h2 | h2
    · exact fin _ (.inl h2)
    · exact fin _ (.inr (.inl h2))
    · exact fin _ (.inr (.inr (.inl h2)))
theorem flw_lin : ∀ (L : List Ent) (i : Int), (∀ j (h : j < L.length), L[j].ix = i + 1 + (j : Int) ∧ L[j].et = 1) → flw13 i 1 L = true
  | [], _, _ => rfl
  | x :: l, i, h => by
    have h0 := h 0 (by simp)
    simp only [List.getElem_cons_zero] at h0
    simp only [flw13, Bool.and_eq_true, beq_iff_eq, decide_eq_true_eq]
    refine ⟨⟨by have := h0.1; simp at this; exact this, by rw [h0.2]; decide⟩, ?_⟩
    rw [h0.2]
    refine flw_lin l x.ix fun j hj => ?_
    have h1 := h (j + 1) (by simpa using hj)
    simp only [List.getElem_cons_succ] at h1
    refine ⟨?_, h1.2⟩
    rw [h1.1, h0.1]; push_cast; omega
theorem cnf_new {L : List Ent} (h : ∀ j (h : j < L.length), L[j].ix = 6 + (j : Int) ∧ L[j].et = 1) (hl : L.length ≤ 30) : new13 sCnf L = true := by
  unfold new13
  have := flw_lin L 5 (fun j hj => by have := h j hj; exact ⟨by omega, this.2⟩)
  show ((decide ((0 : Int) ≤ 5) && decide ((5 : Int) ≤ 1099511627776)) && (decide ((0 : Int) ≤ 1) && decide ((1 : Int) ≤ 1099511627776)) && decide (L.length ≤ 200) && flw13 5 1 L) = true
  rw [this, show decide (L.length ≤ 200) = true from decide_eq_true (by omega)]
  decide
theorem gd_size {kd : Int} {d : ByteArray} (h : Gd kd d) : d.size ≤ 100000 := by
  rcases h with ⟨_, rfl⟩ | ⟨_, rfl | rfl | rfl | rfl⟩ <;> decide
/-- the four texts that the law picks of -/
def t4 (p : Nat) : ByteArray := match p with | 0 => t12 | 1 => t1234 | 2 => tx | _ => t13
theorem t4_gd (p : Nat) : Gd 3 (t4 p) := by
  unfold t4
  refine .inr ⟨rfl, ?_⟩
  match p with
  | 0 => exact .inl rfl
  | 1 => exact .inr (.inl rfl)
  | 2 => exact .inr (.inr (.inl rfl))
  | _ + 3 => exact .inr (.inr (.inr rfl))
theorem t4_cell {W : World} {b p : Nat} {t : TypeId} (h : Rt W b t [.string ⟨#[49, 50]⟩, .string ⟨#[49, 50, 51, 52]⟩, .string ⟨#[120]⟩, .string ⟨#[49, 51]⟩]) (hp : p < 4) : W.cell? ⟨b, p, none⟩ = some (.string (t4 p)) := by
  match p, hp with
  | 0, _ => exact h.cell rfl
  | 1, _ => exact h.cell rfl
  | 2, _ => exact h.cell rfl
  | 3, _ => exact h.cell rfl
theorem lin_snoc {L : List Ent} {k : Nat} {e : Ent} (hl : L.length = k) (h : ∀ j (h : j < L.length), L[j].ix = 6 + (j : Int) ∧ L[j].et = 1) (h1 : e.ix = 6 + (k : Int)) (h2 : e.et = 1) : ∀ j (h : j < (L ++ [e]).length), (L ++ [e])[j].ix = 6 + (j : Int) ∧ (L ++ [e])[j].et = 1 := by
  intro j hj
  by_cases hlt : j < L.length
  · rw [List.getElem_append_left hlt]; exact h j hlt
  · have hj2 : j = L.length := by simp at hj; omega
    subst hj2
    rw [List.getElem_append_right (Nat.le_refl _)]
    simp only [Nat.sub_self, List.getElem_cons_zero]
    exact ⟨by rw [h1, hl], h2⟩
theorem gd_snoc {L : List Ent} {e : Ent} (h : ∀ x ∈ L, Gd x.kd x.data) (he : Gd e.kd e.data) : ∀ x ∈ L ++ [e], Gd x.kd x.data := by
  intro x hx
  rcases List.mem_append.1 hx with hx | hx
  · exact h x hx
  · rw [List.mem_singleton] at hx; subst hx; exact he
theorem wE_no (i : Int) : wE ⟨i, 1, 1, t12⟩ = none ∧ wE ⟨i, 1, 3, tx⟩ = none := by
  unfold wE
  exact ⟨if_neg (by rintro ⟨h, _⟩; exact absurd (show (1 : Int) = 3 from h) (by decide)), if_neg (by rintro ⟨_, h⟩; exact absurd (show (tx == tx) = false from h) (by decide))⟩
theorem wE_yes (i : Int) : wE ⟨i, 1, 3, t12⟩ = some (t12, i) ∧ wE ⟨i, 1, 3, t1234⟩ = some (t1234, i) ∧ wE ⟨i, 1, 3, t13⟩ = some (t13, i) := by
  unfold wE
  exact ⟨if_pos ⟨rfl, tx_ne (.inl rfl)⟩, if_pos ⟨rfl, tx_ne (.inr (.inl rfl))⟩, if_pos ⟨rfl, tx_ne (.inr (.inr rfl))⟩⟩
end Go.Proofs.Ytmmlkfkepncpgaa
/-
  Entries of any slice put behind a row of one's own, in a walk.
  There are no conditions beyond those that each lemma names.
-/
set_option linter.unusedSimpArgs false
set_option linter.unusedVariables false
namespace Go.Proofs.Ytmmlkfkepncpgaa
open Go.RowKit Go.Deep
set_option maxRecDepth 100000

theorem append_nilE {w : World} {B n c : Nat} {v : Value} {xs : List Value} (ty : TypeId) (hown : w.ownsRow B 51 4 v n xs) :
    (Builtin.append_ #[24, 24] ty #[v, .slice none 0 c]).run Try.prog w = .ok v w := by
  obtain ⟨iR, hiR, hz, hs, _⟩ := info_parts Try.infoEn
  rcases hown.2 with ⟨rfl, rfl⟩ | ⟨g, cap, cur, rfl, _, _, hnc, _⟩
  · simp [Builtin.append_, run_underlying Try.underlying24, sizeOf, typeInfo, hiR, hs, Builtin.lenOf, Builtin.firstCells]
  · simp [Builtin.append_, run_underlying Try.underlying24, sizeOf, typeInfo, hiR, hs, Builtin.lenOf, Builtin.firstCells, hnc, storeCells]
/-- entries of any slice put behind a row of one's own -/
theorem wp_append_en {w : World} {o : Oper} {a : Act} {K : Act → World → Prop} {Q : Exit → Act → World → Prop} (s x : Operand)
    (ho : o.op = .call { callee := .builtin .append, args := #[s, x], argTypes := #[24, 24] })
    (B : Nat) (N : Nat → Prop) (v u : Value) (L M : List Ent) (hs : a.eval s = v) (hown : OwnEn B v L w) (hx : a.eval x = u) (hu : Ens N w u M) (hlm : L.length + M.length ≤ 1050000) (hB : B ≤ w.heap.size)
    (h : ∀ v' w', OwnEn B v' (L ++ M) w' → Below B w w' → Grew v w v' w' → K (a.put o.dst v') w') : o.wp Try.prog a w K Q := by
  obtain ⟨A, c, rfl, hc, hcell⟩ := id hu
  cases A with
  | some ad =>
    obtain ⟨v', w', hr, h2, h3, h4⟩ := run_append_En w B v L M o.type ad M.length c hown N hu hlm hB
    unfold Oper.wp execOp
    simp only [ho, resolve, invoke, builtin, Sem.run_bind, Sem.run_pure, Result.andThen_ok, List.map_toArray, List.map_cons, List.map_nil, hs, hx, hr]
    exact h v' w' h2 h4 h3
  | none =>
    have hm : M = [] := by
      cases M with
      | nil => rfl
      | cons y t => obtain ⟨g, oo, hA, _⟩ := hcell (by simp); cases hA
    subst hm
    have hrun := append_nilE (c := c) o.type (show w.ownsRow B 51 4 v L.length (L.flatMap Ent.cs) from hown)
    unfold Oper.wp
    simp [execOp, ho, resolve, invoke, builtin, hs, hx, hrun, Result.andThen]
    refine h v w ?_ (Below.refl _ _) ⟨grownBy_refl _ _, .inl rfl⟩
    rw [List.append_nil]; exact hown
theorem wpList_append_en {w : World} {ops : Array Oper} {rest : List Oper} {o : Oper} {a : Act} {Q : Exit → Act → World → Prop} (hgd : o.guard = none) (s x : Operand)
    (ho : o.op = .call { callee := .builtin .append, args := #[s, x], argTypes := #[24, 24] })
    (B : Nat) (N : Nat → Prop) (v u : Value) (L M : List Ent) (hs : a.eval s = v) (hown : OwnEn B v L w) (hx : a.eval x = u) (hu : Ens N w u M) (hlm : L.length + M.length ≤ 1050000) (hB : B ≤ w.heap.size)
    (h : ∀ v' w', OwnEn B v' (L ++ M) w' → Below B w w' → Grew v w v' w' → wpList Try.prog ops Q rest (a.put o.dst v') w') : wpList Try.prog ops Q (o :: rest) a w :=
  wpList_plain hgd fun _ hK => wp_append_en s x ho B N v u L M hs hown hx hu hlm hB fun v' w' h1 h2 h3 => hK _ _ (h v' w' h1 h2 h3)
/-- a slice of one entry -/
theorem en_one {N : Nat → Prop} {w : World} {g : Nat} {ix et kd : Int} {dt : ByteArray} {t : TypeId} (h : Rt w g t [.int .i64 ix, .int .i64 et, .int .i64 kd, .string dt]) (hN : N g) : Ens N w (.slice (some ⟨g, 0, none⟩) 1 1) [⟨ix, et, kd, dt⟩] := ⟨_, _, rfl, Nat.le_refl _, fun _ => ⟨_, 0, rfl, hN, fun j hj => by
  have : j = 0 := by simpa using hj
  subst this
  intro i z hz
  show w.cell? ⟨g, 0 + 0 * 4 + i, none⟩ = _
  rw [show 0 + 0 * 4 + i = i by omega]
  exact h.cell hz⟩⟩
end Go.Proofs.Ytmmlkfkepncpgaa
