/-
  What the laws on lists of servers need besides: contracts by lengths, the slice of int64 that came in, the numbers of servers.
  There are no conditions beyond those that each lemma names.
-/
import Derived.Test.YtoekiencnbgmhaaC12Begun
import Derived.Test.YtoekiencnbgmhaaL7Ints
import Derived.Test.YtoekiencnbgmhaaL4Cut
import Derived.Test.YtoekiencnbgmhaaL1Cut
set_option linter.unusedSimpArgs false
set_option linter.unusedVariables false
namespace Go.Proofs.Ytoekiencnbgmhaa
open Go.RowKit Go.WideShapes Go.ChangeShapes Go.Joins Go.Deep
set_option maxRecDepth 100000

theorem Try.cellsI64c : Try.prog.cellsOf 2 = 1 := by kernel_rfl
section
variable {H : Type} {enc : TypeId × Value → H} {W : World} {b0 : Nat} {r : Reach} {v : Value} {d : DataW H} {p : List MemPlace}
end
/-- a list, and whether there is one -/
def optL (r : Option (List Int)) : List Int × Bool := (r.getD [], r.isSome)
theorem Dec12.chg {r : Option (List Int)} {w w' : World} {e : Ending} (h : Dec12 r w e w') : Chg12 (optL r) w e w' := by
  cases r with
  | none => obtain ⟨h1, rfl⟩ := h; exact Chg12.none12 h1
  | some l => obtain ⟨h1, A, c, rfl, h2⟩ := h; exact ⟨h1, A, c, rfl, h2⟩
theorem add_optL (l : List Int) (k : Int) : optL (add12 l k) = change12 l k true := by
  rw [← add_change]
  unfold optL
  cases add12 l k <;> rfl
theorem rem_optL (l : List Int) (k : Int) : optL (rem12 l k) = if (change12 l k false).2 = true then change12 l k false else ([], false) := by
  rw [← rem_change]
  unfold optL
  cases rem12 l k <;> rfl
theorem rem_optL_some {l : List Int} {k : Int} {R : List Int} (h : change12 l k false = (R, true)) : optL (rem12 l k) = (R, true) := by rw [rem_optL, h]; rfl
theorem rem_optL_none {l : List Int} {k : Int} {R : List Int} (h : change12 l k false = (R, false)) : optL (rem12 l k) = ([], false) := by rw [rem_optL, h]; rfl
section
variable {A : Option Addr} {c n : Nat} {L : List Int} {w : World}
theorem decp_n (s : ByteArray) (hl : s.size ≤ 1000000) {R : List Int} {b : Bool} (hr : optL (dec12 s) = (R, b)) {m : Nat} (hm : R.length = m) : Calls Try.prog 67 #[.string s] w fun e w' => Below w.heap.size w w' ∧ ∃ A c, e = .returned (.tuple #[.slice A m c, .bool b]) ∧ Ints w' w'.heap.size (.slice A m c) R := by
  subst hm
  refine (dec_n s hl rfl).mono fun e w' h9 => ?_
  have h9 := h9.chg
  rw [hr] at h9
  exact h9
theorem rdecp_n (s : ByteArray) (hl : s.size ≤ 1000) {R : List Int} {b : Bool} (hr : optL (dec12 s) = (R, b)) {m : Nat} (hm : R.length = m) : Calls Try.prog 79 #[.string s] w fun e w' => Below w.heap.size w w' ∧ ∃ A c, e = .returned (.tuple #[.slice A m c, .bool b]) ∧ Ints w' w'.heap.size (.slice A m c) R := by
  subst hm
  refine (rdecode12_w s w hl).mono fun e w' h9 => ?_
  have h9 := h9.chg
  rw [hr] at h9
  exact h9
theorem rmay_n (h : Ints w w.heap.size (.slice A n c) L) (hn : L.length = n) (hl : n ≤ 1000) {b : Bool} (hb : may12 L = b) : Calls Try.prog 29 #[.slice A n c] w fun e w' => e = .returned (.bool b) ∧ Below w.heap.size w w' := by subst hn; subst hb; exact rmay12_w A c _ L w h hl
theorem rhas_n (x : Int) (h : Ints w w.heap.size (.slice A n c) L) (hn : L.length = n) (hl : n ≤ 1000) {b : Bool} (hb : L.contains x = b) : Calls Try.prog 30 #[.slice A n c, .int .i64 x] w fun e w' => e = .returned (.bool b) ∧ w = w' := by subst hn; subst hb; exact rhas12_w A c _ L x w h hl
end
theorem addp_len (L : List Int) (x : Int) (hl : L.length ≤ 12) {R : List Int} {b : Bool} (hr : optL (add12 L x) = (R, b)) : R.length ≤ 13 := by
  unfold optL add12 at hr
  split at hr
  · injection hr with h1 h2
    rw [← h1]
    show (ins12 L x).length ≤ 13
    rw [ins_len]; omega
  · injection hr with h1 h2
    rw [← h1]
    show ([] : List Int).length ≤ 13
    decide
theorem chg_len (L : List Int) (x : Int) (a : Bool) {R : List Int} {b : Bool} (hr : change12 L x a = (R, b)) : R.length ≤ 7 := by
  unfold change12 at hr
  split at hr
  · injection hr with h1 h2
    rw [← h1, chg_setN]
    exact setN_len _ _
  · injection hr with h1 h2
    rw [← h1]
    exact Nat.zero_le _
theorem dec_len (s : ByteArray) (hs : s.size ≤ 12) {R : List Int} {b : Bool} (hr : optL (dec12 s) = (R, b)) : R.length ≤ 12 := by
  unfold optL dec12 at hr
  split at hr
  · injection hr with h1 h2
    rw [← h1]
    show (decL s).length ≤ 12
    rw [decL_len]; exact hs
  · injection hr with h1 h2
    rw [← h1]
    exact Nat.zero_le _
/-- lists that differ by one at the most -/
def NR (L M : List Int) : Prop := (L.Sublist M ∧ M.length ≤ L.length + 1) ∨ (M.Sublist L ∧ L.length ≤ M.length + 1)
theorem NR.refl (L : List Int) : NR L L := .inl ⟨List.Sublist.refl _, by omega⟩
theorem add_NR {L M : List Int} {x : Int} (h : optL (add12 L x) = (M, true)) : NR L M := by
  unfold optL add12 at h
  split at h
  · injection h with h1 h2
    rw [← h1]
    exact .inl ⟨ins_sub L x, by show (ins12 L x).length ≤ _; rw [ins_len]; omega⟩
  · injection h with h1 h2
    cases h2
theorem rem_NR {L M : List Int} {x : Int} (h : optL (rem12 L x) = (M, true)) : NR L M := by
  unfold optL rem12 at h
  split at h
  · injection h with h1 h2
    rw [← h1]
    exact .inr ⟨del_sub L x, del_len L x⟩
  · injection h with h1 h2
    cases h2
theorem NR.len {L M : List Int} (h : NR L M) : M.length ≤ L.length + 1 := by
  rcases h with h | h
  · exact h.2
  · have := h.1.length_le; omega
theorem NR.meet {L M X Y : List Int} (h : NR L M) (h1 : maj12 L X = true) (h2 : maj12 M Y = true) : ∃ z ∈ X, Y.contains z = true ∧ (L.contains z = true ∨ M.contains z = true) := by
  rcases h with h | h
  · obtain ⟨z, hx, hy, hm⟩ := meet_sub h.1 h.2 h1 (.inl h2)
    exact ⟨z, hx, by simpa using hy, .inr (by simpa using hm)⟩
  · obtain ⟨z, hx, hy, hm⟩ := meet_sub' h.1 h.2 h1 h2
    exact ⟨z, hx, by simpa using hy, .inl (by simpa using hm)⟩
/-- rows of one's own that are apart -/
def Apart12 (u v : Value) : Prop := ∀ g, u.ownBlock = some g → v.ownBlock ≠ some g
theorem Apart12.symm {u v : Value} (h : Apart12 u v) : Apart12 v u := fun g h1 h2 => h g h2 h1
theorem wpList_append_ints_at {w : World} {ops : Array Oper} {rest : List Oper} {o : Oper} {a : Act} {Q : Exit → Act → World → Prop} (hgd : o.guard = none) (s x : Operand)
    (ho : o.op = .call { callee := .builtin .append, args := #[s, x], argTypes := #[50, 50] })
    (B C : Nat) (v u : Value) (l m : List Int) (hs : a.eval s = v) (hown : OwnZ B v l w) (hx : a.eval x = u) (hu : Ints w C u m) (hlm : l.length + m.length ≤ 1000000) (hB : B ≤ w.heap.size)
    (h : ∀ v' w', OwnZ B v' (l ++ m) w' → Below B w w' → w.grownBy w' v.ownBlock → (v'.ownBlock = v.ownBlock ∨ v'.ownBlock = some w.heap.size) → wpList Try.prog ops Q rest (a.put o.dst v') w') : wpList Try.prog ops Q (o :: rest) a w :=
  wpList_plain hgd fun _ hK => wp_append_ints s x ho B C v u l m hs hown hx hu hlm hB fun v' w' h1 h2 h3 h4 => hK _ _ (h v' w' h1 h2 h3 h4)
theorem apart_step {B : Nat} {u v u' : Value} {m : List Int} {w w' : World} (hO2 : OwnZ B v m w) (ha : Apart12 u v) (hg : w.grownBy w' u.ownBlock) (hb : u'.ownBlock = u.ownBlock ∨ u'.ownBlock = some w.heap.size) : OwnZ B v m w' ∧ Apart12 u' v := by
  refine ⟨World.ownsRow.kept hO2 hg ?_, fun g h1 h2 => ?_⟩
  · cases e : v.ownBlock with
    | none => exact .inl rfl
    | some g => exact .inr fun e2 => ha g e2.symm e
  · rcases hb with h | h
    · exact ha g (by rw [← h]; exact h1) h2
    · rw [h] at h1
      injection h1 with h1
      have := (World.ownsRow.lt hO2 g h2).2
      omega
/-- a server's number out of any number -/
theorem server12 (a : Int) : ∃ (r : Int) (q : Nat), Int.tmod a 7 = r ∧ -6 ≤ r ∧ r ≤ 6 ∧ Int.tmod (r + 7) 7 = (q : Int) ∧ q ≤ 6 := by
  have h1 := Int.tmod_lt_of_pos a (show (0 : Int) < 7 by decide)
  have h2 : -7 < Int.tmod a 7 := by
    have := Int.tmod_lt_of_pos (-a) (show (0 : Int) < 7 by decide)
    rw [Int.neg_tmod] at this; omega
  have h3 := Int.tmod_lt_of_pos (Int.tmod a 7 + 7) (show (0 : Int) < 7 by decide)
  have h4 := Int.tmod_nonneg 7 (show 0 ≤ Int.tmod a 7 + 7 by omega)
  exact ⟨_, (Int.tmod (Int.tmod a 7 + 7) 7).toNat, rfl, by omega, by omega, by omega, by omega⟩
theorem one_is {L : List Int} (hl : mayF 0 L = true) (h0 : 0 < L.length) {x : Int} (h1 : 1 ≤ x) (h7 : x ≤ 7) (hc : L.contains x = false) :
    may12 (ins12 L x) = true ∧ (ins12 L x).length ≠ 1 ∧ (ins12 L x).contains x = true ∧ del12 (ins12 L x) x = L ∧ near12 L (ins12 L x) = true ∧ near12 (ins12 L x) L = true := by
  have := all_may2 one_all hl h1 h7
  rw [hc, decide_eq_true h0] at this
  simpa [and_assoc] using this
end Go.Proofs.Ytoekiencnbgmhaa
