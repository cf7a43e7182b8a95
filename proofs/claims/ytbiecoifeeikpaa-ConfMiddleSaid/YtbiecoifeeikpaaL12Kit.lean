/-
  What the laws on lists of servers need besides: contracts by lengths, the slice of int64 that came in, the numbers of servers.
  There are no conditions beyond those that each lemma names.
-/
import Derived.Test.YtbiecoifeeikpaaC12Begun
import Derived.Test.YtbiecoifeeikpaaL7Ints
import Derived.Test.YtbiecoifeeikpaaL4Cut
import Derived.Test.YtbiecoifeeikpaaL1Cut
namespace Go.Proofs.Ytbiecoifeeikpaa
open Go.RowKit Go.WideShapes Go.ChangeShapes Go.Joins Go.Deep
set_option maxRecDepth 100000

theorem Try.cellsI64c : Try.prog.cellsOf 2 = 1 := by kernel_rfl
section
variable {H : Type} {enc : TypeId × Value → H} {W : World} {b0 : Nat} {r : Reach} {v : Value} {d : DataW H} {p : List MemPlace}
theorem open_i64s12 (hv : Value.okWide Try.prog W r b0 38 v) (h : DataW.Trod enc Try.prog W 0 (fun _ => true) true 38 v d p) :
    ∃ (A : Option Addr) (c : Nat) (l : List Int), v = .slice A l.length c ∧ Ints W W.heap.size (.slice A l.length c) l ∧ ∀ x ∈ l, I64 x := by
  obtain ⟨a0, len, cap, rfl⟩ := okWide_slice Try.underlying38 hv
  obtain ⟨fuel, hf⟩ := h
  have hf2 : DataW.trod enc Try.prog W 0 (fun _ => true) true fuel 38 [.slice a0 len cap] = some (d, p) := by simpa [Value.cells] using hf
  rcases open_slice1 Try.underlying38 Try.cellsI64c hf2 with ⟨hcs, _⟩ | ⟨a, len', cap', m, n, V, D, Pl, hcs, _, hl, hm, hmm, _, hx⟩
  · simp only [List.cons.injEq, and_true] at hcs
    injection hcs with e1 e2 e3
    subst e1; subst e2; subst e3
    exact ⟨none, 0, [], rfl, ⟨none, 0, rfl, Nat.le_refl _, fun h => absurd h (by decide)⟩, fun x hx => by cases hx⟩
  · simp only [List.cons.injEq, and_true] at hcs
    injection hcs with e1 e2 e3
    subst e1; subst e2; subst e3
    simp only [if_true] at hmm
    subst hmm
    have hS : ∀ i, i < len → ∃ s : Int, W.cell? (a.add i) = some (.int .i64 s) ∧ I64 s := fun i hi => by
      obtain ⟨h1, h2⟩ := hx i (by omega)
      obtain ⟨s, e, _, hs⟩ := DataW.trod_int Try.underlying2 h2
      simp only [List.cons.injEq, and_true] at e
      exact ⟨s, by rw [h1, e], i64_wf hs⟩
    obtain ⟨f, hf⟩ := choose_lt (α := Int) (p := fun i s => W.cell? (a.add i) = some (.int .i64 s) ∧ I64 s) hS
    have hln : ((List.range len).map f).length = len := by simp
    refine ⟨some a, m, (List.range len).map f, by rw [hln], ?_, fun x hx => ?_⟩
    · refine ⟨some a, m, rfl, by rw [hln]; exact hl, fun h0 => ?_⟩
      rw [hln] at h0
      have hc0 := (hf 0 h0).1
      obtain ⟨g, o, spot⟩ := a
      have hspot : spot = Option.none := by simpa [Addr.add] using World.cell?_spot hc0
      subst hspot
      refine ⟨g, o, rfl, ?_, fun k hk => ?_⟩
      · have := cell_in hc0; simpa [Addr.add] using this
      · rw [hln] at hk
        have := (hf k hk).1
        rw [add7] at this
        rw [this]; simp
    · obtain ⟨i, hi, rfl⟩ := List.mem_map.1 hx
      exact (hf i (List.mem_range.1 hi)).2
end
/-- a list, and whether there is one -/
def optL (r : Option (List Int)) : List Int × Bool := (r.getD [], r.isSome)
theorem Dec12.chg {r : Option (List Int)} {w w' : World} {e : Ending} (h : Dec12 r w e w') : Chg12 (optL r) w e w' := by
  cases r with
  | none => obtain ⟨h1, rfl⟩ := h; exact Chg12.none12 h1
  | some l => obtain ⟨h1, A, c, rfl, h2⟩ := h; exact ⟨h1, A, c, rfl, h2⟩
theorem add_optL (l : List Int) (k : Int) : optL (add12 l k) = change12 l k true := by
  rw [← add_change]
  unfold optL
  cases add12 l k <;> rfl
theorem rem_optL (l : List Int) (k : Int) : optL (rem12 l k) = if (change12 l k false).2 = true then change12 l k false else ([], false) := by
  rw [← rem_change]
  unfold optL
  cases rem12 l k <;> rfl
theorem rem_optL_some {l : List Int} {k : Int} {R : List Int} (h : change12 l k false = (R, true)) : optL (rem12 l k) = (R, true) := by rw [rem_optL, h]; rfl
theorem rem_optL_none {l : List Int} {k : Int} {R : List Int} (h : change12 l k false = (R, false)) : optL (rem12 l k) = ([], false) := by rw [rem_optL, h]; rfl
section
variable {A : Option Addr} {c n : Nat} {L : List Int} {w : World}
theorem addp_n (x : Int) (h : Ints w w.heap.size (.slice A n c) L) (hn : L.length = n) (hl : n ≤ 1000) {R : List Int} {b : Bool} (hr : optL (add12 L x) = (R, b)) {m : Nat} (hm : R.length = m) : Calls Try.prog 10 #[.slice A n c, .int .i64 x] w fun e w' => Below w.heap.size w w' ∧ ∃ A c, e = .returned (.tuple #[.slice A m c, .bool b]) ∧ Ints w' w'.heap.size (.slice A m c) R := by
  subst hm
  refine (add_n x h hn hl rfl).mono fun e w' h9 => ?_
  have h9 := h9.chg
  rw [hr] at h9
  exact h9
theorem remp_n (x : Int) (h : Ints w w.heap.size (.slice A n c) L) (hn : L.length = n) (hl : n ≤ 1000) {R : List Int} {b : Bool} (hr : optL (rem12 L x) = (R, b)) {m : Nat} (hm : R.length = m) : Calls Try.prog 12 #[.slice A n c, .int .i64 x] w fun e w' => Below w.heap.size w w' ∧ ∃ A c, e = .returned (.tuple #[.slice A m c, .bool b]) ∧ Ints w' w'.heap.size (.slice A m c) R := by
  subst hm
  refine (rem_n x h hn hl rfl).mono fun e w' h9 => ?_
  have h9 := h9.chg
  rw [hr] at h9
  exact h9
theorem decp_n (s : ByteArray) (hl : s.size ≤ 1000000) {R : List Int} {b : Bool} (hr : optL (dec12 s) = (R, b)) {m : Nat} (hm : R.length = m) : Calls Try.prog 13 #[.string s] w fun e w' => Below w.heap.size w w' ∧ ∃ A c, e = .returned (.tuple #[.slice A m c, .bool b]) ∧ Ints w' w'.heap.size (.slice A m c) R := by
  subst hm
  refine (dec_n s hl rfl).mono fun e w' h9 => ?_
  have h9 := h9.chg
  rw [hr] at h9
  exact h9
theorem rdecp_n (s : ByteArray) (hl : s.size ≤ 1000) {R : List Int} {b : Bool} (hr : optL (dec12 s) = (R, b)) {m : Nat} (hm : R.length = m) : Calls Try.prog 14 #[.string s] w fun e w' => Below w.heap.size w w' ∧ ∃ A c, e = .returned (.tuple #[.slice A m c, .bool b]) ∧ Ints w' w'.heap.size (.slice A m c) R := by
  subst hm
  refine (rdecode12_w s w hl).mono fun e w' h9 => ?_
  have h9 := h9.chg
  rw [hr] at h9
  exact h9
theorem rchgp_n (x : Int) (add : Bool) (h : Ints w w.heap.size (.slice A n c) L) (hn : L.length = n) (hl : n ≤ 1000) {R : List Int} {b : Bool} (hr : change12 L x add = (R, b)) {m : Nat} (hm : R.length = m) : Calls Try.prog 11 #[.slice A n c, .int .i64 x, .bool add] w fun e w' => Below w.heap.size w w' ∧ ∃ A c, e = .returned (.tuple #[.slice A m c, .bool b]) ∧ Ints w' w'.heap.size (.slice A m c) R := by
  subst hn; subst hm
  have h9 := rchange12_w A c _ L x add w h (Nat.le_refl _) hl
  rw [hr] at h9
  exact h9
theorem rmay_n (h : Ints w w.heap.size (.slice A n c) L) (hn : L.length = n) (hl : n ≤ 1000) {b : Bool} (hb : may12 L = b) : Calls Try.prog 16 #[.slice A n c] w fun e w' => e = .returned (.bool b) ∧ Below w.heap.size w w' := by subst hn; subst hb; exact rmay12_w A c _ L w h hl
theorem rhas_n (x : Int) (h : Ints w w.heap.size (.slice A n c) L) (hn : L.length = n) (hl : n ≤ 1000) {b : Bool} (hb : L.contains x = b) : Calls Try.prog 20 #[.slice A n c, .int .i64 x] w fun e w' => e = .returned (.bool b) ∧ w = w' := by subst hn; subst hb; exact rhas12_w A c _ L x w h hl
theorem renc_n (h : Ints w w.heap.size (.slice A n c) L) (hn : L.length = n) (hl : n ≤ 1000) {b : ByteArray} (hb : enc12 L = b) : Calls Try.prog 18 #[.slice A n c] w fun e w' => e = .returned (.string b) ∧ Below w.heap.size w w' := by subst hn; subst hb; exact rencode12_w A c _ L w h (Nat.le_refl _) hl
theorem set_n (bits : Int) {L : List Int} (hl : setF (bitF bits) = L) : Calls Try.prog 22 #[.int .i64 bits] w fun e w' => ∃ A c, e = .returned (.slice A L.length c) ∧ Ints w' w'.heap.size (.slice A L.length c) L ∧ Below w.heap.size w w' := by
  subst hl
  refine (set12_w bits w).mono ?_
  rintro e w' ⟨v, rfl, ho, hb⟩
  obtain ⟨A, c, rfl⟩ := ho.slice
  exact ⟨A, c, rfl, Ints.of_own ho, hb⟩
end
theorem addp_len (L : List Int) (x : Int) (hl : L.length ≤ 12) {R : List Int} {b : Bool} (hr : optL (add12 L x) = (R, b)) : R.length ≤ 13 := by
  unfold optL add12 at hr
  split at hr
  · injection hr with h1 h2
    rw [← h1]
    show (ins12 L x).length ≤ 13
    rw [ins_len]; omega
  · injection hr with h1 h2
    rw [← h1]
    show ([] : List Int).length ≤ 13
    decide
theorem chg_len (L : List Int) (x : Int) (a : Bool) {R : List Int} {b : Bool} (hr : change12 L x a = (R, b)) : R.length ≤ 7 := by
  unfold change12 at hr
  split at hr
  · injection hr with h1 h2
    rw [← h1, chg_setN]
    exact setN_len _ _
  · injection hr with h1 h2
    rw [← h1]
    exact Nat.zero_le _
theorem dec_len (s : ByteArray) (hs : s.size ≤ 12) {R : List Int} {b : Bool} (hr : optL (dec12 s) = (R, b)) : R.length ≤ 12 := by
  unfold optL dec12 at hr
  split at hr
  · injection hr with h1 h2
    rw [← h1]
    show (decL s).length ≤ 12
    rw [decL_len]; exact hs
  · injection hr with h1 h2
    rw [← h1]
    exact Nat.zero_le _
theorem cut_n {A : Option Addr} {c m n : Nat} {L M : List Int} {w : World} (h : Ints w w.heap.size (.slice A m c) L) (hm : L.length = m) (hM : L.take 12 = M) (hn : M.length = n) :
    Calls Try.prog 8 #[.slice A m c] w fun e w' => (e = .returned (.slice A n c) ∧ Ints w' w'.heap.size (.slice A n c) M) ∧ w = w' := by
  subst hm; subst hM; subst hn
  refine (cut12_w A c _ L w h).mono ?_
  rintro e w' ⟨⟨n, rfl, rfl, hi⟩, rfl⟩
  exact ⟨⟨rfl, hi⟩, rfl⟩
/-- lists that differ by one at the most -/
def NR (L M : List Int) : Prop := (L.Sublist M ∧ M.length ≤ L.length + 1) ∨ (M.Sublist L ∧ L.length ≤ M.length + 1)
theorem NR.refl (L : List Int) : NR L L := .inl ⟨List.Sublist.refl _, by omega⟩
theorem add_NR {L M : List Int} {x : Int} (h : optL (add12 L x) = (M, true)) : NR L M := by
  unfold optL add12 at h
  split at h
  · injection h with h1 h2
    rw [← h1]
    exact .inl ⟨ins_sub L x, by show (ins12 L x).length ≤ _; rw [ins_len]; omega⟩
  · injection h with h1 h2
    cases h2
theorem rem_NR {L M : List Int} {x : Int} (h : optL (rem12 L x) = (M, true)) : NR L M := by
  unfold optL rem12 at h
  split at h
  · injection h with h1 h2
    rw [← h1]
    exact .inr ⟨del_sub L x, del_len L x⟩
  · injection h with h1 h2
    cases h2
theorem NR.len {L M : List Int} (h : NR L M) : M.length ≤ L.length + 1 := by
  rcases h with h | h
  · exact h.2
  · have := h.1.length_le; omega
theorem NR.meet {L M X Y : List Int} (h : NR L M) (h1 : maj12 L X = true) (h2 : maj12 M Y = true) : ∃ z ∈ X, Y.contains z = true ∧ (L.contains z = true ∨ M.contains z = true) := by
  rcases h with h | h
  · obtain ⟨z, hx, hy, hm⟩ := meet_sub h.1 h.2 h1 (.inl h2)
    exact ⟨z, hx, by simpa using hy, .inr (by simpa using hm)⟩
  · obtain ⟨z, hx, hy, hm⟩ := meet_sub' h.1 h.2 h1 h2
    exact ⟨z, hx, by simpa using hy, .inl (by simpa using hm)⟩
/-- rows of one's own that are apart -/
def Apart12 (u v : Value) : Prop := ∀ g, u.ownBlock = some g → v.ownBlock ≠ some g
theorem Apart12.symm {u v : Value} (h : Apart12 u v) : Apart12 v u := fun g h1 h2 => h g h2 h1
theorem wpList_append_ints_at {w : World} {ops : Array Oper} {rest : List Oper} {o : Oper} {a : Act} {Q : Exit → Act → World → Prop} (hgd : o.guard = none) (s x : Operand)
    (ho : o.op = .call { callee := .builtin .append, args := #[s, x], argTypes := #[22, 22] })
    (B C : Nat) (v u : Value) (l m : List Int) (hs : a.eval s = v) (hown : OwnZ B v l w) (hx : a.eval x = u) (hu : Ints w C u m) (hlm : l.length + m.length ≤ 1000000) (hB : B ≤ w.heap.size)
    (h : ∀ v' w', OwnZ B v' (l ++ m) w' → Below B w w' → w.grownBy w' v.ownBlock → (v'.ownBlock = v.ownBlock ∨ v'.ownBlock = some w.heap.size) → wpList Try.prog ops Q rest (a.put o.dst v') w') : wpList Try.prog ops Q (o :: rest) a w :=
  wpList_plain hgd fun _ hK => wp_append_ints s x ho B C v u l m hs hown hx hu hlm hB fun v' w' h1 h2 h3 h4 => hK _ _ (h v' w' h1 h2 h3 h4)
theorem apart_step {B : Nat} {u v u' : Value} {m : List Int} {w w' : World} (hO2 : OwnZ B v m w) (ha : Apart12 u v) (hg : w.grownBy w' u.ownBlock) (hb : u'.ownBlock = u.ownBlock ∨ u'.ownBlock = some w.heap.size) : OwnZ B v m w' ∧ Apart12 u' v := by
  refine ⟨World.ownsRow.kept hO2 hg ?_, fun g h1 h2 => ?_⟩
  · cases e : v.ownBlock with
    | none => exact .inl rfl
    | some g => exact .inr fun e2 => ha g e2.symm e
  · rcases hb with h | h
    · exact ha g (by rw [← h]; exact h1) h2
    · rw [h] at h1
      injection h1 with h1
      have := (World.ownsRow.lt hO2 g h2).2
      omega
/-- a server's number out of any number -/
theorem server12 (a : Int) : ∃ (r : Int) (q : Nat), Int.tmod a 7 = r ∧ -6 ≤ r ∧ r ≤ 6 ∧ Int.tmod (r + 7) 7 = (q : Int) ∧ q ≤ 6 := by
  have h1 := Int.tmod_lt_of_pos a (show (0 : Int) < 7 by decide)
  have h2 : -7 < Int.tmod a 7 := by
    have := Int.tmod_lt_of_pos (-a) (show (0 : Int) < 7 by decide)
    rw [Int.neg_tmod] at this; omega
  have h3 := Int.tmod_lt_of_pos (Int.tmod a 7 + 7) (show (0 : Int) < 7 by decide)
  have h4 := Int.tmod_nonneg 7 (show 0 ≤ Int.tmod a 7 + 7 by omega)
  exact ⟨_, (Int.tmod (Int.tmod a 7 + 7) 7).toNat, rfl, by omega, by omega, by omega, by omega⟩
theorem one_is {L : List Int} (hl : mayF 0 L = true) (h0 : 0 < L.length) {x : Int} (h1 : 1 ≤ x) (h7 : x ≤ 7) (hc : L.contains x = false) :
    may12 (ins12 L x) = true ∧ (ins12 L x).length ≠ 1 ∧ (ins12 L x).contains x = true ∧ del12 (ins12 L x) x = L ∧ near12 L (ins12 L x) = true ∧ near12 (ins12 L x) L = true := by
  have := all_may2 one_all hl h1 h7
  rw [hc, decide_eq_true h0] at this
  simpa [and_assoc] using this
end Go.Proofs.Ytbiecoifeeikpaa
