/-
  Contracts of the program's functions, of the reference's, and plain lemmas on what they answer (part 4 of 7).
  Each lemma names its conditions.
-/
import Derived.Test.YtbiecoifeeikpaaDoorBun3
import Derived.Test.YtbiecoifeeikpaaDoorBun1
import Derived.Great.Walk
import Derived.Maps.OwnOps
import Derived.Test.YtbiecoifeeikpaaDoorBun2
import Derived.Deep.OwnRows
/-
  What a crash leaves of some of a disk's files, whichever come first.
  There are no conditions.
-/
set_option linter.unusedSimpArgs false
set_option linter.unusedVariables false
namespace Go.Proofs.YtbiecoifeeikpaaDoor
open Go.RowKit
set_option maxRecDepth 100000

theorem left9_cases (n : Int) (f : Fil) : left9 n f = [] ∨ ∃ f', left9 n f = [f'] ∧ f'.name = f.name := by
  unfold left9
  split
  · exact .inr ⟨_, rfl, rfl⟩
  · exact .inl rfl
theorem crash9_cons (n : Int) (f : Fil) (l : List Fil) : crash9 n (f :: l) = left9 n f ++ crash9 n l := by unfold crash9; rw [List.flatMap_cons]
theorem crash9_mem {n : Int} {l : List Fil} {x : Fil} (h : x ∈ crash9 n l) : ∃ f ∈ l, x.name = f.name := by
  unfold crash9 at h
  obtain ⟨f, hf, hx⟩ := List.mem_flatMap.1 h
  refine ⟨f, hf, ?_⟩
  rcases left9_cases n f with e | ⟨f', e, hn⟩
  · rw [e] at hx; cases hx
  · rw [e, List.mem_singleton] at hx; rw [hx]; exact hn
theorem setF_head {f : Fil} {l : List Fil} (h : ∀ z ∈ l, ltK f.name z.name = true) : setF f l = f :: l := by
  cases l with
  | nil => rfl
  | cons x t =>
    have h1 := h x List.mem_cons_self
    unfold setF
    rw [if_neg (ltK_ne h1), if_pos h1]
/-- one file more has been looked at -/
theorem crash9_step {n : Int} {l : List Fil} (hs : Sorted9 l) {x : Fil} (hx : x ∈ l) (P : Fil → Bool) (hP : P x = false) :
    (left9 n x = [] → crash9 n (l.filter fun f => P f || decide (f.name = x.name)) = crash9 n (l.filter P)) ∧ ∀ f', left9 n x = [f'] → crash9 n (l.filter fun f => P f || decide (f.name = x.name)) = setF f' (crash9 n (l.filter P)) := by
  unfold Sorted9 at hs
  induction l with
  | nil => cases hx
  | cons y t ih =>
    obtain ⟨s1, s2⟩ := List.pairwise_cons.1 hs
    rcases List.mem_cons.1 hx with e | hx
    · subst e
      have e1 : (t.filter fun f => P f || decide (f.name = x.name)) = t.filter P := List.filter_congr fun f hf => by
        rw [decide_eq_false (ltK_ne (s1 f hf)).symm, Bool.or_false]
      have e2 : (P x || decide (x.name = x.name)) = true := by rw [decide_eq_true rfl, Bool.or_true]
      rw [List.filter_cons_of_pos (p := fun f => P f || decide (f.name = x.name)) e2, e1, List.filter_cons_of_neg (by rw [hP]; simp), crash9_cons]
      refine ⟨fun h => by rw [h, List.nil_append], fun f' h => ?_⟩
      rw [h, List.singleton_append, setF_head]
      intro z hz
      obtain ⟨f, hf, hn⟩ := crash9_mem hz
      have hn2 : f'.name = x.name := by
        rcases left9_cases n x with e | ⟨f2, e, hn3⟩
        · rw [e] at h; cases h
        · rw [e] at h; injection h with h; rw [← h]; exact hn3
      rw [hn, hn2]
      exact s1 f (List.mem_filter.1 hf).1
    · have hyx := s1 x hx
      have e2 : (P y || decide (y.name = x.name)) = P y := by rw [decide_eq_false (ltK_ne hyx), Bool.or_false]
      obtain ⟨i1, i2⟩ := ih s2 hx
      cases hPy : P y with
      | false =>
        rw [List.filter_cons_of_neg (p := fun f => P f || decide (f.name = x.name)) (by rw [e2, hPy]; simp), List.filter_cons_of_neg (by rw [hPy]; simp)]
        exact ⟨i1, i2⟩
      | true =>
        rw [List.filter_cons_of_pos (p := fun f => P f || decide (f.name = x.name)) (by rw [e2, hPy]), List.filter_cons_of_pos hPy, crash9_cons, crash9_cons]
        refine ⟨fun h => by rw [i1 h], fun f' h => ?_⟩
        rw [i2 f' h]
        have hn2 : f'.name = x.name := by
          rcases left9_cases n x with e | ⟨f2, e, hn3⟩
          · rw [e] at h; cases h
          · rw [e] at h; injection h with h; rw [← h]; exact hn3
        rcases left9_cases n y with e | ⟨y', e, hn3⟩
        · rw [e]; rfl
        · rw [e]
          show y' :: setF f' (crash9 n (t.filter P)) = setF f' (y' :: crash9 n (t.filter P))
          have h3 : ltK y'.name f'.name = true := by rw [hn3, hn2]; exact hyx
          have h4 : ¬ ltK f'.name y'.name = true := fun h5 => by
            have := ltK_trans h3 h5
            rw [ltK_irrefl] at this; cases this
          conv => rhs; unfold setF
          rw [if_neg (ltK_ne h3).symm, if_neg h4]
/-- the files of which left says nothing any more -/
def seen9 (left : Lit → Bool) (l : List Fil) : List Fil := l.filter fun f => !left (.string f.name.data.toList)
theorem seen9_start (ps : List (Fil × Value)) : seen9 (Maps.has (DD ps)) (ps.map (·.1)) = [] := by
  unfold seen9
  rw [List.filter_eq_nil_iff]
  intro f hf
  obtain ⟨p, hp, rfl⟩ := List.mem_map.1 hf
  rw [dd_has, List.any_eq_true.2 ⟨p, hp, by simp⟩]; simp
theorem seen9_end {left : Lit → Bool} (l : List Fil) (h : ∀ k, left k = false) : seen9 left l = l := by
  unfold seen9
  rw [List.filter_eq_self]
  intro f _; rw [h]; rfl
theorem seen9_step {n : Int} {l : List Fil} (hs : Sorted9 l) {x : Fil} (hx : x ∈ l) (left : Lit → Bool) (hl : left (.string x.name.data.toList) = true) :
    (left9 n x = [] → crash9 n (seen9 (fun z => left z && !z.sameKey (.string x.name.data.toList)) l) = crash9 n (seen9 left l)) ∧ ∀ f', left9 n x = [f'] → crash9 n (seen9 (fun z => left z && !z.sameKey (.string x.name.data.toList)) l) = setF f' (crash9 n (seen9 left l)) := by
  have e : seen9 (fun z => left z && !z.sameKey (.string x.name.data.toList)) l = l.filter fun f => (!left (.string f.name.data.toList)) || decide (f.name = x.name) := by
    unfold seen9
    congr 1; funext f
    simp only [same_name]
    cases left (.string f.name.data.toList) <;> cases decide (f.name = x.name) <;> rfl
  rw [e]
  exact crash9_step hs hx (fun f => !left (.string f.name.data.toList)) (by rw [hl]; rfl)
theorem crash9_good {n : Int} {l : List Fil} (h : ∀ f ∈ l, Good9 f) : ∀ f ∈ crash9 n l, Good9 f := by
  intro x hx
  unfold crash9 at hx
  obtain ⟨f, hf, hx⟩ := List.mem_flatMap.1 hx
  obtain ⟨g1, g2, g3, g4⟩ := h f hf
  unfold left9 at hx
  split at hx
  · rw [List.mem_singleton] at hx
    have hk := kOf9_le (n := n) g2
    subst hx
    refine ⟨g1, ?_, ?_, fun h => by cases h⟩
    · show f.fast + kOf9 n f ≤ (f.b.take _).length
      rw [List.length_take]; omega
    · show (f.b.take _).length ≤ _
      rw [List.length_take]; omega
  · cases hx
theorem crash9_len (n : Int) (l : List Fil) : (crash9 n l).length ≤ l.length := by
  unfold crash9
  induction l with
  | nil => exact Nat.le_refl _
  | cons f t ih =>
    have h : (left9 n f).length ≤ 1 := by
      rcases left9_cases n f with e | ⟨f', e, _⟩
      · rw [e]; exact Nat.zero_le _
      · rw [e]; exact Nat.le_refl _
    rw [List.flatMap_cons, List.length_append, List.length_cons]; omega
theorem at_find9 {n : ByteArray} {ps : List (Fil × Value)} {v : Value} (h : ∀ zd, (DD ps).atKey (.string n.data.toList) zd = .held v) : ∃ p ∈ ps, p.1.name = n ∧ v = fileV p := by
  have h1 := h (.held (.bool true))
  have h2 := h (.held (.bool false))
  rw [dd_at] at h1 h2
  cases hf : ps.find? (fun p => decide (p.1.name = n)) with
  | none => rw [hf] at h1 h2; simp only at h1 h2; rw [← h1] at h2; cases h2
  | some p =>
    rw [hf] at h1
    refine ⟨p, List.mem_of_find?_eq_some hf, by simpa using List.find?_some hf, ?_⟩
    injection h1 with h1
    exact h1.symm
end Go.Proofs.YtbiecoifeeikpaaDoor
/-
  A state's file as plain data: what is put into it, what a crash leaves of it, what is read of it.
  There are no conditions beyond those that each lemma names.
-/
set_option linter.unusedSimpArgs false
set_option linter.unusedVariables false
namespace Go.Proofs.YtbiecoifeeikpaaDoor
open Go.RowKit
set_option maxRecDepth 100000

/-- the file's name -/
def stateN : ByteArray := ⟨#[115, 116, 97, 116, 101]⟩
/-- the file, if there is one: its bytes, how many of them last -/
abbrev Fk := Option (List UInt8 × Nat)
def files11 : Fk → List Fil
  | none => []
  | some (b, f) => [⟨stateN, b, f, true⟩]
def size11 : Fk → Nat
  | none => 0
  | some (b, _) => b.length
def Fgood (x : Fk) : Prop := ∀ b f, x = some (b, f) → f ≤ b.length ∧ b.length ≤ 1048576
/-- a file to which n bytes can be appended -/
def ready11 (k : Kst) (x : Fk) (n : Nat) : List UInt8 × Nat := match x with
  | none => (snapB10 k.s, (snapB10 k.s).length)
  | some (b, f) => if 1048576 < b.length + n then (whole11 k, (whole11 k).length) else (b, f)
def add11 (k : Kst) (x : Fk) (bs : List UInt8) : List UInt8 × Nat := ((ready11 k x bs.length).1 ++ bs, (ready11 k x bs.length).2)
def sync11 (k : Kst) (x : Fk) : List UInt8 × Nat := ((ready11 k x 0).1, (ready11 k x 0).1.length)
def crash11 (n : Int) : Fk → Fk
  | none => none
  | some (b, f) => some (b.take (f + kOf9 n ⟨stateN, b, f, true⟩), f + kOf9 n ⟨stateN, b, f, true⟩)
theorem stateN_good : goodN stateN = true := by decide
theorem files_good {x : Fk} (h : Fgood x) : Sorted9 (files11 x) ∧ ∀ f ∈ files11 x, Good9 f := by
  cases x with
  | none => exact ⟨List.Pairwise.nil, fun _ h => absurd h (by simp [files11])⟩
  | some p =>
    obtain ⟨b, f⟩ := p
    refine ⟨List.pairwise_singleton _ _, fun y hy => ?_⟩
    have := List.mem_singleton.1 hy
    subst this
    exact ⟨stateN_good, (h b f rfl).1, (h b f rfl).2, fun h => by cases h⟩
theorem getF11 (x : Fk) : getF stateN (files11 x) = x.map fun p => ⟨stateN, p.1, p.2, true⟩ := by
  cases x with
  | none => rfl
  | some p => unfold getF files11; simp
theorem setF11 (b : List UInt8) (f : Nat) (x : Fk) : setF ⟨stateN, b, f, true⟩ (files11 x) = files11 (some (b, f)) := by
  cases x with
  | none => rfl
  | some p => unfold files11 setF; rw [if_pos rfl]
theorem app11 {b bs : List UInt8} {f : Nat} (h : b.length + bs.length ≤ 1048576) : app9 stateN bs (files11 (some (b, f))) = (0, files11 (some (b ++ bs, f))) := by
  unfold app9 fileOf
  rw [getF11, if_neg (by rw [stateN_good]; simp)]
  simp only [Option.map_some, Option.getD_some]
  rw [if_neg (by omega), setF11]
theorem swap11 {b : List UInt8} (x : Fk) (h : b.length ≤ 1048576) : swap9 stateN b (files11 x) = (0, files11 (some (b, b.length))) := by
  unfold swap9
  rw [if_neg (by rw [stateN_good]; simp), if_neg (by omega), setF11]
theorem sync11_is (b : List UInt8) (f : Nat) : sync9 stateN (files11 (some (b, f))) = (0, files11 (some (b, b.length))) := by
  unfold sync9
  rw [getF11]
  simp only [Option.map_some]
  rw [setF11]
theorem crash11_is (n : Int) (x : Fk) : crash9 n (files11 x) = files11 (crash11 n x) := by
  cases x with
  | none => rfl
  | some p =>
    obtain ⟨b, f⟩ := p
    unfold crash9 files11 crash11
    simp only [List.flatMap_cons, List.flatMap_nil, List.append_nil]
    unfold left9
    rw [if_pos (.inl rfl)]
theorem files_len (x : Fk) : (files11 x).length ≤ 100000 := by cases x <;> simp [files11]
/-! ### what a file holds -/
/-- the file holds the state k; whatever a crash leaves of it is a state of which P holds -/
def Fh (x : Fk) (k : Kst) (P : Kst → Prop) : Prop := KOk k ∧ P k ∧ (match x with
  | none => k = zKst
  | some (b, f) => ∃ (bs : Snp) (rs : List Rcd) (j : Nat), maySnp10 bs = true ∧ (∀ r ∈ rs, may10 r = true) ∧ b = snapB10 bs ++ encs10 rs ∧ j ≤ rs.length ∧ f = (snapB10 bs ++ encs10 (rs.take j)).length ∧ b.length ≤ 1048576 ∧
      (∀ i, i ≤ rs.length → ∃ k', play11 (base11 bs) (rs.take i) = some k' ∧ KOk k' ∧ (j ≤ i → P k')) ∧ play11 (base11 bs) rs = some k)
theorem encs_take_le (rs : List Rcd) (j : Nat) : (encs10 (rs.take j)).length ≤ (encs10 rs).length := by
  have : encs10 rs = encs10 (rs.take j) ++ encs10 (rs.drop j) := by unfold encs10; rw [← List.flatMap_append, List.take_append_drop]
  rw [this, List.length_append]; omega
theorem Fh.good {x : Fk} {k : Kst} {P : Kst → Prop} (h : Fh x k P) : Fgood x := by
  obtain ⟨_, _, h⟩ := h
  intro b f e
  subst e
  obtain ⟨bs, rs, j, h1, h2, h3, h4, h5, h6, _⟩ := h
  refine ⟨?_, h6⟩
  subst h3; subst h5
  have := encs_take_le rs j
  simp only [List.length_append]; omega
theorem Fh.mono {x : Fk} {k : Kst} {P Q : Kst → Prop} (h : Fh x k P) (hQ : ∀ k, P k → Q k) : Fh x k Q := by
  obtain ⟨h0, hp, h⟩ := h
  refine ⟨h0, hQ _ hp, ?_⟩
  cases x with
  | none => exact h
  | some p =>
    obtain ⟨b, f⟩ := p
    obtain ⟨bs, rs, j, h1, h2, h3, h4, h5, h6, h7, h8⟩ := h
    refine ⟨bs, rs, j, h1, h2, h3, h4, h5, h6, fun i hi => ?_, h8⟩
    obtain ⟨k', a, b, c⟩ := h7 i hi
    exact ⟨k', a, b, fun hj => hQ _ (c hj)⟩
theorem base_ok {s : Snp} (h : maySnp10 s = true) : KOk (base11 s) := ⟨rfl, h, rfl, by simp [base11]⟩
theorem KOk.mid {k : Kst} (h : KOk k) (i : Nat) (hi : i ≤ (lines11 k).length) : ∃ k', play11 (base11 k.s) ((lines11 k).take i) = some k' ∧ KOk k' := by
  cases i with
  | zero => exact ⟨_, rfl, base_ok h.snap⟩
  | succ i =>
    have hl : (lines11 k).take (i + 1) = lines11 ⟨k.ht, k.hv, k.s, k.log.take i⟩ := by
      unfold lines11
      rw [List.take_succ_cons, List.map_take]
    have hk : KOk ⟨k.ht, k.hv, k.s, k.log.take i⟩ := ⟨h.hard, h.snap, row11_take _ _ _ h.ents, by have := h.few; simp only [List.length_take]; omega⟩
    rw [hl]
    exact ⟨_, play11_lines hk, hk⟩
/-- a file that was laid anew -/
theorem Fh.whole {k : Kst} {P : Kst → Prop} (h : KOk k) (hP : P k) : Fh (some (whole11 k, (whole11 k).length)) k P := by
  have hw := whole11_len h
  refine ⟨h, hP, k.s, lines11 k, (lines11 k).length, h.snap, h.lines, rfl, Nat.le_refl _, by rw [List.take_length]; rfl, by omega, fun i hi => ?_, play11_lines h⟩
  obtain ⟨k', h1, h2⟩ := h.mid i hi
  refine ⟨k', h1, h2, fun hj => ?_⟩
  have : i = (lines11 k).length := by omega
  subst this
  rw [List.take_length, play11_lines h] at h1
  injection h1 with h1
  subst h1; exact hP
/-- records put behind what is there -/
theorem Fh.ready {x : Fk} {k : Kst} {P : Kst → Prop} (n : Nat) (h : Fh x k P) (hn : n ≤ 220000) : Fh (some (ready11 k x n)) k P ∧ (ready11 k x n).1.length + n ≤ 1048576 := by
  have hg := h.good
  obtain ⟨h0, hp, h1⟩ := id h
  have hw := whole11_len h0
  have hs := snapB10_len h0.snap
  unfold ready11
  cases x with
  | none =>
    have h1 : k = zKst := h1
    subst h1
    refine ⟨⟨h0, hp, zSnp, [], 0, rfl, fun _ h => absurd h (by simp), by simp [encs10, zKst, base11], Nat.le_refl _, by simp [encs10, zKst, base11], by omega, fun i hi => ⟨zKst, ?_, h0, fun _ => hp⟩, rfl⟩, by simp only; omega⟩
    rw [List.take_nil]; rfl
  | some p =>
    obtain ⟨b, f⟩ := p
    have hbf := hg b f rfl
    simp only
    split
    · exact ⟨Fh.whole h0 hp, by simp only; omega⟩
    · exact ⟨h, by simp only; omega⟩
theorem Fh.append {b : List UInt8} {f : Nat} {k k2 : Kst} {P Q : Kst → Prop} (h : Fh (some (b, f)) k P) (rs : List Rcd) (hr : ∀ r ∈ rs, may10 r = true) (hl : b.length + (encs10 rs).length ≤ 1048576)
    (hm : ∀ i, i ≤ rs.length → ∃ k', play11 k (rs.take i) = some k' ∧ KOk k' ∧ Q k') (he : play11 k rs = some k2) (hPQ : ∀ a, P a → Q a) : Fh (some (b ++ encs10 rs, f)) k2 Q := by
  obtain ⟨h0, hp, bs, os, j, h1, h2, h3, h4, h5, h6, h7, h8⟩ := h
  have hend : KOk k2 ∧ Q k2 := by
    obtain ⟨k', e1, e2, e3⟩ := hm rs.length (Nat.le_refl _)
    rw [List.take_length, he] at e1
    injection e1 with e1
    subst e1; exact ⟨e2, e3⟩
  refine ⟨hend.1, hend.2, bs, os ++ rs, j, h1, fun r hr' => ?_, ?_, by rw [List.length_append]; omega, ?_, by rw [List.length_append]; exact hl, fun i hi => ?_, ?_⟩
  · rcases List.mem_append.1 hr' with h | h
    · exact h2 r h
    · exact hr r h
  · rw [h3]; unfold encs10; rw [List.flatMap_append, List.append_assoc]
  · rw [List.take_append_of_le_length h4]; exact h5
  · by_cases hc : i ≤ os.length
    · rw [List.take_append_of_le_length hc]
      obtain ⟨k', e1, e2, e3⟩ := h7 i hc
      exact ⟨k', e1, e2, fun hj => hPQ _ (e3 hj)⟩
    · rw [List.length_append] at hi
      rw [List.take_append, List.take_of_length_le (by omega)]
      obtain ⟨k', e1, e2, e3⟩ := hm (i - os.length) (by omega)
      exact ⟨k', by rw [play11_append, h8]; exact e1, e2, fun _ => e3⟩
  · rw [play11_append, h8]; exact he
theorem Fh.add {x : Fk} {k k2 : Kst} {P Q : Kst → Prop} (h : Fh x k P) (rs : List Rcd) (hr : ∀ r ∈ rs, may10 r = true) (hl : (encs10 rs).length ≤ 220000)
    (hm : ∀ i, i ≤ rs.length → ∃ k', play11 k (rs.take i) = some k' ∧ KOk k' ∧ Q k') (he : play11 k rs = some k2) (hPQ : ∀ a, P a → Q a) : Fh (some (add11 k x (encs10 rs))) k2 Q := by
  obtain ⟨h1, h2⟩ := h.ready (encs10 rs).length hl
  unfold add11
  obtain ⟨⟨b, f⟩, hb⟩ : ∃ p, ready11 k x (encs10 rs).length = p := ⟨_, rfl⟩
  rw [hb] at h1 h2 ⊢
  exact h1.append rs hr h2 hm he hPQ
/-- all lasts -/
theorem Fh.sync {x : Fk} {k : Kst} {P : Kst → Prop} (h : Fh x k P) : Fh (some (sync11 k x)) k (fun a => a = k) := by
  obtain ⟨h1, _⟩ := h.ready 0 (by omega)
  unfold sync11
  obtain ⟨⟨b, f⟩, hb⟩ : ∃ p, ready11 k x 0 = p := ⟨_, rfl⟩
  rw [hb] at h1 ⊢
  obtain ⟨h0, hp, bs, os, j, h1, h2, h3, h4, h5, h6, h7, h8⟩ := h1
  refine ⟨h0, rfl, bs, os, os.length, h1, h2, h3, Nat.le_refl _, by rw [List.take_length]; simp only; rw [h3], h6, fun i hi => ?_, h8⟩
  obtain ⟨k', e1, e2, e3⟩ := h7 i hi
  refine ⟨k', e1, e2, fun hj => ?_⟩
  have : i = os.length := by omega
  subst this
  rw [List.take_length, h8] at e1
  injection e1 with e1
  exact e1.symm
end Go.Proofs.YtbiecoifeeikpaaDoor
/-
  A snapshot's bytes of which one was changed are told as none: plain lemmas.
  There are no conditions beyond those that each lemma names.
-/
set_option linter.unusedSimpArgs false
set_option linter.unusedVariables false
namespace Go.Proofs.YtbiecoifeeikpaaDoor
open Go.RowKit
set_option maxRecDepth 100000

/-- the bytes of one number: all but the last are 128 or more -/
def Vn (p : List UInt8) : Prop := ∃ h x, p = h ++ [x] ∧ (∀ b ∈ h, 128 ≤ b.toNat) ∧ x.toNat < 128
theorem vn_split : ∀ (h h' : List UInt8) (x y : UInt8) (r t : List UInt8), (∀ b ∈ h, 128 ≤ b.toNat) → (∀ b ∈ h', 128 ≤ b.toNat) → x.toNat < 128 → y.toNat < 128 → h ++ x :: r = h' ++ y :: t → h = h' ∧ x = y ∧ r = t
  | [], [], x, y, r, t, _, _, _, _, e => by simp only [List.nil_append, List.cons.injEq] at e; exact ⟨rfl, e⟩
  | [], b :: h', x, y, r, t, _, h2, hx, _, e => by
    simp only [List.nil_append, List.cons_append, List.cons.injEq] at e
    have := h2 b (List.mem_cons_self ..)
    rw [← e.1] at this; omega
  | a :: h, [], x, y, r, t, h1, _, _, hy, e => by
    simp only [List.nil_append, List.cons_append, List.cons.injEq] at e
    have := h1 a (List.mem_cons_self ..)
    rw [e.1] at this; omega
  | a :: h, b :: h', x, y, r, t, h1, h2, hx, hy, e => by
    simp only [List.cons_append, List.cons.injEq] at e
    obtain ⟨e1, e2⟩ := e
    obtain ⟨e3, e4⟩ := vn_split h h' x y r t (fun c hc => h1 c (List.mem_cons_of_mem _ hc)) (fun c hc => h2 c (List.mem_cons_of_mem _ hc)) hx hy e2
    exact ⟨by rw [e1, e3], e4⟩
theorem Vn.one {p q r t : List UInt8} (hp : Vn p) (hq : Vn q) (e : p ++ r = q ++ t) : p = q ∧ r = t := by
  obtain ⟨h, x, rfl, h1, h2⟩ := hp
  obtain ⟨h', y, rfl, h3, h4⟩ := hq
  rw [List.append_assoc, List.append_assoc] at e
  obtain ⟨rfl, rfl, e3⟩ := vn_split h h' x y r t h1 h3 h2 h4 e
  exact ⟨rfl, e3⟩
theorem Vn.tail {a b : UInt8} {p : List UInt8} (h : Vn (a :: b :: p)) : Vn (b :: p) := by
  obtain ⟨g, x, e, h1, h2⟩ := h
  cases g with
  | nil => simp at e
  | cons c g =>
    simp only [List.cons_append, List.cons.injEq] at e
    exact ⟨g, x, e.2, fun d hd => h1 d (List.mem_cons_of_mem _ hd), h2⟩
theorem Vn.more {a : UInt8} {p : List UInt8} (h : Vn p) (ha : 128 ≤ a.toNat) : Vn (a :: p) := by
  obtain ⟨g, x, e, h1, h2⟩ := h
  refine ⟨a :: g, x, by rw [e]; rfl, fun d hd => ?_, h2⟩
  rcases List.mem_cons.1 hd with rfl | hd
  · exact ha
  · exact h1 d hd
theorem vn_low {a : UInt8} (ha : a.toNat < 128) : Vn [a] := ⟨[], a, rfl, fun _ h => absurd h (by simp), ha⟩
theorem vn_vr : ∀ (f u : Nat), u < 128 ^ f → 1 ≤ f → Vn (Nu.vr f u)
  | 0, _, _, h => by omega
  | f + 1, u, hu, _ => by
    unfold Nu.vr
    by_cases h : u < 128
    · rw [if_pos h]; exact vn_low (by rw [Nu.u8n _ (by omega)]; exact h)
    · rw [if_neg h]
      have hf : 1 ≤ f := by
        rcases Nat.eq_zero_or_pos f with rfl | h1
        · simp at hu; omega
        · exact h1
      have hd : u / 128 < 128 ^ f := by rw [Nat.pow_succ] at hu; omega
      exact (vn_vr f _ hd hf).more (by rw [Nu.u8n _ (by omega)]; omega)
theorem vr_le : ∀ (f m u : Nat), u < 128 ^ m → 1 ≤ m → (Nu.vr f u).length ≤ m
  | 0, _, _, _, h => by simp [Nu.vr]
  | f + 1, m, u, hu, hm => by
    unfold Nu.vr
    by_cases h : u < 128
    · rw [if_pos h]; simpa using hm
    · rw [if_neg h]
      obtain ⟨m', rfl⟩ : ∃ m', m = m' + 1 := ⟨m - 1, by omega⟩
      have hf : 1 ≤ m' := by
        rcases Nat.eq_zero_or_pos m' with rfl | h1
        · simp at hu; omega
        · exact h1
      have hd : u / 128 < 128 ^ m' := by rw [Nat.pow_succ] at hu; omega
      have := vr_le f m' _ hd hf
      simp only [List.length_cons]; omega
theorem vn_put (n : Int) (h0 : 0 ≤ n) (h1 : n ≤ 1099511627776) : Vn (Nu.put n) ∧ (Nu.put n).length ≤ 6 := by
  have hz : Nu.zz n < 128 ^ 6 := by unfold Nu.zz; rw [if_neg (by omega)]; omega
  exact ⟨vn_vr 10 _ (by omega) (by decide), vr_le 10 6 _ hz (by decide)⟩
theorem put_le3 (n : Int) (h0 : 0 ≤ n) (h1 : n ≤ 200000) : (Nu.put n).length ≤ 3 := by
  have hz : Nu.zz n < 128 ^ 3 := by unfold Nu.zz; rw [if_neg (by omega)]; omega
  exact vr_le 10 3 _ hz (by decide)
/-- a head's bytes, in their parts -/
structure Hd10 (b p1 p2 : List UInt8) (st : Int) (cf pn : List UInt8) : Prop where
  is : b = p1 ++ (p2 ++ (Nu.put (cf.length : Int) ++ (cf ++ pn)))
  v1 : Vn p1
  v2 : Vn p2
  vn : Vn pn
  l1 : p1.length ≤ 6
  e2 : p2 = Nu.put st
  s0 : 0 ≤ st
  s1 : st ≤ 1099511627776
  ln : pn.length ≤ 3
  lc : cf.length ≤ 50
theorem Hd10.vc {b p1 p2 cf pn : List UInt8} {st : Int} (h : Hd10 b p1 p2 st cf pn) : Vn (Nu.put (cf.length : Int)) := (vn_put _ (by omega) (by have := h.lc; omega)).1
theorem Hd10.len {b p1 p2 cf pn : List UInt8} {st : Int} (h : Hd10 b p1 p2 st cf pn) : b.length = p1.length + p2.length + 1 + cf.length + pn.length := by
  have h1 := put_len12 cf.length (by have := h.lc; omega)
  rw [if_pos (by have := h.lc; omega)] at h1
  rw [h.is]; simp only [List.length_append, h1]; omega
theorem hd10_of {b : List UInt8} (h : okS10 b = true) : ∃ p1 p2 st cf pn, Hd10 b p1 p2 st cf pn := by
  obtain ⟨⟨ix, s1⟩, q1⟩ : ∃ r, rdN10 (b, false) = r := ⟨_, rfl⟩
  obtain ⟨⟨st, s2⟩, q2⟩ : ∃ r, rdN10 s1 = r := ⟨_, rfl⟩
  obtain ⟨⟨cf, s3⟩, q3⟩ : ∃ r, rdT10 s2 = r := ⟨_, rfl⟩
  obtain ⟨⟨len, s4⟩, q4⟩ : ∃ r, rdN10 s3 = r := ⟨_, rfl⟩
  unfold okS10 rdS10 at h
  simp only [q1, q2, q3, q4, Bool.and_eq_true] at h
  obtain ⟨hd, hm⟩ := h
  have hd := done10_is hd
  subst hd
  unfold mayHead10 at hm
  simp only [Bool.and_eq_true, decide_eq_true_eq] at hm
  obtain ⟨g4, e4, _⟩ := rdN10_ok q4 rfl
  obtain ⟨g3, e3⟩ := rdT10_ok q3 g4
  obtain ⟨g2, e2, _⟩ := rdN10_ok q2 g3
  obtain ⟨g1, e1, _⟩ := rdN10_ok q1 g2
  simp only at e1
  have hcl : cf.data.toList.length = cf.size := size_list10 _
  refine ⟨Nu.put ix, Nu.put st, st, cf.data.toList, Nu.put len, ?_, (vn_put ix (by omega) (by omega)).1, (vn_put st (by omega) (by omega)).1, (vn_put len (by omega) (by omega)).1, (vn_put ix (by omega) (by omega)).2, rfl, by omega, by omega, put_le3 len (by omega) (by omega), by rw [hcl]; omega⟩
  rw [e1, e2, e3, e4]; unfold Nu.putT; simp
theorem put_inj {a b : Int} (ha : -9223372036854775808 ≤ a) (ha2 : a ≤ 9223372036854775807) (hb : -9223372036854775808 ≤ b) (hb2 : b ≤ 9223372036854775807) (h : Nu.put a = Nu.put b) : a = b := by
  have h1 := Nu.get_put a [] ha ha2
  have h2 := Nu.get_put b [] hb hb2
  rw [h, h2] at h1
  simp only [Prod.mk.injEq] at h1
  exact h1.1.symm
/-- behind the second number all goes alike -/
theorem hd10_rest {cf cf' pn pn' r r' : List UInt8} (h1 : cf.length ≤ 50) (h2 : cf'.length ≤ 50) (v1 : Vn pn) (v2 : Vn pn') (e : Nu.put (cf.length : Int) ++ (cf ++ (pn ++ r)) = Nu.put (cf'.length : Int) ++ (cf' ++ (pn' ++ r'))) : cf.length = cf'.length ∧ pn = pn' ∧ cf = cf' := by
  obtain ⟨e1, e2⟩ := Vn.one (vn_put _ (by omega) (by omega)).1 (vn_put _ (by omega) (by omega)).1 e
  have e3 := put_inj (by omega) (by omega) (by omega) (by omega) e1
  have e4 : cf.length = cf'.length := by omega
  obtain ⟨e5, e6⟩ := List.append_inj e2 e4
  exact ⟨e4, (Vn.one v1 v2 e6).1, e5⟩
theorem hd10_one {b b' p1 p2 cf pn p1' p2' cf' pn' r r' : List UInt8} {st st' : Int} (h : Hd10 b p1 p2 st cf pn) (h' : Hd10 b' p1' p2' st' cf' pn') (e : b ++ r = b' ++ r') : b = b' := by
  have e0 := e
  rw [h.is, h'.is] at e0
  simp only [List.append_assoc] at e0
  obtain ⟨e1, e2⟩ := Vn.one h.v1 h'.v1 e0
  obtain ⟨e3, e4⟩ := Vn.one h.v2 h'.v2 e2
  obtain ⟨_, e5, e6⟩ := hd10_rest h.lc h'.lc h.vn h'.vn e4
  rw [h.is, h'.is, e1, e3, e5, e6]
/-- a head that begins one byte later is shorter than 64 -/
theorem hd10_later {b b' p1 p2 cf pn p1' p2' cf' pn' r r' : List UInt8} {st st' : Int} (h : Hd10 b p1 p2 st cf pn) (h' : Hd10 b' p1' p2' st' cf' pn') (hb : b.length < 64) (e : (b ++ r).drop 1 = b' ++ r') : b'.length < 64 := by
  have e0 := e
  have hl := h.len
  have hl' := h'.len
  have hl2 := (vn_put st h.s0 h.s1).2
  rw [← h.e2] at hl2
  rw [h.is, h'.is] at e0
  simp only [List.append_assoc] at e0
  obtain ⟨g, x, hp, hg, hx⟩ := id h.v1
  match p1, h.v1, h.l1, hl, e0 with
  | [], hv, _, _, _ => obtain ⟨g, x, hp, _, _⟩ := hv; simp at hp
  | [a], hv, _, hl, e0 =>
    simp only [List.cons_append, List.nil_append, List.drop_succ_cons, List.drop_zero] at e0
    obtain ⟨e1, e2⟩ := Vn.one h.v2 h'.v1 e0
    obtain ⟨e3, _⟩ := Vn.one h.vc h'.v2 e2
    have h1 := put_len12 cf.length (by have := h.lc; omega)
    rw [if_pos (by have := h.lc; omega), e3] at h1
    have := h'.lc; have := h'.ln
    rw [e1] at hl2
    omega
  | a :: c :: p, hv, hl1, hl, e0 =>
    simp only [List.cons_append, List.drop_succ_cons, List.drop_zero] at e0
    rw [← List.cons_append] at e0
    obtain ⟨e1, e2⟩ := Vn.one hv.tail h'.v1 e0
    obtain ⟨e3, e4⟩ := Vn.one h.v2 h'.v2 e2
    obtain ⟨e5, e6, _⟩ := hd10_rest h.lc h'.lc h.vn h'.vn e4
    rw [← e1, ← e3, ← e5, ← e6] at hl'
    simp only [List.length_cons] at hl hl'
    omega
/-- a head that begins one byte ahead of one of 64 bytes or more is of 64 or more as well -/
theorem hd10_ahead {b b' p1 p2 cf pn p1' p2' cf' pn' r r' : List UInt8} {st st' : Int} {f : UInt8} (h : Hd10 b p1 p2 st cf pn) (h' : Hd10 b' p1' p2' st' cf' pn') (hb : 64 ≤ b.length) (e : f :: (b ++ r) = b' ++ r') : 64 ≤ b'.length := by
  have e0 := e
  have hl := h.len
  have hl' := h'.len
  rw [h.is, h'.is] at e0
  simp only [List.append_assoc] at e0
  by_cases hf : f.toNat < 128
  · exfalso
    rw [show f :: (p1 ++ (p2 ++ (Nu.put (cf.length : Int) ++ (cf ++ (pn ++ r))))) = [f] ++ (p1 ++ (p2 ++ (Nu.put (cf.length : Int) ++ (cf ++ (pn ++ r))))) from rfl] at e0
    obtain ⟨_, e1⟩ := Vn.one (vn_low hf) h'.v1 e0
    obtain ⟨_, e2⟩ := Vn.one h.v1 h'.v2 e1
    obtain ⟨e3, _⟩ := Vn.one h.v2 h'.vc e2
    have h1 := put_len12 cf'.length (by have := h'.lc; omega)
    rw [if_pos (by have := h'.lc; omega), ← e3] at h1
    have := h.lc; have := h.ln; have := h.l1
    omega
  · rw [show f :: (p1 ++ (p2 ++ (Nu.put (cf.length : Int) ++ (cf ++ (pn ++ r))))) = (f :: p1) ++ (p2 ++ (Nu.put (cf.length : Int) ++ (cf ++ (pn ++ r)))) from rfl] at e0
    obtain ⟨e1, e2⟩ := Vn.one (h.v1.more (by omega)) h'.v1 e0
    obtain ⟨e3, e4⟩ := Vn.one h.v2 h'.v2 e2
    obtain ⟨e5, e6, _⟩ := hd10_rest h.lc h'.lc h.vn h'.vn e4
    rw [← e1, ← e3, ← e5, ← e6] at hl'
    simp only [List.length_cons] at hl'
    omega
end Go.Proofs.YtbiecoifeeikpaaDoor
/-
  A frame of which one byte was changed, whatever stands behind: it is none, or one of another length.
  There are no conditions beyond those that each lemma names.
-/
set_option linter.unusedSimpArgs false
set_option linter.unusedVariables false
namespace Go.Proofs.YtbiecoifeeikpaaDoor
open Go.RowKit
set_option maxRecDepth 100000

theorem set_same {s : List UInt8} {j : Nat} {y : UInt8} (hj : j < s.length) (h : s.set j y = s) : y = s[j] := by
  have e := congrArg (·[j]?) h
  simp only [List.getElem?_set_self hj, List.getElem?_eq_getElem hj] at e
  exact Option.some.inj e
/-- a frame of the same length and kind is the same one, or differs in more than a byte -/
theorem seal_rigid {k : Nat} {b b' : List UInt8} {j : Nat} {y : UInt8} (h0 : 1 ≤ k) (h1 : k ≤ 255) (hb : b.length ≤ 4000) (hl : b'.length = b.length) (hj : j < (sealB (k : Int) b).length) (e : (sealB (k : Int) b).set j y = sealB (k : Int) b') : y = (sealB (k : Int) b)[j] := by
  apply set_same hj
  have hs := sealB_is (k : Int) b (by omega) (by omega) hb
  have hs' := sealB_is (k : Int) b' (by omega) (by omega) (by omega)
  rw [hl] at hs'
  obtain ⟨A, hA⟩ : ∃ A, (k : Int).toNat.toUInt8 :: Nu.put ((b.length : Nat) : Int) = A := ⟨_, rfl⟩
  rw [← List.cons_append, hA] at hs hs'
  rw [hs, hs'] at e
  rw [hs] at hj ⊢
  simp only [List.length_append, fourB_len] at hj
  by_cases c1 : j < A.length
  · rw [List.set_append_left _ _ c1] at e ⊢
    obtain ⟨e1, e2⟩ := List.append_inj e (by simp)
    rw [e1]
  · rw [List.set_append_right _ _ (by omega)] at e ⊢
    have e2 := List.append_cancel_left e
    by_cases c2 : j - A.length < 4
    · rw [List.set_append_left _ _ (by rw [fourB_len]; exact c2)] at e2 ⊢
      obtain ⟨e3, e4⟩ := List.append_inj e2 (by rw [List.length_set, fourB_len, fourB_len])
      rw [← e4] at e3
      rw [e3]
    · rw [List.set_append_right _ _ (by rw [fourB_len]; omega), fourB_len] at e2 ⊢
      obtain ⟨e3, e4⟩ := List.append_inj e2 (by rw [fourB_len, fourB_len])
      have e5 := fourB_inj (crcSum_lt _) (crcSum_lt _) e3
      rw [← e4] at e5
      have hi : j - A.length - 4 < b.length := by omega
      have e6 := crcSum_set (a := A) (b := []) (j := j - A.length - 4) (y := y) hi (by simpa using e5.symm)
      have e7 : b.set (j - A.length - 4) y = b := by rw [e6, List.set_getElem_self]
      rw [e7]
theorem frame_spoilt {k n : Nat} {b b' more : List UInt8} {j : Nat} {y : UInt8} (h0 : 1 ≤ k) (h1 : k ≤ 255) (hb : b.length ≤ 4000) (hj : j < (sealB (k : Int) b).length) (hy : y ≠ (sealB (k : Int) b)[j]) (ho : openK k ((sealB (k : Int) b).set j y ++ more) = (b', n, 0)) :
    b'.length ≠ b.length ∧ 1 ≤ j ∧ j ≤ (Nu.put ((b.length : Nat) : Int)).length ∧ b'.length ≤ 4000 ∧ ∃ r, (sealB (k : Int) b).set j y ++ more = sealB (k : Int) b' ++ r := by
  have hop := (openK_good ho).2.2.2
  obtain ⟨c1, _, _, _, _, c6⟩ := openB_canon hop
  have hr : (sealB (k : Int) b).set j y ++ more = sealB (k : Int) b' ++ ((sealB (k : Int) b).set j y ++ more).drop n := by
    rw [← c1, List.take_append_drop]
  obtain ⟨r, hrr⟩ : ∃ r, ((sealB (k : Int) b).set j y ++ more).drop n = r := ⟨_, rfl⟩
  rw [hrr] at hr
  have hne : b'.length ≠ b.length := by
    intro hl
    have hlen : ((sealB (k : Int) b).set j y).length = (sealB (k : Int) b').length := by
      rw [List.length_set, sealB_len _ _ (by omega) (by omega) hb, sealB_len _ _ (by omega) (by omega) c6, hl]
    exact hy (seal_rigid h0 h1 hb hl hj (List.append_inj hr hlen).1)
  have hs := sealB_is (k : Int) b (by omega) (by omega) hb
  have hs' := sealB_is (k : Int) b' (by omega) (by omega) c6
  have hgo : ∀ (z z' : UInt8) (R R' : List UInt8), z :: (Nu.put ((b.length : Nat) : Int) ++ R) = z' :: (Nu.put ((b'.length : Nat) : Int) ++ R') → False := by
    intro z z' R R' e
    simp only [List.cons.injEq] at e
    have g1 := Nu.get_put ((b.length : Nat) : Int) R (by omega) (by omega)
    have g2 := Nu.get_put ((b'.length : Nat) : Int) R' (by omega) (by omega)
    rw [e.2, g2] at g1
    simp only [Prod.mk.injEq] at g1
    exact hne (by omega)
  have hr2 := hr
  rw [hs, hs'] at hr2
  refine ⟨hne, ?_, ?_, c6, r, hr⟩
  · rcases Nat.eq_zero_or_pos j with rfl | h
    · rw [List.set_cons_zero] at hr2
      simp only [List.cons_append, List.append_assoc] at hr2
      exact absurd hr2 (fun e => hgo _ _ _ _ e)
    · exact h
  · by_cases hc : j ≤ (Nu.put ((b.length : Nat) : Int)).length
    · exact hc
    · obtain ⟨j', rfl⟩ : ∃ j', j = j' + 1 := ⟨j - 1, by omega⟩
      rw [List.set_cons_succ, List.set_append_right _ _ (by omega)] at hr2
      simp only [List.cons_append, List.append_assoc] at hr2
      exact absurd hr2 (fun e => hgo _ _ _ _ e)
theorem openK_spoilt4 {b b' more : List UInt8} {n j : Nat} {y : UInt8} (hb : b.length ≤ 4000) (hj : j < (sealB 4 b).length) (hy : y ≠ (sealB 4 b)[j]) (ho : openK 4 ((sealB 4 b).set j y ++ more) = (b', n, 0)) : b'.length ≠ b.length :=
  (frame_spoilt (k := 4) (by decide) (by decide) hb hj hy ho).1
/-- a head of which one byte was changed is none -/
theorem head_spoilt {b b' more : List UInt8} {n j : Nat} {y : UInt8} (hb : okS10 b = true) (hj : j < (sealB 3 b).length) (hy : y ≠ (sealB 3 b)[j]) (ho : openK 3 ((sealB 3 b).set j y ++ more) = (b', n, 0)) : okS10 b' = false := by
  cases hok : okS10 b' with
  | false => rfl
  | true =>
    exfalso
    obtain ⟨p1, p2, st, cf, pn, H⟩ := hd10_of hb
    obtain ⟨p1', p2', st', cf', pn', H'⟩ := hd10_of hok
    have L := H.len
    have L' := H'.len
    have a1 := H.l1; have a2 := (vn_put st H.s0 H.s1).2; have a3 := H.ln; have a4 := H.lc
    have a1' := H'.l1; have a2' := (vn_put st' H'.s0 H'.s1).2; have a3' := H'.ln; have a4' := H'.lc
    rw [← H.e2] at a2
    rw [← H'.e2] at a2'
    obtain ⟨hne, hj1, hj2, hb4, r, e⟩ := frame_spoilt (k := 3) (by decide) (by decide) (by omega) hj hy ho
    have hs := sealB_is ((3 : Nat) : Int) b (by omega) (by omega) (by omega)
    have hs' := sealB_is ((3 : Nat) : Int) b' (by omega) (by omega) hb4
    have P := put_len12 b.length (by omega)
    have P' := put_len12 b'.length (by omega)
    obtain ⟨Q, hQ⟩ : ∃ Q, Nu.put ((b.length : Nat) : Int) = Q := ⟨_, rfl⟩
    obtain ⟨Q', hQ'⟩ : ∃ Q', Nu.put ((b'.length : Nat) : Int) = Q' := ⟨_, rfl⟩
    rw [hQ] at hs P hj2
    rw [hQ'] at hs' P'
    obtain ⟨x, hx⟩ : ∃ x, ((3 : Nat) : Int).toNat.toUInt8 = x := ⟨_, rfl⟩
    obtain ⟨F, hF⟩ : ∃ F, fourB (crcSum (((3 : Nat) : Int).toNat.toUInt8 :: Q ++ b)) = F := ⟨_, rfl⟩
    obtain ⟨F', hF'⟩ : ∃ F', fourB (crcSum (((3 : Nat) : Int).toNat.toUInt8 :: Q' ++ b')) = F' := ⟨_, rfl⟩
    have hFl : F.length = 4 := by rw [← hF, fourB_len]
    have hFl' : F'.length = 4 := by rw [← hF', fourB_len]
    rw [hF, hx] at hs
    rw [hF', hx] at hs'
    obtain ⟨j', rfl⟩ : ∃ j', j = j' + 1 := ⟨j - 1, by omega⟩
    rw [hs, hs', List.set_cons_succ, List.set_append_left _ _ (by omega), List.cons_append, List.cons_append] at e
    simp only [List.cons.injEq, true_and, List.append_assoc] at e
    obtain ⟨Z, hZ⟩ : ∃ Z, Q.set j' y = Z := ⟨_, rfl⟩
    have hZl : Z.length = Q.length := by rw [← hZ, List.length_set]
    rw [hZ] at e
    by_cases hQQ : Q.length = Q'.length
    · obtain ⟨_, e2⟩ := List.append_inj e (by omega)
      obtain ⟨_, e3⟩ := List.append_inj e2 (by omega)
      exact hne (congrArg List.length (hd10_one H H' e3)).symm
    · by_cases h64 : b.length < 64
      · rw [if_pos h64] at P
        have h64' : ¬ b'.length < 64 := fun h => by rw [if_pos h] at P'; omega
        rw [if_neg h64'] at P'
        have e4 := congrArg (List.drop 6) e
        have d1 : (Z ++ (F ++ (b ++ more))).drop 6 = (b ++ more).drop 1 := by
          rw [← List.append_assoc, show 6 = (Z ++ F).length + 1 by rw [List.length_append]; omega, List.drop_append, List.drop_eq_nil_of_le (Nat.le_succ _), List.nil_append, Nat.add_sub_cancel_left]
        have d2 : (Q' ++ (F' ++ (b' ++ r))).drop 6 = b' ++ r := by
          rw [← List.append_assoc, List.drop_left' (by rw [List.length_append]; omega)]
        rw [d1, d2] at e4
        exact h64' (hd10_later H H' h64 e4)
      · rw [if_neg h64] at P
        have h64' : b'.length < 64 := Decidable.byContradiction fun h => by rw [if_neg h] at P'; omega
        rw [if_pos h64'] at P'
        have e4 := congrArg (List.drop 5) e
        obtain ⟨f0, f1, f2, f3, rfl⟩ : ∃ f0 f1 f2 f3, F = [f0, f1, f2, f3] := by
          match F, hFl with
          | [f0, f1, f2, f3], _ => exact ⟨f0, f1, f2, f3, rfl⟩
        have d1 : (Z ++ ([f0, f1, f2, f3] ++ (b ++ more))).drop 5 = f3 :: (b ++ more) := by
          rw [show Z ++ ([f0, f1, f2, f3] ++ (b ++ more)) = (Z ++ [f0, f1, f2]) ++ (f3 :: (b ++ more)) by simp, List.drop_left' (by rw [List.length_append]; simp; omega)]
        have d2 : (Q' ++ (F' ++ (b' ++ r))).drop 5 = b' ++ r := by
          rw [← List.append_assoc, List.drop_left' (by rw [List.length_append]; omega)]
        rw [d1, d2] at e4
        have := hd10_ahead H H' (by omega) e4
        omega
/-- data of which one byte was changed is none -/
theorem getD10_spoilt : ∀ (k f : Nat) (l : List UInt8) (j : Nat) (y : UInt8), l.length ≤ f → (l.length + 2999) / 3000 = k → (hj : j < (pieces10 l k).length) → y ≠ (pieces10 l k)[j] → ∃ e, e ≠ 0 ∧ getD10 f l.length ((pieces10 l k).set j y) = ([], 0, e)
  | 0, f, l, j, y, _, hk, hj, _ => by simp [pieces10_nil] at hj
  | k + 1, 0, l, j, y, hf, hk, _, _ => by omega
  | k + 1, f + 1, l, j, y, hf, hk, hj, hy => by
    have hpl : (l.take 3000).length = min 3000 l.length := List.length_take
    simp only [pieces10_cons] at hj hy ⊢
    rw [List.length_append] at hj
    by_cases h1 : j < (sealB 4 (l.take 3000)).length
    · rw [List.set_append_left _ _ h1]
      rw [List.getElem_append_left h1] at hy
      obtain ⟨⟨b', n, e⟩, ho⟩ : ∃ q, openK 4 ((sealB 4 (l.take 3000)).set j y ++ pieces10 (l.drop 3000) k) = q := ⟨_, rfl⟩
      by_cases he : e = 0
      · subst he
        have hne := openK_spoilt4 (by rw [hpl]; omega) h1 hy ho
        rw [hpl] at hne
        refine ⟨3, by decide, ?_⟩
        conv => lhs; unfold getD10
        rw [if_neg (by omega), ho, if_neg (by simp), if_pos hne]
      · exact ⟨e, he, getD10_err f l.length _ e _ _ (by omega) ho he⟩
    · rw [List.set_append_right _ _ (by omega)]
      rw [List.getElem_append_right (by omega)] at hy
      have ho := openK_seal 4 (l.take 3000) ((pieces10 (l.drop 3000) k).set (j - (sealB 4 (l.take 3000)).length) y) (by decide) (by decide) (by rw [hpl]; omega)
      rw [show ((4 : Nat) : Int) = 4 from rfl] at ho
      rw [getD10_step f l.length _ _ _ (by omega) ho hpl, List.drop_left, hpl]
      have hdl : (l.drop 3000).length = l.length - 3000 := List.length_drop
      obtain ⟨e, he, ih⟩ := getD10_spoilt k f (l.drop 3000) (j - (sealB 4 (l.take 3000)).length) y (by omega) (by omega) (by omega) hy
      rw [hdl, show l.length - 3000 = l.length - min 3000 l.length by omega] at ih
      rw [ih]
      refine ⟨e, he, ?_⟩
      unfold comb10
      rw [if_pos he]
/-- a snapshot's bytes of which one was changed are none -/
theorem getS10_spoilt {s : Snp} (h : maySnp10 s = true) {j : Nat} {y : UInt8} (hj : j < (snapB10 s).length) (hy : y ≠ (snapB10 s)[j]) : ∃ e, e ≠ 0 ∧ getS10 ((snapB10 s).set j y) = (zSnp, 0, e) := by
  obtain ⟨a1, a2, a3, a4, a5, a6⟩ := maySnp10_is h
  have hl := headB10_len s.ix s.st (s.data.size : Int) s.conf a5
  simp only [snapB10_is h] at hj hy ⊢
  rw [List.length_append] at hj
  by_cases h1 : j < (sealB 3 (headB10 s.ix s.st s.conf (s.data.size : Int))).length
  · rw [List.set_append_left _ _ h1]
    rw [List.getElem_append_left h1] at hy
    obtain ⟨⟨b', n, e⟩, ho⟩ : ∃ q, openK 3 ((sealB 3 (headB10 s.ix s.st s.conf (s.data.size : Int))).set j y ++ pieces10 s.data.data.toList ((s.data.size + 2999) / 3000)) = q := ⟨_, rfl⟩
    by_cases he : e = 0
    · subst he
      have hbad := head_spoilt (okS10_put h) h1 hy ho
      refine ⟨3, by decide, ?_⟩
      unfold getS10
      rw [ho, if_neg (by simp), if_pos hbad]
    · refine ⟨e, he, ?_⟩
      unfold getS10
      rw [ho, if_pos he]
  · rw [List.set_append_right _ _ (by omega), getS10_head h]
    rw [List.getElem_append_right (by omega)] at hy
    obtain ⟨e, he, hd⟩ := getD10_spoilt ((s.data.size + 2999) / 3000) s.data.size s.data.data.toList (j - (sealB 3 (headB10 s.ix s.st s.conf (s.data.size : Int))).length) y (by rw [size_list10]; exact Nat.le_refl _) (by rw [size_list10]) (by omega) hy
    rw [size_list10] at hd
    rw [hd, if_pos he]
    exact ⟨e, he, rfl⟩
end Go.Proofs.YtbiecoifeeikpaaDoor
/-
  A state's file that was cut off, or of which a byte was changed: what is read of it.
  There are no conditions beyond those that each lemma names.
-/
set_option linter.unusedSimpArgs false
set_option linter.unusedVariables false
namespace Go.Proofs.YtbiecoifeeikpaaDoor
open Go.RowKit
set_option maxRecDepth 100000

/-- two records' bodies that begin alike have one length -/
theorem body11_one {r r' : Rcd} {a b : List UInt8} (h : may10 r = true) (h' : may10 r' = true) (hk : r.hard = r'.hard) (e : body10 r ++ a = body10 r' ++ b) : (body10 r).length = (body10 r').length := by
  unfold body10 at e ⊢
  cases hh : r.hard with
  | true =>
    rw [hh] at hk
    rw [hh, ← hk] at e
    rw [← hk]
    simp only [if_true, List.append_assoc] at e ⊢
    have m := may10_hard h hh
    have m' := may10_hard h' hk.symm
    obtain ⟨e1, e2⟩ := Vn.one (vn_put _ m.1 m.2.1).1 (vn_put _ m'.1 m'.2.1).1 e
    obtain ⟨e3, _⟩ := Vn.one (vn_put _ m.2.2.1 (by omega)).1 (vn_put _ m'.2.2.1 (by omega)).1 e2
    rw [e1, e3]
  | false =>
    rw [hh] at hk
    rw [hh, ← hk] at e
    rw [← hk]
    simp only [Bool.false_eq_true, if_false] at e ⊢
    obtain ⟨_, _, m1, m2, m3, m4, m5, m6, m7⟩ := may10_ent h hh
    obtain ⟨_, _, n1, n2, n3, n4, n5, n6, n7⟩ := may10_ent h' hk.symm
    unfold bodyE10 Nu.putT at e ⊢
    simp only [List.append_assoc] at e
    obtain ⟨e1, e⟩ := Vn.one (vn_put _ (by omega) m2).1 (vn_put _ (by omega) n2).1 e
    obtain ⟨e2, e⟩ := Vn.one (vn_put _ (by omega) m4).1 (vn_put _ (by omega) n4).1 e
    obtain ⟨e3, e⟩ := Vn.one (vn_put _ (by omega) (by omega)).1 (vn_put _ (by omega) (by omega)).1 e
    have l1 : r.e.data.data.toList.length = r.e.data.size := size_list10 _
    have l2 : r'.e.data.data.toList.length = r'.e.data.size := size_list10 _
    obtain ⟨e4, e⟩ := Vn.one (vn_put _ (by omega) (by omega)).1 (vn_put _ (by omega) (by omega)).1 e
    have e5 := put_inj (by omega) (by omega) (by omega) (by omega) e4
    have e6 : r.e.data.data.toList.length = r'.e.data.data.toList.length := by omega
    simp only [List.length_append, e1, e2, e3, e4, e6]
/-- a record that is short: a Hard, or an entry without bytes near the beginning -/
def Sm11 (r : Rcd) : Prop := r.hard = false → r.e.data.size = 0 ∧ r.e.ix < 64
theorem sm_len {r : Rcd} (h : may10 r = true) (hs : Sm11 r) : (body10 r).length ≤ 16 := by
  unfold body10
  cases hh : r.hard with
  | true =>
    have m := may10_hard h hh
    have := (vn_put _ m.1 m.2.1).2
    have := (vn_put r.hv m.2.2.1 (by omega)).2
    simp only [if_true, List.length_append]; omega
  | false =>
    obtain ⟨_, _, m1, m2, m3, m4, m5, m6, m7⟩ := may10_ent h hh
    obtain ⟨s1, s2⟩ := hs hh
    have l1 : r.e.data.data.toList.length = r.e.data.size := size_list10 _
    have p1 := put_1 r.e.ix.toNat (by omega)
    rw [show ((r.e.ix.toNat : Nat) : Int) = r.e.ix by omega] at p1
    have p2 := (vn_put r.e.et (by omega) m4).2
    have p3 := put_1 r.e.kd.toNat (by omega)
    rw [show ((r.e.kd.toNat : Nat) : Int) = r.e.kd by omega] at p3
    have p4 := put_1 0 (by omega)
    simp only [Bool.false_eq_true, if_false]
    unfold bodyE10 Nu.putT
    rw [l1, s1, p1, p3]
    simp only [List.length_append, List.length_cons, List.length_nil, l1, s1]
    have : (Nu.put ((0 : Nat) : Int)).length = 1 := by rw [p4]; rfl
    omega
/-- a record of which one byte was changed begins no record -/
theorem enc_rigid {r r' : Rcd} {more z : List UInt8} {j : Nat} {y : UInt8} (h : may10 r = true) (h' : may10 r' = true) (hs : Sm11 r) (hm : r.hard = true → more.length ≤ 20) (hj : j < (encR10 r).length) (hy : y ≠ (encR10 r)[j]) (e : (encR10 r).set j y ++ more = encR10 r' ++ z) : False := by
  have hk := kind10_ok r
  have hk' := kind10_ok r'
  have hb := body10_len h
  have hb' := body10_len h'
  have hsl := sm_len h hs
  have en := encR10_is h
  have en' := encR10_is h'
  have S := sealB_is (kind10 r : Int) (body10 r) hk.1 hk.2 (by omega)
  have S' := sealB_is (kind10 r' : Int) (body10 r') hk'.1 hk'.2 (by omega)
  have P := put_len12 (body10 r).length (by omega)
  rw [if_pos (by omega)] at P
  have P' := put_len12 (body10 r').length (by omega)
  by_cases hkk : kind10 r = kind10 r'
  · have ho : openK (kind10 r) ((sealB (kind10 r : Int) (body10 r)).set j y ++ more) = (body10 r', (sealB (kind10 r' : Int) (body10 r')).length, 0) := by
      rw [← en, e, en', hkk]
      exact openK_seal _ _ _ (by omega) (by omega) (by omega)
    obtain ⟨hne, hj1, hj2, _, q, _⟩ := frame_spoilt (k := kind10 r) (by omega) (by omega) (by omega) (by rw [← en]; exact hj) (by simpa [en] using hy) ho
    have hhard : r.hard = r'.hard := by
      unfold kind10 at hkk
      cases hr : r.hard <;> cases hr' : r'.hard <;> simp_all
    obtain ⟨Q, hQ⟩ : ∃ Q, Nu.put (((body10 r).length : Nat) : Int) = Q := ⟨_, rfl⟩
    obtain ⟨Q', hQ'⟩ : ∃ Q', Nu.put (((body10 r').length : Nat) : Int) = Q' := ⟨_, rfl⟩
    obtain ⟨F, hF⟩ : ∃ F, fourB (crcSum ((kind10 r : Int).toNat.toUInt8 :: Q ++ body10 r)) = F := ⟨_, rfl⟩
    obtain ⟨F', hF'⟩ : ∃ F', fourB (crcSum ((kind10 r' : Int).toNat.toUInt8 :: Q' ++ body10 r')) = F' := ⟨_, rfl⟩
    have hFl : F.length = 4 := by rw [← hF, fourB_len]
    have hFl' : F'.length = 4 := by rw [← hF', fourB_len]
    rw [hQ] at S P hj2
    rw [hQ'] at S' P'
    rw [hF] at S
    rw [hF'] at S'
    have j1 : j = 1 := by omega
    subst j1
    rw [en, en', S, S'] at e
    obtain ⟨q0, rfl⟩ : ∃ q0, Q = [q0] := by
      match Q, P with
      | [q0], _ => exact ⟨q0, rfl⟩
    simp only [List.cons_append, List.nil_append, List.set_cons_succ, List.set_cons_zero, List.append_assoc, List.cons.injEq] at e
    have e := e.2
    by_cases h64 : (body10 r').length < 64
    · rw [if_pos h64] at P'
      obtain ⟨q1, rfl⟩ : ∃ q1, Q' = [q1] := by
        match Q', P' with
        | [q1], _ => exact ⟨q1, rfl⟩
      simp only [List.cons_append, List.nil_append, List.cons.injEq] at e
      obtain ⟨_, e3⟩ := List.append_inj e.2 (by omega)
      exact hne (body11_one h h' hhard e3).symm
    · rw [if_neg h64] at P'
      have e4 := congrArg (List.drop 6) e
      have d1 : (y :: (F ++ (body10 r ++ more))).drop 6 = (body10 r ++ more).drop 1 := by
        rw [List.drop_succ_cons, show 5 = F.length + 1 by omega, List.drop_append, List.drop_eq_nil_of_le (Nat.le_succ _), List.nil_append, Nat.add_sub_cancel_left]
      have d2 : (Q' ++ (F' ++ (body10 r' ++ z))).drop 6 = body10 r' ++ z := by
        rw [← List.append_assoc, List.drop_left' (by rw [List.length_append]; omega)]
      rw [d1, d2] at e4
      cases hh : r.hard with
      | true =>
        have := hm hh
        have := congrArg List.length e4
        simp only [List.length_drop, List.length_append] at this
        omega
      | false =>
        obtain ⟨_, _, m1, m2, m3, m4, m5, m6, m7⟩ := may10_ent h hh
        obtain ⟨_, _, n1, n2, n3, n4, n5, n6, n7⟩ := may10_ent h' (by rw [← hhard]; exact hh)
        obtain ⟨s1, s2⟩ := hs hh
        have l1 : r.e.data.data.toList.length = r.e.data.size := size_list10 _
        have p1 := put_1 r.e.ix.toNat (by omega)
        rw [show ((r.e.ix.toNat : Nat) : Int) = r.e.ix by omega] at p1
        unfold body10 at e4
        rw [hh, ← hhard, hh] at e4
        simp only [Bool.false_eq_true, if_false] at e4
        unfold bodyE10 Nu.putT at e4
        rw [p1] at e4
        simp only [List.append_assoc, List.cons_append, List.nil_append, List.drop_succ_cons, List.drop_zero] at e4
        obtain ⟨e1, e4⟩ := Vn.one (vn_put _ (by omega) m4).1 (vn_put _ (by omega) n2).1 e4
        obtain ⟨e2, e4⟩ := Vn.one (vn_put _ (by omega) (by omega)).1 (vn_put _ (by omega) n4).1 e4
        obtain ⟨e3, _⟩ := Vn.one (vn_put _ (by omega) (by omega)).1 (vn_put _ (by omega) (by omega)).1 e4
        have := put_inj (by omega) (by omega) (by omega) (by omega) e3
        omega
  · -- the kind itself was changed
    rw [en, en', S, S'] at e
    have j0 : j = 0 := by
      rcases Nat.eq_zero_or_pos j with h0 | h0
      · exact h0
      · obtain ⟨j', rfl⟩ : ∃ j', j = j' + 1 := ⟨j - 1, by omega⟩
        rw [List.set_cons_succ] at e
        simp only [List.cons_append, List.cons.injEq] at e
        have e1 := congrArg UInt8.toNat e.1
        rw [kind_back _ hk.1 hk.2, kind_back _ hk'.1 hk'.2] at e1
        exact absurd (by simpa using e1) hkk
    subst j0
    rw [List.set_cons_zero] at e
    simp only [List.cons_append, List.append_assoc, List.cons.injEq] at e
    obtain ⟨e0, e⟩ := e
    obtain ⟨e1, e⟩ := Vn.one (vn_put _ (by omega) (by omega)).1 (vn_put _ (by omega) (by omega)).1 e
    have e2 := put_inj (by omega) (by omega) (by omega) (by omega) e1
    obtain ⟨e3, e⟩ := List.append_inj e (by rw [fourB_len, fourB_len])
    obtain ⟨e4, _⟩ := List.append_inj e (by omega)
    have e5 := fourB_inj (crcSum_lt _) (crcSum_lt _) e3
    rw [e1, e4] at e5
    have e6 := crcSum_one (a := []) e5
    have e7 := congrArg UInt8.toNat e6
    rw [kind_back _ hk.1 hk.2, kind_back _ hk'.1 hk'.2] at e7
    exact hkk (by simpa using e7)
/-- records that are short, a Hard last alone -/
def Sms : List Rcd → Prop
  | [] => True
  | r :: t => may10 r = true ∧ Sm11 r ∧ (r.hard = true → t = []) ∧ Sms t
theorem decR10_nil : decR10 [] = (zRcd, 0, 2) := decR10_e (l := []) (b := []) (k := 0) (n := 0) rfl (by decide)
/-- records that were cut off -/
theorem scr_cut : ∀ (rs : List Rcd), (∀ r ∈ rs, may10 r = true) → ∀ (m : Nat), m ≤ (encs10 rs).length →
    ∃ i, i ≤ rs.length ∧ ScR ((encs10 rs).take m) (rs.take i) (encs10 (rs.take i)).length 2 ∧ (encs10 (rs.take i)).length ≤ m ∧ ∀ j, j ≤ rs.length → (encs10 (rs.take j)).length ≤ m → j ≤ i
  | [], _, m, _ => ⟨0, Nat.le_refl _, by simpa [encs10] using ScR.nil [] 2 decR10_nil (by decide), by simp [encs10], fun j hj _ => hj⟩
  | r :: t, h, m, hm => by
    have hr := h r (List.mem_cons_self ..)
    rw [encs10_cons] at hm ⊢
    rw [List.length_append] at hm
    by_cases hc : m < (encR10 r).length
    · refine ⟨0, Nat.zero_le _, ?_, by simp [encs10], fun j hj hl => ?_⟩
      · rw [List.take_append_of_le_length (by omega)]
        exact ScR.nil _ 2 (decR10_cut hr hc) (by decide)
      · cases j with
        | zero => exact Nat.le_refl _
        | succ j =>
          rw [List.take_succ_cons, encs10_cons, List.length_append] at hl
          omega
    · obtain ⟨i, h1, h2, h3, h4⟩ := scr_cut t (fun q hq => h q (List.mem_cons_of_mem _ hq)) (m - (encR10 r).length) (by omega)
      refine ⟨i + 1, by simpa using h1, ?_, ?_, fun j hj hl => ?_⟩
      · rw [List.take_append, List.take_of_length_le (by omega), List.take_succ_cons, encs10_cons, List.length_append]
        refine ScR.cons _ r _ _ _ 2 (decR10_enc hr _) ?_
        rw [List.drop_left]; exact h2
      · rw [List.take_succ_cons, encs10_cons, List.length_append]; omega
      · cases j with
        | zero => exact Nat.zero_le _
        | succ j =>
          rw [List.take_succ_cons, encs10_cons, List.length_append] at hl
          have := h4 j (by simpa using hj) (by omega)
          omega
/-- records that were cut off, and of which a byte was changed -/
theorem scr_spoilt : ∀ (rs : List Rcd), Sms rs → ∀ (m p : Nat) (y : UInt8) (_ : m ≤ (encs10 rs).length) (_ : p < m), (encs10 rs)[p]? ≠ some y →
    ∃ i u e, i ≤ rs.length ∧ ScR (((encs10 rs).take m).set p y) (rs.take i) u e
  | [], _, m, p, y, hm, hp, _ => by simp [encs10] at hm; omega
  | r :: t, h, m, p, y, hm, hp, hy => by
    obtain ⟨hr, hs, hh, ht⟩ := h
    rw [encs10_cons] at hm hy ⊢
    rw [List.length_append] at hm
    by_cases hc : p < (encR10 r).length
    · refine ⟨0, 0, ?_⟩
      obtain ⟨⟨r', n, e⟩, hd⟩ : ∃ x, decR10 (((encR10 r ++ encs10 t).take m).set p y) = x := ⟨_, rfl⟩
      have he : e ≠ 0 := by
        rintro rfl
        obtain ⟨g1, g2, _, _⟩ := decR10_good hd
        have e1 : (encR10 r).set p y ++ encs10 t = encR10 r' ++ ((((encR10 r ++ encs10 t).take m).set p y).drop n ++ (encR10 r ++ encs10 t).drop m) := by
          rw [← g2, ← List.append_assoc, List.take_append_drop]
          have e2 : (encR10 r).set p y ++ encs10 t = (encR10 r ++ encs10 t).set p y := by rw [List.set_append_left _ _ hc]
          rw [e2]
          conv => lhs; rw [← List.take_append_drop m (encR10 r ++ encs10 t)]
          rw [List.set_append_left _ _ (by rw [List.length_take, List.length_append]; omega)]
        refine enc_rigid hr g1 hs (fun h => ?_) hc ?_ e1
        · rw [hh h]; simp [encs10]
        · rw [List.getElem?_append_left hc, List.getElem?_eq_getElem hc] at hy
          exact fun e => hy (by rw [e])
      obtain ⟨g1, g2, _⟩ := decR10_bad hd he
      subst g1; subst g2
      exact ⟨e, Nat.zero_le _, ScR.nil _ e hd he⟩
    · have hy2 : (encs10 t)[p - (encR10 r).length]? ≠ some y := by rw [List.getElem?_append_right (by omega)] at hy; exact hy
      obtain ⟨i, u, e, h1, h2⟩ := scr_spoilt t ht (m - (encR10 r).length) (p - (encR10 r).length) y (by omega) (by omega) hy2
      refine ⟨i + 1, (encR10 r).length + u, e, by simpa using h1, ?_⟩
      rw [List.take_append, List.take_of_length_le (by omega), List.set_append_right _ _ (by omega), List.take_succ_cons]
      refine ScR.cons _ r _ _ _ e (decR10_enc hr _) ?_
      rw [List.drop_left]; exact h2
/-- what a crash leaves is read as a state of which P holds -/
theorem Fh.crash {b : List UInt8} {f : Nat} {k : Kst} {P : Kst → Prop} (h : Fh (some (b, f)) k P) (n : Int) :
    ∃ c bs N L u k', crash11 n (some (b, f)) = some (c, c.length) ∧ c.length ≤ 1048576 ∧ getS10 c = (bs, N, 0) ∧ N ≤ c.length ∧ ScR (c.drop N) L u 2 ∧ play11 (base11 bs) L = some k' ∧ KOk k' ∧ P k' ∧ N + u ≤ c.length ∧ (maySnp10 bs = true ∧ 1 ≤ N) ∧ Fh (some (c.take (N + u), N + u)) k' (fun a => a = k') := by
  have hg := h.good b f rfl
  have hK := kOf9_le (n := n) (f := ⟨stateN, b, f, true⟩) hg.1
  obtain ⟨m, hm⟩ : ∃ m, f + kOf9 n ⟨stateN, b, f, true⟩ = m := ⟨_, rfl⟩
  simp only at hK
  rw [hm] at hK
  obtain ⟨h0, hp, bs, rs, j, h1, h2, h3, h4, h5, h6, h7, h8⟩ := h
  have hN := snapB10_len h1
  rw [List.length_append] at h5
  have hb : b.length = (snapB10 bs).length + (encs10 rs).length := by rw [h3, List.length_append]
  obtain ⟨i, i1, i2, i3, i4⟩ := scr_cut rs h2 (m - (snapB10 bs).length) (by omega)
  have hi := i4 j h4 (by omega)
  obtain ⟨k', e1, e2, e3⟩ := h7 i i1
  have hc : b.take m = snapB10 bs ++ (encs10 rs).take (m - (snapB10 bs).length) := by rw [h3, List.take_append, List.take_of_length_le (by omega)]
  have hl : (b.take m).length = m := by rw [List.length_take]; omega
  refine ⟨b.take m, bs, (snapB10 bs).length, rs.take i, (encs10 (rs.take i)).length, k', ?_, by omega, by rw [hc]; exact getS10_put h1 _, by omega, by rw [hc, List.drop_left]; exact i2, e1, e2, e3 hi, by omega, ⟨h1, by omega⟩, ?_⟩
  · show some (b.take (f + kOf9 n ⟨stateN, b, f, true⟩), f + kOf9 n ⟨stateN, b, f, true⟩) = _
    rw [hm, hl]
  · have hct : (b.take m).take ((snapB10 bs).length + (encs10 (rs.take i)).length) = snapB10 bs ++ encs10 (rs.take i) := by
      rw [List.take_take, Nat.min_eq_left (by omega), h3, List.take_append, List.take_of_length_le (by omega), Nat.add_sub_cancel_left]
      congr 1
      have : encs10 rs = encs10 (rs.take i) ++ encs10 (rs.drop i) := by unfold encs10; rw [← List.flatMap_append, List.take_append_drop]
      rw [this, List.take_left]
    rw [hct]
    refine ⟨e2, rfl, bs, rs.take i, (rs.take i).length, h1, fun r hr => h2 r (List.mem_of_mem_take hr), rfl, Nat.le_refl _, by rw [List.take_length, List.length_append], by rw [List.length_append]; omega, fun q hq => ?_, e1⟩
    rw [List.length_take] at hq
    rw [List.take_take, Nat.min_eq_left (by omega)]
    obtain ⟨k2, a1, a2, _⟩ := h7 q (by omega)
    refine ⟨k2, a1, a2, fun hq2 => ?_⟩
    rw [List.length_take] at hq2
    have : q = i := by omega
    subst this
    rw [e1] at a1
    injection a1 with a1
    exact a1.symm
end Go.Proofs.YtbiecoifeeikpaaDoor
/-
  Package keep's read and whole: a state out of a file's bytes; a file's bytes.
  There are no conditions beyond those that each lemma names.
-/
set_option linter.unusedSimpArgs false
set_option linter.unusedVariables false
namespace Go.Proofs.YtbiecoifeeikpaaDoor
open Go.RowKit Go.Deep
set_option maxRecDepth 100000

theorem bytA {w : World} {B : Nat} {A : Option Addr} {n c : Nat} {l : List UInt8} (h : Byt w B (.slice A n c) l) : n = l.length ∧ n ≤ c := by
  obtain ⟨A', c', hv, hc, _⟩ := h
  injection hv with e1 e2 e3
  subst e2; subst e3; exact ⟨rfl, hc⟩
set_option maxHeartbeats 400000 in
theorem kread_no1 (u : Value) (B : Nat) (l : List UInt8) (w : World) (h : Byt w B u l) (hB : B ≤ w.heap.size) (hl : l.length ≤ 1050000) (hT : Tbl w) (n e : Nat) (hr : getS10 l = (zSnp, n, e)) (he : e ≠ 0) :
    Calls Tryd.prog 19 #[u] w fun e w' => e = .returned (.tuple #[.agg #[.int .i64 0, .int .i64 0, .int .i64 0, .int .i64 0, .string ⟨#[]⟩, .string ⟨#[]⟩, .slice none 0 0], .int .i64 0, .bool false]) ∧ Below w.heap.size w w' := by
  obtain ⟨A, c, rfl⟩ := byt_slice h
  obtain ⟨b, hb⟩ : ∃ b, w.heap.size = b := ⟨_, rfl⟩
  obtain ⟨W0, hW0⟩ : ∃ W0, w.alloc (.cells #[.int .i64 0, .int .i64 0, .int .i64 0, .int .i64 0, .string ⟨#[]⟩, .string ⟨#[]⟩, .slice none 0 0] 52) = W0 := ⟨_, rfl⟩
  have hy : Rt W0 b 52 [.int .i64 0, .int .i64 0, .int .i64 0, .int .i64 0, .string ⟨#[]⟩, .string ⟨#[]⟩, .slice none 0 0] := by rw [← hW0, ← hb]; exact Rt.new _ _ _
  have hBW : Below b w W0 := by rw [← hW0, ← hb]; exact below_new _ _
  have hby := h.below hBW (by omega)
  have hT0 : Tbl W0 := tbl_keep hT (by rw [hb]; exact hBW)
  have hB0 : B ≤ W0.heap.size := Nat.le_trans hB hBW.size
  have hbW : b ≤ W0.heap.size := by rw [← hb]; exact hBW.size
  obtain ⟨q, hq⟩ : ∃ q, l.length = q := ⟨_, rfl⟩
  rw [hq] at hby
  have HBY := Lib.hid hby
  have HT0 := Lib.hid hT0
  have HQ := Lib.hid hq
  rw [hq] at hl ⊢
  have he2 : ¬ (e : Int) = 0 := by omega
  have he3 : ((e : Int) != 0) = true := by simpa using he2
  have hb2 : b ≤ b := Nat.le_refl b
  clear h hT hT0 hby hq
  go_enter Tryd.func19, Tryd.ntmps19
  go_wp2_with fail
  refine (wget_v _ B l W0 HBY.out hB0 (by rw [HQ.out]; exact hl) HT0.out 0 0 ByteArray.empty ByteArray.empty n e hr).mono ?_
  rintro e9 w1 ⟨rfl, h1⟩
  obtain ⟨W1, hW1⟩ : ∃ W1, w1.alloc (.cells #[.int .i64 0, .int .i64 0, .string ByteArray.empty, .string ByteArray.empty] 33) = W1 := ⟨_, rfl⟩
  have h2 : Below w1.heap.size w1 W1 := by rw [← hW1]; exact below_new _ _
  replace hy := (hy.below h1).below h2
  have hB1 := (hBW.trans (h1.mono hbW)).trans (h2.mono (Nat.le_trans hbW h1.size))
  clear h1 h2 hBW
  have d0 := hy.cell (j := 0) rfl
  have e0 := hy.frz 0
  have d1 := hy.cell (j := 1) rfl
  have e1 := hy.frz 1
  have d2 := hy.cell (j := 2) rfl
  have e2 := hy.frz 2
  have d3 := hy.cell (j := 3) rfl
  have e3 := hy.frz 3
  have d4 := hy.cell (j := 4) rfl
  have e4 := hy.frz 4
  have d5 := hy.cell (j := 5) rfl
  have e5 := hy.frz 5
  have d6 := hy.cell (j := 6) rfl
  have e6 := hy.frz 6
  have hB9 := (((((((hB1.setCell (p := ⟨b, 0, none⟩) (Nat.le_refl b) (.int .i64 0)).setCell (p := ⟨b, 1, none⟩) (Nat.le_refl b) (.int .i64 0)).setCell (p := ⟨b, 2, none⟩) (Nat.le_refl b) (.int .i64 0)).setCell (p := ⟨b, 3, none⟩) (Nat.le_refl b) (.int .i64 0)).setCell (p := ⟨b, 4, none⟩) (Nat.le_refl b) (.string ⟨#[]⟩)).setCell (p := ⟨b, 5, none⟩) (Nat.le_refl b) (.string ⟨#[]⟩)).setCell (p := ⟨b, 6, none⟩) (Nat.le_refl b) (.slice none 0 0))
  have hy9 := (((((((hy.set 0 (.int .i64 0)).set 1 (.int .i64 0)).set 2 (.int .i64 0)).set 3 (.int .i64 0)).set 4 (.string ⟨#[]⟩)).set 5 (.string ⟨#[]⟩)).set 6 (.slice none 0 0))
  obtain ⟨W9, hW9⟩ : ∃ W9, (((((((W1.setCell ⟨b, 0, none⟩ (.int .i64 0)).setCell ⟨b, 1, none⟩ (.int .i64 0)).setCell ⟨b, 2, none⟩ (.int .i64 0)).setCell ⟨b, 3, none⟩ (.int .i64 0)).setCell ⟨b, 4, none⟩ (.string ⟨#[]⟩)).setCell ⟨b, 5, none⟩ (.string ⟨#[]⟩)).setCell ⟨b, 6, none⟩ (.slice none 0 0)) = W9 := ⟨_, rfl⟩
  rw [hW9] at hB9 hy9
  have g0 := hy9.cell (j := 0) rfl
  have g1 := hy9.cell (j := 1) rfl
  have g2 := hy9.cell (j := 2) rfl
  have g3 := hy9.cell (j := 3) rfl
  have g4 := hy9.cell (j := 4) rfl
  have g5 := hy9.cell (j := 5) rfl
  have g6 := hy9.cell (j := 6) rfl
  clear hy hy9 hB1
  go_wp2
  exact bodyPost_ret (v := .tuple #[.agg #[.int .i64 0, .int .i64 0, .int .i64 0, .int .i64 0, .string ⟨#[]⟩, .string ⟨#[]⟩, .slice none 0 0], .int .i64 0, .bool false]) (by simp [results, Tryd.results19, go_sem, g0, g1, g2, g3, g4, g5, g6]) rfl ⟨rfl, by rw [hb]; exact hB9⟩
set_option maxHeartbeats 1000000 in
theorem kread_no2 (u : Value) (B : Nat) (l : List UInt8) (w : World) (h : Byt w B u l) (hB : B ≤ w.heap.size) (hl : l.length ≤ 1050000) (hT : Tbl w) (ix st : Int) (cf dt : ByteArray) (N : Nat) (hr : getS10 l = (⟨ix, st, cf, dt⟩, N, 0)) (hN0 : 1 ≤ N) (hN : N ≤ l.length) (L : List Rcd) (us er : Nat) (hS : ScR (l.drop N) L us er) (he : er ≠ 2) :
    Calls Tryd.prog 19 #[u] w fun e w' => e = .returned (.tuple #[.agg #[.int .i64 0, .int .i64 0, .int .i64 0, .int .i64 0, .string ⟨#[]⟩, .string ⟨#[]⟩, .slice none 0 0], .int .i64 0, .bool false]) ∧ Below w.heap.size w w' := by
  obtain ⟨A, c, rfl⟩ := byt_slice h
  obtain ⟨b, hb⟩ : ∃ b, w.heap.size = b := ⟨_, rfl⟩
  obtain ⟨W0, hW0⟩ : ∃ W0, w.alloc (.cells #[.int .i64 0, .int .i64 0, .int .i64 0, .int .i64 0, .string ⟨#[]⟩, .string ⟨#[]⟩, .slice none 0 0] 52) = W0 := ⟨_, rfl⟩
  have hy : Rt W0 b 52 [.int .i64 0, .int .i64 0, .int .i64 0, .int .i64 0, .string ⟨#[]⟩, .string ⟨#[]⟩, .slice none 0 0] := by rw [← hW0, ← hb]; exact Rt.new _ _ _
  have hBW : Below b w W0 := by rw [← hW0, ← hb]; exact below_new _ _
  have hby := h.below hBW (by omega)
  have hT0 : Tbl W0 := tbl_keep hT (by rw [hb]; exact hBW)
  have hB0 : B ≤ W0.heap.size := Nat.le_trans hB hBW.size
  have hbW : b ≤ W0.heap.size := by rw [← hb]; exact hBW.size
  obtain ⟨q, hq⟩ : ∃ q, l.length = q := ⟨_, rfl⟩
  rw [hq] at hby
  have HBY := Lib.hid hby
  have HT0 := Lib.hid hT0
  have HQ := Lib.hid hq
  rw [hq] at hl ⊢
  obtain ⟨g, o, rfl⟩ : ∃ g o, A = some ⟨g, o, Option.none⟩ := by
    obtain ⟨A', c', hv, _, hx⟩ := h
    injection hv with e1 _ _
    subst e1
    obtain ⟨g, o, hA, _⟩ := hx (by omega)
    exact ⟨g, o, hA⟩
  have hqc := (bytA h).2
  rw [hq] at hqc
  have hlen : (l.drop N).length ≤ 1050000 := by rw [List.length_drop]; omega
  have HLEN := Lib.hid hlen
  have HS := Lib.hid hS
  rw [hq] at hN
  have HQN := Lib.hid hq
  clear h hT hT0 hby hlen hS
  go_enter Tryd.func19, Tryd.ntmps19
  go_wp2_with fail
  refine (wget_v _ B l W0 HBY.out hB0 (by rw [HQ.out]; exact hl) HT0.out ix st cf dt N 0 hr).mono ?_
  rintro e9 w1 ⟨rfl, h1⟩
  obtain ⟨W1, hW1⟩ : ∃ W1, w1.alloc (.cells #[.int .i64 ix, .int .i64 st, .string cf, .string dt] 33) = W1 := ⟨_, rfl⟩
  obtain ⟨sb, hsb⟩ : ∃ sb, w1.heap.size = sb := ⟨_, rfl⟩
  have h2 : Below sb w1 W1 := by rw [← hW1, ← hsb]; exact below_new _ _
  have hx : Rt W1 sb 33 [.int .i64 ix, .int .i64 st, .string cf, .string dt] := by rw [← hW1, ← hsb]; exact Rt.new _ _ _
  replace hy := (hy.below h1).below (by rw [hsb]; exact h2)
  have hbs : b ≤ sb := by rw [← hsb]; exact Nat.le_trans hbW h1.size
  have hb9 : b < sb := by rw [← hsb]; have := h1.size; have e9 : W0.heap.size = b + 1 := by rw [← hW0, ← hb]; simp
                          omega
  have hB1 := (hBW.trans (h1.mono hbW)).trans (h2.mono hbs)
  have hBs1 : b ≤ W1.heap.size := Nat.le_trans (by omega) hB1.size
  have HT1 := Lib.hid (tbl_keep (tbl_keep HT0.out h1) (by rw [hsb]; exact h2))
  have HBY1 := Lib.hid ((HBY.out.below h1 hB0).below (C := sb) h2 (by rw [← hsb]; exact Nat.le_trans hB0 h1.size))
  have hBB1 : B ≤ W1.heap.size := Nat.le_trans (Nat.le_trans hB0 h1.size) (by have := h2.size; omega)
  clear h1 h2 hBW hq HQ HT0 HBY hB0 hbW hW0
  by_cases hcN : c = N
  · have hcut0 := HBY1.out
    rw [← HQN.out] at hcut0
    have hcut := hcut0.cut (k := N) (by rw [HQN.out]; exact hN)
    rw [add_lit_10, if_pos hcN, HQN.out] at hcut
    clear hcut0
    subst hcN
    have HCUT := Lib.hid hcut
    clear hcut
    have hqc2 : q = c := by omega
    subst hqc2
    go_wp2_with fail
    rw [Nat.sub_self] at HCUT
    have hrun := Swscan_any _ B (l.drop q) W1 HCUT.out hBB1 HLEN.out HT1.out (fun _ => .inr ⟨g, o, _, by first | rfl | (rw [show q - N = 0 by have := HQN.out; rename_i hh; have h9 := congrArg List.length hh; rw [List.length_drop, List.length_nil] at h9; omega])⟩)
    refine hrun.mono ?_
    rintro e9 w3 ⟨L', us', er', v3, hS', rfl, hO3, h3⟩
    obtain ⟨rfl, rfl, rfl⟩ := HS.out.two hS'
    have HL6 := Lib.hid HS.out.len
    obtain ⟨A3, c3, rfl⟩ := own_slice hO3
    clear hrun hS' HS
    replace hy := hy.below h3
    replace hx := hx.below h3
    have hB3 := hB1.trans (h3.mono hBs1)
    have d0 := hy.cell (j := 0) rfl
    have e0 := hy.frz 0
    have d1 := hy.cell (j := 1) rfl
    have e1 := hy.frz 1
    have d2 := hy.cell (j := 2) rfl
    have e2 := hy.frz 2
    have d3 := hy.cell (j := 3) rfl
    have e3 := hy.frz 3
    have d4 := hy.cell (j := 4) rfl
    have e4 := hy.frz 4
    have d5 := hy.cell (j := 5) rfl
    have e5 := hy.frz 5
    have d6 := hy.cell (j := 6) rfl
    have e6 := hy.frz 6
    have hB9 := (((((((hB3.setCell (p := ⟨b, 0, none⟩) (Nat.le_refl b) (.int .i64 0)).setCell (p := ⟨b, 1, none⟩) (Nat.le_refl b) (.int .i64 0)).setCell (p := ⟨b, 2, none⟩) (Nat.le_refl b) (.int .i64 0)).setCell (p := ⟨b, 3, none⟩) (Nat.le_refl b) (.int .i64 0)).setCell (p := ⟨b, 4, none⟩) (Nat.le_refl b) (.string ⟨#[]⟩)).setCell (p := ⟨b, 5, none⟩) (Nat.le_refl b) (.string ⟨#[]⟩)).setCell (p := ⟨b, 6, none⟩) (Nat.le_refl b) (.slice none 0 0))
    have hy9 := (((((((hy.set 0 (.int .i64 0)).set 1 (.int .i64 0)).set 2 (.int .i64 0)).set 3 (.int .i64 0)).set 4 (.string ⟨#[]⟩)).set 5 (.string ⟨#[]⟩)).set 6 (.slice none 0 0))
    obtain ⟨W9, hW9⟩ : ∃ W9, (((((((w3.setCell ⟨b, 0, none⟩ (.int .i64 0)).setCell ⟨b, 1, none⟩ (.int .i64 0)).setCell ⟨b, 2, none⟩ (.int .i64 0)).setCell ⟨b, 3, none⟩ (.int .i64 0)).setCell ⟨b, 4, none⟩ (.string ⟨#[]⟩)).setCell ⟨b, 5, none⟩ (.string ⟨#[]⟩)).setCell ⟨b, 6, none⟩ (.slice none 0 0)) = W9 := ⟨_, rfl⟩
    rw [hW9] at hB9 hy9
    have g0 := hy9.cell (j := 0) rfl
    have g1 := hy9.cell (j := 1) rfl
    have g2 := hy9.cell (j := 2) rfl
    have g3 := hy9.cell (j := 3) rfl
    have g4 := hy9.cell (j := 4) rfl
    have g5 := hy9.cell (j := 5) rfl
    have g6 := hy9.cell (j := 6) rfl
    clear hy hy9 hB1 hB3
    have he2 : (er == 2) = false := by simpa using he
    rw [he2]
    go_wp2
    exact bodyPost_ret (v := .tuple #[.agg #[.int .i64 0, .int .i64 0, .int .i64 0, .int .i64 0, .string ⟨#[]⟩, .string ⟨#[]⟩, .slice none 0 0], .int .i64 0, .bool false]) (by simp [results, Tryd.results19, go_sem, g0, g1, g2, g3, g4, g5, g6]) rfl ⟨rfl, by rw [hb]; exact hB9⟩
  · have hcut0 := HBY1.out
    rw [← HQN.out] at hcut0
    have hcut := hcut0.cut (k := N) (by rw [HQN.out]; exact hN)
    rw [add_lit_10, if_neg hcN, HQN.out] at hcut
    clear hcut0

    have HCUT := Lib.hid hcut
    clear hcut


    go_wp2_with fail

    have hrun := Swscan_any _ B (l.drop N) W1 HCUT.out hBB1 HLEN.out HT1.out (fun _ => .inr ⟨g, o + N, _, by first | rfl | (rw [show q - N = 0 by have := HQN.out; rename_i hh; have h9 := congrArg List.length hh; rw [List.length_drop, List.length_nil] at h9; omega])⟩)
    refine hrun.mono ?_
    rintro e9 w3 ⟨L', us', er', v3, hS', rfl, hO3, h3⟩
    obtain ⟨rfl, rfl, rfl⟩ := HS.out.two hS'
    have HL6 := Lib.hid HS.out.len
    obtain ⟨A3, c3, rfl⟩ := own_slice hO3
    clear hrun hS' HS
    replace hy := hy.below h3
    replace hx := hx.below h3
    have hB3 := hB1.trans (h3.mono hBs1)
    have d0 := hy.cell (j := 0) rfl
    have e0 := hy.frz 0
    have d1 := hy.cell (j := 1) rfl
    have e1 := hy.frz 1
    have d2 := hy.cell (j := 2) rfl
    have e2 := hy.frz 2
    have d3 := hy.cell (j := 3) rfl
    have e3 := hy.frz 3
    have d4 := hy.cell (j := 4) rfl
    have e4 := hy.frz 4
    have d5 := hy.cell (j := 5) rfl
    have e5 := hy.frz 5
    have d6 := hy.cell (j := 6) rfl
    have e6 := hy.frz 6
    have hB9 := (((((((hB3.setCell (p := ⟨b, 0, none⟩) (Nat.le_refl b) (.int .i64 0)).setCell (p := ⟨b, 1, none⟩) (Nat.le_refl b) (.int .i64 0)).setCell (p := ⟨b, 2, none⟩) (Nat.le_refl b) (.int .i64 0)).setCell (p := ⟨b, 3, none⟩) (Nat.le_refl b) (.int .i64 0)).setCell (p := ⟨b, 4, none⟩) (Nat.le_refl b) (.string ⟨#[]⟩)).setCell (p := ⟨b, 5, none⟩) (Nat.le_refl b) (.string ⟨#[]⟩)).setCell (p := ⟨b, 6, none⟩) (Nat.le_refl b) (.slice none 0 0))
    have hy9 := (((((((hy.set 0 (.int .i64 0)).set 1 (.int .i64 0)).set 2 (.int .i64 0)).set 3 (.int .i64 0)).set 4 (.string ⟨#[]⟩)).set 5 (.string ⟨#[]⟩)).set 6 (.slice none 0 0))
    obtain ⟨W9, hW9⟩ : ∃ W9, (((((((w3.setCell ⟨b, 0, none⟩ (.int .i64 0)).setCell ⟨b, 1, none⟩ (.int .i64 0)).setCell ⟨b, 2, none⟩ (.int .i64 0)).setCell ⟨b, 3, none⟩ (.int .i64 0)).setCell ⟨b, 4, none⟩ (.string ⟨#[]⟩)).setCell ⟨b, 5, none⟩ (.string ⟨#[]⟩)).setCell ⟨b, 6, none⟩ (.slice none 0 0)) = W9 := ⟨_, rfl⟩
    rw [hW9] at hB9 hy9
    have g0 := hy9.cell (j := 0) rfl
    have g1 := hy9.cell (j := 1) rfl
    have g2 := hy9.cell (j := 2) rfl
    have g3 := hy9.cell (j := 3) rfl
    have g4 := hy9.cell (j := 4) rfl
    have g5 := hy9.cell (j := 5) rfl
    have g6 := hy9.cell (j := 6) rfl
    clear hy hy9 hB1 hB3
    have he2 : (er == 2) = false := by simpa using he
    rw [he2]
    go_wp2
    exact bodyPost_ret (v := .tuple #[.agg #[.int .i64 0, .int .i64 0, .int .i64 0, .int .i64 0, .string ⟨#[]⟩, .string ⟨#[]⟩, .slice none 0 0], .int .i64 0, .bool false]) (by simp [results, Tryd.results19, go_sem, g0, g1, g2, g3, g4, g5, g6]) rfl ⟨rfl, by rw [hb]; exact hB9⟩
end Go.Proofs.YtbiecoifeeikpaaDoor
/-
  Small functions of package disk: which names may be, which sizes, how many bytes are loose, a lasting file, a new disk, the count.
  There are no conditions beyond those that each lemma names.
-/
set_option linter.unusedSimpArgs false
set_option linter.unusedVariables false
namespace Go.Proofs.YtbiecoifeeikpaaDoor
open Go.RowKit
set_option maxRecDepth 100000

theorem dcl_low (c : UInt8) (t : List UInt8) : (low8 c = true → Ru.dcl (c :: t) = (c.toNat, 1)) ∧ (low8 c = false → (Ru.dcl (c :: t)).1 < 97 ∨ 122 < (Ru.dcl (c :: t)).1) := by
  have hb := c.toNat_lt
  unfold low8 Ru.dcl
  rw [Ru.byt_cons0]
  generalize Ru.byt (c :: t) 1 = b1
  generalize Ru.byt (c :: t) 2 = b2
  generalize Ru.byt (c :: t) 3 = b3
  generalize hn : (c :: t).length = n
  have h1 : 1 ≤ n := by rw [← hn, List.length_cons]; omega
  generalize c.toNat = b0 at *
  constructor
  · intro h
    have h := of_decide_eq_true h
    unfold Lib.decodeN
    simp only [show b0 < 128 by omega, if_true]
  · intro h
    have h := of_decide_eq_false h
    unfold Lib.decodeN
    split
    · simp only; omega
    · right
      repeat' split
      all_goals simp only
      all_goals omega
theorem goodN_size {s : ByteArray} (h : goodN s = true) : 1 ≤ s.size ∧ s.size ≤ 10 := by
  unfold goodN at h
  rw [Bool.and_eq_true, decide_eq_true_eq] at h
  exact h.2
set_option maxHeartbeats 2000000 in
theorem may9_any (s : ByteArray) (w : World) (hs : s.size ≤ maxLen) : Calls Tryd.prog 54 #[.string s] w fun e w' => e = .returned (.bool (goodN s)) ∧ Below w.heap.size w w' := by
  unfold maxLen at hs
  by_cases h0 : s.size < 1
  · have h00 : (s.size : Int) < 1 := by omega
    have hg : goodN s = false := by
      unfold goodN; rw [decide_eq_false (by omega), Bool.and_false]
    have HG := Lib.hid hg; clear hg
    go_enter Tryd.func54, Tryd.ntmps54
    go_wp2
    go_ret
    exact ⟨by rw [HG.out]; rfl, Below.refl _ _⟩
  by_cases h1 : 10 < s.size
  · have h00 : ¬ (s.size : Int) < 1 := by omega
    have h01 : 10 < (s.size : Int) := by omega
    have hg : goodN s = false := by
      unfold goodN; rw [decide_eq_false (by omega), Bool.and_false]
    have HG := Lib.hid hg; clear hg
    go_enter Tryd.func54, Tryd.ntmps54
    go_wp2
    go_ret
    exact ⟨by rw [HG.out]; rfl, Below.refl _ _⟩
  have h00 : ¬ (s.size : Int) < 1 := by omega
  have h01 : ¬ 10 < (s.size : Int) := by omega
  go_enter Tryd.func54, Tryd.ntmps54
  go_wp2
  go_loopw [2] (fun n wr => ∃ pos : Nat, n = .bool false ∧ wr.heap[w.heap.size]? = some (.stringIter s pos) ∧ Below w.heap.size w wr ∧ pos ≤ s.size ∧ (s.data.toList.take pos).all low8 = true) (fun _ wr => s.size - wr.iterPos w.heap.size)
  case atStart => exact ⟨0, rfl, World.iter_heap w s 0, below_new w _, Nat.zero_le _, rfl⟩
  case round =>
    obtain ⟨pos, rfl, hit, hbw, hle, hal⟩ := hrel
    have HAL := Lib.hid hal; clear hal
    by_cases hp : pos < s.size
    · have hnx : ∀ ty, (Instr.next (.pointer (some ⟨w.heap.size, 0, none⟩)) true ty).run Tryd.prog wr = _ := fun ty => Lib.run_next_any_at wr w.heap.size s pos ty hit hp
      have hp2 : pos < s.data.toList.length := by rw [Array.length_toList]; exact hp
      obtain ⟨x, hx⟩ : ∃ x, s.data.toList[pos] = x := ⟨_, rfl⟩
      have hdc : Utf8.decode s pos = Ru.dcl (x :: s.data.toList.drop (pos + 1)) := by
        rw [Ru.decode_list, List.drop_eq_getElem_cons hp2, hx]
      obtain ⟨hd1, hd2⟩ := dcl_low x (s.data.toList.drop (pos + 1))
      rw [← hdc] at hd1 hd2
      have hit2 := Lib.iterAt_heap wr w.heap.size s pos (pos + (Utf8.decode s pos).2) hit
      have hbw2 := Lib.below_iterAt hbw (k := w.heap.size) (Nat.le_refl _) s (pos + (Utf8.decode s pos).2)
      clear hdc
      generalize Utf8.decode s pos = dq at *
      obtain ⟨r, wd⟩ := dq
      by_cases hlow : low8 x = true
      · have h5 := hd1 hlow
        injection h5 with h5 h6
        subst h6
        have h7 : ¬ (r : Int) < 97 ∧ ¬ 122 < (r : Int) := by have := of_decide_eq_true hlow; omega
        obtain ⟨h7, h8⟩ := h7
        have hnl : (s.data.toList.take (pos + 1)).all low8 = true := by rw [List.take_succ_eq_append_getElem hp2, List.all_append, HAL.out, hx]; simp [hlow]
        have HNL := Lib.hid hnl
        clear hd1 hd2 hnl h5 hlow hx
        go_wp2
        go_roundw
        case rel => exact ⟨pos + 1, rfl, hit2, hbw2, by omega, HNL.out⟩
        case measure =>
          simp only [World.iterPos, hit2, hit]
          omega
      · have hno : goodN s = false := by
          unfold goodN
          rw [List.all_eq_false.2 ⟨x, by rw [← hx]; exact List.getElem_mem hp2, hlow⟩]; rfl
        have HNO := Lib.hid hno
        have h5 := hd2 (by simpa using hlow)
        have h5 : (r : Int) < 97 ∨ ¬ (r : Int) < 97 ∧ 122 < (r : Int) := by simp only at h5; omega
        clear hno hd1 hd2 hlow hx
        rcases h5 with h5 | ⟨h5, h6⟩
        all_goals
          go_wp2
          go_ret
          exact ⟨by rw [HNO.out]; rfl, hbw2⟩
    · have hnx : ∀ ty, (Instr.next (.pointer (some ⟨w.heap.size, 0, none⟩)) true ty).run Tryd.prog wr = _ := fun ty => Lib.run_next_end_at wr w.heap.size s pos ty hit hp
      have hgd : goodN s = true := by
        have h := HAL.out
        rw [List.take_of_length_le (by rw [Array.length_toList]; exact Nat.le_of_not_lt hp)] at h
        unfold goodN
        rw [h, decide_eq_true ⟨by omega, by omega⟩]; rfl
      have HGD := Lib.hid hgd; clear hgd
      go_wp2
      go_ret
      exact ⟨by rw [HGD.out]; rfl, hbw⟩
/-- what speaks against a file of that name and size -/
def chk9 (s : ByteArray) (n : Int) : Int := if goodN s = false then 1 else if 1048576 < n then 5 else 0
set_option maxHeartbeats 1050000 in
theorem check9_any (s : ByteArray) (n : Int) (w : World) (hs : s.size ≤ maxLen) : Calls Tryd.prog 32 #[.string s, .int .i64 n] w fun e w' => e = .returned (.int .i64 (chk9 s n)) ∧ Below w.heap.size w w' := by
  obtain ⟨g, hg⟩ : ∃ g, goodN s = g := ⟨_, rfl⟩
  obtain ⟨z, hz⟩ : ∃ z, chk9 s n = z := ⟨_, rfl⟩
  rw [hz]
  unfold chk9 at hz
  rw [hg] at hz
  have hm := may9_any s w hs
  rw [hg] at hm
  cases g
  · rw [if_pos rfl] at hz
    subst hz
    clear hg
    go_enter Tryd.func32, Tryd.ntmps32
    go_wp2_with fail
    refine hm.mono ?_
    rintro e k ⟨rfl, hk⟩
    go_wp2
    go_ret
    exact ⟨rfl, hk⟩
  · rw [if_neg (by simp)] at hz
    clear hg
    by_cases hn : 1048576 < n
    · rw [if_pos hn] at hz
      subst hz
      go_enter Tryd.func32, Tryd.ntmps32
      go_wp2_with fail
      refine hm.mono ?_
      rintro e k ⟨rfl, hk⟩
      go_wp2
      go_ret
      exact ⟨rfl, hk⟩
    · rw [if_neg hn] at hz
      subst hz
      go_enter Tryd.func32, Tryd.ntmps32
      go_wp2_with fail
      refine hm.mono ?_
      rintro e k ⟨rfl, hk⟩
      go_wp2
      go_ret
      exact ⟨rfl, hk⟩
set_option maxHeartbeats 1050000 in
theorem loose9_any (A : Option Addr) (n c : Nat) (fa : Int) (th : Bool) (w : World) (hn : n ≤ 1048576) (hf : 0 ≤ fa ∧ fa ≤ n) :
    Calls Tryd.prog 59 #[.agg #[.slice A n c, .int .i64 fa, .bool th]] w fun e w' => e = .returned (.int .i64 (n - fa)) ∧ Below w.heap.size w w' := by
  have hw : IntKind.i64.wrap ((n : Int) - fa) = n - fa := by rw [IntKind.wrap_i64]; omega
  go_enter Tryd.func59, Tryd.ntmps59
  go_wp2
  go_ret
  exact ⟨by first | rfl | (rw [hw]), by exact below_new _ _⟩
set_option maxHeartbeats 1050000 in
theorem lasting9_any (v : Value) (B : Nat) (l : List UInt8) (w : World) (h : Byt w B v l) (hB : B ≤ w.heap.size) (hl : l.length ≤ 140737488355328) :
    Calls Tryd.prog 34 #[v] w fun e w' => ∃ u, e = .returned (.agg #[u, .int .i64 (l.length : Nat), .bool true]) ∧ OwnB w.heap.size u l w' ∧ Below w.heap.size w w' := by
  obtain ⟨A, c, rfl, _⟩ := id h
  obtain ⟨q, hq⟩ : ∃ q, l.length = q := ⟨_, rfl⟩
  have H := Lib.hid h
  rw [hq]
  rw [hq] at H hl
  clear h
  go_enter Tryd.func34, Tryd.ntmps34
  go_wp2_with fail
  have hz0 : (w.alloc (Obj.cells #[.slice none 0 0, .int .i64 0, .bool false] 78)).heap.size = w.heap.size + 1 := by simp
  refine (clone9_is A q c (B := B) l _ (H.out.below (below_new _ _) hB) (by omega)).mono ?_
  rintro e k ⟨u, rfl, hu, hk⟩
  have hks := hk.size
  rw [hz0] at hu hks
  have hbk := (Blk.new w #[.slice none 0 0, .int .i64 0, .bool false] 78).below hk
  have q0 := hbk.cell (j := 0) rfl
  have q1 := hbk.cell (j := 1) rfl
  have q2 := hbk.cell (j := 2) rfl
  have f0 := hbk.frz 0
  have f1 := hbk.frz 1
  have f2 := hbk.frz 2
  have hb : Below w.heap.size w k := (below_new _ _).trans (hk.mono (by simp))
  have hu2 : OwnB (w.heap.size + 1) u l k := hu
  obtain ⟨Au, cu, huv⟩ := own_slice hu2
  rw [hq] at huv
  subst huv
  have HU := Lib.hid hu2
  clear hk hu hu2 hbk
  go_wp2
  refine bodyPost_ret (v := .agg #[.slice Au q cu, .int .i64 (q : Nat), .bool true]) (by simp [results, Tryd.results34, go_sem, q0, q1, q2]) rfl ⟨_, rfl, ?_, ?_⟩
  · exact (ownsRow_down (ownsRow_set (p := ⟨w.heap.size, 2, none⟩) (ownsRow_set (p := ⟨w.heap.size, 1, none⟩) (ownsRow_set (p := ⟨w.heap.size, 0, none⟩) HU.out (Nat.lt_succ_self _)) (Nat.lt_succ_self _)) (Nat.lt_succ_self _)) (Nat.le_succ _) : OwnB w.heap.size _ l _)
  · exact ((hb.setCell (by simp) _).setCell (by simp) _).setCell (by simp) _
theorem new9_any (w : World) : Calls Tryd.prog 6 #[] w fun e w' => e = .returned (.pointer (some ⟨w.heap.size, 0, none⟩)) ∧ w' = w.alloc (.cells #[.map none, .int .i64 0] 60) := by
  go_enter Tryd.func6, Tryd.ntmps6
  go_wp2
  go_ret
  exact ⟨rfl, rfl⟩
theorem PD.new (w : World) : PD (w.alloc (.cells #[.map none, .int .i64 0] 60)) (fun k => k = w.heap.size) w.heap.size [] 0 :=
  ⟨none, [], rfl, rfl, heap_alloc_new _ _, fun b hb => (by cases hb), rfl, fun p hp => (by cases hp), List.Pairwise.nil, List.Pairwise.nil, fun f hf => (by cases hf), fun k hk => by subst hk; simp⟩
end Go.Proofs.YtbiecoifeeikpaaDoor
/-
  Package disk's put: a file is laid under its name.
  The disk has at most 100,000 files.
-/
set_option linter.unusedSimpArgs false
set_option linter.unusedVariables false
namespace Go.Proofs.YtbiecoifeeikpaaDoor
open Go.RowKit
set_option maxRecDepth 100000

/-- a map is written inside a region -/
theorem wp_put9 {w : World} {o : Oper} {a : Act} {K : Act → World → Prop} {Q : Exit → Act → World → Prop} (m x v : Operand) (hop : o.op = Op.mapUpdate 58 m x v)
    (b : Nat) (ps : List (Fil × Value)) (q : Fil × Value) (hm : a.eval m = .map (some b)) (hown : Map9 w (some b) ps) (hs : ps.Pairwise fun x y => ltK x.1.name y.1.name = true) (hl : ps.length ≤ 100000)
    (hx : a.eval x = .string q.1.name) (hn : q.1.name.size ≤ maxLen) (hv : a.eval v = fileV q)
    (h : ∀ w', Map9 w' (some b) (setP q ps) → w.grownBy w' (some b) → K (a.put o.dst undef) w') : o.wp Tryd.prog a w K Q := by
  have hown : w.ownsMap Tryd.prog 9 RH b ps.length (DD ps) := hown
  obtain ⟨w', hrun, r1, r2⟩ := hown.update (t := 58) Tryd.lawStr9 Tryd.underlying58 (by unfold maxLen; omega) (key9 hn) (val := fileV q) (d := (kq q).2) (ps := []) rfl
  rw [dd_put q ps hs] at r1
  have r3 : Map9 w' (some b) (setP q ps) := by
    obtain ⟨es, clock, hb, F, _, hD⟩ := r1
    refine ⟨es, clock, hb, F, ?_, hD⟩
    have e : Maps.size (DD (setP q ps)) = es.size := by
      rw [hD]
      show ((es.toList.map _).foldr DataW.insert []).length = _
      rw [length_sorted]; simp
    rw [← e, dd_size]; exact Nat.le_refl _
  unfold Oper.wp
  simp [execOp, hop, hm, hx, hv, hrun, Result.andThen]
  exact h w' r3 r2

set_option maxHeartbeats 2000000 in
theorem put9_any (g : Nat) (m : Option Nat) (ps : List (Fil × Value)) (c : Nat) (f : Fil) (A : Option Addr) (n2 c2 : Nat) (w : World) (hb : Box9 w g m c) (hm : Map9 w m ps) (hs : ps.Pairwise fun x y => ltK x.1.name y.1.name = true) (hl : ps.length ≤ 100000) (hn : f.name.size ≤ 10) :
    Calls Tryd.prog 33 #[.pointer (some ⟨g, 0, none⟩), .string f.name, .agg #[.slice A n2 c2, .int .i64 ((f.fast : Nat) : Int), .bool f.there]] w fun e w' => e = .returned (.tuple #[]) ∧ ∃ b, Box9 w' g (some b) c ∧ Map9 w' (some b) (setP (f, .slice A n2 c2) ps) ∧ (m = some b ∨ (m = none ∧ w.heap.size ≤ b)) ∧ Off (fun k => k = g ∨ m = some k) w w' := by
  obtain ⟨nm, hnm⟩ : ∃ nm, f.name = nm := ⟨_, rfl⟩
  obtain ⟨fa, hfa⟩ : ∃ fa, f.fast = fa := ⟨_, rfl⟩
  obtain ⟨th, hth⟩ : ∃ th, f.there = th := ⟨_, rfl⟩
  rw [hnm, hfa, hth]
  rw [hnm] at hn
  have HQ : Hid (fileV (f, .slice A n2 c2) = .agg #[.slice A n2 c2, .int .i64 ((fa : Nat) : Int), .bool th]) := Lib.hid (by unfold fileV; rw [hfa, hth])
  have HNM := Lib.hid hnm
  clear hnm hfa hth
  have hlt := hb.lt
  have hbx := Blk.new w #[.slice A n2 c2, .int .i64 ((fa : Nat) : Int), .bool th] 78
  have hb0 := below_new w (Obj.cells #[.slice A n2 c2, .int .i64 ((fa : Nat) : Int), .bool th] 78)
  have hz0 : (w.alloc (Obj.cells #[.slice A n2 c2, .int .i64 ((fa : Nat) : Int), .bool th] 78)).heap.size = w.heap.size + 1 := by simp
  obtain ⟨W0, hW0⟩ : ∃ W0, w.alloc (Obj.cells #[.slice A n2 c2, .int .i64 ((fa : Nat) : Int), .bool th] 78) = W0 := ⟨_, rfl⟩
  rw [hW0] at hbx hb0 hz0
  have HB := Lib.hid (hb.below hb0)
  have HM := Lib.hid (hm.below hb0)
  have HBX := Lib.hid hbx
  have HOF : Hid (Off (fun k => k = g ∨ m = some k) w W0) := Lib.hid (Off.of_below hb0)
  have hz1 : Hid (W0.heap.size = w.heap.size + 1) := Lib.hid hz0
  obtain ⟨gb, hgb⟩ : ∃ gb, w.heap.size = gb := ⟨_, rfl⟩
  rw [hgb] at HBX
  clear hbx hb0 hb hm hz0
  have hc0 := HB.out.cell0
  have hmm := @run_makeMap Tryd.prog
  have qT : ∀ (w : World) (r : Option Nat), (binOp .eql 58 (.map r) (.map none)).run Tryd.prog w = .ok (.bool r.isNone) w := fun w r => run_eql_map_nil w _ _ _ r Tryd.underlying58
  cases m with
  | some b =>
    have e0 : (some b).isNone = false := rfl
    go_enter Tryd.func33, Tryd.ntmps33
    go_wp2_with fail
    refine wp_world (fun W => Box9 W g (some b) c ∧ Map9 W (some b) ps ∧ Blk W gb #[.slice A n2 c2, .int .i64 ((fa : Nat) : Int), .bool th] 78 ∧ Off (fun k => k = g ∨ some b = some k) w W ∧ gb < W.heap.size ∧ b ≠ g ∧ b ≠ gb) ⟨HB.out, HM.out, HBX.out, HOF.out, HBX.out.lt, (fun e => HB.out.ne_map (show W0.ownsMap Tryd.prog 9 RH b ps.length (DD ps) from HM.out) e.symm), (fun e => by rw [e] at HM; exact blk_ne_map HBX.out (show W0.ownsMap Tryd.prog 9 RH gb ps.length (DD ps) from HM.out))⟩ ?_
    rintro W9 ⟨hB9, hM9, hBX9, hOF9, hz9, hne9⟩
    have hc0 := hB9.cell0
    have q0 := hBX9.cell (j := 0) rfl
    have q1 := hBX9.cell (j := 1) rfl
    have q2 := hBX9.cell (j := 2) rfl
    have HB9 := Lib.hid hB9
    have HM9 := Lib.hid hM9
    have HBX9 := Lib.hid hBX9
    have HOF9 := Lib.hid hOF9
    have hltg := hB9.lt
    have hltb := hBX9.lt
    clear hB9 hM9 hBX9 hOF9
    have hb : Below W9.heap.size W9 W9 := Below.refl _ _
    have lt0 : g < W9.heap.size := (by first | (simp; done) | (simp; omega) | omega)
    have lt1 : gb < W9.heap.size := (by first | (simp; done) | (simp; omega) | omega)
    replace hc0 : W9.drew.cell? ⟨g, 0, none⟩ = some (.map (some b)) := hc0
    replace q0 : W9.drew.cell? ⟨gb, 0, none⟩ = some (.slice A n2 c2) := q0
    replace q1 : W9.drew.cell? ⟨gb, 1, none⟩ = some (.int .i64 ((fa : Nat) : Int)) := q1
    replace q2 : W9.drew.cell? ⟨gb, 2, none⟩ = some (.bool th) := q2
    replace HM9 := Lib.hid (Map9.below HM9.out ((Below.refl W9.heap.size W9).drew))
    replace HB9 := Lib.hid (Box9.below HB9.out ((Below.refl W9.heap.size W9).drew))
    replace HBX9 := Lib.hid (Blk.below HBX9.out ((Below.refl W9.heap.size W9).drew))
    replace HOF9 := Lib.hid (Off.then_ HOF9.out ((Below.refl W9.heap.size W9).drew))
    refine wp_region_noPanic ?_
    refine wp_region_held_drew (S := fun W => W.cell? ⟨g, 0, none⟩ = some (.map (some b)) ∧ W.cell? ⟨gb, 0, none⟩ = some (.slice A n2 c2) ∧ W.cell? ⟨gb, 1, none⟩ = some (.int .i64 ((fa : Nat) : Int)) ∧ W.cell? ⟨gb, 2, none⟩ = some (.bool th)) (by kernel_rfl) ?_ (fun hHeld => ?_)
    · exact ⟨hc0, q0, q1, q2⟩
    replace hb : Below W9.heap.size W9 W9.drew := hb.drew
    replace lt0 : g < W9.drew.heap.size := lt0
    replace lt1 : gb < W9.drew.heap.size := lt1
    have hzd : W9.heap.size ≤ W9.drew.heap.size := Nat.le_refl _
    generalize W9.drew = k1 at *
    refine wpAnyH_take (i := 0) (oi := { dst := some 15, op := Op.move (Operand.tmp 0), type := 26, pos := "disk.go:83", after := #[], guard := none }) (v := .pointer (some ⟨g, 0, none⟩)) rfl (by kernel_rfl) (by kernel_rfl) (by kernel_rfl) (fun _ _ _ h => h) (Or.inl ⟨by rfl, fun w hSw => ?_⟩) (by assumption) ?_
    · (try dsimp only at hSw)
      go_simp
    try simp only [Act.put, List.setIfInBounds_toArray, List.set_cons_zero, List.set_cons_succ]
    refine wpAnyH_take (i := 1) (oi := { dst := some 16, op := Op.nilCheck (Operand.tmp 15), type := 0, pos := "disk.go:83", after := #[{ on := 0, ground := Ground.data }], guard := none }) (v := .pointer (some ⟨g, 0, none⟩)) rfl (by kernel_rfl) (by kernel_rfl) (by kernel_rfl) (fun _ _ _ h => h) (Or.inl ⟨by rfl, fun w hSw => ?_⟩) (by assumption) ?_
    · (try dsimp only at hSw)
      go_simp
    try simp only [Act.put, List.setIfInBounds_toArray, List.set_cons_zero, List.set_cons_succ]
    refine wpAnyH_take (i := 2) (oi := { dst := some 17, op := Op.fieldAddr 60 (Operand.tmp 16) 0, type := 0, pos := "disk.go:83", after := #[{ on := 1, ground := Ground.data }], guard := none }) (v := .pointer (some ⟨g, 0, none⟩)) rfl (by kernel_rfl) (by kernel_rfl) (by kernel_rfl) (fun _ _ _ h => h) (Or.inl ⟨by rfl, fun w hSw => ?_⟩) (by assumption) ?_
    · (try dsimp only at hSw)
      go_simp
    try simp only [Act.put, List.setIfInBounds_toArray, List.set_cons_zero, List.set_cons_succ]
    refine wpAnyH_take (i := 3) (oi := { dst := some 18, op := Op.load 58 (Operand.tmp 17), type := 58, pos := "disk.go:83", after := #[{ on := 2, ground := Ground.data }], guard := none }) (v := .map (some b)) rfl (by kernel_rfl) (by kernel_rfl) (by kernel_rfl) (fun _ _ _ h => h) (Or.inl ⟨by rfl, fun w hSw => ?_⟩) (by assumption) ?_
    · (try dsimp only at hSw)
      go_simp
    try simp only [Act.put, List.setIfInBounds_toArray, List.set_cons_zero, List.set_cons_succ]
    refine wpAnyH_take (i := 4) (oi := { dst := some 19, op := Op.move (Operand.tmp 1), type := 9, pos := "disk.go:83", after := #[], guard := none }) (v := .string nm) rfl (by kernel_rfl) (by kernel_rfl) (by kernel_rfl) (fun _ _ _ h => h) (Or.inl ⟨by rfl, fun w hSw => ?_⟩) (by assumption) ?_
    · (try dsimp only at hSw)
      go_simp
    try simp only [Act.put, List.setIfInBounds_toArray, List.set_cons_zero, List.set_cons_succ]
    refine wpAnyH_take (i := 6) (oi := { dst := some 21, op := Op.load 78 (Operand.tmp 5), type := 78, pos := "disk.go:83", after := #[], guard := none }) (v := .agg #[.slice A n2 c2, .int .i64 ((fa : Nat) : Int), .bool th]) rfl (by kernel_rfl) (by kernel_rfl) (by kernel_rfl) (fun _ _ _ h => h) (Or.inl ⟨by rfl, fun w hSw => ?_⟩) (by assumption) ?_
    · (try dsimp only at hSw)
      go_simp
    try simp only [Act.put, List.setIfInBounds_toArray, List.set_cons_zero, List.set_cons_succ]
    refine wpAnyH_ready (rs := [5]) (by kernel_rfl) (by simp) ?_
    refine AllReadyH.cons (o := { dst := some 20, op := Op.call { callee := Callee.value (Operand.func 49), args := #[Operand.tmp 19], argTypes := #[9] }, type := 9, pos := "disk.go:83", after := #[{ on := 4, ground := Ground.data }], guard := none }) rfl (fun K hK => ?_) (AllReadyH.nil)
    go_simp
    go_at_call 49
    refine (clone_any nm _ (by omega)).mono ?_
    rintro e k2 ⟨rfl, h⟩
    have hk : Below k1.heap.size k1 k2 := by
      refine Below.trans ?_ (h.mono (by first | (simp; done) | (simp; omega) | omega))
      repeat' (first | with_reducible exact Below.refl _ _ | (with_reducible refine Below.alloc ?_ ?_ _) | (with_reducible refine Below.setCell ?_ ?_ _) | exact (by first | (simp; done) | (simp; omega) | omega))
    have hz := h.size
    try simp at hz
    replace hc0 : k2.cell? ⟨g, 0, none⟩ = some (.map (some b)) := (hk.cell (p := ⟨g, 0, none⟩) (by first | (simp; done) | (simp; omega) | omega)).trans hc0
    replace q0 : k2.cell? ⟨gb, 0, none⟩ = some (.slice A n2 c2) := (hk.cell (p := ⟨gb, 0, none⟩) (by first | (simp; done) | (simp; omega) | omega)).trans q0
    replace q1 : k2.cell? ⟨gb, 1, none⟩ = some (.int .i64 ((fa : Nat) : Int)) := (hk.cell (p := ⟨gb, 1, none⟩) (by first | (simp; done) | (simp; omega) | omega)).trans q1
    replace q2 : k2.cell? ⟨gb, 2, none⟩ = some (.bool th) := (hk.cell (p := ⟨gb, 2, none⟩) (by first | (simp; done) | (simp; omega) | omega)).trans q2
    replace HM9 := Lib.hid (Map9.below HM9.out hk)
    replace HB9 := Lib.hid (Box9.below HB9.out hk)
    replace HBX9 := Lib.hid (Blk.below HBX9.out hk)
    replace HOF9 := Lib.hid (Off.then_ HOF9.out hk)
    replace hb : Below W9.heap.size W9 k2 := hb.trans (hk.mono hb.size)
    have lt0 : g < k2.heap.size := (by first | (simp; done) | (simp; omega) | omega)
    have lt1 : gb < k2.heap.size := (by first | (simp; done) | (simp; omega) | omega)
    clear h hk
    try dsimp only
    refine hK.out _ _ ?_ (fun hHeld => ?_)
    · exact ⟨hc0, q0, q1, q2⟩
    clear hK K
    try simp only [Act.put, List.setIfInBounds_toArray, List.set_cons_zero, List.set_cons_succ]
    refine wpAnyH_ready (rs := [7]) (by kernel_rfl) (by simp) ?_
    refine AllReadyH.cons (o := { dst := none, op := Op.mapUpdate 58 (Operand.tmp 18) (Operand.tmp 20) (Operand.tmp 21), type := 0, pos := "disk.go:83", after := #[{ on := 3, ground := Ground.data }, { on := 5, ground := Ground.data }, { on := 6, ground := Ground.data }, { on := 5, ground := Ground.chain }, { on := 0, ground := Ground.phase }, { on := 1, ground := Ground.phase }, { on := 2, ground := Ground.phase }, { on := 3, ground := Ground.phase }, { on := 4, ground := Ground.phase }, { on := 5, ground := Ground.phase }, { on := 6, ground := Ground.phase }], guard := none }) rfl (fun K hK => ?_) (AllReadyH.nil)
    rw [if_pos (by rfl)]
    refine wp_put9 (.tmp 18) (.tmp 20) (.tmp 21) rfl b ps (f, .slice A n2 c2) rfl HM9.out hs hl ?h1 ?h2 ?h3 ?_
    case h1 => rw [HNM.out]; rfl
    case h2 => rw [HNM.out]; unfold maxLen; omega
    case h3 => rw [HQ.out]; rfl
    intro k9 hm9 hg9
    have HOF10 := Lib.hid (HOF9.out.grown hg9 (fun k hk => .inl (.inr hk)))
    have hofb : Off (fun k => k = b) k2 k9 := (Off.refl _ _).grown hg9 (fun k hk => .inl (Option.some.inj hk.symm))
    have HB10 := Lib.hid (HB9.out.off hofb (fun e => hne9.1 e.symm))
    have HBX10 := Lib.hid (HBX9.out.off hofb (fun e => hne9.2 e.symm))
    replace hc0 := HB10.out.cell0
    replace q0 := HBX10.out.cell (j := 0) rfl
    replace q1 := HBX10.out.cell (j := 1) rfl
    replace q2 := HBX10.out.cell (j := 2) rfl
    refine hK.out _ _ ?_ (fun hHeld => ?_)
    · exact ⟨hc0, q0, q1, q2⟩
    clear hK K
    try simp only [Act.put, List.setIfInBounds_toArray, List.set_cons_zero, List.set_cons_succ]
    refine wpAnyH_done (by kernel_rfl) ?_ _
    refine NoPanic.normal ?_
    go_wp2
    exact Go.Great.bodyPost_end0 rfl rfl ⟨by first | rfl | trivial, b, HB10.out, hm9, .inl rfl, HOF10.out⟩
  | none =>
    have hps : ps = [] := HM.out
    subst hps
    have e0 : (none : Option Nat).isNone = true := rfl
    have hfz := (HB.out.below (below_new W0 (.map #[] 0))).frz 0
    have hcA := (HB.out.below (below_new W0 (.map #[] 0))).cell0
    obtain ⟨b, hbb⟩ : ∃ b, W0.heap.size = b := ⟨_, rfl⟩
    have hM1 : Map9 (W0.alloc (.map #[] 0)) (some b) [] := by rw [← hbb]; exact World.ownsMap_made _ _ _ _
    have hB1 := (HB.out.below (below_new W0 (.map #[] 0))).set0 (some b)
    have hgb2 : g ≠ b := by have := HB.out.lt; omega
    have hgb3 : gb ≠ g := by omega
    have hgb4 : b ≠ gb := by have := HBX.out.lt; omega
    have hM2 : Map9 ((W0.alloc (.map #[] 0)).setCell ⟨g, 0, none⟩ (.map (some b))) (some b) [] := hM1.off ((Off.refl (fun k => k = g) _).set (.inl rfl)) (fun b' hb' e => by cases hb'; exact hgb2 e.symm)
    have hX2 := (HBX.out.below (below_new W0 (.map #[] 0))).far hgb3 (.map (some b)) (j := 0)
    have hO2 : Off (fun k => k = g ∨ (none : Option Nat) = some k) w ((W0.alloc (.map #[] 0)).setCell ⟨g, 0, none⟩ (.map (some b))) := (HOF.out.alloc _).set (.inl (.inl rfl))
    have HB1 := Lib.hid hB1
    have HM2 := Lib.hid hM2
    have HX2 := Lib.hid hX2
    have HO2 := Lib.hid hO2
    have HBB := Lib.hid hbb
    have HLT : Hid (gb < ((W0.alloc (.map #[] 0)).setCell ⟨g, 0, none⟩ (.map (some b))).heap.size) := Lib.hid hX2.lt
    clear hB1 hM1 hM2 hX2 hO2
    go_enter Tryd.func33, Tryd.ntmps33
    go_wp2_with fail
    refine wp_world (fun W => Box9 W g (some b) c ∧ Map9 W (some b) ([] : List (Fil × Value)) ∧ Blk W gb #[.slice A n2 c2, .int .i64 ((fa : Nat) : Int), .bool th] 78 ∧ Off (fun k => k = g ∨ (none : Option Nat) = some k) w W ∧ gb < W.heap.size ∧ b ≠ g ∧ b ≠ gb) ⟨HB1.out, HM2.out, HX2.out, HO2.out, HLT.out, fun e => hgb2 e.symm, hgb4⟩ ?_
    rintro W9 ⟨hB9, hM9, hBX9, hOF9, hz9, hne9⟩
    have hc0 := hB9.cell0
    have q0 := hBX9.cell (j := 0) rfl
    have q1 := hBX9.cell (j := 1) rfl
    have q2 := hBX9.cell (j := 2) rfl
    have HB9 := Lib.hid hB9
    have HM9 := Lib.hid hM9
    have HBX9 := Lib.hid hBX9
    have HOF9 := Lib.hid hOF9
    have hltg := hB9.lt
    have hltb := hBX9.lt
    clear hB9 hM9 hBX9 hOF9
    have hb : Below W9.heap.size W9 W9 := Below.refl _ _
    have lt0 : g < W9.heap.size := (by first | (simp; done) | (simp; omega) | omega)
    have lt1 : gb < W9.heap.size := (by first | (simp; done) | (simp; omega) | omega)
    replace hc0 : W9.drew.cell? ⟨g, 0, none⟩ = some (.map (some b)) := hc0
    replace q0 : W9.drew.cell? ⟨gb, 0, none⟩ = some (.slice A n2 c2) := q0
    replace q1 : W9.drew.cell? ⟨gb, 1, none⟩ = some (.int .i64 ((fa : Nat) : Int)) := q1
    replace q2 : W9.drew.cell? ⟨gb, 2, none⟩ = some (.bool th) := q2
    replace HM9 := Lib.hid (Map9.below HM9.out ((Below.refl W9.heap.size W9).drew))
    replace HB9 := Lib.hid (Box9.below HB9.out ((Below.refl W9.heap.size W9).drew))
    replace HBX9 := Lib.hid (Blk.below HBX9.out ((Below.refl W9.heap.size W9).drew))
    replace HOF9 := Lib.hid (Off.then_ HOF9.out ((Below.refl W9.heap.size W9).drew))
    refine wp_region_noPanic ?_
    refine wp_region_held_drew (S := fun W => W.cell? ⟨g, 0, none⟩ = some (.map (some b)) ∧ W.cell? ⟨gb, 0, none⟩ = some (.slice A n2 c2) ∧ W.cell? ⟨gb, 1, none⟩ = some (.int .i64 ((fa : Nat) : Int)) ∧ W.cell? ⟨gb, 2, none⟩ = some (.bool th)) (by kernel_rfl) ?_ (fun hHeld => ?_)
    · exact ⟨hc0, q0, q1, q2⟩
    replace hb : Below W9.heap.size W9 W9.drew := hb.drew
    replace lt0 : g < W9.drew.heap.size := lt0
    replace lt1 : gb < W9.drew.heap.size := lt1
    have hzd : W9.heap.size ≤ W9.drew.heap.size := Nat.le_refl _
    generalize W9.drew = k1 at *
    refine wpAnyH_take (i := 0) (oi := { dst := some 15, op := Op.move (Operand.tmp 0), type := 26, pos := "disk.go:83", after := #[], guard := none }) (v := .pointer (some ⟨g, 0, none⟩)) rfl (by kernel_rfl) (by kernel_rfl) (by kernel_rfl) (fun _ _ _ h => h) (Or.inl ⟨by rfl, fun w hSw => ?_⟩) (by assumption) ?_
    · (try dsimp only at hSw)
      go_simp
    try simp only [Act.put, List.setIfInBounds_toArray, List.set_cons_zero, List.set_cons_succ]
    refine wpAnyH_take (i := 1) (oi := { dst := some 16, op := Op.nilCheck (Operand.tmp 15), type := 0, pos := "disk.go:83", after := #[{ on := 0, ground := Ground.data }], guard := none }) (v := .pointer (some ⟨g, 0, none⟩)) rfl (by kernel_rfl) (by kernel_rfl) (by kernel_rfl) (fun _ _ _ h => h) (Or.inl ⟨by rfl, fun w hSw => ?_⟩) (by assumption) ?_
    · (try dsimp only at hSw)
      go_simp
    try simp only [Act.put, List.setIfInBounds_toArray, List.set_cons_zero, List.set_cons_succ]
    refine wpAnyH_take (i := 2) (oi := { dst := some 17, op := Op.fieldAddr 60 (Operand.tmp 16) 0, type := 0, pos := "disk.go:83", after := #[{ on := 1, ground := Ground.data }], guard := none }) (v := .pointer (some ⟨g, 0, none⟩)) rfl (by kernel_rfl) (by kernel_rfl) (by kernel_rfl) (fun _ _ _ h => h) (Or.inl ⟨by rfl, fun w hSw => ?_⟩) (by assumption) ?_
    · (try dsimp only at hSw)
      go_simp
    try simp only [Act.put, List.setIfInBounds_toArray, List.set_cons_zero, List.set_cons_succ]
    refine wpAnyH_take (i := 3) (oi := { dst := some 18, op := Op.load 58 (Operand.tmp 17), type := 58, pos := "disk.go:83", after := #[{ on := 2, ground := Ground.data }], guard := none }) (v := .map (some b)) rfl (by kernel_rfl) (by kernel_rfl) (by kernel_rfl) (fun _ _ _ h => h) (Or.inl ⟨by rfl, fun w hSw => ?_⟩) (by assumption) ?_
    · (try dsimp only at hSw)
      go_simp
    try simp only [Act.put, List.setIfInBounds_toArray, List.set_cons_zero, List.set_cons_succ]
    refine wpAnyH_take (i := 4) (oi := { dst := some 19, op := Op.move (Operand.tmp 1), type := 9, pos := "disk.go:83", after := #[], guard := none }) (v := .string nm) rfl (by kernel_rfl) (by kernel_rfl) (by kernel_rfl) (fun _ _ _ h => h) (Or.inl ⟨by rfl, fun w hSw => ?_⟩) (by assumption) ?_
    · (try dsimp only at hSw)
      go_simp
    try simp only [Act.put, List.setIfInBounds_toArray, List.set_cons_zero, List.set_cons_succ]
    refine wpAnyH_take (i := 6) (oi := { dst := some 21, op := Op.load 78 (Operand.tmp 5), type := 78, pos := "disk.go:83", after := #[], guard := none }) (v := .agg #[.slice A n2 c2, .int .i64 ((fa : Nat) : Int), .bool th]) rfl (by kernel_rfl) (by kernel_rfl) (by kernel_rfl) (fun _ _ _ h => h) (Or.inl ⟨by rfl, fun w hSw => ?_⟩) (by assumption) ?_
    · (try dsimp only at hSw)
      go_simp
    try simp only [Act.put, List.setIfInBounds_toArray, List.set_cons_zero, List.set_cons_succ]
    refine wpAnyH_ready (rs := [5]) (by kernel_rfl) (by simp) ?_
    refine AllReadyH.cons (o := { dst := some 20, op := Op.call { callee := Callee.value (Operand.func 49), args := #[Operand.tmp 19], argTypes := #[9] }, type := 9, pos := "disk.go:83", after := #[{ on := 4, ground := Ground.data }], guard := none }) rfl (fun K hK => ?_) (AllReadyH.nil)
    go_simp
    go_at_call 49
    refine (clone_any nm _ (by omega)).mono ?_
    rintro e k2 ⟨rfl, h⟩
    have hk : Below k1.heap.size k1 k2 := by
      refine Below.trans ?_ (h.mono (by first | (simp; done) | (simp; omega) | omega))
      repeat' (first | with_reducible exact Below.refl _ _ | (with_reducible refine Below.alloc ?_ ?_ _) | (with_reducible refine Below.setCell ?_ ?_ _) | exact (by first | (simp; done) | (simp; omega) | omega))
    have hz := h.size
    try simp at hz
    replace hc0 : k2.cell? ⟨g, 0, none⟩ = some (.map (some b)) := (hk.cell (p := ⟨g, 0, none⟩) (by first | (simp; done) | (simp; omega) | omega)).trans hc0
    replace q0 : k2.cell? ⟨gb, 0, none⟩ = some (.slice A n2 c2) := (hk.cell (p := ⟨gb, 0, none⟩) (by first | (simp; done) | (simp; omega) | omega)).trans q0
    replace q1 : k2.cell? ⟨gb, 1, none⟩ = some (.int .i64 ((fa : Nat) : Int)) := (hk.cell (p := ⟨gb, 1, none⟩) (by first | (simp; done) | (simp; omega) | omega)).trans q1
    replace q2 : k2.cell? ⟨gb, 2, none⟩ = some (.bool th) := (hk.cell (p := ⟨gb, 2, none⟩) (by first | (simp; done) | (simp; omega) | omega)).trans q2
    replace HM9 := Lib.hid (Map9.below HM9.out hk)
    replace HB9 := Lib.hid (Box9.below HB9.out hk)
    replace HBX9 := Lib.hid (Blk.below HBX9.out hk)
    replace HOF9 := Lib.hid (Off.then_ HOF9.out hk)
    replace hb : Below W9.heap.size W9 k2 := hb.trans (hk.mono hb.size)
    have lt0 : g < k2.heap.size := (by first | (simp; done) | (simp; omega) | omega)
    have lt1 : gb < k2.heap.size := (by first | (simp; done) | (simp; omega) | omega)
    clear h hk
    try dsimp only
    refine hK.out _ _ ?_ (fun hHeld => ?_)
    · exact ⟨hc0, q0, q1, q2⟩
    clear hK K
    try simp only [Act.put, List.setIfInBounds_toArray, List.set_cons_zero, List.set_cons_succ]
    refine wpAnyH_ready (rs := [7]) (by kernel_rfl) (by simp) ?_
    refine AllReadyH.cons (o := { dst := none, op := Op.mapUpdate 58 (Operand.tmp 18) (Operand.tmp 20) (Operand.tmp 21), type := 0, pos := "disk.go:83", after := #[{ on := 3, ground := Ground.data }, { on := 5, ground := Ground.data }, { on := 6, ground := Ground.data }, { on := 5, ground := Ground.chain }, { on := 0, ground := Ground.phase }, { on := 1, ground := Ground.phase }, { on := 2, ground := Ground.phase }, { on := 3, ground := Ground.phase }, { on := 4, ground := Ground.phase }, { on := 5, ground := Ground.phase }, { on := 6, ground := Ground.phase }], guard := none }) rfl (fun K hK => ?_) (AllReadyH.nil)
    rw [if_pos (by rfl)]
    refine wp_put9 (.tmp 18) (.tmp 20) (.tmp 21) rfl b [] (f, .slice A n2 c2) rfl HM9.out List.Pairwise.nil (by simp) ?h1 ?h2 ?h3 ?_
    case h1 => rw [HNM.out]; rfl
    case h2 => rw [HNM.out]; unfold maxLen; omega
    case h3 => rw [HQ.out]; rfl
    intro k9 hm9 hg9
    have HOF10 := Lib.hid (HOF9.out.grown hg9 (fun k hk => (by cases hk; right; have := hz1.out; omega)))
    have hofb : Off (fun k => k = b) k2 k9 := (Off.refl _ _).grown hg9 (fun k hk => .inl (Option.some.inj hk.symm))
    have HB10 := Lib.hid (HB9.out.off hofb (fun e => hne9.1 e.symm))
    have HBX10 := Lib.hid (HBX9.out.off hofb (fun e => hne9.2 e.symm))
    replace hc0 := HB10.out.cell0
    replace q0 := HBX10.out.cell (j := 0) rfl
    replace q1 := HBX10.out.cell (j := 1) rfl
    replace q2 := HBX10.out.cell (j := 2) rfl
    refine hK.out _ _ ?_ (fun hHeld => ?_)
    · exact ⟨hc0, q0, q1, q2⟩
    clear hK K
    try simp only [Act.put, List.setIfInBounds_toArray, List.set_cons_zero, List.set_cons_succ]
    refine wpAnyH_done (by kernel_rfl) ?_ _
    refine NoPanic.normal ?_
    go_wp2
    exact Go.Great.bodyPost_end0 rfl rfl ⟨by first | rfl | trivial, b, HB10.out, hm9, (by first | exact .inr ⟨trivial, by have := hz1.out; omega⟩ | exact .inr ⟨rfl, by have := hz1.out; omega⟩), HOF10.out⟩
end Go.Proofs.YtbiecoifeeikpaaDoor
/-
  Package disk's Loose, Read, Sync, Swap and Append.
  The disk has at most 100,000 files and was called at most 1,000,000 times; a name has at most 2^47 bytes, what is handed in has at most 2^47.
-/
set_option linter.unusedSimpArgs false
set_option linter.unusedVariables false
namespace Go.Proofs.YtbiecoifeeikpaaDoor
open Go.RowKit
set_option maxRecDepth 100000

theorem find_get {n : ByteArray} {l : List Fil} {ps : List (Fil × Value)} (hl : ps.map (·.1) = l) : getF n l = (ps.find? fun p => decide (p.1.name = n)).map (·.1) := by rw [← hl]; exact find_map9 n ps
theorem find_in {n : ByteArray} {ps : List (Fil × Value)} {p : Fil × Value} (h : (ps.find? fun p => decide (p.1.name = n)) = some p) : p ∈ ps ∧ p.1.name = n := ⟨List.mem_of_find?_eq_some h, by simpa using List.find?_some h⟩
theorem put9_from {w W : World} {g : Nat} {m : Option Nat} {ps : List (Fil × Value)} {c : Nat} (f : Fil) (A : Option Addr) (n2 c2 : Nat) (hb : Box9 w g m c) (hm : Map9 w m ps) (hw : Below w.heap.size w W) (hs : ps.Pairwise fun x y => ltK x.1.name y.1.name = true) (hl : ps.length ≤ 100000) (hn : f.name.size ≤ 10) :
    Calls Tryd.prog 33 #[.pointer (some ⟨g, 0, none⟩), .string f.name, .agg #[.slice A n2 c2, .int .i64 ((f.fast : Nat) : Int), .bool f.there]] W fun e w' => e = .returned (.tuple #[]) ∧ Below w.heap.size w W ∧ Box9 W g m c ∧ Map9 W m ps ∧ ∃ b, Box9 w' g (some b) c ∧ Map9 w' (some b) (setP (f, .slice A n2 c2) ps) ∧ (m = some b ∨ (m = none ∧ W.heap.size ≤ b)) ∧ Off (fun k => k = g ∨ m = some k) W w' := by
  refine (put9_any g m ps c f A n2 c2 W (hb.below hw) (hm.below hw) hs hl hn).mono ?_
  rintro e k ⟨he, h⟩
  exact ⟨he, hw, hb.below hw, hm.below hw, h⟩
theorem put9_off {w W : World} {S : Nat → Prop} {g : Nat} {m : Option Nat} {ps : List (Fil × Value)} {c : Nat} (f : Fil) (A : Option Addr) (n2 c2 : Nat) (hb : Box9 w g m c) (hm : Map9 w m ps) (hw : Off S w W) (hg : ¬ S g) (hmS : ∀ b, m = some b → ¬ S b) (hs : ps.Pairwise fun x y => ltK x.1.name y.1.name = true) (hl : ps.length ≤ 100000) (hn : f.name.size ≤ 10) :
    Calls Tryd.prog 33 #[.pointer (some ⟨g, 0, none⟩), .string f.name, .agg #[.slice A n2 c2, .int .i64 ((f.fast : Nat) : Int), .bool f.there]] W fun e w' => e = .returned (.tuple #[]) ∧ Off S w W ∧ Box9 W g m c ∧ Map9 W m ps ∧ ∃ b, Box9 w' g (some b) c ∧ Map9 w' (some b) (setP (f, .slice A n2 c2) ps) ∧ (m = some b ∨ (m = none ∧ W.heap.size ≤ b)) ∧ Off (fun k => k = g ∨ m = some k) W w' := by
  refine (put9_any g m ps c f A n2 c2 W (hb.off hw hg) (hm.off hw hmS) hs hl hn).mono ?_
  rintro e k ⟨he, h⟩
  exact ⟨he, hw, hb.off hw hg, hm.off hw hmS, h⟩
set_option maxHeartbeats 1050000 in
theorem read9_no (S : Nat → Prop) (g : Nat) (l : List Fil) (c : Nat) (n : ByteArray) (w : World) (h : PD w S g l c) (hn : n.size ≤ maxLen) (hg : getF n l = none) :
    Calls Tryd.prog 12 #[.pointer (some ⟨g, 0, none⟩), .string n] w fun e w' => e = .returned (.tuple #[.slice none 0 0, .int .i64 13]) ∧ Below w.heap.size w w' := by
  obtain ⟨m, ps, h1, h2, h3, h4, h5, h6, h7, h8, h9, h10⟩ := h
  have hc0 := h3.cell0
  have hlk := look9 (n := n) true h5 hn
  have hfg := find_get (n := n) h1
  unfold lookV at hlk
  cases hf : ps.find? (fun p => decide (p.1.name = n)) with
  | none =>
    have ha : (ps.any fun p => decide (p.1.name = n)) = false := List.any_eq_false.2 (List.find?_eq_none.1 hf)
    rw [hf, ha] at hlk
    simp only [if_true] at hlk
    clear hfg hf h5 h3 hn ha hg
    go_enter Tryd.func12, Tryd.ntmps12
    go_wp2
    exact bodyPost_ret (v := .tuple #[.slice none 0 0, .int .i64 13]) (by simp [results, Tryd.results12, go_sem]) rfl ⟨rfl, below_new _ _⟩
  | some p => rw [hfg, hf] at hg; cases hg
set_option maxHeartbeats 1050000 in
theorem read9_yes (S : Nat → Prop) (g : Nat) (l : List Fil) (c : Nat) (n : ByteArray) (f : Fil) (w : World) (h : PD w S g l c) (hn : n.size ≤ maxLen) (hg : getF n l = some f) :
    Calls Tryd.prog 12 #[.pointer (some ⟨g, 0, none⟩), .string n] w fun e w' => ∃ v, e = .returned (.tuple #[v, .int .i64 0]) ∧ OwnB w.heap.size v f.b w' ∧ Below w.heap.size w w' := by
  obtain ⟨m, ps, h1, h2, h3, h4, h5, h6, h7, h8, h9, h10⟩ := h
  have hc0 := h3.cell0
  have hlk := look9 (n := n) true h5 hn
  have hfg := find_get (n := n) h1
  unfold lookV at hlk
  cases hf : ps.find? (fun p => decide (p.1.name = n)) with
  | none => rw [hfg, hf] at hg; cases hg
  | some p =>
    obtain ⟨hp, hpn⟩ := find_in hf
    have ha : (ps.any fun p => decide (p.1.name = n)) = true := List.any_eq_true.2 ⟨p, hp, by simpa using hpn⟩
    rw [hfg, hf] at hg
    have hg : p.1 = f := Option.some.inj hg
    rw [hf, ha] at hlk
    simp only [if_true] at hlk
    have hgd := h9 p.1 (by rw [← h1]; exact List.mem_map_of_mem hp)
    have ho := (h6 p hp).1
    obtain ⟨A, ca, hv⟩ := own_slice ho
    unfold fileV at hlk
    rw [hv] at hlk ho
    rw [hg] at hlk ho hgd
    obtain ⟨q, hq⟩ : ∃ q, f.b.length = q := ⟨_, rfl⟩
    obtain ⟨fa, hfa⟩ : ∃ fa, f.fast = fa := ⟨_, rfl⟩
    obtain ⟨th, hth⟩ : ∃ th, f.there = th := ⟨_, rfl⟩
    rw [hq, hfa, hth] at hlk
    have hg2 := hgd.2.2.1
    rw [hq] at hg2 ho
    have HO := Lib.hid ho
    have HQ := Lib.hid hq
    clear hfg hf h5 h3 hn h1 h6 h7 h8 h9 h10 hgd hq hfa hth hv ha hg ho
    go_enter Tryd.func12, Tryd.ntmps12
    go_wp2_with fail
    refine (clone9_is A q ca (B := w.heap.size) f.b _ ((Byt.of_own HO.out).below (below_new _ _) (Nat.le_refl _)) (by rw [HQ.out]; omega)).mono ?_
    rintro e k ⟨v, rfl, hv, hk⟩
    have hb : Below w.heap.size w k := (below_new _ _).trans (hk.mono (by simp))
    have hv2 : OwnB w.heap.size v f.b k := hv.down (by simp)
    clear hk hv
    go_wp2
    exact bodyPost_ret (v := .tuple #[v, .int .i64 0]) (by simp [results, Tryd.results12, go_sem]) rfl ⟨v, rfl, hv2, hb⟩
set_option maxHeartbeats 1050000 in
theorem sync9_disk (S : Nat → Prop) (g : Nat) (l : List Fil) (c : Nat) (n : ByteArray) (w : World) (h : PD w S g l c) (hn : n.size ≤ maxLen) (hc : c ≤ 1050000) (hl : l.length ≤ 100000) :
    Calls Tryd.prog 39 #[.pointer (some ⟨g, 0, none⟩), .string n] w (Did S g c (sync9 n l) w) := by
  have hH := h
  obtain ⟨m, ps, h1, h2, h3, h4, h5, h6, h7, h8, h9, h10⟩ := h
  have hc0 := h3.cell0
  have hc1 := h3.cell1
  have hfz := h3.frz 1
  have hoc : Off (fun k => k = g) w (w.setCell ⟨g, 1, none⟩ (.int .i64 ((c + 1 : Nat) : Int))) := (Off.refl _ w).set (.inl rfl)
  have hmne : ∀ b, m = some b → ¬ b = g := fun b hb e => by
    subst hb
    exact h3.ne_map (show w.ownsMap Tryd.prog 9 RH b ps.length (DD ps) from h5) e.symm
  have hm1 := h5.off hoc hmne
  have hb1 := h3.set1 (c + 1)
  have hrow : ∀ p ∈ ps, OwnB 0 p.2 p.1.b (w.setCell ⟨g, 1, none⟩ (.int .i64 ((c + 1 : Nat) : Int))) := fun p hp => rows_off9 h3 h5 (hoc.mono fun k hk => .inl (.inl hk)) (h6 p hp).1
  have hoS : Off S w (w.setCell ⟨g, 1, none⟩ (.int .i64 ((c + 1 : Nat) : Int))) := hoc.mono fun k hk => by subst hk; exact .inl h2
  have hcnt : ∀ {w' : World}, Below w.heap.size (w.setCell ⟨g, 1, none⟩ (.int .i64 ((c + 1 : Nat) : Int))) w' → PD w' (Grw S w w') g l (c + 1) ∧ Off S w w' := fun {w'} hb => hH.count hb
  have hz1 : (w.setCell ⟨g, 1, none⟩ (.int .i64 ((c + 1 : Nat) : Int))).heap.size = w.heap.size := by simp [World.setCell]
  rw [Int.natCast_add, Int.natCast_one] at hm1 hb1 hrow hoS hcnt hz1
  obtain ⟨W1, hW1⟩ : ∃ W1, w.setCell ⟨g, 1, none⟩ (.int .i64 ((c : Int) + 1)) = W1 := ⟨_, rfl⟩
  rw [hW1] at hm1 hb1 hrow hoS hcnt hz1
  have HOS := Lib.hid hoS
  have HROW := Lib.hid hrow
  have HM1 := Lib.hid hm1
  have HB1 := Lib.hid hb1
  have HZ1 := Lib.hid hz1
  have HCNT : Hid (∀ {w' : World}, Below w.heap.size W1 w' → PD w' (Grw S w w') g l (c + 1) ∧ Off S w w') := Lib.hid hcnt
  have HSM := Lib.hid h4
  have hd0 := hb1.cell0
  have HB3 := Lib.hid h3
  have hltg := hb1.lt
  have HRS : Hid (∀ p ∈ ps, ∀ j, p.2.ownBlock = some j → S j) := Lib.hid fun p hp => (h6 p hp).2
  have HPW : Hid (ps.Pairwise Apart9) := Lib.hid h7
  have HLT := Lib.hid h10
  have HSO := Lib.hid h8
  have HGD := Lib.hid h9
  have HSG := Lib.hid h2
  have HSS := Lib.hid (sorted_ps h1 h8)
  have hfg := find_get (n := n) h1
  have HL1 := Lib.hid h1
  have hpl : ps.length = l.length := by rw [← h1, List.length_map]
  rw [← hpl] at hl
  have HHL := Lib.hid hl
  have h1 := 0
  clear hoS hrow hz1 hb1 hoc hcnt hmne hH h3 h4 h5 h7 h8 h10 h2 h1 hl hpl
  have hlk := look9 (n := n) true hm1 hn
  unfold lookV at hlk
  cases hf : ps.find? (fun p => decide (p.1.name = n)) with
  | none =>
    have ha : (ps.any fun p => decide (p.1.name = n)) = false := List.any_eq_false.2 (List.find?_eq_none.1 hf)
    rw [hf, ha] at hlk
    simp only [if_true] at hlk
    have hsy : sync9 n l = (13, l) := by unfold sync9; rw [hfg, hf]; rfl
    have HSY := Lib.hid hsy
    clear hfg hf hn ha hsy h6 h9 hm1
    go_enter Tryd.func39, Tryd.ntmps39
    go_wp2
    go_ret
    unfold Did
    rw [HSY.out]
    exact ⟨rfl, HCNT.out (by rw [← HZ1.out]; exact below_new _ _)⟩
  | some p =>
    obtain ⟨hp, hpn⟩ := find_in hf
    have ha : (ps.any fun p => decide (p.1.name = n)) = true := List.any_eq_true.2 ⟨p, hp, by simpa using hpn⟩
    have hsy : sync9 n l = (0, setF ⟨n, p.1.b, p.1.b.length, true⟩ l) := by unfold sync9; rw [hfg, hf]; rfl
    rw [hf, ha] at hlk
    simp only [if_true] at hlk
    have hgd := HGD.out p.1 (by rw [← HL1.out]; exact List.mem_map_of_mem hp)
    have ho := HROW.out p hp
    obtain ⟨A, ca, hv⟩ := own_slice ho
    unfold fileV at hlk
    obtain ⟨bs, hbs⟩ : ∃ bs, p.1.b = bs := ⟨_, rfl⟩
    rw [hbs] at hv hsy ho
    obtain ⟨q, hq⟩ : ∃ q, bs.length = q := ⟨_, rfl⟩
    rw [hq] at hv hsy
    have HV := Lib.hid hv
    rw [hv] at hlk
    rw [hv] at ho
    obtain ⟨fa, hfa⟩ : ∃ fa, p.1.fast = fa := ⟨_, rfl⟩
    obtain ⟨th, hth⟩ : ∃ th, p.1.there = th := ⟨_, rfl⟩
    rw [hfa, hth] at hlk
    have HGF : Hid (Good9 ⟨n, bs, q, true⟩) := Lib.hid ⟨by rw [← hpn]; exact hgd.1, by rw [hq]; exact Nat.le_refl _, by rw [← hbs]; exact hgd.2.2.1, fun h => by cases h⟩
    have hnz : n.size ≤ 10 := (goodN_size (by rw [← hpn]; exact hgd.1)).2
    have HSY := Lib.hid hsy
    have HO := Lib.hid ho
    have HP := Lib.hid hp
    have HPN := Lib.hid hpn
    have hbx := Blk.new W1 #[.slice A q ca, .int .i64 ((fa : Nat) : Int), .bool th] 78
    have x1 := hbx.frz 1
    have x2 := hbx.frz 2
    have y0 := hbx.cell (j := 0) rfl
    have y1 := hbx.cell (j := 1) rfl
    have y2 := hbx.cell (j := 2) rfl
    clear hfg hf hn ha hsy h6 h9 hm1 hbs hgd hq hfa hth hv hpn ho hp hbx
    go_enter Tryd.func39, Tryd.ntmps39
    go_wp2_with fail
    refine (put9_from ⟨n, bs, q, true⟩ A q ca HB1.out HM1.out ?hbW HSS.out HHL.out hnz).mono ?_
    case hbW => repeat' (first | with_reducible exact Below.refl _ _ | (with_reducible refine Below.alloc ?_ ?_ _) | (with_reducible refine Below.setCell ?_ ?_ _) | exact (by first | (simp; done) | (simp; omega) | omega))
    rintro e k ⟨rfl, hbW, hbx, hmx, b, hbk, hmk, hor, hok⟩
    have hfin := PD.done (S := S) (w := w) HL1.out HSG.out HSM.out HRS.out HPW.out HSO.out HGD.out HLT.out (HOS.out.then_ hbW) hbx hmx (fun p hp _ => (HROW.out p hp).below hbW) (OwnB.below HO.out hbW) (fun j hj => .inl (HRS.out p HP.out j (by rw [HV.out]; exact hj)))
      (fun x hx hne => by
        have := apart_of HPW.out HP.out hx (by rw [HPN.out]; exact hne)
        unfold Apart9 at this; rw [HV.out] at this; exact this) HGF.out hbk hmk hor hok
    have HFIN := Lib.hid hfin
    clear hfin hbW hbx hmx hbk hmk hor hok
    go_wp2
    go_ret
    unfold Did
    rw [HSY.out]
    exact ⟨rfl, HFIN.out⟩
set_option maxHeartbeats 1050000 in
theorem swap9_disk (S : Nat → Prop) (g : Nat) (l : List Fil) (c : Nat) (n : ByteArray) (u : Value) (bs : List UInt8) (w : World) (h : PD w S g l c) (hn : n.size ≤ maxLen) (hc : c ≤ 1050000) (hl : l.length ≤ 100000) (hu : Safe9 S w u bs) (hbl : bs.length ≤ 140737488355328) :
    Calls Tryd.prog 13 #[.pointer (some ⟨g, 0, none⟩), .string n, u] w (Did S g c (swap9 n bs l) w) := by
  have hH := h
  obtain ⟨m, ps, h1, h2, h3, h4, h5, h6, h7, h8, h9, h10⟩ := h
  have hc0 := h3.cell0
  have hc1 := h3.cell1
  have hfz := h3.frz 1
  have hoc : Off (fun k => k = g) w (w.setCell ⟨g, 1, none⟩ (.int .i64 ((c + 1 : Nat) : Int))) := (Off.refl _ w).set (.inl rfl)
  have hmne : ∀ b, m = some b → ¬ b = g := fun b hb e => by
    subst hb
    exact h3.ne_map (show w.ownsMap Tryd.prog 9 RH b ps.length (DD ps) from h5) e.symm
  have hm1 := h5.off hoc hmne
  have hb1 := h3.set1 (c + 1)
  have hrow : ∀ p ∈ ps, OwnB 0 p.2 p.1.b (w.setCell ⟨g, 1, none⟩ (.int .i64 ((c + 1 : Nat) : Int))) := fun p hp => rows_off9 h3 h5 (hoc.mono fun k hk => .inl (.inl hk)) (h6 p hp).1
  have hoS : Off S w (w.setCell ⟨g, 1, none⟩ (.int .i64 ((c + 1 : Nat) : Int))) := hoc.mono fun k hk => by subst hk; exact .inl h2
  have hcnt : ∀ {w' : World}, Below w.heap.size (w.setCell ⟨g, 1, none⟩ (.int .i64 ((c + 1 : Nat) : Int))) w' → PD w' (Grw S w w') g l (c + 1) ∧ Off S w w' := fun {w'} hb => hH.count hb
  have hz1 : (w.setCell ⟨g, 1, none⟩ (.int .i64 ((c + 1 : Nat) : Int))).heap.size = w.heap.size := by simp [World.setCell]
  rw [Int.natCast_add, Int.natCast_one] at hm1 hb1 hrow hoS hcnt hz1
  obtain ⟨W1, hW1⟩ : ∃ W1, w.setCell ⟨g, 1, none⟩ (.int .i64 ((c : Int) + 1)) = W1 := ⟨_, rfl⟩
  rw [hW1] at hm1 hb1 hrow hoS hcnt hz1
  have HOS := Lib.hid hoS
  have HROW := Lib.hid hrow
  have HM1 := Lib.hid hm1
  have HB1 := Lib.hid hb1
  have HZ1 := Lib.hid hz1
  have HCNT : Hid (∀ {w' : World}, Below w.heap.size W1 w' → PD w' (Grw S w w') g l (c + 1) ∧ Off S w w') := Lib.hid hcnt
  have HSM := Lib.hid h4
  have hd0 := hb1.cell0
  have HB3 := Lib.hid h3
  have hltg := hb1.lt
  have HRS : Hid (∀ p ∈ ps, ∀ j, p.2.ownBlock = some j → S j) := Lib.hid fun p hp => (h6 p hp).2
  have HPW : Hid (ps.Pairwise Apart9) := Lib.hid h7
  have HLT := Lib.hid h10
  have HSO := Lib.hid h8
  have HGD := Lib.hid h9
  have HSG := Lib.hid h2
  have HSS := Lib.hid (sorted_ps h1 h8)
  have hfg := find_get (n := n) h1
  have HL1 := Lib.hid h1
  have hpl : ps.length = l.length := by rw [← h1, List.length_map]
  rw [← hpl] at hl
  have HHL := Lib.hid hl
  have h1 := 0
  clear hoS hrow hz1 hb1 hoc hcnt hmne hH h3 h4 h5 h7 h8 h10 h2 h1 hl hpl
  obtain ⟨Au, cu, hus, -⟩ := hu w (Off.refl _ _)
  have hub := Lib.hid hu
  clear hu
  subst hus
  obtain ⟨q, hq⟩ : ∃ q, bs.length = q := ⟨_, rfl⟩
  rw [hq] at hub hbl
  obtain ⟨r, hr⟩ : ∃ r, swap9 n bs l = r := ⟨_, rfl⟩
  unfold Did
  rw [hr]
  rw [hq]
  have hck := check9_any n (q : Nat) W1 hn
  have hr2 := hr
  unfold swap9 at hr2
  rw [hq] at hr2
  unfold chk9 at hck
  clear hfg
  by_cases hgn : goodN n = false
  · rw [if_pos hgn] at hck hr2
    have HR := Lib.hid hr2
    clear hr hr2 hgn hn h6 h9 hm1
    go_enter Tryd.func13, Tryd.ntmps13
    go_wp2_with fail
    refine hck.mono ?_
    rintro e k ⟨rfl, hk⟩
    have HCK := Lib.hid (HCNT.out (by rw [← HZ1.out]; exact hk))
    clear hk
    go_wp2
    go_ret
    rw [← HR.out]
    exact ⟨rfl, HCK.out⟩
  · rw [if_neg hgn] at hck hr2
    have hgn : goodN n = true := by simpa using hgn
    by_cases hbig : 1048576 < q
    · rw [if_pos (by omega)] at hck
      rw [if_pos hbig] at hr2
      have HR := Lib.hid hr2
      clear hr hr2 hgn hn h6 h9 hm1 hbig
      go_enter Tryd.func13, Tryd.ntmps13
      go_wp2_with fail
      refine hck.mono ?_
      rintro e k ⟨rfl, hk⟩
      have HCK := Lib.hid (HCNT.out (by rw [← HZ1.out]; exact hk))
      clear hk
      go_wp2
      go_ret
      rw [← HR.out]
      exact ⟨rfl, HCK.out⟩
    · rw [if_neg (by omega)] at hck
      rw [if_neg hbig] at hr2
      have hnz : n.size ≤ 10 := (goodN_size hgn).2
      have HGF : Hid (Good9 ⟨n, bs, q, true⟩) := Lib.hid ⟨hgn, by rw [hq]; exact Nat.le_refl _, by rw [hq]; exact Nat.le_of_not_lt hbig, fun h => by cases h⟩
      have HR := Lib.hid hr2
      have HQ := Lib.hid hq
      clear hr hr2 hgn hn h6 h9 hm1 hq
      go_enter Tryd.func13, Tryd.ntmps13
      go_wp2_with fail
      refine hck.mono ?_
      rintro e k ⟨rfl, hk⟩
      have hok := HOS.out.then_ hk
      go_wp2_with fail
      refine (lasting9_any _ k.heap.size bs k (hub.out k hok) (Nat.le_refl _) (by rw [HQ.out]; omega)).mono ?_
      rintro e k2 ⟨u2, rfl, hu2, hk2⟩
      rw [HQ.out]
      have hz3 := hk.size
      have hbW := hk.trans (hk2.mono hk.size)
      obtain ⟨A2, c2, hu2v⟩ := own_slice hu2
      rw [HQ.out] at hu2v
      subst hu2v
      have HU2 := Lib.hid hu2
      have HBW := Lib.hid hbW
      have HZ3 := Lib.hid hz3
      clear hk hk2 hbW hu2 hok hz3
      go_wp2_with fail
      refine (put9_from ⟨n, bs, q, true⟩ A2 q c2 HB1.out HM1.out HBW.out HSS.out HHL.out hnz).mono ?_
      rintro e k3 ⟨rfl, hbW, hbx, hmx, b, hbk, hmk, hor, hok⟩
      have hlo : ∀ j, (Value.slice A2 q c2).ownBlock = some j → w.heap.size ≤ j ∧ j < k2.heap.size := fun j hj => by
        have h1 := HU2.out.lt j hj
        have := HZ1.out
        have := HZ3.out
        exact ⟨by omega, h1.2⟩
      have hfin := PD.done (S := S) (w := w) HL1.out HSG.out HSM.out HRS.out HPW.out HSO.out HGD.out HLT.out (HOS.out.then_ hbW) hbx hmx (fun p hp _ => (HROW.out p hp).below hbW) (HU2.out.down (Nat.zero_le _)) (fun j hj => .inr (hlo j hj))
        (fun x hx hne j hj e => by
          have h1 := HLT.out j (HRS.out x hx j e)
          have h2 := (hlo j hj).1
          omega) HGF.out hbk hmk hor hok
      have HFIN := Lib.hid hfin
      clear hfin hbW hbx hmx hbk hmk hor hok hlo
      go_wp2
      go_ret
      rw [← HR.out]
      exact ⟨rfl, HFIN.out⟩
set_option maxHeartbeats 2000000 in
theorem app9_disk (S : Nat → Prop) (g : Nat) (l : List Fil) (c : Nat) (n : ByteArray) (u : Value) (bs : List UInt8) (w : World) (h : PD w S g l c) (hn : n.size ≤ maxLen) (hc : c ≤ 1050000) (hl : l.length ≤ 100000) (hu : Safe9 S w u bs) (hbl : bs.length ≤ 140737486258176) :
    Calls Tryd.prog 46 #[.pointer (some ⟨g, 0, none⟩), .string n, u] w (Did S g c (app9 n bs l) w) := by
  have hH := h
  obtain ⟨m, ps, h1, h2, h3, h4, h5, h6, h7, h8, h9, h10⟩ := h
  have hc0 := h3.cell0
  have hc1 := h3.cell1
  have hfz := h3.frz 1
  have hoc : Off (fun k => k = g) w (w.setCell ⟨g, 1, none⟩ (.int .i64 ((c + 1 : Nat) : Int))) := (Off.refl _ w).set (.inl rfl)
  have hmne : ∀ b, m = some b → ¬ b = g := fun b hb e => by
    subst hb
    exact h3.ne_map (show w.ownsMap Tryd.prog 9 RH b ps.length (DD ps) from h5) e.symm
  have hm1 := h5.off hoc hmne
  have hb1 := h3.set1 (c + 1)
  have hrow : ∀ p ∈ ps, OwnB 0 p.2 p.1.b (w.setCell ⟨g, 1, none⟩ (.int .i64 ((c + 1 : Nat) : Int))) := fun p hp => rows_off9 h3 h5 (hoc.mono fun k hk => .inl (.inl hk)) (h6 p hp).1
  have hoS : Off S w (w.setCell ⟨g, 1, none⟩ (.int .i64 ((c + 1 : Nat) : Int))) := hoc.mono fun k hk => by subst hk; exact .inl h2
  have hcnt : ∀ {w' : World}, Below w.heap.size (w.setCell ⟨g, 1, none⟩ (.int .i64 ((c + 1 : Nat) : Int))) w' → PD w' (Grw S w w') g l (c + 1) ∧ Off S w w' := fun {w'} hb => hH.count hb
  have hz1 : (w.setCell ⟨g, 1, none⟩ (.int .i64 ((c + 1 : Nat) : Int))).heap.size = w.heap.size := by simp [World.setCell]
  rw [Int.natCast_add, Int.natCast_one] at hm1 hb1 hrow hoS hcnt hz1
  obtain ⟨W1, hW1⟩ : ∃ W1, w.setCell ⟨g, 1, none⟩ (.int .i64 ((c : Int) + 1)) = W1 := ⟨_, rfl⟩
  rw [hW1] at hm1 hb1 hrow hoS hcnt hz1
  have HOS := Lib.hid hoS
  have HROW := Lib.hid hrow
  have HM1 := Lib.hid hm1
  have HB1 := Lib.hid hb1
  have HZ1 := Lib.hid hz1
  have HCNT : Hid (∀ {w' : World}, Below w.heap.size W1 w' → PD w' (Grw S w w') g l (c + 1) ∧ Off S w w') := Lib.hid hcnt
  have HSM := Lib.hid h4
  have hd0 := hb1.cell0
  have HB3 := Lib.hid h3
  have hltg := hb1.lt
  have HRS : Hid (∀ p ∈ ps, ∀ j, p.2.ownBlock = some j → S j) := Lib.hid fun p hp => (h6 p hp).2
  have HPW : Hid (ps.Pairwise Apart9) := Lib.hid h7
  have HLT := Lib.hid h10
  have HSO := Lib.hid h8
  have HGD := Lib.hid h9
  have HSG := Lib.hid h2
  have HSS := Lib.hid (sorted_ps h1 h8)
  have hlo := look_one (n := n) h1 (fun p hp => (h6 p hp).1) (fun p hp => (h6 p hp).2) h7
  have hgdn := fun (hn : goodN n = true) => fileOf_good (l := l) hn h9
  have hlen9 : (fileOf n l).b.length ≤ 1048576 := by
    unfold fileOf
    cases hg : getF n l with
    | none => exact Nat.zero_le _
    | some f => exact (h9 f (getF_mem hg).1).2.2.1
  have HL1 := Lib.hid h1
  have hpl : ps.length = l.length := by rw [← h1, List.length_map]
  rw [← hpl] at hl
  have HHL := Lib.hid hl
  have h1 := 0
  clear hoS hrow hz1 hb1 hoc hcnt hmne hH h3 h4 h5 h7 h8 h10 h2 h1 hl hpl
  have hlk := look9 (n := n) false hm1 hn
  obtain ⟨A, q, ca, hlv, hlq, hown, hownS, hap⟩ := hlo
  rw [hlv] at hlk
  simp only [Bool.false_eq_true, if_false] at hlk
  obtain ⟨Au, cu, hus, -⟩ := hu w (Off.refl _ _)
  have hub := Lib.hid hu
  subst hus
  obtain ⟨z, hz⟩ : ∃ z, bs.length = z := ⟨_, rfl⟩
  rw [hz] at hub hbl
  obtain ⟨r, hr⟩ : ∃ r, app9 n bs l = r := ⟨_, rfl⟩
  unfold Did
  rw [hr]
  rw [hz]
  have hr2 := hr
  unfold app9 at hr2
  have HGN := Lib.hid hgdn
  have HWO : Hid (OwnB 0 (.slice A q ca) (fileOf n l).b W1) := Lib.hid ((show Off (fun k => k = g) w W1 from by rw [← hW1]; exact (Off.refl _ w).set (.inl rfl)).ownsRow hown fun k hk e => by
    subst e
    obtain ⟨cur, hcu⟩ := own_type hown hk
    have h3 := HB3.out
    unfold Box9 at h3
    rw [h3] at hcu
    injection hcu with hcu; injection hcu with _ h4 _
    exact disk9_ne_u8 h4)
  have HOWS := Lib.hid hownS
  have HAP := Lib.hid hap
  obtain ⟨fo, hfo⟩ : ∃ fo, fileOf n l = fo := ⟨_, rfl⟩
  rw [hfo] at hlk hlq hr2 hgdn hlen9 HWO HGN
  rw [hlq, hz] at hr2
  rw [hlq] at hlen9
  obtain ⟨fb, hfb⟩ : ∃ fb, fo.b = fb := ⟨_, rfl⟩
  obtain ⟨fa, hfa⟩ : ∃ fa, fo.fast = fa := ⟨_, rfl⟩
  obtain ⟨th, hth⟩ : ∃ th, fo.there = th := ⟨_, rfl⟩
  rw [hfb] at hlq hr2 HWO
  rw [hfa, hth] at hlk hr2
  have hw2 : IntKind.i64.wrap ((q : Int) + z) = ((q + z : Nat) : Int) := by rw [IntKind.wrap_i64]; omega
  rw [Int.natCast_add] at hw2
  have hck := fun w => check9_any n ((q : Int) + z) w hn
  unfold chk9 at hck
  have hbx := Blk.new W1 #[.slice A q ca, .int .i64 ((fa : Nat) : Int), .bool th] 78
  have y0 := hbx.cell (j := 0) rfl
  have y1 := hbx.cell (j := 1) rfl
  have y2 := hbx.cell (j := 2) rfl
  have hb0 := below_new W1 (.cells #[.slice A q ca, .int .i64 ((fa : Nat) : Int), .bool th] 78)
  have hz0 : (W1.alloc (.cells #[.slice A q ca, .int .i64 ((fa : Nat) : Int), .bool th] 78)).heap.size = W1.heap.size + 1 := by simp
  have HBX := Lib.hid hbx
  have HB0 := Lib.hid hb0
  have HZ0 := Lib.hid hz0
  have HLQ := Lib.hid hlq
  have HZ := Lib.hid hz
  have HFA := Lib.hid hfa
  have HTH := Lib.hid hth
  have HFB := Lib.hid hfb
  clear hbx hb0 hz0 hlq hz hfa hth hfb hlv hfo hgdn hown hownS hap hr hu h6 h9
  by_cases hgn : goodN n = false
  · rw [if_pos hgn] at hr2
    have hck := fun w => by have h := hck w; rw [if_pos hgn] at h; exact h
    have HR := Lib.hid hr2
    clear hr2 hgn hn hm1
    go_enter Tryd.func46, Tryd.ntmps46
    go_wp2_with fail
    refine (hck _).mono ?_
    rintro e k ⟨rfl, hk⟩
    have HCK := Lib.hid (HCNT.out (by rw [← HZ1.out]; exact HB0.out.trans (hk.mono (by rw [HZ0.out]; exact Nat.le_succ _))))
    clear hk
    go_wp2
    go_ret
    rw [← HR.out]
    exact ⟨rfl, HCK.out⟩
  · rw [if_neg hgn] at hr2
    have hck := fun w => by have h := hck w; rw [if_neg hgn] at h; exact h
    have hgn : goodN n = true := by simpa using hgn
    by_cases hbig : 1048576 < q + z
    · rw [if_pos hbig] at hr2
      have hck := fun w => by have h := hck w; rw [if_pos (show (1048576 : Int) < (q : Int) + z by omega)] at h; exact h
      have HR := Lib.hid hr2
      clear hr2 hgn hn hm1 hbig
      go_enter Tryd.func46, Tryd.ntmps46
      go_wp2_with fail
      refine (hck _).mono ?_
      rintro e k ⟨rfl, hk⟩
      have HCK := Lib.hid (HCNT.out (by rw [← HZ1.out]; exact HB0.out.trans (hk.mono (by rw [HZ0.out]; exact Nat.le_succ _))))
      clear hk
      go_wp2
      go_ret
      rw [← HR.out]
      exact ⟨rfl, HCK.out⟩
    · rw [if_neg hbig] at hr2
      have hck := fun w => by have h := hck w; rw [if_neg (show ¬ (1048576 : Int) < (q : Int) + z by omega)] at h; exact h
      have hnz : n.size ≤ 10 := (goodN_size hgn).2
      have HGF : Hid (Good9 ⟨n, fb ++ bs, fa, th⟩) := Lib.hid (by
        obtain ⟨⟨_, g2, g3, g4⟩, _⟩ := HGN.out hgn
        rw [HFB.out, HFA.out] at g2
        rw [HTH.out, HFA.out] at g4
        refine ⟨hgn, ?_, ?_, g4⟩
        · show fa ≤ (fb ++ bs).length
          rw [List.length_append]; omega
        · show (fb ++ bs).length ≤ 1048576
          rw [List.length_append, HLQ.out, HZ.out]; omega)
      have HR := Lib.hid hr2
      clear hr2 hgn hn hm1
      go_enter Tryd.func46, Tryd.ntmps46
      go_wp2_with fail
      refine (hck _).mono ?_
      rintro e k ⟨rfl, hk⟩
      have hkz := hk.size
      rw [HZ0.out] at hkz
      have hbk := HBX.out.below hk
      have y0 := hbk.cell (j := 0) rfl
      have y1 := hbk.cell (j := 1) rfl
      have y2 := hbk.cell (j := 2) rfl
      have hk1 : Below W1.heap.size W1 k := HB0.out.trans (hk.mono (by rw [HZ0.out]; exact Nat.le_succ _))
      have HK1 := Lib.hid hk1
      have HBK := Lib.hid hbk
      have hok := HOS.out.then_ hk1
      have HOK := Lib.hid hok
      have hub2 := hub.out k hok
      have hwo2 := HWO.out.below hk1
      have HKZ := Lib.hid hkz
      have HGW : Hid (g ≠ W1.heap.size) := Lib.hid (by omega)
      clear hk hbk hk1 hok hkz
      go_wp2_with (at_builtin; refine wpList_append_byt_at rfl _ _ rfl 0 _ _ _ _ _ rfl hwo2 rfl hub2 ?x1 (Nat.zero_le _) ?_)
      case x1 => rw [HLQ.out, HZ.out]; omega
      intro v' k2 hv2 hb2 hg2
      have hgb := hg2.1
      have hne2 : (Value.slice A q ca).ownBlock ≠ some W1.heap.size := fun e => by
        have h1 := HLT.out _ (HOWS.out _ e)
        have := HZ1.out
        omega
      have hbk2 : Blk k2 W1.heap.size #[.slice A q ca, .int .i64 ((fa : Nat) : Int), .bool th] 78 := (hgb.block _ (by have := HKZ.out; omega) (fun e => hne2 e.symm)).trans HBK.out
      have z0 := hbk2.cell (j := 0) rfl
      have z1 := hbk2.cell (j := 1) rfl
      have z2 := hbk2.cell (j := 2) rfl
      have f0 := hbk2.frz 0
      obtain ⟨A2, c2, hv2v⟩ := own_slice hv2
      rw [List.length_append, HLQ.out, HZ.out] at hv2v
      subst hv2v
      have HV2 := Lib.hid hv2
      have HG2 := Lib.hid hg2
      have HBK2 := Lib.hid hbk2
      have HNE2 := Lib.hid hne2
      have hKK := HK1.out.size
      have hWT : Off (fun j => (Value.slice A q ca).ownBlock = some j ∨ j = W1.heap.size) k (k2.setCell ⟨W1.heap.size, 0, none⟩ (.slice A2 (q + z) c2)) := ((Off.refl _ k).grown hgb (fun j hj => .inl (.inl hj))).set (.inl (.inr rfl))
      have hgT : ¬ ((Value.slice A q ca).ownBlock = some g ∨ g = W1.heap.size) := by
        rintro (e | e)
        · obtain ⟨cur, hcu⟩ := own_type HWO.out e
          have h3 := HB1.out
          unfold Box9 at h3
          rw [h3] at hcu
          injection hcu with hcu; injection hcu with _ h4 _
          exact disk9_ne_u8 h4
        · exact HGW.out e
      have hmT : ∀ b, m = some b → ¬ ((Value.slice A q ca).ownBlock = some b ∨ b = W1.heap.size) := by
        rintro b rfl (e | e)
        · obtain ⟨cur, hcu⟩ := own_type HWO.out e
          exact blk_ne_map hcu (show W1.ownsMap Tryd.prog 9 RH b ps.length (DD ps) from HM1.out)
        · have h1 := HLT.out b (HSM.out b rfl)
          have := HZ1.out
          omega
      have HWT := Lib.hid hWT
      have HGT := Lib.hid hgT
      have HMT := Lib.hid hmT
      have HKK := Lib.hid hKK
      clear hv2 hb2 hg2 hgb hbk2 hne2 hub2 hwo2 hWT hgT hmT hKK
      go_wp2_with fail
      refine (put9_off ⟨n, fb ++ bs, fa, th⟩ A2 (q + z) c2 (HB1.out.below HK1.out) (HM1.out.below HK1.out) HWT.out HGT.out HMT.out HSS.out HHL.out hnz).mono ?_
      rintro e k3 ⟨rfl, hbW, hbx, hmx, b, hbk, hmk, hor, hok⟩
      have hz1 := HZ1.out
      have hz2 := HKZ.out
      have hz3 := hbW.size
      have hA2 : ∀ j, (Value.slice A2 (q + z) c2).ownBlock = some j → (S j ∧ (Value.slice A q ca).ownBlock = some j) ∨ j = k.heap.size := fun j hj => by
        rcases HG2.out.2 with e | e
        · rw [e] at hj; exact .inl ⟨HOWS.out j hj, hj⟩
        · rw [e] at hj; exact .inr (Option.some.inj hj).symm
      have hfin := PD.done (S := S) (w := w) (f := ⟨n, fb ++ bs, fa, th⟩) (u := .slice A2 (q + z) c2) HL1.out HSG.out HSM.out HRS.out HPW.out HSO.out HGD.out HLT.out
        (HOK.out.trans hbW (fun j hj => by
          rcases hj with e | e
          · exact .inl (HOWS.out j e)
          · exact .inr (by omega))) hbx hmx
        (fun p hp hne => hbW.ownsRow ((HROW.out p hp).below HK1.out) (fun j hj => by
          rintro (e | e)
          · exact HAP.out p hp hne ⟨n, [], 0, true⟩ j e hj
          · have h1 := HLT.out j (HRS.out p hp j hj)
            omega))
        (World.ownsRow.kept HV2.out (setCell_grown k2 _ _) (.inr (HG2.out.apart (by show W1.heap.size < k.heap.size; omega) HNE2.out)))
        (fun j hj => by
          rcases hA2 j hj with e | e
          · exact .inl e.1
          · have h1 := (HV2.out.lt j hj).2
            refine .inr ⟨by omega, ?_⟩
            simpa [World.setCell] using h1)
        (fun x hx hne j hj e => by
          rcases hA2 j hj with e2 | e2
          · exact HAP.out x hx hne ⟨n, [], 0, true⟩ j e2.2 e
          · have h1 := HLT.out j (HRS.out x hx j e)
            omega) HGF.out hbk hmk hor hok
      have HFIN := Lib.hid hfin
      clear hfin hbW hbx hmx hbk hmk hor hok hA2 hz1 hz2 hz3
      go_wp2
      go_ret
      rw [← HR.out]
      exact ⟨rfl, HFIN.out⟩
end Go.Proofs.YtbiecoifeeikpaaDoor
/-
  A keep in memory: its box, its log's row, its disk; what a step on it leaves alone; swap.
  There are no conditions beyond those that each lemma names.
-/
set_option linter.unusedSimpArgs false
set_option linter.unusedVariables false
namespace Go.Proofs.YtbiecoifeeikpaaDoor
open Go.RowKit Go.Deep
set_option maxRecDepth 100000

def kcs11 (d : Nat) (k : Kst) (v : Value) (n : Nat) : List Value := [.pointer (some ⟨d, 0, none⟩), .int .i64 k.ht, .int .i64 k.hv, .int .i64 k.s.ix, .int .i64 k.s.st, .string k.s.conf, .string k.s.data, v, .int .i64 ((n : Nat) : Int)]
/-- a keep: all its blocks, its disk's among them, are blocks of which S holds; at most c calls of its disk -/
structure KB (w : World) (S : Nat → Prop) (g d : Nat) (k : Kst) (x : Fk) (c : Nat) : Prop where
  ok : KOk k
  pos : ∀ b f, x = some (b, f) → 1 ≤ b.length
  lt : ∀ j, S j → j < w.heap.size
  ex : ∃ (T : Nat → Prop) (v : Value) (c0 : Nat), PD w T d (files11 x) c0 ∧ c0 ≤ c ∧ Rt w g 62 (kcs11 d k v (size11 x)) ∧ OwnEn 0 v k.log w ∧ (∀ j, T j → S j) ∧ S g ∧ ¬ T g ∧ (∀ j, v.ownBlock = some j → S j ∧ ¬ T j)
theorem keep_ne_entry : (62 : TypeId) ≠ 41 := by decide
theorem KB.off {w w' : World} {S U : Nat → Prop} {g d c : Nat} {k : Kst} {x : Fk} (h : KB w S g d k x c) (ho : Off U w w') (hU : ∀ j, S j → ¬ U j) : KB w' S g d k x c := by
  obtain ⟨h1, h2, h3, T, v, c0, h4, h5, h6, h7, h8, h9, h10, h11⟩ := h
  exact ⟨h1, h2, fun j hj => Nat.lt_of_lt_of_le (h3 j hj) ho.size, T, v, c0, h4.off ho (fun j hj => hU j (h8 j hj)), h5, (ho.block g h6.lt (hU g h9)).trans h6, h7.off ho (fun j hj => hU j (h11 j hj).1), h8, h9, h10, h11⟩
theorem KB.below {w w' : World} {S : Nat → Prop} {g d c : Nat} {k : Kst} {x : Fk} (h : KB w S g d k x c) (hb : Below w.heap.size w w') : KB w' S g d k x c := h.off (Off.of_below (S := fun _ => False) hb) fun _ _ h => h
theorem KB.more {w : World} {S U : Nat → Prop} {g d c c2 : Nat} {k : Kst} {x : Fk} (h : KB w S g d k x c) (hU : ∀ j, S j → U j) (hlt : ∀ j, U j → j < w.heap.size) (hc : c ≤ c2) : KB w U g d k x c2 := by
  obtain ⟨h1, h2, h3, T, v, c0, h4, h5, h6, h7, h8, h9, h10, h11⟩ := h
  exact ⟨h1, h2, hlt, T, v, c0, h4, Nat.le_trans h5 hc, h6, h7, fun j hj => hU j (h8 j hj), hU g h9, h10, fun j hj => ⟨hU j (h11 j hj).1, (h11 j hj).2⟩⟩
theorem KB.good {w : World} {S : Nat → Prop} {g d c : Nat} {k : Kst} {x : Fk} (h : KB w S g d k x c) : Fgood x := by
  obtain ⟨h1, h2, h3, T, v, c0, h4, _⟩ := h
  intro b f e
  subst e
  have := (h4.good.2 ⟨stateN, b, f, true⟩ (by simp [files11])).2
  exact ⟨this.1, this.2.1⟩
theorem stateN_le : stateN.size ≤ maxLen := by decide
/-- what came of a step on a keep -/
def Kd (S : Nat → Prop) (g d : Nat) (k : Kst) (x : Fk) (c : Nat) (r : Int) (w : World) (e : Ending) (w' : World) : Prop := e = .returned (.int .i64 r) ∧ KB w' (Grw S w w') g d k x c ∧ Off S w w'
theorem Grw.two {S : Nat → Prop} {w w1 w2 : World} (h : w.heap.size ≤ w1.heap.size) (h2 : w1.heap.size ≤ w2.heap.size) : ∀ j, Grw (Grw S w w1) w1 w2 j → Grw S w w2 j := by
  rintro j ((hj | hj) | hj)
  · exact .inl hj
  · exact .inr ⟨hj.1, by omega⟩
  · exact .inr ⟨by omega, hj.2⟩
/-- one step behind the other -/
theorem Kd.then_ {S : Nat → Prop} {g d c : Nat} {k : Kst} {x : Fk} {w w1 w2 : World} {r : Int} {e : Ending} (ho : Off S w w1) (h : Kd (Grw S w w1) g d k x c r w1 e w2) (hlt : ∀ j, S j → j < w.heap.size) : Kd S g d k x c r w e w2 := by
  obtain ⟨h1, h2, h3⟩ := h
  refine ⟨h1, h2.more (Grw.two ho.size h3.size) (Grw.lt hlt (Nat.le_trans ho.size h3.size)) (Nat.le_refl _), ho.trans h3 fun j hj => ?_⟩
  rcases hj with hj | hj
  · exact .inl hj
  · exact .inr hj.1
theorem Safe9.then_ {S : Nat → Prop} {w w1 : World} {u : Value} {bs : List UInt8} (h : Safe9 S w u bs) (ho : Off S w w1) : Safe9 (Grw S w w1) w1 u bs := fun w' ho2 => h w' (ho.trans ho2 fun j hj => by
  rcases hj with hj | hj
  · exact .inl hj
  · exact .inr hj.1)
theorem Safe9.less {S T : Nat → Prop} {w : World} {u : Value} {bs : List UInt8} (h : Safe9 S w u bs) (hT : ∀ j, T j → S j) : Safe9 T w u bs := fun w' ho => h w' (ho.mono fun j hj => .inl (hT j hj))
set_option maxHeartbeats 1000000 in
theorem kswap0 (S T : Nat → Prop) (g d c c0 n0 : Nat) (k : Kst) (x : Fk) (v : Value) (A : Option Addr) (n q : Nat) (bs : List UInt8) (w : World) (hok : KOk k) (hlt : ∀ j, S j → j < w.heap.size) (hP : PD w T d (files11 x) c0) (hc0 : c0 ≤ c) (hx : Rt w g 62 (kcs11 d k v n0)) (hO : OwnEn 0 v k.log w) (hTS : ∀ j, T j → S j) (hSg : S g) (hTg : ¬ T g) (hv : ∀ j, v.ownBlock = some j → S j ∧ ¬ T j) (hc : c ≤ 1000000) (hu : Safe9 S w (.slice A n q) bs) (hb : bs.length ≤ 1048576) (h1 : 1 ≤ bs.length) (hn : n = bs.length) :
    Calls Tryd.prog 20 #[.pointer (some ⟨g, 0, none⟩), .slice A n q] w (fun e w' => Kd S g d k (some (bs, bs.length)) (c + 1) 0 w e w' ∧ ∀ j, j < 8 → w'.cell? ⟨g, j, none⟩ = w.cell? ⟨g, j, none⟩) := by
  have x0 := hx.cell (j := 0) (v := .pointer (some ⟨d, 0, none⟩)) rfl
  have hsw := swap9_disk T d (files11 x) c0 stateN (.slice A n q) bs w hP stateN_le (by omega) (files_len x) (hu.less hTS) (by omega)
  have HSW := Lib.hid hsw
  have HX := Lib.hid hx
  have HO := Lib.hid hO
  have hnb : n ≤ 1048576 := by omega
  have HN := Lib.hid hn
  have hgw := hx.lt
  clear hsw hx hO hn
  go_enter Tryd.func20, Tryd.ntmps20
  go_wp2_with fail
  refine HSW.out.mono ?_
  rintro e w1 ⟨rfl, hP1, hO1⟩
  rw [swap11 x hb] at hP1 ⊢
  have hx1 : Rt w1 g 62 (kcs11 d k v n0) := (hO1.block g hgw hTg).trans HX.out
  have z0 := hx1.cell (j := 8) (v := .int .i64 (n0 : Nat)) rfl
  have f0 := hx1.frz 8
  have hOr := HO.out.off hO1 (fun j hj => (hv j hj).2)
  go_wp2
  go_ret
  have hgT : ¬ Grw T w w1 g := by
    rintro (h | h)
    · exact hTg h
    · omega
  have hset : Off (fun j => j = g) w1 (w1.setCell ⟨g, 8, none⟩ (.int .i64 n)) := (Off.refl _ w1).set (.inl rfl)
  refine ⟨⟨rfl, ⟨hok, fun b f e => by injection e with e; injection e with e _; subst e; exact h1, Grw.lt hlt (Nat.le_trans hO1.size hset.size), Grw T w w1, v, c0 + 1, hP1.off hset (fun j hj e => by subst e; exact hgT hj), by omega, ?_, hOr.off hset (fun j hj e => by subst e; exact own_ne11 keep_ne_entry hx1 hOr hj), ?_, .inl hSg, hgT, fun j hj => ⟨.inl (hv j hj).1, ?_⟩⟩, (hO1.mono (fun j hj => .inl (hTS j hj))).set (.inl hSg)⟩, fun j hj => (World.cell?_setCell_other _ _ _ _ (fun e => by injection e with _ e _; omega)).trans (hO1.cell (p := ⟨g, j, none⟩) hgw hTg)⟩
  · have := hx1.set 8 (.int .i64 n)
    rw [show (.int .i64 (n : Int) : Value) = .int .i64 ((bs.length : Nat) : Int) by rw [HN.out]] at this ⊢
    exact this
  · rintro j (hj | hj)
    · exact .inl (hTS j hj)
    · exact .inr ⟨hj.1, Nat.lt_of_lt_of_le hj.2 hset.size⟩
  · rintro (h | h)
    · exact (hv j hj).2 h
    · have := hlt j (hv j hj).1
      omega
set_option maxHeartbeats 1000000 in
theorem kswap_any (S : Nat → Prop) (g d c : Nat) (k : Kst) (x : Fk) (A : Option Addr) (n q : Nat) (bs : List UInt8) (w : World) (h : KB w S g d k x c) (hc : c ≤ 1000000) (hu : Safe9 S w (.slice A n q) bs) (hb : bs.length ≤ 1048576) (h1 : 1 ≤ bs.length) (hn : n = bs.length) :
    Calls Tryd.prog 20 #[.pointer (some ⟨g, 0, none⟩), .slice A n q] w (fun e w' => Kd S g d k (some (bs, bs.length)) (c + 1) 0 w e w' ∧ ∀ j, j < 8 → w'.cell? ⟨g, j, none⟩ = w.cell? ⟨g, j, none⟩) := by
  obtain ⟨hok, hpos, hlt, T, v, c0, hP, hc0, hx, hO, hTS, hSg, hTg, hv⟩ := h
  exact kswap0 S T g d c c0 (size11 x) k x v A n q bs w hok hlt hP hc0 hx hO hTS hSg hTg hv hc hu hb h1 hn
end Go.Proofs.YtbiecoifeeikpaaDoor
/-
  Package keep's whole, ready and add.
  There are no conditions beyond those that each lemma names.
-/
set_option linter.unusedSimpArgs false
set_option linter.unusedVariables false
namespace Go.Proofs.YtbiecoifeeikpaaDoor
open Go.RowKit Go.Deep
set_option maxRecDepth 100000

set_option maxHeartbeats 1000000 in
theorem kwhole_any (B : Nat) (u : Value) (hd : List UInt8) (k : Kst) (A : Option Addr) (m c : Nat) (w : World) (hu : OwnB B u hd w) (hB : B ≤ w.heap.size) (hE : Ens (fun j => ¬ u.ownBlock = some j) w (.slice A m c) k.log) (hT : Tbl w) (hBT : 0 < B) (hok : KOk k) (hh : hd.length ≤ 400000) :
    Calls Tryd.prog 58 #[u, .agg #[.int .i64 k.ht, .int .i64 k.hv, .int .i64 k.s.ix, .int .i64 k.s.st, .string k.s.conf, .string k.s.data, .slice A m c]] w fun e w' => ∃ v', e = .returned v' ∧ OwnB B v' (hd ++ encs10 (lines11 k)) w' ∧ Below B w w' ∧ Off (fun j => u.ownBlock = some j) w w' := by
  obtain ⟨A9, c9, rfl⟩ := own_slice hu
  obtain ⟨q, hq⟩ : ∃ q, hd.length = q := ⟨_, rfl⟩
  rw [hq] at hu hE ⊢
  have HQ := Lib.hid hq
  have HU := Lib.hid hu
  have HE := Lib.hid (hE.mono (M := fun j => ¬ (Value.slice A9 q c9).ownBlock = some j ∧ j < w.heap.size) fun j hj hl => ⟨hj, hl⟩)
  have hq2 : q ≤ 400000 := by omega
  obtain ⟨l1, hl1⟩ : ∃ l1, encR10 ⟨true, k.ht, k.hv, ⟨0, 0, 0, ByteArray.empty⟩⟩ = l1 := ⟨_, rfl⟩
  have hll : l1.length ≤ 2607 := by rw [← hl1]; exact enc10_short _
  have HL := Lib.hid hl1
  obtain ⟨W, hW⟩ : ∃ W, w.alloc (.cells #[.int .i64 k.ht, .int .i64 k.hv, .int .i64 k.s.ix, .int .i64 k.s.st, .string k.s.conf, .string k.s.data, .slice A m c] 52) = W := ⟨_, rfl⟩
  obtain ⟨b, hb⟩ : ∃ b, w.heap.size = b := ⟨_, rfl⟩
  have h0 : Below b w W := by rw [← hW, ← hb]; exact below_new _ _
  have hx : Rt W b 52 [.int .i64 k.ht, .int .i64 k.hv, .int .i64 k.s.ix, .int .i64 k.s.st, .string k.s.conf, .string k.s.data, .slice A m c] := by rw [← hW, ← hb]; exact Rt.new _ _ _
  have hBb : B ≤ b := by rw [← hb]; exact hB
  have hUW := HU.out.below (by rw [hb]; exact h0)
  have hTW : Tbl W := tbl_keep hT (by rw [hb]; exact h0)
  have hBW : Below B w W := h0.mono hBb
  have x0 := hx.cell (j := 0) rfl
  have x1 := hx.cell (j := 1) rfl
  have hbl := hx.lt
  clear hq hu hE hl1 hT
  go_enter Tryd.func58, Tryd.ntmps58
  go_wp2_with fail
  refine (wenc_v true k.ht k.hv 0 0 0 ByteArray.empty l1 W (by decide) hTW HL.out).mono ?_
  rintro e w1 ⟨v1, rfl, hv1, h1⟩
  have hU1 := hUW.below h1
  have hB1 := hBW.trans (h1.mono (Nat.le_trans hBb (Nat.le_of_lt hbl)))
  have hby := Byt.of_own hv1
  have hBs1 : B ≤ w1.heap.size := Nat.le_trans (Nat.le_trans hBb (Nat.le_of_lt hbl)) h1.size
  have hx1 := hx.below h1
  have x6 := hx1.cell (j := 6) (v := .slice A m c) rfl
  have h00 := h0
  clear hUW hBW h0 x0 x1
  have hneb : (Value.slice A9 q c9).ownBlock ≠ some b := by
    intro e
    have := (OwnB.lt HU.out b e).2
    omega
  go_wp2_with (at_builtin; refine wpList_append_byt_at rfl _ _ rfl B _ _ _ _ _ rfl hU1 rfl hby (by have := HQ.out; omega) hBs1 ?_)
  intro v3 w3 hO3 h3 g3
  have x6 := Grew.cell (v := .slice A9 q c9) g3 x6 hneb
  have g3 : Grew (.slice A9 q c9) w1 v3 w3 := g3
  have hof : Off (fun j => (Value.slice A9 q c9).ownBlock = some j) w w3 := ((Off.of_below (by rw [hb]; exact h00)).then_ h1).grown g3.1 (fun j hj => .inl hj)
  have hown3 : v3.ownBlock = (Value.slice A9 q c9).ownBlock ∨ ∀ j, v3.ownBlock = some j → w.heap.size ≤ j := by
    rcases g3.2 with e | e
    · exact .inl e
    · exact .inr fun j hj => by rw [e] at hj; injection hj with hj; have := h1.size; omega
  have hE3 := HE.out.keep (w' := w3) (fun p hp hl => hof.cell hl hp.1)
  have hB3 := hB1.trans h3
  have hT3 : Tbl w3 := tbl_keep2 hTW ((h1.mono (Nat.le_trans hBb (Nat.le_of_lt hbl))).trans h3) hBT
  have hBs3 : B ≤ w3.heap.size := Nat.le_trans hBs1 h3.size
  have hl3 : (hd ++ l1).length ≤ 1050000 := by rw [List.length_append, HQ.out]; omega
  obtain ⟨A7, c7, rfl⟩ := own_slice hO3
  obtain ⟨n7, hn7⟩ : ∃ n7, (hd ++ l1).length = n7 := ⟨_, rfl⟩
  rw [hn7] at hO3 hown3 ⊢
  have HE4 := Lib.hid (hE3.mono (M := fun j => ¬ (Value.slice A7 n7 c7).ownBlock = some j) fun j hj _ e => by
    rcases hown3 with ho | ho
    · exact hj.1 (by rw [← ho]; exact e)
    · have := ho j e; omega)
  have HL3 := Lib.hid hl3
  clear hx1 hU1 hB1 hby h3 g3 hl3 hn7 hv1 hE3
  go_wp2_with fail
  refine (kaddE_any B A m c k.log w3 (.slice A7 n7 c7) HE4.out hBs3 (by have := hok.few; omega) (fun e he => by have := mayEnt10_is (row11_may hok.ents e he); omega) (hd ++ l1) hO3 HL3.out hT3 hBT).mono ?_
  rintro e w4 ⟨v4, rfl, hO4, h4, hof4⟩
  go_wp2
  go_ret
  refine ⟨v4, rfl, ?_, hB3.trans h4, hof.trans hof4 fun j hj => by
    rcases hown3 with ho | ho
    · exact .inl (by rw [← ho]; exact hj)
    · exact .inr (ho j hj)⟩
  have e1 : hd ++ encs10 (lines11 k) = (hd ++ l1) ++ encs10 (k.log.map entR) := by
    unfold lines11
    rw [encs10_cons, ← HL.out, List.append_assoc]; rfl
  rw [e1]
  exact hO4
theorem Kd.before {S : Nat → Prop} {g d c : Nat} {k : Kst} {x : Fk} {w w1 w2 : World} {r : Int} {e : Ending} (ho : Off S w w1) (h : Kd S g d k x c r w1 e w2) (hlt : ∀ j, S j → j < w.heap.size) : Kd S g d k x c r w e w2 := by
  obtain ⟨h1, h2, h3⟩ := h
  refine ⟨h1, h2.more (fun j hj => ?_) (Grw.lt hlt (Nat.le_trans ho.size h3.size)) (Nat.le_refl _), ho.trans h3 fun j hj => .inl hj⟩
  rcases hj with hj | hj
  · exact .inl hj
  · exact .inr ⟨Nat.le_trans ho.size hj.1, hj.2⟩
theorem safe_fresh {S : Nat → Prop} {B : Nat} {w : World} {u : Value} {bs : List UInt8} (h : OwnB B u bs w) (hS : ∀ j, S j → j < B) : Safe9 S w u bs := Safe9.of_own h fun j hj hs => by
  have h1 := (OwnB.lt h j hj).1
  have h2 := hS j hs
  omega
/-- a file to which more can be put -/
theorem kready_any (S : Nat → Prop) (g d c n : Nat) (k : Kst) (x : Fk) (w : World) (h : KB w S g d k x c) (hc : c ≤ 1000000) (hn : n ≤ 220000) (hT : Tbl w) (hS : ¬ S 0) :
    Calls Tryd.prog 38 #[.pointer (some ⟨g, 0, none⟩), .int .i64 n] w (Kd S g d k (some (ready11 k x n)) (c + 1) 0 w) := by
  have hg := h.good
  have hsl := snapB10_len h.ok.snap
  have hwl := whole11_len h.ok
  obtain ⟨T, v, c0, hP, hc0, hx, hO, hTS, hSg, hTg, hv⟩ := h.ex
  obtain ⟨A, mc, rfl⟩ := hO.slice
  obtain ⟨m, hm⟩ : ∃ m, k.log.length = m := ⟨_, rfl⟩
  rw [hm] at hO hx hv
  have x3 := hx.cell (j := 3) (v := .int .i64 k.s.ix) rfl
  have x4 := hx.cell (j := 4) (v := .int .i64 k.s.st) rfl
  have x5 := hx.cell (j := 5) (v := .string k.s.conf) rfl
  have x6 := hx.cell (j := 6) (v := .string k.s.data) rfl
  have x8 := hx.cell (j := 8) (v := .int .i64 (size11 x : Nat)) rfl
  go_enter Tryd.func38, Tryd.ntmps38
  cases x with
  | none =>
    have x80 : w.cell? ⟨g, 8, none⟩ = some (.int .i64 0) := x8
    have H := Lib.hid h
    clear x8 h hP hx
    go_wp2_with fail
    refine (snap_v k.s.ix k.s.st k.s.conf k.s.data (snapB10 k.s) w (by have := maySnp10_is H.out.ok.snap; omega) (by have := maySnp10_is H.out.ok.snap; omega) hT rfl).mono ?_
    rintro e w1 ⟨v1, rfl, hv1, h1⟩
    obtain ⟨A7, c7, rfl⟩ := own_slice hv1
    obtain ⟨q, hq⟩ : ∃ q, (snapB10 k.s).length = q := ⟨_, rfl⟩
    rw [hq] at hv1 ⊢
    have HQ := Lib.hid hq
    have hsw := kswap_any S g d c k none A7 q c7 (snapB10 k.s) w1 (H.out.below h1) hc (safe_fresh hv1 H.out.lt) (by omega) (by omega) hq.symm
    have HSW := Lib.hid hsw
    have HH1 := Lib.hid h1
    clear hsw hq h1 hv1
    go_wp2_with fail
    refine HSW.out.mono ?_
    rintro e w2 ⟨hk, _⟩
    obtain ⟨rfl, hk2⟩ := id hk
    go_wp2
    go_ret
    exact Kd.before (Off.of_below HH1.out) hk H.out.lt
  | some p =>
    obtain ⟨b, f⟩ := p
    have hbp := h.pos b f rfl
    have hbg := hg b f rfl
    obtain ⟨q, hq⟩ : ∃ q, b.length = q := ⟨_, rfl⟩
    have x80 : w.cell? ⟨g, 8, none⟩ = some (.int .i64 q) := by rw [← hq]; exact x8
    have hq1 : ((q : Int) == 0) = false := by simp; omega
    have hq2 : ¬ (q : Int) = 0 := by omega
    have hqb : (q : Int) ≤ 1048576 := by omega
    have H := Lib.hid h
    have HQ := Lib.hid hq
    clear x8 h hP
    by_cases hbig : 1048576 < b.length + n
    · have hbi : decide ((q : Int) + n > 1048576) = true := by simp; omega
      have hr : ready11 k (some (b, f)) n = (whole11 k, (whole11 k).length) := by unfold ready11; simp only; rw [if_pos hbig]
      rw [hr]
      have HBIG := Lib.hid hbig
      clear hq hbp hbg hbig hr
      -- BIG
      have HE := Lib.hid ((Ens.of_own hO).mono (M := fun j => j < w.heap.size) fun j _ hl => hl)
      have HSL := Lib.hid hsl
      have HWL := Lib.hid hwl
      have hTW : 0 < w.heap.size := cell_lt (hT 0 (by omega))
      have hgw := hx.lt
      have x1 := hx.cell (j := 1) (v := .int .i64 k.ht) rfl
      have x2 := hx.cell (j := 2) (v := .int .i64 k.hv) rfl
      have x7 := hx.cell (j := 7) (v := .slice A m mc) rfl
      clear hO hx hsl hwl
      go_wp2_with fail
      have hB : Below w.heap.size w w.drew := (Below.refl _ _).drew
      have HT := Lib.hid (show Tbl w.drew from hT)
      refine wp_region_noPanic ?_
      refine wp_region_held_drew (S := fun W => ∀ j, j < 8 → W.cell? ⟨g, j, none⟩ = w.cell? ⟨g, j, none⟩) (by kernel_rfl) ?_ (fun hHeld => ?_)
      · exact fun j hj => hB.cell (p := ⟨g, j, none⟩) hgw
      generalize w.drew = wz at *
      refine wpAnyH_take (i := 0) (oi := { dst := some 25, op := Op.move (Operand.tmp 0), type := 28, pos := "keep.go:130", after := #[], guard := none }) (v := .pointer (some ⟨g, 0, none⟩)) rfl (by kernel_rfl) (by kernel_rfl) (by kernel_rfl) (fun _ _ _ h => h) (Or.inl ⟨by rfl, fun w hSw => ?_⟩) (by assumption) ?_
      · (try dsimp only at hSw)
        go_simp
      try simp only [Act.put, List.setIfInBounds_toArray, List.set_cons_zero, List.set_cons_succ]
      refine wpAnyH_take (i := 1) (oi := { dst := some 26, op := Op.move (Operand.tmp 0), type := 28, pos := "keep.go:130", after := #[], guard := none }) (v := .pointer (some ⟨g, 0, none⟩)) rfl (by kernel_rfl) (by kernel_rfl) (by kernel_rfl) (fun _ _ _ h => h) (Or.inl ⟨by rfl, fun w hSw => ?_⟩) (by assumption) ?_
      · (try dsimp only at hSw)
        go_simp
      try simp only [Act.put, List.setIfInBounds_toArray, List.set_cons_zero, List.set_cons_succ]
      refine wpAnyH_take (i := 2) (oi := { dst := some 27, op := Op.nilCheck (Operand.tmp 26), type := 0, pos := "keep.go:130", after := #[{ on := 1, ground := Ground.data }], guard := none }) (v := .pointer (some ⟨g, 0, none⟩)) rfl (by kernel_rfl) (by kernel_rfl) (by kernel_rfl) (fun _ _ _ h => h) (Or.inl ⟨by rfl, fun w hSw => ?_⟩) (by assumption) ?_
      · (try dsimp only at hSw)
        go_simp
      try simp only [Act.put, List.setIfInBounds_toArray, List.set_cons_zero, List.set_cons_succ]
      refine wpAnyH_take (i := 3) (oi := { dst := some 28, op := Op.fieldAddr 62 (Operand.tmp 27) 1, type := 0, pos := "keep.go:130", after := #[{ on := 2, ground := Ground.data }], guard := none }) (v := .pointer (some ⟨g, 1, none⟩)) rfl (by kernel_rfl) (by kernel_rfl) (by kernel_rfl) (fun _ _ _ h => h) (Or.inl ⟨by rfl, fun w hSw => ?_⟩) (by assumption) ?_
      · (try dsimp only at hSw)
        go_simp
      try simp only [Act.put, List.setIfInBounds_toArray, List.set_cons_zero, List.set_cons_succ]
      refine wpAnyH_take (i := 4) (oi := { dst := some 29, op := Op.fieldAddr 52 (Operand.tmp 28) 1, type := 0, pos := "keep.go:130", after := #[{ on := 3, ground := Ground.data }], guard := none }) (v := .pointer (some ⟨g, 3, none⟩)) rfl (by kernel_rfl) (by kernel_rfl) (by kernel_rfl) (fun _ _ _ h => h) (Or.inl ⟨by rfl, fun w hSw => ?_⟩) (by assumption) ?_
      · (try dsimp only at hSw)
        go_simp
      try simp only [Act.put, List.setIfInBounds_toArray, List.set_cons_zero, List.set_cons_succ]
      refine wpAnyH_take (i := 5) (oi := { dst := some 30, op := Op.load 33 (Operand.tmp 29), type := 33, pos := "keep.go:130", after := #[{ on := 4, ground := Ground.data }], guard := none }) (v := .agg #[.int .i64 k.s.ix, .int .i64 k.s.st, .string k.s.conf, .string k.s.data]) rfl (by kernel_rfl) (by kernel_rfl) (by kernel_rfl) (fun _ _ _ h => h) (Or.inl ⟨by rfl, fun w hSw => ?_⟩) (by assumption) ?_
      · (try dsimp only at hSw)
        have q3 := (hSw 3 (by decide)).trans x3
        have q4 := (hSw 4 (by decide)).trans x4
        have q5 := (hSw 5 (by decide)).trans x5
        have q6 := (hSw 6 (by decide)).trans x6
        go_simp
      try simp only [Act.put, List.setIfInBounds_toArray, List.set_cons_zero, List.set_cons_succ]
      refine wpAnyH_take (i := 7) (oi := { dst := some 32, op := Op.move (Operand.tmp 0), type := 28, pos := "keep.go:130", after := #[], guard := none }) (v := .pointer (some ⟨g, 0, none⟩)) rfl (by kernel_rfl) (by kernel_rfl) (by kernel_rfl) (fun _ _ _ h => h) (Or.inl ⟨by rfl, fun w hSw => ?_⟩) (by assumption) ?_
      · (try dsimp only at hSw)
        go_simp
      try simp only [Act.put, List.setIfInBounds_toArray, List.set_cons_zero, List.set_cons_succ]
      refine wpAnyH_take (i := 8) (oi := { dst := some 33, op := Op.nilCheck (Operand.tmp 32), type := 0, pos := "keep.go:130", after := #[{ on := 7, ground := Ground.data }], guard := none }) (v := .pointer (some ⟨g, 0, none⟩)) rfl (by kernel_rfl) (by kernel_rfl) (by kernel_rfl) (fun _ _ _ h => h) (Or.inl ⟨by rfl, fun w hSw => ?_⟩) (by assumption) ?_
      · (try dsimp only at hSw)
        go_simp
      try simp only [Act.put, List.setIfInBounds_toArray, List.set_cons_zero, List.set_cons_succ]
      refine wpAnyH_take (i := 9) (oi := { dst := some 34, op := Op.fieldAddr 62 (Operand.tmp 33) 1, type := 0, pos := "keep.go:130", after := #[{ on := 8, ground := Ground.data }], guard := none }) (v := .pointer (some ⟨g, 1, none⟩)) rfl (by kernel_rfl) (by kernel_rfl) (by kernel_rfl) (fun _ _ _ h => h) (Or.inl ⟨by rfl, fun w hSw => ?_⟩) (by assumption) ?_
      · (try dsimp only at hSw)
        go_simp
      try simp only [Act.put, List.setIfInBounds_toArray, List.set_cons_zero, List.set_cons_succ]
      refine wpAnyH_take (i := 10) (oi := { dst := some 35, op := Op.load 52 (Operand.tmp 34), type := 52, pos := "keep.go:130", after := #[{ on := 9, ground := Ground.data }], guard := none }) (v := .agg #[.int .i64 k.ht, .int .i64 k.hv, .int .i64 k.s.ix, .int .i64 k.s.st, .string k.s.conf, .string k.s.data, .slice A m mc]) rfl (by kernel_rfl) (by kernel_rfl) (by kernel_rfl) (fun _ _ _ h => h) (Or.inl ⟨by rfl, fun w hSw => ?_⟩) (by assumption) ?_
      · (try dsimp only at hSw)
        have q1 := (hSw 1 (by decide)).trans x1
        have q2 := (hSw 2 (by decide)).trans x2
        have q3 := (hSw 3 (by decide)).trans x3
        have q4 := (hSw 4 (by decide)).trans x4
        have q5 := (hSw 5 (by decide)).trans x5
        have q6 := (hSw 6 (by decide)).trans x6
        have q7 := (hSw 7 (by decide)).trans x7
        go_simp
      try simp only [Act.put, List.setIfInBounds_toArray, List.set_cons_zero, List.set_cons_succ]
      refine wpAnyH_ready (rs := [6]) (by kernel_rfl) (by simp) ?_
      refine AllReadyH.cons (o := { dst := some 31, op := Op.call { callee := Callee.value (Operand.func 57), args := #[Operand.tmp 30], argTypes := #[33] }, type := 46, pos := "keep.go:130", after := #[{ on := 5, ground := Ground.data }], guard := none }) rfl (fun K hK => ?_) AllReadyH.nil
      go_simp
      go_at_call 57
      refine (snap_v k.s.ix k.s.st k.s.conf k.s.data (snapB10 k.s) _ (by have := maySnp10_is H.out.ok.snap; omega) (by have := maySnp10_is H.out.ok.snap; omega) HT.out rfl).mono ?_
      rintro e w1 ⟨v1, rfl, hv1, h1⟩
      have HT1 := Lib.hid (tbl_keep HT.out h1)
      obtain ⟨A7, c7, rfl⟩ := own_slice hv1
      obtain ⟨q7, hq7⟩ : ∃ q7, (snapB10 k.s).length = q7 := ⟨_, rfl⟩
      rw [hq7] at hv1 ⊢
      have HV1 := Lib.hid hv1
      have HQ7 := Lib.hid hq7
      have hB1 := hB.trans (h1.mono hB.size)
      clear hv1 hq7 h1
      refine hK.out _ _ ?_ (fun hHeld => ?_)
      · exact fun j hj => hB1.cell (p := ⟨g, j, none⟩) hgw
      clear hK K
      try simp only [Act.put, List.setIfInBounds_toArray, List.set_cons_zero, List.set_cons_succ]
      refine wpAnyH_ready (rs := [11]) (by kernel_rfl) (by simp) ?_
      refine AllReadyH.cons (o := { dst := some 36, op := Op.call { callee := Callee.value (Operand.func 58), args := #[Operand.tmp 31, Operand.tmp 35], argTypes := #[46, 52] }, type := 46, pos := "keep.go:130", after := #[{ on := 6, ground := Ground.data }, { on := 10, ground := Ground.data }, { on := 6, ground := Ground.chain }], guard := none }) rfl (fun K hK => ?_) AllReadyH.nil
      go_simp
      go_at_call 58
      refine (kwhole_any w.heap.size _ (snapB10 k.s) k A m mc w1 (HV1.out.down hB.size) hB1.size ((HE.out.under hB1 (Nat.le_refl _)).mono (fun j hj _ e => by have := (OwnB.lt HV1.out j e).1; have := hB.size; omega)) HT1.out hTW H.out.ok (by have := HSL.out; omega)).mono ?_
      rintro e w2 ⟨v2, rfl, hv2, h2, _⟩
      have hB2 := hB1.trans h2
      obtain ⟨A8, c8, rfl⟩ := own_slice hv2
      obtain ⟨q8, hq8⟩ : ∃ q8, (snapB10 k.s ++ encs10 (lines11 k)).length = q8 := ⟨_, rfl⟩
      rw [hq8] at hv2 ⊢
      refine hK.out _ _ ?_ (fun hHeld => ?_)
      · exact fun j hj => hB2.cell (p := ⟨g, j, none⟩) hgw
      clear hK K
      try simp only [Act.put, List.setIfInBounds_toArray, List.set_cons_zero, List.set_cons_succ]
      refine wpAnyH_ready (rs := [12]) (by kernel_rfl) (by simp) ?_
      refine AllReadyH.cons (o := { dst := some 37, op := Op.call { callee := Callee.value (Operand.func 20), args := #[Operand.tmp 25, Operand.tmp 36], argTypes := #[28, 46] }, type := 29, pos := "keep.go:130", after := #[{ on := 0, ground := Ground.data }, { on := 11, ground := Ground.data }, { on := 11, ground := Ground.chain }], guard := none }) rfl (fun K hK => ?_) AllReadyH.nil
      go_simp
      have hw8 : snapB10 k.s ++ encs10 (lines11 k) = whole11 k := rfl
      rw [hw8] at hv2 hq8
      have hsw := kswap_any S g d c k (some (b, f)) A8 q8 c8 (whole11 k) w2 (H.out.below hB2) hc (safe_fresh hv2 H.out.lt) (by have := HWL.out; omega) (by have := HWL.out; omega) hq8.symm
      go_at_call 20
      refine hsw.mono ?_
      rintro e w3 ⟨hk, hkc⟩
      obtain ⟨rfl, hk2⟩ := id hk
      have hS3 : ∀ j, j < 8 → w3.cell? ⟨g, j, none⟩ = w.cell? ⟨g, j, none⟩ := fun j hj => (hkc j hj).trans (hB2.cell (p := ⟨g, j, none⟩) hgw)
      have HK := Lib.hid (Kd.before (Off.of_below hB2) hk H.out.lt)
      clear hk hk2 hsw hv2
      refine hK.out _ _ ?_ (fun hHeld => ?_)
      · exact hS3
      clear hK K
      try simp only [Act.put, List.setIfInBounds_toArray, List.set_cons_zero, List.set_cons_succ]
      refine wpAnyH_ready (rs := [13]) (by kernel_rfl) (by simp) ?_
      refine AllReadyH.cons (o := { dst := some 4, op := Op.assign (Operand.tmp 37), type := 29, pos := "keep.go:130", after := #[{ on := 12, ground := Ground.data }, { on := 12, ground := Ground.chain }, { on := 0, ground := Ground.phase }, { on := 1, ground := Ground.phase }, { on := 2, ground := Ground.phase }, { on := 3, ground := Ground.phase }, { on := 4, ground := Ground.phase }, { on := 5, ground := Ground.phase }, { on := 6, ground := Ground.phase }, { on := 7, ground := Ground.phase }, { on := 8, ground := Ground.phase }, { on := 9, ground := Ground.phase }, { on := 10, ground := Ground.phase }, { on := 11, ground := Ground.phase }, { on := 12, ground := Ground.phase }], guard := none }) rfl (fun K hK => ?_) AllReadyH.nil
      go_simp
      refine hK.out _ _ ?_ (fun hHeld => ?_)
      · exact hS3
      clear hK K
      try simp only [Act.put, List.setIfInBounds_toArray, List.set_cons_zero, List.set_cons_succ]
      refine wpAnyH_done (by kernel_rfl) ?_ _
      refine NoPanic.normal ?_
      go_wp2
      go_ret
      exact HK.out
    · have hbi : decide ((q : Int) + n > 1048576) = false := by simp; omega
      have hbi2 : ¬ (1048576 : Int) < (q : Int) + n := by omega
      have hr : ready11 k (some (b, f)) n = (b, f) := by unfold ready11; simp only; rw [if_neg hbig]
      rw [hr]
      clear hq hbp hbg hbig hr
      go_wp2
      go_ret
      exact ⟨rfl, H.out.more (fun j hj => .inl hj) (Grw.lt H.out.lt (Nat.le_refl _)) (Nat.le_succ _), Off.refl _ _⟩
end Go.Proofs.YtbiecoifeeikpaaDoor
/-
  Package keep's add, Sync, Hard.
  There are no conditions beyond those that each lemma names.
-/
set_option linter.unusedSimpArgs false
set_option linter.unusedVariables false
namespace Go.Proofs.YtbiecoifeeikpaaDoor
open Go.RowKit Go.Deep
set_option maxRecDepth 100000

/-- a step on the disk, then the size -/
theorem kb_size {S T : Nat → Prop} {g d c c0 : Nat} {k : Kst} {x x' : Fk} {v : Value} {w w1 : World} (hok : KOk k) (hpos : ∀ b f, x' = some (b, f) → 1 ≤ b.length) (hlt : ∀ j, S j → j < w.heap.size) (hx1 : Rt w1 g 62 (kcs11 d k v (size11 x))) (hOr : OwnEn 0 v k.log w1) (hTS : ∀ j, T j → S j) (hSg : S g) (hTg : ¬ T g) (hv : ∀ j, v.ownBlock = some j → S j ∧ ¬ T j)
    (hP1 : PD w1 (Grw T w w1) d (files11 x') c0) (hc0 : c0 ≤ c) (hO1 : Off T w w1) :
    KB (w1.setCell ⟨g, 8, none⟩ (.int .i64 (size11 x' : Nat))) (Grw S w (w1.setCell ⟨g, 8, none⟩ (.int .i64 (size11 x' : Nat)))) g d k x' c ∧ Off S w (w1.setCell ⟨g, 8, none⟩ (.int .i64 (size11 x' : Nat))) := by
  have hgT : ¬ Grw T w w1 g := by
    rintro (h | h)
    · exact hTg h
    · have := hlt g hSg; omega
  have hset : Off (fun j => j = g) w1 (w1.setCell ⟨g, 8, none⟩ (.int .i64 (size11 x' : Nat))) := (Off.refl _ w1).set (.inl rfl)
  refine ⟨⟨hok, hpos, Grw.lt hlt (Nat.le_trans hO1.size hset.size), Grw T w w1, v, c0, hP1.off hset (fun j hj e => by subst e; exact hgT hj), hc0, hx1.set 8 _, hOr.off hset (fun j hj e => by subst e; exact own_ne11 keep_ne_entry hx1 hOr hj), ?_, .inl hSg, hgT, fun j hj => ⟨.inl (hv j hj).1, ?_⟩⟩, (hO1.mono (fun j hj => .inl (hTS j hj))).set (.inl hSg)⟩
  · rintro j (hj | hj)
    · exact .inl (hTS j hj)
    · exact .inr ⟨hj.1, Nat.lt_of_lt_of_le hj.2 hset.size⟩
  · rintro (h | h)
    · exact (hv j hj).2 h
    · have := hlt j (hv j hj).1
      omega
set_option maxHeartbeats 1000000 in
theorem kadd_any (S : Nat → Prop) (g d c : Nat) (k : Kst) (x : Fk) (A : Option Addr) (n q : Nat) (bs : List UInt8) (w : World) (h : KB w S g d k x c) (hc : c ≤ 900000) (hu : Safe9 S w (.slice A n q) bs) (hb : bs.length ≤ 220000) (hn : n = bs.length) (hT : Tbl w) (hS : ¬ S 0) :
    Calls Tryd.prog 26 #[.pointer (some ⟨g, 0, none⟩), .slice A n q] w (Kd S g d k (some (add11 k x bs)) (c + 2) 0 w) := by
  have hrd := kready_any S g d c n k x w h (by omega) (by omega) hT hS
  obtain ⟨⟨b, f⟩, hbf⟩ : ∃ p, ready11 k x n = p := ⟨_, rfl⟩
  have hadd : add11 k x bs = (b ++ bs, f) := by unfold add11; rw [← hn, hbf]
  rw [hbf] at hrd
  rw [hadd]
  have hlen : b.length + n ≤ 1048576 := by
    have hg := h.good
    have h1 := whole11_len h.ok
    have h2 := snapB10_len h.ok.snap
    unfold ready11 at hbf
    cases x with
    | none => injection hbf with e _; subst e; omega
    | some p =>
      obtain ⟨b', f'⟩ := p
      have := hg b' f' rfl
      simp only at hbf
      split at hbf
      · injection hbf with e _; subst e; omega
      · injection hbf with e _; subst e; omega
  have hlt := h.lt
  have HR := Lib.hid hrd
  have HN := Lib.hid hn
  have HL := Lib.hid hlen
  have hnb : n ≤ 220000 := by omega
  clear hrd hn hbf hadd h hlen
  go_enter Tryd.func26, Tryd.ntmps26
  go_wp2_with fail
  refine HR.out.mono ?_
  rintro e w1 ⟨rfl, hK1, hO1⟩
  obtain ⟨hok, hpos, hlt1, T, v, c0, hP, hc0, hx, hO, hTS, hSg, hTg, hv⟩ := hK1
  have hu1 := hu.then_ hO1
  have happ := app9_disk T d (files11 (some (b, f))) c0 stateN (.slice A n q) bs w1 hP stateN_le (by omega) (files_len _) (hu1.less hTS) (by omega)
  rw [app11 (by rw [← HN.out]; exact HL.out)] at happ
  have HA := Lib.hid happ
  have HX := Lib.hid hx
  have HO := Lib.hid hO
  have x0 := hx.cell (j := 0) (v := .pointer (some ⟨d, 0, none⟩)) rfl
  have hgw := hx.lt
  clear happ hx hO hP hu1
  go_wp2_with fail
  refine HA.out.mono ?_
  rintro e w2 ⟨rfl, hP2, hO2⟩
  have hx2 : Rt w2 g 62 (kcs11 d k v (size11 (some (b, f)))) := (hO2.block g hgw hTg).trans HX.out
  have hOr2 := HO.out.off hO2 (fun j hj => (hv j hj).2)
  obtain ⟨m, hm⟩ : ∃ m, b.length = m := ⟨_, rfl⟩
  have x8 : w2.cell? ⟨g, 8, none⟩ = some (.int .i64 m) := by rw [← hm]; exact hx2.cell (j := 8) rfl
  have f8 := hx2.frz 8
  have hmn : m + n ≤ 1048576 := by have := HL.out; omega
  have HM := Lib.hid hm
  have HX2 := Lib.hid hx2
  clear hm hx2 HX x0
  go_wp2
  go_ret
  have hs : (.int .i64 ((m : Int) + n) : Value) = .int .i64 ((size11 (some (b ++ bs, f)) : Nat) : Int) := by
    show _ = Value.int .i64 (((b ++ bs).length : Nat) : Int)
    rw [List.length_append, HM.out, ← HN.out]; rfl
  rw [hs]
  have h9 := kb_size (c := c + 2) (x' := some (b ++ bs, f)) hok (fun b' f' e => by injection e with e; injection e with e _; subst e; have := hpos b f rfl; rw [List.length_append]; omega) hlt1 HX2.out hOr2 hTS hSg hTg hv hP2 (by omega) hO2
  exact Kd.then_ hO1 ⟨rfl, h9.1, h9.2⟩ hlt
set_option maxHeartbeats 1000000 in
theorem ksync_any (S : Nat → Prop) (g d c : Nat) (k : Kst) (x : Fk) (w : World) (h : KB w S g d k x c) (hc : c ≤ 900000) (hT : Tbl w) (hS : ¬ S 0) :
    Calls Tryd.prog 17 #[.pointer (some ⟨g, 0, none⟩)] w (Kd S g d k (some (sync11 k x)) (c + 2) 0 w) := by
  have hrd := kready_any S g d c 0 k x w h (by omega) (by omega) hT hS
  obtain ⟨⟨b, f⟩, hbf⟩ : ∃ p, ready11 k x 0 = p := ⟨_, rfl⟩
  have hsy : sync11 k x = (b, b.length) := by unfold sync11; rw [hbf]
  rw [hbf] at hrd
  rw [hsy]
  have hlt := h.lt
  have HR := Lib.hid hrd
  clear hrd hbf hsy h
  go_enter Tryd.func17, Tryd.ntmps17
  go_wp2_with fail
  refine HR.out.mono ?_
  rintro e w1 ⟨rfl, hK1, hO1⟩
  obtain ⟨hok, hpos, hlt1, T, v, c0, hP, hc0, hx, hO, hTS, hSg, hTg, hv⟩ := hK1
  have hsn := sync9_disk T d (files11 (some (b, f))) c0 stateN w1 hP stateN_le (by omega) (files_len _)
  rw [sync11_is] at hsn
  have HA := Lib.hid hsn
  have HX := Lib.hid hx
  have HO := Lib.hid hO
  have x0 := hx.cell (j := 0) (v := .pointer (some ⟨d, 0, none⟩)) rfl
  have hgw := hx.lt
  clear hsn hx hO hP
  go_wp2_with fail
  refine HA.out.mono ?_
  rintro e w2 ⟨rfl, hP2, hO2⟩
  have hx2 : Rt w2 g 62 (kcs11 d k v (size11 (some (b, f)))) := (hO2.block g hgw hTg).trans HX.out
  have hOr2 := HO.out.off hO2 (fun j hj => (hv j hj).2)
  clear x0 HX
  go_wp2
  go_ret
  refine Kd.then_ hO1 ⟨rfl, ⟨hok, fun b' f' e => by injection e with e; injection e with e _; subst e; exact hpos b f rfl, Grw.lt hlt1 hO2.size, Grw T w1 w2, v, c0 + 1, hP2, by omega, hx2, hOr2, ?_, .inl hSg, ?_, fun j hj => ⟨.inl (hv j hj).1, ?_⟩⟩, hO2.mono (fun j hj => .inl (hTS j hj))⟩ hlt
  · rintro j (hj | hj)
    · exact .inl (hTS j hj)
    · exact .inr hj
  · rintro (h | h)
    · exact hTg h
    · omega
  · rintro (h | h)
    · exact (hv j hj).2 h
    · have := hlt1 j (hv j hj).1
      omega
end Go.Proofs.YtbiecoifeeikpaaDoor
/-
  What may not be is encoded as nil; package keep's Hard.
  There are no conditions beyond those that each lemma names.
-/
set_option linter.unusedSimpArgs false
set_option linter.unusedVariables false
namespace Go.Proofs.YtbiecoifeeikpaaDoor
open Go.RowKit Go.Deep
set_option maxRecDepth 100000

set_option maxHeartbeats 2000000 in
theorem wenc11_nil (r : Rcd) (w : World) (hs : r.e.data.size ≤ 1050000) (hm : may10 r = false) : Calls Tryd.prog 30 #[r.val] w fun e w' => e = .returned (.slice none 0 0) ∧ Below w.heap.size w w' := by
  have hmay := fun W => wmay10_any r W hs
  simp only [hm] at hmay
  clear hm
  obtain ⟨hd, ht, hv, ⟨ix, et, kd, dt⟩⟩ := r
  unfold Rcd.val at *
  simp only at *
  obtain ⟨W0, hW0⟩ : ∃ W0, w.alloc (.cells #[.bool hd, .int .i64 ht, .int .i64 hv, .int .i64 ix, .int .i64 et, .int .i64 kd, .string dt] 76) = W0 := ⟨_, rfl⟩
  have hb : Below w.heap.size w W0 := by rw [← hW0]; exact below_one _ _
  have hlt : w.heap.size < W0.heap.size := by rw [← hW0]; simp
  have d0 : W0.cell? ⟨w.heap.size, 0, none⟩ = some (.bool hd) := by rw [← hW0]; exact new_cell10 rfl
  have d1 : W0.cell? ⟨w.heap.size, 1, none⟩ = some (.int .i64 ht) := by rw [← hW0]; exact new_cell10 rfl
  have d2 : W0.cell? ⟨w.heap.size, 2, none⟩ = some (.int .i64 hv) := by rw [← hW0]; exact new_cell10 rfl
  have d3 : W0.cell? ⟨w.heap.size, 3, none⟩ = some (.int .i64 ix) := by rw [← hW0]; exact new_cell10 rfl
  have d4 : W0.cell? ⟨w.heap.size, 4, none⟩ = some (.int .i64 et) := by rw [← hW0]; exact new_cell10 rfl
  have d5 : W0.cell? ⟨w.heap.size, 5, none⟩ = some (.int .i64 kd) := by rw [← hW0]; exact new_cell10 rfl
  have d6 : W0.cell? ⟨w.heap.size, 6, none⟩ = some (.string dt) := by rw [← hW0]; exact new_cell10 rfl
  go_enter Tryd.func30, Tryd.ntmps30
  go_wp2_with fail
  refine (hmay _).mono ?_
  rintro e k1 ⟨rfl, h⟩
  have HB := Lib.hid (hb.trans (h.mono hb.size))
  have lt1 : w.heap.size < k1.heap.size := Nat.lt_of_lt_of_le hlt h.size
  replace d0 := (h.cell (p := ⟨w.heap.size, 0, none⟩) hlt).trans d0
  replace d1 := (h.cell (p := ⟨w.heap.size, 1, none⟩) hlt).trans d1
  replace d2 := (h.cell (p := ⟨w.heap.size, 2, none⟩) hlt).trans d2
  replace d3 := (h.cell (p := ⟨w.heap.size, 3, none⟩) hlt).trans d3
  replace d4 := (h.cell (p := ⟨w.heap.size, 4, none⟩) hlt).trans d4
  replace d5 := (h.cell (p := ⟨w.heap.size, 5, none⟩) hlt).trans d5
  replace d6 := (h.cell (p := ⟨w.heap.size, 6, none⟩) hlt).trans d6
  clear h hb hlt hW0 hmay
  go_wp2
  go_ret
  exact ⟨rfl, HB.out⟩
set_option maxHeartbeats 2000000 in
theorem wsnap11_nil (s : Snp) (w : World) (hc : s.conf.size ≤ 1050000) (hs : s.data.size ≤ 1050000) (hm : maySnp10 s = false) : Calls Tryd.prog 57 #[s.val] w fun e w' => e = .returned (.slice none 0 0) ∧ Below w.heap.size w w' := by
  have hmay := fun W => wmayHead s (s.data.size : Int) W hc
  rw [mayHead_snap, hm] at hmay
  clear hm
  obtain ⟨ix, st, cf, dt⟩ := s
  unfold Snp.val at *
  simp only at *
  obtain ⟨W0, hW0⟩ : ∃ W0, w.alloc (.cells #[.int .i64 ix, .int .i64 st, .string cf, .string dt] 33) = W0 := ⟨_, rfl⟩
  have hb : Below w.heap.size w W0 := by rw [← hW0]; exact below_one _ _
  have d0 : W0.cell? ⟨w.heap.size, 0, none⟩ = some (.int .i64 ix) := by rw [← hW0]; exact new_cell10 rfl
  have d1 : W0.cell? ⟨w.heap.size, 1, none⟩ = some (.int .i64 st) := by rw [← hW0]; exact new_cell10 rfl
  have d2 : W0.cell? ⟨w.heap.size, 2, none⟩ = some (.string cf) := by rw [← hW0]; exact new_cell10 rfl
  have d3 : W0.cell? ⟨w.heap.size, 3, none⟩ = some (.string dt) := by rw [← hW0]; exact new_cell10 rfl
  go_enter Tryd.func57, Tryd.ntmps57
  go_wp2_with fail
  refine (hmay _).mono ?_
  rintro e k1 ⟨rfl, h⟩
  have HB := Lib.hid (hb.trans (h.mono hb.size))
  clear h hb hW0 d0 d1 d2 d3
  go_wp2
  go_ret
  exact ⟨rfl, HB.out⟩
theorem own_some {B : Nat} {A : Option Addr} {n c : Nat} {l : List UInt8} {w : World} (h : OwnB B (.slice A n c) l w) (hl : 1 ≤ l.length) : ∃ g, A = some ⟨g, 0, Option.none⟩ := by
  rcases h.2 with ⟨_, h0⟩ | ⟨g, c', cur, hv, _⟩
  · omega
  · injection hv with e1; exact ⟨g, e1⟩
theorem KB.setH {w : World} {S : Nat → Prop} {g d c : Nat} {k : Kst} {x : Fk} (h : KB w S g d k x c) (t v : Int) (hm : mayHard10 t v = true) : KB ((w.setCell ⟨g, 1, none⟩ (.int .i64 t)).setCell ⟨g, 2, none⟩ (.int .i64 v)) S g d ⟨t, v, k.s, k.log⟩ x c := by
  obtain ⟨h1, h2, h3, T, u, c0, h4, h5, h6, h7, h8, h9, h10, h11⟩ := h
  have o1 : Off (fun j => j = g) w (w.setCell ⟨g, 1, none⟩ (.int .i64 t)) := (Off.refl _ w).set (.inl rfl)
  have o2 : Off (fun j => j = g) w ((w.setCell ⟨g, 1, none⟩ (.int .i64 t)).setCell ⟨g, 2, none⟩ (.int .i64 v)) := o1.set (.inl rfl)
  refine ⟨⟨hm, h1.snap, h1.ents, h1.few⟩, h2, fun j hj => Nat.lt_of_lt_of_le (h3 j hj) o2.size, T, u, c0, h4.off o2 (fun j hj e => by subst e; exact h10 hj), h5, (h6.set 1 (.int .i64 t)).set 2 (.int .i64 v), h7.off o2 (fun j hj e => by subst e; exact own_ne11 keep_ne_entry h6 h7 hj), h8, h9, h10, h11⟩
def hardF (k : Kst) (x : Fk) (t v : Int) : Fk := if mayHard10 t v = true then some (add11 k x (encR10 (hardR t v))) else x
set_option maxHeartbeats 1000000 in
theorem khard_any (S : Nat → Prop) (g d c : Nat) (k : Kst) (x : Fk) (t v : Int) (w : World) (h : KB w S g d k x c) (hc : c ≤ 900000) (hT : Tbl w) (hS : ¬ S 0) :
    Calls Tryd.prog 11 #[.pointer (some ⟨g, 0, none⟩), .agg #[.int .i64 t, .int .i64 v]] w (Kd S g d (hard11 k t v).2 (hardF k x t v) (c + 2) (hard11 k t v).1 w) := by
  have hlt := h.lt
  have ke := fun w A n c => Lib.run_eql_slice_nil (P := Tryd.prog) w 46 5 A n c 0 0 Tryd.underlying46
  obtain ⟨m, hm⟩ : ∃ m, mayHard10 t v = m := ⟨_, rfl⟩
  have hmr : may10 ⟨true, t, v, ⟨0, 0, 0, ByteArray.empty⟩⟩ = m := by
    rw [← hm]; unfold may10 eqEnt10; simp [noEnt]
  obtain ⟨b, hb⟩ : ∃ b, w.heap.size = b := ⟨_, rfl⟩
  obtain ⟨W, hW⟩ : ∃ W, w.alloc (.cells #[.int .i64 t, .int .i64 v] 24) = W := ⟨_, rfl⟩
  have h0 : Below w.heap.size w W := by rw [← hW]; exact below_new _ _
  have hx : Rt W b 24 [.int .i64 t, .int .i64 v] := by rw [← hW, ← hb]; exact Rt.new _ _ _
  have hKW := h.below h0
  have hTW := tbl_keep hT h0
  have b0 := hx.cell (j := 0) rfl
  have b1 := hx.cell (j := 1) rfl
  have hbl := hx.lt
  have H := Lib.hid hKW
  have HT := Lib.hid hTW
  clear hKW hTW hT h
  cases m with
  | false =>
    have e1 : hard11 k t v = (1, k) := by unfold hard11; rw [if_neg (by rw [hm]; simp)]
    have e2 : hardF k x t v = x := by unfold hardF; rw [if_neg (by rw [hm]; simp)]
    rw [e1, e2]
    have hen := wenc11_nil ⟨true, t, v, ⟨0, 0, 0, ByteArray.empty⟩⟩ W (by show ByteArray.empty.size ≤ _; decide) hmr
    have HE := Lib.hid hen
    clear hen hmr hm
    go_enter Tryd.func11, Tryd.ntmps11
    go_wp2_with fail
    refine HE.out.mono ?_
    rintro e w1 ⟨rfl, h1⟩
    go_wp2
    go_ret
    refine Kd.before (Off.of_below (h0.trans (h1.mono h0.size))) ⟨rfl, (H.out.below h1).more (fun j hj => .inl hj) (Grw.lt (H.out.below h1).lt (Nat.le_refl _)) (by omega), Off.refl _ _⟩ hlt
  | true =>
    have e1 : hard11 k t v = (0, ⟨t, v, k.s, k.log⟩) := by unfold hard11; rw [if_pos hm]
    have e2 : hardF k x t v = some (add11 k x (encR10 (hardR t v))) := by unfold hardF; rw [if_pos hm]
    rw [e1, e2]
    obtain ⟨l, hl⟩ : ∃ l, encR10 ⟨true, t, v, ⟨0, 0, 0, ByteArray.empty⟩⟩ = l := ⟨_, rfl⟩
    have hll := enc10_len hmr
    rw [hl] at hll
    have e3 : encR10 (hardR t v) = l := hl
    rw [e3]
    have HL := Lib.hid hl
    have HM := Lib.hid hm
    clear hl e3 e2 e1 hmr hm
    go_enter Tryd.func11, Tryd.ntmps11
    go_wp2_with fail
    refine (wenc_v true t v 0 0 0 ByteArray.empty l W (by decide) HT.out HL.out).mono ?_
    rintro e w1 ⟨v1, rfl, hv1, h1⟩
    obtain ⟨A7, c7, rfl⟩ := own_slice hv1
    obtain ⟨g7, rfl⟩ := own_some hv1 (by omega)
    obtain ⟨q7, hq7⟩ : ∃ q7, l.length = q7 := ⟨_, rfl⟩
    rw [hq7] at hv1 ⊢
    have hK1 := H.out.below h1
    have had := kadd_any S g d c k x (some ⟨g7, 0, none⟩) q7 c7 l w1 hK1 hc (safe_fresh hv1 H.out.lt) (by omega) hq7.symm (tbl_keep HT.out h1) hS
    have HA := Lib.hid had
    replace b0 := (h1.cell (p := ⟨b, 0, none⟩) hbl).trans b0
    replace b1 := (h1.cell (p := ⟨b, 1, none⟩) hbl).trans b1
    have hbl1 : b < w1.heap.size := Nat.lt_of_lt_of_le hbl h1.size
    have hSb : ¬ S b := fun e => by have := hlt b e; omega
    have HO1 := Lib.hid (Off.of_below (S := S) (h0.trans (h1.mono h0.size)))
    clear had hq7 hv1 h1 h0
    go_wp2_with fail
    refine HA.out.mono ?_
    rintro e w2 ⟨rfl, hK2, hO2⟩
    have b2 := (hO2.cell (p := ⟨b, 0, none⟩) hbl1 hSb).trans b0
    have b3 := (hO2.cell (p := ⟨b, 1, none⟩) hbl1 hSb).trans b1
    obtain ⟨T2, v2, c2, _, _, hx2, _, _, hSg, _⟩ := hK2.ex
    have d1 := hx2.cell (j := 1) (v := .int .i64 k.ht) rfl
    have d2 := hx2.cell (j := 2) (v := .int .i64 k.hv) rfl
    have f1 := hx2.frz 1
    have f2 := hx2.frz 2
    have hKH := hK2.setH t v HM.out
    have hset : Off (fun j => j = g) w2 ((w2.setCell ⟨g, 1, none⟩ (.int .i64 t)).setCell ⟨g, 2, none⟩ (.int .i64 v)) := ((Off.refl (fun j => j = g) w2).set (.inl rfl)).set (.inl rfl)
    have HK := Lib.hid (And.intro hKH (And.intro hset hK2.lt))
    have hSg0 : S g := by
      obtain ⟨_, _, _, _, _, _, _, _, h9, _⟩ := hK1.ex
      exact h9
    clear hx2 hKH hset hK2 b0 b1
    go_wp2
    go_ret
    obtain ⟨i1, i2, i3⟩ := HK.out
    refine Kd.before HO1.out ⟨rfl, i1.more (fun j hj => ?_) (Grw.lt hK1.lt (Nat.le_trans hO2.size i2.size)) (Nat.le_refl _), hO2.trans i2 (fun j hj => by subst hj; exact .inl hSg0)⟩ hlt
    rcases hj with hj | hj
    · exact .inl hj
    · exact .inr ⟨hj.1, Nat.lt_of_lt_of_le hj.2 i2.size⟩
end Go.Proofs.YtbiecoifeeikpaaDoor
/-
  Package keep's Write.
  There are no conditions beyond those that each lemma names.
-/
set_option linter.unusedSimpArgs false
set_option linter.unusedVariables false
namespace Go.Proofs.YtbiecoifeeikpaaDoor
open Go.RowKit Go.Deep
set_option maxRecDepth 100000

def writeF (k : Kst) (x : Fk) (l : List Ent) : Fk := if l ≠ [] ∧ (write11 k l).1 = 0 then some (add11 k x (encs10 (l.map entR))) else x
/-- entries put into a keep's log -/
theorem KB.putL {w w' : World} {S : Nat → Prop} {g d c : Nat} {k' : Kst} {x : Fk} {T : Nat → Prop} {v v' : Value} {c0 : Nat} (hpos : ∀ b f, x = some (b, f) → 1 ≤ b.length) (hlt : ∀ j, S j → j < w.heap.size) (hP : PD w T d (files11 x) c0) (hc : c0 ≤ c) (hTS : ∀ j, T j → S j) (hSg : S g) (hTg : ¬ T g) (hv : ∀ j, v.ownBlock = some j → S j ∧ ¬ T j)
    (hk' : KOk k') (hx' : Rt w' g 62 (kcs11 d k' v' (size11 x))) (hO' : OwnEn 0 v' k'.log w') (hown : v'.ownBlock = v.ownBlock ∨ ∀ j, v'.ownBlock = some j → w.heap.size ≤ j) (ho : Off (fun j => j = g ∨ v.ownBlock = some j) w w') : KB w' (Grw S w w') g d k' x c ∧ Off S w w' := by
  refine ⟨⟨hk', hpos, Grw.lt hlt ho.size, T, v', c0, hP.off ho (fun j hj e => ?_), hc, hx', hO', fun j hj => .inl (hTS j hj), .inl hSg, hTg, fun j hj => ?_⟩, ho.mono fun j hj => ?_⟩
  · rcases e with e | e
    · subst e; exact hTg hj
    · exact (hv j e).2 hj
  · rcases hown with h | h
    · rw [h] at hj; exact ⟨.inl (hv j hj).1, (hv j hj).2⟩
    · have h1 := h j hj
      have h2 := (OwnEn.lt hO' j hj).2
      exact ⟨.inr ⟨h1, h2⟩, fun e => by have := hlt j (hTS j e); omega⟩
  · rcases hj with hj | hj
    · subst hj; exact .inl hSg
    · exact .inl (hv j hj).1
set_option maxHeartbeats 1000000 in
theorem kwrite_any (S : Nat → Prop) (g d c : Nat) (k : Kst) (x : Fk) (A : Option Addr) (n q : Nat) (l : List Ent) (w : World) (h : KB w S g d k x c) (hc : c ≤ 900000) (hE : Ens (fun j => ¬ S j) w (.slice A n q) l) (hl : l.length ≤ 80) (hd : ∀ e ∈ l, e.data.size ≤ 1050000) (hib : ∀ e ∈ l, -9223372036854775808 ≤ e.ix ∧ e.ix ≤ 9223372036854775807) (hT : Tbl w) (hS : ¬ S 0) :
    Calls Tryd.prog 10 #[.pointer (some ⟨g, 0, none⟩), .slice A n q] w (Kd S g d (write11 k l).2 (writeF k x l) (c + 2) (write11 k l).1 w) := by
  have hlt := h.lt
  have hnl := hE.len.1
  by_cases h0 : n = 0
  · have hl0 : l = [] := List.eq_nil_of_length_eq_zero (by omega)
    subst hl0; subst h0
    have e2 : writeF k x [] = x := by unfold writeF; rw [if_neg (by simp)]
    rw [e2]
    show Calls _ _ _ _ (Kd S g d k x (c + 2) 0 w)
    have H := Lib.hid h
    clear h hE hnl e2
    go_enter Tryd.func10, Tryd.ntmps10
    go_wp2
    go_ret
    exact ⟨rfl, H.out.more (fun j hj => .inl hj) (Grw.lt hlt (Nat.le_refl _)) (by omega), Off.refl _ _⟩
  · have hl0 : 0 < l.length := by omega
    have hnb : ((n : Int) == 0) = false := by simp; omega
    obtain ⟨a, rfl⟩ : ∃ a, A = some a := by
      obtain ⟨g1, o1, e, _⟩ := hE.at_ 0 hl0
      exact ⟨_, e⟩
    obtain ⟨T, v, c0, hP, hc0, hx, hO, hTS, hSg, hTg, hv⟩ := h.ex
    obtain ⟨A2, c2, rfl⟩ := hO.slice
    obtain ⟨m, hm⟩ : ∃ m, k.log.length = m := ⟨_, rfl⟩
    rw [hm] at hO hx hv
    have hix := maySnp10_is h.ok.snap
    have hfew := h.ok.few
    obtain ⟨i0, hi0⟩ : ∃ i0, (l[0]'hl0).ix = i0 := ⟨_, rfl⟩
    have hb0 := hib l[0] (List.getElem_mem hl0)
    rw [hi0] at hb0
    obtain ⟨⟨r, k'⟩, hr⟩ : ∃ p, write11 k l = p := ⟨_, rfl⟩
    have hck := kcheck_any g 1 k l A2 m c2 a n q _ w (hx.cell (j := 3) rfl) (hx.cell (j := 7) rfl) hm.symm hE (by omega) i0 hl0 hi0 hb0 ⟨hix.1, hix.2.1⟩ (by omega) (by omega) hd r (by rw [hr])
    have HC := Lib.hid hck
    have H := Lib.hid h
    have HE := Lib.hid hE
    have HR := Lib.hid hr
    have HNL := Lib.hid hnl
    have HI0 := Lib.hid hi0
    have hlne : l ≠ [] := fun e => by rw [e] at hl0; simp at hl0
    rw [hr]
    by_cases hr0 : r = 0
    · subst hr0
      have e2 : writeF k x l = some (add11 k x (encs10 (l.map entR))) := by unfold writeF; rw [if_pos ⟨hlne, by rw [hr]⟩]
      rw [e2]
      have HOK' := Lib.hid (write11_ok h.ok hr)
      have hp := hr
      rw [write11_1 hl0 hi0] at hp
      have hfit : fits11 k i0 = true ∧ k' = put11 k i0 l := by
        split at hp
        · rename_i hq
          split at hp
          · simp at hp
          · simp only [Prod.mk.injEq, true_and] at hp; exact ⟨hq.1, hp.symm⟩
        · simp at hp
      have HF := Lib.hid hfit
      have HTW := Lib.hid hT
      have hel := encs10_len (l.map entR)
      rw [List.length_map] at hel
      have HEL := Lib.hid hel
      have HEb := Lib.hid (hE.mono (M := fun j => j < w.heap.size) fun j _ hl => hl)
      have hst : 0 < w.heap.size := cell_lt (hT 0 (by omega))
      clear hck h hE hr hnl hi0 hp hfit hP hx hO hv hm hel hix
      go_enter Tryd.func10, Tryd.ntmps10
      go_wp2_with fail
      refine HC.out.mono ?_
      rintro e w1 ⟨rfl, h1⟩
      go_wp2_with fail
      refine (kaddE_any w.heap.size _ n q l w1 (.slice none 0 0) ((HEb.out.below h1).mono (fun j _ _ e => by cases e)) h1.size (by omega) hd [] (ownB_nil _ _) (by simp) (tbl_keep HTW.out h1) hst).mono ?_
      rintro e w2 ⟨v2, rfl, hv2, h2, _⟩
      rw [List.nil_append] at hv2
      obtain ⟨A7, c7, rfl⟩ := own_slice hv2
      obtain ⟨q7, hq7⟩ : ∃ q7, (encs10 (l.map entR)).length = q7 := ⟨_, rfl⟩
      rw [hq7] at hv2 ⊢
      have hb12 := h1.trans h2
      have hK2 := H.out.below hb12
      have had := kadd_any S g d c k x A7 q7 c7 (encs10 (l.map entR)) w2 hK2 hc (safe_fresh hv2 hlt) (by have := HEL.out; omega) hq7.symm (tbl_keep HTW.out hb12) hS
      have HA := Lib.hid had
      have HB12 := Lib.hid hb12
      have HE2 := Lib.hid (HE.out.below hb12)
      have HK2 := Lib.hid hK2
      clear had hq7 hv2 h1 h2 hK2
      go_wp2_with fail
      refine HA.out.mono ?_
      rintro e w3 ⟨rfl, hK3, hO3⟩
      have hE3 := HE2.out.off hO3
      obtain ⟨T3, v3, c3, hP3, hc3, hx3, hOr3, hTS3, hSg3, hTg3, hv3⟩ := hK3.ex
      have hK3p := hK3.pos
      have hK3l := hK3.lt
      obtain ⟨A4, c4, rfl⟩ := hOr3.slice
      obtain ⟨m4, hm4⟩ : ∃ m4, k.log.length = m4 := ⟨_, rfl⟩
      rw [hm4] at hOr3 hx3 hv3
      have HX3 := Lib.hid hx3
      have HOr3 := Lib.hid hOr3
      clear hK3 hx3 hOr3
      -- REGION
      go_wp2_with fail
      replace hE3 : Ens _ w3.drew _ _ := hE3
      replace HX3 := Lib.hid (show Rt w3.drew _ _ _ from HX3.out)
      replace HOr3 := Lib.hid (show OwnEn 0 _ _ w3.drew from HOr3.out)
      replace hO3 : Off S w2 w3.drew := hO3.drew
      replace hP3 : PD w3.drew _ _ _ _ := hP3
      replace hK3l : ∀ j, Grw S w2 w3 j → j < w3.drew.heap.size := hK3l
      have hsz3 : w3.drew.heap.size = w3.heap.size := rfl
      refine wp_region_noPanic ?_
      refine wp_region_held_drew (S := fun W => True) (by kernel_rfl) ?_ (fun hHeld => ?_)
      · exact trivial
      generalize w3.drew = wz at *
      refine wpAnyH_take (i := 0) (oi := { dst := some 27, op := Op.move (Operand.tmp 0), type := 28, pos := "keep.go:79", after := #[], guard := none }) (v := .pointer (some ⟨g, 0, none⟩)) rfl (by kernel_rfl) (by kernel_rfl) (by kernel_rfl) (fun _ _ _ h => h) (Or.inl ⟨by rfl, fun w hSw => ?_⟩) (by assumption) ?_
      · (try dsimp only at hSw)
        go_simp
      try simp only [Act.put, List.setIfInBounds_toArray, List.set_cons_zero, List.set_cons_succ]
      refine wpAnyH_take (i := 1) (oi := { dst := some 28, op := Op.nilCheck (Operand.tmp 27), type := 0, pos := "keep.go:79", after := #[{ on := 0, ground := Ground.data }], guard := none }) (v := .pointer (some ⟨g, 0, none⟩)) rfl (by kernel_rfl) (by kernel_rfl) (by kernel_rfl) (fun _ _ _ h => h) (Or.inl ⟨by rfl, fun w hSw => ?_⟩) (by assumption) ?_
      · (try dsimp only at hSw)
        go_simp
      try simp only [Act.put, List.setIfInBounds_toArray, List.set_cons_zero, List.set_cons_succ]
      refine wpAnyH_take (i := 2) (oi := { dst := some 29, op := Op.fieldAddr 62 (Operand.tmp 28) 1, type := 0, pos := "keep.go:79", after := #[{ on := 1, ground := Ground.data }], guard := none }) (v := .pointer (some ⟨g, 1, none⟩)) rfl (by kernel_rfl) (by kernel_rfl) (by kernel_rfl) (fun _ _ _ h => h) (Or.inl ⟨by rfl, fun w hSw => ?_⟩) (by assumption) ?_
      · (try dsimp only at hSw)
        go_simp
      try simp only [Act.put, List.setIfInBounds_toArray, List.set_cons_zero, List.set_cons_succ]
      refine wpAnyH_take (i := 3) (oi := { dst := some 30, op := Op.move (Operand.tmp 1), type := 22, pos := "keep.go:79", after := #[], guard := none }) (v := .slice (some a) n q) rfl (by kernel_rfl) (by kernel_rfl) (by kernel_rfl) (fun _ _ _ h => h) (Or.inl ⟨by rfl, fun w hSw => ?_⟩) (by assumption) ?_
      · (try dsimp only at hSw)
        go_simp
      try simp only [Act.put, List.setIfInBounds_toArray, List.set_cons_zero, List.set_cons_succ]
      refine wpAnyH_ready (rs := [4]) (by kernel_rfl) (by simp) ?_
      refine AllReadyH.cons (o := { dst := some 31, op := Op.call { callee := Callee.value (Operand.func 29), args := #[Operand.tmp 30], argTypes := #[22] }, type := 22, pos := "keep.go:79", after := #[{ on := 3, ground := Ground.data }], guard := none }) rfl (fun K hK => ?_) AllReadyH.nil
      go_simp
      go_at_call 29
      refine (kcopyE_any _ _ n q l wz hE3 (by omega) hd).mono ?_
      rintro e w4 ⟨v4, rfl, hv4, h4⟩
      obtain ⟨A5, c5, rfl⟩ := hv4.slice
      obtain ⟨g5, o5, rfl, hE5⟩ : ∃ g5 o5, A5 = some ⟨g5, o5, Option.none⟩ ∧ Ens (fun j => (Value.slice A5 l.length c5).ownBlock = some j) w4 (.slice A5 l.length c5) l := by
        have hE4 := Ens.of_own hv4
        obtain ⟨g5, o5, e5, _⟩ := hE4.at_ 0 hl0
        exact ⟨g5, o5, e5, hE4⟩
      obtain ⟨n5, hn5⟩ : ∃ n5, l.length = n5 := ⟨_, rfl⟩
      rw [hn5] at hE5 ⊢
      have hpt := kput_any 62 g 1 _ k i0 l A4 m4 c4 ⟨g5, o5, none⟩ n5 c5 _ w4 keep_ne_entry (HX3.out.below h4) rfl rfl (HOr3.out.below h4) hE5 (by omega) (by rw [List.getElem?_eq_getElem hl0]; exact congrArg some HI0.out) HF.out.1 (by rw [hm4]; omega) (by have := maySnp10_is H.out.ok.snap; exact ⟨this.1, this.2.1⟩)
      have HP := Lib.hid hpt
      clear hpt hn5 hv4 hE5 hE3
      refine hK.out _ _ ?_ (fun hHeld => ?_)
      · exact trivial
      clear hK K
      try simp only [Act.put, List.setIfInBounds_toArray, List.set_cons_zero, List.set_cons_succ]
      refine wpAnyH_ready (rs := [5]) (by kernel_rfl) (by simp) ?_
      refine AllReadyH.cons (o := { dst := some 32, op := Op.call { callee := Callee.value (Operand.func 28), args := #[Operand.tmp 29, Operand.tmp 31], argTypes := #[52, 22] }, type := 0, pos := "keep.go:79", after := #[{ on := 2, ground := Ground.data }, { on := 4, ground := Ground.data }, { on := 4, ground := Ground.chain }], guard := none }) rfl (fun K hK => ?_) AllReadyH.nil
      go_simp
      go_at_call 28
      refine HP.out.mono ?_
      rintro e w5 ⟨v5, rfl, hx5, hOr5, hown5, hO5⟩
      refine hK.out _ _ ?_ (fun hHeld => ?_)
      · exact trivial
      clear hK K
      try simp only [Act.put, List.setIfInBounds_toArray, List.set_cons_zero, List.set_cons_succ]
      refine wpAnyH_done (by kernel_rfl) ?_ _
      refine NoPanic.normal ?_
      go_wp2
      go_ret
      have hown6 : v5.ownBlock = (Value.slice A4 m4 c4).ownBlock ∨ ∀ j, v5.ownBlock = some j → w4.heap.size ≤ j := by
        rcases hown5 with h | h
        · exact .inl h
        · exact .inr fun j hj => by rw [h] at hj; injection hj with hj; omega
      have hend := KB.putL (S := Grw S w2 w3) (c := c + 2) (k' := k') hK3p (fun j hj => Nat.lt_of_lt_of_le (hK3l j hj) h4.size) (hP3.below h4) hc3 hTS3 hSg3 hTg3 hv3 HOK'.out (by rw [HF.out.2]; exact hx5) (by rw [HF.out.2]; exact hOr5) hown6 hO5
      have hO4 := hO3.then_ h4
      refine Kd.before (Off.of_below HB12.out) (Kd.then_ (w1 := w4) hO4 ⟨rfl, hend.1.more ?_ (Grw.lt (Grw.lt HK2.out.lt hO4.size) hO5.size) (Nat.le_refl _), hend.2.mono ?_⟩ HK2.out.lt) hlt
      · rintro j (hj | hj)
        · rcases hj with hj | hj
          · exact .inl (.inl hj)
          · exact .inl (.inr ⟨hj.1, Nat.lt_of_lt_of_le hj.2 (by rw [← hsz3]; exact h4.size)⟩)
        · exact .inr hj
      · rintro j (hj | hj)
        · exact .inl (.inl hj)
        · exact .inl (.inr ⟨hj.1, Nat.lt_of_lt_of_le hj.2 (by rw [← hsz3]; exact h4.size)⟩)
    · have hb := write11_bad hr hr0
      have e2 : writeF k x l = x := by unfold writeF; rw [if_neg (fun hh => hr0 (by rw [hr] at hh; exact hh.2))]
      rw [e2, hb.1]
      have hrb : (r != 0) = true := by simpa using hr0
      clear hck h hE hr hnl hi0 hP hx hO hv hm hb hix
      go_enter Tryd.func10, Tryd.ntmps10
      go_wp2_with fail
      refine HC.out.mono ?_
      rintro e w1 ⟨rfl, h1⟩
      go_wp2
      go_ret
      refine Kd.before (Off.of_below h1) ⟨rfl, (H.out.below h1).more (fun j hj => .inl hj) (Grw.lt (H.out.below h1).lt (Nat.le_refl _)) (by omega), Off.refl _ _⟩ hlt
end Go.Proofs.YtbiecoifeeikpaaDoor
/-
  Package keep's Snap.
  There are no conditions beyond those that each lemma names.
-/
set_option linter.unusedSimpArgs false
set_option linter.unusedVariables false
namespace Go.Proofs.YtbiecoifeeikpaaDoor
open Go.RowKit Go.Deep
set_option maxRecDepth 100000

def snapF (k : Kst) (x : Fk) (s : Snp) : Fk := if (snap11 k s).1 = 0 then some (whole11 (snap11 k s).2, (whole11 (snap11 k s).2).length) else x
theorem KB.setS {w : World} {S : Nat → Prop} {g d c : Nat} {k k' : Kst} {x : Fk} {v' : Value} (h : KB w S g d k x c) (hk' : KOk k') (hO' : OwnEn 0 v' k'.log w) (hn : ∀ j, v'.ownBlock = some j → ¬ S j) : KB (((((((w.setCell ⟨g, 1, none⟩ (.int .i64 k'.ht)).setCell ⟨g, 2, none⟩ (.int .i64 k'.hv)).setCell ⟨g, 3, none⟩ (.int .i64 k'.s.ix)).setCell ⟨g, 4, none⟩ (.int .i64 k'.s.st)).setCell ⟨g, 5, none⟩ (.string k'.s.conf)).setCell ⟨g, 6, none⟩ (.string k'.s.data)).setCell ⟨g, 7, none⟩ (v')) (fun j => S j ∨ v'.ownBlock = some j) g d k' x c ∧ Off (fun j => j = g) w (((((((w.setCell ⟨g, 1, none⟩ (.int .i64 k'.ht)).setCell ⟨g, 2, none⟩ (.int .i64 k'.hv)).setCell ⟨g, 3, none⟩ (.int .i64 k'.s.ix)).setCell ⟨g, 4, none⟩ (.int .i64 k'.s.st)).setCell ⟨g, 5, none⟩ (.string k'.s.conf)).setCell ⟨g, 6, none⟩ (.string k'.s.data)).setCell ⟨g, 7, none⟩ (v')) := by
  obtain ⟨h1, h2, h3, T, u, c0, h4, h5, h6, h7, h8, h9, h10, h11⟩ := h
  have ho : Off (fun j => j = g) w (((((((w.setCell ⟨g, 1, none⟩ (.int .i64 k'.ht)).setCell ⟨g, 2, none⟩ (.int .i64 k'.hv)).setCell ⟨g, 3, none⟩ (.int .i64 k'.s.ix)).setCell ⟨g, 4, none⟩ (.int .i64 k'.s.st)).setCell ⟨g, 5, none⟩ (.string k'.s.conf)).setCell ⟨g, 6, none⟩ (.string k'.s.data)).setCell ⟨g, 7, none⟩ (v')) := ((((((((Off.refl (fun j => j = g) w).set (.inl rfl)).set (.inl rfl)).set (.inl rfl)).set (.inl rfl)).set (.inl rfl)).set (.inl rfl)).set (.inl rfl))
  refine ⟨⟨hk', h2, fun j hj => ?_, T, v', c0, h4.off ho (fun j hj e => by subst e; exact h10 hj), h5, (((((((h6.set 1 (.int .i64 k'.ht)).set 2 (.int .i64 k'.hv)).set 3 (.int .i64 k'.s.ix)).set 4 (.int .i64 k'.s.st)).set 5 (.string k'.s.conf)).set 6 (.string k'.s.data)).set 7 (v')), hO'.off ho (fun j hj e => by subst e; exact hn _ hj h9), fun j hj => .inl (h8 j hj), .inl h9, h10, fun j hj => ⟨.inr hj, fun e => hn j hj (h8 j e)⟩⟩, ho⟩
  rcases hj with hj | hj
  · exact Nat.lt_of_lt_of_le (h3 j hj) ho.size
  · exact Nat.lt_of_lt_of_le (hO'.lt j hj).2 ho.size
end Go.Proofs.YtbiecoifeeikpaaDoor
/-
  Package keep's read and whole: a state out of a file's bytes; a file's bytes.
  There are no conditions beyond those that each lemma names.
-/
set_option linter.unusedSimpArgs false
set_option linter.unusedVariables false
namespace Go.Proofs.YtbiecoifeeikpaaDoor
open Go.RowKit Go.Deep
set_option maxRecDepth 100000

theorem play11_prefix {k0 k : Kst} {L : List Rcd} (h : play11 k0 L = some k) (j : Nat) : ∃ k2, play11 k0 (L.take j) = some k2 := by
  rw [← List.take_append_drop j L, play11_append] at h
  cases hc : play11 k0 (L.take j) with
  | none => rw [hc] at h; cases h
  | some k2 => exact ⟨k2, rfl⟩
theorem take11_len {k k2 : Kst} {r : Rcd} (h : take11 k r = some k2) : k2.log.length ≤ k.log.length + 1 ∧ k2.s = k.s := by
  unfold take11 at h
  split at h
  · injection h with h; subst h; exact ⟨Nat.le_succ _, rfl⟩
  · split at h
    · rename_i hf
      injection h with h
      have := put11_len (l := [r.e]) hf
      have h2 := fits11_is.1 hf
      subst h
      refine ⟨?_, rfl⟩
      simp only [List.length_cons, List.length_nil] at this
      omega
    · cases h
set_option maxHeartbeats 1000000 in
theorem kread_yes (u : Value) (B : Nat) (l : List UInt8) (w : World) (h : Byt w B u l) (hB : B ≤ w.heap.size) (hl : l.length ≤ 1050000) (hT : Tbl w) (ix st : Int) (cf dt : ByteArray) (N : Nat) (hr : getS10 l = (⟨ix, st, cf, dt⟩, N, 0)) (hN0 : 1 ≤ N) (hN : N ≤ l.length) (L : List Rcd) (us : Nat) (hS : ScR (l.drop N) L us 2) (k : Kst) (hk : play11 (base11 ⟨ix, st, cf, dt⟩) L = some k) (hok : KOk k) (hm : maySnp10 ⟨ix, st, cf, dt⟩ = true) :
    Calls Tryd.prog 19 #[u] w fun e w' => ∃ v, e = .returned (.tuple #[.agg #[.int .i64 k.ht, .int .i64 k.hv, .int .i64 k.s.ix, .int .i64 k.s.st, .string k.s.conf, .string k.s.data, v], .int .i64 ((N + us : Nat) : Int), .bool true]) ∧ OwnEn w.heap.size v k.log w' ∧ Below w.heap.size w w' := by
  obtain ⟨A, c, rfl⟩ := byt_slice h
  obtain ⟨b, hb⟩ : ∃ b, w.heap.size = b := ⟨_, rfl⟩
  obtain ⟨W0, hW0⟩ : ∃ W0, w.alloc (.cells #[.int .i64 0, .int .i64 0, .int .i64 0, .int .i64 0, .string ⟨#[]⟩, .string ⟨#[]⟩, .slice none 0 0] 52) = W0 := ⟨_, rfl⟩
  have hy : Rt W0 b 52 [.int .i64 0, .int .i64 0, .int .i64 0, .int .i64 0, .string ⟨#[]⟩, .string ⟨#[]⟩, .slice none 0 0] := by rw [← hW0, ← hb]; exact Rt.new _ _ _
  have hBW : Below b w W0 := by rw [← hW0, ← hb]; exact below_new _ _
  have hby := h.below hBW (by omega)
  have hT0 : Tbl W0 := tbl_keep hT (by rw [hb]; exact hBW)
  have hB0 : B ≤ W0.heap.size := Nat.le_trans hB hBW.size
  have hbW : b ≤ W0.heap.size := by rw [← hb]; exact hBW.size
  obtain ⟨q, hq⟩ : ∃ q, l.length = q := ⟨_, rfl⟩
  rw [hq] at hby
  have HBY := Lib.hid hby
  have HT0 := Lib.hid hT0
  have HQ := Lib.hid hq
  rw [hq] at hl ⊢
  obtain ⟨g, o, rfl⟩ : ∃ g o, A = some ⟨g, o, Option.none⟩ := by
    obtain ⟨A', c', hv, _, hx⟩ := h
    injection hv with e1 _ _
    subst e1
    obtain ⟨g, o, hA, _⟩ := hx (by omega)
    exact ⟨g, o, hA⟩
  have hqc := (bytA h).2
  rw [hq] at hqc
  have hlen : (l.drop N).length ≤ 1050000 := by rw [List.length_drop]; omega
  have HLEN := Lib.hid hlen
  have HS := Lib.hid hS
  rw [hq] at hN
  have HQN := Lib.hid hq
  clear h hT hT0 hby hlen hS
  go_enter Tryd.func19, Tryd.ntmps19
  go_wp2_with fail
  refine (wget_v _ B l W0 HBY.out hB0 (by rw [HQ.out]; exact hl) HT0.out ix st cf dt N 0 hr).mono ?_
  rintro e9 w1 ⟨rfl, h1⟩
  obtain ⟨W1, hW1⟩ : ∃ W1, w1.alloc (.cells #[.int .i64 ix, .int .i64 st, .string cf, .string dt] 33) = W1 := ⟨_, rfl⟩
  obtain ⟨sb, hsb⟩ : ∃ sb, w1.heap.size = sb := ⟨_, rfl⟩
  have h2 : Below sb w1 W1 := by rw [← hW1, ← hsb]; exact below_new _ _
  have hx : Rt W1 sb 33 [.int .i64 ix, .int .i64 st, .string cf, .string dt] := by rw [← hW1, ← hsb]; exact Rt.new _ _ _
  replace hy := (hy.below h1).below (by rw [hsb]; exact h2)
  have hbs : b ≤ sb := by rw [← hsb]; exact Nat.le_trans hbW h1.size
  have hb9 : b < sb := by rw [← hsb]; have := h1.size; have e9 : W0.heap.size = b + 1 := by rw [← hW0, ← hb]; simp
                          omega
  have hB1 := (hBW.trans (h1.mono hbW)).trans (h2.mono hbs)
  have hBs1 : b ≤ W1.heap.size := Nat.le_trans (by omega) hB1.size
  have HT1 := Lib.hid (tbl_keep (tbl_keep HT0.out h1) (by rw [hsb]; exact h2))
  have HBY1 := Lib.hid ((HBY.out.below h1 hB0).below (C := sb) h2 (by rw [← hsb]; exact Nat.le_trans hB0 h1.size))
  have hBB1 : B ≤ W1.heap.size := Nat.le_trans (Nat.le_trans hB0 h1.size) (by have := h2.size; omega)
  clear h1 h2 hBW hq HQ HT0 HBY hB0 hbW hW0
  by_cases hcN : c = N
  · have hcut0 := HBY1.out
    rw [← HQN.out] at hcut0
    have hcut := hcut0.cut (k := N) (by rw [HQN.out]; exact hN)
    rw [add_lit_10, if_pos hcN, HQN.out] at hcut
    clear hcut0
    subst hcN
    have HCUT := Lib.hid hcut
    clear hcut
    have hqc2 : q = c := by omega
    subst hqc2
    go_wp2_with fail
    rw [Nat.sub_self] at HCUT
    have hrun := Swscan_any _ B (l.drop q) W1 HCUT.out hBB1 HLEN.out HT1.out (fun _ => .inr ⟨g, o, _, by first | rfl | (rw [show q - N = 0 by have := HQN.out; rename_i hh; have h9 := congrArg List.length hh; rw [List.length_drop, List.length_nil] at h9; omega])⟩)
    refine hrun.mono ?_
    rintro e9 w3 ⟨L', us', er', v3, hS', rfl, hO3, h3⟩
    obtain ⟨rfl, rfl, rfl⟩ := HS.out.two hS'
    have HL6 := Lib.hid HS.out.len
    obtain ⟨A3, c3, rfl⟩ := own_slice hO3
    clear hrun hS' HS
    replace hy := hy.below h3
    have hB3 := hB1.trans (h3.mono hBs1)
    replace hx := hx.below h3
    have x0 := hx.cell (j := 0) rfl
    have x1 := hx.cell (j := 1) rfl
    have x2 := hx.cell (j := 2) rfl
    have x3 := hx.cell (j := 3) rfl
    clear hx hB1 h3
    have he2 : ((2 : Nat) == 2) = true := rfl
    obtain ⟨n, hn⟩ : ∃ n, L.length = n := ⟨_, rfl⟩
    rw [hn] at hO3 ⊢
    have HN := Lib.hid hn
    have hnb : n ≤ 1000000 := by have h61 := HL6.out; have h62 := HLEN.out; omega
    obtain ⟨ss, hss⟩ : ∃ ss, w3.heap.size = ss := ⟨_, rfl⟩
    obtain ⟨W4, hW4⟩ : ∃ W4, w3.alloc (.cells #[.int .i64 0, .int .i64 0, .int .i64 ix, .int .i64 st, .string cf, .string dt, .slice none 0 0] 52) = W4 := ⟨_, rfl⟩
    have hB4 : Below ss w3 W4 := by rw [← hW4, ← hss]; exact below_new _ _
    have hs4 : Rt W4 ss 52 ((base11 ⟨ix, st, cf, dt⟩).cs (.slice none 0 0)) := by rw [← hW4, ← hss]; exact Rt.new _ _ _
    have hbss : b < ss := by rw [← hss]; exact hy.lt
    have HY4 := Lib.hid (hy.below (by rw [hss]; exact hB4))
    have HB4 := Lib.hid (hB3.trans (hB4.mono (Nat.le_of_lt hbss)))
    have HR4 := Lib.hid (hO3.below (by rw [hss]; exact hB4))
    have hR4s : ∀ gr, A3.map (·.block) = some gr → gr < ss := by
      intro gr hgr
      rw [← hss]
      refine (World.ownsRow.lt hO3 gr ?_).2
      cases A3 with
      | none => cases hgr
      | some a => exact hgr
    have HW4 := Lib.hid hW4
    clear hn hB4 hy hB3 hO3 hW4
    go_wp2_with fail
    rw [HW4.out]
    go_loopw [38] (fun i wr => ∃ (j : Nat) (k' : Kst) (v' : Value), i = .int .i64 j ∧ j ≤ n ∧ play11 (base11 ⟨ix, st, cf, dt⟩) (L.take j) = some k' ∧ Rt wr ss 52 (k'.cs v') ∧ OwnEn ss v' k'.log wr ∧ Below ss W4 wr ∧ k'.log.length ≤ j ∧ k'.s = ⟨ix, st, cf, dt⟩) (fun i _ => n - (intOf i).toNat)
    case atStart => exact ⟨0, base11 ⟨ix, st, cf, dt⟩, _, rfl, Nat.zero_le _, rfl, hs4, OwnEn.nil _ _, Below.refl _ _, Nat.zero_le _, rfl⟩
    case round =>
      clear hs4
      obtain ⟨j, k', v', rfl, hj, hpl, hsr, hOr, hBr, hlr, hks⟩ := hrel
      obtain ⟨A5, c5, rfl⟩ := hOr.slice
      obtain ⟨m5, hm5⟩ : ∃ m5, k'.log.length = m5 := ⟨_, rfl⟩
      rw [hm5] at hOr hsr hlr
      by_cases hjn : j < n
      · have hjL : j < L.length := by rw [HN.out]; exact hjn
        have hji : (j : Int) < (n : Int) := by omega
        obtain ⟨⟨hd, rt, rv, ⟨rx, re, rk, rd⟩⟩, hxk⟩ : ∃ x, L[j] = x := ⟨_, rfl⟩
        obtain ⟨gr, rfl, hz1, hz2, hz3, hcc, hcells⟩ := HR4.out.at_ j hjL
        clear hz1 hz2 hz3
        rw [hxk] at hcells
        have hgr := hR4s gr rfl
        have r0 := (hBr.cell (p := ⟨gr, j * 7 + 0, none⟩) hgr).trans (hcells 0 _ rfl)
        have r1 := (hBr.cell (p := ⟨gr, j * 7 + 1, none⟩) hgr).trans (hcells 1 _ rfl)
        have r2 := (hBr.cell (p := ⟨gr, j * 7 + 2, none⟩) hgr).trans (hcells 2 _ rfl)
        have r3 := (hBr.cell (p := ⟨gr, j * 7 + 3, none⟩) hgr).trans (hcells 3 _ rfl)
        have r4 := (hBr.cell (p := ⟨gr, j * 7 + 4, none⟩) hgr).trans (hcells 4 _ rfl)
        have r5 := (hBr.cell (p := ⟨gr, j * 7 + 5, none⟩) hgr).trans (hcells 5 _ rfl)
        have r6 := (hBr.cell (p := ⟨gr, j * 7 + 6, none⟩) hgr).trans (hcells 6 _ rfl)
        rw [Nat.add_zero] at r0
        obtain ⟨k2, hk2⟩ : ∃ k2, play11 (base11 ⟨ix, st, cf, dt⟩) (L.take (j + 1)) = some k2 := play11_prefix hk _
        have hstep : take11 k' ⟨hd, rt, rv, ⟨rx, re, rk, rd⟩⟩ = some k2 := by
          rw [← hk2, List.take_succ_eq_append_getElem hjL, hxk, play11_snoc hpl]
        have hkl := take11_len hstep
        have HK2 := Lib.hid hk2
        have HST := Lib.hid hstep
        have HKS := Lib.hid hks
        have HM5 := Lib.hid hm5
        have HKL := Lib.hid hkl
        clear hcells hk2 hstep hxk hpl hks hm5 hkl
        go_wp2_with fail
        obtain ⟨W5, hW5⟩ : ∃ W5, wr.alloc (.cells #[.bool hd, .int .i64 rt, .int .i64 rv, .int .i64 rx, .int .i64 re, .int .i64 rk, .string rd] 76) = W5 := ⟨_, rfl⟩
        have h5 : Below wr.heap.size wr W5 := by rw [← hW5]; exact below_new _ _
        have hs5 := hsr.below h5
        have hO5 := hOr.below h5
        have hss5 : ss ≤ wr.heap.size := Nat.le_of_lt hsr.lt
        have hss6 : ss ≤ W5.heap.size := Nat.le_trans hss5 h5.size
        have hB5 := hBr.trans (h5.mono hss5)
        rw [hW5]
        have hix := maySnp10_is hm
        simp only at hix
        refine (ktake_any ss k' A5 m5 c5 hd rt rv rx re rk rd W5 hs5 (hO5.down (Nat.zero_le _)) (by rw [HKS.out]; exact ⟨hix.1, hix.2.1⟩) (by rw [HM5.out]; omega) (some k2) HST.out).mono ?_
        rintro e6 w6 h6
        obtain ⟨v6, rfl, g1, g2, g3, g4⟩ := h6
        have hO6 : OwnEn ss v6 k2.log w6 := g2.up (fun i hi => by
          rcases g3 with g3 | g3
          · rw [g3] at hi; exact (hO5.lt i hi).1
          · exact Nat.le_trans hss6 (g3 i hi))
        have hB6 := hB5.trans (g4.below (B := ss) (fun i hi => by
          rcases hi with hi | hi
          · omega
          · exact (hO5.lt i hi).1) hss6)
        clear hB5 g2 g3 g4 hs5 hO5 h5 hW5 hsr hOr hBr r0 r1 r2 r3 r4 r5 r6
        go_wp2
        go_roundw
        case rel => exact ⟨j + 1, k2, v6, by go_num, by omega, HK2.out, g1, hO6, hB6, by have := HKL.out.1; have := HM5.out; omega, by rw [HKL.out.2]; exact HKS.out⟩
        case measure => first | (simp [intOf]; omega) | (simp [intOf]; done)
      · have hjn2 : j = n := by omega
        subst hjn2
        have hkk : k' = k := by
          rw [← HN.out, List.take_length, hk] at hpl
          injection hpl with hpl
          exact hpl.symm
        subst hkk
        have hm200 : m5 ≤ 200 := by rw [← hm5]; exact hok.few
        have y0 := hsr.cell (j := 0) (v := .int .i64 k'.ht) rfl
        have y1 := hsr.cell (j := 1) (v := .int .i64 k'.hv) rfl
        have y2 := hsr.cell (j := 2) (v := .int .i64 k'.s.ix) rfl
        have y3 := hsr.cell (j := 3) (v := .int .i64 k'.s.st) rfl
        have y4 := hsr.cell (j := 4) (v := .string k'.s.conf) rfl
        have y5 := hsr.cell (j := 5) (v := .string k'.s.data) rfl
        have y6 := hsr.cell (j := 6) (v := .slice A5 m5 c5) rfl
        have hy := HY4.out.under hBr hbss
        have hB7 := HB4.out.trans (hBr.mono (Nat.le_of_lt hbss))
        clear hpl hks hm5 hlr y0 y1 y2 y3 y4 y5 y6
        have hle : decide ((m5 : Int) ≤ 200) = true := by simp; omega
        have hsum : (q : Int) + us ≤ 1050000 := by have h61 := HL6.out; have h62 := HLEN.out; have h63 := HQN.out; have h64 := h61.1; rw [List.length_drop] at h64; omega
        have hwq : IntKind.i64.wrap ((q : Int) + us) = (q : Int) + us := by rw [IntKind.wrap_i64]; omega
        go_wp2_with fail
        replace hsr : Rt wr.drew ss _ _ := hsr
        replace hy : Rt wr.drew b _ _ := hy
        replace hOr : OwnEn ss _ _ wr.drew := hOr
        replace hB7 : Below b w wr.drew := hB7.drew
        refine wp_region_noPanic ?_
        refine wp_region_held_drew (S := fun W => Rt W ss 52 (k'.cs (.slice A5 m5 c5))) (by kernel_rfl) ?_ (fun hHeld => ?_)
        · exact hsr
        generalize wr.drew = wz at *
        refine wpAnyH_take (i := 0) (oi := { dst := some 47, op := Op.load 52 (Operand.tmp 11), type := 52, pos := "state.go:34", after := #[], guard := none }) (v := .agg #[.int .i64 k'.ht, .int .i64 k'.hv, .int .i64 k'.s.ix, .int .i64 k'.s.st, .string k'.s.conf, .string k'.s.data, .slice A5 m5 c5]) rfl (by kernel_rfl) (by kernel_rfl) (by kernel_rfl) (fun _ _ _ h => h) (Or.inl ⟨by rfl, fun w hSw => ?_⟩) (by assumption) ?_
        · (try dsimp only at hSw)
          have q0 := hSw.cell (j := 0) (v := .int .i64 k'.ht) rfl
          have q1 := hSw.cell (j := 1) (v := .int .i64 k'.hv) rfl
          have q2 := hSw.cell (j := 2) (v := .int .i64 k'.s.ix) rfl
          have q3 := hSw.cell (j := 3) (v := .int .i64 k'.s.st) rfl
          have q4 := hSw.cell (j := 4) (v := .string k'.s.conf) rfl
          have q5 := hSw.cell (j := 5) (v := .string k'.s.data) rfl
          have q6 := hSw.cell (j := 6) (v := .slice A5 m5 c5) rfl
          go_simp
        try simp only [Act.put, List.setIfInBounds_toArray, List.set_cons_zero, List.set_cons_succ]
        refine wpAnyH_take (i := 1) (oi := { dst := some 48, op := Op.move (Operand.tmp 6), type := 3, pos := "state.go:34", after := #[{ on := 8, ground := Ground.gcOnly Departure.lateStores }], guard := none }) (v := .int .i64 q) rfl (by kernel_rfl) (by kernel_rfl) (by kernel_rfl) (fun _ _ _ h => h) (Or.inl ⟨by rfl, fun w hSw => ?_⟩) (by assumption) ?_
        · (try dsimp only at hSw)
          go_simp
        try simp only [Act.put, List.setIfInBounds_toArray, List.set_cons_zero, List.set_cons_succ]
        refine wpAnyH_take (i := 2) (oi := { dst := some 49, op := Op.move (Operand.tmp 9), type := 3, pos := "state.go:34", after := #[{ on := 8, ground := Ground.gcOnly Departure.lateStores }], guard := none }) (v := .int .i64 us) rfl (by kernel_rfl) (by kernel_rfl) (by kernel_rfl) (fun _ _ _ h => h) (Or.inl ⟨by rfl, fun w hSw => ?_⟩) (by assumption) ?_
        · (try dsimp only at hSw)
          go_simp
        try simp only [Act.put, List.setIfInBounds_toArray, List.set_cons_zero, List.set_cons_succ]
        refine wpAnyH_take (i := 3) (oi := { dst := some 50, op := Op.binOp BinOp.add 3 (Operand.tmp 48) (Operand.tmp 49) 3, type := 3, pos := "state.go:34", after := #[{ on := 1, ground := Ground.data }, { on := 2, ground := Ground.data }, { on := 8, ground := Ground.gcOnly Departure.lateStores }], guard := none }) (v := .int .i64 ((q : Int) + us)) rfl (by kernel_rfl) (by kernel_rfl) (by kernel_rfl) (fun _ _ _ h => h) (Or.inl ⟨by rfl, fun w hSw => ?_⟩) (by assumption) ?_
        · (try dsimp only at hSw)
          go_simp
        try simp only [Act.put, List.setIfInBounds_toArray, List.set_cons_zero, List.set_cons_succ]
        refine wpAnyH_take (i := 4) (oi := { dst := some 51, op := Op.fieldAddr 52 (Operand.tmp 11) 2, type := 0, pos := "state.go:34", after := #[], guard := none }) (v := .pointer (some ⟨ss, 6, none⟩)) rfl (by kernel_rfl) (by kernel_rfl) (by kernel_rfl) (fun _ _ _ h => h) (Or.inl ⟨by rfl, fun w hSw => ?_⟩) (by assumption) ?_
        · (try dsimp only at hSw)
          go_simp
        try simp only [Act.put, List.setIfInBounds_toArray, List.set_cons_zero, List.set_cons_succ]
        refine wpAnyH_take (i := 5) (oi := { dst := some 52, op := Op.load 22 (Operand.tmp 51), type := 22, pos := "state.go:34", after := #[{ on := 4, ground := Ground.data }], guard := none }) (v := .slice A5 m5 c5) rfl (by kernel_rfl) (by kernel_rfl) (by kernel_rfl) (fun _ _ _ h => h) (Or.inl ⟨by rfl, fun w hSw => ?_⟩) (by assumption) ?_
        · (try dsimp only at hSw)
          have q6 := hSw.cell (j := 6) (v := .slice A5 m5 c5) rfl
          go_simp
        try simp only [Act.put, List.setIfInBounds_toArray, List.set_cons_zero, List.set_cons_succ]
        refine wpAnyH_take (i := 6) (oi := { dst := some 53, op := Op.call { callee := Callee.builtin Builtin.len, args := #[Operand.tmp 52], argTypes := #[22] }, type := 3, pos := "state.go:34", after := #[{ on := 5, ground := Ground.data }], guard := none }) (v := .int .i64 m5) rfl (by kernel_rfl) (by kernel_rfl) (by kernel_rfl) (fun _ _ _ h => h) (Or.inl ⟨by rfl, fun w hSw => ?_⟩) (by assumption) ?_
        · (try dsimp only at hSw)
          go_simp
        try simp only [Act.put, List.setIfInBounds_toArray, List.set_cons_zero, List.set_cons_succ]
        refine wpAnyH_take (i := 7) (oi := { dst := some 54, op := Op.binOp BinOp.leq 3 (Operand.tmp 53) (Operand.const (Value.int IntKind.i64 200)) 3, type := 4, pos := "state.go:34", after := #[{ on := 6, ground := Ground.data }, { on := 9, ground := Ground.gcOnly Departure.lateStores }], guard := none }) (v := .bool true) rfl (by kernel_rfl) (by kernel_rfl) (by kernel_rfl) (fun _ _ _ h => h) (Or.inl ⟨by rfl, fun w hSw => ?_⟩) (by assumption) ?_
        · (try dsimp only at hSw)
          go_simp
        try simp only [Act.put, List.setIfInBounds_toArray, List.set_cons_zero, List.set_cons_succ]
        have hB9 := (((((((hB7.setCell (p := ⟨b, 0, none⟩) (Nat.le_refl b) (.int .i64 k'.ht)).setCell (p := ⟨b, 1, none⟩) (Nat.le_refl b) (.int .i64 k'.hv)).setCell (p := ⟨b, 2, none⟩) (Nat.le_refl b) (.int .i64 k'.s.ix)).setCell (p := ⟨b, 3, none⟩) (Nat.le_refl b) (.int .i64 k'.s.st)).setCell (p := ⟨b, 4, none⟩) (Nat.le_refl b) (.string k'.s.conf)).setCell (p := ⟨b, 5, none⟩) (Nat.le_refl b) (.string k'.s.data)).setCell (p := ⟨b, 6, none⟩) (Nat.le_refl b) (.slice A5 m5 c5))
        have hy9 := (((((((hy.set 0 (.int .i64 k'.ht)).set 1 (.int .i64 k'.hv)).set 2 (.int .i64 k'.s.ix)).set 3 (.int .i64 k'.s.st)).set 4 (.string k'.s.conf)).set 5 (.string k'.s.data)).set 6 (.slice A5 m5 c5))
        have HV9 := Lib.hid (show OwnEn w.heap.size (.slice A5 m5 c5) k'.log (((((((wz.setCell ⟨b, 0, none⟩ (.int .i64 k'.ht)).setCell ⟨b, 1, none⟩ (.int .i64 k'.hv)).setCell ⟨b, 2, none⟩ (.int .i64 k'.s.ix)).setCell ⟨b, 3, none⟩ (.int .i64 k'.s.st)).setCell ⟨b, 4, none⟩ (.string k'.s.conf)).setCell ⟨b, 5, none⟩ (.string k'.s.data)).setCell ⟨b, 6, none⟩ (.slice A5 m5 c5)) from ownsRow_setb (hOr.down (by rw [hb]; exact Nat.le_of_lt hbss)) hy (by decide) _ _ _ _ _ _ _)
        have hs9 := (Rt.other (Rt.other (Rt.other (Rt.other (Rt.other (Rt.other (Rt.other hsr 0 (.int .i64 k'.ht) (Nat.ne_of_gt hbss)) 1 (.int .i64 k'.hv) (Nat.ne_of_gt hbss)) 2 (.int .i64 k'.s.ix) (Nat.ne_of_gt hbss)) 3 (.int .i64 k'.s.st) (Nat.ne_of_gt hbss)) 4 (.string k'.s.conf) (Nat.ne_of_gt hbss)) 5 (.string k'.s.data) (Nat.ne_of_gt hbss)) 6 (.slice A5 m5 c5) (Nat.ne_of_gt hbss))
        have d0 := hy.cell (j := 0) rfl
        have e0 := hy.frz 0
        have d1 := hy.cell (j := 1) rfl
        have e1 := hy.frz 1
        have d2 := hy.cell (j := 2) rfl
        have e2 := hy.frz 2
        have d3 := hy.cell (j := 3) rfl
        have e3 := hy.frz 3
        have d4 := hy.cell (j := 4) rfl
        have e4 := hy.frz 4
        have d5 := hy.cell (j := 5) rfl
        have e5 := hy.frz 5
        have d6 := hy.cell (j := 6) rfl
        have e6 := hy.frz 6
        refine wpAnyH_ready (rs := [8]) (by kernel_rfl) (by simp) ?_
        refine AllReadyH.cons (o := { dst := none, op := Op.store 52 (Operand.tmp 2) (Operand.tmp 47), type := 0, pos := "state.go:34", after := #[{ on := 0, ground := Ground.data }, { on := 0, ground := Ground.phase }, { on := 1, ground := Ground.textOnly Departure.lateStores }, { on := 2, ground := Ground.textOnly Departure.lateStores }, { on := 3, ground := Ground.textOnly Departure.lateStores }, { on := 4, ground := Ground.textOnly Departure.lateStores }, { on := 5, ground := Ground.textOnly Departure.lateStores }, { on := 6, ground := Ground.textOnly Departure.lateStoresUnsure }, { on := 7, ground := Ground.textOnly Departure.lateStores }], guard := none }) rfl (fun K hK => ?_) AllReadyH.nil
        go_simp
        obtain ⟨W9, hW9⟩ : ∃ W9, (((((((wz.setCell ⟨b, 0, none⟩ (.int .i64 k'.ht)).setCell ⟨b, 1, none⟩ (.int .i64 k'.hv)).setCell ⟨b, 2, none⟩ (.int .i64 k'.s.ix)).setCell ⟨b, 3, none⟩ (.int .i64 k'.s.st)).setCell ⟨b, 4, none⟩ (.string k'.s.conf)).setCell ⟨b, 5, none⟩ (.string k'.s.data)).setCell ⟨b, 6, none⟩ (.slice A5 m5 c5)) = W9 := ⟨_, rfl⟩
        rw [hW9] at hB9 hy9 HV9 hs9 ⊢
        refine hK.out _ _ ?_ (fun hHeld => ?_)
        · exact hs9
        clear hK K
        try simp only [Act.put, List.setIfInBounds_toArray, List.set_cons_zero, List.set_cons_succ]
        refine wpAnyH_ready (rs := [9]) (by kernel_rfl) (by simp) ?_
        refine AllReadyH.cons (o := { dst := some 3, op := Op.assign (Operand.tmp 50), type := 3, pos := "state.go:34", after := #[{ on := 3, ground := Ground.data }, { on := 8, ground := Ground.chain }, { on := 0, ground := Ground.phase }, { on := 1, ground := Ground.phase }, { on := 2, ground := Ground.phase }, { on := 3, ground := Ground.phase }, { on := 4, ground := Ground.textOnly Departure.lateStores }, { on := 5, ground := Ground.textOnly Departure.lateStores }, { on := 6, ground := Ground.textOnly Departure.lateStoresUnsure }, { on := 7, ground := Ground.textOnly Departure.lateStores }, { on := 8, ground := Ground.phase }], guard := none }) rfl (fun K hK => ?_) AllReadyH.nil
        go_simp
        refine hK.out _ _ ?_ (fun hHeld => ?_)
        · exact hs9
        clear hK K
        try simp only [Act.put, List.setIfInBounds_toArray, List.set_cons_zero, List.set_cons_succ]
        refine wpAnyH_ready (rs := [10]) (by kernel_rfl) (by simp) ?_
        refine AllReadyH.cons (o := { dst := some 4, op := Op.assign (Operand.tmp 54), type := 4, pos := "state.go:34", after := #[{ on := 7, ground := Ground.data }, { on := 9, ground := Ground.chain }, { on := 0, ground := Ground.phase }, { on := 1, ground := Ground.phase }, { on := 2, ground := Ground.phase }, { on := 3, ground := Ground.phase }, { on := 4, ground := Ground.phase }, { on := 5, ground := Ground.phase }, { on := 6, ground := Ground.phase }, { on := 7, ground := Ground.phase }, { on := 8, ground := Ground.phase }, { on := 9, ground := Ground.phase }], guard := none }) rfl (fun K hK => ?_) AllReadyH.nil
        go_simp
        refine hK.out _ _ ?_ (fun hHeld => ?_)
        · exact hs9
        clear hK K
        try simp only [Act.put, List.setIfInBounds_toArray, List.set_cons_zero, List.set_cons_succ]
        refine wpAnyH_done (by kernel_rfl) ?_ _
        refine NoPanic.normal ?_
        have g0 := hy9.cell (j := 0) rfl
        have g1 := hy9.cell (j := 1) rfl
        have g2 := hy9.cell (j := 2) rfl
        have g3 := hy9.cell (j := 3) rfl
        have g4 := hy9.cell (j := 4) rfl
        have g5 := hy9.cell (j := 5) rfl
        have g6 := hy9.cell (j := 6) rfl
        go_wp2
        exact bodyPost_ret (v := .tuple #[.agg #[.int .i64 k'.ht, .int .i64 k'.hv, .int .i64 k'.s.ix, .int .i64 k'.s.st, .string k'.s.conf, .string k'.s.data, .slice A5 m5 c5], .int .i64 ((q : Int) + us), .bool true]) (by simp [results, Tryd.results19, go_sem, g0, g1, g2, g3, g4, g5, g6]) rfl ⟨_, rfl, HV9.out, by rw [hb]; exact hB9⟩
  · have hcut0 := HBY1.out
    rw [← HQN.out] at hcut0
    have hcut := hcut0.cut (k := N) (by rw [HQN.out]; exact hN)
    rw [add_lit_10, if_neg hcN, HQN.out] at hcut
    clear hcut0

    have HCUT := Lib.hid hcut
    clear hcut


    go_wp2_with fail

    have hrun := Swscan_any _ B (l.drop N) W1 HCUT.out hBB1 HLEN.out HT1.out (fun _ => .inr ⟨g, o + N, _, by first | rfl | (rw [show q - N = 0 by have := HQN.out; rename_i hh; have h9 := congrArg List.length hh; rw [List.length_drop, List.length_nil] at h9; omega])⟩)
    refine hrun.mono ?_
    rintro e9 w3 ⟨L', us', er', v3, hS', rfl, hO3, h3⟩
    obtain ⟨rfl, rfl, rfl⟩ := HS.out.two hS'
    have HL6 := Lib.hid HS.out.len
    obtain ⟨A3, c3, rfl⟩ := own_slice hO3
    clear hrun hS' HS
    replace hy := hy.below h3
    have hB3 := hB1.trans (h3.mono hBs1)
    replace hx := hx.below h3
    have x0 := hx.cell (j := 0) rfl
    have x1 := hx.cell (j := 1) rfl
    have x2 := hx.cell (j := 2) rfl
    have x3 := hx.cell (j := 3) rfl
    clear hx hB1 h3
    have he2 : ((2 : Nat) == 2) = true := rfl
    obtain ⟨n, hn⟩ : ∃ n, L.length = n := ⟨_, rfl⟩
    rw [hn] at hO3 ⊢
    have HN := Lib.hid hn
    have hnb : n ≤ 1000000 := by have h61 := HL6.out; have h62 := HLEN.out; omega
    obtain ⟨ss, hss⟩ : ∃ ss, w3.heap.size = ss := ⟨_, rfl⟩
    obtain ⟨W4, hW4⟩ : ∃ W4, w3.alloc (.cells #[.int .i64 0, .int .i64 0, .int .i64 ix, .int .i64 st, .string cf, .string dt, .slice none 0 0] 52) = W4 := ⟨_, rfl⟩
    have hB4 : Below ss w3 W4 := by rw [← hW4, ← hss]; exact below_new _ _
    have hs4 : Rt W4 ss 52 ((base11 ⟨ix, st, cf, dt⟩).cs (.slice none 0 0)) := by rw [← hW4, ← hss]; exact Rt.new _ _ _
    have hbss : b < ss := by rw [← hss]; exact hy.lt
    have HY4 := Lib.hid (hy.below (by rw [hss]; exact hB4))
    have HB4 := Lib.hid (hB3.trans (hB4.mono (Nat.le_of_lt hbss)))
    have HR4 := Lib.hid (hO3.below (by rw [hss]; exact hB4))
    have hR4s : ∀ gr, A3.map (·.block) = some gr → gr < ss := by
      intro gr hgr
      rw [← hss]
      refine (World.ownsRow.lt hO3 gr ?_).2
      cases A3 with
      | none => cases hgr
      | some a => exact hgr
    have HW4 := Lib.hid hW4
    clear hn hB4 hy hB3 hO3 hW4
    go_wp2_with fail
    rw [HW4.out]
    go_loopw [38] (fun i wr => ∃ (j : Nat) (k' : Kst) (v' : Value), i = .int .i64 j ∧ j ≤ n ∧ play11 (base11 ⟨ix, st, cf, dt⟩) (L.take j) = some k' ∧ Rt wr ss 52 (k'.cs v') ∧ OwnEn ss v' k'.log wr ∧ Below ss W4 wr ∧ k'.log.length ≤ j ∧ k'.s = ⟨ix, st, cf, dt⟩) (fun i _ => n - (intOf i).toNat)
    case atStart => exact ⟨0, base11 ⟨ix, st, cf, dt⟩, _, rfl, Nat.zero_le _, rfl, hs4, OwnEn.nil _ _, Below.refl _ _, Nat.zero_le _, rfl⟩
    case round =>
      clear hs4
      obtain ⟨j, k', v', rfl, hj, hpl, hsr, hOr, hBr, hlr, hks⟩ := hrel
      obtain ⟨A5, c5, rfl⟩ := hOr.slice
      obtain ⟨m5, hm5⟩ : ∃ m5, k'.log.length = m5 := ⟨_, rfl⟩
      rw [hm5] at hOr hsr hlr
      by_cases hjn : j < n
      · have hjL : j < L.length := by rw [HN.out]; exact hjn
        have hji : (j : Int) < (n : Int) := by omega
        obtain ⟨⟨hd, rt, rv, ⟨rx, re, rk, rd⟩⟩, hxk⟩ : ∃ x, L[j] = x := ⟨_, rfl⟩
        obtain ⟨gr, rfl, hz1, hz2, hz3, hcc, hcells⟩ := HR4.out.at_ j hjL
        clear hz1 hz2 hz3
        rw [hxk] at hcells
        have hgr := hR4s gr rfl
        have r0 := (hBr.cell (p := ⟨gr, j * 7 + 0, none⟩) hgr).trans (hcells 0 _ rfl)
        have r1 := (hBr.cell (p := ⟨gr, j * 7 + 1, none⟩) hgr).trans (hcells 1 _ rfl)
        have r2 := (hBr.cell (p := ⟨gr, j * 7 + 2, none⟩) hgr).trans (hcells 2 _ rfl)
        have r3 := (hBr.cell (p := ⟨gr, j * 7 + 3, none⟩) hgr).trans (hcells 3 _ rfl)
        have r4 := (hBr.cell (p := ⟨gr, j * 7 + 4, none⟩) hgr).trans (hcells 4 _ rfl)
        have r5 := (hBr.cell (p := ⟨gr, j * 7 + 5, none⟩) hgr).trans (hcells 5 _ rfl)
        have r6 := (hBr.cell (p := ⟨gr, j * 7 + 6, none⟩) hgr).trans (hcells 6 _ rfl)
        rw [Nat.add_zero] at r0
        obtain ⟨k2, hk2⟩ : ∃ k2, play11 (base11 ⟨ix, st, cf, dt⟩) (L.take (j + 1)) = some k2 := play11_prefix hk _
        have hstep : take11 k' ⟨hd, rt, rv, ⟨rx, re, rk, rd⟩⟩ = some k2 := by
          rw [← hk2, List.take_succ_eq_append_getElem hjL, hxk, play11_snoc hpl]
        have hkl := take11_len hstep
        have HK2 := Lib.hid hk2
        have HST := Lib.hid hstep
        have HKS := Lib.hid hks
        have HM5 := Lib.hid hm5
        have HKL := Lib.hid hkl
        clear hcells hk2 hstep hxk hpl hks hm5 hkl
        go_wp2_with fail
        obtain ⟨W5, hW5⟩ : ∃ W5, wr.alloc (.cells #[.bool hd, .int .i64 rt, .int .i64 rv, .int .i64 rx, .int .i64 re, .int .i64 rk, .string rd] 76) = W5 := ⟨_, rfl⟩
        have h5 : Below wr.heap.size wr W5 := by rw [← hW5]; exact below_new _ _
        have hs5 := hsr.below h5
        have hO5 := hOr.below h5
        have hss5 : ss ≤ wr.heap.size := Nat.le_of_lt hsr.lt
        have hss6 : ss ≤ W5.heap.size := Nat.le_trans hss5 h5.size
        have hB5 := hBr.trans (h5.mono hss5)
        rw [hW5]
        have hix := maySnp10_is hm
        simp only at hix
        refine (ktake_any ss k' A5 m5 c5 hd rt rv rx re rk rd W5 hs5 (hO5.down (Nat.zero_le _)) (by rw [HKS.out]; exact ⟨hix.1, hix.2.1⟩) (by rw [HM5.out]; omega) (some k2) HST.out).mono ?_
        rintro e6 w6 h6
        obtain ⟨v6, rfl, g1, g2, g3, g4⟩ := h6
        have hO6 : OwnEn ss v6 k2.log w6 := g2.up (fun i hi => by
          rcases g3 with g3 | g3
          · rw [g3] at hi; exact (hO5.lt i hi).1
          · exact Nat.le_trans hss6 (g3 i hi))
        have hB6 := hB5.trans (g4.below (B := ss) (fun i hi => by
          rcases hi with hi | hi
          · omega
          · exact (hO5.lt i hi).1) hss6)
        clear hB5 g2 g3 g4 hs5 hO5 h5 hW5 hsr hOr hBr r0 r1 r2 r3 r4 r5 r6
        go_wp2
        go_roundw
        case rel => exact ⟨j + 1, k2, v6, by go_num, by omega, HK2.out, g1, hO6, hB6, by have := HKL.out.1; have := HM5.out; omega, by rw [HKL.out.2]; exact HKS.out⟩
        case measure => first | (simp [intOf]; omega) | (simp [intOf]; done)
      · have hjn2 : j = n := by omega
        subst hjn2
        have hkk : k' = k := by
          rw [← HN.out, List.take_length, hk] at hpl
          injection hpl with hpl
          exact hpl.symm
        subst hkk
        have hm200 : m5 ≤ 200 := by rw [← hm5]; exact hok.few
        have y0 := hsr.cell (j := 0) (v := .int .i64 k'.ht) rfl
        have y1 := hsr.cell (j := 1) (v := .int .i64 k'.hv) rfl
        have y2 := hsr.cell (j := 2) (v := .int .i64 k'.s.ix) rfl
        have y3 := hsr.cell (j := 3) (v := .int .i64 k'.s.st) rfl
        have y4 := hsr.cell (j := 4) (v := .string k'.s.conf) rfl
        have y5 := hsr.cell (j := 5) (v := .string k'.s.data) rfl
        have y6 := hsr.cell (j := 6) (v := .slice A5 m5 c5) rfl
        have hy := HY4.out.under hBr hbss
        have hB7 := HB4.out.trans (hBr.mono (Nat.le_of_lt hbss))
        clear hpl hks hm5 hlr y0 y1 y2 y3 y4 y5 y6
        have hle : decide ((m5 : Int) ≤ 200) = true := by simp; omega
        have hsum : (N : Int) + us ≤ 1050000 := by have h61 := HL6.out; have h62 := HLEN.out; have h63 := HQN.out; have h64 := h61.1; rw [List.length_drop] at h64; omega
        have hwq : IntKind.i64.wrap ((N : Int) + us) = (N : Int) + us := by rw [IntKind.wrap_i64]; omega
        go_wp2_with fail
        replace hsr : Rt wr.drew ss _ _ := hsr
        replace hy : Rt wr.drew b _ _ := hy
        replace hOr : OwnEn ss _ _ wr.drew := hOr
        replace hB7 : Below b w wr.drew := hB7.drew
        refine wp_region_noPanic ?_
        refine wp_region_held_drew (S := fun W => Rt W ss 52 (k'.cs (.slice A5 m5 c5))) (by kernel_rfl) ?_ (fun hHeld => ?_)
        · exact hsr
        generalize wr.drew = wz at *
        refine wpAnyH_take (i := 0) (oi := { dst := some 47, op := Op.load 52 (Operand.tmp 11), type := 52, pos := "state.go:34", after := #[], guard := none }) (v := .agg #[.int .i64 k'.ht, .int .i64 k'.hv, .int .i64 k'.s.ix, .int .i64 k'.s.st, .string k'.s.conf, .string k'.s.data, .slice A5 m5 c5]) rfl (by kernel_rfl) (by kernel_rfl) (by kernel_rfl) (fun _ _ _ h => h) (Or.inl ⟨by rfl, fun w hSw => ?_⟩) (by assumption) ?_
        · (try dsimp only at hSw)
          have q0 := hSw.cell (j := 0) (v := .int .i64 k'.ht) rfl
          have q1 := hSw.cell (j := 1) (v := .int .i64 k'.hv) rfl
          have q2 := hSw.cell (j := 2) (v := .int .i64 k'.s.ix) rfl
          have q3 := hSw.cell (j := 3) (v := .int .i64 k'.s.st) rfl
          have q4 := hSw.cell (j := 4) (v := .string k'.s.conf) rfl
          have q5 := hSw.cell (j := 5) (v := .string k'.s.data) rfl
          have q6 := hSw.cell (j := 6) (v := .slice A5 m5 c5) rfl
          go_simp
        try simp only [Act.put, List.setIfInBounds_toArray, List.set_cons_zero, List.set_cons_succ]
        refine wpAnyH_take (i := 1) (oi := { dst := some 48, op := Op.move (Operand.tmp 6), type := 3, pos := "state.go:34", after := #[{ on := 8, ground := Ground.gcOnly Departure.lateStores }], guard := none }) (v := .int .i64 N) rfl (by kernel_rfl) (by kernel_rfl) (by kernel_rfl) (fun _ _ _ h => h) (Or.inl ⟨by rfl, fun w hSw => ?_⟩) (by assumption) ?_
        · (try dsimp only at hSw)
          go_simp
        try simp only [Act.put, List.setIfInBounds_toArray, List.set_cons_zero, List.set_cons_succ]
        refine wpAnyH_take (i := 2) (oi := { dst := some 49, op := Op.move (Operand.tmp 9), type := 3, pos := "state.go:34", after := #[{ on := 8, ground := Ground.gcOnly Departure.lateStores }], guard := none }) (v := .int .i64 us) rfl (by kernel_rfl) (by kernel_rfl) (by kernel_rfl) (fun _ _ _ h => h) (Or.inl ⟨by rfl, fun w hSw => ?_⟩) (by assumption) ?_
        · (try dsimp only at hSw)
          go_simp
        try simp only [Act.put, List.setIfInBounds_toArray, List.set_cons_zero, List.set_cons_succ]
        refine wpAnyH_take (i := 3) (oi := { dst := some 50, op := Op.binOp BinOp.add 3 (Operand.tmp 48) (Operand.tmp 49) 3, type := 3, pos := "state.go:34", after := #[{ on := 1, ground := Ground.data }, { on := 2, ground := Ground.data }, { on := 8, ground := Ground.gcOnly Departure.lateStores }], guard := none }) (v := .int .i64 ((N : Int) + us)) rfl (by kernel_rfl) (by kernel_rfl) (by kernel_rfl) (fun _ _ _ h => h) (Or.inl ⟨by rfl, fun w hSw => ?_⟩) (by assumption) ?_
        · (try dsimp only at hSw)
          go_simp
        try simp only [Act.put, List.setIfInBounds_toArray, List.set_cons_zero, List.set_cons_succ]
        refine wpAnyH_take (i := 4) (oi := { dst := some 51, op := Op.fieldAddr 52 (Operand.tmp 11) 2, type := 0, pos := "state.go:34", after := #[], guard := none }) (v := .pointer (some ⟨ss, 6, none⟩)) rfl (by kernel_rfl) (by kernel_rfl) (by kernel_rfl) (fun _ _ _ h => h) (Or.inl ⟨by rfl, fun w hSw => ?_⟩) (by assumption) ?_
        · (try dsimp only at hSw)
          go_simp
        try simp only [Act.put, List.setIfInBounds_toArray, List.set_cons_zero, List.set_cons_succ]
        refine wpAnyH_take (i := 5) (oi := { dst := some 52, op := Op.load 22 (Operand.tmp 51), type := 22, pos := "state.go:34", after := #[{ on := 4, ground := Ground.data }], guard := none }) (v := .slice A5 m5 c5) rfl (by kernel_rfl) (by kernel_rfl) (by kernel_rfl) (fun _ _ _ h => h) (Or.inl ⟨by rfl, fun w hSw => ?_⟩) (by assumption) ?_
        · (try dsimp only at hSw)
          have q6 := hSw.cell (j := 6) (v := .slice A5 m5 c5) rfl
          go_simp
        try simp only [Act.put, List.setIfInBounds_toArray, List.set_cons_zero, List.set_cons_succ]
        refine wpAnyH_take (i := 6) (oi := { dst := some 53, op := Op.call { callee := Callee.builtin Builtin.len, args := #[Operand.tmp 52], argTypes := #[22] }, type := 3, pos := "state.go:34", after := #[{ on := 5, ground := Ground.data }], guard := none }) (v := .int .i64 m5) rfl (by kernel_rfl) (by kernel_rfl) (by kernel_rfl) (fun _ _ _ h => h) (Or.inl ⟨by rfl, fun w hSw => ?_⟩) (by assumption) ?_
        · (try dsimp only at hSw)
          go_simp
        try simp only [Act.put, List.setIfInBounds_toArray, List.set_cons_zero, List.set_cons_succ]
        refine wpAnyH_take (i := 7) (oi := { dst := some 54, op := Op.binOp BinOp.leq 3 (Operand.tmp 53) (Operand.const (Value.int IntKind.i64 200)) 3, type := 4, pos := "state.go:34", after := #[{ on := 6, ground := Ground.data }, { on := 9, ground := Ground.gcOnly Departure.lateStores }], guard := none }) (v := .bool true) rfl (by kernel_rfl) (by kernel_rfl) (by kernel_rfl) (fun _ _ _ h => h) (Or.inl ⟨by rfl, fun w hSw => ?_⟩) (by assumption) ?_
        · (try dsimp only at hSw)
          go_simp
        try simp only [Act.put, List.setIfInBounds_toArray, List.set_cons_zero, List.set_cons_succ]
        have hB9 := (((((((hB7.setCell (p := ⟨b, 0, none⟩) (Nat.le_refl b) (.int .i64 k'.ht)).setCell (p := ⟨b, 1, none⟩) (Nat.le_refl b) (.int .i64 k'.hv)).setCell (p := ⟨b, 2, none⟩) (Nat.le_refl b) (.int .i64 k'.s.ix)).setCell (p := ⟨b, 3, none⟩) (Nat.le_refl b) (.int .i64 k'.s.st)).setCell (p := ⟨b, 4, none⟩) (Nat.le_refl b) (.string k'.s.conf)).setCell (p := ⟨b, 5, none⟩) (Nat.le_refl b) (.string k'.s.data)).setCell (p := ⟨b, 6, none⟩) (Nat.le_refl b) (.slice A5 m5 c5))
        have hy9 := (((((((hy.set 0 (.int .i64 k'.ht)).set 1 (.int .i64 k'.hv)).set 2 (.int .i64 k'.s.ix)).set 3 (.int .i64 k'.s.st)).set 4 (.string k'.s.conf)).set 5 (.string k'.s.data)).set 6 (.slice A5 m5 c5))
        have HV9 := Lib.hid (show OwnEn w.heap.size (.slice A5 m5 c5) k'.log (((((((wz.setCell ⟨b, 0, none⟩ (.int .i64 k'.ht)).setCell ⟨b, 1, none⟩ (.int .i64 k'.hv)).setCell ⟨b, 2, none⟩ (.int .i64 k'.s.ix)).setCell ⟨b, 3, none⟩ (.int .i64 k'.s.st)).setCell ⟨b, 4, none⟩ (.string k'.s.conf)).setCell ⟨b, 5, none⟩ (.string k'.s.data)).setCell ⟨b, 6, none⟩ (.slice A5 m5 c5)) from ownsRow_setb (hOr.down (by rw [hb]; exact Nat.le_of_lt hbss)) hy (by decide) _ _ _ _ _ _ _)
        have hs9 := (Rt.other (Rt.other (Rt.other (Rt.other (Rt.other (Rt.other (Rt.other hsr 0 (.int .i64 k'.ht) (Nat.ne_of_gt hbss)) 1 (.int .i64 k'.hv) (Nat.ne_of_gt hbss)) 2 (.int .i64 k'.s.ix) (Nat.ne_of_gt hbss)) 3 (.int .i64 k'.s.st) (Nat.ne_of_gt hbss)) 4 (.string k'.s.conf) (Nat.ne_of_gt hbss)) 5 (.string k'.s.data) (Nat.ne_of_gt hbss)) 6 (.slice A5 m5 c5) (Nat.ne_of_gt hbss))
        have d0 := hy.cell (j := 0) rfl
        have e0 := hy.frz 0
        have d1 := hy.cell (j := 1) rfl
        have e1 := hy.frz 1
        have d2 := hy.cell (j := 2) rfl
        have e2 := hy.frz 2
        have d3 := hy.cell (j := 3) rfl
        have e3 := hy.frz 3
        have d4 := hy.cell (j := 4) rfl
        have e4 := hy.frz 4
        have d5 := hy.cell (j := 5) rfl
        have e5 := hy.frz 5
        have d6 := hy.cell (j := 6) rfl
        have e6 := hy.frz 6
        refine wpAnyH_ready (rs := [8]) (by kernel_rfl) (by simp) ?_
        refine AllReadyH.cons (o := { dst := none, op := Op.store 52 (Operand.tmp 2) (Operand.tmp 47), type := 0, pos := "state.go:34", after := #[{ on := 0, ground := Ground.data }, { on := 0, ground := Ground.phase }, { on := 1, ground := Ground.textOnly Departure.lateStores }, { on := 2, ground := Ground.textOnly Departure.lateStores }, { on := 3, ground := Ground.textOnly Departure.lateStores }, { on := 4, ground := Ground.textOnly Departure.lateStores }, { on := 5, ground := Ground.textOnly Departure.lateStores }, { on := 6, ground := Ground.textOnly Departure.lateStoresUnsure }, { on := 7, ground := Ground.textOnly Departure.lateStores }], guard := none }) rfl (fun K hK => ?_) AllReadyH.nil
        go_simp
        obtain ⟨W9, hW9⟩ : ∃ W9, (((((((wz.setCell ⟨b, 0, none⟩ (.int .i64 k'.ht)).setCell ⟨b, 1, none⟩ (.int .i64 k'.hv)).setCell ⟨b, 2, none⟩ (.int .i64 k'.s.ix)).setCell ⟨b, 3, none⟩ (.int .i64 k'.s.st)).setCell ⟨b, 4, none⟩ (.string k'.s.conf)).setCell ⟨b, 5, none⟩ (.string k'.s.data)).setCell ⟨b, 6, none⟩ (.slice A5 m5 c5)) = W9 := ⟨_, rfl⟩
        rw [hW9] at hB9 hy9 HV9 hs9 ⊢
        refine hK.out _ _ ?_ (fun hHeld => ?_)
        · exact hs9
        clear hK K
        try simp only [Act.put, List.setIfInBounds_toArray, List.set_cons_zero, List.set_cons_succ]
        refine wpAnyH_ready (rs := [9]) (by kernel_rfl) (by simp) ?_
        refine AllReadyH.cons (o := { dst := some 3, op := Op.assign (Operand.tmp 50), type := 3, pos := "state.go:34", after := #[{ on := 3, ground := Ground.data }, { on := 8, ground := Ground.chain }, { on := 0, ground := Ground.phase }, { on := 1, ground := Ground.phase }, { on := 2, ground := Ground.phase }, { on := 3, ground := Ground.phase }, { on := 4, ground := Ground.textOnly Departure.lateStores }, { on := 5, ground := Ground.textOnly Departure.lateStores }, { on := 6, ground := Ground.textOnly Departure.lateStoresUnsure }, { on := 7, ground := Ground.textOnly Departure.lateStores }, { on := 8, ground := Ground.phase }], guard := none }) rfl (fun K hK => ?_) AllReadyH.nil
        go_simp
        refine hK.out _ _ ?_ (fun hHeld => ?_)
        · exact hs9
        clear hK K
        try simp only [Act.put, List.setIfInBounds_toArray, List.set_cons_zero, List.set_cons_succ]
        refine wpAnyH_ready (rs := [10]) (by kernel_rfl) (by simp) ?_
        refine AllReadyH.cons (o := { dst := some 4, op := Op.assign (Operand.tmp 54), type := 4, pos := "state.go:34", after := #[{ on := 7, ground := Ground.data }, { on := 9, ground := Ground.chain }, { on := 0, ground := Ground.phase }, { on := 1, ground := Ground.phase }, { on := 2, ground := Ground.phase }, { on := 3, ground := Ground.phase }, { on := 4, ground := Ground.phase }, { on := 5, ground := Ground.phase }, { on := 6, ground := Ground.phase }, { on := 7, ground := Ground.phase }, { on := 8, ground := Ground.phase }, { on := 9, ground := Ground.phase }], guard := none }) rfl (fun K hK => ?_) AllReadyH.nil
        go_simp
        refine hK.out _ _ ?_ (fun hHeld => ?_)
        · exact hs9
        clear hK K
        try simp only [Act.put, List.setIfInBounds_toArray, List.set_cons_zero, List.set_cons_succ]
        refine wpAnyH_done (by kernel_rfl) ?_ _
        refine NoPanic.normal ?_
        have g0 := hy9.cell (j := 0) rfl
        have g1 := hy9.cell (j := 1) rfl
        have g2 := hy9.cell (j := 2) rfl
        have g3 := hy9.cell (j := 3) rfl
        have g4 := hy9.cell (j := 4) rfl
        have g5 := hy9.cell (j := 5) rfl
        have g6 := hy9.cell (j := 6) rfl
        go_wp2
        exact bodyPost_ret (v := .tuple #[.agg #[.int .i64 k'.ht, .int .i64 k'.hv, .int .i64 k'.s.ix, .int .i64 k'.s.st, .string k'.s.conf, .string k'.s.data, .slice A5 m5 c5], .int .i64 ((N : Int) + us), .bool true]) (by simp [results, Tryd.results19, go_sem, g0, g1, g2, g3, g4, g5, g6]) rfl ⟨_, rfl, HV9.out, by rw [hb]; exact hB9⟩
end Go.Proofs.YtbiecoifeeikpaaDoor
/-
  A row of so many zeros that has just been made, and its text.
  There are at most 100,000,000.
-/
set_option linter.unusedSimpArgs false
set_option linter.unusedVariables false
namespace Go.Proofs.YtbiecoifeeikpaaDoor
open Go.RowKit
set_option maxRecDepth 100000

theorem made_bytes10 (n : Nat) : (madeCells (Value.int .u8 0).cells (n * 1)).toList = Lib.byteCells (List.replicate n 0) := by
  unfold Lib.byteCells madeCells
  rw [List.map_replicate]
  apply List.ext_getElem
  · simp
  · intro i h1 h2
    simp [Value.cells, Nat.mod_one]
theorem make_zer10 (n : Nat) (hn : n ≤ 100000000) (w : World) : (Instr.makeSlice 46 (.int .i64 (n : Int)) (.int .i64 (n : Int))).run Tryd.prog w = .ok (.slice (some ⟨w.heap.size, 0, none⟩) n n) (w.alloc (.cells (madeCells #[.int .u8 0] n) 5)) :=
  run_make_row' _ _ _ 1 Tryd.underlying46 Tryd.infoU8 rfl .i64 .i64 n (by omega) (by omega) w
theorem own_zer10 (n : Nat) (hn : n ≤ 100000000) (w : World) : OwnB w.heap.size (.slice (some ⟨w.heap.size, 0, none⟩) n n) (List.replicate n 0) (w.alloc (.cells (madeCells #[.int .u8 0] n) 5)) := by
  have e : (madeCells #[.int .u8 0] n).toList = Lib.byteCells (List.replicate n 0) := by have := made_bytes10 n; rw [Nat.mul_one] at this; exact this
  have e2 : (madeCells #[.int .u8 0] n).size = n := by rw [← Array.length_toList, e]; simp [Lib.byteCells]
  unfold OwnB
  rw [List.length_replicate]
  refine ⟨by simp [Lib.byteCells], .inr ⟨w.heap.size, n, madeCells #[.int .u8 0] n, rfl, Nat.le_refl _, heap_alloc_new _ _, Nat.le_refl _, by unfold maxLen; omega, by rw [e2, Nat.mul_one], ?_⟩⟩
  rw [e, Nat.mul_one, List.take_of_length_le (by simp [Lib.byteCells])]
def zerS (n : Nat) : ByteArray := ⟨(List.replicate n (0 : UInt8)).toArray⟩
theorem zerS_size (n : Nat) : (zerS n).size = n := by unfold zerS; show (List.replicate n (0 : UInt8)).toArray.size = n; simp
theorem conv_zer10 (n : Nat) (h1 : 1 ≤ n) (hn : n ≤ 100000000) (w : World) : (convert 46 9 (.slice (some ⟨w.heap.size, 0, none⟩) n n)).run Tryd.prog (w.alloc (.cells (madeCells #[.int .u8 0] n) 5)) = .ok (.string (zerS n)) (w.alloc (.cells (madeCells #[.int .u8 0] n) 5)) :=
  conv_own (own_zer10 n hn w) (by rw [List.length_replicate]; exact h1)
end Go.Proofs.YtbiecoifeeikpaaDoor
/-
  A byte of a row of one's own is read, and written.
  There are no conditions beyond those that each lemma names.
-/
set_option linter.unusedSimpArgs false
set_option linter.unusedVariables false
namespace Go.Proofs.YtbiecoifeeikpaaDoor
open Go.RowKit
set_option maxRecDepth 100000

theorem own_set10 {B g n c k : Nat} {y : UInt8} {l : List UInt8} {w : World} (h : OwnB B (.slice (some ⟨g, 0, none⟩) n c) l w) (hn : l.length = n) (hk : k < l.length) : OwnB B (.slice (some ⟨g, 0, none⟩) n c) (l.set k y) (w.setCell ⟨g, k, none⟩ (.int .u8 (y.toNat : Int))) := by
  unfold OwnB at *
  rw [List.length_set]
  subst hn
  have e : Lib.byteCells (l.set k y) = (Lib.byteCells l).set k (.int .u8 (y.toNat : Int)) := by unfold Lib.byteCells; rw [List.map_set]
  rw [e]
  refine ⟨by rw [List.length_set]; exact h.1, ?_⟩
  rcases h.2 with ⟨hv, _⟩ | ⟨g2, c2, cur, hv, hB, hg2, h1, h2, h3, h4⟩
  · cases hv
  · injection hv with e1 _ e3
    injection e1 with e1
    injection e1 with e1 _
    subst e1; subst e3
    refine .inr ⟨g, c, cur.setIfInBounds k (.int .u8 (y.toNat : Int)), rfl, hB, heap_setCell_same w g k cur _ _ hg2, h1, h2, by simpa using h3, ?_⟩
    rw [Array.toList_setIfInBounds, List.take_set, h4]
theorem own_at10 {B n c : Nat} {A : Option Addr} {l : List UInt8} {w : World} (h : OwnB B (.slice A n c) l w) (hn : l.length = n) (k : Nat) (hk : k < n) :
    ∃ g, A = some ⟨g, 0, none⟩ ∧ B ≤ g ∧ g < w.heap.size ∧ (∀ j, w.frozen? ⟨g, j, none⟩ = false) ∧ w.cell? ⟨g, k, none⟩ = some (.int .u8 ((l[k]'(by omega)).toNat : Int)) := by
  have hlt := h.lt
  have hc := fun (g : Nat) (hg : (Value.slice A n c).ownBlock = some g) => World.ownsRow.cells h hg
  rcases h.2 with ⟨hv, h0⟩ | ⟨g, c2, cur, hv, hB, hg, _⟩
  · omega
  · injection hv with e1 _ _
    subst e1
    refine ⟨g, rfl, hB, (hlt g rfl).2, fun j => frozen_of_row w g j cur _ hg, ?_⟩
    have h2 := hc g rfl k (.int .u8 ((l[k]'(by omega)).toNat : Int)) (by simp [Lib.byteCells, show k < l.length by omega])
    rw [Addr.add_mid, Nat.zero_add] at h2; exact h2
theorem u8_of10 (k : Nat) : IntKind.u8.wrap (k : Int) = ((UInt8.ofNat k).toNat : Int) := by
  rw [IntKind.wrap_u8]
  simp
end Go.Proofs.YtbiecoifeeikpaaDoor
/-
  The beginning of a row of one's own.
  There are no conditions beyond those that each lemma names.
-/
set_option linter.unusedSimpArgs false
set_option linter.unusedVariables false
namespace Go.Proofs.YtbiecoifeeikpaaDoor
open Go.RowKit
set_option maxRecDepth 100000

theorem own_take10 {B n c j : Nat} {A : Option Addr} {l : List UInt8} {w : World} (h : OwnB B (.slice A n c) l w) (hn : l.length = n) (hj : j ≤ n) : OwnB B (.slice A j c) (l.take j) w := by
  unfold OwnB at *
  have ej : (l.take j).length = j := by rw [List.length_take]; omega
  rw [ej]
  subst hn
  have e : Lib.byteCells (l.take j) = (Lib.byteCells l).take j := by unfold Lib.byteCells; rw [List.map_take]
  have ec : (Lib.byteCells l).length = l.length := by simp [Lib.byteCells]
  rw [e]
  refine ⟨by rw [List.length_take, ec]; omega, ?_⟩
  rcases h.2 with ⟨hv, h0⟩ | ⟨g2, c2, cur, hv, hB, hg2, h1, h2, h3, h4⟩
  · injection hv with e1 e2 e3
    subst e1; subst e3
    have : j = 0 := by omega
    subst this
    exact .inl ⟨rfl, rfl⟩
  · injection hv with e1 _ e3
    subst e1; subst e3
    refine .inr ⟨g2, c, cur, rfl, hB, hg2, by omega, h2, h3, ?_⟩
    rw [← h4, List.take_take]
    congr 1
    omega
end Go.Proofs.YtbiecoifeeikpaaDoor
