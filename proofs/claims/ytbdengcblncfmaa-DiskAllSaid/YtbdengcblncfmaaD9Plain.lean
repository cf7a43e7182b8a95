/-
  A disk's files as plain data: put into their place by name, told by name; what a crash leaves.
  There are no conditions.
-/
import Derived.Test.YtbdengcblncfmaaWBytes
import Derived.Maps.OwnSet
import Derived.Sort.KeysCollected
set_option linter.unusedSimpArgs false
set_option linter.unusedVariables false
namespace Go.Proofs.Ytbdengcblncfmaa
open Go.RowKit
set_option maxRecDepth 100000

/-- a file: its name, its bytes, how many of them last, whether it is there for good -/
structure Fil where
  name : ByteArray
  b : List UInt8
  fast : Nat
  there : Bool
def low8 (c : UInt8) : Bool := decide (97 ≤ c.toNat ∧ c.toNat ≤ 122)
/-- may a file be called so? -/
def goodN (s : ByteArray) : Bool := s.data.toList.all low8 && decide (1 ≤ s.size ∧ s.size ≤ 10)
/-- how many loose bytes of a file stay -/
def kOf9 (n : Int) (f : Fil) : Nat := if 0 < n then (n.tmod ((f.b.length : Int) - f.fast + 1)).toNat else 0
/-- what a crash leaves of a file -/
def left9 (n : Int) (f : Fil) : List Fil := if f.there = true ∨ 0 < kOf9 n f then [⟨f.name, f.b.take (f.fast + kOf9 n f), f.fast + kOf9 n f, true⟩] else []
def crash9 (n : Int) (l : List Fil) : List Fil := l.flatMap (left9 n)
theorem kOf9_le {n : Int} {f : Fil} (h : f.fast ≤ f.b.length) : f.fast + kOf9 n f ≤ f.b.length := by
  unfold kOf9
  split
  · have h1 := Int.tmod_lt_of_pos n (show (0 : Int) < (f.b.length : Int) - f.fast + 1 by omega)
    omega
  · omega
theorem kOf9_pos {n : Int} {f : Fil} (h : 0 < n) (hf : f.fast ≤ f.b.length) : n.tmod ((f.b.length : Int) - f.fast + 1) = (kOf9 n f : Nat) := by
  unfold kOf9
  rw [if_pos h]
  have := Int.tmod_nonneg ((f.b.length : Int) - f.fast + 1) (show 0 ≤ n by omega)
  omega
theorem kOf9_neg {n : Int} {f : Fil} (h : ¬ 0 < n) : kOf9 n f = 0 := by unfold kOf9; rw [if_neg h]
/-- one name ahead of another -/
def ltK (a b : ByteArray) : Bool := bytesBefore a.data.toList b.data.toList
theorem ltK_irrefl (a : ByteArray) : ltK a a = false := WideShapes.before_irrefl (.string a.data.toList)
theorem ltK_trans {a b c : ByteArray} (h1 : ltK a b = true) (h2 : ltK b c = true) : ltK a c = true := WideShapes.before_trans (a := .string a.data.toList) (b := .string b.data.toList) (c := .string c.data.toList) h1 h2
theorem name_ext {a b : ByteArray} (h : a.data.toList = b.data.toList) : a = b := by
  cases a; cases b; congr 1; exact Array.toList_inj.1 h
theorem ltK_total {a b : ByteArray} (h : a ≠ b) (h2 : ltK a b = false) : ltK b a = true := by
  rcases ChangeMaps.before_total (a := .string a.data.toList) (b := .string b.data.toList) ⟨_, rfl⟩ ⟨_, rfl⟩ (fun e => h (name_ext (by injection e))) with h3 | h3
  · have h4 : ltK a b = true := h3
    rw [h2] at h4; cases h4
  · exact h3
theorem ltK_ne {a b : ByteArray} (h : ltK a b = true) : a ≠ b := fun e => by rw [e, ltK_irrefl] at h; cases h
def Sorted9 (l : List Fil) : Prop := l.Pairwise fun x y => ltK x.name y.name = true
def Good9 (f : Fil) : Prop := goodN f.name = true ∧ f.fast ≤ f.b.length ∧ f.b.length ≤ 1048576 ∧ (f.there = false → f.fast = 0)
/-- the file of that name -/
def getF (n : ByteArray) (l : List Fil) : Option Fil := l.find? fun f => decide (f.name = n)
/-- a file put in its place -/
def setF (f : Fil) : List Fil → List Fil
  | [] => [f]
  | x :: t => if f.name = x.name then f :: t else if ltK f.name x.name = true then f :: x :: t else x :: setF f t
/-- the same of files with what holds their bytes -/
def setP (q : Fil × Value) : List (Fil × Value) → List (Fil × Value)
  | [] => [q]
  | x :: t => if q.1.name = x.1.name then q :: t else if ltK q.1.name x.1.name = true then q :: x :: t else x :: setP q t
theorem setP_map (q : Fil × Value) (ps : List (Fil × Value)) : (setP q ps).map (·.1) = setF q.1 (ps.map (·.1)) := by
  induction ps with
  | nil => rfl
  | cons x t ih =>
    unfold setP; rw [List.map_cons]; unfold setF
    split
    · rfl
    · split
      · rfl
      · rw [List.map_cons, ih]
theorem setP_mem {q p : Fil × Value} {ps : List (Fil × Value)} (hp : p ∈ setP q ps) : p = q ∨ p ∈ ps := by
  induction ps with
  | nil => left; simpa [setP] using hp
  | cons x t ih =>
    unfold setP at hp
    split at hp
    · rcases List.mem_cons.1 hp with h | h
      · exact .inl h
      · exact .inr (List.mem_cons_of_mem _ h)
    · split at hp
      · rcases List.mem_cons.1 hp with h | h
        · exact .inl h
        · exact .inr h
      · rcases List.mem_cons.1 hp with h | h
        · exact .inr (by rw [h]; exact List.mem_cons_self)
        · rcases ih h with h | h
          · exact .inl h
          · exact .inr (List.mem_cons_of_mem _ h)
theorem setF_mem {f x : Fil} {l : List Fil} (hp : x ∈ setF f l) : x = f ∨ x ∈ l := by
  induction l with
  | nil => left; simpa [setF] using hp
  | cons y t ih =>
    unfold setF at hp
    split at hp
    · rcases List.mem_cons.1 hp with h | h
      · exact .inl h
      · exact .inr (List.mem_cons_of_mem _ h)
    · split at hp
      · rcases List.mem_cons.1 hp with h | h
        · exact .inl h
        · exact .inr h
      · rcases List.mem_cons.1 hp with h | h
        · exact .inr (by rw [h]; exact List.mem_cons_self)
        · rcases ih h with h | h
          · exact .inl h
          · exact .inr (List.mem_cons_of_mem _ h)
/-- in a sorted list: no other file of that name stays -/
theorem setP_mem_ne {q p : Fil × Value} {ps : List (Fil × Value)} (hs : ps.Pairwise fun x y => ltK x.1.name y.1.name = true) (hp : p ∈ setP q ps) : p = q ∨ (p ∈ ps ∧ p.1.name ≠ q.1.name) := by
  induction ps with
  | nil => left; simpa [setP] using hp
  | cons x t ih =>
    obtain ⟨h1, h2⟩ := List.pairwise_cons.1 hs
    unfold setP at hp
    split at hp
    · rename_i he
      rcases List.mem_cons.1 hp with h | h
      · exact .inl h
      · exact .inr ⟨List.mem_cons_of_mem _ h, by rw [he]; exact (ltK_ne (h1 p h)).symm⟩
    · rename_i hne
      split at hp
      · rename_i hlt
        rcases List.mem_cons.1 hp with h | h
        · exact .inl h
        · refine .inr ⟨h, ?_⟩
          rcases List.mem_cons.1 h with h | h
          · rw [h]; exact (ltK_ne hlt).symm
          · exact (ltK_ne (ltK_trans hlt (h1 p h))).symm
      · rcases List.mem_cons.1 hp with h | h
        · exact .inr ⟨by rw [h]; exact List.mem_cons_self, by rw [h]; exact fun e => hne e.symm⟩
        · rcases ih h2 h with h | h
          · exact .inl h
          · exact .inr ⟨List.mem_cons_of_mem _ h.1, h.2⟩
theorem setF_sorted {f : Fil} {l : List Fil} (h : Sorted9 l) : Sorted9 (setF f l) := by
  unfold Sorted9 at *
  induction l with
  | nil => simp [setF]
  | cons x t ih =>
    obtain ⟨h1, h2⟩ := List.pairwise_cons.1 h
    unfold setF
    split
    · rename_i he
      exact List.pairwise_cons.2 ⟨fun y hy => by rw [he]; exact h1 y hy, h2⟩
    · rename_i hne
      split
      · rename_i hlt
        refine List.pairwise_cons.2 ⟨fun y hy => ?_, h⟩
        rcases List.mem_cons.1 hy with e | hy
        · rw [e]; exact hlt
        · exact ltK_trans hlt (h1 y hy)
      · rename_i hlt
        refine List.pairwise_cons.2 ⟨fun y hy => ?_, ih h2⟩
        rcases setF_mem hy with e | hy
        · rw [e]; exact ltK_total hne (by simpa using hlt)
        · exact h1 y hy
theorem setF_len (f : Fil) (l : List Fil) : (setF f l).length ≤ l.length + 1 := by
  induction l with
  | nil => exact Nat.le_refl _
  | cons x t ih =>
    unfold setF
    split
    · exact Nat.le_succ _
    · split
      · exact Nat.le_refl _
      · rw [List.length_cons, List.length_cons]; omega
/-- a file told that was just put -/
theorem getF_set (f : Fil) (l : List Fil) : getF f.name (setF f l) = some f := by
  unfold getF
  induction l with
  | nil => simp [setF]
  | cons x t ih =>
    unfold setF
    split
    · simp
    · rename_i hne
      split
      · simp
      · rw [List.find?_cons_of_neg (by simpa using fun e : x.name = f.name => hne e.symm)]; exact ih
theorem getF_mem {n : ByteArray} {l : List Fil} {f : Fil} (h : getF n l = some f) : f ∈ l ∧ f.name = n := by
  unfold getF at h
  exact ⟨List.mem_of_find?_eq_some h, by simpa using List.find?_some h⟩

/-! ### the map's datum -/
def kq (p : Fil × Value) : Lit × DataW Value := (.string p.1.name.data.toList, .held (.agg #[p.2, .int .i64 ((p.1.fast : Nat) : Int), .bool p.1.there]))
def DD (ps : List (Fil × Value)) : DataW Value := .map (ps.map kq)
def RH (v : Value) : Option (DataW Value × List MemPlace) := some (.held v, [])
theorem same_name {a b : ByteArray} : (Lit.string a.data.toList).sameKey (.string b.data.toList) = decide (a = b) := by
  by_cases h : a = b
  · subst h; simp [Lit.sameKey]
  · have h2 : ¬ a.data.toList = b.data.toList := fun e => h (name_ext e)
    rw [decide_eq_false h]
    show (a.data.toList == b.data.toList) = false
    exact beq_eq_false_iff_ne.2 h2
theorem filter_all9 {n : ByteArray} {t : List (Fil × Value)} (h : ∀ p ∈ t, p.1.name ≠ n) : (t.map kq).filter (fun p => !p.1.sameKey (.string n.data.toList)) = t.map kq := by
  rw [List.filter_eq_self]
  intro a ha
  obtain ⟨p, hp, rfl⟩ := List.mem_map.1 ha
  show (!(Lit.string p.1.name.data.toList).sameKey (.string n.data.toList)) = true
  rw [same_name, decide_eq_false (h p hp)]; rfl
theorem insert_head9 {q : Fil × Value} {t : List (Fil × Value)} (h : ∀ p ∈ t, ltK q.1.name p.1.name = true) : DataW.insert (kq q) (t.map kq) = (q :: t).map kq := by
  cases t with
  | nil => rfl
  | cons x t =>
    rw [List.map_cons]
    unfold DataW.insert
    rw [if_pos (show (kq q).1.before (kq x).1 = true from h x List.mem_cons_self)]; rfl
theorem put_list9 (q : Fil × Value) (ps : List (Fil × Value)) (hs : ps.Pairwise fun x y => ltK x.1.name y.1.name = true) :
    DataW.insert (kq q) ((ps.map kq).filter fun p => !p.1.sameKey (.string q.1.name.data.toList)) = (setP q ps).map kq := by
  induction ps with
  | nil => rfl
  | cons x t ih =>
    obtain ⟨h1, h2⟩ := List.pairwise_cons.1 hs
    unfold setP
    rw [List.map_cons]
    split
    · rename_i he
      rw [List.filter_cons_of_neg (by show ¬ (!(Lit.string x.1.name.data.toList).sameKey (.string q.1.name.data.toList)) = true; rw [same_name, decide_eq_true he.symm]; simp)]
      rw [filter_all9 (fun p hp => by rw [he]; exact (ltK_ne (h1 p hp)).symm)]
      exact insert_head9 (fun p hp => by rw [he]; exact h1 p hp)
    · rename_i hne
      rw [List.filter_cons_of_pos (by show (!(Lit.string x.1.name.data.toList).sameKey (.string q.1.name.data.toList)) = true; rw [same_name, decide_eq_false (fun e => hne e.symm)]; rfl)]
      split
      · rename_i hlt
        rw [filter_all9 (fun p hp => (ltK_ne (ltK_trans hlt (h1 p hp))).symm), ← List.map_cons]
        refine insert_head9 (fun p hp => ?_)
        rcases List.mem_cons.1 hp with e | hp
        · rw [e]; exact hlt
        · exact ltK_trans hlt (h1 p hp)
      · rename_i hlt
        unfold DataW.insert
        rw [if_neg (show ¬ (kq q).1.before (kq x).1 = true from hlt), ih h2]; rfl
theorem dd_put (q : Fil × Value) (ps : List (Fil × Value)) (hs : ps.Pairwise fun x y => ltK x.1.name y.1.name = true) : (DD ps).put (.string q.1.name.data.toList) (kq q).2 = DD (setP q ps) := congrArg DataW.map (put_list9 q ps hs)
theorem dd_has (n : ByteArray) (ps : List (Fil × Value)) : Maps.has (DD ps) (.string n.data.toList) = ps.any fun p => decide (p.1.name = n) := by
  show (ps.map kq).any _ = _
  rw [List.any_map]
  congr 1; funext p
  exact same_name
theorem dd_at (n : ByteArray) (ps : List (Fil × Value)) (z : DataW Value) : (DD ps).atKey (.string n.data.toList) z = (match ps.find? (fun p => decide (p.1.name = n)) with | some p => (kq p).2 | none => z) := by
  unfold DD DataW.atKey
  simp only
  rw [List.find?_map]
  have e : ((fun p : Lit × DataW Value => p.1.sameKey (.string n.data.toList)) ∘ kq) = fun p : Fil × Value => decide (p.1.name = n) := by funext p; exact same_name
  rw [e]
  cases ps.find? (fun p => decide (p.1.name = n)) <;> rfl
theorem dd_size (ps : List (Fil × Value)) : Maps.size (DD ps) = ps.length := by
  show (ps.map kq).length = _
  rw [List.length_map]
theorem dd_keys (ps : List (Fil × Value)) : strKeys (DD ps) = ps.map fun p => p.1.name.data.toList := by
  show (ps.map kq).map _ = _
  rw [List.map_map]; rfl
theorem find_map9 (n : ByteArray) (ps : List (Fil × Value)) : getF n (ps.map (·.1)) = (ps.find? fun p => decide (p.1.name = n)).map (·.1) := by
  unfold getF
  rw [List.find?_map]; rfl
end Go.Proofs.Ytbdengcblncfmaa
