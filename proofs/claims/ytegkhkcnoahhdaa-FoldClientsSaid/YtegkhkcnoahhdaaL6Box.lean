/-
  A slice of bytes that the call has just made, turned into a text.
-/
import Derived.Test.YtegkhkcnoahhdaaProg
import Derived.Test.YtegkhkcnoahhdaaWBase
import Derived.Test.YtegkhkcnoahhdaaL6Begun
import Derived.Test.YtegkhkcnoahhdaaDApply
import Derived.Test.YtegkhkcnoahhdaaL6Same
import Derived.Test.YtegkhkcnoahhdaaL5CutBatch
import Derived.Test.YtegkhkcnoahhdaaL5Open
import Derived.Test.YtegkhkcnoahhdaaOpPlain
import Derived.Test.YtegkhkcnoahhdaaReApply
import Derived.Shelf.Bytes.SlEqualAll
import Derived.Deep.AppendLies
set_option linter.unusedSimpArgs false
set_option linter.unusedVariables false
namespace Go.Proofs.Ytegkhkcnoahhdaa
open Go.RowKit
set_option maxRecDepth 100000

theorem conv_new (w : World) (C : Array Value) (n : Nat) (xs : List Int) (hn : xs.length = n) (hC : C = (xs.map (Value.int .u8)).toArray) :
    (convert 22 9 (.slice (some ⟨w.heap.size, 0, none⟩) n n)).run Try.prog (w.alloc (.cells C 5)) = .ok (.string (strOfNums xs)) (w.alloc (.cells C 5)) := by
  refine run_convert_bytes_arg (w.alloc (.cells C 5)) 22 5 Try.underlying22 Try.underlying5 w.heap.size 0 n n xs hn (fun i hi => ?_) 9 Try.underlying9
  rw [World.cell?_alloc_mark, hC]
  simp [hn, hi, List.getD]

theorem conv1 (w : World) (a : Int) : (convert 22 9 (.slice (some ⟨w.heap.size, 0, none⟩) 1 1)).run Try.prog (w.alloc (.cells #[.int .u8 a] 5)) = .ok (.string (strOfNums [a])) (w.alloc (.cells #[.int .u8 a] 5)) := conv_new w _ 1 [a] rfl rfl

theorem conv2 (w : World) (a b : Int) : (convert 22 9 (.slice (some ⟨w.heap.size, 0, none⟩) 2 2)).run Try.prog (w.alloc (.cells #[.int .u8 a, .int .u8 b] 5)) = .ok (.string (strOfNums [a, b])) (w.alloc (.cells #[.int .u8 a, .int .u8 b] 5)) := conv_new w _ 2 [a, b] rfl rfl

theorem conv3 (w : World) (a b c : Int) : (convert 22 9 (.slice (some ⟨w.heap.size, 0, none⟩) 3 3)).run Try.prog (w.alloc (.cells #[.int .u8 a, .int .u8 b, .int .u8 c] 5)) = .ok (.string (strOfNums [a, b, c])) (w.alloc (.cells #[.int .u8 a, .int .u8 b, .int .u8 c] 5)) := conv_new w _ 3 [a, b, c] rfl rfl

theorem conv4 (w : World) (a b c d : Int) : (convert 22 9 (.slice (some ⟨w.heap.size, 0, none⟩) 4 4)).run Try.prog (w.alloc (.cells #[.int .u8 a, .int .u8 b, .int .u8 c, .int .u8 d] 5)) = .ok (.string (strOfNums [a, b, c, d])) (w.alloc (.cells #[.int .u8 a, .int .u8 b, .int .u8 c, .int .u8 d] 5)) := conv_new w _ 4 [a, b, c, d] rfl rfl
end Go.Proofs.Ytegkhkcnoahhdaa
/-
  Plain facts on documents as sets of pairs, with no program's run in them: what is put and deleted again, groups with an error, how many keys there are.
  The documents are good ones.
-/
namespace Go.Proofs.Ytegkhkcnoahhdaa
open Go.RowKit
set_option maxRecDepth 100000

theorem setGo_in2 (key : ByteArray) (x : Raw) (p : Par) : ∀ (l : List Par) (b : Bool), p ∈ setGo key x b l ↔ (b = false ∧ p = ⟨key, x⟩) ∨ (p ∈ l ∧ p.k ≠ key)
  | [], b => by cases b <;> simp [setGo]
  | q :: t, b => by
    have ih := setGo_in2 key x p t
    have hs : (q.k.data.toList == key.data.toList) = true ↔ q.k = key := by
      rw [beq_iff_eq]; exact ⟨fun h => bytes_eq h, fun h => by rw [h]⟩
    unfold setGo
    by_cases hq : q.k = key
    · have h1 := hs.2 hq
      rw [h1]
      cases b <;> cases hl : lesB q.k key <;> simp [ih, hq]
      all_goals grind
    · have h1 : (q.k.data.toList == key.data.toList) = false := by
        cases h : (q.k.data.toList == key.data.toList) with
        | false => rfl
        | true => exact absurd (hs.1 h) hq
      rw [h1]
      cases b <;> cases hl : lesB q.k key <;> simp [ih]
      all_goals grind
theorem dSet_in (l : List Par) (key : ByteArray) (x : Raw) (p : Par) : p ∈ dSet l key x ↔ (x.kind ≠ 0 ∧ p = ⟨key, x⟩) ∨ (p ∈ l ∧ p.k ≠ key) := by
  unfold dSet
  rw [setGo_in2]
  simp
theorem srt_nodup {l : List Par} (h : Srt l) : l.Nodup := by
  unfold Srt at h
  refine List.Pairwise.imp (R := fun p q => lesB p.k q.k = true) (fun {a b} hab e => ?_) h
  subst e
  rw [lesB_self] at hab; cases hab
theorem srt_ext {l m : List Par} (h : Srt l) (h' : Srt m) (he : ∀ p, p ∈ l ↔ p ∈ m) : l = m := by
  have hp : l.Perm m := (List.perm_ext_iff_of_nodup (srt_nodup h) (srt_nodup h')).2 he
  refine List.Perm.eq_of_pairwise (le := fun (p q : Par) => lesB p.k q.k = true) (fun a b _ _ h1 h2 => ?_) h h' hp
  rw [lesB_asym h1] at h2; cases h2
theorem hasK_none {l : List Par} (h : Srt l) {key : ByteArray} (hn : hasK l key = false) : ∀ p ∈ l, p.k ≠ key := fun p hp e => by
  have h1 := dGet_there h key
  rw [hn] at h1
  unfold dGet at h1
  have h2 : (l.find? fun q => q.k.data.toList == key.data.toList).isSome = true := List.find?_isSome.2 ⟨p, hp, by rw [e]; exact beq_self_eq_true _⟩
  obtain ⟨q, hq⟩ := Option.isSome_iff_exists.1 h2
  rw [hq] at h1; cases h1
theorem apGo_err : ∀ (os : List Opn) (d0 x : List Par), (apGo d0 x os).2 ≠ 0 → (apGo d0 x os).1 = d0
  | [], d0, x, h => absurd rfl h
  | o :: t, d0, x, h => by
    rw [apGo_cons] at h ⊢
    split
    · rename_i he
      rw [if_pos he] at h
      exact apGo_err t d0 _ h
    · rfl
theorem dApply_err {l : List Par} {os : List Opn} (h : (dApply l os).2 ≠ 0) : (dApply l os).1 = l := by
  unfold dApply at *
  split
  · rfl
  · rename_i h1
    rw [if_neg h1] at h
    exact apGo_err os l l h
theorem apGo_len : ∀ (os : List Opn) (d0 x : List Par), (apGo d0 x os).1.length ≤ max d0.length (x.length + os.length)
  | [], d0, x => by simp [apGo]; omega
  | o :: t, d0, x => by
    rw [apGo_cons]
    split
    · have h1 := apGo_len t d0 (opDo x o)
      have h2 := dSet_len x o.key (apV (dGet x o.key).1 o)
      unfold opDo at *
      rw [List.length_cons]; omega
    · show d0.length ≤ _; omega
theorem dApply_len (os : List Opn) : (dApply [] os).1.length ≤ 8 := by
  unfold dApply
  split
  · simp
  · have h1 := apGo_len os [] []
    simp at h1; omega
/-- a put of a number, a deletion -/
def putO (key : ByteArray) (n : Int) : Opn := ⟨1, key, ⟨1, n, ⟨#[]⟩⟩, zR, 0⟩
def delO (key : ByteArray) : Opn := ⟨2, key, zR, zR, 0⟩
theorem putO_may {key : ByteArray} (n : Int) (h : Ru.key key.data.toList = true) : mayO (putO key n) = true := by
  unfold mayO putO; simp only; rw [h]; rfl
theorem delO_may {key : ByteArray} (h : Ru.key key.data.toList = true) : mayO (delO key) = true := by
  unfold mayO delO; simp only; rw [h]; rfl
theorem putO_ok {key : ByteArray} {n : Int} (h : key.size ≤ 1000000) (hn : i64 n) : (putO key n).ok :=
  ⟨⟨by show (-9223372036854775808 : Int) ≤ 1; decide, by show (1 : Int) ≤ _; decide⟩, h, ⟨⟨by show (-9223372036854775808 : Int) ≤ 1; decide, by show (1 : Int) ≤ _; decide⟩, hn, by show (⟨#[]⟩ : ByteArray).size ≤ _; decide⟩, zR_ok, ⟨by show (-9223372036854775808 : Int) ≤ 0; decide, by show (0 : Int) ≤ _; decide⟩⟩
theorem delO_ok {key : ByteArray} (h : key.size ≤ 1000000) : (delO key).ok :=
  ⟨⟨by show (-9223372036854775808 : Int) ≤ 2; decide, by show (2 : Int) ≤ _; decide⟩, h, zR_ok, zR_ok, ⟨by show (-9223372036854775808 : Int) ≤ 0; decide, by show (0 : Int) ≤ _; decide⟩⟩
theorem putO_err {l : List Par} {key : ByteArray} {n : Int} (h : Ru.key key.data.toList = true) (hl : l.length < 50 ∨ (dGet l key).2 = true) : opErr l (putO key n) = 0 := by
  unfold opErr
  rw [putO_may n h, if_neg (by decide), if_neg (by rintro ⟨h1, _⟩; revert h1; show ¬ (1 : Int) = _; decide), if_neg (by rintro ⟨h1, _⟩; revert h1; show ¬ (1 : Int) = _; decide), if_neg (by rintro ⟨h1, _⟩; revert h1; show ¬ (1 : Int) = _; decide), if_neg]
  rintro ⟨_, h2, h3⟩
  rcases hl with h4 | h4
  · omega
  · have h5 : (dGet l key).2 = false := h2
    rw [h4] at h5; cases h5
theorem putO_do (l : List Par) (key : ByteArray) (n : Int) : opDo l (putO key n) = dSet l key ⟨1, n, ⟨#[]⟩⟩ := rfl
theorem delO_err {l : List Par} {key : ByteArray} (h : Ru.key key.data.toList = true) : opErr l (delO key) = 0 := by
  unfold opErr
  rw [delO_may h, if_neg (by decide), if_neg (by rintro ⟨h1, _⟩; revert h1; show ¬ (2 : Int) = _; decide), if_neg (by rintro ⟨h1, _⟩; revert h1; show ¬ (2 : Int) = _; decide), if_neg (by rintro ⟨h1, _⟩; revert h1; show ¬ (2 : Int) = _; decide), if_neg]
  rintro ⟨h1, _⟩
  exact h1 rfl
theorem delO_do (l : List Par) (key : ByteArray) : opDo l (delO key) = dSet l key zR := rfl
theorem dApply_one (l : List Par) (o : Opn) (h : opErr l o = 0) : dApply l [o] = (opDo l o, 0) := by
  unfold dApply
  rw [if_neg (by simp), apGo_cons, if_pos h]; rfl
theorem dApply_one_err (l : List Par) (o : Opn) (h : opErr l o ≠ 0) : dApply l [o] = (l, opErr l o) := by
  unfold dApply
  rw [if_neg (by simp), apGo_cons, if_neg h]
theorem dApply_two (l : List Par) (o p : Opn) (h : opErr l o = 0) (h' : opErr (opDo l o) p = 0) : dApply l [o, p] = (opDo (opDo l o) p, 0) := by
  unfold dApply
  rw [if_neg (by simp), apGo_cons, if_pos h, apGo_cons, if_pos h']; rfl
/-- what is put where nothing was, and deleted, leaves what was there -/
theorem put_del {l : List Par} (h : Srt l) {key : ByteArray} (hn : hasK l key = false) (n : Int) : dSet (dSet l key ⟨1, n, ⟨#[]⟩⟩) key zR = l := by
  refine srt_ext (srt_set (srt_set h _ _) _ _) h (fun p => ?_)
  rw [dSet_in, dSet_in]
  have h1 := hasK_none h hn
  constructor
  · rintro (⟨h2, _⟩ | ⟨⟨_, rfl⟩ | ⟨h2, _⟩, h3⟩)
    · exact absurd rfl h2
    · exact absurd rfl h3
    · exact h2
  · intro hp
    exact .inr ⟨.inr ⟨hp, h1 p hp⟩, h1 p hp⟩
theorem put_ne {l : List Par} (h : Srt l) {key : ByteArray} (hn : hasK l key = false) (n : Int) : dSet l key ⟨1, n, ⟨#[]⟩⟩ ≠ l := fun e => by
  have h1 : (⟨key, ⟨1, n, ⟨#[]⟩⟩⟩ : Par) ∈ dSet l key ⟨1, n, ⟨#[]⟩⟩ := (dSet_in _ _ _ _).2 (.inl ⟨by show (1 : Int) ≠ 0; decide, rfl⟩)
  rw [e] at h1
  exact hasK_none h hn _ h1 rfl
end Go.Proofs.Ytegkhkcnoahhdaa
/-
  What the walks of stage 6's laws ask for: operations that are cut, the reference's document beside the program's, bytes as texts.
  The operations' integers are in their ranges; documents are good ones.
-/
namespace Go.Proofs.Ytegkhkcnoahhdaa
open Go.RowKit
set_option maxRecDepth 100000

theorem fit_ints6 {o : Opn} (h : o.fit) : o.ints := ⟨h.1, h.2.2.2.2, h.2.2.1.1, h.2.2.1.2.1, h.2.2.2.1.1, h.2.2.2.1.2.1⟩
theorem cell_in6 {w : World} {a : Addr} {v : Value} (h : w.cell? a = some v) : a.block < w.heap.size := by
  unfold World.cell? at h
  by_cases hb : a.block < w.heap.size
  · exact hb
  · rw [Array.getElem?_eq_none (by omega)] at h; simp at h
theorem prs_grown {w w' : World} {B C g : Nat} {v : Value} {l m : List Par} (h : Prs w B v l) (hd : Dc w C g m) (hb : w.grownBy w' (some g)) : Prs w' B v l := by
  obtain ⟨A, c, hv, hc, hcell⟩ := h
  refine ⟨A, c, hv, hc, fun hn => ?_⟩
  obtain ⟨g', o, hA, hg, hcs⟩ := hcell hn
  have hne : g' ≠ g := fun e => by
    subst e
    obtain ⟨_, v2, hd2⟩ := hd
    obtain ⟨A3, m3, c3, rfl⟩ := own_slice3 hd2.own
    have h0 := hcs 0 hn 0 (.string l[0].k) rfl
    have h1 := hd2.here
    rw [cell_of_row w g' _ [Value.slice A3 m3 c3].toArray 59 (0, 0) h1] at h0
    have h2 : ∀ j : Nat, [Value.slice A3 m3 c3].toArray[j]? = some (.string l[0].k) → False := fun j hj => by
      cases j with
      | zero => simp at hj
      | succ j => simp at hj
    exact h2 _ (by simpa using h0)
  refine ⟨g', o, hA, hg, fun k hk j z hj => ?_⟩
  have hz := hcs k hk j z hj
  exact (hb.cell_far _ (cell_in6 hz) (fun e => hne (by injection e))).trans hz
theorem prs_nil (w : World) (B : Nat) : Prs w B (.slice none 0 0) [] := ⟨none, 0, rfl, Nat.le_refl _, fun h => absurd h (by simp)⟩
theorem byt_in6 {w : World} {B : Nat} {A : Option Addr} {n c : Nat} {l : List UInt8} (h : Byt w B (.slice A n c) l) : Lib.BytesIn w A n (l.map fun x => (x.toNat : Int)) := by
  obtain ⟨A', c', hv, _, hcell⟩ := h
  injection hv with e1 e2 _; subst e1; subst e2
  intro hn
  obtain ⟨g, o, rfl, _, hcs⟩ := hcell hn
  refine ⟨g, o, rfl, fun i hi => ?_⟩
  rw [hcs i hi]; simp [hi]
theorem conv6 {w : World} {B n c : Nat} {A : Option Addr} {l : List UInt8} {S : ByteArray} (h : Byt w B (.slice A n c) l) (hS : (⟨l.toArray⟩ : ByteArray) = S) : (convert 22 9 (.slice A n c)).run Try.prog w = .ok (.string S) w := by
  have e : n = l.length := by obtain ⟨_, _, hv, _⟩ := h; injection hv
  rw [(byt_in6 h).convert (by rw [List.length_map, e]) c 22 5 9 Try.underlying22 Try.underlying5 Try.underlying9, ← hS]
  congr 2
  unfold strOfNums
  rw [List.map_map]
  congr 2
  conv => rhs; rw [← List.map_id l]
  apply List.map_congr_left; intro x _; simp
def Meet6 (R : Act → World → Prop) : Exit → Act → World → Prop
  | .normal, a, W => R a W
  | _, _, _ => False
theorem wp_meet6 {P : Program} {c : Code} {Q : Exit → Act → World → Prop} {a : Act} {w : World} (R : Act → Act → World → Prop) (h1 : c.wp P (Meet6 (R a)) a w) (h2 : ∀ b W, R a b W → Q .normal b W) : c.wp P Q a w :=
  Code.wp_mono (fun e b W h => by
    cases e with
    | normal => exact h2 b W h
    | _ => exact h.elim) h1
theorem list_beq6 (S T : ByteArray) : (S.toList == T.toList) = (S == T) := by
  cases h : (S == T) with
  | true => have e := (bytes_beq2 S T).1 h; subst e; exact beq_self_eq_true _
  | false =>
    rw [beq_eq_false_iff_ne]
    intro e
    have e2 := toList_inj e
    subst e2
    rw [(bytes_beq2 S S).2 rfl] at h; cases h
/-- two good documents have one text just if they are one -/
theorem text_eq {l m : List Par} (h : Gd l) (h' : Gd m) (S T : ByteArray) (hS : (⟨(bytesD l).toArray⟩ : ByteArray) = S) (hT : (⟨(bytesD m).toArray⟩ : ByteArray) = T) : (S.toList == T.toList) = eqD l m := by
  rw [list_beq6]
  cases hq : eqD l m with
  | true =>
    have := eqD_eq hq
    subst this
    rw [← hS, ← hT]; exact (bytes_beq2 _ _).2 rfl
  | false =>
    cases hs : (S == T) with
    | false => rfl
    | true =>
      exfalso
      have h2 := (bytes_beq2 S T).1 hs
      rw [← hS, ← hT] at h2
      have h3 : bytesD l = bytesD m := by injection h2 with h2; simpa using h2
      have h4 := bytesD_inj h h' h3
      rw [h4, eqD_self] at hq; cases hq
end Go.Proofs.Ytegkhkcnoahhdaa
/-
  Boxes of one cell beside documents, rows and operations: a store into one of them leaves the others.
  There are no conditions beyond those that each lemma names.
-/
namespace Go.Proofs.Ytegkhkcnoahhdaa
open Go.RowKit
set_option maxRecDepth 100000

theorem LT9 {P : Prop} (h : P := by first | (simp; done) | (simp; omega) | omega) : P := h
theorem BL9 {P : Prop} (h : P := by repeat' (first | with_reducible exact Below.refl _ _ | (with_reducible refine Below.alloc ?_ ?_ _) | (with_reducible refine Below.setCell ?_ ?_ _) | exact (by first | (simp; done) | (simp; omega) | omega))) : P := h
theorem BB9 {w k l : World} (h : Below w.heap.size w k) (h1 : Below k.heap.size k l := by repeat' (first | with_reducible exact Below.refl _ _ | (with_reducible refine Below.alloc ?_ ?_ _) | (with_reducible refine Below.setCell ?_ ?_ _) | exact (by first | (simp; done) | (simp; omega) | omega))) : Below w.heap.size w l := h.trans (h1.mono h.size)
theorem HK9 {o l k : World} (h : Below l.heap.size l k) (h1 : Below o.heap.size o l := by repeat' (first | with_reducible exact Below.refl _ _ | (with_reducible refine Below.alloc ?_ ?_ _) | (with_reducible refine Below.setCell ?_ ?_ _) | exact (by first | (simp; done) | (simp; omega) | omega))) : Below o.heap.size o k := h1.trans (h.mono h1.size)
/-- block G is a box of one cell of type t, and holds v -/
def Bx1 (w : World) (G : Nat) (t : TypeId) (v : Value) : Prop := w.heap[G]? = some (.cells #[v] t (0, 0))
theorem Bx1.lt {w : World} {G : Nat} {t : TypeId} {v : Value} (h : Bx1 w G t v) : G < w.heap.size := (Array.getElem?_eq_some_iff.1 h).1
theorem Bx1.new (w : World) (t : TypeId) (v : Value) : Bx1 (w.alloc (.cells #[v] t)) w.heap.size t v := heap_alloc_new _ _
theorem Bx1.below {w w' : World} {G : Nat} {t : TypeId} {v : Value} (h : Bx1 w G t v) (hb : Below w.heap.size w w') : Bx1 w' G t v := (hb.block G h.lt).trans h
theorem Bx1.cell {w : World} {G : Nat} {t : TypeId} {v : Value} (h : Bx1 w G t v) : w.cell? ⟨G, 0, none⟩ = some v := cell_one h
theorem Bx1.frz {w : World} {G : Nat} {t : TypeId} {v : Value} (h : Bx1 w G t v) : w.frozen? ⟨G, 0, none⟩ = false := frozen_one h
theorem Bx1.grown {w w' : World} {B G g : Nat} {t : TypeId} {v : Value} {l : List Par} (h : Bx1 w G t v) (hd : Dc w B g l) (hb : w.grownBy w' (some g)) (ht : t ≠ 59) : Bx1 w' G t v := by
  refine (hb.block G h.lt (fun e => ?_)).trans h
  injection e with e
  subst e
  obtain ⟨_, v2, hd2⟩ := hd
  have h2 := hd2.here
  unfold Bx1 at h
  rw [h] at h2
  injection h2 with h2
  injection h2 with h2 h3 h4
  exact ht h3
theorem Bx1.set {w : World} {G : Nat} {t : TypeId} {v : Value} (h : Bx1 w G t v) (u : Value) : Bx1 (w.setCell ⟨G, 0, none⟩ u) G t u := by
  unfold Bx1 at *
  rw [heap_setCell_same w G 0 _ _ u h]; rfl
theorem Bx1.other {w : World} {G H : Nat} {t : TypeId} {v : Value} (h : Bx1 w H t v) (o : Nat) (u : Value) (hne : H ≠ G) : Bx1 (w.setCell ⟨G, o, none⟩ u) H t v := by
  unfold Bx1 at *
  exact (Below.heap_setCell w _ u H (fun e => hne e)).trans h
theorem box_own {w : World} {B e s n G : Nat} {v vb u : Value} {t : TypeId} {xs : List Value} (h : w.ownsRow B e s v n xs) (hb : Bx1 w G t vb) (hne : t ≠ e) : (w.setCell ⟨G, 0, none⟩ u).ownsRow B e s v n xs := by
  refine World.ownsRow.kept h (setCell_grown w _ u) (.inr (fun e2 => ?_))
  rcases h.2 with ⟨rfl, _⟩ | ⟨g', c, cur, rfl, _, hg, _⟩
  · cases e2
  · injection e2 with e2
    simp only at e2
    subst e2
    unfold Bx1 at hb
    rw [hb] at hg
    injection hg with hg
    injection hg with h2 h3 h4
    exact hne h3
theorem box_doc {w : World} {B g G : Nat} {l : List Par} {vb u : Value} {t : TypeId} (h : Dc w B g l) (hb : Bx1 w G t vb) (h1 : t ≠ 59) (h2 : t ≠ 80) : Dc (w.setCell ⟨G, 0, none⟩ u) B g l := by
  obtain ⟨hg, v, hd⟩ := h
  refine ⟨hg, v, hd.lo, ?_, box_own hd.own hb h2⟩
  refine (Below.heap_setCell w _ u g (fun e => ?_)).trans hd.here
  simp only at e
  subst e
  have h3 := hd.here
  unfold Bx1 at hb
  rw [hb] at h3
  injection h3 with h3
  injection h3 with h3 h4 h5
  exact h1 h4
theorem box_prs {w : World} {B n c G : Nat} {l : List Par} {v u : Value} {A : Option Addr} {t : TypeId} (h : Prs w B v l) (hb : Bx1 w G t (.slice A n c)) : Prs (w.setCell ⟨G, 0, none⟩ u) B v l := by
  obtain ⟨A', c', hv, hc, hcell⟩ := h
  refine ⟨A', c', hv, hc, fun hn => ?_⟩
  obtain ⟨g', o, hA, hg, hcs⟩ := hcell hn
  have hne : g' ≠ G := fun e => by
    subst e
    have h0 := hcs 0 hn 0 (.string l[0].k) rfl
    rw [cell_of_row w g' _ [Value.slice A n c].toArray t (0, 0) hb] at h0
    have h2 : ∀ j : Nat, [Value.slice A n c].toArray[j]? = some (.string l[0].k) → False := fun j hj => by
      cases j with
      | zero => simp at hj
      | succ j => simp at hj
    exact h2 _ (by simpa using h0)
  refine ⟨g', o, hA, hg, fun k hk j z hj => ?_⟩
  exact (World.cell?_setCell_other _ _ _ _ (fun e => hne (by injection e with e; exact e.symm))).trans (hcs k hk j z hj)
/-- operations laid in a new block -/
theorem ops_new (w : World) (g : Nat) (l : List Opn) (hg : w.heap.size = g) : Ops (w.alloc (.cells (l.flatMap Opn.cs).toArray 38)) (g + 1) (.slice (some ⟨g, 0, none⟩) l.length l.length) l := by
  subst hg
  refine ⟨_, _, rfl, Nat.le_refl _, fun _ => ⟨w.heap.size, 0, rfl, Nat.lt_succ_self _, fun k hk j z hj => ?_⟩⟩
  have h1 := flat_at l k hk j z hj
  rw [cell_of_row _ w.heap.size _ (l.flatMap Opn.cs).toArray 38 (0, 0) (heap_alloc_new _ _), Nat.zero_add]
  simpa using h1
theorem row_some {w : World} {B e s n m c : Nat} {A : Option Addr} {xs : List Value} (h : w.ownsRow B e s (.slice A n c) m xs) (hm : 0 < m) : ∃ g, A = some ⟨g, 0, none⟩ := by
  rcases h.2 with ⟨_, h0⟩ | ⟨g', c', cur, hv, _⟩
  · omega
  · injection hv with h1 _ _; exact ⟨g', h1⟩
theorem row_here {w : World} {B e s n c g : Nat} {xs : List Value} (h : w.ownsRow B e s (.slice (some ⟨g, 0, none⟩) n c) n xs) : ∃ cur, w.heap[g]? = some (.cells cur e (0, 0)) := by
  rcases h.2 with ⟨hv, _⟩ | ⟨g', c', cur, hv, _, hg, _⟩
  · cases hv
  · injection hv with h1 _ _
    injection h1 with h1
    injection h1 with h1 _ _
    subst h1
    exact ⟨cur, hg⟩
/-- a store into a row of one's own of another type leaves a document -/
theorem row_doc {w : World} {B C e s n c g gr j : Nat} {l : List Par} {u : Value} {xs : List Value} (h : Dc w B g l) (hr : w.ownsRow C e s (.slice (some ⟨gr, 0, none⟩) n c) n xs) (h1 : e ≠ 59) (h2 : e ≠ 80) : Dc (w.setCell ⟨gr, j, none⟩ u) B g l := by
  obtain ⟨cur, hc⟩ := row_here hr
  obtain ⟨hg, v, hd⟩ := h
  refine ⟨hg, v, hd.lo, ?_, ?_⟩
  · refine (Below.heap_setCell w _ u g (fun e2 => ?_)).trans hd.here
    simp only at e2
    subst e2
    have h3 := hd.here
    rw [hc] at h3
    injection h3 with h3
    injection h3 with h3 h4 h5
    exact h1 h4
  · refine World.ownsRow.kept hd.own (setCell_grown w _ u) (.inr (fun e2 => ?_))
    rcases hd.own.2 with ⟨rfl, _⟩ | ⟨g', c', cur', rfl, _, hg', _⟩
    · cases e2
    · injection e2 with e2
      simp only at e2
      subst e2
      rw [hc] at hg'
      injection hg' with h3
      injection h3 with h3 h4 h5
      exact h2 h4
theorem calls_world {P : Program} {f : Nat} {args : Array Value} {Q : Ending → World → Prop} {w : World} (R : World → Prop) (h : R w) (k : ∀ W, R W → Calls P f args W Q) : Calls P f args w Q := k w h
theorem calls_is {P : Program} {f : Nat} {args : Array Value} {Q : Ending → World → Prop} {w w' : World} (h : w = w') (k : Calls P f args w' Q) : Calls P f args w Q := h ▸ k
theorem wp_is {P : Program} {c : Code} {Q : Exit → Act → World → Prop} {a : Act} {w w' : World} (h : w = w') (k : c.wp P Q a w') : c.wp P Q a w := h ▸ k
end Go.Proofs.Ytegkhkcnoahhdaa
