/- A slice of bytes that the call has just made, turned into a text. -/
import Derived.Test.YtegkhkcnoahhdaaGreatL6Same
import Derived.Test.YtegkhkcnoahhdaaGreatL5CutBatch
import Derived.Test.YtegkhkcnoahhdaaGreatL5Open
import Derived.Deep.AppendLies
set_option linter.unusedSimpArgs false
set_option linter.unusedVariables false
namespace Go.Proofs.YtegkhkcnoahhdaaGreat
open Go.RowKit
set_option maxRecDepth 100000
end Go.Proofs.YtegkhkcnoahhdaaGreat
/-
Plain facts on documents as sets of pairs, with no program's run in them: what is put and deleted again, groups with an error, how many keys there are.
-/
namespace Go.Proofs.YtegkhkcnoahhdaaGreat
open Go.RowKit
set_option maxRecDepth 100000
theorem setGo_in2 (key : ByteArray) (x : Raw) (p : Par) : ∀ (l : List Par) (b : Bool), p ∈ setGo key x b l ↔ (b = false ∧ p = ⟨key, x⟩) ∨ (p ∈ l ∧ p.k ≠ key)
 | [], b => by cases b <;> simp [setGo]
 | q :: t, b => by
  have ih := setGo_in2 key x p t
  have hs : (q.k.data.toList == key.data.toList) = true ↔ q.k = key := by
   rw [beq_iff_eq]; exact ⟨fun h => bytes_eq h, fun h => by rw [h]⟩
  unfold setGo
  by_cases hq : q.k = key
  ·have h1 := hs.2 hq
   rw [h1]
   cases b <;> cases hl : lesB q.k key <;> simp [ih, hq]
   all_goals grind
  ·have h1 : (q.k.data.toList == key.data.toList) = false := by
    cases h : (q.k.data.toList == key.data.toList) with
    | false => rfl
    | true => exact absurd (hs.1 h) hq
   rw [h1]
   cases b <;> cases hl : lesB q.k key <;> simp [ih]
   all_goals grind
theorem dSet_in (l : List Par) (key : ByteArray) (x : Raw) (p : Par) : p ∈ dSet l key x ↔ (x.kind ≠ 0 ∧ p = ⟨key, x⟩) ∨ (p ∈ l ∧ p.k ≠ key) := by
 unfold dSet
 rw [setGo_in2]
 simp
theorem hasK_none {l : List Par} (h : Srt l) {key : ByteArray} (hn : hasK l key = false) : ∀ p ∈ l, p.k ≠ key := fun p hp e => by
 have h1 := dGet_there h key
 rw [hn] at h1
 unfold dGet at h1
 have h2 : (l.find? fun q => q.k.data.toList == key.data.toList).isSome = true := List.find?_isSome.2 ⟨p, hp, by rw [e]; exact beq_self_eq_true _⟩
 obtain ⟨q, hq⟩ := Option.isSome_iff_exists.1 h2
 rw [hq] at h1; cases h1
theorem put_ne {l : List Par} (h : Srt l) {key : ByteArray} (hn : hasK l key = false) (n : Int) : dSet l key ⟨1, n, ⟨#[]⟩⟩ ≠ l := fun e => by
 have h1 : (⟨key, ⟨1, n, ⟨#[]⟩⟩⟩ : Par) ∈ dSet l key ⟨1, n, ⟨#[]⟩⟩ := (dSet_in _ _ _ _).2 (.inl ⟨by show (1 : Int) ≠ 0; decide, rfl⟩)
 rw [e] at h1
 exact hasK_none h hn _ h1 rfl
end Go.Proofs.YtegkhkcnoahhdaaGreat
/-
What the walks of stage 6's laws ask for: operations that are cut, the reference's document beside the program's, bytes as texts.
-/
namespace Go.Proofs.YtegkhkcnoahhdaaGreat
open Go.RowKit
set_option maxRecDepth 100000
theorem fit_ints6 {o : Opn} (h : o.fit) : o.ints := ⟨h.1, h.2.2.2.2, h.2.2.1.1, h.2.2.1.2.1, h.2.2.2.1.1, h.2.2.2.1.2.1⟩
theorem cell_in6 {w : World} {a : Addr} {v : Value} (h : w.cell? a = some v) : a.block < w.heap.size := by
 unfold World.cell? at h
 by_cases hb : a.block < w.heap.size
 ·exact hb
 ·rw [Array.getElem?_eq_none (by omega)] at h; simp at h
theorem lrenc_is (B : Nat) (v : Value) (l : List Par) (m : List UInt8) (w : World) (h : Prs w B v l) (hB : B ≤ w.heap.size) (hg : Gd l) (hm : bytesD l = m) :
  Calls Tryz.prog 40 #[.agg #[v]] w fun e w' => ∃ A c, e = .returned (.slice A m.length c) ∧ OwnB w.heap.size (.slice A m.length c) m w' ∧ Below w.heap.size w w' := by
 rw [← hm]
 refine (rdocEncode_any B (.agg #[v]) l w ⟨v, rfl, h⟩ hB (Nat.le_trans hg.len (by decide)) hg.pars).mono ?_
 rintro e w' ⟨x, rfl, ho, hb⟩
 obtain ⟨A, c, rfl⟩ := own_slice ho
 exact ⟨A, c, rfl, ho, hb⟩
theorem lsame_is (B g C : Nat) (v : Value) (l : List Par) (w : World) (h : Dc w B g l) (hr : Prs w C v l) (hC : C ≤ w.heap.size) :
  Calls Tryz.prog 31 #[.pointer (some ⟨g, 0, none⟩), .agg #[v]] w fun e w' => e = .returned (.bool true) ∧ Below w.heap.size w w' := lsame_any B g C (.agg #[v]) l w h ⟨v, rfl, hr⟩ hC
theorem byt_in6 {w : World} {B : Nat} {A : Option Addr} {n c : Nat} {l : List UInt8} (h : Byt w B (.slice A n c) l) : Lib.BytesIn w A n (l.map fun x => (x.toNat : Int)) := by
 obtain ⟨A', c', hv, _, hcell⟩ := h
 injection hv with e1 e2 _; subst e1; subst e2
 intro hn
 obtain ⟨g, o, rfl, _, hcs⟩ := hcell hn
 refine ⟨g, o, rfl, fun i hi => ?_⟩
 rw [hcs i hi]; simp [hi]
theorem conv6 {w : World} {B n c : Nat} {A : Option Addr} {l : List UInt8} {S : ByteArray} (h : Byt w B (.slice A n c) l) (hS : (⟨l.toArray⟩ : ByteArray) = S) : (convert 50 9 (.slice A n c)).run Tryz.prog w = .ok (.string S) w := by
 have e : n = l.length := by obtain ⟨_, _, hv, _⟩ := h; injection hv
 rw [(byt_in6 h).convert (by rw [List.length_map, e]) c 50 5 9 Tryz.underlying50 Tryz.underlying5 Tryz.underlying9, ← hS]
 congr 2
 unfold strOfNums
 rw [List.map_map]
 congr 2
 conv => rhs; rw [← List.map_id l]
 apply List.map_congr_left; intro x _; simp
end Go.Proofs.YtegkhkcnoahhdaaGreat
/-
Boxes of one cell beside documents, rows and operations: a store into one of them leaves the others.
-/
namespace Go.Proofs.YtegkhkcnoahhdaaGreat
open Go.RowKit
set_option maxRecDepth 100000
def Bx1 (w : World) (G : Nat) (t : TypeId) (v : Value) : Prop := w.heap[G]? = some (.cells #[v] t (0, 0))
theorem Bx1.lt {w : World} {G : Nat} {t : TypeId} {v : Value} (h : Bx1 w G t v) : G < w.heap.size := (Array.getElem?_eq_some_iff.1 h).1
theorem Bx1.new (w : World) (t : TypeId) (v : Value) : Bx1 (w.alloc (.cells #[v] t)) w.heap.size t v := heap_alloc_new _ _
theorem Bx1.below {w w' : World} {G : Nat} {t : TypeId} {v : Value} (h : Bx1 w G t v) (hb : Below w.heap.size w w') : Bx1 w' G t v := (hb.block G h.lt).trans h
theorem Bx1.cell {w : World} {G : Nat} {t : TypeId} {v : Value} (h : Bx1 w G t v) : w.cell? ⟨G, 0, none⟩ = some v := cell_one h
theorem Bx1.frz {w : World} {G : Nat} {t : TypeId} {v : Value} (h : Bx1 w G t v) : w.frozen? ⟨G, 0, none⟩ = false := frozen_one h
theorem Bx1.grown {w w' : World} {B G g : Nat} {t : TypeId} {v : Value} {l : List Par} (h : Bx1 w G t v) (hd : Dc w B g l) (hb : w.grownBy w' (some g)) (ht : t ≠ 73) : Bx1 w' G t v := by
 refine (hb.block G h.lt (fun e => ?_)).trans h
 injection e with e
 subst e
 obtain ⟨_, v2, hd2⟩ := hd
 have h2 := hd2.here
 unfold Bx1 at h
 rw [h] at h2
 injection h2 with h2
 injection h2 with h2 h3 h4
 exact ht h3
theorem Bx1.set {w : World} {G : Nat} {t : TypeId} {v : Value} (h : Bx1 w G t v) (u : Value) : Bx1 (w.setCell ⟨G, 0, none⟩ u) G t u := by
 unfold Bx1 at *
 rw [heap_setCell_same w G 0 _ _ u h]; rfl
theorem Bx1.other {w : World} {G H : Nat} {t : TypeId} {v : Value} (h : Bx1 w H t v) (o : Nat) (u : Value) (hne : H ≠ G) : Bx1 (w.setCell ⟨G, o, none⟩ u) H t v := by
 unfold Bx1 at *
 exact (Below.heap_setCell w _ u H (fun e => hne e)).trans h
end Go.Proofs.YtegkhkcnoahhdaaGreat
