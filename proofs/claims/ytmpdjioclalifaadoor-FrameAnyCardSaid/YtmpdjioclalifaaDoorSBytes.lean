/-
  bytes.Equal and bytes.Clone over slices that read as bytes.
  There are no conditions beyond those that each lemma names.
-/
import Derived.Test.YtmpdjioclalifaaDoorWAppend
import Derived.Test.YtmpdjioclalifaaDoorShelf
set_option linter.unusedSimpArgs false
set_option linter.unusedVariables false
namespace Go.Proofs.YtmpdjioclalifaaDoor
open Go.RowKit
set_option maxRecDepth 100000

theorem bytesIn_of {w : World} {B : Nat} {A : Option Addr} {n c : Nat} {l : List UInt8} (h : Byt w B (.slice A n c) l) : Lib.BytesIn w A n (l.map fun x => (x.toNat : Int)) := by
  obtain ⟨A', c', hv, _, hcell⟩ := h
  injection hv with e1 e2 _; subst e1; subst e2
  intro hn
  obtain ⟨g, o, rfl, _, hcs⟩ := hcell hn
  refine ⟨g, o, rfl, fun i hi => ?_⟩
  rw [hcs i hi]; simp [hi]
theorem lib_bytesOf (l : List UInt8) : Lib.bytesOf (l.map fun x => (x.toNat : Int)) = l := by
  unfold Lib.bytesOf; rw [List.map_map]
  conv => rhs; rw [← List.map_id l]
  apply List.map_congr_left; intro x _; simp
theorem byt_len {w : World} {B n c : Nat} {A : Option Addr} {l : List UInt8} (h : Byt w B (.slice A n c) l) : n = l.length ∧ l.length ≤ c := by
  obtain ⟨_, _, hv, hc, _⟩ := h; injection hv with _ e1 e2; subst e2; exact ⟨e1, hc⟩
theorem bequal_is (A1 A2 : Option Addr) (n1 n2 c1 c2 B1 B2 : Nat) (l m : List UInt8) (b : Bool) (w : World) (h1 : Byt w B1 (.slice A1 n1 c1) l) (h2 : Byt w B2 (.slice A2 n2 c2) m) (hb : (l == m) = b) :
    Calls Tryd.prog 22 #[.slice A1 n1 c1, .slice A2 n2 c2] w fun e w' => e = .returned (.bool b) ∧ w' = w := by
  have h := Tryd.bytes_Equal_all A1 A2 n1 c1 n2 c2 _ _ w (by rw [List.length_map, (byt_len h1).1]) (by rw [List.length_map, (byt_len h2).1]) (bytesIn_of h1) (bytesIn_of h2)
  rw [lib_bytesOf, lib_bytesOf, hb] at h
  exact h
theorem bequal_to (u v : Value) (B1 B2 : Nat) (l m : List UInt8) (b : Bool) (w : World) (h1 : Byt w B1 u l) (h2 : Byt w B2 v m) (hb : (l == m) = b) :
    Calls Tryd.prog 22 #[u, v] w fun e w' => e = .returned (.bool b) ∧ Below w.heap.size w w' := by
  obtain ⟨A1, c1, rfl, r1⟩ := id h1
  obtain ⟨A2, c2, rfl, r2⟩ := id h2
  refine (bequal_is _ _ _ _ _ _ _ _ l m b w h1 h2 hb).mono ?_
  rintro e w' ⟨rfl, rfl⟩
  exact ⟨rfl, Below.refl _ _⟩
theorem bclone_is (A : Option Addr) (n c B : Nat) (l : List UInt8) (w : World) (h : Byt w B (.slice A n c) l) (hl : l.length ≤ 1000000) :
    Calls Tryd.prog 23 #[.slice A n c] w (Made l w) := by
  obtain ⟨A', c', hv, _, hcell⟩ := h
  injection hv with e1 e2 _; subst e1; subst e2
  cases A with
  | none =>
    have h0 : l = [] := by
      cases l with
      | nil => rfl
      | cons x t => obtain ⟨g, o, h, _⟩ := hcell (by simp); cases h
    subst h0
    refine (Tryd.bytes_Clone_nil _ _ w).mono ?_
    rintro e w' ⟨rfl, rfl⟩
    exact ⟨_, rfl, ownB_nil _ _, Below.refl _ _⟩
  | some a =>
    refine (Tryd.bytes_Clone_at a l.length c (l.map fun x => (x.toNat : Int)) w (by simp) (by omega) (fun i hi => ?_)).mono ?_
    · obtain ⟨g, o, h, _, hcs⟩ := hcell (by omega)
      injection h with h; subst h
      rw [Addr.add_mid, hcs i hi]; simp [hi]
    · rintro e w' ⟨v', rfl, hown, _, hb⟩
      refine ⟨v', rfl, ?_, hb⟩
      unfold OwnB Lib.byteCells
      rw [List.map_map] at hown
      exact hown
theorem bclone_to (v : Value) (B : Nat) (l : List UInt8) (w : World) (h : Byt w B v l) (hl : l.length ≤ 1000000) : Calls Tryd.prog 23 #[v] w (Made l w) := by
  obtain ⟨A, c, rfl, _⟩ := id h
  exact bclone_is A l.length c B l w h hl
theorem conv_byt {w : World} {B : Nat} {v : Value} {l : List UInt8} {S : ByteArray} (h : Byt w B v l) (hS : (⟨l.toArray⟩ : ByteArray) = S) : (convert 22 9 v).run Tryd.prog w = .ok (.string S) w := by
  obtain ⟨A, c, rfl, _⟩ := id h
  rw [(bytesIn_of h).convert (by rw [List.length_map]) c 22 5 9 Tryd.underlying22 Tryd.underlying5 Tryd.underlying9, ← hS]
  congr 2
  unfold strOfNums
  rw [List.map_map]
  congr 2
  conv => rhs; rw [← List.map_id l]
  apply List.map_congr_left; intro x _; simp
/-- a part of bytes -/
theorem byt_sub {w : World} {B : Nat} {A : Option Addr} {c i n : Nat} {l : List UInt8} (h : Byt w B (.slice A l.length c) l) (hk : i + n ≤ l.length) : Byt w B (.slice (if c = i then A else A.map (·.add i)) n (c - i)) ((l.drop i).take n) := by
  have h2 := h.cut (k := i) (by omega)
  obtain ⟨A', c', hv, hc, hcell⟩ := h2
  injection hv with e1 e2 e3; subst e3
  rw [← e1] at hcell
  have e : ((l.drop i).take n).length = n := by rw [List.length_take, List.length_drop]; omega
  refine ⟨_, c - i, by rw [e], by rw [e]; omega, fun h0 => ?_⟩
  rw [e] at h0
  obtain ⟨g, o, hA, hg, hcs⟩ := hcell (by omega)
  refine ⟨g, o, hA, hg, fun k hk => ?_⟩
  rw [e] at hk
  rw [hcs k (by rw [List.length_drop]; omega), List.getElem_take]
theorem byt_take2 {w : World} {B n c : Nat} {A : Option Addr} {l : List UInt8} (h : Byt w B (.slice A l.length c) l) (hn : n ≤ l.length) : Byt w B (.slice A n c) (l.take n) := by
  have h2 := byt_sub (i := 0) (n := n) h (by omega)
  rw [List.drop_zero, Nat.sub_zero] at h2
  have e : (if c = 0 then A else A.map (·.add 0)) = A := by
    split
    · rfl
    · cases A <;> simp [Addr.add]
  rw [e] at h2; exact h2
end Go.Proofs.YtmpdjioclalifaaDoor
