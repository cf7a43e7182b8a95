/-
  bytes.Clone at any bytes; bytes turned into a text; a slice's beginning.
  The bytes are no more than 2^47.
-/
import Derived.Test.YtbdengcblncfmaaShelf
import Derived.Test.YtbdengcblncfmaaL5Own
import Derived.Deep.AppendLies
import Derived.Deep.MidRow
set_option linter.unusedSimpArgs false
set_option linter.unusedVariables false
namespace Go.Proofs.Ytbdengcblncfmaa
open Go.RowKit
set_option maxRecDepth 100000

theorem clone9_is (A : Option Addr) (n c B : Nat) (l : List UInt8) (w : World) (h : Byt w B (.slice A n c) l) (hl : l.length ≤ 140737488355328) :
    Calls Try.prog 33 #[.slice A n c] w (Made l w) := by
  obtain ⟨A', c', hv, _, hcell⟩ := h
  injection hv with e1 e2 _; subst e1; subst e2
  cases A with
  | none =>
    have h0 : l = [] := by
      cases l with
      | nil => rfl
      | cons x t => obtain ⟨g, o, h, _⟩ := hcell (by simp); cases h
    subst h0
    refine (Try.bytes_Clone_nil _ _ w).mono ?_
    rintro e w' ⟨rfl, rfl⟩
    exact ⟨_, rfl, ownB_nil _ _, Below.refl _ _⟩
  | some a =>
    refine (Try.bytes_Clone_at a l.length c (l.map fun x => (x.toNat : Int)) w (by simp) (by omega) (fun i hi => ?_)).mono ?_
    · obtain ⟨g, o, h, _, hcs⟩ := hcell (by omega)
      injection h with h; subst h
      rw [Addr.add_mid, hcs i hi]; simp [hi]
    · rintro e w' ⟨v', rfl, hown, _, hb⟩
      refine ⟨v', rfl, ?_, hb⟩
      unfold OwnB Lib.byteCells
      rw [List.map_map] at hown
      exact hown
theorem clone9_to (v : Value) (B : Nat) (l : List UInt8) (w : World) (h : Byt w B v l) (hl : l.length ≤ 140737488355328) : Calls Try.prog 33 #[v] w (Made l w) := by
  obtain ⟨A, c, rfl, _⟩ := id h
  exact clone9_is A l.length c B l w h hl
theorem conv9 {w : World} {B : Nat} {v : Value} {l : List UInt8} {S : ByteArray} (h : Byt w B v l) (hS : (⟨l.toArray⟩ : ByteArray) = S) : (convert 30 9 v).run Try.prog w = .ok (.string S) w := by
  obtain ⟨A, c, rfl, _, hcell⟩ := id h
  subst hS
  have e : strOfNums (l.map fun x => (x.toNat : Int)) = ⟨l.toArray⟩ := by
    unfold strOfNums
    rw [List.map_map]
    congr 2
    conv => rhs; rw [← List.map_id l]
    apply List.map_congr_left; intro x _; simp
  rcases Nat.eq_zero_or_pos l.length with h0 | h0
  · have hl : l = [] := List.eq_nil_of_length_eq_zero h0
    subst hl
    simp [convert, run_underlying Try.underlying30, run_underlying Try.underlying5, run_underlying Try.underlying9, Result.andThen]
    cases A <;> simp [Conv.bytesToString, loadCells] <;> rfl
  · obtain ⟨g, o, rfl, _, hc⟩ := hcell h0
    rw [← e]
    refine run_convert_bytes_arg w 30 5 Try.underlying30 Try.underlying5 g o l.length c _ (by simp) (fun i hi => ?_) 9 Try.underlying9
    rw [hc i hi]; simp [hi, List.getD]
theorem byt_take9 {w : World} {B : Nat} {A : Option Addr} {c j : Nat} {l : List UInt8} (h : Byt w B (.slice A l.length c) l) (hj : j ≤ l.length) : Byt w B (.slice A j c) (l.take j) := by
  obtain ⟨A', c', hv, hc, hcell⟩ := h
  injection hv with e1 _ e3
  subst e1; subst e3
  refine ⟨A, c, by rw [List.length_take, Nat.min_eq_left hj], by rw [List.length_take]; omega, fun h0 => ?_⟩
  rw [List.length_take] at h0
  obtain ⟨g, o, hA, hg, hk⟩ := hcell (by omega)
  refine ⟨g, o, hA, hg, fun k h1 => ?_⟩
  rw [List.length_take] at h1
  rw [hk k (by omega), List.getElem_take]
theorem byt_cap9 {w : World} {B : Nat} {A : Option Addr} {m c : Nat} {l : List UInt8} (h : Byt w B (.slice A m c) l) : m = l.length ∧ m ≤ c := by
  obtain ⟨A', c', hv, hc, _⟩ := h
  injection hv with _ e2 e3
  omega
end Go.Proofs.Ytbdengcblncfmaa
