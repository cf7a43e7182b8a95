/-
  The reference's At: a file by its name.
  The disk has at most 1,000 files.
-/
import Derived.Test.YtbdengcblncfmaaQ9Row
set_option linter.unusedSimpArgs false
set_option linter.unusedVariables false
namespace Go.Proofs.Ytbdengcblncfmaa
open Go.RowKit
set_option maxRecDepth 100000

theorem text_ne {a b : ByteArray} (h : a ≠ b) : (a.toList == b.toList) = false := by
  rw [beq_eq_false_iff_ne, ByteArray.toList_eq, ByteArray.toList_eq]
  intro e
  apply h
  cases a; cases b
  congr 1
  exact Array.toList_inj.1 e
/-- a file's place -/
def ixF (n : ByteArray) (l : List Fil) : Option Nat := l.findIdx? fun f => decide (f.name = n)
theorem ixF_at {n : ByteArray} {l : List Fil} {k : Nat} (hk : k < l.length) (h1 : l[k].name = n) (h2 : ∀ f ∈ l.take k, f.name ≠ n) : ixF n l = some k := by
  unfold ixF
  rw [List.findIdx?_eq_some_iff_getElem]
  refine ⟨hk, by simpa using h1, fun j hj => ?_⟩
  have := h2 l[j] (List.mem_take_iff_getElem.2 ⟨j, by omega, rfl⟩)
  simpa using this
theorem ixF_no {n : ByteArray} {l : List Fil} (h2 : ∀ f ∈ l, f.name ≠ n) : ixF n l = none := by
  unfold ixF
  rw [List.findIdx?_eq_none_iff]
  intro x hx
  simpa using h2 x hx
theorem ixF_is {n : ByteArray} {l : List Fil} {k : Nat} (h : ixF n l = some k) : ∃ hk : k < l.length, l[k].name = n := by
  unfold ixF at h
  rw [List.findIdx?_eq_some_iff_getElem] at h
  obtain ⟨hk, h1, _⟩ := h
  exact ⟨hk, by simpa using h1⟩
/-- where a file lies: its place in the row v -/
def AtV (v : Value) : Option Nat → Value
  | none => .pointer none
  | some k => match v with
    | .slice (some a) _ _ => .pointer (some ⟨a.block, k * 4, none⟩)
    | _ => .pointer none
set_option maxHeartbeats 1000000 in
theorem rat_any {N : Nat → Prop} (B g : Nat) (v : Value) (l : List Fil) (c : Nat) (n : ByteArray) (w : World) (h : Dsk N w B g v l c) (hl : l.length ≤ 1000) :
    Calls Try.prog 21 #[.pointer (some ⟨g, 0, none⟩), .string n] w fun e w' => e = .returned (AtV v (ixF n l)) ∧ w = w' := by
  have H := Lib.hid h
  have hc0 := h.cell0
  obtain ⟨A, ca, hv⟩ := h.own.slice
  obtain ⟨m, hm⟩ : ∃ m, l.length = m := ⟨_, rfl⟩
  rw [hm] at hv hl
  subst hv
  clear h
  go_enter Try.func21, Try.ntmps21
  go_wp2_with fail
  go_loop [5] (fun i => ∃ k : Nat, i = .int .i64 k ∧ k ≤ m ∧ ∀ f ∈ l.take k, f.name ≠ n) (fun i => m - (intOf i).toNat)
  case atStart => exact ⟨0, rfl, Nat.zero_le _, fun f hf => by simp at hf⟩
  case round =>
    obtain ⟨k, rfl, hk, hno⟩ := hrel
    have HNO := Lib.hid hno; clear hno
    by_cases hlt : k < m
    · obtain ⟨gr, u, hA, hB, hgr, hrg, _, _⟩ := H.out.own.at_ k (by omega)
      subst hA
      have hki : (k : Int) < m := by omega
      obtain ⟨nm, hnm⟩ : ∃ nm, (l[k]'(by omega)).name = nm := ⟨_, rfl⟩
      have hcn : w.cell? ⟨gr, k * 4, none⟩ = some (.string nm) := by rw [← hnm]; exact hrg 0 _ rfl
      clear hrg
      by_cases he : nm = n
      · subst he
        have hix : ixF nm l = some k := ixF_at (by omega) hnm HNO.out
        have HIX := Lib.hid hix
        clear hix hnm
        go_wp2
        go_ret
        exact ⟨by rw [HIX.out]; rfl, rfl⟩
      · have ht := text_ne he
        have hnx : ∀ f ∈ l.take (k + 1), f.name ≠ n := by
          intro f hf
          rw [List.take_succ_eq_append_getElem (by omega)] at hf
          rcases List.mem_append.1 hf with hf | hf
          · exact HNO.out f hf
          · obtain rfl : f = l[k]'(by omega) := by simpa using hf
            rw [hnm]; exact he
        have HNX := Lib.hid hnx
        clear hnx hnm
        go_wp2
        go_round
        case rel => exact ⟨k + 1, by go_num, by omega, HNX.out⟩
        case measure => simp [intOf]; omega
    · have hge : (m : Int) ≤ k := by omega
      have hix : ixF n l = none := ixF_no (by
        have := HNO.out
        rw [List.take_of_length_le (by omega)] at this
        exact this)
      have HIX := Lib.hid hix
      clear hix hlt
      go_wp2
      go_ret
      exact ⟨by rw [HIX.out]; rfl, rfl⟩
end Go.Proofs.Ytbdengcblncfmaa
