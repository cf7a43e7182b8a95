/-
  slices.Concat of ints, and package conf's Add and Remove, make what the plain functions say.
  Lists have at most 1,000 servers.
-/
import Derived.Test.YtoekiencnbgmhaaC12May
import Derived.Test.YtoekiencnbgmhaaC12Rows
set_option linter.unusedSimpArgs false
set_option linter.unusedVariables false
namespace Go.Proofs.Ytoekiencnbgmhaa
open Go.RowKit Go.Deep
set_option maxRecDepth 100000

/-- a slice of slices -/
def Sls (w : World) (B : Nat) (v : Value) (Vs : List Value) : Prop :=
  ∃ A c, v = .slice A Vs.length c ∧ Vs.length ≤ c ∧ (0 < Vs.length → ∃ g o, A = some ⟨g, o, Option.none⟩ ∧ g < B ∧ ∀ k (h : k < Vs.length), w.cell? ⟨g, o + k, Option.none⟩ = some Vs[k])
theorem Sls.at_ {w : World} {B n c : Nat} {A : Option Addr} {Vs : List Value} (h : Sls w B (.slice A n c) Vs) (k : Nat) (hk : k < Vs.length) :
    ∃ g o, A = some ⟨g, o, Option.none⟩ ∧ g < B ∧ w.cell? ⟨g, o + k, Option.none⟩ = some Vs[k] := by
  obtain ⟨A', c', hv, _, h⟩ := h
  injection hv with e1 e2 e3
  subst e1
  obtain ⟨g, o, rfl, hg, hcs⟩ := h (by omega)
  exact ⟨g, o, rfl, hg, hcs k hk⟩
theorem sls_new (w : World) (C : Array Value) (t : TypeId) : Sls (w.alloc (.cells C t)) (w.heap.size + 1) (.slice (some ⟨w.heap.size, 0, Option.none⟩) C.toList.length C.toList.length) C.toList := by
  refine ⟨_, _, rfl, Nat.le_refl _, fun _ => ⟨w.heap.size, 0, rfl, by omega, fun k hk => ?_⟩⟩
  rw [World.cell?_alloc_mark]
  have hk' : k < C.size := by simpa using hk
  simp [hk']
/-- the slices read so -/
def Ilss (w : World) (B : Nat) (Vs : List Value) (Ls : List (List Int)) : Prop := Vs.length = Ls.length ∧ ∀ k (h : k < Vs.length) (h2 : k < Ls.length), Ints w B Vs[k] Ls[k]
theorem flat_take12 (Ls : List (List Int)) (k : Nat) (h : k < Ls.length) : (Ls.take (k + 1)).flatten = (Ls.take k).flatten ++ Ls[k] := by
  rw [List.take_succ_eq_append_getElem h, List.flatten_append]; simp
theorem flat_take_le12 (Ls : List (List Int)) (k : Nat) : (Ls.take k).flatten.length ≤ Ls.flatten.length := by
  have h : (Ls.take k).flatten ++ (Ls.drop k).flatten = Ls.flatten := by rw [← List.flatten_append, List.take_append_drop]
  rw [← h, List.length_append]; omega
end Go.Proofs.Ytoekiencnbgmhaa
