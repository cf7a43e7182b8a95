/-
  Operations and batches that came in, as the plain functions have them.
  There are no conditions beyond those that each lemma names.
-/
import Derived.Test.YtbdengcblncfmaaOpenOp
import Derived.Test.YtbdengcblncfmaaReBytesOf
set_option linter.unusedSimpArgs false
set_option linter.unusedVariables false
namespace Go.Proofs.Ytbdengcblncfmaa
open Go.RowKit
set_option maxRecDepth 100000

def Raw.fit (r : Raw) : Prop := I64 r.kind ∧ I64 r.n ∧ r.s.size ≤ maxLen
def Opn.fit (o : Opn) : Prop := I64 o.kind ∧ o.key.size ≤ maxLen ∧ o.val.fit ∧ o.old.fit ∧ I64 o.n
theorem opn_of {cs : List Value} (h : OpCs cs) : ∃ o : Opn, cs = o.cs ∧ o.fit := by
  obtain ⟨k, key, v, o, n, rfl, hk, hy, ⟨vk, vn, vs, rfl, a1, a2, a3⟩, ⟨ok, on, os, rfl, b1, b2, b3⟩, hn⟩ := h
  exact ⟨⟨k, key, ⟨vk, vn, vs⟩, ⟨ok, on, os⟩, n⟩, rfl, hk, hy, ⟨a1, a2, a3⟩, ⟨b1, b2, b3⟩, hn⟩
theorem ops_of {W : World} {B n : Nat} {v : Value} {C : Nat → List Value} (h : OpsIn W B v n C) : ∃ l : List Opn, l.length = n ∧ Ops W B v l ∧ ∀ x ∈ l, x.fit := by
  obtain ⟨A, c, rfl, hc, _, hcell⟩ := h
  by_cases h0 : 0 < n
  · obtain ⟨g, o, rfl, hg, hcs⟩ := hcell h0
    have hz : Inhabited Opn := ⟨⟨0, ⟨#[]⟩, ⟨0, 0, ⟨#[]⟩⟩, ⟨0, 0, ⟨#[]⟩⟩, 0⟩⟩
    obtain ⟨f, hf⟩ := Go.Deep.choose_lt (α := Opn) (p := fun i x => C i = x.cs ∧ x.fit) (fun i hi => opn_of (hcs i hi).1)
    have hl : ((List.range n).map f).length = n := by simp
    refine ⟨(List.range n).map f, hl, ⟨some ⟨g, o, Option.none⟩, c, by rw [hl], by rw [hl]; exact hc, fun _ => ⟨g, o, rfl, hg, fun k hk => ?_⟩⟩, fun x hx => ?_⟩
    · rw [hl] at hk
      have e : ((List.range n).map f)[k]'(by rw [hl]; exact hk) = f k := by simp
      rw [e, ← (hf k hk).1]
      exact (hcs k hk).2
    · obtain ⟨i, hi, rfl⟩ := List.mem_map.1 hx
      exact (hf i (List.mem_range.1 hi)).2
  · obtain rfl : n = 0 := by omega
    exact ⟨[], rfl, ⟨A, c, rfl, hc, fun h => absurd h (by decide)⟩, fun x hx => by cases hx⟩
theorem bat_of {W : World} {B n : Nat} {c q : Int} {s v : Value} {C : Nat → List Value} (hv : v = .agg #[.int .i64 c, .int .i64 q, s]) (hc : I64 c) (hq : I64 q) (h : OpsIn W B s n C) : ∃ b : Bat, BatV W B v b ∧ I64 b.client ∧ I64 b.seq ∧ ∀ x ∈ b.ops, x.fit := by
  obtain ⟨l, _, ho, hf⟩ := ops_of h
  exact ⟨⟨c, q, l⟩, ⟨s, hv, ho⟩, hc, hq, hf⟩
def Bat.fit (b : Bat) : Prop := I64 b.client ∧ I64 b.seq ∧ ∀ x ∈ b.ops, x.fit
section
variable {H : Type} {enc : TypeId × Value → H} {W : World} {b0 : Nat} {r : Reach} {v : Value} {d : DataW H} {p : List MemPlace}
end
end Go.Proofs.Ytbdengcblncfmaa
