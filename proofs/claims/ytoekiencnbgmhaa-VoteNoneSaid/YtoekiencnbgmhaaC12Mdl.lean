/-
  Package conf's Middle says what the plain function says.
  Lists have at most 1,000 servers.
-/
import Derived.Test.YtoekiencnbgmhaaC12Mid
set_option linter.unusedSimpArgs false
set_option linter.unusedVariables false
namespace Go.Proofs.Ytoekiencnbgmhaa
open Go.RowKit Go.Shelf Go.Sort
set_option maxRecDepth 100000

theorem Try.infoI64c : (Try.prog.info? 2).map (fun i => (i.zero, i.size, i.bytes)) = some (some (.int .i64 0), 1, 8) := by kernel_rfl
def atV (M : List Int) (x : Int) : Value := .int .i64 (M.getD x.toNat 0)
theorem snoc_zero12 {L : List Int} {M : List Int} {k : Nat} (h : k < L.length) (h0 : M.getD L[k].toNat 0 = 0) :
    (L.take k).map (atV M) ++ List.replicate (L.length - k) (Value.int .i64 0) = (L.take (k + 1)).map (atV M) ++ List.replicate (L.length - (k + 1)) (Value.int .i64 0) := by
  rw [List.take_succ_eq_append_getElem h, List.map_append]
  have : L.length - k = (L.length - (k + 1)) + 1 := by omega
  rw [this, List.replicate_succ]
  simp only [List.map_cons, List.map_nil, atV, h0]
  simp
theorem RowC.holds {w : World} {g : Nat} {l : List Int} (h : RowC w g (l.map (Value.int .i64))) : Holds (Value.int .i64) w g 0 l.toArray := by
  intro j hj
  have hj' : j < l.length := by simpa using hj
  obtain ⟨h1, h2⟩ := h.2 j (by simpa using hj')
  rw [Nat.zero_add]
  refine ⟨?_, h2⟩
  rw [h1]
  simp [hj']
theorem sorted_cell12 {w : World} {g : Nat} {l : List Int} (hH : Holds (Value.int .i64) w g 0 l.toArray) (hg : g < w.heap.size) (nn : Nat) (os : Array Obj) (k : Nat) (hk : k < l.length) :
    (grow (putRow (Value.int .i64) (Sort.ahead w nn) g 0 (l.mergeSort fun x y => decide (x ≤ y)).toArray) os).cell? ⟨g, k, none⟩ = some (.int .i64 ((sort12 l).getD k 0)) := by
  have hH2 : Holds (Value.int .i64) (Sort.ahead w nn) g 0 l.toArray := hH
  have hp := holds_putRow (Value.int .i64) (Sort.ahead w nn) g 0 l.toArray (l.mergeSort fun x y => decide (x ≤ y)).toArray hH2 (by simp)
  have hlen : (l.mergeSort fun x y => decide (x ≤ y)).length = l.length := List.length_mergeSort _
  have := (hp k (by simpa [hlen] using hk)).1
  rw [Nat.zero_add] at this
  rw [cell?_grow _ _ _ (by simpa using hg), this]
  unfold sort12
  have hk2 : k < (l.mergeSort fun x y => decide (x ≤ y)).length := by rw [hlen]; exact hk
  simp [hk2]
theorem mid12_zero {L M : List Int} (h : may12 L = false) : (if may12 L = true then mid12 L M else 0) = 0 := by rw [h]; rfl
def midR (L M : List Int) : Int := if may12 L = true then mid12 L M else 0
end Go.Proofs.Ytoekiencnbgmhaa
