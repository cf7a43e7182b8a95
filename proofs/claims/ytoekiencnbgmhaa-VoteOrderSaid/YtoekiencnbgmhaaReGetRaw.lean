/-
  The reference's GetRaw reads a value as the plain function says, whatever the bytes.
  The bytes are there in memory, at most 1,000,000.
-/
import Derived.Test.YtoekiencnbgmhaaReGetText
import Derived.Test.YtoekiencnbgmhaaRePutRaw
set_option linter.unusedSimpArgs false
set_option linter.unusedVariables false
namespace Go.Proofs.Ytoekiencnbgmhaa
open Go.RowKit
set_option maxRecDepth 100000

def noRaw : Raw := ⟨0, 0, ⟨#[]⟩⟩
/-- what GetRaw reads -/
def getR (l : List UInt8) : Raw × Nat × Nat :=
  if (Nu.get l).2.2 ≠ 0 then (noRaw, 0, (Nu.get l).2.2)
  else if (Nu.get l).1 = 0 then (noRaw, (Nu.get l).2.1, 0)
  else if (Nu.get l).1 = 1 then
    (if (Nu.get (l.drop (Nu.get l).2.1)).2.2 ≠ 0 then (noRaw, 0, (Nu.get (l.drop (Nu.get l).2.1)).2.2)
     else (⟨1, (Nu.get (l.drop (Nu.get l).2.1)).1, ⟨#[]⟩⟩, (Nu.get l).2.1 + (Nu.get (l.drop (Nu.get l).2.1)).2.1, 0))
  else if (Nu.get l).1 = 2 then
    (if (Nu.getT (l.drop (Nu.get l).2.1)).2.2 ≠ 0 then (noRaw, 0, (Nu.getT (l.drop (Nu.get l).2.1)).2.2)
     else if (Ru.vld (Nu.getT (l.drop (Nu.get l).2.1)).1 && decide ((Nu.getT (l.drop (Nu.get l).2.1)).1.length ≤ 200)) = true then (⟨2, 0, ⟨(Nu.getT (l.drop (Nu.get l).2.1)).1.toArray⟩⟩, (Nu.get l).2.1 + (Nu.getT (l.drop (Nu.get l).2.1)).2.1, 0)
     else (noRaw, 0, 1))
  else (noRaw, 0, 1)
def GotR (r : Raw × Nat × Nat) (w : World) (e : Ending) (w' : World) : Prop := e = .returned (.tuple #[r.1.val, .int .i64 r.2.1, .int .i64 r.2.2]) ∧ Below w.heap.size w w'

theorem getR_err (l : List UInt8) (k : Int) (n e : Nat) (h : Nu.get l = (k, n, e)) (he : e ≠ 0) : getR l = (noRaw, 0, e) := by
  unfold getR; rw [h]; exact if_pos he
theorem getR_0 (l : List UInt8) (n : Nat) (h : Nu.get l = (0, n, 0)) : getR l = (noRaw, n, 0) := by
  unfold getR; rw [h]; simp
theorem getR_1e (l : List UInt8) (n : Nat) (m : Int) (j e : Nat) (h : Nu.get l = (1, n, 0)) (h1 : Nu.get (l.drop n) = (m, j, e)) (he : e ≠ 0) : getR l = (noRaw, 0, e) := by
  unfold getR; rw [h]; simp [h1, he]
theorem getR_1 (l : List UInt8) (n : Nat) (m : Int) (j : Nat) (h : Nu.get l = (1, n, 0)) (h1 : Nu.get (l.drop n) = (m, j, 0)) : getR l = (⟨1, m, ⟨#[]⟩⟩, n + j, 0) := by
  unfold getR; rw [h]; simp [h1]
theorem getR_2e (l : List UInt8) (n : Nat) (t : List UInt8) (j e : Nat) (h : Nu.get l = (2, n, 0)) (h1 : Nu.getT (l.drop n) = (t, j, e)) (he : e ≠ 0) : getR l = (noRaw, 0, e) := by
  unfold getR; rw [h]; simp [h1, he]
theorem getR_2 (l : List UInt8) (n : Nat) (t : List UInt8) (j : Nat) (h : Nu.get l = (2, n, 0)) (h1 : Nu.getT (l.drop n) = (t, j, 0)) : getR l = if (Ru.vld t && decide (t.length ≤ 200)) = true then (⟨2, 0, ⟨t.toArray⟩⟩, n + j, 0) else (noRaw, 0, 1) := by
  unfold getR; rw [h]; simp [h1]
theorem getR_x (l : List UInt8) (k : Int) (n : Nat) (h : Nu.get l = (k, n, 0)) (h0 : k ≠ 0) (h1 : k ≠ 1) (h2 : k ≠ 2) : getR l = (noRaw, 0, 1) := by
  unfold getR; rw [h]; simp [h0, h1, h2]
theorem getT_le (l : List UInt8) : (Nu.getT l).1.length ≤ l.length := by
  rw [getT_of]; split
  · simp
  · split
    · simp
    · split
      · simp
      · simp only [List.length_take, List.length_drop]; omega
theorem getT_len (l : List UInt8) : (Nu.getT l).2.1 ≤ l.length := by
  have h := Nu.get_len l
  rw [getT_of]; split
  · simp
  · split
    · simp
    · split
      · simp
      · simp only; omega
theorem add_lit (g o j : Nat) : (some (⟨g, o, Option.none⟩ : Addr)).map (·.add j) = some ⟨g, o + j, Option.none⟩ := by
  show some (Addr.add ⟨g, o, Option.none⟩ j) = _
  unfold Addr.add; split <;> simp_all
end Go.Proofs.Ytoekiencnbgmhaa
