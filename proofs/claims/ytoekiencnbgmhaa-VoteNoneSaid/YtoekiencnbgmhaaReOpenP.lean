/-
  The reference's Open reads a frame as the plain function says.
  The bytes are there in memory, at most 1,000,000.
-/
import Derived.Test.YtoekiencnbgmhaaReSeal
import Derived.Test.YtoekiencnbgmhaaReGetRaw
import Derived.Deep.RegionHeld3
import Derived.IntWalk
set_option linter.unusedSimpArgs false
set_option linter.unusedVariables false
namespace Go.Proofs.Ytoekiencnbgmhaa
open Go.RowKit
set_option maxRecDepth 100000

/-- a frame at the beginning of bytes: its kind, its body, how many bytes, the error -/
def openB (l : List UInt8) : Nat × List UInt8 × Nat × Nat :=
  if l.length = 0 then (0, [], 0, 2)
  else if (l.headD 0).toNat = 0 then (0, [], 0, 3)
  else if (Nu.get (l.drop 1)).2.2 = 2 ∧ 2 < l.length then (0, [], 0, 3)
  else if (Nu.get (l.drop 1)).2.2 = 2 then (0, [], 0, 2)
  else if (Nu.get (l.drop 1)).2.2 ≠ 0 ∨ (Nu.get (l.drop 1)).1 < 0 ∨ 4000 < (Nu.get (l.drop 1)).1 then (0, [], 0, 3)
  else if (l.length : Int) < 5 + (Nu.get (l.drop 1)).2.1 + (Nu.get (l.drop 1)).1 then (0, [], 0, 2)
  else if sealB (l.headD 0).toNat ((l.drop (5 + (Nu.get (l.drop 1)).2.1)).take (Nu.get (l.drop 1)).1.toNat) ≠ l.take (5 + (Nu.get (l.drop 1)).2.1 + (Nu.get (l.drop 1)).1.toNat) then (0, [], 0, 3)
  else ((l.headD 0).toNat, (l.drop (5 + (Nu.get (l.drop 1)).2.1)).take (Nu.get (l.drop 1)).1.toNat, 5 + (Nu.get (l.drop 1)).2.1 + (Nu.get (l.drop 1)).1.toNat, 0)
def GotF (B : Nat) (r : Nat × List UInt8 × Nat × Nat) (w : World) (e : Ending) (w' : World) : Prop := ∃ v, e = .returned (.tuple #[.int .i64 r.1, v, .int .i64 r.2.2.1, .int .i64 r.2.2.2]) ∧ Byt w' B v r.2.1 ∧ Below w.heap.size w w'
/-- a slice of bytes whose cells are there, turned into a text -/
theorem conv_cells (w : World) (g o cap : Nat) (l : List UInt8) (n : Nat) (hn : n ≤ l.length) (hcell : ∀ j (h : j < l.length), w.cell? ⟨g, o + j, Option.none⟩ = some (.int .u8 (l[j].toNat : Int))) :
    (convert 109 9 (.slice (some ⟨g, o, Option.none⟩) n cap)).run Try.prog w = .ok (.string ⟨(l.take n).toArray⟩) w := by
  have := conv_part w g o l 0 n cap (by omega) hcell
  simpa using this
theorem conv_own {w : World} {B : Nat} {v : Value} {l : List UInt8} (h : OwnB B v l w) (hl : 1 ≤ l.length) : (convert 109 9 v).run Try.prog w = .ok (.string ⟨l.toArray⟩) w := by
  obtain ⟨g, c, rfl, _, hcs⟩ := h.at_ hl
  have := conv_cells w g 0 c l l.length (Nat.le_refl _) (fun j hj => by
    have := hcs j (.int .u8 (l[j].toNat : Int)) (by simp [Lib.byteCells, hj])
    rw [Addr.add_mid] at this; exact this)
  rw [List.take_length] at this; exact this
theorem list_ne {a b : List UInt8} (h : a ≠ b) : ((ByteArray.mk a.toArray).toList == (ByteArray.mk b.toArray).toList) = false := by
  rw [ByteArray.toList_eq, ByteArray.toList_eq, beq_eq_false_iff_ne]; simpa using h
theorem list_same {a b : List UInt8} (h : a = b) : ((ByteArray.mk a.toArray).toList == (ByteArray.mk b.toArray).toList) = true := by rw [h]; simp
theorem byt_nil (w : World) (B : Nat) : Byt w B (.slice none 0 0) [] := ⟨none, 0, rfl, Nat.le_refl _, fun h => absurd h (by simp)⟩
end Go.Proofs.Ytoekiencnbgmhaa
