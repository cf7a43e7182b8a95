/-
  The reference's GetText reads a text behind its length as the plain function says, whatever the bytes.
  The bytes are there in memory, at most 1,000,000.
-/
import Derived.Test.YtoekiencnbgmhaaReGet
set_option linter.unusedSimpArgs false
set_option linter.unusedVariables false
namespace Go.Proofs.Ytoekiencnbgmhaa
open Go.RowKit
set_option maxRecDepth 100000

def GotT (r : List UInt8 × Nat × Nat) (w : World) (e : Ending) (w' : World) : Prop := e = .returned (.tuple #[.string ⟨r.1.toArray⟩, .int .i64 r.2.1, .int .i64 r.2.2]) ∧ w = w'
theorem gotT {r : List UInt8 × Nat × Nat} {w : World} {s : ByteArray} {b c : Int} {l : List UInt8} {k e : Nat} (h : r = (l, k, e)) (hs : s = ⟨l.toArray⟩) (hb : b = k) (hc : c = e) : GotT r w (.returned (.tuple #[.string s, .int .i64 b, .int .i64 c])) w := ⟨by rw [h, hs, hb, hc], rfl⟩
theorem conv_part (w : World) (g o : Nat) (l : List UInt8) (k n cap : Nat) (hk : k + n ≤ l.length) (hcell : ∀ j (h : j < l.length), w.cell? ⟨g, o + j, Option.none⟩ = some (.int .u8 (l[j].toNat : Int))) :
    (convert 109 9 (.slice (some ⟨g, o + k, Option.none⟩) n cap)).run Try.prog w = .ok (.string ⟨((l.drop k).take n).toArray⟩) w := by
  have h := run_convert_bytes_arg (P := Try.prog) w 109 5 Try.underlying109 Try.underlying5 g (o + k) n cap (((l.drop k).take n).map fun x => (x.toNat : Int)) (by simp; omega) (fun i hi => by
    rw [Nat.add_assoc, hcell (k + i) (by omega)]
    simp [List.getD, hi, List.getElem?_drop, show k + i < l.length by omega]) 9 Try.underlying9
  rw [h]; congr 2; unfold strOfNums; rw [List.map_map]; congr 2
  conv => rhs; rw [← List.map_id ((l.drop k).take n)]
  apply List.map_congr_left; intro x _; simp
theorem conv_zero (w : World) (g o cap : Nat) :
    (convert 109 9 (.slice (some ⟨g, o, Option.none⟩) 0 cap)).run Try.prog w = .ok (.string ⟨#[]⟩) w :=
  run_convert_bytes_arg (P := Try.prog) w 109 5 Try.underlying109 Try.underlying5 g o 0 cap [] rfl (fun i hi => by omega) 9 Try.underlying9

theorem getT_of (l : List UInt8) : Nu.getT l = if (Nu.get l).2.2 ≠ 0 then ([], 0, (Nu.get l).2.2)
  else if (Nu.get l).1 < 0 ∨ 1048576 < (Nu.get l).1 then ([], 0, 1)
  else if (l.length : Int) - (Nu.get l).2.1 < (Nu.get l).1 then ([], 0, 2)
  else ((l.drop (Nu.get l).2.1).take (Nu.get l).1.toNat, (Nu.get l).2.1 + (Nu.get l).1.toNat, 0) := rfl
end Go.Proofs.Ytoekiencnbgmhaa
