/-
  The laws' Same and tells: a document has just what the reference's has; bytes are a document's, just its, or nobody's.
  The document is a good one; the bytes are at most 1,000,000.
-/
import Derived.Test.YtegkhkcnoahhdaaL6Begun
import Derived.Deep.MidRow
import Derived.Deep.RegionHeld3
import Derived.Test.YtegkhkcnoahhdaaLawKit
set_option linter.unusedSimpArgs false
set_option linter.unusedVariables false
namespace Go.Proofs.Ytegkhkcnoahhdaa
open Go.RowKit
set_option maxRecDepth 100000

theorem dGet_at {l : List Par} (h : Srt l) (k : Nat) (hk : k < l.length) : dGet l l[k].k = (l[k].v, true) := by
  have hp : pos l l[k].k = k := by
    refine pos_is l _ k (Nat.le_of_lt hk) (fun t ht htk => srt_at h htk hk) (fun _ => lesB_self _)
  have hh : hasK l l[k].k = true := by
    unfold hasK
    rw [hp, List.getElem?_eq_getElem hk]
    simp [sameK]
  rw [dGet_yes h hh]
  congr 1
  simp only [hp]
theorem OwnS.cellAt {B g n c : Nat} {ks : List ByteArray} {w : World} (h : OwnS B (.slice (some ⟨g, 0, none⟩) n c) ks w) (i : Nat) (hi : i < ks.length) : w.cell? ⟨g, i, none⟩ = some (.string ks[i]) := by
  have hn : n = ks.length := by
    rcases h.2 with ⟨e, _⟩ | ⟨g', c', cur, e, _⟩
    · cases e
    · injection e
  subst hn
  have h2 := World.ownsRow.cellAt h i (by omega)
  rw [h2]; simp [hi]
theorem OwnS.lt {B g n c : Nat} {ks : List ByteArray} {w : World} (h : OwnS B (.slice (some ⟨g, 0, none⟩) n c) ks w) : B ≤ g ∧ g < w.heap.size := World.ownsRow.lt h g rfl
end Go.Proofs.Ytegkhkcnoahhdaa
