/-
  The laws' begun answers true.
  There are no conditions.
-/
import Derived.Test.YtoekiencnbgmhaaC12Ref2
import Derived.Test.YtoekiencnbgmhaaC12Mdl
import Derived.Test.YtoekiencnbgmhaaC12Code
set_option linter.unusedSimpArgs false
set_option linter.unusedVariables false
namespace Go.Proofs.Ytoekiencnbgmhaa
open Go.RowKit Go.Deep
set_option maxRecDepth 100000

theorem Ints.nxt {k k' : World} {v : Value} {L : List Int} (h : Ints k k.heap.size v L) (hb : Below k.heap.size k k') : Ints k' k'.heap.size v L := (h.keep hb (Nat.le_refl _)).more hb.size
theorem ints_at {w k : World} (cs : List Value) (t : TypeId) (l : List Int) (n : Nat) (hc : cs = intCells l) (hn : l.length = n) (hk : w.alloc (.cells cs.toArray t) = k) : Ints k k.heap.size (.slice (some ⟨w.heap.size, 0, none⟩) n n) l := by
  subst hn; subst hc
  have h := ints_new w (intCells l).toArray t l rfl
  rw [hk] at h
  exact h.more (by rw [← hk]; simp)
theorem below_at {w k : World} {o : Obj} (hk : w.alloc o = k) : Below w.heap.size w k := by rw [← hk]; exact below_new12 w o
section
variable {A : Option Addr} {c n : Nat} {L : List Int} {A2 : Option Addr} {c2 m : Nat} {M : List Int} {w : World}
theorem may_n (h : Ints w w.heap.size (.slice A n c) L) (hn : L.length = n) (hl : n ≤ 1000) {b : Bool} (hb : may12 L = b) : Calls Try.prog 58 #[.slice A n c] w fun e w' => e = .returned (.bool b) ∧ w = w' := by subst hn; subst hb; exact may12_w A c _ L w h hl
theorem has_n (x : Int) (h : Ints w w.heap.size (.slice A n c) L) (hn : L.length = n) (hl : n ≤ 1000) {b : Bool} (hb : L.contains x = b) : Calls Try.prog 69 #[.slice A n c, .int .i64 x] w fun e w' => e = .returned (.bool b) ∧ w = w' := by subst hn; subst hb; exact has12_w A c _ L x w h hl
theorem maj_n (h : Ints w w.heap.size (.slice A n c) L) (h2 : Ints w w.heap.size (.slice A2 m c2) M) (hn : L.length = n) (hm : M.length = m) (hl : n ≤ 1000) (hl2 : m ≤ 1000) {b : Bool} (hb : maj12 L M = b) : Calls Try.prog 61 #[.slice A n c, .slice A2 m c2] w fun e w' => e = .returned (.bool b) ∧ Below w.heap.size w w' := by subst hn; subst hm; subst hb; exact maj12_w A c _ L A2 c2 _ M w h h2 (Nat.le_refl _) (Nat.le_refl _) hl hl2
theorem dec_n (s : ByteArray) (hl : s.size ≤ 1000000) {r : Option (List Int)} (hr : dec12 s = r) : Calls Try.prog 67 #[.string s] w (Dec12 r w) := by subst hr; exact decode12_w s w hl
end
theorem midR_5 : midR [1, 2, 3] [0, 5, 7, 1] = 5 := by
  have h : (has12 [1, 2, 3] [0, 5, 7, 1]).mergeSort (fun x y : Int => decide (x ≤ y)) = [1, 5, 7] := by
    have hp := List.mergeSort_perm (has12 [1, 2, 3] [0, 5, 7, 1]) (fun x y : Int => decide (x ≤ y))
    have hq : (has12 [1, 2, 3] [0, 5, 7, 1]).Perm [1, 5, 7] := by decide
    refine (hp.trans hq).eq_of_pairwise (le := fun a b : Int => a ≤ b) (fun a b _ _ h1 h2 => by omega) (sort12_sorted _) (by decide)
  unfold midR mid12
  rw [h]
  rfl
end Go.Proofs.Ytoekiencnbgmhaa
