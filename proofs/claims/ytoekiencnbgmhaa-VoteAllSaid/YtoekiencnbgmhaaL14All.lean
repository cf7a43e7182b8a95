/-
  What VoteAll asks, for a list that may be and for one that may not.
  There are no conditions beyond those that each lemma names.
-/
import Derived.Test.YtoekiencnbgmhaaV14Begun
import Derived.Test.YtoekiencnbgmhaaL14Open
import Derived.Test.YtoekiencnbgmhaaL12Kit
namespace Go.Proofs.Ytoekiencnbgmhaa
open Go.RowKit Go.Deep
set_option maxRecDepth 100000

theorem votes_won14 {L M : List Int} {s : Int → Int} {Y N : List Int} (hM : (if may12 L = true then L else []) = M) (h : VR M s Y N) : won14 M s = rmaj14 L Y := by
  by_cases hm : may12 L = true
  · rw [if_pos hm] at hM
    subst hM
    rw [h.won hm]
    unfold rmaj14
    rw [hm, Bool.true_and]
  · rw [if_neg hm] at hM
    subst hM
    unfold rmaj14
    rw [show may12 L = false by simpa using hm]
    rfl
theorem votes_lost14 {L M : List Int} {s : Int → Int} {Y N : List Int} (hM : (if may12 L = true then L else []) = M) (h : VR M s Y N) : lost14 M s = (may12 L && decide (2 * ((L.length : Int) - N.length) ≤ L.length)) := by
  by_cases hm : may12 L = true
  · rw [if_pos hm] at hM
    subst hM
    rw [h.lost hm, hm, Bool.true_and]
  · rw [if_neg hm] at hM
    subst hM
    rw [show may12 L = false by simpa using hm]
    rfl
theorem votes_want14 {L M : List Int} {s : Int → Int} {Y N : List Int} (hM : (if may12 L = true then L else []) = M) (h : VR M s Y N) (i : Int) : takes14 M s i = (may12 L && L.contains i && !Y.contains i && !N.contains i) := by
  rw [h.takes]
  by_cases hm : may12 L = true
  · rw [if_pos hm] at hM
    subst hM
    rw [hm, Bool.true_and]
  · rw [if_neg hm] at hM
    subst hM
    rw [show may12 L = false by simpa using hm]
    rfl
theorem votes_nodup14 {L M : List Int} (hM : (if may12 L = true then L else []) = M) : M.Nodup := by
  by_cases hm : may12 L = true
  · rw [if_pos hm] at hM
    subst hM
    exact may12_nodup hm
  · rw [if_neg hm] at hM
    subst hM
    exact List.nodup_nil
theorem ownsRow_under14 {B C e s n : Nat} {v : Value} {xs : List Value} {w w' : World} (h : w.ownsRow B e s v n xs) (hb : Below C w w') (hC : ∀ k, v.ownBlock = some k → k < C) : w'.ownsRow B e s v n xs := by
  refine ⟨h.1, ?_⟩
  rcases h.2 with h2 | ⟨g, c, cur, hv, hB, hg, r⟩
  · exact .inl h2
  · exact .inr ⟨g, c, cur, hv, hB, (hb.block g (by rw [hv] at hC; exact hC g rfl)).trans hg, r⟩
theorem VB.under {B C : Nat} {w w' : World} {g : Nat} {v : Value} {L : List Int} {s : Int → Int} (h : VB B w g v L s) (hb : Below C w w') (hg : g < C) (hv : ∀ x, v.ownBlock = some x → x < C) : VB B w' g v L s :=
  ⟨h.box.under hb hg, ownsRow_under14 h.row hb hv, h.base, h.apart, h.ids, h.short⟩
theorem OwnZ.off14 {B g : Nat} {u : Value} {l : List Int} {w w' : World} (h : OwnZ B u l w) (hg : w.grownBy w' (some g)) (hlt : g < B) : OwnZ B u l w' :=
  World.ownsRow.kept h hg (by
    cases e : u.ownBlock with
    | none => exact .inl rfl
    | some j =>
      refine .inr fun e2 => ?_
      injection e2 with e2
      have := (World.ownsRow.lt h j e).1
      omega)
end Go.Proofs.Ytoekiencnbgmhaa
