/-
  Votes as laws hold them: contracts by values.
  There are no conditions beyond those that each lemma names.
-/
import Derived.Test.YtoekiencnbgmhaaV14Won
import Derived.Test.YtoekiencnbgmhaaV14Ref
namespace Go.Proofs.Ytoekiencnbgmhaa
open Go.RowKit Go.Deep
set_option maxRecDepth 100000

theorem VB.bel {B : Nat} {w w' : World} {g : Nat} {v : Value} {L : List Int} {s : Int → Int} (h : VB B w g v L s) (hg : w.grownBy w' (some g)) : Below B w w' :=
  (Below.refl B w).grown hg (Nat.le_trans h.base (Nat.le_of_lt h.box.lt)) (fun j hj => by injection hj with hj; subst hj; exact h.base)
/-- what a vote leaves -/
def Vd (B : Nat) (w : World) (g : Nat) (v : Value) (L : List Int) (s : Int → Int) (b : Bool) (e : Ending) (w' : World) : Prop :=
  e = .returned (.bool b) ∧ VB B w' g v L s ∧ w.grownBy w' (some g) ∧ Below B w w'
section
variable {B : Nat} {w : World} {g : Nat} {v : Value} {L : List Int} {s s' : Int → Int} {b : Bool}
theorem vyes_n (h : VB B w g v L s) (i : Int) (hb : takes14 L s i = b) (hs : take14 L s i 1 = s') :
    Calls Try.prog 31 #[.pointer (some ⟨g, 0, none⟩), .int .i64 i] w (Vd B w g v L s' b) := by
  subst hb; subst hs
  exact (vyes_any h i).mono fun e w' ⟨h1, h2, h3⟩ => ⟨h1, h2, h3, h.bel h3⟩
theorem vno_n (h : VB B w g v L s) (i : Int) (hb : takes14 L s i = b) (hs : take14 L s i 2 = s') :
    Calls Try.prog 32 #[.pointer (some ⟨g, 0, none⟩), .int .i64 i] w (Vd B w g v L s' b) := by
  subst hb; subst hs
  exact (vno_any h i).mono fun e w' ⟨h1, h2, h3⟩ => ⟨h1, h2, h3, h.bel h3⟩
theorem vwon_n (h : VB B w g v L s) (hb : won14 L s = b) :
    Calls Try.prog 33 #[.pointer (some ⟨g, 0, none⟩)] w fun e w' => e = .returned (.bool b) ∧ VB B w' g v L s ∧ Below w.heap.size w w' := by
  subst hb
  exact (vwon_any h).mono fun e w' ⟨h1, h2⟩ => ⟨h1, h.below h2, h2⟩
theorem vlost_n (h : VB B w g v L s) (hb : lost14 L s = b) :
    Calls Try.prog 35 #[.pointer (some ⟨g, 0, none⟩)] w fun e w' => e = .returned (.bool b) ∧ VB B w' g v L s ∧ Below w.heap.size w w' := by
  subst hb
  exact (vlost_any h).mono fun e w' ⟨h1, h2⟩ => ⟨h1, h.below h2, h2⟩
theorem vnew_n {A : Option Addr} {c n : Nat} {M : List Int} (h : Ints w w.heap.size (.slice A n c) L) (hn : L.length = n) (hl : n ≤ 1000) (hM : (if may12 L = true then L else []) = M) :
    Calls Try.prog 28 #[.slice A n c] w fun e w' => ∃ g v, e = .returned (.pointer (some ⟨g, 0, none⟩)) ∧ VB w.heap.size w' g v M (fun _ => 0) ∧ Below w.heap.size w w' := by
  subst hn; subst hM
  exact vnew_any A c _ L w h hl
theorem rmaj_n {A A2 : Option Addr} {c c2 n m B2 : Nat} {M : List Int} (h : Ints w B (.slice A n c) L) (h2 : Ints w B2 (.slice A2 m c2) M) (hn : L.length = n) (hm : M.length = m) (hl : n ≤ 1000) (hl2 : m ≤ 1000) (hb : rmaj14 L M = b) :
    Calls Try.prog 34 #[.slice A n c, .slice A2 m c2] w fun e w' => e = .returned (.bool b) ∧ Below w.heap.size w w' := by
  subst hn; subst hm; subst hb
  exact rmaj14_w A c B L A2 c2 B2 M w h h2 hl hl2
end
theorem nyes14 (w : World) (i : Int) : Calls Try.prog 31 #[.pointer none, .int .i64 i] w fun e w' => e = .returned (.bool false) ∧ Below w.heap.size w w' := by
  have ht : ∀ x : Int, Calls Try.prog 60 #[.pointer none, .int .i64 i, .int .i64 x] w fun e w' => e = .returned (.bool false) ∧ Below w.heap.size w w' := fun x => by
    go_enter Try.func60, Try.ntmps60
    go_wp2
    go_ret
    exact ⟨rfl, by first | exact Below.refl _ _ | exact (Below.refl _ _).drew⟩
  have h1 := ht 1
  clear ht
  go_enter Try.func31, Try.ntmps31
  go_wp2_with fail
  refine h1.mono ?_
  rintro e w' ⟨rfl, h2⟩
  go_wp2
  go_ret
  exact ⟨rfl, h2⟩
theorem nno14 (w : World) (i : Int) : Calls Try.prog 32 #[.pointer none, .int .i64 i] w fun e w' => e = .returned (.bool false) ∧ Below w.heap.size w w' := by
  have h1 : Calls Try.prog 60 #[.pointer none, .int .i64 i, .int .i64 2] w fun e w' => e = .returned (.bool false) ∧ Below w.heap.size w w' := by
    go_enter Try.func60, Try.ntmps60
    go_wp2
    go_ret
    exact ⟨rfl, by first | exact Below.refl _ _ | exact (Below.refl _ _).drew⟩
  go_enter Try.func32, Try.ntmps32
  go_wp2_with fail
  refine h1.mono ?_
  rintro e w' ⟨rfl, h2⟩
  go_wp2
  go_ret
  exact ⟨rfl, h2⟩
theorem nwon14 (w : World) : Calls Try.prog 33 #[.pointer none] w fun e w' => e = .returned (.bool false) ∧ Below w.heap.size w w' := by
  go_enter Try.func33, Try.ntmps33
  go_wp2_with fail
  go_quiet (fail)
  go_wp2
  go_ret
  exact ⟨rfl, ⟨rfl, rfl, rfl, Nat.le_refl _, fun _ _ => rfl⟩⟩
theorem nlost14 (w : World) : Calls Try.prog 35 #[.pointer none] w fun e w' => e = .returned (.bool false) ∧ Below w.heap.size w w' := by
  go_enter Try.func35, Try.ntmps35
  go_wp2
  go_ret
  exact ⟨rfl, by first | exact Below.refl _ _ | exact (Below.refl _ _).drew⟩
end Go.Proofs.Ytoekiencnbgmhaa
