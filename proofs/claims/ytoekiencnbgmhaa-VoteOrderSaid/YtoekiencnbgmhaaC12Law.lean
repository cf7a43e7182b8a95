/-
  The laws' helpers set, eq and cut, and the reference's functions on lists of servers.
  Lists have at most 1,000 servers, texts at most 1,000 bytes.
-/
import Derived.Test.YtoekiencnbgmhaaC12Chg
import Derived.Deep.QuietTactic
import Derived.BigQuiet
import Derived.WalkSmall
set_option linter.unusedSimpArgs false
set_option linter.unusedVariables false
namespace Go.Proofs.Ytoekiencnbgmhaa
open Go.RowKit Go.Deep
set_option maxRecDepth 100000

def bitF (bits : Int) (k : Nat) : Bool := (bits / 2 ^ k).tmod 2 != 0
def setF12 (f : Nat → Bool) : List Int := ((List.range 7).filter f).map fun k : Nat => ((k : Int) + 1)
def setN (f : Nat → Bool) (n : Nat) : List Int := ((List.range n).filter f).map fun k : Nat => ((k : Int) + 1)
theorem setN_succ (f : Nat → Bool) (n : Nat) : setN f (n + 1) = setN f n ++ (if f n = true then [(n : Int) + 1] else []) := by
  unfold setN
  rw [List.range_succ, List.filter_append, List.map_append]
  congr 1
  cases h : f n <;> simp [h]
theorem setN_len (f : Nat → Bool) (n : Nat) : (setN f n).length ≤ n := by
  unfold setN
  rw [List.length_map]
  exact Nat.le_trans (List.length_filter_le _ _) (by simp)
theorem setF12_may (f : Nat → Bool) : mayF 0 (setF12 f) = true := by
  have h : ∀ a b c d e g i : Bool, mayF 0 ((if a then [1] else []) ++ (if b then [2] else []) ++ (if c then [3] else []) ++ (if d then [4] else []) ++ (if e then [5] else []) ++ (if g then [6] else []) ++ (if i then [7] else [])) = true := by decide +kernel
  have := h (f 0) (f 1) (f 2) (f 3) (f 4) (f 5) (f 6)
  have e : setF12 f = setN f 7 := rfl
  rw [e, setN_succ, setN_succ, setN_succ, setN_succ, setN_succ, setN_succ, setN_succ]
  have e0 : setN f 0 = [] := rfl
  rw [e0, List.nil_append]
  exact this
theorem setF12_len (f : Nat → Bool) : (setF12 f).length ≤ 7 := setN_len f 7
theorem OwnZ.new12 {B : Nat} {v : Value} {l : List Int} {w : World} (h : OwnZ B v l w) (o : Obj) : OwnZ B v l (w.alloc o) := h.below (below_new12 w o)
def eqL (a b : List Int) : Bool := decide (a = b)
theorem eqL_len {a b : List Int} (h : a.length ≠ b.length) : eqL a b = false := decide_eq_false (fun e => h (by rw [e]))
theorem eqL_at {a b : List Int} (k : Nat) (h1 : k < a.length) (h2 : k < b.length) (h : a[k] ≠ b[k]) : eqL a b = false := decide_eq_false (fun e => h (by subst e; rfl))
theorem take_more12 {a b : List Int} {k : Nat} (h : a.take k = b.take k) (h1 : k < a.length) (h2 : k < b.length) (e : a[k] = b[k]) : a.take (k + 1) = b.take (k + 1) := by
  rw [List.take_succ_eq_append_getElem h1, List.take_succ_eq_append_getElem h2, h, e]
end Go.Proofs.Ytoekiencnbgmhaa
