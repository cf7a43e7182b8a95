/-
  A disk with one file: what the steps make of it.
  The file has at most 200 bytes.
-/
import Derived.Test.YtbdengcblncfmaaD9Begun
set_option linter.unusedSimpArgs false
set_option linter.unusedVariables false
namespace Go.Proofs.Ytbdengcblncfmaa
open Go.RowKit
set_option maxRecDepth 100000

def nF : ByteArray := ⟨#[102]⟩
theorem nF_good : goodN nF = true := by decide
theorem nF_size : nF.size ≤ maxLen := by decide
theorem one_get (f : Fil) : getF f.name [f] = some f := by unfold getF; simp
theorem one_of (bs : List UInt8) (k : Nat) (t : Bool) : fileOf nF [⟨nF, bs, k, t⟩] = ⟨nF, bs, k, t⟩ := by
  unfold fileOf
  rw [show getF nF [⟨nF, bs, k, t⟩] = some ⟨nF, bs, k, t⟩ from one_get ⟨nF, bs, k, t⟩]; rfl
theorem one_app0 (bs : List UInt8) (h : bs.length ≤ 60) : app9 nF bs [] = (0, [⟨nF, bs, 0, false⟩]) := by
  unfold app9
  rw [if_neg (by rw [nF_good]; simp), if_neg (by show ¬ 1048576 < 0 + bs.length; omega)]
  rfl
theorem one_app (bs xs : List UInt8) (k : Nat) (t : Bool) (h : bs.length ≤ 60) (h2 : xs.length ≤ 60) : app9 nF bs [⟨nF, xs, k, t⟩] = (0, [⟨nF, xs ++ bs, k, t⟩]) := by
  unfold app9
  rw [one_of, if_neg (by rw [nF_good]; simp), if_neg (by show ¬ 1048576 < xs.length + bs.length; omega)]
  unfold setF
  rw [if_pos rfl]
theorem one_swap (bs xs : List UInt8) (k : Nat) (t : Bool) (h : bs.length ≤ 60) : swap9 nF bs [⟨nF, xs, k, t⟩] = (0, [⟨nF, bs, bs.length, true⟩]) := by
  unfold swap9
  rw [if_neg (by rw [nF_good]; simp), if_neg (by omega)]
  unfold setF
  rw [if_pos rfl]
theorem one_sync (xs : List UInt8) (k : Nat) (t : Bool) : sync9 nF [⟨nF, xs, k, t⟩] = (0, [⟨nF, xs, xs.length, true⟩]) := by
  unfold sync9
  rw [show getF nF [⟨nF, xs, k, t⟩] = some ⟨nF, xs, k, t⟩ from one_get ⟨nF, xs, k, t⟩]
  show (0, setF _ _) = _
  unfold setF
  rw [if_pos rfl]
theorem one_loose (xs : List UInt8) (k : Nat) (t : Bool) : loose9 nF [⟨nF, xs, k, t⟩] = (xs.length : Int) - k := by
  unfold loose9
  rw [show getF nF [⟨nF, xs, k, t⟩] = some ⟨nF, xs, k, t⟩ from one_get ⟨nF, xs, k, t⟩]
theorem one_crash (xs : List UInt8) (k : Nat) (n : Int) (q : Nat) (h : kOf9 n ⟨nF, xs, k, true⟩ = q) : crash9 n [⟨nF, xs, k, true⟩] = [⟨nF, xs.take (k + q), k + q, true⟩] := by
  unfold crash9 left9
  rw [List.flatMap_cons, h]
  simp
theorem kOf9_full (xs : List UInt8) (n : Int) : kOf9 n ⟨nF, xs, xs.length, true⟩ = 0 := by
  unfold kOf9
  split
  · rename_i h
    show (n.tmod ((xs.length : Int) - (xs.length : Nat) + 1)).toNat = 0
    rw [Int.sub_self, Int.zero_add]
    simp
  · rfl
theorem one_crash_full (xs : List UInt8) (n : Int) : crash9 n [⟨nF, xs, xs.length, true⟩] = [⟨nF, xs, xs.length, true⟩] := by
  rw [one_crash xs xs.length n 0 (kOf9_full xs n), Nat.add_zero, List.take_length]
end Go.Proofs.Ytbdengcblncfmaa
