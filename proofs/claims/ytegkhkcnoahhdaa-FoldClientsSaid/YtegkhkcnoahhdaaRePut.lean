/-
  Plain facts on numbers written seven bits a byte, with no program in them: what is written is read again.
  There are no conditions beyond those that each lemma names.
-/
import GoSem.Claim
import Derived.Test.YtegkhkcnoahhdaaWAppend
import Derived.Lib.Zigzag
import Derived.Laws.BitsAllLaws
import Derived.Lib.AppendStr
set_option linter.unusedVariables false
set_option linter.unusedSimpArgs false
set_option linter.unusedVariables false
namespace Go.Proofs.Ytegkhkcnoahhdaa.Nu
open Go

/-- an integer as a natural number, small ones first -/
def zz (n : Int) : Nat := if n < 0 then (-2 * n - 1).toNat else (2 * n).toNat
def unzz (u : Nat) : Int := if u % 2 = 1 then -((u / 2 : Nat) : Int) - 1 else ((u / 2 : Nat) : Int)
theorem unzz_zz (n : Int) : unzz (zz n) = n := by unfold zz unzz; split <;> split <;> omega
theorem zz_unzz (u : Nat) : zz (unzz u) = u := by unfold zz unzz; split <;> split <;> omega
theorem zz_lt (n : Int) (h0 : -9223372036854775808 ≤ n) (h1 : n ≤ 9223372036854775807) : zz n < 18446744073709551616 := by unfold zz; split <;> omega

/-- seven bits a byte, the lowest first -/
def vr : Nat → Nat → List UInt8
  | 0, _ => []
  | f + 1, u => if u < 128 then [u.toUInt8] else (u % 128 + 128).toUInt8 :: vr f (u / 128)
def var (u : Nat) : List UInt8 := vr 10 u
def put (n : Int) : List UInt8 := var (zz n)

/-- what is read from place i on: the number, how many bytes, the error (0: none, 1: form, 2: more) -/
def getF (i u w : Nat) : List UInt8 → Int × Nat × Nat
  | [] => (0, 0, 2)
  | c :: t =>
    if (i = 9 ∧ 1 < c.toNat) ∨ (0 < i ∧ c.toNat = 0) then (0, 0, 1)
    else if c.toNat < 128 then (unzz (u + c.toNat % 128 * w), i + 1, 0)
    else getF (i + 1) (u + c.toNat % 128 * w) (w * 128) t
def get (l : List UInt8) : Int × Nat × Nat := getF 0 0 1 l

theorem u8n (n : Nat) (h : n < 256) : (n.toUInt8).toNat = n := by simp [Nat.toUInt8]; omega

theorem getF_vr (f : Nat) : ∀ (i u0 w u : Nat) (r : List UInt8), u < 128 ^ f → (u = 0 → i = 0) → i + f = 10 → (i = 9 → u ≤ 1) → (0 < f) → u * 128 ^ i < 18446744073709551616 →
    getF i u0 w (vr f u ++ r) = (unzz (u0 + u * w), i + (vr f u).length, 0) := by
  induction f with
  | zero => intro i u0 w u r h h0 hi h9 hf; omega
  | succ f ih =>
    intro i u0 w u r h h0 hi h9 hf hb
    by_cases hu : u < 128
    · simp only [vr, if_pos hu, List.cons_append, List.nil_append, getF, List.length_cons, List.length_nil]
      rw [u8n u (by omega), if_neg (by omega), if_pos hu, Nat.mod_eq_of_lt hu]
    · simp only [vr, if_neg hu, List.cons_append, getF, List.length_cons]
      have hf0 : 0 < f := by
        cases f with
        | zero => simp at h; omega
        | succ f => omega
      rw [u8n _ (by omega), if_neg (by omega), if_neg (by omega)]
      have e : (u % 128 + 128) % 128 = u % 128 := by omega
      rw [e]
      have hp : (128 : Nat) ^ (i + 1) = 128 ^ i * 128 := Nat.pow_succ ..
      have hd : u / 128 * 128 ≤ u := Nat.div_mul_le_self u 128
      have hb2 : u / 128 * 128 ^ (i + 1) < 18446744073709551616 := by
        rw [hp]
        calc u / 128 * (128 ^ i * 128) = (u / 128 * 128) * 128 ^ i := by rw [Nat.mul_comm (128 ^ i) 128, Nat.mul_assoc]
          _ ≤ u * 128 ^ i := Nat.mul_le_mul_right _ hd
          _ < _ := hb
      have hu2 : u / 128 < 128 ^ f := by
        rw [Nat.pow_succ] at h; omega
      rw [ih (i + 1) _ (w * 128) (u / 128) r hu2 (by omega) (by omega) ?_ hf0 hb2]
      · congr 1
        · congr 1
          have h1 : u % 128 * w + u / 128 * (w * 128) = u * w := by
            have h2 : u = u % 128 + u / 128 * 128 := by omega
            calc u % 128 * w + u / 128 * (w * 128) = (u % 128 + u / 128 * 128) * w := by rw [Nat.add_mul, Nat.mul_comm w 128, Nat.mul_assoc]
              _ = u * w := by rw [← h2]
          omega
        · congr 1; omega
      · intro h8
        have hi8 : i + 1 = 9 := h8
        rw [hi8] at hb2
        have : (128 : Nat) ^ 9 = 9223372036854775808 := by decide
        rw [this] at hb2; omega
theorem get_put (n : Int) (r : List UInt8) (h0 : -9223372036854775808 ≤ n) (h1 : n ≤ 9223372036854775807) : get (put n ++ r) = (n, (put n).length, 0) := by
  have hz := zz_lt n h0 h1
  unfold get put var
  rw [getF_vr 10 0 0 1 (zz n) r (by have : (128 : Nat) ^ 10 = 1180591620717411303424 := by decide
                                    omega) (by omega) (by omega) (by omega) (by omega) (by omega)]
  rw [Nat.mul_one, Nat.zero_add, Nat.zero_add, unzz_zz]
theorem vr_len (f u : Nat) : (vr f u).length ≤ f := by
  induction f generalizing u with
  | zero => simp [vr]
  | succ f ih => simp only [vr]; split <;> simp; exact ih _
theorem put_len (n : Int) : (put n).length ≤ 10 := vr_len 10 _
theorem put_ne (n : Int) : 1 ≤ (put n).length := by unfold put var vr; split <;> simp
/-- what is read has as many bytes as there are -/
theorem getF_len : ∀ (l : List UInt8) (i u w : Nat), (getF i u w l).2.1 ≤ i + l.length := by
  intro l; induction l with
  | nil => intro i u w; simp [getF]
  | cons c t ih =>
    intro i u w; simp only [getF]
    split
    · simp
    · split
      · simp
      · have := ih (i + 1) (u + c.toNat % 128 * w) (w * 128); simp only [List.length_cons]; omega
theorem get_len (l : List UInt8) : (get l).2.1 ≤ l.length := by have := getF_len l 0 0 1; unfold get; omega
theorem getF_pos : ∀ (l : List UInt8) (i u w : Nat), (getF i u w l).2.2 = 0 → i + 1 ≤ (getF i u w l).2.1 := by
  intro l; induction l with
  | nil => intro i u w h; simp [getF] at h
  | cons c t ih =>
    intro i u w; simp only [getF]
    split
    · intro h; simp at h
    · split
      · intro _; simp
      · intro h; have := ih (i + 1) (u + c.toNat % 128 * w) (w * 128) h; omega
theorem get_pos (l : List UInt8) (h : (get l).2.2 = 0) : 1 ≤ (get l).2.1 := by have := getF_pos l 0 0 1 h; unfold get; omega
theorem getF_err : ∀ (l : List UInt8) (i u w : Nat), (getF i u w l).2.2 ≤ 2 := by
  intro l; induction l with
  | nil => intro i u w; simp [getF]
  | cons c t ih =>
    intro i u w; simp only [getF]
    split
    · simp
    · split
      · simp
      · exact ih _ _ _
theorem get_err (l : List UInt8) : (get l).2.2 ≤ 2 := getF_err l 0 0 1
/-- a text behind its length -/
def getT (l : List UInt8) : List UInt8 × Nat × Nat :=
  if (get l).2.2 ≠ 0 then ([], 0, (get l).2.2)
  else if (get l).1 < 0 ∨ 1048576 < (get l).1 then ([], 0, 1)
  else if (l.length : Int) - (get l).2.1 < (get l).1 then ([], 0, 2)
  else ((l.drop (get l).2.1).take (get l).1.toNat, (get l).2.1 + (get l).1.toNat, 0)
def putT (l : List UInt8) : List UInt8 := put (l.length : Int) ++ l
theorem getT_putT (l r : List UInt8) (hl : l.length ≤ 1048576) : getT (putT l ++ r) = (l, (putT l).length, 0) := by
  have h := get_put (l.length : Int) (l ++ r) (by omega) (by omega)
  unfold getT putT
  rw [List.append_assoc, h]
  simp only [ne_eq, not_true_eq_false, if_false, Int.toNat_natCast]
  rw [if_neg (by omega), if_neg (by simp only [List.length_append]; omega)]
  simp
end Go.Proofs.Ytegkhkcnoahhdaa.Nu
/-
  The reference's Get reads a number as the plain function says, whatever the bytes.
  The bytes are there in memory, at most as many as the model lets a slice have.
-/
namespace Go.Proofs.Ytegkhkcnoahhdaa
open Go.RowKit
set_option maxRecDepth 100000

def GotN (r : Int × Nat × Nat) (w : World) (e : Ending) (w' : World) : Prop := e = .returned (.tuple #[.int .i64 r.1, .int .i64 r.2.1, .int .i64 r.2.2]) ∧ w = w'
theorem gstep (l : List UInt8) (i u p : Nat) (h : Nu.getF i u p (l.drop i) = Nu.get l) (hi : i < l.length) :
    Nu.get l = if (i = 9 ∧ 1 < l[i].toNat) ∨ (0 < i ∧ l[i].toNat = 0) then (0, 0, 1) else if l[i].toNat < 128 then (Nu.unzz (u + l[i].toNat % 128 * p), i + 1, 0) else Nu.getF (i + 1) (u + l[i].toNat % 128 * p) (p * 128) (l.drop (i + 1)) := by
  rw [← h, List.drop_eq_getElem_cons hi]; rfl
theorem got3 {r : Int × Nat × Nat} {w : World} {a b c : Int} (ha : a = r.1) (hb : b = r.2.1) (hc : c = r.2.2) : GotN r w (.returned (.tuple #[.int .i64 a, .int .i64 b, .int .i64 c])) w := ⟨by rw [ha, hb, hc], rfl⟩
theorem mul_bd (x k un : Nat) (hx : x < 128) (hk : k ≤ 8) (hun : un < 128 ^ k) : x * 128 ^ k + un < 9223372036854775808 ∧ 128 ^ k ≤ 72057594037927936 := by
  have h1 : (128 : Nat) ^ k ≤ 128 ^ 8 := Nat.pow_le_pow_right (by decide) hk
  have h2 : (128 : Nat) ^ 8 = 72057594037927936 := by decide
  have h3 : x * 128 ^ k ≤ 127 * 128 ^ k := Nat.mul_le_mul_right _ (by omega)
  omega
theorem unzz_odd (N : Nat) (h : N % 2 = 1) : Nu.unzz N = -((N : Int) / 2) - 1 := by unfold Nu.unzz; rw [if_pos h]; omega
theorem unzz_even (N : Nat) (h : ¬ N % 2 = 1) : Nu.unzz N = (N : Int) / 2 := by unfold Nu.unzz; rw [if_neg h]; omega

end Go.Proofs.Ytegkhkcnoahhdaa
/-
  The reference's GetText reads a text behind its length as the plain function says, whatever the bytes.
  The bytes are there in memory, at most 1,000,000.
-/
namespace Go.Proofs.Ytegkhkcnoahhdaa
open Go.RowKit
set_option maxRecDepth 100000

def GotT (r : List UInt8 × Nat × Nat) (w : World) (e : Ending) (w' : World) : Prop := e = .returned (.tuple #[.string ⟨r.1.toArray⟩, .int .i64 r.2.1, .int .i64 r.2.2]) ∧ w = w'
theorem gotT {r : List UInt8 × Nat × Nat} {w : World} {s : ByteArray} {b c : Int} {l : List UInt8} {k e : Nat} (h : r = (l, k, e)) (hs : s = ⟨l.toArray⟩) (hb : b = k) (hc : c = e) : GotT r w (.returned (.tuple #[.string s, .int .i64 b, .int .i64 c])) w := ⟨by rw [h, hs, hb, hc], rfl⟩
theorem conv_part (w : World) (g o : Nat) (l : List UInt8) (k n cap : Nat) (hk : k + n ≤ l.length) (hcell : ∀ j (h : j < l.length), w.cell? ⟨g, o + j, Option.none⟩ = some (.int .u8 (l[j].toNat : Int))) :
    (convert 22 9 (.slice (some ⟨g, o + k, Option.none⟩) n cap)).run Try.prog w = .ok (.string ⟨((l.drop k).take n).toArray⟩) w := by
  have h := run_convert_bytes_arg (P := Try.prog) w 22 5 Try.underlying22 Try.underlying5 g (o + k) n cap (((l.drop k).take n).map fun x => (x.toNat : Int)) (by simp; omega) (fun i hi => by
    rw [Nat.add_assoc, hcell (k + i) (by omega)]
    simp [List.getD, hi, List.getElem?_drop, show k + i < l.length by omega]) 9 Try.underlying9
  rw [h]; congr 2; unfold strOfNums; rw [List.map_map]; congr 2
  conv => rhs; rw [← List.map_id ((l.drop k).take n)]
  apply List.map_congr_left; intro x _; simp
theorem conv_zero (w : World) (g o cap : Nat) :
    (convert 22 9 (.slice (some ⟨g, o, Option.none⟩) 0 cap)).run Try.prog w = .ok (.string ⟨#[]⟩) w :=
  run_convert_bytes_arg (P := Try.prog) w 22 5 Try.underlying22 Try.underlying5 g o 0 cap [] rfl (fun i hi => by omega) 9 Try.underlying9

theorem getT_of (l : List UInt8) : Nu.getT l = if (Nu.get l).2.2 ≠ 0 then ([], 0, (Nu.get l).2.2)
  else if (Nu.get l).1 < 0 ∨ 1048576 < (Nu.get l).1 then ([], 0, 1)
  else if (l.length : Int) - (Nu.get l).2.1 < (Nu.get l).1 then ([], 0, 2)
  else ((l.drop (Nu.get l).2.1).take (Nu.get l).1.toNat, (Nu.get l).2.1 + (Nu.get l).1.toNat, 0) := rfl
end Go.Proofs.Ytegkhkcnoahhdaa
/-
  The reference's Put writes a number seven bits a byte, in new memory.
  There are no conditions beyond the range of the number.
-/
namespace Go.Proofs.Ytegkhkcnoahhdaa
open Go.RowKit
set_option maxRecDepth 100000

theorem u64_not (n : Int) (h0 : n < 0) (h1 : -9223372036854775808 ≤ n) : bits BinOp.xor IntKind.u64 IntKind.u64.max (IntKind.u64.wrap (IntKind.u64.wrap n * 2)) = (Nu.zz n : Nat) := by
  have e1 : IntKind.u64.wrap (IntKind.u64.wrap n * 2) = 2 * n + 18446744073709551616 := by
    unfold IntKind.wrap; simp [IntKind.bits, IntKind.signed]; omega
  have e2 : IntKind.u64.max = 18446744073709551615 := rfl
  rw [e1, e2, u64_xor _ _ (by omega) (by omega) (by omega) (by omega)]
  have e3 := Lib.xor_ones64 (2 * n + 18446744073709551616).toNat (by omega)
  have e4 : (18446744073709551615 : Int).toNat = 2 ^ 64 - 1 := rfl
  rw [e4, e3]
  unfold Nu.zz; rw [if_pos h0]; omega
theorem vr_end (f u : Nat) (h : u < 128) (hf : 0 < f) : Nu.vr f u = [u.toUInt8] := by
  cases f with
  | zero => omega
  | succ f => simp only [Nu.vr, if_pos h]
theorem vr_more (f u : Nat) (h : ¬ u < 128) : Nu.vr (f + 1) u = (u % 128 + 128).toUInt8 :: Nu.vr f (u / 128) := by simp only [Nu.vr, if_neg h]
def Rest (n : Int) (f u : Nat) (done : List UInt8) : Prop := done ++ Nu.vr f u = Nu.put n ∧ u < 128 ^ f ∧ 0 < f ∧ done.length + f = 10
theorem rest_end' (n : Int) (f u : Nat) (done : List UInt8) (h : Rest n f u done) (hu : u < 128) : done ++ [u.toUInt8] = Nu.put n := by
  rw [← h.1, vr_end f u hu h.2.2.1]
theorem rest_more (n : Int) (f u : Nat) (done : List UInt8) (h : Rest n f u done) (hu : ¬ u < 128) : ∃ g, f = g + 1 ∧ Rest n g (u / 128) (done ++ [(u % 128 + 128).toUInt8]) := by
  obtain ⟨h1, h2, h3, h4⟩ := h
  cases f with
  | zero => omega
  | succ g =>
    have hg : 0 < g := by
      cases g with
      | zero => simp at h2; omega
      | succ g => omega
    refine ⟨g, rfl, ?_, ?_, hg, by simp; omega⟩
    · rw [← h1, vr_more g u hu]; simp
    · rw [Nat.pow_succ] at h2; omega
theorem rest_start (n : Int) (h0 : -9223372036854775808 ≤ n) (h1 : n ≤ 9223372036854775807) : Rest n 10 (Nu.zz n) [] := by
  have hz := Nu.zz_lt n h0 h1
  have : (128 : Nat) ^ 10 = 1180591620717411303424 := by decide
  exact ⟨rfl, by omega, by omega, rfl⟩
theorem cell_u8 (c : UInt8) (m : Int) (h : m = (c.toNat : Int)) : Value.int .u8 m = Value.int .u8 (c.toNat : Int) := by rw [h]
theorem bc_snoc (l : List UInt8) (c : UInt8) : Lib.byteCells (l ++ [c]) = Lib.byteCells l ++ [.int .u8 (c.toNat : Int)] := by simp [Lib.byteCells]

end Go.Proofs.Ytegkhkcnoahhdaa
/-
  The reference's PutText writes a text's length and its bytes, in new memory.
  The text has at most 1,000,000 bytes.
-/
namespace Go.Proofs.Ytegkhkcnoahhdaa
open Go.RowKit
set_option maxRecDepth 100000

theorem strCells_bytes (s : ByteArray) : Lib.strCells s = Lib.byteCells s.data.toList := rfl
end Go.Proofs.Ytegkhkcnoahhdaa
