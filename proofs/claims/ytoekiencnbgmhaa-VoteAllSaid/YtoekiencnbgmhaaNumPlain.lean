/-
  Plain facts on numbers written seven bits a byte, with no program in them: what is written is read again.
  There are no conditions beyond those that each lemma names.
-/
import GoSem.Claim
set_option linter.unusedVariables false
set_option linter.unusedSimpArgs false
set_option linter.unusedVariables false
namespace Go.Proofs.Ytoekiencnbgmhaa.Nu
open Go

/-- an integer as a natural number, small ones first -/
def zz (n : Int) : Nat := if n < 0 then (-2 * n - 1).toNat else (2 * n).toNat
def unzz (u : Nat) : Int := if u % 2 = 1 then -((u / 2 : Nat) : Int) - 1 else ((u / 2 : Nat) : Int)
theorem unzz_zz (n : Int) : unzz (zz n) = n := by unfold zz unzz; split <;> split <;> omega
theorem zz_unzz (u : Nat) : zz (unzz u) = u := by unfold zz unzz; split <;> split <;> omega
theorem zz_lt (n : Int) (h0 : -9223372036854775808 ≤ n) (h1 : n ≤ 9223372036854775807) : zz n < 18446744073709551616 := by unfold zz; split <;> omega

/-- seven bits a byte, the lowest first -/
def vr : Nat → Nat → List UInt8
  | 0, _ => []
  | f + 1, u => if u < 128 then [u.toUInt8] else (u % 128 + 128).toUInt8 :: vr f (u / 128)
def var (u : Nat) : List UInt8 := vr 10 u
def put (n : Int) : List UInt8 := var (zz n)

/-- what is read from place i on: the number, how many bytes, the error (0: none, 1: form, 2: more) -/
def getF (i u w : Nat) : List UInt8 → Int × Nat × Nat
  | [] => (0, 0, 2)
  | c :: t =>
    if (i = 9 ∧ 1 < c.toNat) ∨ (0 < i ∧ c.toNat = 0) then (0, 0, 1)
    else if c.toNat < 128 then (unzz (u + c.toNat % 128 * w), i + 1, 0)
    else getF (i + 1) (u + c.toNat % 128 * w) (w * 128) t
def get (l : List UInt8) : Int × Nat × Nat := getF 0 0 1 l

theorem u8n (n : Nat) (h : n < 256) : (n.toUInt8).toNat = n := by simp [Nat.toUInt8]; omega

theorem getF_vr (f : Nat) : ∀ (i u0 w u : Nat) (r : List UInt8), u < 128 ^ f → (u = 0 → i = 0) → i + f = 10 → (i = 9 → u ≤ 1) → (0 < f) → u * 128 ^ i < 18446744073709551616 →
    getF i u0 w (vr f u ++ r) = (unzz (u0 + u * w), i + (vr f u).length, 0) := by
  induction f with
  | zero => intro i u0 w u r h h0 hi h9 hf; omega
  | succ f ih =>
    intro i u0 w u r h h0 hi h9 hf hb
    by_cases hu : u < 128
    · simp only [vr, if_pos hu, List.cons_append, List.nil_append, getF, List.length_cons, List.length_nil]
      rw [u8n u (by omega), if_neg (by omega), if_pos hu, Nat.mod_eq_of_lt hu]
    · simp only [vr, if_neg hu, List.cons_append, getF, List.length_cons]
      have hf0 : 0 < f := by
        cases f with
        | zero => simp at h; omega
        | succ f => omega
      rw [u8n _ (by omega), if_neg (by omega), if_neg (by omega)]
      have e : (u % 128 + 128) % 128 = u % 128 := by omega
      rw [e]
      have hp : (128 : Nat) ^ (i + 1) = 128 ^ i * 128 := Nat.pow_succ ..
      have hd : u / 128 * 128 ≤ u := Nat.div_mul_le_self u 128
      have hb2 : u / 128 * 128 ^ (i + 1) < 18446744073709551616 := by
        rw [hp]
        calc u / 128 * (128 ^ i * 128) = (u / 128 * 128) * 128 ^ i := by rw [Nat.mul_comm (128 ^ i) 128, Nat.mul_assoc]
          _ ≤ u * 128 ^ i := Nat.mul_le_mul_right _ hd
          _ < _ := hb
      have hu2 : u / 128 < 128 ^ f := by
        rw [Nat.pow_succ] at h; omega
      rw [ih (i + 1) _ (w * 128) (u / 128) r hu2 (by omega) (by omega) ?_ hf0 hb2]
      · congr 1
        · congr 1
          have h1 : u % 128 * w + u / 128 * (w * 128) = u * w := by
            have h2 : u = u % 128 + u / 128 * 128 := by omega
            calc u % 128 * w + u / 128 * (w * 128) = (u % 128 + u / 128 * 128) * w := by rw [Nat.add_mul, Nat.mul_comm w 128, Nat.mul_assoc]
              _ = u * w := by rw [← h2]
          omega
        · congr 1; omega
      · intro h8
        have hi8 : i + 1 = 9 := h8
        rw [hi8] at hb2
        have : (128 : Nat) ^ 9 = 9223372036854775808 := by decide
        rw [this] at hb2; omega
theorem get_put (n : Int) (r : List UInt8) (h0 : -9223372036854775808 ≤ n) (h1 : n ≤ 9223372036854775807) : get (put n ++ r) = (n, (put n).length, 0) := by
  have hz := zz_lt n h0 h1
  unfold get put var
  rw [getF_vr 10 0 0 1 (zz n) r (by have : (128 : Nat) ^ 10 = 1180591620717411303424 := by decide
                                    omega) (by omega) (by omega) (by omega) (by omega) (by omega)]
  rw [Nat.mul_one, Nat.zero_add, Nat.zero_add, unzz_zz]
theorem vr_len (f u : Nat) : (vr f u).length ≤ f := by
  induction f generalizing u with
  | zero => simp [vr]
  | succ f ih => simp only [vr]; split <;> simp; exact ih _
theorem put_len (n : Int) : (put n).length ≤ 10 := vr_len 10 _
theorem put_ne (n : Int) : 1 ≤ (put n).length := by unfold put var vr; split <;> simp
/-- what is read has as many bytes as there are -/
theorem getF_len : ∀ (l : List UInt8) (i u w : Nat), (getF i u w l).2.1 ≤ i + l.length := by
  intro l; induction l with
  | nil => intro i u w; simp [getF]
  | cons c t ih =>
    intro i u w; simp only [getF]
    split
    · simp
    · split
      · simp
      · have := ih (i + 1) (u + c.toNat % 128 * w) (w * 128); simp only [List.length_cons]; omega
theorem get_len (l : List UInt8) : (get l).2.1 ≤ l.length := by have := getF_len l 0 0 1; unfold get; omega
theorem getF_pos : ∀ (l : List UInt8) (i u w : Nat), (getF i u w l).2.2 = 0 → i + 1 ≤ (getF i u w l).2.1 := by
  intro l; induction l with
  | nil => intro i u w h; simp [getF] at h
  | cons c t ih =>
    intro i u w; simp only [getF]
    split
    · intro h; simp at h
    · split
      · intro _; simp
      · intro h; have := ih (i + 1) (u + c.toNat % 128 * w) (w * 128) h; omega
theorem get_pos (l : List UInt8) (h : (get l).2.2 = 0) : 1 ≤ (get l).2.1 := by have := getF_pos l 0 0 1 h; unfold get; omega
theorem getF_err : ∀ (l : List UInt8) (i u w : Nat), (getF i u w l).2.2 ≤ 2 := by
  intro l; induction l with
  | nil => intro i u w; simp [getF]
  | cons c t ih =>
    intro i u w; simp only [getF]
    split
    · simp
    · split
      · simp
      · exact ih _ _ _
theorem get_err (l : List UInt8) : (get l).2.2 ≤ 2 := getF_err l 0 0 1
/-- a text behind its length -/
def getT (l : List UInt8) : List UInt8 × Nat × Nat :=
  if (get l).2.2 ≠ 0 then ([], 0, (get l).2.2)
  else if (get l).1 < 0 ∨ 1048576 < (get l).1 then ([], 0, 1)
  else if (l.length : Int) - (get l).2.1 < (get l).1 then ([], 0, 2)
  else ((l.drop (get l).2.1).take (get l).1.toNat, (get l).2.1 + (get l).1.toNat, 0)
def putT (l : List UInt8) : List UInt8 := put (l.length : Int) ++ l
theorem getT_putT (l r : List UInt8) (hl : l.length ≤ 1048576) : getT (putT l ++ r) = (l, (putT l).length, 0) := by
  have h := get_put (l.length : Int) (l ++ r) (by omega) (by omega)
  unfold getT putT
  rw [List.append_assoc, h]
  simp only [ne_eq, not_true_eq_false, if_false, Int.toNat_natCast]
  rw [if_neg (by omega), if_neg (by simp only [List.length_append]; omega)]
  simp
end Go.Proofs.Ytoekiencnbgmhaa.Nu
