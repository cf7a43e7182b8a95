/-
  Plain facts on documents of so many keys, with no program's run in them: fifty there may be; a number that is added to.
  There are no conditions.
-/
import Derived.Test.YtkgfbfopopmbhaaL6Box
set_option linter.unusedSimpArgs false
set_option linter.unusedVariables false
namespace Go.Proofs.Ytkgfbfopopmbhaa
open Go.RowKit
set_option maxRecDepth 100000

/-- the i-th key: a letter and a digit -/
def keyE (i : Nat) : ByteArray := ⟨#[UInt8.ofNat (65 + i / 10), UInt8.ofNat (48 + i % 10)]⟩
def docE (i : Nat) : List Par := (List.range i).map fun j => ⟨keyE j, ⟨1, 1, ⟨#[]⟩⟩⟩
theorem docE_len (i : Nat) : (docE i).length = i := by simp [docE]
theorem docE_put : ∀ i : Fin 50, dApply (docE i.val) [putO (keyE i.val) 1] = (docE (i.val + 1), 0) := by decide +kernel
theorem docE_full : ∀ i : Fin 10, dApply (docE 50) [putO (keyE (i.val + 50)) 1] = (docE 50, 6) := by decide +kernel
theorem keyE_ok (i : Nat) : (putO (keyE i) 1).ok := putO_ok (by show (2 : Nat) ≤ 1000000; decide) ⟨by decide, by decide⟩
theorem docE_step (k : Nat) (h : k < 60) : dApply (docE (min k 50)) [putO (keyE k) 1] = (docE (min (k + 1) 50), if k < 50 then 0 else 6) := by
  by_cases hk : k < 50
  · rw [show min k 50 = k by omega, show min (k + 1) 50 = k + 1 by omega, if_pos hk]
    exact docE_put ⟨k, hk⟩
  · rw [show min k 50 = 50 by omega, show min (k + 1) 50 = 50 by omega, if_neg hk]
    have := docE_full ⟨k - 50, by omega⟩
    rw [show k - 50 + 50 = k by omega] at this
    exact this
theorem docE_head (n : Nat) (h : 1 ≤ n) : ∃ t, docE n = ⟨keyE 0, ⟨1, 1, ⟨#[]⟩⟩⟩ :: t := by
  obtain ⟨m, rfl⟩ : ∃ m, n = m + 1 := ⟨n - 1, by omega⟩
  unfold docE
  rw [List.range_succ_eq_map]
  exact ⟨_, rfl⟩
/-- at the head: what is put there, what is read there -/
theorem dSet_head {p : Par} {t : List Par} (h : Srt (p :: t)) (x : Raw) (hx : x.kind ≠ 0) : dSet (p :: t) p.k x = ⟨p.k, x⟩ :: t := by
  have h0 : (x.kind == 0) = false := by simpa using hx
  have hs : (p.k.data.toList == p.k.data.toList) = true := by simp
  unfold dSet
  rw [h0]
  unfold setGo
  rw [lesB_self, hs]
  have h2 := setGo_in p.k x t (none_behind h (lesB_self _))
  simp [h2]
theorem dGet_head (p : Par) (t : List Par) : dGet (p :: t) p.k = (p.v, true) := by
  unfold dGet
  rw [List.find?_cons]
  simp
def addO (key : ByteArray) (b : Int) : Opn := ⟨4, key, zR, zR, b⟩
theorem addO_may {key : ByteArray} {b : Int} (h : Ru.key key.data.toList = true) (h1 : -1099511627776 ≤ b) (h2 : b ≤ 1099511627776) : mayO (addO key b) = true := by
  unfold mayO addO
  simp only
  rw [h]
  show (eqR zR zR && eqR zR zR && decide (-1099511627776 ≤ b) && decide (b ≤ 1099511627776)) = true
  rw [decide_eq_true h1, decide_eq_true h2]; rfl
theorem addO_ok {key : ByteArray} {b : Int} (h : key.size ≤ 1000000) (hb : i64 b) : (addO key b).ok :=
  ⟨⟨by show (-9223372036854775808 : Int) ≤ 4; decide, by show (4 : Int) ≤ _; decide⟩, h, zR_ok, zR_ok, hb⟩
theorem put_head {p : Par} {t : List Par} (h : Srt (p :: t)) (hk : Ru.key p.k.data.toList = true) (a : Int) : dApply (p :: t) [putO p.k a] = (⟨p.k, ⟨1, a, ⟨#[]⟩⟩⟩ :: t, 0) := by
  rw [dApply_one _ _ (putO_err hk (.inr (by rw [dGet_head]))), putO_do, dSet_head h _ (by show (1 : Int) ≠ 0; decide)]
theorem add_err {k : ByteArray} {a b : Int} {t : List Par} (hk : Ru.key k.data.toList = true) (h1 : -1099511627776 ≤ b) (h2 : b ≤ 1099511627776) (hf : farB a = true ∨ farB (a + b) = true) : dApply (⟨k, ⟨1, a, ⟨#[]⟩⟩⟩ :: t) [addO k b] = (⟨k, ⟨1, a, ⟨#[]⟩⟩⟩ :: t, 4) := by
  have hg := dGet_head ⟨k, ⟨1, a, ⟨#[]⟩⟩⟩ t
  have he : opErr (⟨k, ⟨1, a, ⟨#[]⟩⟩⟩ :: t) (addO k b) = 4 := by
    unfold opErr
    rw [addO_may hk h1 h2, if_neg (by decide), if_neg (by rintro ⟨h3, _⟩; revert h3; show ¬ (4 : Int) = _; decide), if_neg, if_pos]
    · refine ⟨rfl, ?_⟩
      show farB (dGet _ k).1.n = true ∨ farB ((dGet _ k).1.n + b) = true
      rw [hg]; exact hf
    · rintro ⟨_, _, h3⟩
      apply h3
      show (dGet _ k).1.kind = 1
      rw [hg]
  rw [dApply_one_err _ _ (by rw [he]; decide), he]
theorem add_do {k : ByteArray} {a b : Int} {t : List Par} (h : Srt (⟨k, ⟨1, a, ⟨#[]⟩⟩⟩ :: t)) (hk : Ru.key k.data.toList = true) (h1 : -1099511627776 ≤ b) (h2 : b ≤ 1099511627776) (hf : farB a = false) (hg2 : farB (a + b) = false) : dApply (⟨k, ⟨1, a, ⟨#[]⟩⟩⟩ :: t) [addO k b] = (⟨k, ⟨1, a + b, ⟨#[]⟩⟩⟩ :: t, 0) := by
  have hg := dGet_head ⟨k, ⟨1, a, ⟨#[]⟩⟩⟩ t
  have he : opErr (⟨k, ⟨1, a, ⟨#[]⟩⟩⟩ :: t) (addO k b) = 0 := by
    unfold opErr
    rw [addO_may hk h1 h2, if_neg (by decide), if_neg (by rintro ⟨h3, _⟩; revert h3; show ¬ (4 : Int) = _; decide), if_neg, if_neg, if_neg]
    · rintro ⟨_, h3, _⟩
      have h4 : (dGet (⟨k, ⟨1, a, ⟨#[]⟩⟩⟩ :: t) k).2 = false := h3
      rw [hg] at h4; cases h4
    · rintro ⟨_, h3⟩
      have h4 : farB (dGet (⟨k, ⟨1, a, ⟨#[]⟩⟩⟩ :: t) k).1.n = true ∨ farB ((dGet (⟨k, ⟨1, a, ⟨#[]⟩⟩⟩ :: t) k).1.n + b) = true := h3
      rw [hg] at h4
      simp only at h4
      rw [hf, hg2] at h4
      simp at h4
    · rintro ⟨_, _, h3⟩
      apply h3
      show (dGet _ k).1.kind = 1
      rw [hg]
  rw [dApply_one _ _ he]
  have hd : opDo (⟨k, ⟨1, a, ⟨#[]⟩⟩⟩ :: t) (addO k b) = dSet (⟨k, ⟨1, a, ⟨#[]⟩⟩⟩ :: t) k ⟨1, a + b, ⟨#[]⟩⟩ := by
    show dSet _ k (apV (dGet _ k).1 (addO k b)) = _
    rw [hg]; rfl
  rw [hd]
  have := dSet_head h ⟨1, a + b, ⟨#[]⟩⟩ (by show (1 : Int) ≠ 0; decide)
  rw [this]
theorem wrap_u8 (x : Int) (h0 : 0 ≤ x) (h1 : x ≤ 255) : IntKind.u8.wrap x = x := by
  unfold IntKind.wrap
  simp [IntKind.bits, IntKind.signed]
  omega
theorem farB_lt {n : Int} (h : n < -4611686018427387904) : farB n = true := by unfold farB; rw [decide_eq_true h]; rfl
theorem farB_gt {n : Int} (h : 4611686018427387904 < n) : farB n = true := by unfold farB; rw [decide_eq_true h, Bool.or_true]
theorem farB_no {n : Int} (h : ¬ n < -4611686018427387904) (h2 : ¬ 4611686018427387904 < n) : farB n = false := by unfold farB; rw [decide_eq_false h, decide_eq_false h2]; rfl
theorem keyE0 : Ru.key (keyE 0).data.toList = true := by decide +kernel
end Go.Proofs.Ytkgfbfopopmbhaa
