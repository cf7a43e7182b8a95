/-
  Plain facts on values.
  There are no conditions beyond those that each lemma names.
-/
import Derived.Test.YtffklbkdmfeimaaVaIs
import Derived.Test.YtffklbkdmfeimaaL4Cut
namespace Go.Proofs.Ytffklbkdmfeimaa
open Go.RowKit
set_option maxRecDepth 100000

theorem mayR_num (n : Int) : mayR ⟨1, n, ⟨#[]⟩⟩ = true := by unfold mayR; simp
theorem of_num (n : Int) : vaOf ⟨1, n, ⟨#[]⟩⟩ = .num n := by unfold vaOf; rw [mayR_num]; simp
theorem okE_num (n : Int) : okE (mayR ⟨1, n, ⟨#[]⟩⟩) = 0 := by rw [mayR_num]; rfl
/-- a raw value: it may not be, or none, a number, a text -/
theorem va_cases (k n : Int) (t : ByteArray) : (mayR ⟨k, n, t⟩ = false ∧ vaOf ⟨k, n, t⟩ = .none) ∨ (k = 0 ∧ n = 0 ∧ t = ⟨#[]⟩) ∨ (k = 1 ∧ t = ⟨#[]⟩) ∨ (k = 2 ∧ n = 0 ∧ mayR ⟨2, 0, t⟩ = true ∧ vaOf ⟨2, 0, t⟩ = .txt t) := by
  cases hm : mayR ⟨k, n, t⟩
  · exact .inl ⟨rfl, by unfold vaOf; rw [hm]; rfl⟩
  · have he : t.data.toList.isEmpty = true → t = ⟨#[]⟩ := fun h => by
      obtain ⟨⟨l⟩⟩ := t
      cases l with
      | nil => rfl
      | cons a b => simp at h
    have hm2 := hm
    unfold mayR at hm
    by_cases h0 : k = 0
    · rw [if_pos h0, Bool.and_eq_true] at hm
      exact .inr (.inl ⟨h0, by simpa using hm.1, he hm.2⟩)
    · by_cases h1 : k = 1
      · rw [if_neg h0, if_pos h1] at hm
        exact .inr (.inr (.inl ⟨h1, he hm⟩))
      · by_cases h2 : k = 2
        · rw [if_neg h0, if_neg h1, if_pos h2, Bool.and_eq_true, Bool.and_eq_true] at hm
          have hn : n = 0 := by simpa using hm.1.1
          subst h2; subst hn
          exact .inr (.inr (.inr ⟨rfl, rfl, hm2, by unfold vaOf; rw [hm2]; simp⟩))
        · rw [if_neg h0, if_neg h1, if_neg h2] at hm; cases hm
theorem ins_store (v : Va) (x : Value) (h : v.ins = x) (a : Addr) (m : Mode) (w : World) : (store a x m).run Try.prog w = stored Try.prog w a x m := by
  subst h; cases v <;> exact run_store _ w a _ m rfl
/-- what is known of the value that a raw one tells of, whatever its kind -/
theorem va_good (k n : Int) (t : ByteArray) (h : mayR ⟨k, n, t⟩ = true) : ∃ v x b, vaOf ⟨k, n, t⟩ = v ∧ v.ins = x ∧ v.raw = ⟨k, n, t⟩ ∧ v.int = n ∧ v.isInt = b ∧ (k == 1) = b ∧ v.len ≤ t.size := by
  rcases va_cases k n t with ⟨hm, hv⟩ | ⟨rfl, rfl, rfl⟩ | ⟨rfl, rfl⟩ | ⟨rfl, rfl, hm, hv⟩
  · rw [h] at hm; cases hm
  · exact ⟨.none, _, false, by decide, rfl, rfl, rfl, rfl, rfl, Nat.zero_le _⟩
  · exact ⟨.num n, _, true, of_num n, rfl, rfl, rfl, rfl, rfl, Nat.zero_le _⟩
  · exact ⟨.txt t, _, false, hv, rfl, rfl, rfl, rfl, rfl, Nat.le_refl _⟩
theorem bytes_ne {t u : ByteArray} (h : ¬ t = u) : ¬ t.data.toList = u.data.toList := fun e => h (by
  cases t; cases u; congr 1; exact Array.toList_inj.1 e)
theorem bytes_beq2 (a b : ByteArray) : (a == b) = true ↔ a = b := by
  cases a; cases b
  show ((_ : Array UInt8) == _) = true ↔ _
  rw [beq_iff_eq, ByteArray.mk.injEq]
theorem eqV_num {m n : Int} (h : ¬ m = n) : eqV (.num m) (.num n) = false := by simp [eqV, h]
theorem eqR_num {m n : Int} (h : ¬ m = n) : eqR ⟨1, m, ⟨#[]⟩⟩ ⟨1, n, ⟨#[]⟩⟩ = false := by simp [eqR, h]
theorem eqV_txt {t u : ByteArray} (h : ¬ t = u) : eqV (.txt t) (.txt u) = false := by
  show (t == u) = false
  cases hc : (t == u)
  · rfl
  · exact absurd ((bytes_beq2 t u).1 hc) h
theorem eqR_txt {t u : ByteArray} (h : ¬ t = u) : eqR ⟨2, 0, t⟩ ⟨2, 0, u⟩ = false := by
  unfold eqR
  have : (t.data.toList == u.data.toList) = false := by rw [beq_eq_false_iff_ne]; exact bytes_ne h
  simp only [this, Bool.and_false]
theorem eqV_self (v : Va) : eqV v v = true := by
  cases v with
  | none => rfl
  | num n => simp [eqV]
  | txt s => exact (bytes_beq2 s s).2 rfl
theorem eqR_self (r : Raw) : eqR r r = true := by simp [eqR]
theorem eqR_kind (a b : Raw) (h : (a.kind == b.kind) = false) : eqR a b = false := by unfold eqR; rw [h]; rfl
/-- the text of a value that has been cut -/
theorem l4cut_is (u : Value) (k n : Int) (s : ByteArray) (w : World) (hu : u = (Raw.mk k n s).val) :
    Calls Try.prog 11 #[u] w fun e w' => ∃ t : ByteArray, (t.size : Int) ≤ 220 ∧ e = .returned (.agg #[.int .i64 k, .int .i64 n, .string t]) ∧ Below w.heap.size w w' := by
  rw [hu]; exact l4cut_any ⟨k, n, s⟩ w
/-- what was below stands behind one more call -/
theorem Below.next {w a b c : World} (h : Below w.heap.size w a) (hb : Below a.heap.size a b) (hc : Below b.heap.size b c) : Below w.heap.size w c :=
  h.trans ((hb.mono h.size).trans (hc.mono (Nat.le_trans h.size hb.size)))
end Go.Proofs.Ytffklbkdmfeimaa
