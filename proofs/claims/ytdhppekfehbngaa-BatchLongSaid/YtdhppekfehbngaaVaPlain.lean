/-
  Package value's Kind, Raw, AsInt, MustInt and Eq say what a value is.
  A text has at most 1,000,000 bytes.
-/
import Derived.Test.YtdhppekfehbngaaVaOf
import Derived.LaidEql
import Derived.Stop.Asserts
import Derived.Defers
import Derived.Recover
import Derived.Laws.Pointers
import Derived.Test.YtdhppekfehbngaaVaGet
import Derived.Test.YtdhppekfehbngaaVaPut
import Derived.Test.YtdhppekfehbngaaL4Cut
set_option linter.unusedSimpArgs false
set_option linter.unusedVariables false
namespace Go.Proofs.Ytdhppekfehbngaa
open Go.RowKit
set_option maxRecDepth 100000

theorem Try.as_nn (v : Value) (w : World) : (Instr.typeAssert (.iface 76 v) 20 76 true).run Try.prog w = .ok (.tuple #[v, .bool true]) w := by kernel_rfl
theorem Try.as_tn (v : Value) (w : World) : (Instr.typeAssert (.iface 77 v) 20 76 true).run Try.prog w = .ok (.tuple #[.int .i64 0, .bool false]) w := by kernel_rfl
theorem Try.as_0n (w : World) : (Instr.typeAssert .nilIface 20 76 true).run Try.prog w = .ok (.tuple #[.int .i64 0, .bool false]) w := by kernel_rfl
theorem Try.as_nt (v : Value) (w : World) : (Instr.typeAssert (.iface 76 v) 20 77 true).run Try.prog w = .ok (.tuple #[.string ByteArray.empty, .bool false]) w := by kernel_rfl
theorem Try.as_tt (v : Value) (w : World) : (Instr.typeAssert (.iface 77 v) 20 77 true).run Try.prog w = .ok (.tuple #[v, .bool true]) w := by kernel_rfl
theorem Try.as_0t (w : World) : (Instr.typeAssert .nilIface 20 77 true).run Try.prog w = .ok (.tuple #[.string ByteArray.empty, .bool false]) w := by kernel_rfl

def IntE (k : Int) (w : World) (e : Ending) (w' : World) : Prop := e = .returned (.int .i64 k) ∧ Below w.heap.size w w'
def RawE (r : Raw) (w : World) (e : Ending) (w' : World) : Prop := e = .returned r.val ∧ Below w.heap.size w w'
def OkE (k : Int) (b : Bool) (w : World) (e : Ending) (w' : World) : Prop := e = .returned (.tuple #[.int .i64 k, .bool b]) ∧ Below w.heap.size w w'
def Va.int : Va → Int
  | .num n => n
  | _ => 0
def Va.isInt : Va → Bool
  | .num _ => true
  | _ => false
def Va.len : Va → Nat
  | .txt s => s.size
  | _ => 0

end Go.Proofs.Ytdhppekfehbngaa
/-
  Package value's Eq says whether two values are one.
  There are no conditions.
-/
namespace Go.Proofs.Ytdhppekfehbngaa
open Go.RowKit
set_option maxRecDepth 100000

theorem Try.cmpN : (Try.prog.info? 76).map (fun i => i.comparable) = some true := by kernel_rfl
theorem Try.cmpT : (Try.prog.info? 77).map (fun i => i.comparable) = some true := by kernel_rfl
theorem eqIn_nn (d : Nat) (a b : Int) (w : World) : (Op.equalIn (d + 2) 20 (.iface 76 (.int .i64 a)) (.iface 76 (.int .i64 b))).run Try.prog w = .ok (a == b) w := by
  obtain ⟨i, hi, hc⟩ := Option.map_eq_some_iff.1 Try.cmpN
  simp [Op.equalIn, run_underlying Try.underlying20, run_underlying Try.underlying76, typeInfo, hi, hc]
theorem eqIn_tt (d : Nat) (a b : ByteArray) (w : World) : (Op.equalIn (d + 2) 20 (.iface 77 (.string a)) (.iface 77 (.string b))).run Try.prog w = .ok (a == b) w := by
  obtain ⟨i, hi, hc⟩ := Option.map_eq_some_iff.1 Try.cmpT
  simp [Op.equalIn, run_underlying Try.underlying20, run_underlying Try.underlying77, typeInfo, hi, hc]
theorem eql_nn (a b : Int) (w : World) : (binOp .eql 20 (.iface 76 (.int .i64 a)) (.iface 76 (.int .i64 b))).run Try.prog w = .ok (.bool (a == b)) w := by
  simp only [binOp]
  simp [Op.equal, Op.maxDepth, eqIn_nn 9998]
theorem eql_tt (a b : ByteArray) (w : World) : (binOp .eql 20 (.iface 77 (.string a)) (.iface 77 (.string b))).run Try.prog w = .ok (.bool (a == b)) w := by
  simp only [binOp]
  simp [Op.equal, Op.maxDepth, eqIn_tt 9998]
theorem eql_nt (a b : Value) (w : World) : (binOp .eql 20 (.iface 76 a) (.iface 77 b)).run Try.prog w = .ok (.bool false) w :=
  run_eql_iface_types _ _ _ _ Try.underlying20 (by decide) w
theorem eql_tn (a b : Value) (w : World) : (binOp .eql 20 (.iface 77 a) (.iface 76 b)).run Try.prog w = .ok (.bool false) w :=
  run_eql_iface_types _ _ _ _ Try.underlying20 (by decide) w
theorem eql_0i (t : TypeId) (a : Value) (w : World) : (binOp .eql 20 .nilIface (.iface t a)).run Try.prog w = .ok (.bool false) w :=
  run_eql_iface_nil_left w t a Try.underlying20
theorem eql_i0 (t : TypeId) (a : Value) (w : World) : (binOp .eql 20 (.iface t a) .nilIface).run Try.prog w = .ok (.bool false) w := by
  have h : ∀ d : Nat, (Op.equalIn (d + 1) 20 (.iface t a) .nilIface).run Try.prog w = .ok false w := fun d => by simp [Op.equalIn, run_underlying Try.underlying20]
  simp only [binOp]
  simp [Op.equal, Op.maxDepth, h 9999]
theorem eql_00 (w : World) : (binOp .eql 20 .nilIface .nilIface).run Try.prog w = .ok (.bool true) w := by
  have h : ∀ d : Nat, (Op.equalIn (d + 1) 20 .nilIface .nilIface).run Try.prog w = .ok true w := fun d => by simp [Op.equalIn, run_underlying Try.underlying20]
  simp only [binOp]
  simp [Op.equal, Op.maxDepth, h 9999]

theorem guard_00 (x y : Operand) (w : World) : (eqGuard .eql 20 x y .nilIface .nilIface).run Try.prog w = .ok () w := by
  have h : ∀ d : Nat, (Op.eqGuardIn (d + 1) 20 .nilIface .nilIface).run Try.prog w = .ok false w := fun d => by simp [Op.eqGuardIn, run_underlying Try.underlying20]
  cases x <;> cases y <;> simp [eqGuard, Op.maxDepth, h 9999]

def eqV : Va → Va → Bool
  | .none, .none => true
  | .num a, .num b => a == b
  | .txt a, .txt b => a == b
  | _, _ => false

end Go.Proofs.Ytdhppekfehbngaa
/-
  Package value's MustInt hands the number back, or panics by its type assertion; what the statements make of it says which.
  There are no conditions.
-/
namespace Go.Proofs.Ytdhppekfehbngaa
open Go.RowKit
set_option maxRecDepth 100000

theorem Try.must_n (v : Value) (w : World) : (Instr.typeAssert (.iface 76 v) 20 76 false).run Try.prog w = .ok v w := by kernel_rfl
theorem must_0 (w : World) : (Instr.typeAssert .nilIface 20 76 false).run Try.prog w = .halt (.panic (.iface 15 (.pointer (some ⟨w.heap.size, 0, none⟩)))) (w.alloc (.cells #[typeHandle Try.prog 20, .pointer none, typeHandle Try.prog 76, strVal ""] 95)) := by
  simp [Instr.typeAssert, run_underlying Try.underlying76, runtimePanic, elemOf, go_sem]
theorem must_t (v : Value) (w : World) : (Instr.typeAssert (.iface 77 v) 20 76 false).run Try.prog w = .halt (.panic (.iface 15 (.pointer (some ⟨w.heap.size, 0, none⟩)))) (w.alloc (.cells #[typeHandle Try.prog 20, typeHandle Try.prog 77, typeHandle Try.prog 76, strVal ""] 95)) := by
  simp [Instr.typeAssert, run_underlying Try.underlying76, runtimePanic, elemOf, go_sem]
/-- a panic that nobody has caught -/
def Thrown (w : World) (e : Ending) (w' : World) : Prop := (∃ u v, e = .panicked [{ v := .iface u v, recovered := false }]) ∧ Below w.heap.size w w'

end Go.Proofs.Ytdhppekfehbngaa
/-
  The contracts of package value where the walk names the value's inside itself.
  The conditions are those of the contracts that they come from.
-/
namespace Go.Proofs.Ytdhppekfehbngaa
open Go.RowKit
set_option maxRecDepth 100000

theorem Try.raw_kind (a b s : Value) (w : World) : (Instr.field 23 (.agg #[a, b, s]) 0).run Try.prog w = .ok a w := by kernel_rfl
theorem Try.raw_n (a b s : Value) (w : World) : (Instr.field 23 (.agg #[a, b, s]) 1).run Try.prog w = .ok b w := by kernel_rfl
theorem Try.raw_s (a b s : Value) (w : World) : (Instr.field 23 (.agg #[a, b, s]) 2).run Try.prog w = .ok s w := by kernel_rfl
/-- what a value keeps inside -/
def Va.ins : Va → Value
  | .none => .nilIface
  | .num n => .iface 76 (.int .i64 n)
  | .txt s => .iface 77 (.string s)
theorem Va.val_ins (v : Va) : v.val = .agg #[v.ins] := by cases v <;> rfl
theorem vof_is (u : Value) (r : Raw) (v : Va) (x : Value) (k : Int) (w : World) (hu : u = r.val) (hs : r.s.size ≤ 1000000) (hv : vaOf r = v) (hx : v.ins = x) (hk : okE (mayR r) = k) :
    Calls Try.prog 38 #[u] w fun e w' => e = .returned (.tuple #[.agg #[x], .int .i64 k]) ∧ Below w.heap.size w w' := by
  have h := vof_any r w hs
  unfold VaE at h
  rw [hv, Va.val_ins, hx, hk] at h
  rw [hu]; exact h
/-- two insides, and whether they are one -/
structure EqI (x y : Value) (b : Bool) : Prop where
  h : ∃ v v2 : Va, v.ins = x ∧ v2.ins = y ∧ eqV v v2 = b
theorem eqI (v v2 : Va) {b : Bool} (h : eqV v v2 = b) : EqI v.ins v2.ins b := ⟨⟨v, v2, rfl, rfl, h⟩⟩
theorem req_is (u u2 : Value) (a b : Raw) (c : Bool) (w : World) (hu : u = a.val) (hu2 : u2 = b.val) (h : eqR a b = c) :
    Calls Try.prog 29 #[u, u2] w fun e w' => e = .returned (.bool c) ∧ Below w.heap.size w w' := by
  rw [hu, hu2, ← h]; exact req_any a b w
end Go.Proofs.Ytdhppekfehbngaa
/-
  Plain facts on values.
  There are no conditions beyond those that each lemma names.
-/
namespace Go.Proofs.Ytdhppekfehbngaa
open Go.RowKit
set_option maxRecDepth 100000

theorem mayR_num (n : Int) : mayR ⟨1, n, ⟨#[]⟩⟩ = true := by unfold mayR; simp
theorem of_num (n : Int) : vaOf ⟨1, n, ⟨#[]⟩⟩ = .num n := by unfold vaOf; rw [mayR_num]; simp
theorem okE_num (n : Int) : okE (mayR ⟨1, n, ⟨#[]⟩⟩) = 0 := by rw [mayR_num]; rfl
/-- a raw value: it may not be, or none, a number, a text -/
theorem va_cases (k n : Int) (t : ByteArray) : (mayR ⟨k, n, t⟩ = false ∧ vaOf ⟨k, n, t⟩ = .none) ∨ (k = 0 ∧ n = 0 ∧ t = ⟨#[]⟩) ∨ (k = 1 ∧ t = ⟨#[]⟩) ∨ (k = 2 ∧ n = 0 ∧ mayR ⟨2, 0, t⟩ = true ∧ vaOf ⟨2, 0, t⟩ = .txt t) := by
  cases hm : mayR ⟨k, n, t⟩
  · exact .inl ⟨rfl, by unfold vaOf; rw [hm]; rfl⟩
  · have he : t.data.toList.isEmpty = true → t = ⟨#[]⟩ := fun h => by
      obtain ⟨⟨l⟩⟩ := t
      cases l with
      | nil => rfl
      | cons a b => simp at h
    have hm2 := hm
    unfold mayR at hm
    by_cases h0 : k = 0
    · rw [if_pos h0, Bool.and_eq_true] at hm
      exact .inr (.inl ⟨h0, by simpa using hm.1, he hm.2⟩)
    · by_cases h1 : k = 1
      · rw [if_neg h0, if_pos h1] at hm
        exact .inr (.inr (.inl ⟨h1, he hm⟩))
      · by_cases h2 : k = 2
        · rw [if_neg h0, if_neg h1, if_pos h2, Bool.and_eq_true, Bool.and_eq_true] at hm
          have hn : n = 0 := by simpa using hm.1.1
          subst h2; subst hn
          exact .inr (.inr (.inr ⟨rfl, rfl, hm2, by unfold vaOf; rw [hm2]; simp⟩))
        · rw [if_neg h0, if_neg h1, if_neg h2] at hm; cases hm
theorem ins_store (v : Va) (x : Value) (h : v.ins = x) (a : Addr) (m : Mode) (w : World) : (store a x m).run Try.prog w = stored Try.prog w a x m := by
  subst h; cases v <;> exact run_store _ w a _ m rfl
/-- what is known of the value that a raw one tells of, whatever its kind -/
theorem va_good (k n : Int) (t : ByteArray) (h : mayR ⟨k, n, t⟩ = true) : ∃ v x b, vaOf ⟨k, n, t⟩ = v ∧ v.ins = x ∧ v.raw = ⟨k, n, t⟩ ∧ v.int = n ∧ v.isInt = b ∧ (k == 1) = b ∧ v.len ≤ t.size := by
  rcases va_cases k n t with ⟨hm, hv⟩ | ⟨rfl, rfl, rfl⟩ | ⟨rfl, rfl⟩ | ⟨rfl, rfl, hm, hv⟩
  · rw [h] at hm; cases hm
  · exact ⟨.none, _, false, by decide, rfl, rfl, rfl, rfl, rfl, Nat.zero_le _⟩
  · exact ⟨.num n, _, true, of_num n, rfl, rfl, rfl, rfl, rfl, Nat.zero_le _⟩
  · exact ⟨.txt t, _, false, hv, rfl, rfl, rfl, rfl, rfl, Nat.le_refl _⟩
theorem bytes_ne {t u : ByteArray} (h : ¬ t = u) : ¬ t.data.toList = u.data.toList := fun e => h (by
  cases t; cases u; congr 1; exact Array.toList_inj.1 e)
theorem bytes_beq2 (a b : ByteArray) : (a == b) = true ↔ a = b := by
  cases a; cases b
  show ((_ : Array UInt8) == _) = true ↔ _
  rw [beq_iff_eq, ByteArray.mk.injEq]
theorem eqV_num {m n : Int} (h : ¬ m = n) : eqV (.num m) (.num n) = false := by simp [eqV, h]
theorem eqR_num {m n : Int} (h : ¬ m = n) : eqR ⟨1, m, ⟨#[]⟩⟩ ⟨1, n, ⟨#[]⟩⟩ = false := by simp [eqR, h]
theorem eqV_txt {t u : ByteArray} (h : ¬ t = u) : eqV (.txt t) (.txt u) = false := by
  show (t == u) = false
  cases hc : (t == u)
  · rfl
  · exact absurd ((bytes_beq2 t u).1 hc) h
theorem eqR_txt {t u : ByteArray} (h : ¬ t = u) : eqR ⟨2, 0, t⟩ ⟨2, 0, u⟩ = false := by
  unfold eqR
  have : (t.data.toList == u.data.toList) = false := by rw [beq_eq_false_iff_ne]; exact bytes_ne h
  simp only [this, Bool.and_false]
theorem eqV_self (v : Va) : eqV v v = true := by
  cases v with
  | none => rfl
  | num n => simp [eqV]
  | txt s => exact (bytes_beq2 s s).2 rfl
theorem eqR_self (r : Raw) : eqR r r = true := by simp [eqR]
theorem eqR_kind (a b : Raw) (h : (a.kind == b.kind) = false) : eqR a b = false := by unfold eqR; rw [h]; rfl
/-- the text of a value that has been cut -/
theorem l4cut_is (u : Value) (k n : Int) (s : ByteArray) (w : World) (hu : u = (Raw.mk k n s).val) :
    Calls Try.prog 23 #[u] w fun e w' => ∃ t : ByteArray, (t.size : Int) ≤ 220 ∧ e = .returned (.agg #[.int .i64 k, .int .i64 n, .string t]) ∧ Below w.heap.size w w' := by
  rw [hu]; exact l4cut_any ⟨k, n, s⟩ w
/-- what was below stands behind one more call -/
theorem Below.next {w a b c : World} (h : Below w.heap.size w a) (hb : Below a.heap.size a b) (hc : Below b.heap.size b c) : Below w.heap.size w c :=
  h.trans ((hb.mono h.size).trans (hc.mono (Nat.le_trans h.size hb.size)))
end Go.Proofs.Ytdhppekfehbngaa
