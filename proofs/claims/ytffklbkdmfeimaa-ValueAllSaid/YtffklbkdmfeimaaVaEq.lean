/-
  Package value's Eq says whether two values are one.
  There are no conditions.
-/
import Derived.Test.YtffklbkdmfeimaaVaSmall
import Derived.LaidEql
import Derived.Stop.Asserts
namespace Go.Proofs.Ytffklbkdmfeimaa
open Go.RowKit
set_option maxRecDepth 100000

theorem Try.cmpN : (Try.prog.info? 51).map (fun i => i.comparable) = some true := by kernel_rfl
theorem Try.cmpT : (Try.prog.info? 52).map (fun i => i.comparable) = some true := by kernel_rfl
theorem eqIn_nn (d : Nat) (a b : Int) (w : World) : (Op.equalIn (d + 2) 20 (.iface 51 (.int .i64 a)) (.iface 51 (.int .i64 b))).run Try.prog w = .ok (a == b) w := by
  obtain ⟨i, hi, hc⟩ := Option.map_eq_some_iff.1 Try.cmpN
  simp [Op.equalIn, run_underlying Try.underlying20, run_underlying Try.underlying51, typeInfo, hi, hc]
theorem eqIn_tt (d : Nat) (a b : ByteArray) (w : World) : (Op.equalIn (d + 2) 20 (.iface 52 (.string a)) (.iface 52 (.string b))).run Try.prog w = .ok (a == b) w := by
  obtain ⟨i, hi, hc⟩ := Option.map_eq_some_iff.1 Try.cmpT
  simp [Op.equalIn, run_underlying Try.underlying20, run_underlying Try.underlying52, typeInfo, hi, hc]
theorem eql_nn (a b : Int) (w : World) : (binOp .eql 20 (.iface 51 (.int .i64 a)) (.iface 51 (.int .i64 b))).run Try.prog w = .ok (.bool (a == b)) w := by
  simp only [binOp]
  simp [Op.equal, Op.maxDepth, eqIn_nn 9998]
theorem eql_tt (a b : ByteArray) (w : World) : (binOp .eql 20 (.iface 52 (.string a)) (.iface 52 (.string b))).run Try.prog w = .ok (.bool (a == b)) w := by
  simp only [binOp]
  simp [Op.equal, Op.maxDepth, eqIn_tt 9998]
theorem eql_nt (a b : Value) (w : World) : (binOp .eql 20 (.iface 51 a) (.iface 52 b)).run Try.prog w = .ok (.bool false) w :=
  run_eql_iface_types _ _ _ _ Try.underlying20 (by decide) w
theorem eql_tn (a b : Value) (w : World) : (binOp .eql 20 (.iface 52 a) (.iface 51 b)).run Try.prog w = .ok (.bool false) w :=
  run_eql_iface_types _ _ _ _ Try.underlying20 (by decide) w
theorem eql_0i (t : TypeId) (a : Value) (w : World) : (binOp .eql 20 .nilIface (.iface t a)).run Try.prog w = .ok (.bool false) w :=
  run_eql_iface_nil_left w t a Try.underlying20
theorem eql_i0 (t : TypeId) (a : Value) (w : World) : (binOp .eql 20 (.iface t a) .nilIface).run Try.prog w = .ok (.bool false) w := by
  have h : ∀ d : Nat, (Op.equalIn (d + 1) 20 (.iface t a) .nilIface).run Try.prog w = .ok false w := fun d => by simp [Op.equalIn, run_underlying Try.underlying20]
  simp only [binOp]
  simp [Op.equal, Op.maxDepth, h 9999]
theorem eql_00 (w : World) : (binOp .eql 20 .nilIface .nilIface).run Try.prog w = .ok (.bool true) w := by
  have h : ∀ d : Nat, (Op.equalIn (d + 1) 20 .nilIface .nilIface).run Try.prog w = .ok true w := fun d => by simp [Op.equalIn, run_underlying Try.underlying20]
  simp only [binOp]
  simp [Op.equal, Op.maxDepth, h 9999]

theorem guard_00 (x y : Operand) (w : World) : (eqGuard .eql 20 x y .nilIface .nilIface).run Try.prog w = .ok () w := by
  have h : ∀ d : Nat, (Op.eqGuardIn (d + 1) 20 .nilIface .nilIface).run Try.prog w = .ok false w := fun d => by simp [Op.eqGuardIn, run_underlying Try.underlying20]
  cases x <;> cases y <;> simp [eqGuard, Op.maxDepth, h 9999]

def eqV : Va → Va → Bool
  | .none, .none => true
  | .num a, .num b => a == b
  | .txt a, .txt b => a == b
  | _, _ => false

set_option maxHeartbeats 4000000 in
theorem veq_any (a b : Va) (w : World) : Calls Try.prog 22 #[a.val, b.val] w (Bl (eqV a b) w) := by
  have e1 := eql_nn
  have e2 := eql_tt
  have e3 := eql_nt
  have e4 := eql_tn
  have e5 := eql_0i
  have e6 := eql_i0
  have e7 := eql_00
  have e8 := guard_00
  cases a <;> cases b <;> unfold Va.val <;> go_enter Try.func22, Try.ntmps22
  all_goals (go_wp2; go_ret; exact ⟨rfl, below_two _ _ _⟩)
end Go.Proofs.Ytffklbkdmfeimaa
