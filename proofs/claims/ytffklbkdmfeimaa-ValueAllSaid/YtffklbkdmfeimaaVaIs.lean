/-
  The contracts of package value where the walk names the value's inside itself.
  The conditions are those of the contracts that they come from.
-/
import Derived.Test.YtffklbkdmfeimaaVaGet
import Derived.Test.YtffklbkdmfeimaaVaPut
import Derived.Test.YtffklbkdmfeimaaVaEq
import Derived.Test.YtffklbkdmfeimaaL4Must
namespace Go.Proofs.Ytffklbkdmfeimaa
open Go.RowKit
set_option maxRecDepth 100000

theorem Try.raw_kind (a b s : Value) (w : World) : (Instr.field 23 (.agg #[a, b, s]) 0).run Try.prog w = .ok a w := by kernel_rfl
theorem Try.raw_n (a b s : Value) (w : World) : (Instr.field 23 (.agg #[a, b, s]) 1).run Try.prog w = .ok b w := by kernel_rfl
theorem Try.raw_s (a b s : Value) (w : World) : (Instr.field 23 (.agg #[a, b, s]) 2).run Try.prog w = .ok s w := by kernel_rfl
/-- what a value keeps inside -/
def Va.ins : Va → Value
  | .none => .nilIface
  | .num n => .iface 51 (.int .i64 n)
  | .txt s => .iface 52 (.string s)
theorem Va.val_ins (v : Va) : v.val = .agg #[v.ins] := by cases v <;> rfl
theorem vof_is (u : Value) (r : Raw) (v : Va) (x : Value) (k : Int) (w : World) (hu : u = r.val) (hs : r.s.size ≤ 1000000) (hv : vaOf r = v) (hx : v.ins = x) (hk : okE (mayR r) = k) :
    Calls Try.prog 13 #[u] w fun e w' => e = .returned (.tuple #[.agg #[x], .int .i64 k]) ∧ Below w.heap.size w w' := by
  have h := vof_any r w hs
  unfold VaE at h
  rw [hv, Va.val_ins, hx, hk] at h
  rw [hu]; exact h
theorem vkind_is (u : Value) (v : Va) (k : Int) (w : World) (hu : u = .agg #[v.ins]) (hk : v.raw.kind = k) :
    Calls Try.prog 15 #[u] w fun e w' => e = .returned (.int .i64 k) ∧ Below w.heap.size w w' := by
  rw [hu, ← Va.val_ins, ← hk]; exact vkind_any v w
theorem vraw_is (u : Value) (v : Va) (k n : Int) (s : ByteArray) (w : World) (hu : u = .agg #[v.ins]) (hr : v.raw = ⟨k, n, s⟩) (hs : v.len ≤ 1000000) :
    Calls Try.prog 17 #[u] w fun e w' => e = .returned (.agg #[.int .i64 k, .int .i64 n, .string s]) ∧ Below w.heap.size w w' := by
  have h := vraw_any v w hs
  rw [hr] at h
  rw [hu, ← Va.val_ins]; exact h
theorem vasInt_is (u : Value) (v : Va) (k : Int) (b : Bool) (w : World) (hu : u = .agg #[v.ins]) (hk : v.int = k) (hb : v.isInt = b) :
    Calls Try.prog 18 #[u] w fun e w' => e = .returned (.tuple #[.int .i64 k, .bool b]) ∧ Below w.heap.size w w' := by
  rw [hu, ← Va.val_ins, ← hk, ← hb]; exact vasInt_any v w
theorem vmust_is (u : Value) (n : Int) (w : World) (hu : u = .agg #[(Va.num n).ins]) :
    Calls Try.prog 25 #[u] w fun e w' => e = .returned (.int .i64 n) ∧ Below w.heap.size w w' := by
  rw [hu, ← Va.val_ins]; exact vmust_num n w
theorem veq_is (u u2 : Value) (v v2 : Va) (b : Bool) (w : World) (hu : u = .agg #[v.ins]) (hu2 : u2 = .agg #[v2.ins]) (hb : eqV v v2 = b) :
    Calls Try.prog 22 #[u, u2] w fun e w' => e = .returned (.bool b) ∧ Below w.heap.size w w' := by
  rw [hu, hu2, ← Va.val_ins, ← Va.val_ins, ← hb]; exact veq_any v v2 w
/-- two insides, and whether they are one -/
structure EqI (x y : Value) (b : Bool) : Prop where
  h : ∃ v v2 : Va, v.ins = x ∧ v2.ins = y ∧ eqV v v2 = b
theorem eqI (v v2 : Va) {b : Bool} (h : eqV v v2 = b) : EqI v.ins v2.ins b := ⟨⟨v, v2, rfl, rfl, h⟩⟩
theorem veq_i (x y : Value) (b : Bool) (w : World) (h : EqI x y b) :
    Calls Try.prog 22 #[.agg #[x], .agg #[y]] w fun e w' => e = .returned (.bool b) ∧ Below w.heap.size w w' := by
  obtain ⟨v, v2, rfl, rfl, hb⟩ := h.h
  exact veq_is _ _ v v2 b w rfl rfl hb
theorem must_is (u : Value) (v : Va) (k : Int) (b : Bool) (w : World) (hu : u = .agg #[v.ins]) (hk : v.int = k) (hb : v.isInt = b) :
    Calls Try.prog 24 #[u] w fun e w' => e = .returned (.tuple #[.int .i64 k, .bool b]) ∧ Below w.heap.size w w' := by
  rw [hu, ← Va.val_ins, ← hk, ← hb]; exact must_any v w
theorem req_is (u u2 : Value) (a b : Raw) (c : Bool) (w : World) (hu : u = a.val) (hu2 : u2 = b.val) (h : eqR a b = c) :
    Calls Try.prog 16 #[u, u2] w fun e w' => e = .returned (.bool c) ∧ Below w.heap.size w w' := by
  rw [hu, hu2, ← h]; exact req_any a b w
end Go.Proofs.Ytffklbkdmfeimaa
