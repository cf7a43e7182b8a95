/-
  Package value's MustInt hands the number back, or panics by its type assertion; what the statements make of it says which.
  There are no conditions.
-/
import Derived.Test.YtffklbkdmfeimaaVaSmall
import Derived.Defers
import Derived.Recover
import Derived.Laws.Pointers
namespace Go.Proofs.Ytffklbkdmfeimaa
open Go.RowKit
set_option maxRecDepth 100000

theorem Try.must_n (v : Value) (w : World) : (Instr.typeAssert (.iface 51 v) 20 51 false).run Try.prog w = .ok v w := by kernel_rfl
theorem must_0 (w : World) : (Instr.typeAssert .nilIface 20 51 false).run Try.prog w = .halt (.panic (.iface 15 (.pointer (some ⟨w.heap.size, 0, none⟩)))) (w.alloc (.cells #[typeHandle Try.prog 20, .pointer none, typeHandle Try.prog 51, strVal ""] 80)) := by
  simp [Instr.typeAssert, run_underlying Try.underlying51, runtimePanic, elemOf, go_sem]
theorem must_t (v : Value) (w : World) : (Instr.typeAssert (.iface 52 v) 20 51 false).run Try.prog w = .halt (.panic (.iface 15 (.pointer (some ⟨w.heap.size, 0, none⟩)))) (w.alloc (.cells #[typeHandle Try.prog 20, typeHandle Try.prog 52, typeHandle Try.prog 51, strVal ""] 80)) := by
  simp [Instr.typeAssert, run_underlying Try.underlying51, runtimePanic, elemOf, go_sem]
/-- a panic that nobody has caught -/
def Thrown (w : World) (e : Ending) (w' : World) : Prop := (∃ u v, e = .panicked [{ v := .iface u v, recovered := false }]) ∧ Below w.heap.size w w'

set_option maxHeartbeats 1000000 in
theorem vmust_num (n : Int) (w : World) : Calls Try.prog 25 #[(Va.num n).val] w (IntE n w) := by
  have a1 := Try.must_n
  unfold Va.val
  go_enter Try.func25, Try.ntmps25
  go_wp2
  go_ret
  exact ⟨rfl, below_one _ _⟩
set_option maxHeartbeats 1000000 in
theorem vmust_none (w : World) : Calls Try.prog 25 #[Va.none.val] w (Thrown w) := by
  have a1 := must_0
  unfold Va.val
  go_enter Try.func25, Try.ntmps25
  go_wp2

  exact ⟨rfl, ⟨_, _, rfl⟩, below_two _ _ _⟩
set_option maxHeartbeats 1000000 in
theorem vmust_txt (s : ByteArray) (w : World) : Calls Try.prog 25 #[(Va.txt s).val] w (Thrown w) := by
  have a1 := must_t
  unfold Va.val
  go_enter Try.func25, Try.ntmps25
  go_wp2

  exact ⟨rfl, ⟨_, _, rfl⟩, below_two _ _ _⟩
end Go.Proofs.Ytffklbkdmfeimaa
