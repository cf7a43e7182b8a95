/-
  Package num's Four writes a number's four bytes, the highest first, in new memory.
  There are no conditions beyond the number's range.
-/
import Derived.Test.YtmpdjioclalifaaDoorWAppend
import Derived.Test.YtmpdjioclalifaaDoorNumPlain
set_option linter.unusedSimpArgs false
set_option linter.unusedVariables false
namespace Go.Proofs.YtmpdjioclalifaaDoor
open Go.RowKit
set_option maxRecDepth 100000

def four (n : Nat) : List UInt8 := [(n / 16777216 % 256).toUInt8, (n / 65536 % 256).toUInt8, (n / 256 % 256).toUInt8, (n % 256).toUInt8]
set_option maxRecDepth 100000 in
set_option maxHeartbeats 4000000 in
theorem nfour_any (n : Nat) (w : World) (h : n < 4294967296) : Calls Tryd.prog 27 #[.int .u32 n] w (Made (four n) w) := by
  go_enter Tryd.func27, Tryd.ntmps27
  go_wp2
  go_ret
  refine ⟨_, rfl, own_new w _ (four n) ?_ (by simp [four]), below_new w _⟩
  unfold four Lib.byteCells
  simp only [List.map]
  rw [Nu.u8n _ (Nat.mod_lt _ (by decide)), Nu.u8n _ (Nat.mod_lt _ (by decide)), Nu.u8n _ (Nat.mod_lt _ (by decide)), Nu.u8n _ (Nat.mod_lt _ (by decide))]
  have e1 : ((n / 16777216 % 256 : Nat) : Int) = (n : Int) / 16777216 := by omega
  rw [e1]
  rfl
end Go.Proofs.YtmpdjioclalifaaDoor
