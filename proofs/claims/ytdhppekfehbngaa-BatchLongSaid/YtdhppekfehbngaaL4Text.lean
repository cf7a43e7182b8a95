/-
  A text of so many zero bytes, made of a slice that the call has made.
  Its length is at most 1,000,000.
-/
import Derived.Test.YtdhppekfehbngaaVaPlain
import Derived.Test.YtdhppekfehbngaaWBytes
import Derived.Test.YtdhppekfehbngaaWConv
import Derived.Deep.OwnRows
set_option linter.unusedSimpArgs false
set_option linter.unusedVariables false
namespace Go.Proofs.Ytdhppekfehbngaa
open Go.RowKit
set_option maxRecDepth 100000

def zer (n : Nat) : ByteArray := strOfNums (List.replicate n 0)
theorem zer_size (n : Nat) : (zer n).size = n := by unfold zer; rw [strOfNums_size, List.length_replicate]
theorem zer_list (n : Nat) : (zer n).data.toList = List.replicate n 0 := by
  unfold zer; rw [strOfNums_data, List.map_replicate]; rfl
theorem zer_vld (n : Nat) : Ru.vld (zer n).data.toList = true := by
  have h : List.replicate n (0 : UInt8) = Ru.encs (List.replicate n 0) := by
    induction n with
    | zero => rfl
    | succ n ih => rw [List.replicate_succ, List.replicate_succ, ih]; rfl
  rw [zer_list, h]
  exact Ru.vld_encs _ (fun r hr => by rw [(List.mem_replicate.1 hr).2]; unfold Ru.rok; omega)
theorem zer_may (n : Nat) : mayR ⟨2, 0, zer n⟩ = decide (n ≤ 200) := by
  unfold mayR; simp [zer_vld, zer_size]
theorem zer_none (n : Nat) (h : ¬ n ≤ 200) : vaOf ⟨2, 0, zer n⟩ = .none ∧ okE (mayR ⟨2, 0, zer n⟩) = 1 := by
  unfold vaOf; rw [zer_may, decide_eq_false h]; exact ⟨rfl, rfl⟩
theorem zer_some (n : Nat) (h : n ≤ 200) : vaOf ⟨2, 0, zer n⟩ = .txt (zer n) ∧ okE (mayR ⟨2, 0, zer n⟩) = 0 := by
  unfold vaOf; rw [zer_may, decide_eq_true h]; exact ⟨rfl, rfl⟩
theorem make_zer (n : Nat) (hn : n ≤ 1000000) (w : World) : (Instr.makeSlice 34 (.int .i64 (n : Int)) (.int .i64 (n : Int))).run Try.prog w = .ok (.slice (some ⟨w.heap.size, 0, none⟩) n n) (w.alloc (.cells (madeCells #[.int .u8 0] n) 5)) :=
  run_make_row' _ _ _ 1 Try.underlying34 Try.infoU8 rfl .i64 .i64 n (by omega) (by omega) w
theorem made_zer (n : Nat) : madeCells #[Value.int .u8 0] n = ((List.replicate n (0 : Int)).map (Value.int .u8)).toArray := by
  unfold madeCells
  apply Array.ext
  · simp
  · intro i h1 h2; simp [Nat.mod_one]
theorem conv_zer (n : Nat) (w : World) : (convert 34 9 (.slice (some ⟨w.heap.size, 0, none⟩) n n)).run Try.prog (w.alloc (.cells (madeCells #[.int .u8 0] n) 5)) = .ok (.string (zer n)) (w.alloc (.cells (madeCells #[.int .u8 0] n) 5)) :=
  conv_new w _ n (List.replicate n 0) (List.length_replicate) (made_zer n)
end Go.Proofs.Ytdhppekfehbngaa
