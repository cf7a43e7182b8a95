/-
  A function returns what the plain functions say: RuStray.
-/
import Derived.Test.YtffklbkdmfeimaaShelf
import Derived.Test.YtffklbkdmfeimaaProg
import Derived.Test.YtffklbkdmfeimaaWBase
namespace Go.Proofs.Ytffklbkdmfeimaa
open Go.RowKit
set_option maxRecDepth 100000

theorem stray_not (t : ByteArray) (r : Int) (w : World) (h : (r == 65533) = false) : Calls Try.prog 46 #[.string t, .int .i32 r] w fun e w' => e = .returned (.bool false) ∧ w = w' := by
  go_enter Try.func46, Try.ntmps46
  go_wp2
  go_ret
  exact ⟨rfl, rfl⟩

theorem stray_is (t : ByteArray) (w : World) (b : Bool) (h : Lib.hasPrefix t.data.toList [239, 191, 189] = b) : Calls Try.prog 46 #[.string t, .int .i32 65533] w fun e w' => e = .returned (.bool !b) ∧ w = w' := by
  have H := Lib.hid h; clear h
  go_enter Try.func46, Try.ntmps46
  go_wp2_with (go_at_call 48; refine (Try.strings_HasPrefix t pre w).mono ?_; rintro e w' ⟨rfl, rfl⟩)
  go_ret
  rw [show Lib.hasPrefix t.data.toList pre.data.toList = b from H.out]
  exact ⟨rfl, rfl⟩

theorem stray_at (s : ByteArray) (pos : Nat) (w : World) (hp : pos < s.size) (b : Bool) (h : Ru.fine (Utf8.decode s pos) = b) : Calls Try.prog 46 #[.string (s.extract pos s.size), .int .i32 (Utf8.decode s pos).1] w fun e w' => e = .returned (.bool !b) ∧ w = w' := by
  by_cases hr : (Utf8.decode s pos).1 = 65533
  · have h2 : Lib.hasPrefix (s.extract pos s.size).data.toList [239, 191, 189] = b := by
      rw [ext_list, pre_take, ← h, Ru.decode_list]
      exact (Ru.fine_pre _ (rest_ne s pos hp) (by rw [Ru.decode_list] at hr; exact hr)).symm
    rw [hr]
    exact stray_is _ w b h2
  · have hb : b = true := by rw [← h, Ru.fine_iff]; exact .inl hr
    subst hb
    exact stray_not _ _ w (by rw [beq_eq_false_iff_ne]; omega)
end Go.Proofs.Ytffklbkdmfeimaa
