/-
  A function returns what the plain functions say: ReKey.
-/
import Derived.Test.YtdhppekfehbngaaProg
import Derived.Test.YtdhppekfehbngaaWBase
import Derived.Test.YtdhppekfehbngaaReRunes
set_option linter.unusedSimpArgs false
set_option linter.unusedVariables false
namespace Go.Proofs.Ytdhppekfehbngaa
open Go.RowKit
set_option maxRecDepth 100000

set_option maxRecDepth 100000 in
set_option maxHeartbeats 4000000 in
theorem rkey_any (s : ByteArray) (w : World) (hs : s.size ≤ 1000000) : Calls Try.prog 27 #[.string s] w fun e w' => e = .returned (.bool (Ru.key s.data.toList)) ∧ Below w.heap.size w w' := by
  go_enter Try.func27, Try.ntmps27
  go_wp2_with fail
  refine (runes_any s _ hs).mono ?_
  rintro e w1 ⟨vl, va, rfl, hl, ha, hb⟩
  have hcn : Ru.cnt s.data.toList = (Ru.rns s.data.toList).length := rfl
  have hk : Ru.key s.data.toList = (decide (1 ≤ (Ru.rns s.data.toList).length) && decide ((Ru.rns s.data.toList).length ≤ 40) && (Ru.rns s.data.toList).all Ru.okr) := rfl
  have hv : Ru.vld s.data.toList = (Ru.rns s.data.toList).all Ru.fine := rfl
  obtain ⟨R, hR⟩ : ∃ R, Ru.rns s.data.toList = R := ⟨_, rfl⟩
  rw [hcn, hR] at hl
  rw [hR] at hk hv
  obtain ⟨A, c, rfl, hA⟩ := own_read hl
  clear hl ha hcn hR
  have HK := Lib.hid hk; clear hk
  have HV := Lib.hid hv; clear hv
  generalize Ru.vld s.data.toList = good at *
  by_cases h0 : R.length < 1
  · clear hA
    go_wp2
    go_ret
    refine ⟨ret_bool ?_, hb⟩
    rw [HK.out, decide_eq_false (by omega)]; rfl
  · obtain ⟨g, rfl, hgl, hcell⟩ := hA (by omega)
    clear hA
    by_cases h40 : 40 < R.length
    · clear hcell
      go_wp2
      go_ret
      refine ⟨ret_bool ?_, hb⟩
      rw [HK.out, decide_eq_false (show ¬ R.length ≤ 40 by omega), Bool.and_false]; rfl
    · cases good
      · clear hcell
        go_wp2
        go_ret
        refine ⟨ret_bool ?_, hb⟩
        rw [HK.out, okr_none _ HV.out.symm, Bool.and_false]
      · go_wp2
        go_loop [6] (fun v => ∃ k : Nat, v = .int .i64 k ∧ k ≤ R.length ∧ (R.take k).all Ru.okr = true) (fun v => R.length - (intOf v).toNat)
        case atStart => exact ⟨0, rfl, Nat.zero_le _, rfl⟩
        case round =>
          obtain ⟨k, rfl, hkl, hok⟩ := hrel
          have HO := Lib.hid hok; clear hok
          by_cases hlt : k < R.length
          · have hc := hcell k _ (runeVals_at R k hlt)
            have hf : Ru.fine R[k] = true := List.all_eq_true.1 HV.out.symm _ (List.getElem_mem hlt)
            have HF := Lib.hid hf; clear hf
            clear hcell
            generalize hx : R[k] = x at *
            have HX := Lib.hid hx; clear hx
            have hbad : Ru.okr x = false → Ru.key s.data.toList = false := fun hb => by
              rw [HK.out, List.all_eq_false.2 ⟨x, by rw [← HX.out]; exact List.getElem_mem hlt, by rw [hb]; simp⟩, Bool.and_false]
            have HB := Lib.hid hbad; clear hbad
            by_cases h32 : x.1 < 32
            · go_wp2
              go_ret
              exact ⟨ret_bool (HB.out (okr_low x h32)).symm, hb⟩
            · by_cases h127 : x.1 = 127
              · have h2 : ((x.1 : Int) == 127) = true := by rw [h127]; rfl
                have H1 := Lib.hid h127; clear h127
                go_wp2
                go_ret
                exact ⟨ret_bool (HB.out (okr_del x H1.out)).symm, hb⟩
              · have h2 : ((x.1 : Int) == 127) = false := by rw [beq_eq_false_iff_ne]; omega
                have H1 := Lib.hid h127; clear h127
                have H3 := Lib.hid h32
                go_wp2
                go_round
                case rel =>
                  refine ⟨k + 1, by go_num, by omega, ?_⟩
                  rw [List.take_succ_eq_append_getElem hlt, List.all_append, HO.out, HX.out]
                  simp [okr_ok x HF.out H3.out H1.out]
                case measure => simp [intOf]; omega
          · go_wp2
            go_ret
            obtain rfl : k = R.length := by omega
            refine ⟨ret_bool ?_, hb⟩
            have := HO.out
            rw [List.take_length] at this
            rw [HK.out, this, decide_eq_true (by omega), decide_eq_true (by omega)]; rfl
end Go.Proofs.Ytdhppekfehbngaa
