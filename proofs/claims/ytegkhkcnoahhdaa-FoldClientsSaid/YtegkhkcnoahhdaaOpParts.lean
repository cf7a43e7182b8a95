/-
  Package op's mayParts says which batches may be, whatever length their bytes have.
  The batch lies in memory; its operations' texts have at most 1,000,000 bytes.
-/
import Derived.Test.YtegkhkcnoahhdaaOpPut
import Derived.Test.YtegkhkcnoahhdaaOpPlain
set_option linter.unusedSimpArgs false
set_option linter.unusedVariables false
namespace Go.Proofs.Ytegkhkcnoahhdaa
open Go.RowKit
set_option maxRecDepth 100000

def partsB (b : Bat) : Bool := decide (1 ≤ b.client) && decide (b.client ≤ 5) && decide (1 ≤ b.seq) && decide (b.seq ≤ 1099511627776) && mayOs b.ops
theorem mayB_parts (b : Bat) : mayB b = (partsB b && decide ((bytesB b).length ≤ 1200)) := rfl
theorem all_no {l : List Opn} {k : Nat} {x : Opn} {h : k < l.length} (hx : l[k] = x) (hb : mayO x = false) : mayOs l = false := by
  unfold mayOs
  rw [show l.all mayO = false from ?_, Bool.and_false]
  rw [List.all_eq_false]
  exact ⟨x, by rw [← hx]; exact List.getElem_mem .., by rw [hb]; simp⟩
set_option maxHeartbeats 2000000 in
theorem parts_any (B : Nat) (v : Value) (b : Bat) (w : World) (h : BatV w B v b) (hB : B ≤ w.heap.size) (hsm : ∀ x ∈ b.ops, x.small) : Calls Try.prog 35 #[v] w (Bl (partsB b) w) := by
  obtain ⟨s, rfl, A, c, rfl, hc, hcell⟩ := h
  obtain ⟨bc, bq, l⟩ := b
  simp only at hc hcell hsm ⊢
  by_cases hin : 1 ≤ bc ∧ bc ≤ 5 ∧ 1 ≤ bq ∧ bq ≤ 1099511627776
  · obtain ⟨i1, i2, i3, i4⟩ := hin
    have hP : partsB ⟨bc, bq, l⟩ = mayOs l := by unfold partsB; simp [i1, i2, i3, i4]
    rw [hP]
    by_cases h1 : l.length < 1
    · have hm : mayOs l = false := by unfold mayOs; rw [decide_eq_false (by omega)]; rfl
      rw [hm]
      go_enter Try.func35, Try.ntmps35
      go_wp2
      go_ret
      exact ⟨rfl, below_one _ _⟩
    · by_cases h8 : 8 < l.length
      · have hm : mayOs l = false := by unfold mayOs; rw [decide_eq_false (p := l.length ≤ 8) (by omega)]; simp
        rw [hm]
        go_enter Try.func35, Try.ntmps35
        go_wp2
        go_ret
        exact ⟨rfl, below_one _ _⟩
      · obtain ⟨g, o, rfl, hg, hcs⟩ := hcell (by omega)
        have HC := Lib.hid hcs; clear hcs hcell hP
        go_enter Try.func35, Try.ntmps35
        go_wp2
        go_loopw [36] (fun i wr => ∃ k : Nat, i = .int .i64 k ∧ k ≤ l.length ∧ Below w.heap.size w wr ∧ (l.take k).all mayO = true) (fun i _ => l.length - (intOf i).toNat)
        case atStart => exact ⟨0, rfl, by omega, below_one _ _, by simp⟩
        case round =>
          obtain ⟨k, rfl, hk, hbw, hall⟩ := hrel
          by_cases hkl : k < l.length
          · obtain ⟨x, hx⟩ : ∃ x, l[k] = x := ⟨_, rfl⟩
            have hr := HC.out k hkl
            rw [hx] at hr
            have hr2 := range_below hr hbw (Nat.lt_of_lt_of_le hg hB)
            have hxs := hsm l[k] (List.getElem_mem ..)
            have htk : l.take (k + 1) = l.take k ++ [x] := by rw [List.take_add_one, List.getElem?_eq_getElem hkl, hx]; rfl
            rw [hx] at hxs
            obtain ⟨b, hb⟩ : ∃ b, mayO x = b := ⟨_, rfl⟩
            have hno : b = false → mayOs l = false := fun e => all_no hx (hb.trans e)
            have hall2 : b = true → (l.take (k + 1)).all mayO = true := fun e => by rw [htk, List.all_append, hall]; simp [hb, e]
            clear htk hr hx
            obtain ⟨xk, xkey, ⟨xvk, xvn, xvs⟩, ⟨xok, xon, xos⟩, xn⟩ := x
            have HXS := Lib.hid hxs; clear hxs
            have HB := Lib.hid hb; clear hb
            have HN := Lib.hid hno; clear hno
            have HA := Lib.hid hall2; clear hall2
            unfold Opn.cs at hr2
            simp only at hr2
            go_wp2_with (refine wpList_load_mid rfl 38 _ rfl g (o + k * 9) rfl _ _ hr2 Try.underlying38 rfl Try.infoOp ?_)
            refine (omay_is _ ⟨xk, xkey, ⟨xvk, xvn, xvs⟩, ⟨xok, xon, xos⟩, xn⟩ b _ rfl HXS.out HB.out).mono ?_
            rintro e w1 ⟨rfl, hb1⟩
            have hbw1 : Below w.heap.size w w1 := (hbw.alloc hbw.size _).trans (hb1.mono (by have := hbw.size; simp; omega))
            clear hr2 hb1
            cases b
            · have HF := Lib.hid (HN.out rfl); clear HN HA
              go_wp2
              go_ret
              exact ⟨ret_bool HF.out.symm, hbw1⟩
            · have HF := Lib.hid (HA.out rfl); clear HN HA
              go_wp2
              go_roundw
              case rel => exact ⟨k + 1, by go_num, by omega, hbw1, HF.out⟩
              case measure => simp [intOf]; omega
          · have hfin : mayOs l = true := by
              unfold mayOs
              rw [List.take_of_length_le (by omega)] at hall
              rw [hall, decide_eq_true (by omega), decide_eq_true (by omega)]; rfl
            have HF := Lib.hid hfin; clear hfin hall
            go_wp2
            go_ret
            exact ⟨ret_bool HF.out.symm, hbw⟩
  · have hf : partsB ⟨bc, bq, l⟩ = false := by
      unfold partsB
      simp only
      by_cases a1 : 1 ≤ bc
      · by_cases a2 : bc ≤ 5
        · by_cases a3 : 1 ≤ bq
          · rw [decide_eq_false (p := bq ≤ 1099511627776) (fun a4 => hin ⟨a1, a2, a3, a4⟩)]; simp
          · rw [decide_eq_false a3]; simp
        · rw [decide_eq_false a2]; simp
      · rw [decide_eq_false a1]; simp
    have HF := Lib.hid hf; clear hf
    have hc : bc < 1 ∨ (1 ≤ bc ∧ 5 < bc) ∨ (1 ≤ bc ∧ bc ≤ 5 ∧ bq < 1) ∨ (1 ≤ bc ∧ bc ≤ 5 ∧ 1 ≤ bq ∧ 1099511627776 < bq) := by omega
    clear hin
    rcases hc with h1 | ⟨h1, h2⟩ | ⟨h1, h2, h3⟩ | ⟨h1, h2, h3, h4⟩
    all_goals
      go_enter Try.func35, Try.ntmps35
      go_wp2
      go_ret
      exact ⟨ret_bool HF.out.symm, below_one _ _⟩
end Go.Proofs.Ytegkhkcnoahhdaa
