/-
  Package conf's May, Has, missing and Near say what the plain functions say.
  Lists have at most 1,000 servers.
-/
import Derived.Test.YtoekiencnbgmhaaC12Ints
import Derived.Test.YtoekiencnbgmhaaC12Plain
import Derived.Test.YtoekiencnbgmhaaShelf
import Derived.Lib.Hide
import Derived.LoopTactic
import Derived.WalkKit
set_option linter.unusedSimpArgs false
set_option linter.unusedVariables false
namespace Go.Proofs.Ytoekiencnbgmhaa
open Go.RowKit Go.Deep
set_option maxRecDepth 100000

theorem bool_ret {a b : Bool} (h : a = b) : Ending.returned (.bool a) = .returned (.bool b) := by rw [h]
theorem drop_cons12 {L : List Int} {k : Nat} (h : k < L.length) : L.drop k = L[k] :: L.drop (k + 1) := List.drop_eq_getElem_cons h
set_option maxHeartbeats 1000000 in
theorem may12_w (A : Option Addr) (c B : Nat) (L : List Int) (w : World) (h : Ints w B (.slice A L.length c) L) (hl : L.length ≤ 1000) :
    Calls Try.prog 58 #[.slice A L.length c] w fun e w' => e = .returned (.bool (may12 L)) ∧ w = w' := by
  obtain ⟨n, hn⟩ : ∃ n, L.length = n := ⟨_, rfl⟩
  rw [hn] at h hl ⊢
  have HI := Lib.hid h
  have HN := Lib.hid hn
  clear h hn
  go_enter Try.func58, Try.ntmps58
  go_wp2
  go_loop [3, 8] (fun last i => ∃ (k : Nat) (p : Int), k ≤ n ∧ i = .int .i64 k ∧ last = .int .i64 p ∧ mayF 0 L = mayF p (L.drop k)) (fun _ i => n - (intOf i).toNat)
  case atStart => exact ⟨0, 0, Nat.zero_le _, rfl, rfl, rfl⟩
  case round =>
    obtain ⟨k, p, hk, rfl, rfl, hrec⟩ := hrel
    have HR := Lib.hid hrec
    clear hrec
    by_cases hlt : k < n
    · have hkl : k < L.length := by rw [HN.out]; exact hlt
      obtain ⟨g, o, hA, _, hcell⟩ := HI.out.at_ k hkl
      subst hA
      have hd := drop_cons12 hkl
      obtain ⟨x, hx⟩ : ∃ x, L[k] = x := ⟨_, rfl⟩
      rw [hx] at hcell hd
      have HD := Lib.hid hd
      clear hd hx hkl
      by_cases h1 : x ≤ p
      · go_wp2
        go_ret
        refine ⟨bool_ret ?_, rfl⟩
        unfold may12
        rw [HR.out, HD.out]
        simp [mayF]; omega
      · by_cases h2 : 7 < x
        · go_wp2
          go_ret
          refine ⟨bool_ret ?_, rfl⟩
          unfold may12
          rw [HR.out, HD.out]
          simp [mayF]; omega
        · go_wp2
          go_round
          case rel => exact ⟨k + 1, x, by omega, by go_num, rfl, by rw [HR.out, HD.out]; simp [mayF]; omega⟩
          case measure => simp [intOf]; omega
    · have hkn : k = n := by omega
      have hf : mayF 0 L = true := by rw [HR.out, List.drop_of_length_le (by rw [HN.out]; omega)]; rfl
      have HF := Lib.hid hf
      clear hf
      by_cases h0 : 0 < n
      · go_wp2
        go_ret
        refine ⟨bool_ret ?_, rfl⟩
        unfold may12
        rw [HF.out, HN.out]; simp; omega
      · go_wp2
        go_ret
        refine ⟨bool_ret ?_, rfl⟩
        unfold may12
        rw [HF.out, HN.out]; simp; omega
/-- slices.Contains at any slice -/
theorem contains12_w (A : Option Addr) (c B : Nat) (L : List Int) (x : Int) (w : World) (h : Ints w B (.slice A L.length c) L) (hl : L.length ≤ 1000) :
    Calls Try.prog 80 #[.slice A L.length c, .int .i64 x] w fun e w' => e = .returned (.bool (L.contains x)) ∧ w = w' := by
  by_cases h0 : 0 < L.length
  · obtain ⟨g, o, rfl, _, _⟩ := h.at_ 0 h0
    refine (Try.slices_Contains_int g o L.length c L x w (Nat.le_refl _) (by omega) (fun j hj => ?_)).mono ?_
    · obtain ⟨g', o', e, _, hc⟩ := h.at_ j hj
      injection e with e; injection e with e1 e2; subst e1; subst e2
      rw [hc]; simp [hj]
    · rintro e w' ⟨rfl, rfl⟩
      rw [List.take_length]
      exact ⟨rfl, rfl⟩
  · have h1 : L = [] := List.eq_nil_of_length_eq_zero (by omega)
    subst h1
    refine (Try.slices_Contains_int_empty A c x w).mono ?_
    rintro e w' ⟨rfl, rfl⟩
    exact ⟨rfl, rfl⟩
set_option maxHeartbeats 1000000 in
theorem has12_w (A : Option Addr) (c B : Nat) (L : List Int) (x : Int) (w : World) (h : Ints w B (.slice A L.length c) L) (hl : L.length ≤ 1000) :
    Calls Try.prog 69 #[.slice A L.length c, .int .i64 x] w fun e w' => e = .returned (.bool (L.contains x)) ∧ w = w' := by
  have hc := contains12_w A c B L x w h hl
  obtain ⟨b, hb⟩ : ∃ b, L.contains x = b := ⟨_, rfl⟩
  rw [hb] at hc ⊢
  clear h hb
  go_enter Try.func69, Try.ntmps69
  go_wp2_with fail
  refine hc.mono ?_
  rintro e w' ⟨rfl, rfl⟩
  go_wp2
  go_ret
  exact ⟨rfl, rfl⟩
theorem countP_take12 (L : List Int) (q : Int → Bool) (k : Nat) (h : k < L.length) : (L.take (k + 1)).countP q = (L.take k).countP q + (if q L[k] = true then 1 else 0) := by
  rw [List.take_succ_eq_append_getElem h, List.countP_append, List.countP_singleton]
theorem countP_take_le12 (L : List Int) (q : Int → Bool) (k : Nat) : (L.take k).countP q ≤ k := Nat.le_trans List.countP_le_length (List.length_take_le _ _)
theorem near12_no {a b : List Int} (h : may12 a = false) : near12 a b = false := by unfold near12; rw [h]; rfl
theorem near12_no2 {a b : List Int} (h : may12 b = false) : near12 a b = false := by unfold near12; rw [h]; simp
theorem near12_yes {a b : List Int} (h : may12 a = true) (h2 : may12 b = true) : near12 a b = decide (miss12 a b + miss12 b a ≤ 1) := by unfold near12; rw [h, h2]; rfl
theorem miss12_le (a b : List Int) : miss12 a b ≤ a.length := List.countP_le_length
end Go.Proofs.Ytoekiencnbgmhaa
