/-
  The reference's MayConf, Has, EncodeConf, DecodeConf and Change say what the plain functions say.
  Lists have at most 1,000 servers, texts at most 1,000 bytes.
-/
import Derived.Test.YtoekiencnbgmhaaC12Law
import Derived.IntWalk
set_option linter.unusedSimpArgs false
set_option linter.unusedVariables false
namespace Go.Proofs.Ytoekiencnbgmhaa
open Go.RowKit Go.Deep
set_option maxRecDepth 100000

set_option maxHeartbeats 1000000 in
theorem rhas12_w (A : Option Addr) (c B : Nat) (L : List Int) (x : Int) (w : World) (h : Ints w B (.slice A L.length c) L) (hl : L.length ≤ 1000) :
    Calls Try.prog 30 #[.slice A L.length c, .int .i64 x] w fun e w' => e = .returned (.bool (L.contains x)) ∧ w = w' := by
  obtain ⟨n, hn⟩ : ∃ n, L.length = n := ⟨_, rfl⟩
  rw [hn] at h hl ⊢
  have HI := Lib.hid h
  have HN := Lib.hid hn
  obtain ⟨b, hb⟩ : ∃ b, L.contains x = b := ⟨_, rfl⟩
  rw [hb]
  have HBB := Lib.hid hb
  clear h hn hb
  go_enter Try.func30, Try.ntmps30
  go_wp2
  go_loop [5] (fun i => ∃ k : Nat, k ≤ n ∧ i = .int .i64 k ∧ ∀ y ∈ L.take k, y ≠ x) (fun i => n - (intOf i).toNat)
  case atStart => exact ⟨0, Nat.zero_le _, rfl, by simp⟩
  case round =>
    obtain ⟨k, hk, rfl, hrec⟩ := hrel
    have HR := Lib.hid hrec
    clear hrec
    by_cases hlt : k < n
    · have hkl : k < L.length := by rw [HN.out]; exact hlt
      obtain ⟨g, o, hA, _, hcell⟩ := HI.out.at_ k hkl
      subst hA
      have hts : L.take (k + 1) = L.take k ++ [L[k]] := List.take_succ_eq_append_getElem hkl
      have hm := List.getElem_mem hkl
      obtain ⟨y, hy⟩ : ∃ y, L[k] = y := ⟨_, rfl⟩
      rw [hy] at hcell hts hm
      by_cases he : y = x
      · subst he
        have hc : L.contains y = true := by simpa using hm
        have HC := Lib.hid hc
        clear hts hm hy hkl hc
        go_wp2
        go_ret
        exact ⟨bool_ret (by rw [← HBB.out, HC.out]), rfl⟩
      · have hT : ∀ z ∈ L.take (k + 1), z ≠ x := by
          rw [hts]
          intro z hz
          rcases List.mem_append.1 hz with h | h
          · exact HR.out z h
          · rw [List.mem_singleton.1 h]; exact he
        have HT := Lib.hid hT
        have hb : (y == x) = false := by simpa using he
        clear hts hm hy hkl hT
        go_wp2
        go_round
        case rel => exact ⟨k + 1, by omega, by go_num, HT.out⟩
        case measure => simp [intOf]; omega
    · have hkn : k = n := by omega
      have hc : L.contains x = false := by
        have h := HR.out
        rw [List.take_of_length_le (by rw [HN.out]; omega)] at h
        cases hb : L.contains x with
        | false => rfl
        | true => exact absurd rfl (h x (by simpa using hb))
      have HC := Lib.hid hc
      clear hc
      go_wp2
      go_ret
      exact ⟨bool_ret (by rw [← HBB.out, HC.out]), rfl⟩
theorem may12_false {L : List Int} (h : mayF 0 L = false) : may12 L = false := by unfold may12; rw [h]; rfl
set_option maxHeartbeats 600000 in
theorem rmay12_w (A : Option Addr) (c B : Nat) (L : List Int) (w : World) (h : Ints w B (.slice A L.length c) L) (hl : L.length ≤ 1000) :
    Calls Try.prog 29 #[.slice A L.length c] w fun e w' => e = .returned (.bool (may12 L)) ∧ Below w.heap.size w w' := by
  obtain ⟨n, hn⟩ : ∃ n, L.length = n := ⟨_, rfl⟩
  rw [hn] at h hl ⊢
  have HI := Lib.hid h
  have HN := Lib.hid hn
  clear h hn
  go_enter Try.func29, Try.ntmps29
  go_wp2
  go_loopw [3] (fun i wr => ∃ (k : Nat) (p : Int), k ≤ n ∧ i = .int .i64 k ∧ 0 ≤ p ∧ (0 < k → ∃ h : k - 1 < L.length, L[k - 1] = p) ∧ (k = 0 → p = 0) ∧ mayF 0 L = mayF p (L.drop k) ∧ Below w.heap.size w wr) (fun i _ => n - (intOf i).toNat)
  case atStart => exact ⟨0, 0, Nat.zero_le _, rfl, Int.le_refl _, fun h => absurd h (by decide), fun _ => rfl, rfl, Below.refl _ _⟩
  case round =>
    obtain ⟨k, p, hk, rfl, hp0, hpk, hpz, hrec, hb⟩ := hrel
    have HR := Lib.hid hrec
    have HB := Lib.hid hb
    have HPK := Lib.hid hpk
    have HPZ := Lib.hid hpz
    clear hrec hb hpk hpz
    by_cases hlt : k < n
    · have hkl : k < L.length := by rw [HN.out]; exact hlt
      obtain ⟨g, o, hA, _, hcell⟩ := HI.out.at_ k hkl
      subst hA
      have hd := drop_cons12 hkl
      have hc1 : wr.cell? ⟨g, o + k, none⟩ = some (.int .i64 L[k]) := (HB.out.cell (p := ⟨g, o + k, none⟩) (cell_in hcell)).trans hcell
      obtain ⟨x, hx⟩ : ∃ x, L[k] = x := ⟨_, rfl⟩
      rw [hx] at hc1 hd
      have HX := Lib.hid hx
      have HD := Lib.hid hd
      clear hcell hd hx
      have hki : (0 : Int) ≤ k := by omega
      by_cases h1 : x < 1
      · have hf : may12 L = false := may12_false (by rw [HR.out, HD.out]; simp [mayF]; omega)
        have HF := Lib.hid hf
        clear hf HX hkl
        go_wp2_with fail
        go_quiet (fail)
        go_wp2
        go_ret
        exact ⟨bool_ret HF.out.symm, below_drewN HB.out _⟩
      · have hd1 : decide (x < 1) = false := by simpa using h1
        by_cases h2 : 7 < x
        · have hd2 : decide (7 < x) = true := by simpa using h2
          have hf : may12 L = false := may12_false (by rw [HR.out, HD.out]; simp [mayF]; omega)
          have HF := Lib.hid hf
          clear hf HX hkl
          go_wp2_with fail
          go_quiet (fail)
          go_wp2
          go_ret
          exact ⟨bool_ret HF.out.symm, below_drewN HB.out _⟩
        · have hd2 : decide (7 < x) = false := by simpa using h2
          by_cases h3 : k = 0
          · have hp : p = 0 := HPZ.out h3
            have HM := Lib.hid (show mayF 0 L = mayF x (L.drop (k + 1)) by rw [HR.out, HD.out, hp]; simp [mayF]; omega)
            have HQ := Lib.hid (show ∃ h : k + 1 - 1 < L.length, L[k + 1 - 1] = x from ⟨hkl, HX.out⟩)
            subst h3
            rw [Nat.add_zero] at hc1
            clear hp HX hkl hki HPK HPZ
            go_wp2_with fail
            go_quiet (fail)
            go_wp2
            go_roundw
            case rel => exact ⟨1, x, by omega, by go_num, by omega, fun _ => HQ.out, fun h => absurd h (by omega), HM.out, below_drewN HB.out _⟩
            case measure => simp [intOf]; omega
          · obtain ⟨hj9, hpj⟩ := HPK.out (by omega)
            obtain ⟨j, hj⟩ : ∃ j, k - 1 = j := ⟨_, rfl⟩
            have hjl : j < L.length := by omega
            obtain ⟨g2, o2, hA2, _, hcell2⟩ := HI.out.at_ j hjl
            injection hA2 with hA2
            injection hA2 with e1 e2
            subst e1; subst e2
            have hc2 : wr.cell? ⟨g, o + j, none⟩ = some (.int .i64 p) := by
              rw [(HB.out.cell (p := ⟨g, o + j, none⟩) (cell_in hcell2)).trans hcell2, ← hpj]
              simp only [hj]
            have hw1 : IntKind.i64.wrap ((k : Int) - 1) = (k : Int) - 1 := by rw [IntKind.wrap_i64]; omega
            have hw2 : ((k : Int) - 1).toNat = j := by omega
            have hw3 : (0 : Int) ≤ (k : Int) - 1 := by omega
            have hw3' : (1 : Int) ≤ (k : Int) := by omega
            have hw4 : (k : Int) - 1 < n := by omega
            have h3i : (0 : Int) < k := by omega
            have h3d : decide (0 < k) = true := decide_eq_true (by omega)
            by_cases h4 : x ≤ p
            · have hd4 : decide (x ≤ p) = true := by simpa using h4
              have hf : may12 L = false := may12_false (by rw [HR.out, HD.out]; simp [mayF]; omega)
              have HF := Lib.hid hf
              clear hf HX hkl hcell2 hjl hpj hj9 hj h3
              go_wp2_with fail
              go_quiet (fail)
              go_wp2
              go_ret
              exact ⟨bool_ret HF.out.symm, below_drewN HB.out _⟩
            · have hd4 : decide (x ≤ p) = false := by simpa using h4
              have HM := Lib.hid (show mayF 0 L = mayF x (L.drop (k + 1)) by rw [HR.out, HD.out]; simp [mayF]; omega)
              have HQ := Lib.hid (show ∃ h : k + 1 - 1 < L.length, L[k + 1 - 1] = x from ⟨hkl, HX.out⟩)
              clear HX hkl hcell2 hjl hpj hj9 hj h3
              go_wp2_with fail
              go_quiet (fail)
              clear hw1 hw2 hw3 hw4
              go_wp2
              go_roundw
              case rel => exact ⟨k + 1, x, by omega, by go_num, by omega, fun _ => HQ.out, fun h => absurd h (by omega), HM.out, below_drewN HB.out _⟩
              case measure => simp [intOf]; omega
    · have hkn : k = n := by omega
      have hf : mayF 0 L = true := by rw [HR.out, List.drop_of_length_le (by rw [HN.out]; omega)]; rfl
      have HF := Lib.hid hf
      clear hf
      by_cases h0 : 0 < n
      · go_wp2
        go_ret
        refine ⟨bool_ret ?_, HB.out⟩
        unfold may12
        rw [HF.out, HN.out]; simp; omega
      · go_wp2
        go_ret
        refine ⟨bool_ret ?_, HB.out⟩
        unfold may12
        rw [HF.out, HN.out]; simp; omega
end Go.Proofs.Ytoekiencnbgmhaa
