/-
  The reference's Majority says what the plain function says.
  Lists have at most 1,000 servers.
-/
import Derived.Test.YtoekiencnbgmhaaC12Ref
namespace Go.Proofs.Ytoekiencnbgmhaa
open Go.RowKit Go.Deep
set_option maxRecDepth 100000

def rmaj14 (L M : List Int) : Bool := may12 L && decide (L.length < 2 * L.countP fun x => M.contains x)
set_option maxHeartbeats 1000000 in
theorem rmaj14_w (A : Option Addr) (c B : Nat) (L : List Int) (A2 : Option Addr) (c2 B2 : Nat) (M : List Int) (w : World) (h : Ints w B (.slice A L.length c) L) (h2 : Ints w B2 (.slice A2 M.length c2) M) (hl : L.length ≤ 1000) (hl2 : M.length ≤ 1000) :
    Calls Try.prog 34 #[.slice A L.length c, .slice A2 M.length c2] w fun e w' => e = .returned (.bool (rmaj14 L M)) ∧ Below w.heap.size w w' := by
  have hmay := rmay12_w A c B L w h hl
  have hhas := fun x => rhas12_w A2 c2 B2 M x w h2 hl2
  obtain ⟨n, hn⟩ : ∃ n, L.length = n := ⟨_, rfl⟩
  obtain ⟨m, hm⟩ : ∃ n, M.length = n := ⟨_, rfl⟩
  obtain ⟨r, hr⟩ : ∃ r, rmaj14 L M = r := ⟨_, rfl⟩
  rw [hr]
  rw [hn] at h hl hmay ⊢
  rw [hm] at h2 hl2 hhas ⊢
  obtain ⟨bm, hbm⟩ : ∃ b, may12 L = b := ⟨_, rfl⟩
  rw [hbm] at hmay
  have HI := Lib.hid h
  have HN := Lib.hid hn
  have HR := Lib.hid hr
  have HMAY := Lib.hid hmay
  have HHAS := Lib.hid hhas
  have HBM := Lib.hid hbm
  clear h h2 hn hm hr hmay hhas hbm
  go_enter Try.func34, Try.ntmps34
  go_wp2
  go_loop [5, 6] (fun t i => ∃ k q : Nat, k ≤ n ∧ i = .int .i64 k ∧ t = .int .i64 q ∧ q ≤ k ∧ (L.take k).countP (fun x => M.contains x) = q) (fun _ i => n - (intOf i).toNat)
  case atStart => exact ⟨0, 0, Nat.zero_le _, rfl, rfl, Nat.le_refl _, rfl⟩
  case round =>
    obtain ⟨k, q, hk, rfl, rfl, hqk, hrec⟩ := hrel
    have HRC := Lib.hid hrec
    clear hrec
    by_cases hlt : k < n
    · have hkl : k < L.length := by rw [HN.out]; exact hlt
      obtain ⟨g, o, hA, _, hcell⟩ := HI.out.at_ k hkl
      subst hA
      have hd := countP_take12 L (fun x => M.contains x) k hkl
      obtain ⟨x, hx⟩ : ∃ x, L[k] = x := ⟨_, rfl⟩
      rw [hx] at hcell hd
      have hh := HHAS.out x
      cases hb : M.contains x with
      | true =>
        rw [hb] at hh
        have HD := Lib.hid (show (L.take (k + 1)).countP (fun x => M.contains x) = q + 1 by rw [hd, HRC.out]; simp at hb; simp [hb])
        clear hd hx hkl hb
        go_wp2_with fail
        refine hh.mono ?_
        rintro e w' ⟨rfl, rfl⟩
        go_wp2
        go_round
        case rel => exact ⟨k + 1, q + 1, by omega, by go_num, by go_num, by omega, HD.out⟩
        case measure => simp [intOf]; omega
      | false =>
        rw [hb] at hh
        have HD := Lib.hid (show (L.take (k + 1)).countP (fun x => M.contains x) = q by rw [hd, HRC.out]; simp at hb; simp [hb])
        clear hd hx hkl hb
        go_wp2_with fail
        refine hh.mono ?_
        rintro e w' ⟨rfl, rfl⟩
        go_wp2
        go_round
        case rel => exact ⟨k + 1, q, by omega, by go_num, rfl, by omega, HD.out⟩
        case measure => simp [intOf]; omega
    · have hkn : k = n := by omega
      have hc : L.countP (fun x => M.contains x) = q := by
        have h := HRC.out
        rw [List.take_of_length_le (by rw [HN.out]; omega)] at h
        exact h
      have HC := Lib.hid hc
      clear hc
      cases bm with
      | false =>
        have HF := Lib.hid (show r = false by rw [← HR.out]; unfold rmaj14; rw [HBM.out]; rfl)
        go_wp2_with fail
        refine HMAY.out.mono ?_
        rintro e w1 ⟨rfl, hb⟩
        go_wp2
        go_ret
        exact ⟨bool_ret HF.out.symm, hb⟩
      | true =>
        have HF := Lib.hid (show r = decide (n < 2 * q) by rw [← HR.out]; unfold rmaj14; rw [HBM.out, HN.out, HC.out]; rfl)
        by_cases h9 : (n : Int) < 2 * (q : Int)
        · go_wp2_with fail
          refine HMAY.out.mono ?_
          rintro e w1 ⟨rfl, hb⟩
          go_wp2
          go_ret
          exact ⟨bool_ret (by rw [HF.out]; simp; omega), hb⟩
        · go_wp2_with fail
          refine HMAY.out.mono ?_
          rintro e w1 ⟨rfl, hb⟩
          go_wp2
          go_ret
          exact ⟨bool_ret (by rw [HF.out]; simp; omega), hb⟩
end Go.Proofs.Ytoekiencnbgmhaa
