/-
  The reference's Open reads a frame as the plain function says.
  The bytes are there in memory, at most 1,000,000.
-/
import Derived.Test.YtmpdjioclalifaaDoorReOpenT
set_option linter.unusedSimpArgs false
set_option linter.unusedVariables false
namespace Go.Proofs.YtmpdjioclalifaaDoor
open Go.RowKit
set_option maxRecDepth 100000

set_option maxRecDepth 100000 in
set_option maxHeartbeats 1000000 in
theorem ropen_any (A : Option Addr) (c B : Nat) (l : List UInt8) (w : World) (h : Byt w B (.slice A l.length c) l) (hB : B ≤ w.heap.size) (hl : l.length ≤ 1000000) : Calls Tryd.prog 16 #[.slice A l.length c] w (GotF B (openB l) w) := by
  obtain ⟨A', c', hv, hc, hcell⟩ := id h
  injection hv with e1 _ e2; subst e1; subst e2
  by_cases h0 : l.length = 0
  · have hf : openB l = (0, [], 0, 2) := by unfold openB; rw [if_pos h0]
    have HF := Lib.hid hf; clear hf
    have h00 : (l.length : Int) = 0 := by omega
    go_enter Tryd.func16, Tryd.ntmps16
    go_wp2
    refine bodyPost_ret (v := .tuple #[.int .i64 0, .slice none 0 0, .int .i64 0, .int .i64 2]) (by simp [results, Tryd.results16, go_sem]) rfl ⟨_, by rw [HF.out]; rfl, by rw [HF.out]; exact byt_nil _ _, Below.refl _ _⟩
  · obtain ⟨g, o, rfl, hg, hcs⟩ := hcell (by omega)
    obtain ⟨x, t, rfl⟩ : ∃ x t, l = x :: t := by cases l with | nil => simp at h0 | cons x t => exact ⟨x, t, rfl⟩
    have hx0 : w.cell? ⟨g, o, none⟩ = some (.int .u8 (x.toNat : Int)) := hcs 0 (by simp)
    by_cases hz : x.toNat = 0
    · have hf : openB (x :: t) = (0, [], 0, 3) := by unfold openB; simp only [List.length_cons, List.headD_cons, List.drop_succ_cons, List.drop_zero]; rw [if_neg (by omega), if_pos hz]
      have hz2 : ((x.toNat : Int) == 0) = true := by rw [hz]; rfl
      have HF := Lib.hid hf; clear hf hz
      go_enter Tryd.func16, Tryd.ntmps16
      go_wp2
      refine bodyPost_ret (v := .tuple #[.int .i64 0, .slice none 0 0, .int .i64 0, .int .i64 3]) (by simp [results, Tryd.results16, go_sem]) rfl ⟨_, by rw [HF.out]; rfl, by rw [HF.out]; exact byt_nil _ _, Below.refl _ _⟩
    · have hz2 : ((x.toNat : Int) == 0) = false := by rw [beq_eq_false_iff_ne]; omega
      have hb := x.toNat_lt
      obtain ⟨gg, hgg⟩ : ∃ gg, Nu.get t = gg := ⟨_, rfl⟩
      obtain ⟨n, k, e⟩ := gg
      have hop : openB (x :: t) = if e = 2 ∧ 2 < t.length + 1 then (0, [], 0, 3) else if e = 2 then (0, [], 0, 2) else if e ≠ 0 ∨ n < 0 ∨ 4000 < n then (0, [], 0, 3) else if ((t.length + 1 : Nat) : Int) < 5 + k + n then (0, [], 0, 2)
          else if sealB x.toNat (((x :: t).drop (5 + k)).take n.toNat) ≠ (x :: t).take (5 + k + n.toNat) then (0, [], 0, 3) else (x.toNat, ((x :: t).drop (5 + k)).take n.toNat, 5 + k + n.toNat, 0) := by
        unfold openB; simp only [List.length_cons, List.headD_cons, List.drop_succ_cons, List.drop_zero]; rw [if_neg (by omega), if_neg hz, hgg]
      have HOP := Lib.hid hop; have HZ := Lib.hid hz; clear hop hz
      by_cases hc1 : c = 1
      · have ht : t = [] := by cases t with | nil => rfl | cons y s => simp at hc; omega
        subst ht
        have he : e = 2 := by have : Nu.get [] = (0, 0, 2) := rfl; rw [this] at hgg; injection hgg with _ h2; injection h2 with _ h3; exact h3.symm
        have hf : openB [x] = (0, [], 0, 2) := by rw [HOP.out, if_neg (by simp), if_pos he]
        have HF := Lib.hid hf; clear hf
        subst hc1
        have hby : Byt w B (.slice (some ⟨g, o, none⟩) 0 0) [] := ⟨_, _, rfl, Nat.le_refl _, fun h => absurd h (by simp)⟩
        have HBY := Lib.hid hby
        subst he
        have HGG := Lib.hid hgg
        clear hcs hcell h hby hgg
        go_enter Tryd.func16, Tryd.ntmps16
        go_wp2_with fail
        refine (rget_n _ _ _ B [] n k 2 w HBY.out (by simp) HGG.out).mono ?_
        rintro e' w' ⟨rfl, rfl⟩
        go_wp2
        refine bodyPost_ret (v := .tuple #[.int .i64 0, .slice none 0 0, .int .i64 0, .int .i64 2]) (by simp [results, Tryd.results16, go_sem]) rfl ⟨_, by rw [HF.out]; rfl, by rw [HF.out]; exact byt_nil _ _, Below.refl _ _⟩
      · have hcut := h.cut (k := 1) (by simp)
        rw [if_neg hc1, add_lit] at hcut
        simp only [List.length_cons, Nat.add_sub_cancel, List.drop_succ_cons, List.drop_zero] at hcut
        have HCUT := Lib.hid hcut; clear hcut
        have HC := Lib.hid hcs; clear hcs hcell h
        have HGG := Lib.hid hgg; clear hgg
        have hlc : (t.length : Int) + 1 ≤ (c : Int) := by simp at hc; omega
        have htl : t.length ≤ 1000000 := by simp at hl; omega
        by_cases he2 : e = 2
        · subst he2
          by_cases hl2 : 2 < t.length + 1
          · have hl3 : (2 : Int) < (t.length : Int) + 1 := by omega
            have hf : openB (x :: t) = (0, [], 0, 3) := by rw [HOP.out, if_pos ⟨rfl, hl2⟩]
            have HF := Lib.hid hf; clear hf
            go_enter Tryd.func16, Tryd.ntmps16
            go_wp2_with fail
            refine (rget_n _ _ _ B t n k 2 w HCUT.out htl HGG.out).mono ?_
            rintro e' w' ⟨rfl, rfl⟩
            go_wp2
            refine bodyPost_ret (v := .tuple #[.int .i64 0, .slice none 0 0, .int .i64 0, .int .i64 3]) (by simp [results, Tryd.results16, go_sem]) rfl ⟨_, by rw [HF.out]; rfl, by rw [HF.out]; exact byt_nil _ _, Below.refl _ _⟩
          · have hl3 : (t.length : Int) + 1 ≤ (2 : Int) := by omega
            have hf : openB (x :: t) = (0, [], 0, 2) := by rw [HOP.out, if_neg (fun h => hl2 h.2), if_pos rfl]
            have HF := Lib.hid hf; clear hf
            go_enter Tryd.func16, Tryd.ntmps16
            go_wp2_with fail
            refine (rget_n _ _ _ B t n k 2 w HCUT.out htl HGG.out).mono ?_
            rintro e' w' ⟨rfl, rfl⟩
            go_wp2
            refine bodyPost_ret (v := .tuple #[.int .i64 0, .slice none 0 0, .int .i64 0, .int .i64 2]) (by simp [results, Tryd.results16, go_sem]) rfl ⟨_, by rw [HF.out]; rfl, by rw [HF.out]; exact byt_nil _ _, Below.refl _ _⟩
        · have t2 : ((e : Int) == 2) = false := by rw [beq_eq_false_iff_ne]; omega
          by_cases he0 : e = 0
          · subst he0
            by_cases hn : n < 0 ∨ 4000 < n
            · have hcs2 : n < 0 ∨ (0 ≤ n ∧ 4000 < n) := by omega
              have hf : openB (x :: t) = (0, [], 0, 3) := by rw [HOP.out, if_neg (by omega), if_neg (by omega), if_pos (.inr hn)]
              have HF := Lib.hid hf; clear hf hn
              rcases hcs2 with h1 | ⟨h1, h2⟩
              all_goals
                go_enter Tryd.func16, Tryd.ntmps16
                go_wp2_with fail
                refine (rget_n _ _ _ B t n k 0 w HCUT.out htl HGG.out).mono ?_
                rintro e' w' ⟨rfl, rfl⟩
                go_wp2
                refine bodyPost_ret (v := .tuple #[.int .i64 0, .slice none 0 0, .int .i64 0, .int .i64 3]) (by simp [results, Tryd.results16, go_sem]) rfl ⟨_, by rw [HF.out]; rfl, by rw [HF.out]; exact byt_nil _ _, Below.refl _ _⟩
            · obtain ⟨m, rfl⟩ := Int.eq_ofNat_of_zero_le (show 0 ≤ n by omega)
              have hm4 : (m : Int) ≤ 4000 := by omega
              have hkl : k ≤ t.length := by have := Nu.get_len t; rw [HGG.out] at this; exact this
              have hop2 : openB (x :: t) = if ((t.length + 1 : Nat) : Int) < 5 + k + (m : Int) then (0, [], 0, 2) else if sealB x.toNat (((x :: t).drop (5 + k)).take m) ≠ (x :: t).take (5 + k + m) then (0, [], 0, 3) else (x.toNat, ((x :: t).drop (5 + k)).take m, 5 + k + m, 0) := by
                rw [HOP.out, if_neg (by omega), if_neg (by omega), if_neg (by omega)]; rfl
              have HOP2 := Lib.hid hop2; clear hop2 hn
              by_cases hsh : t.length + 1 < 5 + k + m
              · have hsh2 : (t.length : Int) + 1 < 1 + (k : Int) + 4 + (m : Int) := by omega
                have hf : openB (x :: t) = (0, [], 0, 2) := by rw [HOP2.out, if_pos (by omega)]
                have HF := Lib.hid hf; clear hf
                go_enter Tryd.func16, Tryd.ntmps16
                go_wp2_with fail
                refine (rget_n _ _ _ B t m k 0 w HCUT.out htl HGG.out).mono ?_
                rintro e' w' ⟨rfl, rfl⟩
                go_wp2
                refine bodyPost_ret (v := .tuple #[.int .i64 0, .slice none 0 0, .int .i64 0, .int .i64 2]) (by simp [results, Tryd.results16, go_sem]) rfl ⟨_, by rw [HF.out]; rfl, by rw [HF.out]; exact byt_nil _ _, Below.refl _ _⟩
              · have hsh2 : 1 + (k : Int) + 4 + (m : Int) ≤ (t.length : Int) + 1 := by omega
                have HX := HOP2.out
                rw [if_neg (by omega), show 5 + k = 1 + k + 4 by omega] at HX
                by_cases hcap : c = 1 + k + 4
                · have hm0 : m = 0 := by simp at hc; omega
                  subst hm0
                  have hfit : 1 + k + 4 = t.length + 1 := by simp at hc; omega
                  have hcc : c = t.length + 1 := by omega
                  subst hcc
                  exact ropen_tail0 g o B k x t w hB hg (by simpa using hl) HC hx0 HZ hz2 HCUT HGG hfit HX
                · exact ropen_tail g o c B k m x t w hB hg (by simpa using hl) (by simpa using hc) HC hx0 HZ hz2 HCUT HGG (by omega) (by omega) (by simp at hc; omega) (by simp at hc; omega) HX
          · have t0 : ((e : Int) != 0) = true := by rw [bne_iff_ne]; omega
            have hf : openB (x :: t) = (0, [], 0, 3) := by rw [HOP.out, if_neg (by omega), if_neg he2, if_pos (.inl he0)]
            have HF := Lib.hid hf; clear hf
            have HE := Lib.hid he0; have HE2 := Lib.hid he2; clear he0 he2
            go_enter Tryd.func16, Tryd.ntmps16
            go_wp2_with fail
            refine (rget_n _ _ _ B t n k e w HCUT.out htl HGG.out).mono ?_
            rintro e' w' ⟨rfl, rfl⟩
            go_wp2
            refine bodyPost_ret (v := .tuple #[.int .i64 0, .slice none 0 0, .int .i64 0, .int .i64 3]) (by simp [results, Tryd.results16, go_sem]) rfl ⟨_, by rw [HF.out]; rfl, by rw [HF.out]; exact byt_nil _ _, Below.refl _ _⟩
end Go.Proofs.YtmpdjioclalifaaDoor
