/-
  Package frame's readHead reads a kind and a length as the plain function says.
  The bytes are there in memory, at most 1,000,000.
-/
import Derived.Test.YtmpdjioclalifaaDoorFrPlain
import Derived.Test.YtmpdjioclalifaaDoorNuGet
set_option linter.unusedSimpArgs false
set_option linter.unusedVariables false
namespace Go.Proofs.YtmpdjioclalifaaDoor
open Go.RowKit
set_option maxRecDepth 100000

/-- how many bytes the kind and the length at the beginning take, that length, the error -/
def headP (l : List UInt8) : Nat × Nat × Nat :=
  if l.length = 0 then (0, 0, 2)
  else if (l.headD 0).toNat = 0 then (0, 0, 3)
  else if (Nu.get (l.drop 1)).2.2 = 2 ∧ l.length ≤ 2 then (0, 0, 2)
  else if (Nu.get (l.drop 1)).2.2 ≠ 0 ∨ (Nu.get (l.drop 1)).1 < 0 ∨ 4000 < (Nu.get (l.drop 1)).1 then (0, 0, 3)
  else (1 + (Nu.get (l.drop 1)).2.1, (Nu.get (l.drop 1)).1.toNat, 0)
theorem headP_err {l : List UInt8} {a b e : Nat} (h : headP l = (a, b, e)) (he : e ≠ 0) : openB l = (0, [], 0, e) ∧ a = 0 ∧ b = 0 := by
  unfold headP at h
  unfold openB
  by_cases h1 : l.length = 0
  · rw [if_pos h1] at h ⊢; simp only [Prod.mk.injEq] at h; obtain ⟨rfl, rfl, rfl⟩ := h; exact ⟨rfl, rfl, rfl⟩
  rw [if_neg h1] at h ⊢
  by_cases h2 : (l.headD 0).toNat = 0
  · rw [if_pos h2] at h ⊢; simp only [Prod.mk.injEq] at h; obtain ⟨rfl, rfl, rfl⟩ := h; exact ⟨rfl, rfl, rfl⟩
  rw [if_neg h2] at h ⊢
  by_cases h3 : (Nu.get (l.drop 1)).2.2 = 2
  · by_cases h4 : l.length ≤ 2
    · rw [if_pos ⟨h3, h4⟩] at h
      rw [if_neg (by omega), if_pos h3]
      simp only [Prod.mk.injEq] at h; obtain ⟨rfl, rfl, rfl⟩ := h; exact ⟨rfl, rfl, rfl⟩
    · rw [if_neg (fun h => h4 h.2), if_pos (.inl (by omega))] at h
      rw [if_pos ⟨h3, by omega⟩]
      simp only [Prod.mk.injEq] at h; obtain ⟨rfl, rfl, rfl⟩ := h; exact ⟨rfl, rfl, rfl⟩
  · rw [if_neg (fun h => h3 h.1)] at h ⊢
    rw [if_neg h3]
    by_cases h5 : (Nu.get (l.drop 1)).2.2 ≠ 0 ∨ (Nu.get (l.drop 1)).1 < 0 ∨ 4000 < (Nu.get (l.drop 1)).1
    · rw [if_pos h5] at h ⊢; simp only [Prod.mk.injEq] at h; obtain ⟨rfl, rfl, rfl⟩ := h; exact ⟨rfl, rfl, rfl⟩
    · rw [if_neg h5] at h
      simp only [Prod.mk.injEq] at h; exact absurd h.2.2.symm he
theorem headP_ok {l : List UInt8} {a n : Nat} (h : headP l = (a, n, 0)) : ∃ (x : UInt8) (r : List UInt8), l = x :: (Nu.put (n : Int) ++ r) ∧ a = 1 + (Nu.put (n : Int)).length ∧ x.toNat ≠ 0 ∧ n ≤ 4000 := by
  unfold headP at h
  by_cases h1 : l.length = 0
  · rw [if_pos h1] at h; simp at h
  rw [if_neg h1] at h
  by_cases h2 : (l.headD 0).toNat = 0
  · rw [if_pos h2] at h; simp at h
  rw [if_neg h2] at h
  by_cases h3 : (Nu.get (l.drop 1)).2.2 = 2 ∧ l.length ≤ 2
  · rw [if_pos h3] at h; simp at h
  rw [if_neg h3] at h
  by_cases h5 : (Nu.get (l.drop 1)).2.2 ≠ 0 ∨ (Nu.get (l.drop 1)).1 < 0 ∨ 4000 < (Nu.get (l.drop 1)).1
  · rw [if_pos h5] at h; simp at h
  rw [if_neg h5] at h
  simp only [Prod.mk.injEq, and_true] at h
  obtain ⟨rfl, rfl⟩ := h
  obtain ⟨x, t, rfl⟩ : ∃ x t, l = x :: t := by cases l with | nil => simp at h1 | cons x t => exact ⟨x, t, rfl⟩
  simp only [List.drop_succ_cons, List.drop_zero] at h5 ⊢
  obtain ⟨g, hg⟩ : ∃ g, Nu.get t = g := ⟨_, rfl⟩
  obtain ⟨m, k, e⟩ := g
  rw [hg] at h5 ⊢
  simp only at h5 ⊢
  have he : e = 0 := by omega
  subst he
  have hm : ((m.toNat : Nat) : Int) = m := by omega
  rw [hm]
  exact ⟨x, t.drop k, by rw [← Nu.get_split t m k hg], by rw [(Nu.get_canon t m k hg).2.1], h2, by omega⟩
set_option maxHeartbeats 1000000 in
theorem fhead_any (A : Option Addr) (c B : Nat) (l : List UInt8) (w : World) (h : Byt w B (.slice A l.length c) l) (hl : l.length ≤ 1000000) :
    Calls Tryd.prog 21 #[.slice A l.length c] w fun e w' => e = .returned (.tuple #[.int .i64 ((headP l).1 : Nat), .int .i64 ((headP l).2.1 : Nat), .int .i64 ((headP l).2.2 : Nat)]) ∧ w = w' := by
  obtain ⟨A', c', hv, hc, hcell⟩ := id h
  injection hv with e1 _ e2; subst e1; subst e2
  by_cases h0 : l.length = 0
  · have hf : headP l = (0, 0, 2) := by unfold headP; rw [if_pos h0]
    have h00 : (l.length : Int) = 0 := by omega
    rw [hf]
    clear hf h0
    go_enter Tryd.func21, Tryd.ntmps21
    go_wp2
    go_ret3
    exact ⟨rfl, rfl⟩
  · obtain ⟨g, o, rfl, hg, hcs⟩ := hcell (by omega)
    obtain ⟨x, t, rfl⟩ : ∃ x t, l = x :: t := by cases l with | nil => simp at h0 | cons x t => exact ⟨x, t, rfl⟩
    have hx0 : w.cell? ⟨g, o, none⟩ = some (.int .u8 (x.toNat : Int)) := hcs 0 (by simp)
    have hb := x.toNat_lt
    by_cases hz : x.toNat = 0
    · have hf : headP (x :: t) = (0, 0, 3) := by unfold headP; rw [if_neg (by simp), if_pos (show ((x :: t).headD 0).toNat = 0 from hz)]
      have hz2 : ((x.toNat : Int) == 0) = true := by rw [hz]; rfl
      rw [hf]
      clear hf hz
      go_enter Tryd.func21, Tryd.ntmps21
      go_wp2
      go_ret3
      exact ⟨rfl, rfl⟩
    · have hz2 : ((x.toNat : Int) == 0) = false := by rw [beq_eq_false_iff_ne]; omega
      obtain ⟨gg, hgg⟩ : ∃ gg, Nu.get t = gg := ⟨_, rfl⟩
      obtain ⟨n, k, e⟩ := gg
      have hop : headP (x :: t) = if e = 2 ∧ t.length + 1 ≤ 2 then (0, 0, 2) else if e ≠ 0 ∨ n < 0 ∨ 4000 < n then (0, 0, 3) else (1 + k, n.toNat, 0) := by
        unfold headP
        rw [if_neg (by simp), if_neg (show ¬ ((x :: t).headD 0).toNat = 0 from hz)]
        simp only [List.length_cons, List.drop_succ_cons, List.drop_zero, hgg]
      clear hz
      by_cases hc1 : c = 1
      · have ht : t = [] := by cases t with | nil => rfl | cons y s => simp at hc; omega
        subst ht
        have hn0 : Nu.get [] = (0, 0, 2) := rfl
        rw [hn0] at hgg
        simp only [Prod.mk.injEq] at hgg
        obtain ⟨rfl, rfl, rfl⟩ := hgg
        rw [if_pos ⟨rfl, by simp⟩] at hop
        rw [hop]
        subst hc1
        have hby : Byt w B (.slice (some ⟨g, o, none⟩) 0 0) [] := ⟨_, _, rfl, Nat.le_refl _, fun h => absurd h (by simp)⟩
        have HBY := Lib.hid hby
        clear hcs hcell h hby hop
        go_enter Tryd.func21, Tryd.ntmps21
        go_wp2_with fail
        refine (nget_any _ _ B [] w HBY.out (by simp)).mono ?_
        rintro e' w' ⟨rfl, rfl⟩
        go_wp2
        go_ret3
        exact ⟨rfl, rfl⟩
      · have hcut := h.cut (k := 1) (by simp)
        rw [if_neg hc1, add_lit] at hcut
        simp only [List.length_cons, Nat.add_sub_cancel, List.drop_succ_cons, List.drop_zero] at hcut
        have HCUT := Lib.hid hcut; clear hcut
        clear hcs hcell h
        have hget : ∀ (w : World), Byt w B (.slice (some ⟨g, o + 1, none⟩) t.length (c - 1)) t → Calls Tryd.prog 30 #[.slice (some ⟨g, o + 1, none⟩) t.length (c - 1)] w fun x w' => x = .returned (.tuple #[.int .i64 n, .int .i64 k, .int .i64 e]) ∧ w = w' := fun w hw => by
          have := nget_any _ _ B t w hw (by simp at hl; omega)
          rw [hgg] at this; exact this
        have HGET := Lib.hid hget; clear hget
        have hlc : (t.length : Int) + 1 ≤ (c : Int) := by simp at hc; omega
        have htl : t.length ≤ 1000000 := by simp at hl; omega
        have hkt := Nu.get_len t
        rw [hgg] at hkt
        simp only at hkt
        have he3 := Nu.get_err t
        rw [hgg] at he3
        simp only at he3
        have fin : ∀ (a b c : Nat), headP (x :: t) = (a, b, c) → (.int .i64 ((headP (x :: t)).1 : Nat) : Value) = .int .i64 (a : Int) ∧ (.int .i64 ((headP (x :: t)).2.1 : Nat) : Value) = .int .i64 (b : Int) ∧ (.int .i64 ((headP (x :: t)).2.2 : Nat) : Value) = .int .i64 (c : Int) := fun a b c h => by rw [h]; exact ⟨rfl, rfl, rfl⟩
        have HFIN := Lib.hid fin; clear fin
        by_cases he2 : e = 2
        · subst he2
          clear hgg he3
          by_cases hl2 : t.length + 1 ≤ 2
          · rw [if_pos ⟨rfl, hl2⟩] at hop
            have hl3 : (t.length : Int) + 1 ≤ 2 := by omega
            rw [hop]; clear hop
            go_enter Tryd.func21, Tryd.ntmps21
            go_wp2_with fail
            refine (HGET.out w HCUT.out).mono ?_
            rintro e' w' ⟨rfl, rfl⟩
            go_wp2
            go_ret3
            exact ⟨rfl, rfl⟩
          · rw [if_neg (fun h => hl2 h.2), if_pos (.inl (by omega))] at hop
            have hl3 : 2 < (t.length : Int) + 1 := by omega
            rw [hop]; clear hop
            go_enter Tryd.func21, Tryd.ntmps21
            go_wp2_with fail
            refine (HGET.out w HCUT.out).mono ?_
            rintro e' w' ⟨rfl, rfl⟩
            go_wp2
            go_ret3
            exact ⟨rfl, rfl⟩
        · rw [if_neg (fun h => he2 h.1)] at hop
          by_cases he0 : e = 0
          · subst he0
            obtain ⟨hn0, hn1⟩ := (Nu.get_canon t n k hgg).2.2
            clear hgg he3 he2
            by_cases hn : n < 0 ∨ 4000 < n
            · rw [if_pos (.inr hn)] at hop
              rw [hop]; clear hop
              have hcs : n < 0 ∨ (0 ≤ n ∧ 4000 < n) := by omega
              clear hn
              rcases hcs with h1 | ⟨h1, h2⟩
              all_goals
                go_enter Tryd.func21, Tryd.ntmps21
                go_wp2_with fail
                refine (HGET.out w HCUT.out).mono ?_
                rintro e' w' ⟨rfl, rfl⟩
                go_wp2
                go_ret3
                exact ⟨rfl, rfl⟩
            · rw [if_neg (by omega)] at hop
              rw [hop]; clear hop
              have h1 : 0 ≤ n := by omega
              have h2 : n ≤ 4000 := by omega
              obtain ⟨m, rfl⟩ : ∃ m : Nat, n = (m : Int) := ⟨n.toNat, by omega⟩
              clear hn hn0 hn1
              go_enter Tryd.func21, Tryd.ntmps21
              go_wp2_with fail
              refine (HGET.out w HCUT.out).mono ?_
              rintro e' w' ⟨rfl, rfl⟩
              go_wp2
              go_ret3
              exact ⟨by simp, rfl⟩
          · have he1 : e = 1 := by omega
            subst he1
            rw [if_pos (.inl (by omega))] at hop
            rw [hop]; clear hop hgg
            go_enter Tryd.func21, Tryd.ntmps21
            go_wp2_with fail
            refine (HGET.out w HCUT.out).mono ?_
            rintro e' w' ⟨rfl, rfl⟩
            go_wp2
            go_ret3
            exact ⟨rfl, rfl⟩
end Go.Proofs.YtmpdjioclalifaaDoor
