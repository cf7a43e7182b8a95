/-
  Contracts of the program's functions, of the reference's, and plain lemmas on what they answer (part 4 of 4).
  Each lemma names its conditions.
-/
import Derived.Test.YtoekiencnbgmhaaCun3
import Derived.Test.YtoekiencnbgmhaaCun2
import Derived.Test.YtoekiencnbgmhaaCun1
/-
  The reference's Put.
  The conditions: those of its log; rows of at most 1,000 entries.
-/
namespace Go.Proofs.Ytoekiencnbgmhaa
open Go.RowKit Go.Deep
set_option maxRecDepth 100000

theorem put13_far {r : Lg} {E : List Ent} (h : 0 < E.length) (hc : lst13 r + 1 < E[0].ix) : put13 r E = (r, 0, false) := by
  cases E with
  | nil => cases h
  | cons e t => unfold put13; simp only; rw [if_pos (.inl hc)]
theorem put13_bad {r : Lg} {E : List Ent} (h : 0 < E.length) (hf : flw13 E[0].ix E[0].et (E.drop 1) = false) : put13 r E = (r, 0, false) := by
  cases E with
  | nil => cases h
  | cons e t => unfold put13; simp only; rw [if_pos (.inr hf)]
theorem put13_on {r : Lg} {E : List Ent} (h : 0 < E.length) (hc : ¬ lst13 r + 1 < E[0].ix) (hf : flw13 E[0].ix E[0].et (E.drop 1) = true) : put13 r E = match rst13 r E with
    | [] => (r, 0, true)
    | e :: u => if e.et < (trm13 r (e.ix - 1)).1 ∨ 200 < (e.ix - 1 - r.s.ix).toNat + (e :: u).length then (r, 0, false) else (⟨r.s, r.L.take (e.ix - 1 - r.s.ix).toNat ++ e :: u⟩, e.ix, true) := by
  cases E with
  | nil => cases h
  | cons e t =>
    show (if lst13 r + 1 < e.ix ∨ flw13 e.ix e.et t = false then _ else _) = _
    rw [if_neg (by
      rintro (h | h)
      · exact hc h
      · rw [show flw13 e.ix e.et t = true from hf] at h; cases h)]
    cases rst13 r (e :: t) <;> rfl
theorem put13_stop {r : Lg} {E u : List Ent} {e : Ent} (h : 0 < E.length) (hc : ¬ lst13 r + 1 < E[0].ix) (hf : flw13 E[0].ix E[0].et (E.drop 1) = true) (hr : rst13 r E = e :: u) (hb : e.et < (trm13 r (e.ix - 1)).1 ∨ 200 < (e.ix - 1 - r.s.ix).toNat + (e :: u).length) : put13 r E = (r, 0, false) := by
  rw [put13_on h hc hf, hr]
  exact if_pos hb
theorem put13_go {r : Lg} {E u : List Ent} {e : Ent} (h : 0 < E.length) (hc : ¬ lst13 r + 1 < E[0].ix) (hf : flw13 E[0].ix E[0].et (E.drop 1) = true) (hr : rst13 r E = e :: u) (hb : ¬ (e.et < (trm13 r (e.ix - 1)).1 ∨ 200 < (e.ix - 1 - r.s.ix).toNat + (e :: u).length)) : put13 r E = (⟨r.s, r.L.take (e.ix - 1 - r.s.ix).toNat ++ e :: u⟩, e.ix, true) := by
  rw [put13_on h hc hf, hr]
  exact if_neg hb
theorem lck13_no1 {r : Lg} {e : Ent} (h : ¬ r.s.ix < e.ix) : lck13 r e = false := by unfold lck13; rw [decide_eq_false h]; rfl
theorem lck13_no2 {r : Lg} {e : Ent} (h : fts13 r e.ix e.et = true) : lck13 r e = false := by unfold lck13; rw [h]; simp
theorem lck13_yes {r : Lg} {e : Ent} (h : r.s.ix < e.ix) (h2 : fts13 r e.ix e.et = false) : lck13 r e = true := by unfold lck13; rw [decide_eq_true h, h2]; rfl
theorem rst13_step {r : Lg} {E : List Ent} {j : Nat} (h : j < E.length) {e : Ent} (he : E[j] = e) (hl : lck13 r e = false) : rst13 r (E.drop j) = rst13 r (E.drop (j + 1)) := by
  rw [List.drop_eq_getElem_cons h, he]
  unfold rst13
  rw [List.dropWhile_cons, hl]
  rfl
theorem rst13_here {r : Lg} {E : List Ent} {j : Nat} (h : j < E.length) {e : Ent} (he : E[j] = e) (hl : lck13 r e = true) : rst13 r (E.drop j) = e :: E.drop (j + 1) := by
  rw [List.drop_eq_getElem_cons h, he]
  unfold rst13
  rw [List.dropWhile_cons, hl]
  rfl
theorem flw13_at? {E : List Ent} {k : Nat} (h : k + 1 < E.length) (i t : Int) {y : Ent} (hy : E[k + 1]? = some y) : flw13 i t (E.drop (k + 1)) = ((y.ix == i + 1 && decide (t ≤ y.et)) && flw13 y.ix y.et (E.drop (k + 1 + 1))) := by
  rw [List.getElem?_eq_getElem h] at hy
  injection hy with hy
  subst hy
  exact flw13_drop h i t
set_option maxHeartbeats 1000000 in
theorem rput_x {N M : Nat → Prop} {w : World} {ix st : Int} {cf dt : ByteArray} {L : List Ent} {A : Option Addr} {n c : Nat} (h : RL N w ix st cf dt L A n c) {B : Option Addr} {m d : Nat} {E : List Ent} (hE : Ens M w (.slice B m d) E) (hl : E.length ≤ 1000) (hd : ∀ e ∈ E, -9223372036854775808 ≤ e.ix ∧ e.ix ≤ 9223372036854775807) (r' : Lg) (at' : Int) (b : Bool) (hp : put13 ⟨⟨ix, st, cf, dt⟩, L⟩ E = (r', at', b)) :
    Calls Try.prog 13 #[.agg #[.int .i64 ix, .int .i64 st, .string cf, .string dt, .slice A n c], .slice B m d] w fun e w' => ∃ v, e = .returned (.tuple #[lgv r' v, .int .i64 at', .bool b]) ∧ ((v = .slice A n c ∧ r' = ⟨⟨ix, st, cf, dt⟩, L⟩) ∨ OwnEn w.heap.size v r'.L w') ∧ Below w.heap.size w w' := by
  have hmE : m = E.length := hE.len.1
  have HL := Lib.hid fun W => rlast_x h W
  have HF := Lib.hid fun W => rfirst_x h W
  have HT := Lib.hid fun W (hb : Below w.heap.size w W) i t fb hfb => rfits_x (h.below hb) i t fb hfb
  have HTM := Lib.hid fun W (hb : Below w.heap.size w W) i t fb htb => rterm_x (h.below hb) i t fb htb
  obtain ⟨h0, h1, h2, h3⟩ := h.bds
  have HE := Lib.hid hE
  have HR := Lib.hid h.row
  have HN := Lib.hid h.len
  have HM := Lib.hid hmE
  have HP := Lib.hid hp
  have HD := Lib.hid hd
  have hm4 : m ≤ 1000 := by omega
  obtain ⟨b0, hb0⟩ : ∃ b0, w.heap.size = b0 := ⟨_, rfl⟩
  obtain ⟨Wa, hWa⟩ : ∃ Wa, w.alloc (.cells #[.int .i64 ix, .int .i64 st, .string cf, .string dt, .slice A n c] 32) = Wa := ⟨_, rfl⟩
  obtain ⟨W0, hW0⟩ : ∃ W0, Wa.alloc (.cells #[.int .i64 0, .int .i64 0, .string ⟨#[]⟩, .string ⟨#[]⟩, .slice none 0 0] 32) = W0 := ⟨_, rfl⟩
  obtain ⟨W1, hW1⟩ : ∃ W1, (w.alloc (.cells #[.int .i64 ix, .int .i64 st, .string cf, .string dt, .slice A n c] 32)).alloc (.cells #[.int .i64 0, .int .i64 0, .string ⟨#[]⟩, .string ⟨#[]⟩, .slice none 0 0] 32) = W1 := ⟨_, rfl⟩
  have hW10 : W0 = W1 := by rw [← hW1, ← hW0, hWa]
  have za : Wa.heap.size = b0 + 1 := by rw [← hWa, World.size_alloc, hb0]
  have ba : Below w.heap.size w Wa := by rw [← hWa]; exact below_new _ _
  have bc : Below Wa.heap.size Wa W0 := by rw [← hW0]; exact below_new _ _
  have hS : Rt W0 b0 32 [.int .i64 ix, .int .i64 st, .string cf, .string dt, .slice A n c] := Rt.below (show Rt Wa b0 _ _ by rw [← hWa]; exact Rt.new_at w b0 _ _ hb0) bc
  have hZ : Rt W0 (b0 + 1) 32 [.int .i64 0, .int .i64 0, .string ⟨#[]⟩, .string ⟨#[]⟩, .slice none 0 0] := by rw [← hW0]; exact Rt.new_at Wa (b0 + 1) _ _ za
  have hB : Below w.heap.size w W0 := ba.trans (bc.mono (by omega))
  clear hWa hW0 za ba bc h hE hmE hp hd
  subst hW10
  by_cases c0 : m = 0
  · go_enter Try.func13, Try.ntmps13
    have hnil : E = [] := List.length_eq_zero_iff.1 (by rw [← HM.out]; exact c0)
    have HPE := Lib.hid (HP.out.symm.trans (show put13 ⟨⟨ix, st, cf, dt⟩, L⟩ E = (⟨⟨ix, st, cf, dt⟩, L⟩, 0, true) from by
      rw [hnil]; rfl))
    have d0 := hS.cell (j := 0) rfl
    have d1 := hS.cell (j := 1) rfl
    have d2 := hS.cell (j := 2) rfl
    have d3 := hS.cell (j := 3) rfl
    have d4 := hS.cell (j := 4) rfl
    have z0 := hZ.cell (j := 0) rfl
    have z1 := hZ.cell (j := 1) rfl
    have z2 := hZ.cell (j := 2) rfl
    have z3 := hZ.cell (j := 3) rfl
    have z4 := hZ.cell (j := 4) rfl
    have f0 := hZ.frz 0
    have f1 := hZ.frz 1
    have f2 := hZ.frz 2
    have f3 := hZ.frz 3
    have f4 := hZ.frz 4
    have hB5 := (((((hB.setCell (p := ⟨b0 + 1, 0, none⟩) (by show w.heap.size ≤ b0 + 1; omega) (.int .i64 ix)).setCell (p := ⟨b0 + 1, 1, none⟩) (by show w.heap.size ≤ b0 + 1; omega) (.int .i64 st)).setCell (p := ⟨b0 + 1, 2, none⟩) (by show w.heap.size ≤ b0 + 1; omega) (.string cf)).setCell (p := ⟨b0 + 1, 3, none⟩) (by show w.heap.size ≤ b0 + 1; omega) (.string dt)).setCell (p := ⟨b0 + 1, 4, none⟩) (by show w.heap.size ≤ b0 + 1; omega) (.slice A n c))
    have hZ5 := (((((hZ.set 0 (.int .i64 ix)).set 1 (.int .i64 st)).set 2 (.string cf)).set 3 (.string dt)).set 4 (.slice A n c))
    obtain ⟨W5, hW5⟩ : ∃ W5, (((((W0.setCell ⟨b0 + 1, 0, none⟩ (.int .i64 ix)).setCell ⟨b0 + 1, 1, none⟩ (.int .i64 st)).setCell ⟨b0 + 1, 2, none⟩ (.string cf)).setCell ⟨b0 + 1, 3, none⟩ (.string dt)).setCell ⟨b0 + 1, 4, none⟩ (.slice A n c)) = W5 := ⟨_, rfl⟩
    rw [hW5] at hB5 hZ5
    have g0 := hZ5.cell (j := 0) rfl
    have g1 := hZ5.cell (j := 1) rfl
    have g2 := hZ5.cell (j := 2) rfl
    have g3 := hZ5.cell (j := 3) rfl
    have g4 := hZ5.cell (j := 4) rfl
    have HW5 := Lib.hid hW5
    clear hZ hZ5 hW5
    go_wp2
    rw [HW5.out]
    obtain ⟨q1, q2, q3⟩ : r' = ⟨⟨ix, st, cf, dt⟩, L⟩ ∧ at' = 0 ∧ b = true := by
      have h9 := HPE.out
      injection h9 with a1 a2
      injection a2 with a2 a3
      exact ⟨a1, a2, a3⟩
    refine bodyPost_ret (v := .tuple #[.agg #[.int .i64 ix, .int .i64 st, .string cf, .string dt, .slice A n c], .int .i64 0, .bool true]) ?_ rfl ?_
    · simp [results, Try.results13, go_sem, g0, g1, g2, g3, g4]
    · rw [q1, q2, q3]
      refine ⟨.slice A n c, rfl, .inl ⟨rfl, rfl⟩, ?_⟩
      first | exact hB5 | (rw [hb0]; exact hB5) | (rw [← hb0]; exact hB5)
  · have hmi : ¬ (m : Int) = 0 := by omega
    have hmp : (0 : Int) < (m : Int) := by omega
    have hE0 : 0 < E.length := by rw [← HM.out]; omega
    obtain ⟨⟨ex, ey, ez, ed⟩, hex⟩ : ∃ x, E[0] = x := ⟨_, rfl⟩
    have hexb := HD.out _ (List.getElem_mem hE0)
    rw [hex] at hexb
    simp only at hexb
    obtain ⟨g, o, rfl, hg, e0, e1, e2, e3⟩ := HE.out.four 0 hE0 hex
    replace e0 : W0.cell? ⟨g, o, none⟩ = some (.int .i64 ex) := (hB.cell (p := ⟨g, o, none⟩) hg).trans (by simpa using e0)
    have hmb : ((m : Int) == 0) = false := by simpa using c0
    have hlst : lst13 ⟨⟨ix, st, cf, dt⟩, L⟩ = ix + (n : Int) := by unfold lst13; simp only; rw [HN.out]
    have HLS := Lib.hid hlst
    have hw1 : IntKind.i64.wrap (ix + (n : Int) + 1) = ix + (n : Int) + 1 := by rw [IntKind.wrap_i64]; omega
    have HEX := Lib.hid hex
    clear hlst hex e1 e2 e3
    by_cases hgt : ix + (n : Int) + 1 < ex
    · go_enter Try.func13, Try.ntmps13
      go_wp2_with fail
      replace e0 : W0.drew.cell? ⟨g, o, none⟩ = some (.int .i64 ex) := e0
      replace hS : Rt W0.drew b0 32 [.int .i64 ix, .int .i64 st, .string cf, .string dt, .slice A n c] := hS
      replace hZ : Rt W0.drew (b0 + 1) 32 [.int .i64 0, .int .i64 0, .string ⟨#[]⟩, .string ⟨#[]⟩, .slice none 0 0] := hZ
      replace hB := hB.drew
      refine wp_region_noPanic ?_
      refine wp_region_held_drew (S := fun W => Rt W b0 32 [.int .i64 ix, .int .i64 st, .string cf, .string dt, .slice A n c] ∧ W.cell? ⟨g, o, none⟩ = some (.int .i64 ex)) (by kernel_rfl) ?_ (fun hHeld => ?_)
      · exact ⟨hS, e0⟩
      generalize W0.drew = kz at *
      refine tkH 0 (.slice (some ⟨g, o, none⟩) m d) rfl (fun w hSw => ?_) ?_
      · (try dsimp only at hSw)
        obtain ⟨hSx, e9⟩ := hSw
        have q0 := Rt.cell (j := 0) hSx rfl
        have q1 := Rt.cell (j := 1) hSx rfl
        have q2 := Rt.cell (j := 2) hSx rfl
        have q3 := Rt.cell (j := 3) hSx rfl
        have q4 := Rt.cell (j := 4) hSx rfl
        go_simp
      try simp only [Act.put, List.setIfInBounds_toArray, List.set_cons_zero, List.set_cons_succ]
      refine tkH 1 (.pointer (some ⟨g, o, none⟩)) rfl (fun w hSw => ?_) ?_
      · (try dsimp only at hSw)
        obtain ⟨hSx, e9⟩ := hSw
        have q0 := Rt.cell (j := 0) hSx rfl
        have q1 := Rt.cell (j := 1) hSx rfl
        have q2 := Rt.cell (j := 2) hSx rfl
        have q3 := Rt.cell (j := 3) hSx rfl
        have q4 := Rt.cell (j := 4) hSx rfl
        go_simp
      try simp only [Act.put, List.setIfInBounds_toArray, List.set_cons_zero, List.set_cons_succ]
      refine tkH 2 (.pointer (some ⟨g, o, none⟩)) rfl (fun w hSw => ?_) ?_
      · (try dsimp only at hSw)
        obtain ⟨hSx, e9⟩ := hSw
        have q0 := Rt.cell (j := 0) hSx rfl
        have q1 := Rt.cell (j := 1) hSx rfl
        have q2 := Rt.cell (j := 2) hSx rfl
        have q3 := Rt.cell (j := 3) hSx rfl
        have q4 := Rt.cell (j := 4) hSx rfl
        go_simp
      try simp only [Act.put, List.setIfInBounds_toArray, List.set_cons_zero, List.set_cons_succ]
      refine tkH 3 (.int .i64 ex) rfl (fun w hSw => ?_) ?_
      · (try dsimp only at hSw)
        obtain ⟨hSx, e9⟩ := hSw
        have q0 := Rt.cell (j := 0) hSx rfl
        have q1 := Rt.cell (j := 1) hSx rfl
        have q2 := Rt.cell (j := 2) hSx rfl
        have q3 := Rt.cell (j := 3) hSx rfl
        have q4 := Rt.cell (j := 4) hSx rfl
        go_simp
      try simp only [Act.put, List.setIfInBounds_toArray, List.set_cons_zero, List.set_cons_succ]
      refine tkH 4 (.agg #[.int .i64 ix, .int .i64 st, .string cf, .string dt, .slice A n c]) rfl (fun w hSw => ?_) ?_
      · (try dsimp only at hSw)
        obtain ⟨hSx, e9⟩ := hSw
        have q0 := Rt.cell (j := 0) hSx rfl
        have q1 := Rt.cell (j := 1) hSx rfl
        have q2 := Rt.cell (j := 2) hSx rfl
        have q3 := Rt.cell (j := 3) hSx rfl
        have q4 := Rt.cell (j := 4) hSx rfl
        go_simp
      try simp only [Act.put, List.setIfInBounds_toArray, List.set_cons_zero, List.set_cons_succ]
      refine stH 5 rfl (fun K hK => ?_)
      go_simp
      go_at_call 48
      refine (HL.out _).mono ?_
      rintro e k9 ⟨rfl, h⟩
      have hB9 := hB
      replace hS := hS.below h
      replace hZ := hZ.below h
      replace hB := hB.trans (h.mono hB.size)
      replace e0 := (h.cell (p := ⟨g, o, none⟩) (Nat.lt_of_lt_of_le hg (by first | exact hB9.size | (rw [hb0]; exact hB9.size)))).trans e0
      clear h
      refine hK.out _ _ ?_ (fun hHeld => ?_)
      · exact ⟨hS, e0⟩
      clear hK K
      try simp only [Act.put, List.setIfInBounds_toArray, List.set_cons_zero, List.set_cons_succ]
      refine tkH 6 (.int .i64 (ix + (n : Int) + 1)) rfl (fun w hSw => ?_) ?_
      · (try dsimp only at hSw)
        obtain ⟨hSx, e9⟩ := hSw
        have q0 := Rt.cell (j := 0) hSx rfl
        have q1 := Rt.cell (j := 1) hSx rfl
        have q2 := Rt.cell (j := 2) hSx rfl
        have q3 := Rt.cell (j := 3) hSx rfl
        have q4 := Rt.cell (j := 4) hSx rfl
        go_simp
      try simp only [Act.put, List.setIfInBounds_toArray, List.set_cons_zero, List.set_cons_succ]
      refine tkH 7 (.bool true) rfl (fun w hSw => ?_) ?_
      · (try dsimp only at hSw)
        obtain ⟨hSx, e9⟩ := hSw
        have q0 := Rt.cell (j := 0) hSx rfl
        have q1 := Rt.cell (j := 1) hSx rfl
        have q2 := Rt.cell (j := 2) hSx rfl
        have q3 := Rt.cell (j := 3) hSx rfl
        have q4 := Rt.cell (j := 4) hSx rfl
        go_simp
      try simp only [Act.put, List.setIfInBounds_toArray, List.set_cons_zero, List.set_cons_succ]
      refine wpAnyH_done (by kernel_rfl) ?_ _
      refine NoPanic.normal ?_
      clear e0
      have HPE := Lib.hid (HP.out.symm.trans (show put13 ⟨⟨ix, st, cf, dt⟩, L⟩ E = (⟨⟨ix, st, cf, dt⟩, L⟩, 0, false) from by
        exact put13_far hE0 (by rw [HLS.out, HEX.out]; exact hgt)))
      have d0 := hS.cell (j := 0) rfl
      have d1 := hS.cell (j := 1) rfl
      have d2 := hS.cell (j := 2) rfl
      have d3 := hS.cell (j := 3) rfl
      have d4 := hS.cell (j := 4) rfl
      have z0 := hZ.cell (j := 0) rfl
      have z1 := hZ.cell (j := 1) rfl
      have z2 := hZ.cell (j := 2) rfl
      have z3 := hZ.cell (j := 3) rfl
      have z4 := hZ.cell (j := 4) rfl
      have f0 := hZ.frz 0
      have f1 := hZ.frz 1
      have f2 := hZ.frz 2
      have f3 := hZ.frz 3
      have f4 := hZ.frz 4
      have hB5 := (((((hB.setCell (p := ⟨b0 + 1, 0, none⟩) (by show w.heap.size ≤ b0 + 1; omega) (.int .i64 ix)).setCell (p := ⟨b0 + 1, 1, none⟩) (by show w.heap.size ≤ b0 + 1; omega) (.int .i64 st)).setCell (p := ⟨b0 + 1, 2, none⟩) (by show w.heap.size ≤ b0 + 1; omega) (.string cf)).setCell (p := ⟨b0 + 1, 3, none⟩) (by show w.heap.size ≤ b0 + 1; omega) (.string dt)).setCell (p := ⟨b0 + 1, 4, none⟩) (by show w.heap.size ≤ b0 + 1; omega) (.slice A n c))
      have hZ5 := (((((hZ.set 0 (.int .i64 ix)).set 1 (.int .i64 st)).set 2 (.string cf)).set 3 (.string dt)).set 4 (.slice A n c))
      obtain ⟨W5, hW5⟩ : ∃ W5, (((((k9.setCell ⟨b0 + 1, 0, none⟩ (.int .i64 ix)).setCell ⟨b0 + 1, 1, none⟩ (.int .i64 st)).setCell ⟨b0 + 1, 2, none⟩ (.string cf)).setCell ⟨b0 + 1, 3, none⟩ (.string dt)).setCell ⟨b0 + 1, 4, none⟩ (.slice A n c)) = W5 := ⟨_, rfl⟩
      rw [hW5] at hB5 hZ5
      have g0 := hZ5.cell (j := 0) rfl
      have g1 := hZ5.cell (j := 1) rfl
      have g2 := hZ5.cell (j := 2) rfl
      have g3 := hZ5.cell (j := 3) rfl
      have g4 := hZ5.cell (j := 4) rfl
      have HW5 := Lib.hid hW5
      clear hZ hZ5 hW5
      go_wp2
      rw [HW5.out]
      obtain ⟨q1, q2, q3⟩ : r' = ⟨⟨ix, st, cf, dt⟩, L⟩ ∧ at' = 0 ∧ b = false := by
        have h9 := HPE.out
        injection h9 with a1 a2
        injection a2 with a2 a3
        exact ⟨a1, a2, a3⟩
      refine bodyPost_ret (v := .tuple #[.agg #[.int .i64 ix, .int .i64 st, .string cf, .string dt, .slice A n c], .int .i64 0, .bool false]) ?_ rfl ?_
      · simp [results, Try.results13, go_sem, g0, g1, g2, g3, g4]
      · rw [q1, q2, q3]
        refine ⟨.slice A n c, rfl, .inl ⟨rfl, rfl⟩, ?_⟩
        first | exact hB5 | (rw [hb0]; exact hB5) | (rw [← hb0]; exact hB5)
    · go_enter Try.func13, Try.ntmps13
      go_wp2_with fail
      replace e0 : W0.drew.cell? ⟨g, o, none⟩ = some (.int .i64 ex) := e0
      replace hS : Rt W0.drew b0 32 [.int .i64 ix, .int .i64 st, .string cf, .string dt, .slice A n c] := hS
      replace hZ : Rt W0.drew (b0 + 1) 32 [.int .i64 0, .int .i64 0, .string ⟨#[]⟩, .string ⟨#[]⟩, .slice none 0 0] := hZ
      replace hB := hB.drew
      refine wp_region_noPanic ?_
      refine wp_region_held_drew (S := fun W => Rt W b0 32 [.int .i64 ix, .int .i64 st, .string cf, .string dt, .slice A n c] ∧ W.cell? ⟨g, o, none⟩ = some (.int .i64 ex)) (by kernel_rfl) ?_ (fun hHeld => ?_)
      · exact ⟨hS, e0⟩
      generalize W0.drew = kz at *
      refine tkH 0 (.slice (some ⟨g, o, none⟩) m d) rfl (fun w hSw => ?_) ?_
      · (try dsimp only at hSw)
        obtain ⟨hSx, e9⟩ := hSw
        have q0 := Rt.cell (j := 0) hSx rfl
        have q1 := Rt.cell (j := 1) hSx rfl
        have q2 := Rt.cell (j := 2) hSx rfl
        have q3 := Rt.cell (j := 3) hSx rfl
        have q4 := Rt.cell (j := 4) hSx rfl
        go_simp
      try simp only [Act.put, List.setIfInBounds_toArray, List.set_cons_zero, List.set_cons_succ]
      refine tkH 1 (.pointer (some ⟨g, o, none⟩)) rfl (fun w hSw => ?_) ?_
      · (try dsimp only at hSw)
        obtain ⟨hSx, e9⟩ := hSw
        have q0 := Rt.cell (j := 0) hSx rfl
        have q1 := Rt.cell (j := 1) hSx rfl
        have q2 := Rt.cell (j := 2) hSx rfl
        have q3 := Rt.cell (j := 3) hSx rfl
        have q4 := Rt.cell (j := 4) hSx rfl
        go_simp
      try simp only [Act.put, List.setIfInBounds_toArray, List.set_cons_zero, List.set_cons_succ]
      refine tkH 2 (.pointer (some ⟨g, o, none⟩)) rfl (fun w hSw => ?_) ?_
      · (try dsimp only at hSw)
        obtain ⟨hSx, e9⟩ := hSw
        have q0 := Rt.cell (j := 0) hSx rfl
        have q1 := Rt.cell (j := 1) hSx rfl
        have q2 := Rt.cell (j := 2) hSx rfl
        have q3 := Rt.cell (j := 3) hSx rfl
        have q4 := Rt.cell (j := 4) hSx rfl
        go_simp
      try simp only [Act.put, List.setIfInBounds_toArray, List.set_cons_zero, List.set_cons_succ]
      refine tkH 3 (.int .i64 ex) rfl (fun w hSw => ?_) ?_
      · (try dsimp only at hSw)
        obtain ⟨hSx, e9⟩ := hSw
        have q0 := Rt.cell (j := 0) hSx rfl
        have q1 := Rt.cell (j := 1) hSx rfl
        have q2 := Rt.cell (j := 2) hSx rfl
        have q3 := Rt.cell (j := 3) hSx rfl
        have q4 := Rt.cell (j := 4) hSx rfl
        go_simp
      try simp only [Act.put, List.setIfInBounds_toArray, List.set_cons_zero, List.set_cons_succ]
      refine tkH 4 (.agg #[.int .i64 ix, .int .i64 st, .string cf, .string dt, .slice A n c]) rfl (fun w hSw => ?_) ?_
      · (try dsimp only at hSw)
        obtain ⟨hSx, e9⟩ := hSw
        have q0 := Rt.cell (j := 0) hSx rfl
        have q1 := Rt.cell (j := 1) hSx rfl
        have q2 := Rt.cell (j := 2) hSx rfl
        have q3 := Rt.cell (j := 3) hSx rfl
        have q4 := Rt.cell (j := 4) hSx rfl
        go_simp
      try simp only [Act.put, List.setIfInBounds_toArray, List.set_cons_zero, List.set_cons_succ]
      refine stH 5 rfl (fun K hK => ?_)
      go_simp
      go_at_call 48
      refine (HL.out _).mono ?_
      rintro e k9 ⟨rfl, h⟩
      have hB9 := hB
      replace hS := hS.below h
      replace hZ := hZ.below h
      replace hB := hB.trans (h.mono hB.size)
      replace e0 := (h.cell (p := ⟨g, o, none⟩) (Nat.lt_of_lt_of_le hg (by first | exact hB9.size | (rw [hb0]; exact hB9.size)))).trans e0
      clear h
      refine hK.out _ _ ?_ (fun hHeld => ?_)
      · exact ⟨hS, e0⟩
      clear hK K
      try simp only [Act.put, List.setIfInBounds_toArray, List.set_cons_zero, List.set_cons_succ]
      refine tkH 6 (.int .i64 (ix + (n : Int) + 1)) rfl (fun w hSw => ?_) ?_
      · (try dsimp only at hSw)
        obtain ⟨hSx, e9⟩ := hSw
        have q0 := Rt.cell (j := 0) hSx rfl
        have q1 := Rt.cell (j := 1) hSx rfl
        have q2 := Rt.cell (j := 2) hSx rfl
        have q3 := Rt.cell (j := 3) hSx rfl
        have q4 := Rt.cell (j := 4) hSx rfl
        go_simp
      try simp only [Act.put, List.setIfInBounds_toArray, List.set_cons_zero, List.set_cons_succ]
      refine tkH 7 (.bool false) rfl (fun w hSw => ?_) ?_
      · (try dsimp only at hSw)
        obtain ⟨hSx, e9⟩ := hSw
        have q0 := Rt.cell (j := 0) hSx rfl
        have q1 := Rt.cell (j := 1) hSx rfl
        have q2 := Rt.cell (j := 2) hSx rfl
        have q3 := Rt.cell (j := 3) hSx rfl
        have q4 := Rt.cell (j := 4) hSx rfl
        go_simp
      try simp only [Act.put, List.setIfInBounds_toArray, List.set_cons_zero, List.set_cons_succ]
      refine wpAnyH_done (by kernel_rfl) ?_ _
      refine NoPanic.normal ?_
      clear e0
      obtain ⟨fb, hfb⟩ : ∃ fb, flw13 E[0].ix E[0].et (E.drop 1) = fb := ⟨_, rfl⟩
      have HFB := Lib.hid hfb
      clear hfb
      go_wp2_with fail
      go_loopw [7] (fun i wr => ∃ (k : Nat) (x : Ent), E[k]? = some x ∧ i = .int .i64 ((k + 1 : Nat) : Int) ∧ k < m ∧ flw13 x.ix x.et (E.drop (k + 1)) = fb ∧ x.ix ≤ ix + (n : Int) + 1 + (k : Int) ∧ Rt wr b0 32 [.int .i64 ix, .int .i64 st, .string cf, .string dt, .slice A n c] ∧ Rt wr (b0 + 1) 32 [.int .i64 0, .int .i64 0, .string ⟨#[]⟩, .string ⟨#[]⟩, .slice none 0 0] ∧ Below w.heap.size w wr) (fun i _ => m - (intOf i).toNat)
      case atStart => exact ⟨0, E[0], List.getElem?_eq_getElem hE0, rfl, by omega, HFB.out, by rw [HEX.out]; simp only; omega, hS, hZ, by first | exact hB | (rw [← hb0]; exact hB)⟩
      case round =>
        clear hS hZ hB
        obtain ⟨k, ⟨px, py, pz, pd⟩, hkx, rfl, hkm, hfk, hpx, hS, hZ, hB⟩ := hrel
        simp only at hfk hpx
        replace hB : Below w.heap.size w wr := by first | exact hB | (rw [hb0]; exact hB)
        have hkE : k < E.length := by rw [← HM.out]; exact hkm
        have hpb := HD.out _ (List.mem_of_getElem? hkx)
        simp only at hpb
        have hxk : E[k] = ⟨px, py, pz, pd⟩ := by
          have h9 := hkx; rw [List.getElem?_eq_getElem hkE] at h9; injection h9
        obtain ⟨g9, o9, hgo, hg9, p0, p1, p2, p3⟩ := HE.out.four k hkE hxk
        simp only [Value.slice.injEq, Option.some.injEq, Addr.mk.injEq, and_true] at hgo
        obtain ⟨hg1, ho1⟩ := hgo
        subst hg1; subst ho1
        replace p0 := (hB.cell (p := ⟨g, o + k * 4, none⟩) hg).trans p0
        replace p1 := (hB.cell (p := ⟨g, o + k * 4 + 1, none⟩) hg).trans p1
        clear p2 p3 hg9 hkx hxk
        by_cases hlt : k + 1 < m
        · have hk1E : k + 1 < E.length := by rw [← HM.out]; exact hlt
          obtain ⟨⟨qx, qy, qz, qd⟩, hqx⟩ : ∃ x, E[k + 1] = x := ⟨_, rfl⟩
          obtain ⟨g9, o9, hgo, hg9, q0, q1, q2, q3⟩ := HE.out.four (k + 1) hk1E hqx
          simp only [Value.slice.injEq, Option.some.injEq, Addr.mk.injEq, and_true] at hgo
          obtain ⟨hg1, ho1⟩ := hgo
          subst hg1; subst ho1
          have hq? : E[k + 1]? = some ⟨qx, qy, qz, qd⟩ := by rw [List.getElem?_eq_getElem hk1E, hqx]
          rw [flw13_at? hk1E px py hq?] at hfk
          simp only at hfk
          replace q0 := (hB.cell (p := ⟨g, o + (k + 1) * 4, none⟩) hg).trans q0
          replace q1 := (hB.cell (p := ⟨g, o + (k + 1) * 4 + 1, none⟩) hg).trans q1
          have HQ := Lib.hid hq?
          have HFK := Lib.hid hfk
          have hki : ((k + 1 : Nat) : Int) < (m : Int) := by omega
          have hwi : IntKind.i64.wrap (((k + 1 : Nat) : Int) - 1) = (k : Int) := by rw [IntKind.wrap_i64]; omega
          have hk10 : ¬ (k : Int) + 1 < 0 := by omega
          have hwk : IntKind.i64.wrap (k : Int) = (k : Int) := by rw [IntKind.wrap_i64]; omega
          have hwi2 : IntKind.i64.wrap ((k : Int) + 1 - 1) = (k : Int) := by rw [IntKind.wrap_i64]; omega
          have hwp : IntKind.i64.wrap (px + 1) = px + 1 := by rw [IntKind.wrap_i64]; omega
          clear q2 q3 hg9 hqx hq? hfk
          by_cases hnx : qx = px + 1
          · by_cases hny : qy < py
            · have hfb2 : fb = false := by rw [← HFK.out, show decide (py ≤ qy) = false from decide_eq_false (by omega), Bool.and_false, Bool.false_and]
              subst hfb2
              go_wp2_with fail
              replace p0 : wr.drew.cell? ⟨g, o + k * 4, none⟩ = some (.int .i64 px) := p0
              replace p1 : wr.drew.cell? ⟨g, o + k * 4 + 1, none⟩ = some (.int .i64 py) := p1
              replace q0 : wr.drew.cell? ⟨g, o + (k + 1) * 4, none⟩ = some (.int .i64 qx) := q0
              replace q1 : wr.drew.cell? ⟨g, o + (k + 1) * 4 + 1, none⟩ = some (.int .i64 qy) := q1
              replace hS : Rt wr.drew b0 32 [.int .i64 ix, .int .i64 st, .string cf, .string dt, .slice A n c] := hS
              replace hZ : Rt wr.drew (b0 + 1) 32 [.int .i64 0, .int .i64 0, .string ⟨#[]⟩, .string ⟨#[]⟩, .slice none 0 0] := hZ
              replace hB := hB.drew
              refine wp_region_noPanic ?_
              refine wp_region_held_drew (S := fun W => W.cell? ⟨g, o + k * 4, none⟩ = some (.int .i64 px) ∧ W.cell? ⟨g, o + k * 4 + 1, none⟩ = some (.int .i64 py) ∧ W.cell? ⟨g, o + (k + 1) * 4, none⟩ = some (.int .i64 qx) ∧ W.cell? ⟨g, o + (k + 1) * 4 + 1, none⟩ = some (.int .i64 qy)) (by kernel_rfl) ?_ (fun hHeld => ?_)
              · exact ⟨p0, p1, q0, q1⟩
              generalize wr.drew = kr at *
              refine tkH 0 (.slice (some ⟨g, o, none⟩) m d) rfl (fun w hSw => ?_) ?_
              · (try dsimp only at hSw)
                obtain ⟨s0, s1, s2, s3⟩ := hSw
                go_simp
              try simp only [Act.put, List.setIfInBounds_toArray, List.set_cons_zero, List.set_cons_succ]
              refine tkH 1 (.int .i64 ((k + 1 : Nat) : Int)) rfl (fun w hSw => ?_) ?_
              · (try dsimp only at hSw)
                obtain ⟨s0, s1, s2, s3⟩ := hSw
                go_simp
              try simp only [Act.put, List.setIfInBounds_toArray, List.set_cons_zero, List.set_cons_succ]
              refine tkH 2 (.pointer (some ⟨g, o + (k + 1) * 4, none⟩)) rfl (fun w hSw => ?_) ?_
              · (try dsimp only at hSw)
                obtain ⟨s0, s1, s2, s3⟩ := hSw
                go_simp
              try simp only [Act.put, List.setIfInBounds_toArray, List.set_cons_zero, List.set_cons_succ]
              refine tkH 3 (.pointer (some ⟨g, o + (k + 1) * 4, none⟩)) rfl (fun w hSw => ?_) ?_
              · (try dsimp only at hSw)
                obtain ⟨s0, s1, s2, s3⟩ := hSw
                go_simp
              try simp only [Act.put, List.setIfInBounds_toArray, List.set_cons_zero, List.set_cons_succ]
              refine tkH 4 (.int .i64 qx) rfl (fun w hSw => ?_) ?_
              · (try dsimp only at hSw)
                obtain ⟨s0, s1, s2, s3⟩ := hSw
                go_simp
              try simp only [Act.put, List.setIfInBounds_toArray, List.set_cons_zero, List.set_cons_succ]
              refine tkH 5 (.slice (some ⟨g, o, none⟩) m d) rfl (fun w hSw => ?_) ?_
              · (try dsimp only at hSw)
                obtain ⟨s0, s1, s2, s3⟩ := hSw
                go_simp
              try simp only [Act.put, List.setIfInBounds_toArray, List.set_cons_zero, List.set_cons_succ]
              refine tkH 6 (.int .i64 ((k + 1 : Nat) : Int)) rfl (fun w hSw => ?_) ?_
              · (try dsimp only at hSw)
                obtain ⟨s0, s1, s2, s3⟩ := hSw
                go_simp
              try simp only [Act.put, List.setIfInBounds_toArray, List.set_cons_zero, List.set_cons_succ]
              refine tkH 7 (.int .i64 (k : Int)) rfl (fun w hSw => ?_) ?_
              · (try dsimp only at hSw)
                obtain ⟨s0, s1, s2, s3⟩ := hSw
                go_simp
              try simp only [Act.put, List.setIfInBounds_toArray, List.set_cons_zero, List.set_cons_succ]
              refine tkH 8 (.pointer (some ⟨g, o + k * 4, none⟩)) rfl (fun w hSw => ?_) ?_
              · (try dsimp only at hSw)
                obtain ⟨s0, s1, s2, s3⟩ := hSw
                go_simp
              try simp only [Act.put, List.setIfInBounds_toArray, List.set_cons_zero, List.set_cons_succ]
              refine tkH 9 (.pointer (some ⟨g, o + k * 4, none⟩)) rfl (fun w hSw => ?_) ?_
              · (try dsimp only at hSw)
                obtain ⟨s0, s1, s2, s3⟩ := hSw
                go_simp
              try simp only [Act.put, List.setIfInBounds_toArray, List.set_cons_zero, List.set_cons_succ]
              refine tkH 10 (.int .i64 px) rfl (fun w hSw => ?_) ?_
              · (try dsimp only at hSw)
                obtain ⟨s0, s1, s2, s3⟩ := hSw
                go_simp
              try simp only [Act.put, List.setIfInBounds_toArray, List.set_cons_zero, List.set_cons_succ]
              refine tkH 11 (.int .i64 (px + 1)) rfl (fun w hSw => ?_) ?_
              · (try dsimp only at hSw)
                obtain ⟨s0, s1, s2, s3⟩ := hSw
                go_simp
              try simp only [Act.put, List.setIfInBounds_toArray, List.set_cons_zero, List.set_cons_succ]
              refine tkH 12 (.bool false) rfl (fun w hSw => ?_) ?_
              · (try dsimp only at hSw)
                obtain ⟨s0, s1, s2, s3⟩ := hSw
                go_simp
              try simp only [Act.put, List.setIfInBounds_toArray, List.set_cons_zero, List.set_cons_succ]
              refine tkH 13 (.bool false) rfl (fun w hSw => ?_) ?_
              · (try dsimp only at hSw)
                obtain ⟨s0, s1, s2, s3⟩ := hSw
                go_simp
              try simp only [Act.put, List.setIfInBounds_toArray, List.set_cons_zero, List.set_cons_succ]
              refine tkH 14 (.slice (some ⟨g, o, none⟩) m d) rfl (fun w hSw => ?_) ?_
              · (try dsimp only at hSw)
                obtain ⟨s0, s1, s2, s3⟩ := hSw
                go_simp
              try simp only [Act.put, List.setIfInBounds_toArray, List.set_cons_zero, List.set_cons_succ]
              refine tkH 15 (.int .i64 ((k + 1 : Nat) : Int)) rfl (fun w hSw => ?_) ?_
              · (try dsimp only at hSw)
                obtain ⟨s0, s1, s2, s3⟩ := hSw
                go_simp
              try simp only [Act.put, List.setIfInBounds_toArray, List.set_cons_zero, List.set_cons_succ]
              refine tkH 16 (.pointer (some ⟨g, o + (k + 1) * 4, none⟩)) rfl (fun w hSw => ?_) ?_
              · (try dsimp only at hSw)
                obtain ⟨s0, s1, s2, s3⟩ := hSw
                go_simp
              try simp only [Act.put, List.setIfInBounds_toArray, List.set_cons_zero, List.set_cons_succ]
              refine tkH 17 (.pointer (some ⟨g, o + (k + 1) * 4 + 1, none⟩)) rfl (fun w hSw => ?_) ?_
              · (try dsimp only at hSw)
                obtain ⟨s0, s1, s2, s3⟩ := hSw
                go_simp
              try simp only [Act.put, List.setIfInBounds_toArray, List.set_cons_zero, List.set_cons_succ]
              refine tkH 18 (.int .i64 qy) rfl (fun w hSw => ?_) ?_
              · (try dsimp only at hSw)
                obtain ⟨s0, s1, s2, s3⟩ := hSw
                go_simp
              try simp only [Act.put, List.setIfInBounds_toArray, List.set_cons_zero, List.set_cons_succ]
              refine tkH 19 (.slice (some ⟨g, o, none⟩) m d) rfl (fun w hSw => ?_) ?_
              · (try dsimp only at hSw)
                obtain ⟨s0, s1, s2, s3⟩ := hSw
                go_simp
              try simp only [Act.put, List.setIfInBounds_toArray, List.set_cons_zero, List.set_cons_succ]
              refine tkH 20 (.int .i64 ((k + 1 : Nat) : Int)) rfl (fun w hSw => ?_) ?_
              · (try dsimp only at hSw)
                obtain ⟨s0, s1, s2, s3⟩ := hSw
                go_simp
              try simp only [Act.put, List.setIfInBounds_toArray, List.set_cons_zero, List.set_cons_succ]
              refine tkH 21 (.int .i64 (k : Int)) rfl (fun w hSw => ?_) ?_
              · (try dsimp only at hSw)
                obtain ⟨s0, s1, s2, s3⟩ := hSw
                go_simp
              try simp only [Act.put, List.setIfInBounds_toArray, List.set_cons_zero, List.set_cons_succ]
              refine tkH 22 (.pointer (some ⟨g, o + k * 4, none⟩)) rfl (fun w hSw => ?_) ?_
              · (try dsimp only at hSw)
                obtain ⟨s0, s1, s2, s3⟩ := hSw
                go_simp
              try simp only [Act.put, List.setIfInBounds_toArray, List.set_cons_zero, List.set_cons_succ]
              refine tkH 23 (.pointer (some ⟨g, o + k * 4 + 1, none⟩)) rfl (fun w hSw => ?_) ?_
              · (try dsimp only at hSw)
                obtain ⟨s0, s1, s2, s3⟩ := hSw
                go_simp
              try simp only [Act.put, List.setIfInBounds_toArray, List.set_cons_zero, List.set_cons_succ]
              refine tkH 24 (.int .i64 py) rfl (fun w hSw => ?_) ?_
              · (try dsimp only at hSw)
                obtain ⟨s0, s1, s2, s3⟩ := hSw
                go_simp
              try simp only [Act.put, List.setIfInBounds_toArray, List.set_cons_zero, List.set_cons_succ]
              refine tkH 25 (.bool true) rfl (fun w hSw => ?_) ?_
              · (try dsimp only at hSw)
                obtain ⟨s0, s1, s2, s3⟩ := hSw
                go_simp
              try simp only [Act.put, List.setIfInBounds_toArray, List.set_cons_zero, List.set_cons_succ]
              refine tkH 26 (.bool true) rfl (fun w hSw => ?_) ?_
              · (try dsimp only at hSw)
                obtain ⟨s0, s1, s2, s3⟩ := hSw
                go_simp
              try simp only [Act.put, List.setIfInBounds_toArray, List.set_cons_zero, List.set_cons_succ]
              refine wpAnyH_done (by kernel_rfl) ?_ _
              refine NoPanic.normal ?_
              clear p0 p1 q0 q1
              have HPE := Lib.hid (HP.out.symm.trans (show put13 ⟨⟨ix, st, cf, dt⟩, L⟩ E = (⟨⟨ix, st, cf, dt⟩, L⟩, 0, false) from by
                exact put13_bad hE0 HFB.out))
              have d0 := hS.cell (j := 0) rfl
              have d1 := hS.cell (j := 1) rfl
              have d2 := hS.cell (j := 2) rfl
              have d3 := hS.cell (j := 3) rfl
              have d4 := hS.cell (j := 4) rfl
              have z0 := hZ.cell (j := 0) rfl
              have z1 := hZ.cell (j := 1) rfl
              have z2 := hZ.cell (j := 2) rfl
              have z3 := hZ.cell (j := 3) rfl
              have z4 := hZ.cell (j := 4) rfl
              have f0 := hZ.frz 0
              have f1 := hZ.frz 1
              have f2 := hZ.frz 2
              have f3 := hZ.frz 3
              have f4 := hZ.frz 4
              have hB5 := (((((hB.setCell (p := ⟨b0 + 1, 0, none⟩) (by show w.heap.size ≤ b0 + 1; omega) (.int .i64 ix)).setCell (p := ⟨b0 + 1, 1, none⟩) (by show w.heap.size ≤ b0 + 1; omega) (.int .i64 st)).setCell (p := ⟨b0 + 1, 2, none⟩) (by show w.heap.size ≤ b0 + 1; omega) (.string cf)).setCell (p := ⟨b0 + 1, 3, none⟩) (by show w.heap.size ≤ b0 + 1; omega) (.string dt)).setCell (p := ⟨b0 + 1, 4, none⟩) (by show w.heap.size ≤ b0 + 1; omega) (.slice A n c))
              have hZ5 := (((((hZ.set 0 (.int .i64 ix)).set 1 (.int .i64 st)).set 2 (.string cf)).set 3 (.string dt)).set 4 (.slice A n c))
              obtain ⟨W5, hW5⟩ : ∃ W5, (((((kr.setCell ⟨b0 + 1, 0, none⟩ (.int .i64 ix)).setCell ⟨b0 + 1, 1, none⟩ (.int .i64 st)).setCell ⟨b0 + 1, 2, none⟩ (.string cf)).setCell ⟨b0 + 1, 3, none⟩ (.string dt)).setCell ⟨b0 + 1, 4, none⟩ (.slice A n c)) = W5 := ⟨_, rfl⟩
              rw [hW5] at hB5 hZ5
              have g0 := hZ5.cell (j := 0) rfl
              have g1 := hZ5.cell (j := 1) rfl
              have g2 := hZ5.cell (j := 2) rfl
              have g3 := hZ5.cell (j := 3) rfl
              have g4 := hZ5.cell (j := 4) rfl
              have HW5 := Lib.hid hW5
              clear hZ hZ5 hW5
              go_wp2
              rw [HW5.out]
              obtain ⟨q1, q2, q3⟩ : r' = ⟨⟨ix, st, cf, dt⟩, L⟩ ∧ at' = 0 ∧ b = false := by
                have h9 := HPE.out
                injection h9 with a1 a2
                injection a2 with a2 a3
                exact ⟨a1, a2, a3⟩
              refine bodyPost_ret (v := .tuple #[.agg #[.int .i64 ix, .int .i64 st, .string cf, .string dt, .slice A n c], .int .i64 0, .bool false]) ?_ rfl ?_
              · simp [results, Try.results13, go_sem, g0, g1, g2, g3, g4]
              · rw [q1, q2, q3]
                refine ⟨.slice A n c, rfl, .inl ⟨rfl, rfl⟩, ?_⟩
                first | exact hB5 | (rw [hb0]; exact hB5) | (rw [← hb0]; exact hB5)
            · have hfk2 : flw13 qx qy (E.drop (k + 1 + 1)) = fb := by rw [← HFK.out, show (qx == px + 1) = true by rw [beq_iff_eq]; exact hnx, show decide (py ≤ qy) = true from decide_eq_true (by omega)]; rfl
              have HFK2 := Lib.hid hfk2
              clear hfk2 HFK
              go_wp2_with fail
              replace p0 : wr.drew.cell? ⟨g, o + k * 4, none⟩ = some (.int .i64 px) := p0
              replace p1 : wr.drew.cell? ⟨g, o + k * 4 + 1, none⟩ = some (.int .i64 py) := p1
              replace q0 : wr.drew.cell? ⟨g, o + (k + 1) * 4, none⟩ = some (.int .i64 qx) := q0
              replace q1 : wr.drew.cell? ⟨g, o + (k + 1) * 4 + 1, none⟩ = some (.int .i64 qy) := q1
              replace hS : Rt wr.drew b0 32 [.int .i64 ix, .int .i64 st, .string cf, .string dt, .slice A n c] := hS
              replace hZ : Rt wr.drew (b0 + 1) 32 [.int .i64 0, .int .i64 0, .string ⟨#[]⟩, .string ⟨#[]⟩, .slice none 0 0] := hZ
              replace hB := hB.drew
              refine wp_region_noPanic ?_
              refine wp_region_held_drew (S := fun W => W.cell? ⟨g, o + k * 4, none⟩ = some (.int .i64 px) ∧ W.cell? ⟨g, o + k * 4 + 1, none⟩ = some (.int .i64 py) ∧ W.cell? ⟨g, o + (k + 1) * 4, none⟩ = some (.int .i64 qx) ∧ W.cell? ⟨g, o + (k + 1) * 4 + 1, none⟩ = some (.int .i64 qy)) (by kernel_rfl) ?_ (fun hHeld => ?_)
              · exact ⟨p0, p1, q0, q1⟩
              generalize wr.drew = kr at *
              refine tkH 0 (.slice (some ⟨g, o, none⟩) m d) rfl (fun w hSw => ?_) ?_
              · (try dsimp only at hSw)
                obtain ⟨s0, s1, s2, s3⟩ := hSw
                go_simp
              try simp only [Act.put, List.setIfInBounds_toArray, List.set_cons_zero, List.set_cons_succ]
              refine tkH 1 (.int .i64 ((k + 1 : Nat) : Int)) rfl (fun w hSw => ?_) ?_
              · (try dsimp only at hSw)
                obtain ⟨s0, s1, s2, s3⟩ := hSw
                go_simp
              try simp only [Act.put, List.setIfInBounds_toArray, List.set_cons_zero, List.set_cons_succ]
              refine tkH 2 (.pointer (some ⟨g, o + (k + 1) * 4, none⟩)) rfl (fun w hSw => ?_) ?_
              · (try dsimp only at hSw)
                obtain ⟨s0, s1, s2, s3⟩ := hSw
                go_simp
              try simp only [Act.put, List.setIfInBounds_toArray, List.set_cons_zero, List.set_cons_succ]
              refine tkH 3 (.pointer (some ⟨g, o + (k + 1) * 4, none⟩)) rfl (fun w hSw => ?_) ?_
              · (try dsimp only at hSw)
                obtain ⟨s0, s1, s2, s3⟩ := hSw
                go_simp
              try simp only [Act.put, List.setIfInBounds_toArray, List.set_cons_zero, List.set_cons_succ]
              refine tkH 4 (.int .i64 qx) rfl (fun w hSw => ?_) ?_
              · (try dsimp only at hSw)
                obtain ⟨s0, s1, s2, s3⟩ := hSw
                go_simp
              try simp only [Act.put, List.setIfInBounds_toArray, List.set_cons_zero, List.set_cons_succ]
              refine tkH 5 (.slice (some ⟨g, o, none⟩) m d) rfl (fun w hSw => ?_) ?_
              · (try dsimp only at hSw)
                obtain ⟨s0, s1, s2, s3⟩ := hSw
                go_simp
              try simp only [Act.put, List.setIfInBounds_toArray, List.set_cons_zero, List.set_cons_succ]
              refine tkH 6 (.int .i64 ((k + 1 : Nat) : Int)) rfl (fun w hSw => ?_) ?_
              · (try dsimp only at hSw)
                obtain ⟨s0, s1, s2, s3⟩ := hSw
                go_simp
              try simp only [Act.put, List.setIfInBounds_toArray, List.set_cons_zero, List.set_cons_succ]
              refine tkH 7 (.int .i64 (k : Int)) rfl (fun w hSw => ?_) ?_
              · (try dsimp only at hSw)
                obtain ⟨s0, s1, s2, s3⟩ := hSw
                go_simp
              try simp only [Act.put, List.setIfInBounds_toArray, List.set_cons_zero, List.set_cons_succ]
              refine tkH 8 (.pointer (some ⟨g, o + k * 4, none⟩)) rfl (fun w hSw => ?_) ?_
              · (try dsimp only at hSw)
                obtain ⟨s0, s1, s2, s3⟩ := hSw
                go_simp
              try simp only [Act.put, List.setIfInBounds_toArray, List.set_cons_zero, List.set_cons_succ]
              refine tkH 9 (.pointer (some ⟨g, o + k * 4, none⟩)) rfl (fun w hSw => ?_) ?_
              · (try dsimp only at hSw)
                obtain ⟨s0, s1, s2, s3⟩ := hSw
                go_simp
              try simp only [Act.put, List.setIfInBounds_toArray, List.set_cons_zero, List.set_cons_succ]
              refine tkH 10 (.int .i64 px) rfl (fun w hSw => ?_) ?_
              · (try dsimp only at hSw)
                obtain ⟨s0, s1, s2, s3⟩ := hSw
                go_simp
              try simp only [Act.put, List.setIfInBounds_toArray, List.set_cons_zero, List.set_cons_succ]
              refine tkH 11 (.int .i64 (px + 1)) rfl (fun w hSw => ?_) ?_
              · (try dsimp only at hSw)
                obtain ⟨s0, s1, s2, s3⟩ := hSw
                go_simp
              try simp only [Act.put, List.setIfInBounds_toArray, List.set_cons_zero, List.set_cons_succ]
              refine tkH 12 (.bool false) rfl (fun w hSw => ?_) ?_
              · (try dsimp only at hSw)
                obtain ⟨s0, s1, s2, s3⟩ := hSw
                go_simp
              try simp only [Act.put, List.setIfInBounds_toArray, List.set_cons_zero, List.set_cons_succ]
              refine tkH 13 (.bool false) rfl (fun w hSw => ?_) ?_
              · (try dsimp only at hSw)
                obtain ⟨s0, s1, s2, s3⟩ := hSw
                go_simp
              try simp only [Act.put, List.setIfInBounds_toArray, List.set_cons_zero, List.set_cons_succ]
              refine tkH 14 (.slice (some ⟨g, o, none⟩) m d) rfl (fun w hSw => ?_) ?_
              · (try dsimp only at hSw)
                obtain ⟨s0, s1, s2, s3⟩ := hSw
                go_simp
              try simp only [Act.put, List.setIfInBounds_toArray, List.set_cons_zero, List.set_cons_succ]
              refine tkH 15 (.int .i64 ((k + 1 : Nat) : Int)) rfl (fun w hSw => ?_) ?_
              · (try dsimp only at hSw)
                obtain ⟨s0, s1, s2, s3⟩ := hSw
                go_simp
              try simp only [Act.put, List.setIfInBounds_toArray, List.set_cons_zero, List.set_cons_succ]
              refine tkH 16 (.pointer (some ⟨g, o + (k + 1) * 4, none⟩)) rfl (fun w hSw => ?_) ?_
              · (try dsimp only at hSw)
                obtain ⟨s0, s1, s2, s3⟩ := hSw
                go_simp
              try simp only [Act.put, List.setIfInBounds_toArray, List.set_cons_zero, List.set_cons_succ]
              refine tkH 17 (.pointer (some ⟨g, o + (k + 1) * 4 + 1, none⟩)) rfl (fun w hSw => ?_) ?_
              · (try dsimp only at hSw)
                obtain ⟨s0, s1, s2, s3⟩ := hSw
                go_simp
              try simp only [Act.put, List.setIfInBounds_toArray, List.set_cons_zero, List.set_cons_succ]
              refine tkH 18 (.int .i64 qy) rfl (fun w hSw => ?_) ?_
              · (try dsimp only at hSw)
                obtain ⟨s0, s1, s2, s3⟩ := hSw
                go_simp
              try simp only [Act.put, List.setIfInBounds_toArray, List.set_cons_zero, List.set_cons_succ]
              refine tkH 19 (.slice (some ⟨g, o, none⟩) m d) rfl (fun w hSw => ?_) ?_
              · (try dsimp only at hSw)
                obtain ⟨s0, s1, s2, s3⟩ := hSw
                go_simp
              try simp only [Act.put, List.setIfInBounds_toArray, List.set_cons_zero, List.set_cons_succ]
              refine tkH 20 (.int .i64 ((k + 1 : Nat) : Int)) rfl (fun w hSw => ?_) ?_
              · (try dsimp only at hSw)
                obtain ⟨s0, s1, s2, s3⟩ := hSw
                go_simp
              try simp only [Act.put, List.setIfInBounds_toArray, List.set_cons_zero, List.set_cons_succ]
              refine tkH 21 (.int .i64 (k : Int)) rfl (fun w hSw => ?_) ?_
              · (try dsimp only at hSw)
                obtain ⟨s0, s1, s2, s3⟩ := hSw
                go_simp
              try simp only [Act.put, List.setIfInBounds_toArray, List.set_cons_zero, List.set_cons_succ]
              refine tkH 22 (.pointer (some ⟨g, o + k * 4, none⟩)) rfl (fun w hSw => ?_) ?_
              · (try dsimp only at hSw)
                obtain ⟨s0, s1, s2, s3⟩ := hSw
                go_simp
              try simp only [Act.put, List.setIfInBounds_toArray, List.set_cons_zero, List.set_cons_succ]
              refine tkH 23 (.pointer (some ⟨g, o + k * 4 + 1, none⟩)) rfl (fun w hSw => ?_) ?_
              · (try dsimp only at hSw)
                obtain ⟨s0, s1, s2, s3⟩ := hSw
                go_simp
              try simp only [Act.put, List.setIfInBounds_toArray, List.set_cons_zero, List.set_cons_succ]
              refine tkH 24 (.int .i64 py) rfl (fun w hSw => ?_) ?_
              · (try dsimp only at hSw)
                obtain ⟨s0, s1, s2, s3⟩ := hSw
                go_simp
              try simp only [Act.put, List.setIfInBounds_toArray, List.set_cons_zero, List.set_cons_succ]
              refine tkH 25 (.bool false) rfl (fun w hSw => ?_) ?_
              · (try dsimp only at hSw)
                obtain ⟨s0, s1, s2, s3⟩ := hSw
                go_simp
              try simp only [Act.put, List.setIfInBounds_toArray, List.set_cons_zero, List.set_cons_succ]
              refine tkH 26 (.bool false) rfl (fun w hSw => ?_) ?_
              · (try dsimp only at hSw)
                obtain ⟨s0, s1, s2, s3⟩ := hSw
                go_simp
              try simp only [Act.put, List.setIfInBounds_toArray, List.set_cons_zero, List.set_cons_succ]
              refine wpAnyH_done (by kernel_rfl) ?_ _
              refine NoPanic.normal ?_
              clear p0 p1 q0 q1
              go_wp2
              go_roundw
              case rel => exact ⟨k + 1, ⟨qx, qy, qz, qd⟩, HQ.out, by go_num, hlt, HFK2.out, by simp only; omega, hS, hZ, by first | exact hB | (rw [← hb0]; exact hB)⟩
              case measure => first | (simp [intOf]; omega) | (simp [intOf]; done)
          · have hfb2 : fb = false := by rw [← HFK.out, show (qx == px + 1) = false by rw [beq_eq_false_iff_ne]; exact hnx]; rfl
            subst hfb2
            go_wp2_with fail
            replace p0 : wr.drew.cell? ⟨g, o + k * 4, none⟩ = some (.int .i64 px) := p0
            replace p1 : wr.drew.cell? ⟨g, o + k * 4 + 1, none⟩ = some (.int .i64 py) := p1
            replace q0 : wr.drew.cell? ⟨g, o + (k + 1) * 4, none⟩ = some (.int .i64 qx) := q0
            replace q1 : wr.drew.cell? ⟨g, o + (k + 1) * 4 + 1, none⟩ = some (.int .i64 qy) := q1
            replace hS : Rt wr.drew b0 32 [.int .i64 ix, .int .i64 st, .string cf, .string dt, .slice A n c] := hS
            replace hZ : Rt wr.drew (b0 + 1) 32 [.int .i64 0, .int .i64 0, .string ⟨#[]⟩, .string ⟨#[]⟩, .slice none 0 0] := hZ
            replace hB := hB.drew
            refine wp_region_noPanic ?_
            refine wp_region_held_drew (S := fun W => W.cell? ⟨g, o + k * 4, none⟩ = some (.int .i64 px) ∧ W.cell? ⟨g, o + k * 4 + 1, none⟩ = some (.int .i64 py) ∧ W.cell? ⟨g, o + (k + 1) * 4, none⟩ = some (.int .i64 qx) ∧ W.cell? ⟨g, o + (k + 1) * 4 + 1, none⟩ = some (.int .i64 qy)) (by kernel_rfl) ?_ (fun hHeld => ?_)
            · exact ⟨p0, p1, q0, q1⟩
            generalize wr.drew = kr at *
            refine tkH 0 (.slice (some ⟨g, o, none⟩) m d) rfl (fun w hSw => ?_) ?_
            · (try dsimp only at hSw)
              obtain ⟨s0, s1, s2, s3⟩ := hSw
              go_simp
            try simp only [Act.put, List.setIfInBounds_toArray, List.set_cons_zero, List.set_cons_succ]
            refine tkH 1 (.int .i64 ((k + 1 : Nat) : Int)) rfl (fun w hSw => ?_) ?_
            · (try dsimp only at hSw)
              obtain ⟨s0, s1, s2, s3⟩ := hSw
              go_simp
            try simp only [Act.put, List.setIfInBounds_toArray, List.set_cons_zero, List.set_cons_succ]
            refine tkH 2 (.pointer (some ⟨g, o + (k + 1) * 4, none⟩)) rfl (fun w hSw => ?_) ?_
            · (try dsimp only at hSw)
              obtain ⟨s0, s1, s2, s3⟩ := hSw
              go_simp
            try simp only [Act.put, List.setIfInBounds_toArray, List.set_cons_zero, List.set_cons_succ]
            refine tkH 3 (.pointer (some ⟨g, o + (k + 1) * 4, none⟩)) rfl (fun w hSw => ?_) ?_
            · (try dsimp only at hSw)
              obtain ⟨s0, s1, s2, s3⟩ := hSw
              go_simp
            try simp only [Act.put, List.setIfInBounds_toArray, List.set_cons_zero, List.set_cons_succ]
            refine tkH 4 (.int .i64 qx) rfl (fun w hSw => ?_) ?_
            · (try dsimp only at hSw)
              obtain ⟨s0, s1, s2, s3⟩ := hSw
              go_simp
            try simp only [Act.put, List.setIfInBounds_toArray, List.set_cons_zero, List.set_cons_succ]
            refine tkH 5 (.slice (some ⟨g, o, none⟩) m d) rfl (fun w hSw => ?_) ?_
            · (try dsimp only at hSw)
              obtain ⟨s0, s1, s2, s3⟩ := hSw
              go_simp
            try simp only [Act.put, List.setIfInBounds_toArray, List.set_cons_zero, List.set_cons_succ]
            refine tkH 6 (.int .i64 ((k + 1 : Nat) : Int)) rfl (fun w hSw => ?_) ?_
            · (try dsimp only at hSw)
              obtain ⟨s0, s1, s2, s3⟩ := hSw
              go_simp
            try simp only [Act.put, List.setIfInBounds_toArray, List.set_cons_zero, List.set_cons_succ]
            refine tkH 7 (.int .i64 (k : Int)) rfl (fun w hSw => ?_) ?_
            · (try dsimp only at hSw)
              obtain ⟨s0, s1, s2, s3⟩ := hSw
              go_simp
            try simp only [Act.put, List.setIfInBounds_toArray, List.set_cons_zero, List.set_cons_succ]
            refine tkH 8 (.pointer (some ⟨g, o + k * 4, none⟩)) rfl (fun w hSw => ?_) ?_
            · (try dsimp only at hSw)
              obtain ⟨s0, s1, s2, s3⟩ := hSw
              go_simp
            try simp only [Act.put, List.setIfInBounds_toArray, List.set_cons_zero, List.set_cons_succ]
            refine tkH 9 (.pointer (some ⟨g, o + k * 4, none⟩)) rfl (fun w hSw => ?_) ?_
            · (try dsimp only at hSw)
              obtain ⟨s0, s1, s2, s3⟩ := hSw
              go_simp
            try simp only [Act.put, List.setIfInBounds_toArray, List.set_cons_zero, List.set_cons_succ]
            refine tkH 10 (.int .i64 px) rfl (fun w hSw => ?_) ?_
            · (try dsimp only at hSw)
              obtain ⟨s0, s1, s2, s3⟩ := hSw
              go_simp
            try simp only [Act.put, List.setIfInBounds_toArray, List.set_cons_zero, List.set_cons_succ]
            refine tkH 11 (.int .i64 (px + 1)) rfl (fun w hSw => ?_) ?_
            · (try dsimp only at hSw)
              obtain ⟨s0, s1, s2, s3⟩ := hSw
              go_simp
            try simp only [Act.put, List.setIfInBounds_toArray, List.set_cons_zero, List.set_cons_succ]
            refine tkH 12 (.bool true) rfl (fun w hSw => ?_) ?_
            · (try dsimp only at hSw)
              obtain ⟨s0, s1, s2, s3⟩ := hSw
              go_simp
            try simp only [Act.put, List.setIfInBounds_toArray, List.set_cons_zero, List.set_cons_succ]
            refine tkH 13 (.bool true) rfl (fun w hSw => ?_) ?_
            · (try dsimp only at hSw)
              obtain ⟨s0, s1, s2, s3⟩ := hSw
              go_simp
            try simp only [Act.put, List.setIfInBounds_toArray, List.set_cons_zero, List.set_cons_succ]
            refine skH 14 rfl ?_
            try simp only [Act.put, List.setIfInBounds_toArray, List.set_cons_zero, List.set_cons_succ]
            refine skH 15 rfl ?_
            try simp only [Act.put, List.setIfInBounds_toArray, List.set_cons_zero, List.set_cons_succ]
            refine skH 16 rfl ?_
            try simp only [Act.put, List.setIfInBounds_toArray, List.set_cons_zero, List.set_cons_succ]
            refine skH 17 rfl ?_
            try simp only [Act.put, List.setIfInBounds_toArray, List.set_cons_zero, List.set_cons_succ]
            refine skH 18 rfl ?_
            try simp only [Act.put, List.setIfInBounds_toArray, List.set_cons_zero, List.set_cons_succ]
            refine skH 19 rfl ?_
            try simp only [Act.put, List.setIfInBounds_toArray, List.set_cons_zero, List.set_cons_succ]
            refine skH 20 rfl ?_
            try simp only [Act.put, List.setIfInBounds_toArray, List.set_cons_zero, List.set_cons_succ]
            refine skH 21 rfl ?_
            try simp only [Act.put, List.setIfInBounds_toArray, List.set_cons_zero, List.set_cons_succ]
            refine skH 22 rfl ?_
            try simp only [Act.put, List.setIfInBounds_toArray, List.set_cons_zero, List.set_cons_succ]
            refine skH 23 rfl ?_
            try simp only [Act.put, List.setIfInBounds_toArray, List.set_cons_zero, List.set_cons_succ]
            refine skH 24 rfl ?_
            try simp only [Act.put, List.setIfInBounds_toArray, List.set_cons_zero, List.set_cons_succ]
            refine skH 25 rfl ?_
            try simp only [Act.put, List.setIfInBounds_toArray, List.set_cons_zero, List.set_cons_succ]
            refine tkH 26 (.bool true) rfl (fun w hSw => ?_) ?_
            · (try dsimp only at hSw)
              obtain ⟨s0, s1, s2, s3⟩ := hSw
              go_simp
            try simp only [Act.put, List.setIfInBounds_toArray, List.set_cons_zero, List.set_cons_succ]
            refine wpAnyH_done (by kernel_rfl) ?_ _
            refine NoPanic.normal ?_
            clear p0 p1 q0 q1
            have HPE := Lib.hid (HP.out.symm.trans (show put13 ⟨⟨ix, st, cf, dt⟩, L⟩ E = (⟨⟨ix, st, cf, dt⟩, L⟩, 0, false) from by
              exact put13_bad hE0 HFB.out))
            have d0 := hS.cell (j := 0) rfl
            have d1 := hS.cell (j := 1) rfl
            have d2 := hS.cell (j := 2) rfl
            have d3 := hS.cell (j := 3) rfl
            have d4 := hS.cell (j := 4) rfl
            have z0 := hZ.cell (j := 0) rfl
            have z1 := hZ.cell (j := 1) rfl
            have z2 := hZ.cell (j := 2) rfl
            have z3 := hZ.cell (j := 3) rfl
            have z4 := hZ.cell (j := 4) rfl
            have f0 := hZ.frz 0
            have f1 := hZ.frz 1
            have f2 := hZ.frz 2
            have f3 := hZ.frz 3
            have f4 := hZ.frz 4
            have hB5 := (((((hB.setCell (p := ⟨b0 + 1, 0, none⟩) (by show w.heap.size ≤ b0 + 1; omega) (.int .i64 ix)).setCell (p := ⟨b0 + 1, 1, none⟩) (by show w.heap.size ≤ b0 + 1; omega) (.int .i64 st)).setCell (p := ⟨b0 + 1, 2, none⟩) (by show w.heap.size ≤ b0 + 1; omega) (.string cf)).setCell (p := ⟨b0 + 1, 3, none⟩) (by show w.heap.size ≤ b0 + 1; omega) (.string dt)).setCell (p := ⟨b0 + 1, 4, none⟩) (by show w.heap.size ≤ b0 + 1; omega) (.slice A n c))
            have hZ5 := (((((hZ.set 0 (.int .i64 ix)).set 1 (.int .i64 st)).set 2 (.string cf)).set 3 (.string dt)).set 4 (.slice A n c))
            obtain ⟨W5, hW5⟩ : ∃ W5, (((((kr.setCell ⟨b0 + 1, 0, none⟩ (.int .i64 ix)).setCell ⟨b0 + 1, 1, none⟩ (.int .i64 st)).setCell ⟨b0 + 1, 2, none⟩ (.string cf)).setCell ⟨b0 + 1, 3, none⟩ (.string dt)).setCell ⟨b0 + 1, 4, none⟩ (.slice A n c)) = W5 := ⟨_, rfl⟩
            rw [hW5] at hB5 hZ5
            have g0 := hZ5.cell (j := 0) rfl
            have g1 := hZ5.cell (j := 1) rfl
            have g2 := hZ5.cell (j := 2) rfl
            have g3 := hZ5.cell (j := 3) rfl
            have g4 := hZ5.cell (j := 4) rfl
            have HW5 := Lib.hid hW5
            clear hZ hZ5 hW5
            go_wp2
            rw [HW5.out]
            obtain ⟨q1, q2, q3⟩ : r' = ⟨⟨ix, st, cf, dt⟩, L⟩ ∧ at' = 0 ∧ b = false := by
              have h9 := HPE.out
              injection h9 with a1 a2
              injection a2 with a2 a3
              exact ⟨a1, a2, a3⟩
            refine bodyPost_ret (v := .tuple #[.agg #[.int .i64 ix, .int .i64 st, .string cf, .string dt, .slice A n c], .int .i64 0, .bool false]) ?_ rfl ?_
            · simp [results, Try.results13, go_sem, g0, g1, g2, g3, g4]
            · rw [q1, q2, q3]
              refine ⟨.slice A n c, rfl, .inl ⟨rfl, rfl⟩, ?_⟩
              first | exact hB5 | (rw [hb0]; exact hB5) | (rw [← hb0]; exact hB5)
        · have hkm2 : k + 1 = m := by omega
          have hfb2 : fb = true := by rw [← hfk, List.drop_of_length_le (by rw [← HM.out]; omega)]; rfl
          subst hfb2
          clear p0 p1 hfk hpx
          have hki : ¬ ((k + 1 : Nat) : Int) < (m : Int) := by omega
          have hki2 : ¬ (k : Int) + 1 < (m : Int) := by omega
          have HPN := Lib.hid (HP.out.symm.trans (put13_on hE0 (by rw [HLS.out, HEX.out]; simp only; omega) HFB.out))
          go_wp2_with fail
          go_loopw [8] (fun i wr => ∃ k : Nat, k ≤ m ∧ i = .int .i64 (k : Int) ∧ rst13 ⟨⟨ix, st, cf, dt⟩, L⟩ (E.drop k) = rst13 ⟨⟨ix, st, cf, dt⟩, L⟩ E ∧ Rt wr b0 32 [.int .i64 ix, .int .i64 st, .string cf, .string dt, .slice A n c] ∧ Rt wr (b0 + 1) 32 [.int .i64 0, .int .i64 0, .string ⟨#[]⟩, .string ⟨#[]⟩, .slice none 0 0] ∧ Below w.heap.size w wr) (fun i _ => m - (intOf i).toNat)
          case atStart => exact ⟨0, Nat.zero_le _, rfl, rfl, hS, hZ, by first | exact hB | (rw [← hb0]; exact hB)⟩
          case round =>
            clear hS hZ hB
            obtain ⟨j, hj, rfl, hrs, hS, hZ, hB⟩ := hrel
            replace hB : Below w.heap.size w wr := by first | exact hB | (rw [hb0]; exact hB)
            by_cases hjm : j < m
            · have hjE : j < E.length := by rw [← HM.out]; exact hjm
              have hji : (j : Int) < (m : Int) := by omega
              obtain ⟨⟨qx, qy, qz, qd⟩, hqx⟩ : ∃ x, E[j] = x := ⟨_, rfl⟩
              obtain ⟨g9, o9, hgo, hg9, q0, q1, q2, q3⟩ := HE.out.four j hjE hqx
              simp only [Value.slice.injEq, Option.some.injEq, Addr.mk.injEq, and_true] at hgo
              obtain ⟨hg1, ho1⟩ := hgo
              subst hg1; subst ho1
              replace q0 := (hB.cell (p := ⟨g, o + j * 4, none⟩) hg).trans q0
              replace q1 := (hB.cell (p := ⟨g, o + j * 4 + 1, none⟩) hg).trans q1
              replace q2 := (hB.cell (p := ⟨g, o + j * 4 + 2, none⟩) hg).trans q2
              replace q3 := (hB.cell (p := ⟨g, o + j * 4 + 3, none⟩) hg).trans q3
              clear hg9
              obtain ⟨be, hbe⟩ : ∃ be, wr.heap.size = be := ⟨_, rfl⟩
              have hbe0 : b0 + 1 < be := by rw [← hbe]; exact hZ.lt
              obtain ⟨W2, hW2⟩ : ∃ W2, wr.alloc (.cells #[.int .i64 qx, .int .i64 qy, .int .i64 qz, .string qd] 65) = W2 := ⟨_, rfl⟩
              have hX : Rt W2 be 65 [.int .i64 qx, .int .i64 qy, .int .i64 qz, .string qd] := by rw [← hW2, ← hbe]; exact Rt.new _ _ _
              have hbw2 : Below wr.heap.size wr W2 := by rw [← hW2]; exact below_new _ _
              have hS2 := hS.below hbw2
              have hZ2 := hZ.below hbw2
              have hB2 := hB.trans (hbw2.mono hB.size)
              have x0 := hX.cell (j := 0) rfl
              have x1 := hX.cell (j := 1) rfl
              have d0 := hS2.cell (j := 0) rfl
              have d1 := hS2.cell (j := 1) rfl
              have d2 := hS2.cell (j := 2) rfl
              have d3 := hS2.cell (j := 3) rfl
              have d4 := hS2.cell (j := 4) rfl
              have HW2 := Lib.hid hW2
              have HQX := Lib.hid hqx
              clear hbw2 hS hZ hB hqx
              by_cases hle : ix < qx
              · obtain ⟨fb, hfb⟩ : ∃ fb, fts13 ⟨⟨ix, st, cf, dt⟩, L⟩ qx qy = fb := ⟨_, rfl⟩
                have hc := HT.out W2 (by first | exact hB2 | (rw [hb0]; exact hB2)) qx qy fb hfb
                cases fb with
                | true =>
                  have HST := Lib.hid ((rst13_step hjE HQX.out (lck13_no2 hfb)).symm.trans hrs)
                  clear hfb hrs
                  go_wp2_with fail
                  refine hc.mono ?_
                  rintro e k9 ⟨rfl, h⟩
                  replace hS2 := hS2.below h
                  replace hZ2 := hZ2.below h
                  replace hB2 := hB2.trans (h.mono hB2.size)
                  clear d0 d1 d2 d3 d4 x0 x1 hc h hX hW2
                  go_wp2
                  go_roundw
                  case rel => exact ⟨j + 1, by omega, by go_num, HST.out, hS2, hZ2, by first | exact hB2 | (rw [← hb0]; exact hB2)⟩
                  case measure => first | (simp [intOf]; omega) | (simp [intOf]; done)
                | false =>
                  have hrj := rst13_here hjE HQX.out (lck13_yes (r := ⟨⟨ix, st, cf, dt⟩, L⟩) hle hfb)
                  rw [hrs] at hrj
                  have HRJ := Lib.hid hrj
                  have hE1 : E = E[0] :: E.drop 1 := by rw [← List.drop_eq_getElem_cons hE0]; rfl
                  have hqb := (rst13_ix (r := ⟨⟨ix, st, cf, dt⟩, L⟩) (e0 := E[0]) (t := E.drop 1) (by rw [HLS.out, HEX.out]; simp only; omega) HFB.out ((congrArg (rst13 ⟨⟨ix, st, cf, dt⟩, L⟩) hE1.symm).trans hrj)).2
                  rw [HLS.out] at hqb
                  replace hqb : qx ≤ ix + (n : Int) + 1 := hqb
                  have hwq : IntKind.i64.wrap (qx - 1) = qx - 1 := by rw [IntKind.wrap_i64]; omega
                  obtain ⟨⟨ah, tb⟩, hth⟩ : ∃ p, trm13 ⟨⟨ix, st, cf, dt⟩, L⟩ (qx - 1) = p := ⟨_, rfl⟩
                  have HTH := Lib.hid hth
                  clear hfb hrs hrj hE1 hth
                  go_wp2_with fail
                  refine hc.mono ?_
                  rintro e k9 ⟨rfl, h⟩
                  replace hS2 := hS2.below h
                  replace hZ2 := hZ2.below h
                  replace hB2 := hB2.trans (h.mono hB2.size)
                  have hX3 := hX.below h
                  clear d0 d1 d2 d3 d4 x0 x1 hc h hX hW2
                  have d0 := hS2.cell (j := 0) rfl
                  have d1 := hS2.cell (j := 1) rfl
                  have d2 := hS2.cell (j := 2) rfl
                  have d3 := hS2.cell (j := 3) rfl
                  have d4 := hS2.cell (j := 4) rfl
                  have x0 := hX3.cell (j := 0) rfl
                  have x1 := hX3.cell (j := 1) rfl
                  go_wp2_with fail
                  refine (HTM.out k9 (by first | exact hB2 | (rw [hb0]; exact hB2)) (qx - 1) ah tb HTH.out).mono ?_
                  rintro e k10 ⟨rfl, h⟩
                  replace hS2 := hS2.below h
                  replace hZ2 := hZ2.below h
                  replace hB2 := hB2.trans (h.mono hB2.size)
                  replace hX3 := hX3.below h
                  clear d0 d1 d2 d3 d4 x0 x1 h
                  have d0 := hS2.cell (j := 0) rfl
                  have d1 := hS2.cell (j := 1) rfl
                  have d2 := hS2.cell (j := 2) rfl
                  have d3 := hS2.cell (j := 3) rfl
                  have d4 := hS2.cell (j := 4) rfl
                  have x0 := hX3.cell (j := 0) rfl
                  have x1 := hX3.cell (j := 1) rfl
                  obtain ⟨q, hq⟩ : ∃ q : Nat, qx - (ix + 1) = (q : Int) := ⟨(qx - (ix + 1)).toNat, by omega⟩
                  have hwqq : IntKind.i64.wrap (q : Int) = (q : Int) := by rw [IntKind.wrap_i64]; omega
                  have hwq2 : IntKind.i64.wrap (qx - (ix + 1)) = (q : Int) := by rw [IntKind.wrap_i64]; omega
                  go_wp2_with fail
                  clear d0 d1 d2 d3 d4 x1
                  replace x0 : k10.drew.cell? ⟨be, 0, none⟩ = some (.int .i64 qx) := x0
                  replace hS2 : Rt k10.drew b0 32 [.int .i64 ix, .int .i64 st, .string cf, .string dt, .slice A n c] := hS2
                  replace hZ2 : Rt k10.drew (b0 + 1) 32 [.int .i64 0, .int .i64 0, .string ⟨#[]⟩, .string ⟨#[]⟩, .slice none 0 0] := hZ2
                  replace hX3 : Rt k10.drew be 65 [.int .i64 qx, .int .i64 qy, .int .i64 qz, .string qd] := hX3
                  replace hB2 := hB2.drew
                  refine wp_region_noPanic ?_
                  refine wp_region_held_drew (S := fun W => Rt W b0 32 [.int .i64 ix, .int .i64 st, .string cf, .string dt, .slice A n c] ∧ W.cell? ⟨be, 0, none⟩ = some (.int .i64 qx)) (by kernel_rfl) ?_ (fun hHeld => ?_)
                  · exact ⟨hS2, x0⟩
                  generalize k10.drew = kz at *
                  refine tkH 0 (.pointer (some ⟨be, 0, none⟩)) rfl (fun w hSw => ?_) ?_
                  · (try dsimp only at hSw)
                    obtain ⟨hSx, e9⟩ := hSw
                    have q0 := Rt.cell (j := 0) hSx rfl
                    have q1 := Rt.cell (j := 1) hSx rfl
                    have q2 := Rt.cell (j := 2) hSx rfl
                    have q3 := Rt.cell (j := 3) hSx rfl
                    have q4 := Rt.cell (j := 4) hSx rfl
                    go_simp
                  try simp only [Act.put, List.setIfInBounds_toArray, List.set_cons_zero, List.set_cons_succ]
                  refine tkH 1 (.int .i64 qx) rfl (fun w hSw => ?_) ?_
                  · (try dsimp only at hSw)
                    obtain ⟨hSx, e9⟩ := hSw
                    have q0 := Rt.cell (j := 0) hSx rfl
                    have q1 := Rt.cell (j := 1) hSx rfl
                    have q2 := Rt.cell (j := 2) hSx rfl
                    have q3 := Rt.cell (j := 3) hSx rfl
                    have q4 := Rt.cell (j := 4) hSx rfl
                    go_simp
                  try simp only [Act.put, List.setIfInBounds_toArray, List.set_cons_zero, List.set_cons_succ]
                  refine tkH 2 (.agg #[.int .i64 ix, .int .i64 st, .string cf, .string dt, .slice A n c]) rfl (fun w hSw => ?_) ?_
                  · (try dsimp only at hSw)
                    obtain ⟨hSx, e9⟩ := hSw
                    have q0 := Rt.cell (j := 0) hSx rfl
                    have q1 := Rt.cell (j := 1) hSx rfl
                    have q2 := Rt.cell (j := 2) hSx rfl
                    have q3 := Rt.cell (j := 3) hSx rfl
                    have q4 := Rt.cell (j := 4) hSx rfl
                    go_simp
                  try simp only [Act.put, List.setIfInBounds_toArray, List.set_cons_zero, List.set_cons_succ]
                  refine stH 3 rfl (fun K hK => ?_)
                  go_simp
                  go_at_call 49
                  refine (HF.out _).mono ?_
                  rintro e k11 ⟨rfl, h⟩
                  replace hS2 := hS2.below h
                  replace hZ2 := hZ2.below h
                  replace hB2 := hB2.trans (h.mono hB2.size)
                  replace hX3 := hX3.below h
                  replace x0 := hX3.cell (j := 0) rfl
                  clear h
                  refine hK.out _ _ ?_ (fun hHeld => ?_)
                  · exact ⟨hS2, x0⟩
                  clear hK K
                  try simp only [Act.put, List.setIfInBounds_toArray, List.set_cons_zero, List.set_cons_succ]
                  refine tkH 4 (.int .i64 (q : Int)) rfl (fun w hSw => ?_) ?_
                  · (try dsimp only at hSw)
                    obtain ⟨hSx, e9⟩ := hSw
                    have q0 := Rt.cell (j := 0) hSx rfl
                    have q1 := Rt.cell (j := 1) hSx rfl
                    have q2 := Rt.cell (j := 2) hSx rfl
                    have q3 := Rt.cell (j := 3) hSx rfl
                    have q4 := Rt.cell (j := 4) hSx rfl
                    go_simp
                  try simp only [Act.put, List.setIfInBounds_toArray, List.set_cons_zero, List.set_cons_succ]
                  refine tkH 5 (.int .i64 (q : Int)) rfl (fun w hSw => ?_) ?_
                  · (try dsimp only at hSw)
                    obtain ⟨hSx, e9⟩ := hSw
                    have q0 := Rt.cell (j := 0) hSx rfl
                    have q1 := Rt.cell (j := 1) hSx rfl
                    have q2 := Rt.cell (j := 2) hSx rfl
                    have q3 := Rt.cell (j := 3) hSx rfl
                    have q4 := Rt.cell (j := 4) hSx rfl
                    go_simp
                  try simp only [Act.put, List.setIfInBounds_toArray, List.set_cons_zero, List.set_cons_succ]
                  refine wpAnyH_done (by kernel_rfl) ?_ _
                  refine NoPanic.normal ?_
                  clear x0

                  have d0 := hS2.cell (j := 0) rfl
                  have d1 := hS2.cell (j := 1) rfl
                  have d2 := hS2.cell (j := 2) rfl
                  have d3 := hS2.cell (j := 3) rfl
                  have d4 := hS2.cell (j := 4) rfl
                  have x1 := hX3.cell (j := 1) rfl
                  have hqn : q ≤ n := by omega
                  have hbi1 : IntKind.i64.wrap ((q : Int) + (m : Int)) = (q : Int) + (m : Int) := by rw [IntKind.wrap_i64]; omega
                  have hbi2 : IntKind.i64.wrap ((q : Int) + (m : Int) - (j : Int)) = (q : Int) + (m : Int) - (j : Int) := by rw [IntKind.wrap_i64]; omega
                  have hS := hS2
                  have hZ := hZ2
                  have hB : Below w.heap.size w k11 := by first | exact hB2 | (rw [hb0]; exact hB2)
                  have hcn : ¬ lst13 ⟨⟨ix, st, cf, dt⟩, L⟩ + 1 < E[0].ix := by rw [HLS.out, HEX.out]; simp only; omega
                  have HCN := Lib.hid hcn
                  have hX := hX3
                  clear hS2 hZ2 hB2 hX3 hcn
                  by_cases hat : qy < ah
                  · clear d0 d1 d2 d3 d4
                    have HPE := Lib.hid (HP.out.symm.trans (show put13 ⟨⟨ix, st, cf, dt⟩, L⟩ E = (⟨⟨ix, st, cf, dt⟩, L⟩, 0, false) from by
                      exact put13_stop hE0 HCN.out HFB.out HRJ.out (.inl (by rw [HTH.out]; exact hat))))
                    have d0 := hS.cell (j := 0) rfl
                    have d1 := hS.cell (j := 1) rfl
                    have d2 := hS.cell (j := 2) rfl
                    have d3 := hS.cell (j := 3) rfl
                    have d4 := hS.cell (j := 4) rfl
                    have z0 := hZ.cell (j := 0) rfl
                    have z1 := hZ.cell (j := 1) rfl
                    have z2 := hZ.cell (j := 2) rfl
                    have z3 := hZ.cell (j := 3) rfl
                    have z4 := hZ.cell (j := 4) rfl
                    have f0 := hZ.frz 0
                    have f1 := hZ.frz 1
                    have f2 := hZ.frz 2
                    have f3 := hZ.frz 3
                    have f4 := hZ.frz 4
                    have hB5 := (((((hB.setCell (p := ⟨b0 + 1, 0, none⟩) (by show w.heap.size ≤ b0 + 1; omega) (.int .i64 ix)).setCell (p := ⟨b0 + 1, 1, none⟩) (by show w.heap.size ≤ b0 + 1; omega) (.int .i64 st)).setCell (p := ⟨b0 + 1, 2, none⟩) (by show w.heap.size ≤ b0 + 1; omega) (.string cf)).setCell (p := ⟨b0 + 1, 3, none⟩) (by show w.heap.size ≤ b0 + 1; omega) (.string dt)).setCell (p := ⟨b0 + 1, 4, none⟩) (by show w.heap.size ≤ b0 + 1; omega) (.slice A n c))
                    have hZ5 := (((((hZ.set 0 (.int .i64 ix)).set 1 (.int .i64 st)).set 2 (.string cf)).set 3 (.string dt)).set 4 (.slice A n c))
                    obtain ⟨W5, hW5⟩ : ∃ W5, (((((k11.setCell ⟨b0 + 1, 0, none⟩ (.int .i64 ix)).setCell ⟨b0 + 1, 1, none⟩ (.int .i64 st)).setCell ⟨b0 + 1, 2, none⟩ (.string cf)).setCell ⟨b0 + 1, 3, none⟩ (.string dt)).setCell ⟨b0 + 1, 4, none⟩ (.slice A n c)) = W5 := ⟨_, rfl⟩
                    rw [hW5] at hB5 hZ5
                    have g0 := hZ5.cell (j := 0) rfl
                    have g1 := hZ5.cell (j := 1) rfl
                    have g2 := hZ5.cell (j := 2) rfl
                    have g3 := hZ5.cell (j := 3) rfl
                    have g4 := hZ5.cell (j := 4) rfl
                    have HW5 := Lib.hid hW5
                    clear hZ hZ5 hW5
                    go_wp2
                    rw [HW5.out]
                    obtain ⟨q1, q2, q3⟩ : r' = ⟨⟨ix, st, cf, dt⟩, L⟩ ∧ at' = 0 ∧ b = false := by
                      have h9 := HPE.out
                      injection h9 with a1 a2
                      injection a2 with a2 a3
                      exact ⟨a1, a2, a3⟩
                    refine bodyPost_ret (v := .tuple #[.agg #[.int .i64 ix, .int .i64 st, .string cf, .string dt, .slice A n c], .int .i64 0, .bool false]) ?_ rfl ?_
                    · simp [results, Try.results13, go_sem, g0, g1, g2, g3, g4]
                    · rw [q1, q2, q3]
                      refine ⟨.slice A n c, rfl, .inl ⟨rfl, rfl⟩, ?_⟩
                      first | exact hB5 | (rw [hb0]; exact hB5) | (rw [← hb0]; exact hB5)
                  · by_cases hbig : 200 < q + (m - j)
                    · have hbigi : (200 : Int) < (q : Int) + (m : Int) - (j : Int) := by omega
                      clear d0 d1 d2 d3 d4
                      have HPE := Lib.hid (HP.out.symm.trans (show put13 ⟨⟨ix, st, cf, dt⟩, L⟩ E = (⟨⟨ix, st, cf, dt⟩, L⟩, 0, false) from by
                        exact put13_stop hE0 HCN.out HFB.out HRJ.out (.inr (by rw [List.length_cons, List.length_drop, ← HM.out]; show 200 < (qx - 1 - ix).toNat + (m - (j + 1) + 1); omega))))
                      have d0 := hS.cell (j := 0) rfl
                      have d1 := hS.cell (j := 1) rfl
                      have d2 := hS.cell (j := 2) rfl
                      have d3 := hS.cell (j := 3) rfl
                      have d4 := hS.cell (j := 4) rfl
                      have z0 := hZ.cell (j := 0) rfl
                      have z1 := hZ.cell (j := 1) rfl
                      have z2 := hZ.cell (j := 2) rfl
                      have z3 := hZ.cell (j := 3) rfl
                      have z4 := hZ.cell (j := 4) rfl
                      have f0 := hZ.frz 0
                      have f1 := hZ.frz 1
                      have f2 := hZ.frz 2
                      have f3 := hZ.frz 3
                      have f4 := hZ.frz 4
                      have hB5 := (((((hB.setCell (p := ⟨b0 + 1, 0, none⟩) (by show w.heap.size ≤ b0 + 1; omega) (.int .i64 ix)).setCell (p := ⟨b0 + 1, 1, none⟩) (by show w.heap.size ≤ b0 + 1; omega) (.int .i64 st)).setCell (p := ⟨b0 + 1, 2, none⟩) (by show w.heap.size ≤ b0 + 1; omega) (.string cf)).setCell (p := ⟨b0 + 1, 3, none⟩) (by show w.heap.size ≤ b0 + 1; omega) (.string dt)).setCell (p := ⟨b0 + 1, 4, none⟩) (by show w.heap.size ≤ b0 + 1; omega) (.slice A n c))
                      have hZ5 := (((((hZ.set 0 (.int .i64 ix)).set 1 (.int .i64 st)).set 2 (.string cf)).set 3 (.string dt)).set 4 (.slice A n c))
                      obtain ⟨W5, hW5⟩ : ∃ W5, (((((k11.setCell ⟨b0 + 1, 0, none⟩ (.int .i64 ix)).setCell ⟨b0 + 1, 1, none⟩ (.int .i64 st)).setCell ⟨b0 + 1, 2, none⟩ (.string cf)).setCell ⟨b0 + 1, 3, none⟩ (.string dt)).setCell ⟨b0 + 1, 4, none⟩ (.slice A n c)) = W5 := ⟨_, rfl⟩
                      rw [hW5] at hB5 hZ5
                      have g0 := hZ5.cell (j := 0) rfl
                      have g1 := hZ5.cell (j := 1) rfl
                      have g2 := hZ5.cell (j := 2) rfl
                      have g3 := hZ5.cell (j := 3) rfl
                      have g4 := hZ5.cell (j := 4) rfl
                      have HW5 := Lib.hid hW5
                      clear hZ hZ5 hW5
                      go_wp2
                      rw [HW5.out]
                      obtain ⟨q1, q2, q3⟩ : r' = ⟨⟨ix, st, cf, dt⟩, L⟩ ∧ at' = 0 ∧ b = false := by
                        have h9 := HPE.out
                        injection h9 with a1 a2
                        injection a2 with a2 a3
                        exact ⟨a1, a2, a3⟩
                      refine bodyPost_ret (v := .tuple #[.agg #[.int .i64 ix, .int .i64 st, .string cf, .string dt, .slice A n c], .int .i64 0, .bool false]) ?_ rfl ?_
                      · simp [results, Try.results13, go_sem, g0, g1, g2, g3, g4]
                      · rw [q1, q2, q3]
                        refine ⟨.slice A n c, rfl, .inl ⟨rfl, rfl⟩, ?_⟩
                        first | exact hB5 | (rw [hb0]; exact hB5) | (rw [← hb0]; exact hB5)
                    · have hbigi : ¬ (200 : Int) < (q : Int) + (m : Int) - (j : Int) := by omega
                      have hpg := put13_go hE0 HCN.out HFB.out HRJ.out (by
                        rw [HTH.out]
                        rintro (h9 | h9)
                        · exact hat h9
                        · rw [List.length_cons, List.length_drop, ← HM.out] at h9
                          apply hbig
                          have h8 : (qx - 1 - ix).toNat + (m - (j + 1) + 1) = q + (m - j) := by omega
                          rw [← h8]; exact h9)
                      have HPG := Lib.hid (HP.out.symm.trans hpg)
                      have htl : (L.take q).length = q := by rw [List.length_take, HN.out]; omega
                      have hdl : (E.drop j).length = m - j := by rw [List.length_drop, ← HM.out]
                      have HTL := Lib.hid htl
                      have HDL := Lib.hid hdl
                      have HEJ := Lib.hid (show (⟨qx, qy, qz, qd⟩ : Ent) :: E.drop (j + 1) = E.drop j from by rw [List.drop_eq_getElem_cons hjE, HQX.out])
                      have hqi : (q : Int) ≤ (c : Int) := by omega
                      have hqi0 : ¬ (q : Int) < 0 := by omega
                      have hqc : q ≤ c := by omega
                      have hmd : m ≤ d := HE.out.len.2
                      have hdj : ¬ d = j := by omega
                      have hmdi : (m : Int) ≤ (d : Int) := by omega
                      have hji0 : ¬ (j : Int) < 0 := by omega
                      have hjmi : (j : Int) ≤ (m : Int) := by omega
                      have hjmn : j ≤ m := by omega
                      clear hpg htl hdl
                      go_wp2_with fail
                      clear d0 d1 d2 d3 d4 x1
                      replace hS : Rt k11.drew b0 32 [.int .i64 ix, .int .i64 st, .string cf, .string dt, .slice A n c] := hS
                      replace hZ : Rt k11.drew (b0 + 1) 32 [.int .i64 0, .int .i64 0, .string ⟨#[]⟩, .string ⟨#[]⟩, .slice none 0 0] := hZ
                      replace hB := hB.drew
                      replace hX : Rt k11.drew be 65 [.int .i64 qx, .int .i64 qy, .int .i64 qz, .string qd] := hX
                      refine wp_region_noPanic ?_
                      refine wp_region_held_drew (S := fun W => Rt W b0 32 [.int .i64 ix, .int .i64 st, .string cf, .string dt, .slice A n c]) (by kernel_rfl) ?_ (fun hHeld => ?_)
                      · exact hS
                      generalize k11.drew = kx at *
                      obtain ⟨bk, hbk⟩ : ∃ bk, kx.heap.size = bk := ⟨_, rfl⟩
                      have hbe9 : be < bk := by rw [← hbk]; exact hX.lt
                      have hb09 : b0 + 1 < bk := by rw [← hbk]; exact hZ.lt
                      have hzk : bk ≤ kx.heap.size := by rw [hbk]; exact Nat.le_refl _
                      clear hbk
                      refine tkH 0 (.pointer (some ⟨b0, 0, none⟩)) rfl (fun w hSw => ?_) ?_
                      · (try dsimp only at hSw)
                        go_simp
                      try simp only [Act.put, List.setIfInBounds_toArray, List.set_cons_zero, List.set_cons_succ]
                      refine tkH 1 (.agg #[.int .i64 ix, .int .i64 st, .string cf, .string dt]) rfl (fun w hSw => ?_) ?_
                      · (try dsimp only at hSw)
                        have hSx := hSw
                        have q0 := Rt.cell (j := 0) hSx rfl
                        have q1 := Rt.cell (j := 1) hSx rfl
                        have q2 := Rt.cell (j := 2) hSx rfl
                        have q3 := Rt.cell (j := 3) hSx rfl
                        have q4 := Rt.cell (j := 4) hSx rfl
                        go_simp
                      try simp only [Act.put, List.setIfInBounds_toArray, List.set_cons_zero, List.set_cons_succ]
                      refine tkH 2 (.pointer (some ⟨b0, 4, none⟩)) rfl (fun w hSw => ?_) ?_
                      · (try dsimp only at hSw)
                        go_simp
                      try simp only [Act.put, List.setIfInBounds_toArray, List.set_cons_zero, List.set_cons_succ]
                      refine tkH 3 (.slice A n c) rfl (fun w hSw => ?_) ?_
                      · (try dsimp only at hSw)
                        have hSx := hSw
                        have q0 := Rt.cell (j := 0) hSx rfl
                        have q1 := Rt.cell (j := 1) hSx rfl
                        have q2 := Rt.cell (j := 2) hSx rfl
                        have q3 := Rt.cell (j := 3) hSx rfl
                        have q4 := Rt.cell (j := 4) hSx rfl
                        go_simp
                      try simp only [Act.put, List.setIfInBounds_toArray, List.set_cons_zero, List.set_cons_succ]
                      refine tkH 4 (.int .i64 (q : Int)) rfl (fun w hSw => ?_) ?_
                      · (try dsimp only at hSw)
                        go_simp
                      try simp only [Act.put, List.setIfInBounds_toArray, List.set_cons_zero, List.set_cons_succ]
                      refine tkH 5 (.slice A q c) rfl (fun w hSw => ?_) ?_
                      · (try dsimp only at hSw)
                        go_simp
                      try simp only [Act.put, List.setIfInBounds_toArray, List.set_cons_zero, List.set_cons_succ]
                      refine tkH 7 (.slice (some ⟨g, o, none⟩) m d) rfl (fun w hSw => ?_) ?_
                      · (try dsimp only at hSw)
                        go_simp
                      try simp only [Act.put, List.setIfInBounds_toArray, List.set_cons_zero, List.set_cons_succ]
                      refine tkH 8 (.int .i64 (j : Int)) rfl (fun w hSw => ?_) ?_
                      · (try dsimp only at hSw)
                        go_simp
                      try simp only [Act.put, List.setIfInBounds_toArray, List.set_cons_zero, List.set_cons_succ]
                      refine tkH 9 (.slice (some ⟨g, o + j * 4, none⟩) (m - j) (d - j)) rfl (fun w hSw => ?_) ?_
                      · (try dsimp only at hSw)
                        go_simp
                      try simp only [Act.put, List.setIfInBounds_toArray, List.set_cons_zero, List.set_cons_succ]
                      refine stH2 6 12 rfl rfl (fun K hK => ?_) (fun K hK => ?_)
                      · refine wp_append_en _ _ rfl bk N (.slice none 0 0) (.slice A q c) [] (L.take q) rfl (OwnEn.nil _ _) rfl ((HR.out.below hB).take q (by rw [HN.out]; exact hqn)) (by rw [HTL.out]; simp; omega) hzk ?_
                        intro v1 k6 g1 g2 g3
                        rw [List.nil_append] at g1
                        obtain ⟨A1, c1, hv1⟩ := g1.slice
                        rw [HTL.out] at hv1
                        subst hv1
                        replace hS := hS.under g2 (by omega)
                        replace hZ := hZ.under g2 (by omega)
                        replace hX := hX.under g2 hbe9
                        replace hzk := Nat.le_trans hzk g2.size
                        replace hB := hB.trans (g2.mono (show w.heap.size ≤ bk by omega))
                        have HG1 := Lib.hid (fun x (hx : (Value.slice A1 q c1).ownBlock = some x) => (g1.lt x hx).2)
                        refine hK.out _ _ ?_ (fun hHeld => ?_)
                        · exact hS
                        clear hK K
                        try simp only [Act.put, List.setIfInBounds_toArray, List.set_cons_zero, List.set_cons_succ]
                        refine stH2 10 12 rfl rfl (fun K hK => ?_) (fun K hK => ?_)
                        · refine wp_append_en _ _ rfl bk M (.slice A1 q c1) (.slice (some ⟨g, o + j * 4, none⟩) (m - j) (d - j)) (L.take q) (E.drop j) rfl g1 rfl (by
                            have h9 := (HE.out.below hB).drop j (by rw [← HM.out]; exact hjmn)
                            rw [if_neg hdj, ← HM.out, add_lit_10] at h9
                            exact h9) (by rw [HTL.out, HDL.out]; omega) hzk ?_
                          intro v2 k7 p1 p2 p3
                          obtain ⟨A2, c2, hv2⟩ := p1.slice
                          obtain ⟨ln, hln⟩ : ∃ ln, (L.take q ++ E.drop j).length = ln := ⟨_, rfl⟩
                          rw [hln] at hv2
                          subst hv2
                          replace hS := hS.under p2 (by omega)
                          replace hZ := hZ.under p2 (by omega)
                          replace hX := hX.under p2 hbe9
                          replace hzk := Nat.le_trans hzk p2.size
                          replace hB := hB.trans (p2.mono (show w.heap.size ≤ bk by omega))
                          have HP1 := Lib.hid (fun x (hx : (Value.slice A2 ln c2).ownBlock = some x) => (p1.lt x hx).2)
                          refine hK.out _ _ ?_ (fun hHeld => ?_)
                          · exact hS
                          clear hK K
                          try simp only [Act.put, List.setIfInBounds_toArray, List.set_cons_zero, List.set_cons_succ]
                          refine tkH 11 (.agg #[.int .i64 ix, .int .i64 st, .string cf, .string dt, .slice A2 ln c2]) rfl (fun w hSw => ?_) ?_
                          · (try dsimp only at hSw)
                            go_simp
                          try simp only [Act.put, List.setIfInBounds_toArray, List.set_cons_zero, List.set_cons_succ]
                          refine stH 12 rfl (fun K hK => ?_)
                          obtain ⟨bo, hbo⟩ : ∃ bo, k7.heap.size = bo := ⟨_, rfl⟩
                          obtain ⟨ka, hka⟩ : ∃ ka, k7.alloc (.cells #[.int .i64 0, .int .i64 0, .string ⟨#[]⟩, .string ⟨#[]⟩, .slice none 0 0] 32) = ka := ⟨_, rfl⟩
                          have hba : Below k7.heap.size k7 ka := by rw [← hka]; exact below_new _ _
                          have hT : Rt ka bo 32 [.int .i64 0, .int .i64 0, .string ⟨#[]⟩, .string ⟨#[]⟩, .slice none 0 0] := by rw [← hka, ← hbo]; exact Rt.new _ _ _
                          have hbz : bk ≤ bo := by rw [← hbo]; exact hzk
                          go_simp
                          try rw [hka]
                          try rw [hbo]
                          replace hS := hS.below hba
                          replace hZ := hZ.below hba
                          replace hX := hX.below hba
                          replace hzk := Nat.le_trans hzk hba.size
                          replace hB := hB.trans (hba.mono hB.size)
                          replace p1 := p1.below hba
                          have hno : ∀ x, (Value.slice A2 ln c2).ownBlock = some x → ¬ x = bo := fun x hx e => by have := HP1.out x hx; omega
                          refine hK.out _ _ ?_ (fun hHeld => ?_)
                          · exact hS
                          clear hK K
                          try simp only [Act.put, List.setIfInBounds_toArray, List.set_cons_zero, List.set_cons_succ]
                          refine stH 13 rfl (fun K hK => ?_)
                          have t0 := hT.cell (j := 0) rfl
                          have t1 := hT.cell (j := 1) rfl
                          have t2 := hT.cell (j := 2) rfl
                          have t3 := hT.cell (j := 3) rfl
                          have t4 := hT.cell (j := 4) rfl
                          have f0 := hT.frz 0
                          have f1 := hT.frz 1
                          have f2 := hT.frz 2
                          have f3 := hT.frz 3
                          have f4 := hT.frz 4
                          obtain ⟨W6, hW6⟩ : ∃ W6, (((((ka.setCell ⟨bo, 0, none⟩ (.int .i64 ix)).setCell ⟨bo, 1, none⟩ (.int .i64 st)).setCell ⟨bo, 2, none⟩ (.string cf)).setCell ⟨bo, 3, none⟩ (.string dt)).setCell ⟨bo, 4, none⟩ (.slice A2 ln c2)) = W6 := ⟨_, rfl⟩
                          have hT6 := (((((hT.set 0 (.int .i64 ix)).set 1 (.int .i64 st)).set 2 (.string cf)).set 3 (.string dt)).set 4 (.slice A2 ln c2))
                          have hS6 := (Rt.other (Rt.other (Rt.other (Rt.other (Rt.other hS 0 (.int .i64 ix) (show b0 ≠ bo by omega)) 1 (.int .i64 st) (show b0 ≠ bo by omega)) 2 (.string cf) (show b0 ≠ bo by omega)) 3 (.string dt) (show b0 ≠ bo by omega)) 4 (.slice A2 ln c2) (show b0 ≠ bo by omega))
                          have hZ6 := (Rt.other (Rt.other (Rt.other (Rt.other (Rt.other hZ 0 (.int .i64 ix) (show b0 + 1 ≠ bo by omega)) 1 (.int .i64 st) (show b0 + 1 ≠ bo by omega)) 2 (.string cf) (show b0 + 1 ≠ bo by omega)) 3 (.string dt) (show b0 + 1 ≠ bo by omega)) 4 (.slice A2 ln c2) (show b0 + 1 ≠ bo by omega))
                          have hX6 := (Rt.other (Rt.other (Rt.other (Rt.other (Rt.other hX 0 (.int .i64 ix) (show be ≠ bo by omega)) 1 (.int .i64 st) (show be ≠ bo by omega)) 2 (.string cf) (show be ≠ bo by omega)) 3 (.string dt) (show be ≠ bo by omega)) 4 (.slice A2 ln c2) (show be ≠ bo by omega))
                          have hB6 := (((((hB.setCell (p := ⟨bo, 0, none⟩) (by show w.heap.size ≤ bo; omega) (.int .i64 ix)).setCell (p := ⟨bo, 1, none⟩) (by show w.heap.size ≤ bo; omega) (.int .i64 st)).setCell (p := ⟨bo, 2, none⟩) (by show w.heap.size ≤ bo; omega) (.string cf)).setCell (p := ⟨bo, 3, none⟩) (by show w.heap.size ≤ bo; omega) (.string dt)).setCell (p := ⟨bo, 4, none⟩) (by show w.heap.size ≤ bo; omega) (.slice A2 ln c2))
                          rw [hW6] at hT6 hS6 hZ6 hX6 hB6
                          have hO6 : OwnEn bk (.slice A2 ln c2) (L.take q ++ E.drop j) W6 := p1.off (S := fun x => x = bo) (show Off (fun x => x = bo) ka W6 from by rw [← hW6]; exact Off.set (Off.set (Off.set (Off.set (Off.set (Off.refl _ ka) (.inl rfl)) (.inl rfl)) (.inl rfl)) (.inl rfl)) (.inl rfl)) hno
                          go_simp
                          try rw [hW6]
                          clear t0 t1 t2 t3 t4 f0 f1 f2 f3 f4
                          refine hK.out _ _ ?_ (fun hHeld => ?_)
                          · exact hS6
                          clear hK K
                          try simp only [Act.put, List.setIfInBounds_toArray, List.set_cons_zero, List.set_cons_succ]
                          refine wpAnyH_done (by kernel_rfl) ?_ _
                          refine NoPanic.normal ?_
                          have HO6 := Lib.hid hO6
                          have HB6 := Lib.hid hB6
                          have hZ := hZ6
                          have hB := hB6
                          have hS := hT6
                          have hX := hX6
                          clear hS6 hZ6 hX6 hB6 hT6 hO6 hW6
                          have hO : OwnEn bk (.slice A2 ln c2) (L.take q ++ E.drop j) W6.drew := HO6.out
                          clear HO6 HB6
                          replace hS : Rt W6.drew bo 32 [.int .i64 ix, .int .i64 st, .string cf, .string dt, .slice A2 ln c2] := hS
                          replace hZ : Rt W6.drew (b0 + 1) 32 [.int .i64 0, .int .i64 0, .string ⟨#[]⟩, .string ⟨#[]⟩, .slice none 0 0] := hZ
                          replace hX : Rt W6.drew be 65 [.int .i64 qx, .int .i64 qy, .int .i64 qz, .string qd] := hX
                          replace hB := hB.drew
                          have x0 := hX.cell (j := 0) rfl
                          go_wp2_with fail
                          refine wp_region_noPanic ?_
                          refine wp_region_held_drew (S := fun W => Rt W bo 32 [.int .i64 ix, .int .i64 st, .string cf, .string dt, .slice A2 ln c2] ∧ W.cell? ⟨be, 0, none⟩ = some (.int .i64 qx)) (by kernel_rfl) ?_ (fun hHeld => ?_)
                          · exact ⟨hS, x0⟩
                          generalize W6.drew = k20 at *
                          refine tkH 0 (.agg #[.int .i64 ix, .int .i64 st, .string cf, .string dt, .slice A2 ln c2]) rfl (fun w hSw => ?_) ?_
                          · (try dsimp only at hSw)
                            have q0 := Rt.cell (j := 0) hSw.1 rfl
                            have q1 := Rt.cell (j := 1) hSw.1 rfl
                            have q2 := Rt.cell (j := 2) hSw.1 rfl
                            have q3 := Rt.cell (j := 3) hSw.1 rfl
                            have q4 := Rt.cell (j := 4) hSw.1 rfl
                            have e9 := hSw.2
                            go_simp
                          try simp only [Act.put, List.setIfInBounds_toArray, List.set_cons_zero, List.set_cons_succ]
                          refine tkH 1 (.pointer (some ⟨be, 0, none⟩)) rfl (fun w hSw => ?_) ?_
                          · (try dsimp only at hSw)
                            go_simp
                          try simp only [Act.put, List.setIfInBounds_toArray, List.set_cons_zero, List.set_cons_succ]
                          refine tkH 2 (.int .i64 qx) rfl (fun w hSw => ?_) ?_
                          · (try dsimp only at hSw)
                            have q0 := Rt.cell (j := 0) hSw.1 rfl
                            have q1 := Rt.cell (j := 1) hSw.1 rfl
                            have q2 := Rt.cell (j := 2) hSw.1 rfl
                            have q3 := Rt.cell (j := 3) hSw.1 rfl
                            have q4 := Rt.cell (j := 4) hSw.1 rfl
                            have e9 := hSw.2
                            go_simp
                          try simp only [Act.put, List.setIfInBounds_toArray, List.set_cons_zero, List.set_cons_succ]
                          refine stH 3 rfl (fun K hK => ?_)
                          have hS5 := (Rt.other (Rt.other (Rt.other (Rt.other (Rt.other hS 0 (.int .i64 ix) (show bo ≠ b0 + 1 by omega)) 1 (.int .i64 st) (show bo ≠ b0 + 1 by omega)) 2 (.string cf) (show bo ≠ b0 + 1 by omega)) 3 (.string dt) (show bo ≠ b0 + 1 by omega)) 4 (.slice A2 ln c2) (show bo ≠ b0 + 1 by omega))
                          have hX5 := (Rt.other (Rt.other (Rt.other (Rt.other (Rt.other hX 0 (.int .i64 ix) (show be ≠ b0 + 1 by omega)) 1 (.int .i64 st) (show be ≠ b0 + 1 by omega)) 2 (.string cf) (show be ≠ b0 + 1 by omega)) 3 (.string dt) (show be ≠ b0 + 1 by omega)) 4 (.slice A2 ln c2) (show be ≠ b0 + 1 by omega))
                          have z0 := hZ.cell (j := 0) rfl
                          have z1 := hZ.cell (j := 1) rfl
                          have z2 := hZ.cell (j := 2) rfl
                          have z3 := hZ.cell (j := 3) rfl
                          have z4 := hZ.cell (j := 4) rfl
                          have f0 := hZ.frz 0
                          have f1 := hZ.frz 1
                          have f2 := hZ.frz 2
                          have f3 := hZ.frz 3
                          have f4 := hZ.frz 4
                          have hB5 := (((((hB.setCell (p := ⟨b0 + 1, 0, none⟩) (by show w.heap.size ≤ b0 + 1; omega) (.int .i64 ix)).setCell (p := ⟨b0 + 1, 1, none⟩) (by show w.heap.size ≤ b0 + 1; omega) (.int .i64 st)).setCell (p := ⟨b0 + 1, 2, none⟩) (by show w.heap.size ≤ b0 + 1; omega) (.string cf)).setCell (p := ⟨b0 + 1, 3, none⟩) (by show w.heap.size ≤ b0 + 1; omega) (.string dt)).setCell (p := ⟨b0 + 1, 4, none⟩) (by show w.heap.size ≤ b0 + 1; omega) (.slice A2 ln c2))
                          have hZ5 := (((((hZ.set 0 (.int .i64 ix)).set 1 (.int .i64 st)).set 2 (.string cf)).set 3 (.string dt)).set 4 (.slice A2 ln c2))
                          obtain ⟨W5, hW5⟩ : ∃ W5, (((((k20.setCell ⟨b0 + 1, 0, none⟩ (.int .i64 ix)).setCell ⟨b0 + 1, 1, none⟩ (.int .i64 st)).setCell ⟨b0 + 1, 2, none⟩ (.string cf)).setCell ⟨b0 + 1, 3, none⟩ (.string dt)).setCell ⟨b0 + 1, 4, none⟩ (.slice A2 ln c2)) = W5 := ⟨_, rfl⟩
                          rw [hW5] at hB5 hZ5
                          have g0 := hZ5.cell (j := 0) rfl
                          have g1 := hZ5.cell (j := 1) rfl
                          have g2 := hZ5.cell (j := 2) rfl
                          have g3 := hZ5.cell (j := 3) rfl
                          have g4 := hZ5.cell (j := 4) rfl
                          rw [hW5] at hS5 hX5
                          have hno5 : OwnEn bk (.slice A2 ln c2) (L.take q ++ E.drop j) W5 := hO.off (S := fun x => x = b0 + 1) (show Off (fun x => x = b0 + 1) k20 W5 from by rw [← hW5]; exact Off.set (Off.set (Off.set (Off.set (Off.set (Off.refl _ k20) (.inl rfl)) (.inl rfl)) (.inl rfl)) (.inl rfl)) (.inl rfl)) (fun x hx e => by have := (hO.lt _ hx).1; omega)
                          have x5 := hX5.cell (j := 0) rfl
                          go_simp
                          try rw [hW5]
                          refine hK.out _ _ ?_ (fun hHeld => ?_)
                          · exact ⟨hS5, x5⟩
                          clear hK K
                          try simp only [Act.put, List.setIfInBounds_toArray, List.set_cons_zero, List.set_cons_succ]
                          have HO5 := Lib.hid hno5
                          have HB5 := Lib.hid hB5
                          clear hno5 hB5 hZ5 hZ hW5 hS hX hO hX5 x0
                          refine tkH 4 (.int .i64 qx) rfl (fun w hSw => ?_) ?_
                          · (try dsimp only at hSw)
                            go_simp
                          try simp only [Act.put, List.setIfInBounds_toArray, List.set_cons_zero, List.set_cons_succ]
                          refine tkH 5 (.bool true) rfl (fun w hSw => ?_) ?_
                          · (try dsimp only at hSw)
                            go_simp
                          try simp only [Act.put, List.setIfInBounds_toArray, List.set_cons_zero, List.set_cons_succ]
                          refine wpAnyH_done (by kernel_rfl) ?_ _
                          refine NoPanic.normal ?_
                          go_wp2
                          obtain ⟨q1, q2, q3⟩ : r' = ⟨⟨ix, st, cf, dt⟩, L.take q ++ E.drop j⟩ ∧ at' = qx ∧ b = true := by
                            have h9 := HPG.out
                            rw [show (qx - 1 - ix).toNat = q by omega, HEJ.out] at h9
                            injection h9 with a1 a2
                            injection a2 with a2 a3
                            exact ⟨a1, a2, a3⟩
                          refine bodyPost_ret (v := .tuple #[.agg #[.int .i64 ix, .int .i64 st, .string cf, .string dt, .slice A2 ln c2], .int .i64 qx, .bool true]) ?_ rfl ?_
                          · simp [results, Try.results13, go_sem, g0, g1, g2, g3, g4]
                          · rw [q1, q2, q3]
                            refine ⟨.slice A2 ln c2, rfl, .inr ?_, ?_⟩
                            · exact HO5.out.down (show w.heap.size ≤ bk by omega)
                            · first | exact HB5.out | (rw [hb0]; exact HB5.out) | (rw [← hb0]; exact HB5.out)
                        · obtain ⟨bo, hbo⟩ : ∃ bo, k6.heap.size = bo := ⟨_, rfl⟩
                          obtain ⟨ka, hka⟩ : ∃ ka, k6.alloc (.cells #[.int .i64 0, .int .i64 0, .string ⟨#[]⟩, .string ⟨#[]⟩, .slice none 0 0] 32) = ka := ⟨_, rfl⟩
                          have hba : Below k6.heap.size k6 ka := by rw [← hka]; exact below_new _ _
                          have hT : Rt ka bo 32 [.int .i64 0, .int .i64 0, .string ⟨#[]⟩, .string ⟨#[]⟩, .slice none 0 0] := by rw [← hka, ← hbo]; exact Rt.new _ _ _
                          have hbz : bk ≤ bo := by rw [← hbo]; exact hzk
                          go_simp
                          try rw [hka]
                          try rw [hbo]
                          replace hS := hS.below hba
                          replace hZ := hZ.below hba
                          replace hX := hX.below hba
                          replace hzk := Nat.le_trans hzk hba.size
                          replace hB := hB.trans (hba.mono hB.size)
                          replace g1 := g1.below hba
                          have hn1 : ∀ x, (Value.slice A1 q c1).ownBlock = some x → ¬ x = bo := fun x hx e => by have := HG1.out x hx; omega
                          refine hK.out _ _ ?_ (fun hHeld => ?_)
                          · exact hS
                          clear hK K
                          try simp only [Act.put, List.setIfInBounds_toArray, List.set_cons_zero, List.set_cons_succ]
                          refine stH 10 rfl (fun K hK => ?_)
                          refine wp_append_en _ _ rfl bk M (.slice A1 q c1) (.slice (some ⟨g, o + j * 4, none⟩) (m - j) (d - j)) (L.take q) (E.drop j) rfl g1 rfl (by
                            have h9 := (HE.out.below hB).drop j (by rw [← HM.out]; exact hjmn)
                            rw [if_neg hdj, ← HM.out, add_lit_10] at h9
                            exact h9) (by rw [HTL.out, HDL.out]; omega) hzk ?_
                          intro v2 k7 p1 p2 p3
                          obtain ⟨A2, c2, hv2⟩ := p1.slice
                          obtain ⟨ln, hln⟩ : ∃ ln, (L.take q ++ E.drop j).length = ln := ⟨_, rfl⟩
                          rw [hln] at hv2
                          subst hv2
                          replace hS := hS.under p2 (by omega)
                          replace hZ := hZ.under p2 (by omega)
                          replace hX := hX.under p2 hbe9
                          replace hzk := Nat.le_trans hzk p2.size
                          replace hB := hB.trans (p2.mono (show w.heap.size ≤ bk by omega))
                          have hT2 := hT.grown11 p3.1 (fun e => hn1 bo e rfl)
                          have hno : ∀ x, (Value.slice A2 ln c2).ownBlock = some x → ¬ x = bo := fun x hx e => by
                            rcases p3.2 with e1 | e1
                            · exact hn1 x (by rw [← e1]; exact hx) e
                            · rw [e1] at hx; injection hx with hx; have := hT.lt; omega
                          replace hT := hT2
                          refine hK.out _ _ ?_ (fun hHeld => ?_)
                          · exact hS
                          clear hK K
                          try simp only [Act.put, List.setIfInBounds_toArray, List.set_cons_zero, List.set_cons_succ]
                          refine tkH 11 (.agg #[.int .i64 ix, .int .i64 st, .string cf, .string dt, .slice A2 ln c2]) rfl (fun w hSw => ?_) ?_
                          · (try dsimp only at hSw)
                            go_simp
                          try simp only [Act.put, List.setIfInBounds_toArray, List.set_cons_zero, List.set_cons_succ]
                          refine stH 13 rfl (fun K hK => ?_)
                          have t0 := hT.cell (j := 0) rfl
                          have t1 := hT.cell (j := 1) rfl
                          have t2 := hT.cell (j := 2) rfl
                          have t3 := hT.cell (j := 3) rfl
                          have t4 := hT.cell (j := 4) rfl
                          have f0 := hT.frz 0
                          have f1 := hT.frz 1
                          have f2 := hT.frz 2
                          have f3 := hT.frz 3
                          have f4 := hT.frz 4
                          obtain ⟨W6, hW6⟩ : ∃ W6, (((((k7.setCell ⟨bo, 0, none⟩ (.int .i64 ix)).setCell ⟨bo, 1, none⟩ (.int .i64 st)).setCell ⟨bo, 2, none⟩ (.string cf)).setCell ⟨bo, 3, none⟩ (.string dt)).setCell ⟨bo, 4, none⟩ (.slice A2 ln c2)) = W6 := ⟨_, rfl⟩
                          have hT6 := (((((hT.set 0 (.int .i64 ix)).set 1 (.int .i64 st)).set 2 (.string cf)).set 3 (.string dt)).set 4 (.slice A2 ln c2))
                          have hS6 := (Rt.other (Rt.other (Rt.other (Rt.other (Rt.other hS 0 (.int .i64 ix) (show b0 ≠ bo by omega)) 1 (.int .i64 st) (show b0 ≠ bo by omega)) 2 (.string cf) (show b0 ≠ bo by omega)) 3 (.string dt) (show b0 ≠ bo by omega)) 4 (.slice A2 ln c2) (show b0 ≠ bo by omega))
                          have hZ6 := (Rt.other (Rt.other (Rt.other (Rt.other (Rt.other hZ 0 (.int .i64 ix) (show b0 + 1 ≠ bo by omega)) 1 (.int .i64 st) (show b0 + 1 ≠ bo by omega)) 2 (.string cf) (show b0 + 1 ≠ bo by omega)) 3 (.string dt) (show b0 + 1 ≠ bo by omega)) 4 (.slice A2 ln c2) (show b0 + 1 ≠ bo by omega))
                          have hX6 := (Rt.other (Rt.other (Rt.other (Rt.other (Rt.other hX 0 (.int .i64 ix) (show be ≠ bo by omega)) 1 (.int .i64 st) (show be ≠ bo by omega)) 2 (.string cf) (show be ≠ bo by omega)) 3 (.string dt) (show be ≠ bo by omega)) 4 (.slice A2 ln c2) (show be ≠ bo by omega))
                          have hB6 := (((((hB.setCell (p := ⟨bo, 0, none⟩) (by show w.heap.size ≤ bo; omega) (.int .i64 ix)).setCell (p := ⟨bo, 1, none⟩) (by show w.heap.size ≤ bo; omega) (.int .i64 st)).setCell (p := ⟨bo, 2, none⟩) (by show w.heap.size ≤ bo; omega) (.string cf)).setCell (p := ⟨bo, 3, none⟩) (by show w.heap.size ≤ bo; omega) (.string dt)).setCell (p := ⟨bo, 4, none⟩) (by show w.heap.size ≤ bo; omega) (.slice A2 ln c2))
                          rw [hW6] at hT6 hS6 hZ6 hX6 hB6
                          have hO6 : OwnEn bk (.slice A2 ln c2) (L.take q ++ E.drop j) W6 := p1.off (S := fun x => x = bo) (show Off (fun x => x = bo) k7 W6 from by rw [← hW6]; exact Off.set (Off.set (Off.set (Off.set (Off.set (Off.refl _ k7) (.inl rfl)) (.inl rfl)) (.inl rfl)) (.inl rfl)) (.inl rfl)) hno
                          go_simp
                          try rw [hW6]
                          clear t0 t1 t2 t3 t4 f0 f1 f2 f3 f4
                          refine hK.out _ _ ?_ (fun hHeld => ?_)
                          · exact hS6
                          clear hK K
                          try simp only [Act.put, List.setIfInBounds_toArray, List.set_cons_zero, List.set_cons_succ]
                          refine wpAnyH_done (by kernel_rfl) ?_ _
                          refine NoPanic.normal ?_
                          have HO6 := Lib.hid hO6
                          have HB6 := Lib.hid hB6
                          have hZ := hZ6
                          have hB := hB6
                          have hS := hT6
                          have hX := hX6
                          clear hS6 hZ6 hX6 hB6 hT6 hO6 hW6
                          have hO : OwnEn bk (.slice A2 ln c2) (L.take q ++ E.drop j) W6.drew := HO6.out
                          clear HO6 HB6
                          replace hS : Rt W6.drew bo 32 [.int .i64 ix, .int .i64 st, .string cf, .string dt, .slice A2 ln c2] := hS
                          replace hZ : Rt W6.drew (b0 + 1) 32 [.int .i64 0, .int .i64 0, .string ⟨#[]⟩, .string ⟨#[]⟩, .slice none 0 0] := hZ
                          replace hX : Rt W6.drew be 65 [.int .i64 qx, .int .i64 qy, .int .i64 qz, .string qd] := hX
                          replace hB := hB.drew
                          have x0 := hX.cell (j := 0) rfl
                          go_wp2_with fail
                          refine wp_region_noPanic ?_
                          refine wp_region_held_drew (S := fun W => Rt W bo 32 [.int .i64 ix, .int .i64 st, .string cf, .string dt, .slice A2 ln c2] ∧ W.cell? ⟨be, 0, none⟩ = some (.int .i64 qx)) (by kernel_rfl) ?_ (fun hHeld => ?_)
                          · exact ⟨hS, x0⟩
                          generalize W6.drew = k20 at *
                          refine tkH 0 (.agg #[.int .i64 ix, .int .i64 st, .string cf, .string dt, .slice A2 ln c2]) rfl (fun w hSw => ?_) ?_
                          · (try dsimp only at hSw)
                            have q0 := Rt.cell (j := 0) hSw.1 rfl
                            have q1 := Rt.cell (j := 1) hSw.1 rfl
                            have q2 := Rt.cell (j := 2) hSw.1 rfl
                            have q3 := Rt.cell (j := 3) hSw.1 rfl
                            have q4 := Rt.cell (j := 4) hSw.1 rfl
                            have e9 := hSw.2
                            go_simp
                          try simp only [Act.put, List.setIfInBounds_toArray, List.set_cons_zero, List.set_cons_succ]
                          refine tkH 1 (.pointer (some ⟨be, 0, none⟩)) rfl (fun w hSw => ?_) ?_
                          · (try dsimp only at hSw)
                            go_simp
                          try simp only [Act.put, List.setIfInBounds_toArray, List.set_cons_zero, List.set_cons_succ]
                          refine tkH 2 (.int .i64 qx) rfl (fun w hSw => ?_) ?_
                          · (try dsimp only at hSw)
                            have q0 := Rt.cell (j := 0) hSw.1 rfl
                            have q1 := Rt.cell (j := 1) hSw.1 rfl
                            have q2 := Rt.cell (j := 2) hSw.1 rfl
                            have q3 := Rt.cell (j := 3) hSw.1 rfl
                            have q4 := Rt.cell (j := 4) hSw.1 rfl
                            have e9 := hSw.2
                            go_simp
                          try simp only [Act.put, List.setIfInBounds_toArray, List.set_cons_zero, List.set_cons_succ]
                          refine stH 3 rfl (fun K hK => ?_)
                          have hS5 := (Rt.other (Rt.other (Rt.other (Rt.other (Rt.other hS 0 (.int .i64 ix) (show bo ≠ b0 + 1 by omega)) 1 (.int .i64 st) (show bo ≠ b0 + 1 by omega)) 2 (.string cf) (show bo ≠ b0 + 1 by omega)) 3 (.string dt) (show bo ≠ b0 + 1 by omega)) 4 (.slice A2 ln c2) (show bo ≠ b0 + 1 by omega))
                          have hX5 := (Rt.other (Rt.other (Rt.other (Rt.other (Rt.other hX 0 (.int .i64 ix) (show be ≠ b0 + 1 by omega)) 1 (.int .i64 st) (show be ≠ b0 + 1 by omega)) 2 (.string cf) (show be ≠ b0 + 1 by omega)) 3 (.string dt) (show be ≠ b0 + 1 by omega)) 4 (.slice A2 ln c2) (show be ≠ b0 + 1 by omega))
                          have z0 := hZ.cell (j := 0) rfl
                          have z1 := hZ.cell (j := 1) rfl
                          have z2 := hZ.cell (j := 2) rfl
                          have z3 := hZ.cell (j := 3) rfl
                          have z4 := hZ.cell (j := 4) rfl
                          have f0 := hZ.frz 0
                          have f1 := hZ.frz 1
                          have f2 := hZ.frz 2
                          have f3 := hZ.frz 3
                          have f4 := hZ.frz 4
                          have hB5 := (((((hB.setCell (p := ⟨b0 + 1, 0, none⟩) (by show w.heap.size ≤ b0 + 1; omega) (.int .i64 ix)).setCell (p := ⟨b0 + 1, 1, none⟩) (by show w.heap.size ≤ b0 + 1; omega) (.int .i64 st)).setCell (p := ⟨b0 + 1, 2, none⟩) (by show w.heap.size ≤ b0 + 1; omega) (.string cf)).setCell (p := ⟨b0 + 1, 3, none⟩) (by show w.heap.size ≤ b0 + 1; omega) (.string dt)).setCell (p := ⟨b0 + 1, 4, none⟩) (by show w.heap.size ≤ b0 + 1; omega) (.slice A2 ln c2))
                          have hZ5 := (((((hZ.set 0 (.int .i64 ix)).set 1 (.int .i64 st)).set 2 (.string cf)).set 3 (.string dt)).set 4 (.slice A2 ln c2))
                          obtain ⟨W5, hW5⟩ : ∃ W5, (((((k20.setCell ⟨b0 + 1, 0, none⟩ (.int .i64 ix)).setCell ⟨b0 + 1, 1, none⟩ (.int .i64 st)).setCell ⟨b0 + 1, 2, none⟩ (.string cf)).setCell ⟨b0 + 1, 3, none⟩ (.string dt)).setCell ⟨b0 + 1, 4, none⟩ (.slice A2 ln c2)) = W5 := ⟨_, rfl⟩
                          rw [hW5] at hB5 hZ5
                          have g0 := hZ5.cell (j := 0) rfl
                          have g1 := hZ5.cell (j := 1) rfl
                          have g2 := hZ5.cell (j := 2) rfl
                          have g3 := hZ5.cell (j := 3) rfl
                          have g4 := hZ5.cell (j := 4) rfl
                          rw [hW5] at hS5 hX5
                          have hno5 : OwnEn bk (.slice A2 ln c2) (L.take q ++ E.drop j) W5 := hO.off (S := fun x => x = b0 + 1) (show Off (fun x => x = b0 + 1) k20 W5 from by rw [← hW5]; exact Off.set (Off.set (Off.set (Off.set (Off.set (Off.refl _ k20) (.inl rfl)) (.inl rfl)) (.inl rfl)) (.inl rfl)) (.inl rfl)) (fun x hx e => by have := (hO.lt _ hx).1; omega)
                          have x5 := hX5.cell (j := 0) rfl
                          go_simp
                          try rw [hW5]
                          refine hK.out _ _ ?_ (fun hHeld => ?_)
                          · exact ⟨hS5, x5⟩
                          clear hK K
                          try simp only [Act.put, List.setIfInBounds_toArray, List.set_cons_zero, List.set_cons_succ]
                          have HO5 := Lib.hid hno5
                          have HB5 := Lib.hid hB5
                          clear hno5 hB5 hZ5 hZ hW5 hS hX hO hX5 x0
                          refine tkH 4 (.int .i64 qx) rfl (fun w hSw => ?_) ?_
                          · (try dsimp only at hSw)
                            go_simp
                          try simp only [Act.put, List.setIfInBounds_toArray, List.set_cons_zero, List.set_cons_succ]
                          refine tkH 5 (.bool true) rfl (fun w hSw => ?_) ?_
                          · (try dsimp only at hSw)
                            go_simp
                          try simp only [Act.put, List.setIfInBounds_toArray, List.set_cons_zero, List.set_cons_succ]
                          refine wpAnyH_done (by kernel_rfl) ?_ _
                          refine NoPanic.normal ?_
                          go_wp2
                          obtain ⟨q1, q2, q3⟩ : r' = ⟨⟨ix, st, cf, dt⟩, L.take q ++ E.drop j⟩ ∧ at' = qx ∧ b = true := by
                            have h9 := HPG.out
                            rw [show (qx - 1 - ix).toNat = q by omega, HEJ.out] at h9
                            injection h9 with a1 a2
                            injection a2 with a2 a3
                            exact ⟨a1, a2, a3⟩
                          refine bodyPost_ret (v := .tuple #[.agg #[.int .i64 ix, .int .i64 st, .string cf, .string dt, .slice A2 ln c2], .int .i64 qx, .bool true]) ?_ rfl ?_
                          · simp [results, Try.results13, go_sem, g0, g1, g2, g3, g4]
                          · rw [q1, q2, q3]
                            refine ⟨.slice A2 ln c2, rfl, .inr ?_, ?_⟩
                            · exact HO5.out.down (show w.heap.size ≤ bk by omega)
                            · first | exact HB5.out | (rw [hb0]; exact HB5.out) | (rw [← hb0]; exact HB5.out)
                      · obtain ⟨bo, hbo⟩ : ∃ bo, kx.heap.size = bo := ⟨_, rfl⟩
                        obtain ⟨ka, hka⟩ : ∃ ka, kx.alloc (.cells #[.int .i64 0, .int .i64 0, .string ⟨#[]⟩, .string ⟨#[]⟩, .slice none 0 0] 32) = ka := ⟨_, rfl⟩
                        have hba : Below kx.heap.size kx ka := by rw [← hka]; exact below_new _ _
                        have hT : Rt ka bo 32 [.int .i64 0, .int .i64 0, .string ⟨#[]⟩, .string ⟨#[]⟩, .slice none 0 0] := by rw [← hka, ← hbo]; exact Rt.new _ _ _
                        have hbz : bk ≤ bo := by rw [← hbo]; exact hzk
                        go_simp
                        try rw [hka]
                        try rw [hbo]
                        replace hS := hS.below hba
                        replace hZ := hZ.below hba
                        replace hX := hX.below hba
                        replace hzk := Nat.le_trans hzk hba.size
                        replace hB := hB.trans (hba.mono hB.size)
                        refine hK.out _ _ ?_ (fun hHeld => ?_)
                        · exact hS
                        clear hK K
                        try simp only [Act.put, List.setIfInBounds_toArray, List.set_cons_zero, List.set_cons_succ]
                        refine stH 6 rfl (fun K hK => ?_)
                        refine wp_append_en _ _ rfl bk N (.slice none 0 0) (.slice A q c) [] (L.take q) rfl (OwnEn.nil _ _) rfl ((HR.out.below hB).take q (by rw [HN.out]; exact hqn)) (by rw [HTL.out]; simp; omega) hzk ?_
                        intro v1 k6 g1 g2 g3
                        rw [List.nil_append] at g1
                        obtain ⟨A1, c1, hv1⟩ := g1.slice
                        rw [HTL.out] at hv1
                        subst hv1
                        replace hS := hS.under g2 (by omega)
                        replace hZ := hZ.under g2 (by omega)
                        replace hX := hX.under g2 hbe9
                        replace hzk := Nat.le_trans hzk g2.size
                        replace hB := hB.trans (g2.mono (show w.heap.size ≤ bk by omega))
                        have hT2 := hT.grown11 g3.1 (fun e => by cases e)
                        have hn1 : ∀ x, (Value.slice A1 q c1).ownBlock = some x → ¬ x = bo := fun x hx e => by
                          rcases g3.2 with e1 | e1
                          · rw [e1] at hx; cases hx
                          · rw [e1] at hx; injection hx with hx; have := hT.lt; omega
                        replace hT := hT2
                        refine hK.out _ _ ?_ (fun hHeld => ?_)
                        · exact hS
                        clear hK K
                        try simp only [Act.put, List.setIfInBounds_toArray, List.set_cons_zero, List.set_cons_succ]
                        refine stH 10 rfl (fun K hK => ?_)
                        refine wp_append_en _ _ rfl bk M (.slice A1 q c1) (.slice (some ⟨g, o + j * 4, none⟩) (m - j) (d - j)) (L.take q) (E.drop j) rfl g1 rfl (by
                          have h9 := (HE.out.below hB).drop j (by rw [← HM.out]; exact hjmn)
                          rw [if_neg hdj, ← HM.out, add_lit_10] at h9
                          exact h9) (by rw [HTL.out, HDL.out]; omega) hzk ?_
                        intro v2 k7 p1 p2 p3
                        obtain ⟨A2, c2, hv2⟩ := p1.slice
                        obtain ⟨ln, hln⟩ : ∃ ln, (L.take q ++ E.drop j).length = ln := ⟨_, rfl⟩
                        rw [hln] at hv2
                        subst hv2
                        replace hS := hS.under p2 (by omega)
                        replace hZ := hZ.under p2 (by omega)
                        replace hX := hX.under p2 hbe9
                        replace hzk := Nat.le_trans hzk p2.size
                        replace hB := hB.trans (p2.mono (show w.heap.size ≤ bk by omega))
                        have hT2 := hT.grown11 p3.1 (fun e => hn1 bo e rfl)
                        have hno : ∀ x, (Value.slice A2 ln c2).ownBlock = some x → ¬ x = bo := fun x hx e => by
                          rcases p3.2 with e1 | e1
                          · exact hn1 x (by rw [← e1]; exact hx) e
                          · rw [e1] at hx; injection hx with hx; have := hT.lt; omega
                        replace hT := hT2
                        refine hK.out _ _ ?_ (fun hHeld => ?_)
                        · exact hS
                        clear hK K
                        try simp only [Act.put, List.setIfInBounds_toArray, List.set_cons_zero, List.set_cons_succ]
                        refine tkH 11 (.agg #[.int .i64 ix, .int .i64 st, .string cf, .string dt, .slice A2 ln c2]) rfl (fun w hSw => ?_) ?_
                        · (try dsimp only at hSw)
                          go_simp
                        try simp only [Act.put, List.setIfInBounds_toArray, List.set_cons_zero, List.set_cons_succ]
                        refine stH 13 rfl (fun K hK => ?_)
                        have t0 := hT.cell (j := 0) rfl
                        have t1 := hT.cell (j := 1) rfl
                        have t2 := hT.cell (j := 2) rfl
                        have t3 := hT.cell (j := 3) rfl
                        have t4 := hT.cell (j := 4) rfl
                        have f0 := hT.frz 0
                        have f1 := hT.frz 1
                        have f2 := hT.frz 2
                        have f3 := hT.frz 3
                        have f4 := hT.frz 4
                        obtain ⟨W6, hW6⟩ : ∃ W6, (((((k7.setCell ⟨bo, 0, none⟩ (.int .i64 ix)).setCell ⟨bo, 1, none⟩ (.int .i64 st)).setCell ⟨bo, 2, none⟩ (.string cf)).setCell ⟨bo, 3, none⟩ (.string dt)).setCell ⟨bo, 4, none⟩ (.slice A2 ln c2)) = W6 := ⟨_, rfl⟩
                        have hT6 := (((((hT.set 0 (.int .i64 ix)).set 1 (.int .i64 st)).set 2 (.string cf)).set 3 (.string dt)).set 4 (.slice A2 ln c2))
                        have hS6 := (Rt.other (Rt.other (Rt.other (Rt.other (Rt.other hS 0 (.int .i64 ix) (show b0 ≠ bo by omega)) 1 (.int .i64 st) (show b0 ≠ bo by omega)) 2 (.string cf) (show b0 ≠ bo by omega)) 3 (.string dt) (show b0 ≠ bo by omega)) 4 (.slice A2 ln c2) (show b0 ≠ bo by omega))
                        have hZ6 := (Rt.other (Rt.other (Rt.other (Rt.other (Rt.other hZ 0 (.int .i64 ix) (show b0 + 1 ≠ bo by omega)) 1 (.int .i64 st) (show b0 + 1 ≠ bo by omega)) 2 (.string cf) (show b0 + 1 ≠ bo by omega)) 3 (.string dt) (show b0 + 1 ≠ bo by omega)) 4 (.slice A2 ln c2) (show b0 + 1 ≠ bo by omega))
                        have hX6 := (Rt.other (Rt.other (Rt.other (Rt.other (Rt.other hX 0 (.int .i64 ix) (show be ≠ bo by omega)) 1 (.int .i64 st) (show be ≠ bo by omega)) 2 (.string cf) (show be ≠ bo by omega)) 3 (.string dt) (show be ≠ bo by omega)) 4 (.slice A2 ln c2) (show be ≠ bo by omega))
                        have hB6 := (((((hB.setCell (p := ⟨bo, 0, none⟩) (by show w.heap.size ≤ bo; omega) (.int .i64 ix)).setCell (p := ⟨bo, 1, none⟩) (by show w.heap.size ≤ bo; omega) (.int .i64 st)).setCell (p := ⟨bo, 2, none⟩) (by show w.heap.size ≤ bo; omega) (.string cf)).setCell (p := ⟨bo, 3, none⟩) (by show w.heap.size ≤ bo; omega) (.string dt)).setCell (p := ⟨bo, 4, none⟩) (by show w.heap.size ≤ bo; omega) (.slice A2 ln c2))
                        rw [hW6] at hT6 hS6 hZ6 hX6 hB6
                        have hO6 : OwnEn bk (.slice A2 ln c2) (L.take q ++ E.drop j) W6 := p1.off (S := fun x => x = bo) (show Off (fun x => x = bo) k7 W6 from by rw [← hW6]; exact Off.set (Off.set (Off.set (Off.set (Off.set (Off.refl _ k7) (.inl rfl)) (.inl rfl)) (.inl rfl)) (.inl rfl)) (.inl rfl)) hno
                        go_simp
                        try rw [hW6]
                        clear t0 t1 t2 t3 t4 f0 f1 f2 f3 f4
                        refine hK.out _ _ ?_ (fun hHeld => ?_)
                        · exact hS6
                        clear hK K
                        try simp only [Act.put, List.setIfInBounds_toArray, List.set_cons_zero, List.set_cons_succ]
                        refine wpAnyH_done (by kernel_rfl) ?_ _
                        refine NoPanic.normal ?_
                        have HO6 := Lib.hid hO6
                        have HB6 := Lib.hid hB6
                        have hZ := hZ6
                        have hB := hB6
                        have hS := hT6
                        have hX := hX6
                        clear hS6 hZ6 hX6 hB6 hT6 hO6 hW6
                        have hO : OwnEn bk (.slice A2 ln c2) (L.take q ++ E.drop j) W6.drew := HO6.out
                        clear HO6 HB6
                        replace hS : Rt W6.drew bo 32 [.int .i64 ix, .int .i64 st, .string cf, .string dt, .slice A2 ln c2] := hS
                        replace hZ : Rt W6.drew (b0 + 1) 32 [.int .i64 0, .int .i64 0, .string ⟨#[]⟩, .string ⟨#[]⟩, .slice none 0 0] := hZ
                        replace hX : Rt W6.drew be 65 [.int .i64 qx, .int .i64 qy, .int .i64 qz, .string qd] := hX
                        replace hB := hB.drew
                        have x0 := hX.cell (j := 0) rfl
                        go_wp2_with fail
                        refine wp_region_noPanic ?_
                        refine wp_region_held_drew (S := fun W => Rt W bo 32 [.int .i64 ix, .int .i64 st, .string cf, .string dt, .slice A2 ln c2] ∧ W.cell? ⟨be, 0, none⟩ = some (.int .i64 qx)) (by kernel_rfl) ?_ (fun hHeld => ?_)
                        · exact ⟨hS, x0⟩
                        generalize W6.drew = k20 at *
                        refine tkH 0 (.agg #[.int .i64 ix, .int .i64 st, .string cf, .string dt, .slice A2 ln c2]) rfl (fun w hSw => ?_) ?_
                        · (try dsimp only at hSw)
                          have q0 := Rt.cell (j := 0) hSw.1 rfl
                          have q1 := Rt.cell (j := 1) hSw.1 rfl
                          have q2 := Rt.cell (j := 2) hSw.1 rfl
                          have q3 := Rt.cell (j := 3) hSw.1 rfl
                          have q4 := Rt.cell (j := 4) hSw.1 rfl
                          have e9 := hSw.2
                          go_simp
                        try simp only [Act.put, List.setIfInBounds_toArray, List.set_cons_zero, List.set_cons_succ]
                        refine tkH 1 (.pointer (some ⟨be, 0, none⟩)) rfl (fun w hSw => ?_) ?_
                        · (try dsimp only at hSw)
                          go_simp
                        try simp only [Act.put, List.setIfInBounds_toArray, List.set_cons_zero, List.set_cons_succ]
                        refine tkH 2 (.int .i64 qx) rfl (fun w hSw => ?_) ?_
                        · (try dsimp only at hSw)
                          have q0 := Rt.cell (j := 0) hSw.1 rfl
                          have q1 := Rt.cell (j := 1) hSw.1 rfl
                          have q2 := Rt.cell (j := 2) hSw.1 rfl
                          have q3 := Rt.cell (j := 3) hSw.1 rfl
                          have q4 := Rt.cell (j := 4) hSw.1 rfl
                          have e9 := hSw.2
                          go_simp
                        try simp only [Act.put, List.setIfInBounds_toArray, List.set_cons_zero, List.set_cons_succ]
                        refine stH 3 rfl (fun K hK => ?_)
                        have hS5 := (Rt.other (Rt.other (Rt.other (Rt.other (Rt.other hS 0 (.int .i64 ix) (show bo ≠ b0 + 1 by omega)) 1 (.int .i64 st) (show bo ≠ b0 + 1 by omega)) 2 (.string cf) (show bo ≠ b0 + 1 by omega)) 3 (.string dt) (show bo ≠ b0 + 1 by omega)) 4 (.slice A2 ln c2) (show bo ≠ b0 + 1 by omega))
                        have hX5 := (Rt.other (Rt.other (Rt.other (Rt.other (Rt.other hX 0 (.int .i64 ix) (show be ≠ b0 + 1 by omega)) 1 (.int .i64 st) (show be ≠ b0 + 1 by omega)) 2 (.string cf) (show be ≠ b0 + 1 by omega)) 3 (.string dt) (show be ≠ b0 + 1 by omega)) 4 (.slice A2 ln c2) (show be ≠ b0 + 1 by omega))
                        have z0 := hZ.cell (j := 0) rfl
                        have z1 := hZ.cell (j := 1) rfl
                        have z2 := hZ.cell (j := 2) rfl
                        have z3 := hZ.cell (j := 3) rfl
                        have z4 := hZ.cell (j := 4) rfl
                        have f0 := hZ.frz 0
                        have f1 := hZ.frz 1
                        have f2 := hZ.frz 2
                        have f3 := hZ.frz 3
                        have f4 := hZ.frz 4
                        have hB5 := (((((hB.setCell (p := ⟨b0 + 1, 0, none⟩) (by show w.heap.size ≤ b0 + 1; omega) (.int .i64 ix)).setCell (p := ⟨b0 + 1, 1, none⟩) (by show w.heap.size ≤ b0 + 1; omega) (.int .i64 st)).setCell (p := ⟨b0 + 1, 2, none⟩) (by show w.heap.size ≤ b0 + 1; omega) (.string cf)).setCell (p := ⟨b0 + 1, 3, none⟩) (by show w.heap.size ≤ b0 + 1; omega) (.string dt)).setCell (p := ⟨b0 + 1, 4, none⟩) (by show w.heap.size ≤ b0 + 1; omega) (.slice A2 ln c2))
                        have hZ5 := (((((hZ.set 0 (.int .i64 ix)).set 1 (.int .i64 st)).set 2 (.string cf)).set 3 (.string dt)).set 4 (.slice A2 ln c2))
                        obtain ⟨W5, hW5⟩ : ∃ W5, (((((k20.setCell ⟨b0 + 1, 0, none⟩ (.int .i64 ix)).setCell ⟨b0 + 1, 1, none⟩ (.int .i64 st)).setCell ⟨b0 + 1, 2, none⟩ (.string cf)).setCell ⟨b0 + 1, 3, none⟩ (.string dt)).setCell ⟨b0 + 1, 4, none⟩ (.slice A2 ln c2)) = W5 := ⟨_, rfl⟩
                        rw [hW5] at hB5 hZ5
                        have g0 := hZ5.cell (j := 0) rfl
                        have g1 := hZ5.cell (j := 1) rfl
                        have g2 := hZ5.cell (j := 2) rfl
                        have g3 := hZ5.cell (j := 3) rfl
                        have g4 := hZ5.cell (j := 4) rfl
                        rw [hW5] at hS5 hX5
                        have hno5 : OwnEn bk (.slice A2 ln c2) (L.take q ++ E.drop j) W5 := hO.off (S := fun x => x = b0 + 1) (show Off (fun x => x = b0 + 1) k20 W5 from by rw [← hW5]; exact Off.set (Off.set (Off.set (Off.set (Off.set (Off.refl _ k20) (.inl rfl)) (.inl rfl)) (.inl rfl)) (.inl rfl)) (.inl rfl)) (fun x hx e => by have := (hO.lt _ hx).1; omega)
                        have x5 := hX5.cell (j := 0) rfl
                        go_simp
                        try rw [hW5]
                        refine hK.out _ _ ?_ (fun hHeld => ?_)
                        · exact ⟨hS5, x5⟩
                        clear hK K
                        try simp only [Act.put, List.setIfInBounds_toArray, List.set_cons_zero, List.set_cons_succ]
                        have HO5 := Lib.hid hno5
                        have HB5 := Lib.hid hB5
                        clear hno5 hB5 hZ5 hZ hW5 hS hX hO hX5 x0
                        refine tkH 4 (.int .i64 qx) rfl (fun w hSw => ?_) ?_
                        · (try dsimp only at hSw)
                          go_simp
                        try simp only [Act.put, List.setIfInBounds_toArray, List.set_cons_zero, List.set_cons_succ]
                        refine tkH 5 (.bool true) rfl (fun w hSw => ?_) ?_
                        · (try dsimp only at hSw)
                          go_simp
                        try simp only [Act.put, List.setIfInBounds_toArray, List.set_cons_zero, List.set_cons_succ]
                        refine wpAnyH_done (by kernel_rfl) ?_ _
                        refine NoPanic.normal ?_
                        go_wp2
                        obtain ⟨q1, q2, q3⟩ : r' = ⟨⟨ix, st, cf, dt⟩, L.take q ++ E.drop j⟩ ∧ at' = qx ∧ b = true := by
                          have h9 := HPG.out
                          rw [show (qx - 1 - ix).toNat = q by omega, HEJ.out] at h9
                          injection h9 with a1 a2
                          injection a2 with a2 a3
                          exact ⟨a1, a2, a3⟩
                        refine bodyPost_ret (v := .tuple #[.agg #[.int .i64 ix, .int .i64 st, .string cf, .string dt, .slice A2 ln c2], .int .i64 qx, .bool true]) ?_ rfl ?_
                        · simp [results, Try.results13, go_sem, g0, g1, g2, g3, g4]
                        · rw [q1, q2, q3]
                          refine ⟨.slice A2 ln c2, rfl, .inr ?_, ?_⟩
                          · exact HO5.out.down (show w.heap.size ≤ bk by omega)
                          · first | exact HB5.out | (rw [hb0]; exact HB5.out) | (rw [← hb0]; exact HB5.out)
              · have HST := Lib.hid ((rst13_step hjE HQX.out (lck13_no1 (r := ⟨⟨ix, st, cf, dt⟩, L⟩) hle)).symm.trans hrs)
                clear hrs
                go_wp2
                go_roundw
                case rel => exact ⟨j + 1, by omega, by go_num, HST.out, hS2, hZ2, by first | exact hB2 | (rw [← hb0]; exact hB2)⟩
                case measure => first | (simp [intOf]; omega) | (simp [intOf]; done)
            · have hjm2 : j = m := by omega
              subst hjm2
              have hnone : rst13 ⟨⟨ix, st, cf, dt⟩, L⟩ E = [] := by rw [← hrs, List.drop_of_length_le (by rw [← HM.out]; exact Nat.le_refl _)]; rfl
              have HNR := Lib.hid hnone
              clear hrs hnone
              have HPE := Lib.hid (HP.out.symm.trans (show put13 ⟨⟨ix, st, cf, dt⟩, L⟩ E = (⟨⟨ix, st, cf, dt⟩, L⟩, 0, true) from by
                rw [put13_on hE0 (by rw [HLS.out, HEX.out]; simp only; omega) HFB.out, HNR.out]))
              have d0 := hS.cell (j := 0) rfl
              have d1 := hS.cell (j := 1) rfl
              have d2 := hS.cell (j := 2) rfl
              have d3 := hS.cell (j := 3) rfl
              have d4 := hS.cell (j := 4) rfl
              have z0 := hZ.cell (j := 0) rfl
              have z1 := hZ.cell (j := 1) rfl
              have z2 := hZ.cell (j := 2) rfl
              have z3 := hZ.cell (j := 3) rfl
              have z4 := hZ.cell (j := 4) rfl
              have f0 := hZ.frz 0
              have f1 := hZ.frz 1
              have f2 := hZ.frz 2
              have f3 := hZ.frz 3
              have f4 := hZ.frz 4
              have hB5 := (((((hB.setCell (p := ⟨b0 + 1, 0, none⟩) (by show w.heap.size ≤ b0 + 1; omega) (.int .i64 ix)).setCell (p := ⟨b0 + 1, 1, none⟩) (by show w.heap.size ≤ b0 + 1; omega) (.int .i64 st)).setCell (p := ⟨b0 + 1, 2, none⟩) (by show w.heap.size ≤ b0 + 1; omega) (.string cf)).setCell (p := ⟨b0 + 1, 3, none⟩) (by show w.heap.size ≤ b0 + 1; omega) (.string dt)).setCell (p := ⟨b0 + 1, 4, none⟩) (by show w.heap.size ≤ b0 + 1; omega) (.slice A n c))
              have hZ5 := (((((hZ.set 0 (.int .i64 ix)).set 1 (.int .i64 st)).set 2 (.string cf)).set 3 (.string dt)).set 4 (.slice A n c))
              obtain ⟨W5, hW5⟩ : ∃ W5, (((((wr.setCell ⟨b0 + 1, 0, none⟩ (.int .i64 ix)).setCell ⟨b0 + 1, 1, none⟩ (.int .i64 st)).setCell ⟨b0 + 1, 2, none⟩ (.string cf)).setCell ⟨b0 + 1, 3, none⟩ (.string dt)).setCell ⟨b0 + 1, 4, none⟩ (.slice A n c)) = W5 := ⟨_, rfl⟩
              rw [hW5] at hB5 hZ5
              have g0 := hZ5.cell (j := 0) rfl
              have g1 := hZ5.cell (j := 1) rfl
              have g2 := hZ5.cell (j := 2) rfl
              have g3 := hZ5.cell (j := 3) rfl
              have g4 := hZ5.cell (j := 4) rfl
              have HW5 := Lib.hid hW5
              clear hZ hZ5 hW5
              go_wp2
              rw [HW5.out]
              obtain ⟨q1, q2, q3⟩ : r' = ⟨⟨ix, st, cf, dt⟩, L⟩ ∧ at' = 0 ∧ b = true := by
                have h9 := HPE.out
                injection h9 with a1 a2
                injection a2 with a2 a3
                exact ⟨a1, a2, a3⟩
              refine bodyPost_ret (v := .tuple #[.agg #[.int .i64 ix, .int .i64 st, .string cf, .string dt, .slice A n c], .int .i64 0, .bool true]) ?_ rfl ?_
              · simp [results, Try.results13, go_sem, g0, g1, g2, g3, g4]
              · rw [q1, q2, q3]
                refine ⟨.slice A n c, rfl, .inl ⟨rfl, rfl⟩, ?_⟩
                first | exact hB5 | (rw [hb0]; exact hB5) | (rw [← hb0]; exact hB5)
end Go.Proofs.Ytoekiencnbgmhaa
/-
  What stands while LogAll's operations are done: the program's log, the reference's box and its row.
  There are no conditions beyond those that each lemma names.
-/
namespace Go.Proofs.Ytoekiencnbgmhaa
open Go.RowKit Go.Deep
set_option maxRecDepth 100000

def lgc (r : Lg) (v : Value) : List Value := [.int .i64 r.s.ix, .int .i64 r.s.st, .string r.s.conf, .string r.s.data, v]
structure LI (N : Nat → Prop) (mm w0 : Nat) (w : World) (g br : Nat) (r : Lg) (A : Option Addr) (n c : Nat) : Prop where
  lk : LK N mm w g r
  box : Rt w br 32 (lgc r (.slice A n c))
  row : Ens (fun j => N j ∧ j ≠ br) w (.slice A n c) r.L
  len : r.L.length = n
  nbr : N br
  args : ∀ i, i < w0 → N i
  fol : Fol13 r
  dat : Dat13 r
section
variable {N : Nat → Prop} {mm w0 : Nat} {w w' : World} {g br : Nat} {r : Lg} {A : Option Addr} {n c : Nat}
theorem LI.below (h : LI N mm w0 w g br r A n c) (hb : Below w.heap.size w w') : LI N mm w0 w' g br r A n c :=
  ⟨h.lk.below hb, h.box.below hb, h.row.below hb, h.len, h.nbr, h.args, h.fol, h.dat⟩
theorem LI.others (h : LI N mm w0 w g br r A n c) (hb : Below w.heap.size w w') : LI (Nw N w w') mm w0 w' g br r A n c :=
  ⟨h.lk.others hb, h.box.below hb, (h.row.below hb).mono fun j hj _ => ⟨.inl hj.1, hj.2⟩, h.len, .inl h.nbr, fun i hi => .inl (h.args i hi), h.fol, h.dat⟩
theorem LI.rl (h : LI N mm w0 w g br r A n c) (hm : mm ≤ 900000) : RL N w r.s.ix r.s.st r.s.conf r.s.data r.L A n c :=
  ⟨h.lk.1.more (by omega), h.len, h.row.mono fun j hj _ => hj.1⟩
theorem LI.more {k : Nat} (h : LI N mm w0 w g br r A n c) (hk : mm ≤ k) : LI N k w0 w g br r A n c := ⟨h.lk.more hk, h.box, h.row, h.len, h.nbr, h.args, h.fol, h.dat⟩
end
/-- the reference's box gets another log -/
theorem LI.turn {N : Nat → Prop} {mm w0 : Nat} {w : World} {g br : Nat} {r r' : Lg} {v : Value} {A : Option Addr} {n c : Nat}
    (hlk : LK N mm w g r') (hbox : Rt w br 32 (lgc r v)) (hrow : Ens (fun j => N j ∧ j ≠ br) w (.slice A n c) r'.L) (hlen : r'.L.length = n) (hn : N br) (ha : ∀ i, i < w0 → N i) (hf : Fol13 r') (hd : Dat13 r') :
    LI N mm w0 (((((w.setCell ⟨br, 0, none⟩ (.int .i64 r'.s.ix)).setCell ⟨br, 1, none⟩ (.int .i64 r'.s.st)).setCell ⟨br, 2, none⟩ (.string r'.s.conf)).setCell ⟨br, 3, none⟩ (.string r'.s.data)).setCell ⟨br, 4, none⟩ (.slice A n c)) g br r' A n c := by
  refine ⟨(((((hlk.set (p := ⟨br, 0, none⟩) _ hn rfl).set (p := ⟨br, 1, none⟩) _ hn rfl).set (p := ⟨br, 2, none⟩) _ hn rfl).set (p := ⟨br, 3, none⟩) _ hn rfl).set (p := ⟨br, 4, none⟩) _ hn rfl), ?_, ?_, hlen, hn, ha, hf, hd⟩
  · exact ((((hbox.set 0 (.int .i64 r'.s.ix)).set 1 (.int .i64 r'.s.st)).set 2 (.string r'.s.conf)).set 3 (.string r'.s.data)).set 4 (.slice A n c)
  · refine hrow.keep fun p hp hl => ?_
    have ho : Off (fun x => x = br) w (((((w.setCell ⟨br, 0, none⟩ (.int .i64 r'.s.ix)).setCell ⟨br, 1, none⟩ (.int .i64 r'.s.st)).setCell ⟨br, 2, none⟩ (.string r'.s.conf)).setCell ⟨br, 3, none⟩ (.string r'.s.data)).setCell ⟨br, 4, none⟩ (.slice A n c)) :=
      Off.set (Off.set (Off.set (Off.set (Off.set (Off.refl _ w) (.inl rfl)) (.inl rfl)) (.inl rfl)) (.inl rfl)) (.inl rfl)
    exact ho.cell hl hp.2
/-- what the program's log does outside of N -/
theorem LI.std {N : Nat → Prop} {w w' : World} {br : Nat} {L : List Ent} {A : Option Addr} {n c : Nat} (h : Ens (fun j => N j ∧ j ≠ br) w (.slice A n c) L) (hs : Std N w w') : Ens (fun j => N j ∧ j ≠ br) w' (.slice A n c) L :=
  h.keep fun _ hp hl => hs.cell hp.1 hl
theorem turn_parts13 {N : Nat → Prop} {mm : Nat} {w : World} {g br : Nat} {r0 r' : Lg} {v : Value} {A : Option Addr} {n c : Nat}
    (hlk : LK N mm w g r0) (hbox : Rt w br 32 (lgc r0 v)) (hrow : Ens (fun j => N j ∧ j ≠ br) w (.slice A n c) r'.L) (hn : N br) {W8 : World}
    (hW : (((((w.setCell ⟨br, 0, none⟩ (.int .i64 r'.s.ix)).setCell ⟨br, 1, none⟩ (.int .i64 r'.s.st)).setCell ⟨br, 2, none⟩ (.string r'.s.conf)).setCell ⟨br, 3, none⟩ (.string r'.s.data)).setCell ⟨br, 4, none⟩ (.slice A n c)) = W8) :
    LK N mm W8 g r0 ∧ Rt W8 br 32 (lgc r' (.slice A n c)) ∧ Ens (fun j => N j ∧ j ≠ br) W8 (.slice A n c) r'.L ∧ ∀ {b : Nat} {t : TypeId} {cs : List Value}, b ≠ br → Rt w b t cs → Rt W8 b t cs := by
  subst hW
  refine ⟨(((((hlk.set (p := ⟨br, 0, none⟩) _ hn rfl).set (p := ⟨br, 1, none⟩) _ hn rfl).set (p := ⟨br, 2, none⟩) _ hn rfl).set (p := ⟨br, 3, none⟩) _ hn rfl).set (p := ⟨br, 4, none⟩) _ hn rfl), ?_, ?_, fun hne h => ?_⟩
  · exact ((((hbox.set 0 (.int .i64 r'.s.ix)).set 1 (.int .i64 r'.s.st)).set 2 (.string r'.s.conf)).set 3 (.string r'.s.data)).set 4 (.slice A n c)
  · refine hrow.keep fun p hp hl => ?_
    have ho : Off (fun x => x = br) w (((((w.setCell ⟨br, 0, none⟩ (.int .i64 r'.s.ix)).setCell ⟨br, 1, none⟩ (.int .i64 r'.s.st)).setCell ⟨br, 2, none⟩ (.string r'.s.conf)).setCell ⟨br, 3, none⟩ (.string r'.s.data)).setCell ⟨br, 4, none⟩ (.slice A n c)) :=
      Off.set (Off.set (Off.set (Off.set (Off.set (Off.refl _ w) (.inl rfl)) (.inl rfl)) (.inl rfl)) (.inl rfl)) (.inl rfl)
    exact ho.cell hl hp.2
  · exact Rt.other (Rt.other (Rt.other (Rt.other (Rt.other h 0 _ hne) 1 _ hne) 2 _ hne) 3 _ hne) 4 _ hne
theorem pck13_false {r r' : Lg} {s : Snp} (h : pck13 r s = (r', false)) : r' = r := by
  unfold pck13 at h
  split at h
  · cases h
  · cases h; rfl
theorem get13_len13 (r : Lg) (i n : Int) : (get13 r i n).length ≤ r.L.length := by
  unfold get13 frm13
  refine Nat.le_trans (List.length_take_le' _ _) ?_
  split
  · rw [List.length_drop]; omega
  · exact Nat.zero_le _
theorem row_slice13 {k1 k2 : World} {v : Value} {A : Option Addr} {n c : Nat} {L L' : List Ent} (hlen : L.length = n) (h : (v = .slice A n c ∧ L' = L) ∨ OwnEn k1.heap.size v L' k2) : ∃ A' c', v = .slice A' L'.length c' := by
  rcases h with ⟨rfl, rfl⟩ | h
  · exact ⟨A, c, by rw [hlen]⟩
  · exact h.slice
theorem row_next13 {NN : Nat → Prop} {k1 k2 W7 : World} {br : Nat} {v : Value} {A : Option Addr} {n c : Nat} {L L' : List Ent} (hold : Ens (fun j => NN j ∧ j ≠ br) k1 (.slice A n c) L) (hbr : br < k1.heap.size) (h : (v = .slice A n c ∧ L' = L) ∨ OwnEn k1.heap.size v L' k2) (hb12 : Below k1.heap.size k1 k2) (hb27 : Below k2.heap.size k2 W7) :
    Ens (fun j => Nw NN k1 W7 j ∧ j ≠ br) W7 v L' := by
  rcases h with ⟨rfl, rfl⟩ | h
  · exact (hold.below (hb12.trans (hb27.mono hb12.size))).mono fun j hj _ => ⟨.inl hj.1, hj.2⟩
  · refine (Ens.of_own (h.below hb27)).mono fun j hj hl => ?_
    have h9 := (h.lt j hj).1
    exact ⟨.inr ⟨h9, hl⟩, fun e => by omega⟩
theorem cutEnts_dat (L : List Ent) (q : Nat) : ∀ e ∈ (L.take q).map cutEnt, e.data.size ≤ 1000 := fun e he => by
  obtain ⟨x, _, rfl⟩ := List.mem_map.1 he
  exact Nat.le_trans (cutS_size _ _) (by decide)
end Go.Proofs.Ytoekiencnbgmhaa
/-
  How a law's argument that is a slice of a log's operations is opened.
  There are no conditions.
-/
namespace Go.Proofs.Ytoekiencnbgmhaa
open Go.RowKit Go.WideShapes Go.ChangeShapes Go.Joins Go.Deep
set_option maxRecDepth 100000

/-- one of a log's operations, as a law has it -/
structure Rop where
  kind : Int
  L : List Ent
  s : Snp
  i : Int
  t : Int
  n : Int
def Rop.fit (o : Rop) : Prop := I64 o.kind ∧ (∀ e ∈ o.L, e.fit) ∧ o.s.fit ∧ I64b o.i ∧ I64b o.t ∧ I64 o.n
def Rop.cs (o : Rop) (u : Value) : List Value := [.int .i64 o.kind, u, .int .i64 o.s.ix, .int .i64 o.s.st, .string o.s.conf, .string o.s.data, .int .i64 o.i, .int .i64 o.t, .int .i64 o.n]
/-- a slice value of such operations; its cells and its entries lie below block B -/
def Rops (w : World) (B : Nat) (v : Value) (L : List Rop) : Prop :=
  ∃ A c, v = .slice A L.length c ∧ L.length ≤ c ∧ (0 < L.length → ∃ g o, A = some ⟨g, o, Option.none⟩ ∧ g < B ∧ ∀ k (h : k < L.length), ∃ u, w.rangeAt g (o + k * 9) (L[k].cs u) ∧ Ens (fun j => j < B) w u L[k].L)
theorem Try.cellsRop13 : Try.prog.cellsOf 36 = 9 := by kernel_rfl
theorem Try.cellsEnts13 : Try.prog.cellsOf 24 = 1 := by kernel_rfl
theorem Try.cellsSnp13 : Try.prog.cellsOf 23 = 4 := by kernel_rfl
section
variable {H : Type} {enc : TypeId × Value → H} {W : World} {b0 : Nat} {r : Reach} {v : Value} {d : DataW H} {p : List MemPlace}
theorem trod_struct6_13 {P : Program} {w : World} {base : Nat} {spare : Nat → Bool} {held : Bool} {t : TypeId} {f0 f1 f2 f3 f4 f5 : Field} {fuel : Nat} {cs : List Value} {x : DataW H × List MemPlace} (ht : P.underlying t = some (.struct #[f0, f1, f2, f3, f4, f5])) (h : DataW.trod enc P w base spare held fuel t cs = some x) :
    ∃ y0 y1 y2 y3 y4 y5 n, cs.length = P.cellsOf t ∧ DataW.trod enc P w base spare held n f0.type ((cs.drop f0.offset).take (P.cellsOf f0.type)) = some y0 ∧
      DataW.trod enc P w base spare held n f1.type ((cs.drop f1.offset).take (P.cellsOf f1.type)) = some y1 ∧ DataW.trod enc P w base spare held n f2.type ((cs.drop f2.offset).take (P.cellsOf f2.type)) = some y2 ∧
      DataW.trod enc P w base spare held n f3.type ((cs.drop f3.offset).take (P.cellsOf f3.type)) = some y3 ∧ DataW.trod enc P w base spare held n f4.type ((cs.drop f4.offset).take (P.cellsOf f4.type)) = some y4 ∧
      DataW.trod enc P w base spare held n f5.type ((cs.drop f5.offset).take (P.cellsOf f5.type)) = some y5 := by
  obtain ⟨xs, n, _, rfl, hl, hlen, hf⟩ := DataW.trod_struct ht h
  match xs, hlen with
  | [y0, y1, y2, y3, y4, y5], _ => exact ⟨y0, y1, y2, y3, y4, y5, n, hl, by simpa using hf 0 f0 rfl, by simpa using hf 1 f1 rfl, by simpa using hf 2 f2 rfl, by simpa using hf 3 f3 rfl, by simpa using hf 4 f4 rfl, by simpa using hf 5 f5 rfl⟩
theorem ents_cells13 {fuel : Nat} {cs : List Value} {x : DataW H × List MemPlace} (hf2 : DataW.trod enc Try.prog W 0 (fun _ => true) true fuel 24 cs = some x) :
    ∃ (A : Option Addr) (c : Nat) (L : List Ent), cs = [.slice A L.length c] ∧ Ens (fun j => j < W.heap.size) W (.slice A L.length c) L ∧ ∀ b ∈ L, b.fit := by
  obtain ⟨d, p⟩ := x
  rcases open_slice Try.underlying24 hf2 with ⟨hcs, _⟩ | ⟨a, len, cap, m, n, D, Pl, hcs, _, hl, hm, hmm, _, hx⟩
  · exact ⟨none, 0, [], hcs, ⟨none, 0, rfl, Nat.le_refl _, fun h => absurd h (by decide)⟩, fun x hx => by cases hx⟩
  · simp only [if_true] at hmm
    subst hmm
    rw [Try.cellsEntry10] at hx
    have hz : Inhabited Ent := ⟨noEnt⟩
    obtain ⟨f, hf⟩ := choose_lt (α := Ent) (p := fun i b => W.cells? 0 (a.add (i * 4)) 4 = some b.cs ∧ b.fit) (fun i (hi : i < len) => by
      obtain ⟨cs', h1, h2⟩ := hx i (by omega)
      obtain ⟨b, rfl, h4⟩ := ent_cells h2
      exact ⟨b, h1, h4⟩)
    have hln : ((List.range len).map f).length = len := by simp
    refine ⟨some a, m, (List.range len).map f, by rw [hln]; exact hcs, ?_, fun x hx => ?_⟩
    · refine ⟨some a, m, rfl, by rw [hln]; exact hl, fun h0 => ?_⟩
      rw [hln] at h0
      obtain ⟨hc0, _⟩ := hf 0 h0
      obtain ⟨_, hl0, hcc⟩ := World.cells?_some hc0
      have hc := hcc 0 (by decide)
      obtain ⟨g, o, spot⟩ := a
      have hspot : spot = Option.none := by simpa [Addr.add] using World.cell?_spot hc
      subst hspot
      refine ⟨g, o, rfl, ?_, fun k hk => ?_⟩
      · have := cell_in10 hc; simpa [Addr.add] using this
      · rw [hln] at hk
        obtain ⟨h1, h3⟩ := hf k hk
        have e : ((List.range len).map f)[k]'(by rw [hln]; exact hk) = f k := by simp
        rw [e]
        refine fun j v hj => ?_
        obtain ⟨_, hli, hci⟩ := World.cells?_some h1
        have hj3 : j < 4 := (List.getElem?_eq_some_iff.1 hj).1
        have e2 : ((⟨g, o, Option.none⟩ : Addr).add (k * 4)).add j = ⟨g, o + k * 4 + j, Option.none⟩ := by
          rw [add_add]; unfold Addr.add; split
          · have h0 : k * 4 + j = 0 := by assumption
            have : o + k * 4 + j = o := by omega
            rw [this]
          · show (⟨g, o + (k * 4 + j), _⟩ : Addr) = _
            rw [Nat.add_assoc]
        rw [← e2, hci j hj3]; exact hj
    · obtain ⟨i, hi, rfl⟩ := List.mem_map.1 hx
      obtain ⟨h1, h3⟩ := hf i (List.mem_range.1 hi)
      exact h3
theorem rop_cells13 {fuel : Nat} {cs : List Value} {x : DataW H × List MemPlace} (h : DataW.trod enc Try.prog W 0 (fun _ => true) true fuel 36 cs = some x) : ∃ (o : Rop) (u : Value), cs = o.cs u ∧ Ens (fun j => j < W.heap.size) W u o.L ∧ o.fit := by
  obtain ⟨y0, y1, y2, y3, y4, y5, n, hl, h0, h1, h2, h3, h4, h5⟩ := trod_struct6_13 Try.underlying36 h
  rw [Try.cellsRop13] at hl
  match cs, hl with
  | [c0, c1, c2, c3, c4, c5, c6, c7, c8], _ =>
    simp only [Try.cellsInt, Try.cellsInt6410, Try.cellsEnts13, Try.cellsSnp13, List.drop_zero, List.drop_succ_cons, List.take_succ_cons, List.take_zero] at h0 h1 h2 h3 h4 h5
    obtain ⟨a, e0, _, wa⟩ := DataW.trod_int Try.underlying3 h0
    obtain ⟨A, c, L, e1, hL, wL⟩ := ents_cells13 h1
    obtain ⟨s, e2, ws⟩ := snp_cells h2
    obtain ⟨i, e3, _, wi⟩ := DataW.trod_int Try.underlying2 h3
    obtain ⟨t, e4, _, wt⟩ := DataW.trod_int Try.underlying2 h4
    obtain ⟨m, e5, _, wm⟩ := DataW.trod_int Try.underlying3 h5
    simp only [List.cons.injEq, and_true] at e0 e1 e2 e3 e4 e5
    obtain ⟨f2, f3, f4, f5⟩ := e2
    subst e0; subst e1; subst f2; subst f3; subst f4; subst f5; subst e3; subst e4; subst e5
    exact ⟨⟨a, L, s, i, t, m⟩, _, rfl, hL, i64_wf wa, wL, ws, i64b_wf wi, i64b_wf wt, i64_wf wm⟩
theorem open_rops (hv : Value.okWide Try.prog W r b0 25 v) (h : DataW.Trod enc Try.prog W 0 (fun _ => true) true 25 v d p) :
    ∃ (A : Option Addr) (c : Nat) (L : List Rop), v = .slice A L.length c ∧ Rops W W.heap.size (.slice A L.length c) L ∧ ∀ b ∈ L, b.fit := by
  obtain ⟨a0, len, cap, rfl⟩ := okWide_slice Try.underlying25 hv
  obtain ⟨fuel, hf⟩ := h
  have hf2 : DataW.trod enc Try.prog W 0 (fun _ => true) true fuel 25 [.slice a0 len cap] = some (d, p) := by simpa [Value.cells] using hf
  rcases open_slice Try.underlying25 hf2 with ⟨hcs, _⟩ | ⟨a, len', cap', m, n, D, Pl, hcs, _, hl, hm, hmm, _, hx⟩
  · simp only [List.cons.injEq, and_true] at hcs
    injection hcs with e1 e2 e3
    subst e1; subst e2; subst e3
    exact ⟨none, 0, [], rfl, ⟨none, 0, rfl, Nat.le_refl _, fun h => absurd h (by decide)⟩, fun x hx => by cases hx⟩
  · simp only [List.cons.injEq, and_true] at hcs
    injection hcs with e1 e2 e3
    subst e1; subst e2; subst e3
    simp only [if_true] at hmm
    subst hmm
    rw [Try.cellsRop13] at hx
    have hz : Inhabited Rop := ⟨⟨0, [], ⟨0, 0, ByteArray.empty, ByteArray.empty⟩, 0, 0, 0⟩⟩
    obtain ⟨f, hf⟩ := choose_lt (α := Rop) (p := fun i b => ∃ u, W.cells? 0 (a.add (i * 9)) 9 = some (b.cs u) ∧ Ens (fun j => j < W.heap.size) W u b.L ∧ b.fit) (fun i (hi : i < len) => by
      obtain ⟨cs', h1, h2⟩ := hx i (by omega)
      obtain ⟨b, u, rfl, h3, h4⟩ := rop_cells13 h2
      exact ⟨b, u, h1, h3, h4⟩)
    have hln : ((List.range len).map f).length = len := by simp
    refine ⟨some a, m, (List.range len).map f, by rw [hln], ?_, fun x hx => ?_⟩
    · refine ⟨some a, m, rfl, by rw [hln]; exact hl, fun h0 => ?_⟩
      rw [hln] at h0
      obtain ⟨u, hc0, _⟩ := hf 0 h0
      obtain ⟨_, hl0, hcc⟩ := World.cells?_some hc0
      have hc := hcc 0 (by decide)
      obtain ⟨g, o, spot⟩ := a
      have hspot : spot = Option.none := by simpa [Addr.add] using World.cell?_spot hc
      subst hspot
      refine ⟨g, o, rfl, ?_, fun k hk => ?_⟩
      · have := cell_in10 hc; simpa [Addr.add] using this
      · rw [hln] at hk
        obtain ⟨u, h1, h2, h3⟩ := hf k hk
        have e : ((List.range len).map f)[k]'(by rw [hln]; exact hk) = f k := by simp
        rw [e]
        refine ⟨u, fun j v hj => ?_, h2⟩
        obtain ⟨_, hli, hci⟩ := World.cells?_some h1
        have hj3 : j < 9 := (List.getElem?_eq_some_iff.1 hj).1
        have e2 : ((⟨g, o, Option.none⟩ : Addr).add (k * 9)).add j = ⟨g, o + k * 9 + j, Option.none⟩ := by
          rw [add_add]; unfold Addr.add; split
          · have h0 : k * 9 + j = 0 := by assumption
            have : o + k * 9 + j = o := by omega
            rw [this]
          · show (⟨g, o + (k * 9 + j), _⟩ : Addr) = _
            rw [Nat.add_assoc]
        rw [← e2, hci j hj3]; exact hj
    · obtain ⟨i, hi, rfl⟩ := List.mem_map.1 hx
      obtain ⟨u, h1, h2, h3⟩ := hf i (List.mem_range.1 hi)
      exact h3
end
theorem Rops.keep {w w' : World} {B C : Nat} {v : Value} {L : List Rop} (h : Rops w B v L) (hb : Below C w w') (hC : B ≤ C) : Rops w' B v L := by
  obtain ⟨A, c, hv, hc, h⟩ := h
  refine ⟨A, c, hv, hc, fun hn => ?_⟩
  obtain ⟨g, o, hA, hg, hcs⟩ := h hn
  refine ⟨g, o, hA, hg, fun k hk => ?_⟩
  obtain ⟨u, h1, h2⟩ := hcs k hk
  exact ⟨u, fun j z hj => (hb.cell (p := ⟨g, o + k * 9 + j, Option.none⟩) (Nat.lt_of_lt_of_le hg hC)).trans (h1 j z hj), h2.under hb hC⟩
theorem Rops.at_ {w : World} {B n c : Nat} {A : Option Addr} {L : List Rop} (h : Rops w B (.slice A n c) L) (k : Nat) (hk : k < L.length) :
    ∃ g o Ak ck, A = some ⟨g, o, Option.none⟩ ∧ g < B ∧ w.rangeAt g (o + k * 9) (L[k].cs (.slice Ak L[k].L.length ck)) ∧ Ens (fun j => j < B) w (.slice Ak L[k].L.length ck) L[k].L := by
  obtain ⟨A', c', hv, _, h⟩ := h
  injection hv with e1 e2 e3
  subst e1
  obtain ⟨g, o, rfl, hg, hcs⟩ := h (by omega)
  obtain ⟨u, h1, h2⟩ := hcs k hk
  obtain ⟨Ak, ck, rfl, _⟩ := id h2
  exact ⟨g, o, Ak, ck, rfl, hg, h1, h2⟩
end Go.Proofs.Ytoekiencnbgmhaa
/-
  The reference's NewLog.
  The conditions: a row has at most 1,000 entries.
-/
set_option linter.unusedSimpArgs false
set_option linter.unusedVariables false
namespace Go.Proofs.Ytoekiencnbgmhaa
open Go.RowKit Go.Deep
set_option maxRecDepth 100000

set_option maxHeartbeats 400000 in
theorem rnewL_x (N : Nat → Prop) (s : Snp) (A : Option Addr) (n c : Nat) (L : List Ent) (w : World) (hE : Ens N w (.slice A n c) L) (hl : L.length ≤ 1000) (hd : ∀ e ∈ L, -9223372036854775808 ≤ e.ix ∧ e.ix ≤ 9223372036854775807) (b : Bool) (hb : new13 s L = b) :
    Calls Try.prog 11 #[s.val, .slice A n c] w fun e w' => Below w.heap.size w w' ∧ ((b = false ∧ e = .returned (.tuple #[.agg #[.int .i64 0, .int .i64 0, .string ⟨#[]⟩, .string ⟨#[]⟩, .slice none 0 0], .bool false])) ∨ (b = true ∧ ∃ v, e = .returned (.tuple #[lgv ⟨s, L⟩ v, .bool true]) ∧ OwnEn w.heap.size v L w')) := by
  obtain ⟨ix, st, cf, dt⟩ := s
  show Calls _ _ #[.agg #[.int .i64 ix, .int .i64 st, .string cf, .string dt], .slice A n c] w _
  have hnL : n = L.length := hE.len.1
  obtain ⟨b0, hb0⟩ : ∃ b0, w.heap.size = b0 := ⟨_, rfl⟩
  obtain ⟨Wa, hWa⟩ : ∃ Wa, w.alloc (.cells #[.int .i64 ix, .int .i64 st, .string cf, .string dt] 23) = Wa := ⟨_, rfl⟩
  obtain ⟨W0, hW0⟩ : ∃ W0, Wa.alloc (.cells #[.int .i64 0, .int .i64 0, .string ⟨#[]⟩, .string ⟨#[]⟩, .slice none 0 0] 32) = W0 := ⟨_, rfl⟩
  obtain ⟨W1, hW1⟩ : ∃ W1, (w.alloc (.cells #[.int .i64 ix, .int .i64 st, .string cf, .string dt] 23)).alloc (.cells #[.int .i64 0, .int .i64 0, .string ⟨#[]⟩, .string ⟨#[]⟩, .slice none 0 0] 32) = W1 := ⟨_, rfl⟩
  have hW10 : W0 = W1 := by rw [← hW1, ← hW0, hWa]
  have za : Wa.heap.size = b0 + 1 := by rw [← hWa, World.size_alloc, hb0]
  have ba : Below w.heap.size w Wa := by rw [← hWa]; exact below_new _ _
  have bc : Below Wa.heap.size Wa W0 := by rw [← hW0]; exact below_new _ _
  have hS : Rt W0 b0 23 [.int .i64 ix, .int .i64 st, .string cf, .string dt] := Rt.below (show Rt Wa b0 _ _ by rw [← hWa]; exact Rt.new_at w b0 _ _ hb0) bc
  have hZ : Rt W0 (b0 + 1) 32 [.int .i64 0, .int .i64 0, .string ⟨#[]⟩, .string ⟨#[]⟩, .slice none 0 0] := by rw [← hW0]; exact Rt.new_at Wa (b0 + 1) _ _ za
  have hB : Below w.heap.size w W0 := ba.trans (bc.mono (by omega))
  clear hWa hW0 za ba bc
  subst hW10
  have HE := Lib.hid hE
  have HD := Lib.hid hd
  have HN := Lib.hid hnL
  have HBB := Lib.hid hb
  clear hE hd hnL hb
  have hn4 : n ≤ 1000 := by rw [HN.out]; exact hl
  by_cases c1 : ix < 0
  · go_enter Try.func11, Try.ntmps11
    have d0 := hS.cell (j := 0) rfl
    have d1 := hS.cell (j := 1) rfl
    have z0 := hZ.cell (j := 0) rfl
    have z1 := hZ.cell (j := 1) rfl
    have z2 := hZ.cell (j := 2) rfl
    have z3 := hZ.cell (j := 3) rfl
    have z4 := hZ.cell (j := 4) rfl
    have f0 := hZ.frz 0
    have f1 := hZ.frz 1
    have f2 := hZ.frz 2
    have f3 := hZ.frz 3
    have f4 := hZ.frz 4
    have hB5 := (((((hB.setCell (p := ⟨b0 + 1, 0, none⟩) (by show w.heap.size ≤ b0 + 1; omega) (.int .i64 0)).setCell (p := ⟨b0 + 1, 1, none⟩) (by show w.heap.size ≤ b0 + 1; omega) (.int .i64 0)).setCell (p := ⟨b0 + 1, 2, none⟩) (by show w.heap.size ≤ b0 + 1; omega) (.string ⟨#[]⟩)).setCell (p := ⟨b0 + 1, 3, none⟩) (by show w.heap.size ≤ b0 + 1; omega) (.string ⟨#[]⟩)).setCell (p := ⟨b0 + 1, 4, none⟩) (by show w.heap.size ≤ b0 + 1; omega) (.slice none 0 0))
    have hZ5 := (((((hZ.set 0 (.int .i64 0)).set 1 (.int .i64 0)).set 2 (.string ⟨#[]⟩)).set 3 (.string ⟨#[]⟩)).set 4 (.slice none 0 0))
    obtain ⟨W5, hW5⟩ : ∃ W5, (((((W0.setCell ⟨b0 + 1, 0, none⟩ (.int .i64 0)).setCell ⟨b0 + 1, 1, none⟩ (.int .i64 0)).setCell ⟨b0 + 1, 2, none⟩ (.string ⟨#[]⟩)).setCell ⟨b0 + 1, 3, none⟩ (.string ⟨#[]⟩)).setCell ⟨b0 + 1, 4, none⟩ (.slice none 0 0)) = W5 := ⟨_, rfl⟩
    rw [hW5] at hB5 hZ5
    have g0 := hZ5.cell (j := 0) rfl
    have g1 := hZ5.cell (j := 1) rfl
    have g2 := hZ5.cell (j := 2) rfl
    have g3 := hZ5.cell (j := 3) rfl
    have g4 := hZ5.cell (j := 4) rfl
    have hbf : b = false := by
      rw [← HBB.out]
      unfold new13; simp only; rw [show decide (0 ≤ ix) = false from decide_eq_false (by omega)]; simp
    have HBF := Lib.hid hbf
    have HW5 := Lib.hid hW5
    clear hZ hZ5 hW5 hbf
    go_wp2
    rw [HW5.out]
    refine bodyPost_ret (v := .tuple #[.agg #[.int .i64 0, .int .i64 0, .string ⟨#[]⟩, .string ⟨#[]⟩, .slice none 0 0], .bool false]) ?_ rfl ?_
    · simp [results, Try.results11, go_sem, g0, g1, g2, g3, g4]
    · refine ⟨?_, .inl ⟨HBF.out, rfl⟩⟩
      first | exact hB5 | (rw [← hb0]; exact hB5)
  · by_cases c2 : 1099511627776 < ix
    · go_enter Try.func11, Try.ntmps11
      have d0 := hS.cell (j := 0) rfl
      have d1 := hS.cell (j := 1) rfl
      have z0 := hZ.cell (j := 0) rfl
      have z1 := hZ.cell (j := 1) rfl
      have z2 := hZ.cell (j := 2) rfl
      have z3 := hZ.cell (j := 3) rfl
      have z4 := hZ.cell (j := 4) rfl
      have f0 := hZ.frz 0
      have f1 := hZ.frz 1
      have f2 := hZ.frz 2
      have f3 := hZ.frz 3
      have f4 := hZ.frz 4
      have hB5 := (((((hB.setCell (p := ⟨b0 + 1, 0, none⟩) (by show w.heap.size ≤ b0 + 1; omega) (.int .i64 0)).setCell (p := ⟨b0 + 1, 1, none⟩) (by show w.heap.size ≤ b0 + 1; omega) (.int .i64 0)).setCell (p := ⟨b0 + 1, 2, none⟩) (by show w.heap.size ≤ b0 + 1; omega) (.string ⟨#[]⟩)).setCell (p := ⟨b0 + 1, 3, none⟩) (by show w.heap.size ≤ b0 + 1; omega) (.string ⟨#[]⟩)).setCell (p := ⟨b0 + 1, 4, none⟩) (by show w.heap.size ≤ b0 + 1; omega) (.slice none 0 0))
      have hZ5 := (((((hZ.set 0 (.int .i64 0)).set 1 (.int .i64 0)).set 2 (.string ⟨#[]⟩)).set 3 (.string ⟨#[]⟩)).set 4 (.slice none 0 0))
      obtain ⟨W5, hW5⟩ : ∃ W5, (((((W0.setCell ⟨b0 + 1, 0, none⟩ (.int .i64 0)).setCell ⟨b0 + 1, 1, none⟩ (.int .i64 0)).setCell ⟨b0 + 1, 2, none⟩ (.string ⟨#[]⟩)).setCell ⟨b0 + 1, 3, none⟩ (.string ⟨#[]⟩)).setCell ⟨b0 + 1, 4, none⟩ (.slice none 0 0)) = W5 := ⟨_, rfl⟩
      rw [hW5] at hB5 hZ5
      have g0 := hZ5.cell (j := 0) rfl
      have g1 := hZ5.cell (j := 1) rfl
      have g2 := hZ5.cell (j := 2) rfl
      have g3 := hZ5.cell (j := 3) rfl
      have g4 := hZ5.cell (j := 4) rfl
      have hbf : b = false := by
        rw [← HBB.out]
        unfold new13; simp only; rw [show decide (ix ≤ 1099511627776) = false from decide_eq_false (by omega)]; simp
      have HBF := Lib.hid hbf
      have HW5 := Lib.hid hW5
      clear hZ hZ5 hW5 hbf
      go_wp2
      rw [HW5.out]
      refine bodyPost_ret (v := .tuple #[.agg #[.int .i64 0, .int .i64 0, .string ⟨#[]⟩, .string ⟨#[]⟩, .slice none 0 0], .bool false]) ?_ rfl ?_
      · simp [results, Try.results11, go_sem, g0, g1, g2, g3, g4]
      · refine ⟨?_, .inl ⟨HBF.out, rfl⟩⟩
        first | exact hB5 | (rw [← hb0]; exact hB5)
    · by_cases c3 : st < 0
      · go_enter Try.func11, Try.ntmps11
        have d0 := hS.cell (j := 0) rfl
        have d1 := hS.cell (j := 1) rfl
        have z0 := hZ.cell (j := 0) rfl
        have z1 := hZ.cell (j := 1) rfl
        have z2 := hZ.cell (j := 2) rfl
        have z3 := hZ.cell (j := 3) rfl
        have z4 := hZ.cell (j := 4) rfl
        have f0 := hZ.frz 0
        have f1 := hZ.frz 1
        have f2 := hZ.frz 2
        have f3 := hZ.frz 3
        have f4 := hZ.frz 4
        have hB5 := (((((hB.setCell (p := ⟨b0 + 1, 0, none⟩) (by show w.heap.size ≤ b0 + 1; omega) (.int .i64 0)).setCell (p := ⟨b0 + 1, 1, none⟩) (by show w.heap.size ≤ b0 + 1; omega) (.int .i64 0)).setCell (p := ⟨b0 + 1, 2, none⟩) (by show w.heap.size ≤ b0 + 1; omega) (.string ⟨#[]⟩)).setCell (p := ⟨b0 + 1, 3, none⟩) (by show w.heap.size ≤ b0 + 1; omega) (.string ⟨#[]⟩)).setCell (p := ⟨b0 + 1, 4, none⟩) (by show w.heap.size ≤ b0 + 1; omega) (.slice none 0 0))
        have hZ5 := (((((hZ.set 0 (.int .i64 0)).set 1 (.int .i64 0)).set 2 (.string ⟨#[]⟩)).set 3 (.string ⟨#[]⟩)).set 4 (.slice none 0 0))
        obtain ⟨W5, hW5⟩ : ∃ W5, (((((W0.setCell ⟨b0 + 1, 0, none⟩ (.int .i64 0)).setCell ⟨b0 + 1, 1, none⟩ (.int .i64 0)).setCell ⟨b0 + 1, 2, none⟩ (.string ⟨#[]⟩)).setCell ⟨b0 + 1, 3, none⟩ (.string ⟨#[]⟩)).setCell ⟨b0 + 1, 4, none⟩ (.slice none 0 0)) = W5 := ⟨_, rfl⟩
        rw [hW5] at hB5 hZ5
        have g0 := hZ5.cell (j := 0) rfl
        have g1 := hZ5.cell (j := 1) rfl
        have g2 := hZ5.cell (j := 2) rfl
        have g3 := hZ5.cell (j := 3) rfl
        have g4 := hZ5.cell (j := 4) rfl
        have hbf : b = false := by
          rw [← HBB.out]
          unfold new13; simp only; rw [show decide (0 ≤ st) = false from decide_eq_false (by omega)]; simp
        have HBF := Lib.hid hbf
        have HW5 := Lib.hid hW5
        clear hZ hZ5 hW5 hbf
        go_wp2
        rw [HW5.out]
        refine bodyPost_ret (v := .tuple #[.agg #[.int .i64 0, .int .i64 0, .string ⟨#[]⟩, .string ⟨#[]⟩, .slice none 0 0], .bool false]) ?_ rfl ?_
        · simp [results, Try.results11, go_sem, g0, g1, g2, g3, g4]
        · refine ⟨?_, .inl ⟨HBF.out, rfl⟩⟩
          first | exact hB5 | (rw [← hb0]; exact hB5)
      · by_cases c4 : 1099511627776 < st
        · go_enter Try.func11, Try.ntmps11
          have d0 := hS.cell (j := 0) rfl
          have d1 := hS.cell (j := 1) rfl
          have z0 := hZ.cell (j := 0) rfl
          have z1 := hZ.cell (j := 1) rfl
          have z2 := hZ.cell (j := 2) rfl
          have z3 := hZ.cell (j := 3) rfl
          have z4 := hZ.cell (j := 4) rfl
          have f0 := hZ.frz 0
          have f1 := hZ.frz 1
          have f2 := hZ.frz 2
          have f3 := hZ.frz 3
          have f4 := hZ.frz 4
          have hB5 := (((((hB.setCell (p := ⟨b0 + 1, 0, none⟩) (by show w.heap.size ≤ b0 + 1; omega) (.int .i64 0)).setCell (p := ⟨b0 + 1, 1, none⟩) (by show w.heap.size ≤ b0 + 1; omega) (.int .i64 0)).setCell (p := ⟨b0 + 1, 2, none⟩) (by show w.heap.size ≤ b0 + 1; omega) (.string ⟨#[]⟩)).setCell (p := ⟨b0 + 1, 3, none⟩) (by show w.heap.size ≤ b0 + 1; omega) (.string ⟨#[]⟩)).setCell (p := ⟨b0 + 1, 4, none⟩) (by show w.heap.size ≤ b0 + 1; omega) (.slice none 0 0))
          have hZ5 := (((((hZ.set 0 (.int .i64 0)).set 1 (.int .i64 0)).set 2 (.string ⟨#[]⟩)).set 3 (.string ⟨#[]⟩)).set 4 (.slice none 0 0))
          obtain ⟨W5, hW5⟩ : ∃ W5, (((((W0.setCell ⟨b0 + 1, 0, none⟩ (.int .i64 0)).setCell ⟨b0 + 1, 1, none⟩ (.int .i64 0)).setCell ⟨b0 + 1, 2, none⟩ (.string ⟨#[]⟩)).setCell ⟨b0 + 1, 3, none⟩ (.string ⟨#[]⟩)).setCell ⟨b0 + 1, 4, none⟩ (.slice none 0 0)) = W5 := ⟨_, rfl⟩
          rw [hW5] at hB5 hZ5
          have g0 := hZ5.cell (j := 0) rfl
          have g1 := hZ5.cell (j := 1) rfl
          have g2 := hZ5.cell (j := 2) rfl
          have g3 := hZ5.cell (j := 3) rfl
          have g4 := hZ5.cell (j := 4) rfl
          have hbf : b = false := by
            rw [← HBB.out]
            unfold new13; simp only; rw [show decide (st ≤ 1099511627776) = false from decide_eq_false (by omega)]; simp
          have HBF := Lib.hid hbf
          have HW5 := Lib.hid hW5
          clear hZ hZ5 hW5 hbf
          go_wp2
          rw [HW5.out]
          refine bodyPost_ret (v := .tuple #[.agg #[.int .i64 0, .int .i64 0, .string ⟨#[]⟩, .string ⟨#[]⟩, .slice none 0 0], .bool false]) ?_ rfl ?_
          · simp [results, Try.results11, go_sem, g0, g1, g2, g3, g4]
          · refine ⟨?_, .inl ⟨HBF.out, rfl⟩⟩
            first | exact hB5 | (rw [← hb0]; exact hB5)
        · by_cases c5 : 200 < (n : Int)
          · go_enter Try.func11, Try.ntmps11
            have d0 := hS.cell (j := 0) rfl
            have d1 := hS.cell (j := 1) rfl
            have z0 := hZ.cell (j := 0) rfl
            have z1 := hZ.cell (j := 1) rfl
            have z2 := hZ.cell (j := 2) rfl
            have z3 := hZ.cell (j := 3) rfl
            have z4 := hZ.cell (j := 4) rfl
            have f0 := hZ.frz 0
            have f1 := hZ.frz 1
            have f2 := hZ.frz 2
            have f3 := hZ.frz 3
            have f4 := hZ.frz 4
            have hB5 := (((((hB.setCell (p := ⟨b0 + 1, 0, none⟩) (by show w.heap.size ≤ b0 + 1; omega) (.int .i64 0)).setCell (p := ⟨b0 + 1, 1, none⟩) (by show w.heap.size ≤ b0 + 1; omega) (.int .i64 0)).setCell (p := ⟨b0 + 1, 2, none⟩) (by show w.heap.size ≤ b0 + 1; omega) (.string ⟨#[]⟩)).setCell (p := ⟨b0 + 1, 3, none⟩) (by show w.heap.size ≤ b0 + 1; omega) (.string ⟨#[]⟩)).setCell (p := ⟨b0 + 1, 4, none⟩) (by show w.heap.size ≤ b0 + 1; omega) (.slice none 0 0))
            have hZ5 := (((((hZ.set 0 (.int .i64 0)).set 1 (.int .i64 0)).set 2 (.string ⟨#[]⟩)).set 3 (.string ⟨#[]⟩)).set 4 (.slice none 0 0))
            obtain ⟨W5, hW5⟩ : ∃ W5, (((((W0.setCell ⟨b0 + 1, 0, none⟩ (.int .i64 0)).setCell ⟨b0 + 1, 1, none⟩ (.int .i64 0)).setCell ⟨b0 + 1, 2, none⟩ (.string ⟨#[]⟩)).setCell ⟨b0 + 1, 3, none⟩ (.string ⟨#[]⟩)).setCell ⟨b0 + 1, 4, none⟩ (.slice none 0 0)) = W5 := ⟨_, rfl⟩
            rw [hW5] at hB5 hZ5
            have g0 := hZ5.cell (j := 0) rfl
            have g1 := hZ5.cell (j := 1) rfl
            have g2 := hZ5.cell (j := 2) rfl
            have g3 := hZ5.cell (j := 3) rfl
            have g4 := hZ5.cell (j := 4) rfl
            have hbf : b = false := by
              rw [← HBB.out]
              unfold new13; simp only; rw [show decide (L.length ≤ 200) = false from decide_eq_false (by rw [← HN.out]; omega)]; simp
            have HBF := Lib.hid hbf
            have HW5 := Lib.hid hW5
            clear hZ hZ5 hW5 hbf
            go_wp2
            rw [HW5.out]
            refine bodyPost_ret (v := .tuple #[.agg #[.int .i64 0, .int .i64 0, .string ⟨#[]⟩, .string ⟨#[]⟩, .slice none 0 0], .bool false]) ?_ rfl ?_
            · simp [results, Try.results11, go_sem, g0, g1, g2, g3, g4]
            · refine ⟨?_, .inl ⟨HBF.out, rfl⟩⟩
              first | exact hB5 | (rw [← hb0]; exact hB5)
          · go_enter Try.func11, Try.ntmps11
            have d0 := hS.cell (j := 0) rfl
            have d1 := hS.cell (j := 1) rfl
            go_wp2_with fail
            go_loopw [6, 7] (fun u i wr => ∃ (y : Int) (k : Nat), u = .int .i64 y ∧ i = .int .i64 k ∧ k ≤ n ∧ flw13 (ix + k) y (L.drop k) = flw13 ix st L ∧ Rt wr b0 23 [.int .i64 ix, .int .i64 st, .string cf, .string dt] ∧ Rt wr (b0 + 1) 32 [.int .i64 0, .int .i64 0, .string ⟨#[]⟩, .string ⟨#[]⟩, .slice none 0 0] ∧ Below w.heap.size w wr) (fun _ i _ => n - (intOf i).toNat)
            case atStart => exact ⟨st, 0, rfl, rfl, Nat.zero_le _, by simp, hS, hZ, by first | exact hB | (rw [← hb0]; exact hB)⟩
            case round =>
              clear hS hZ hB d0 d1
              obtain ⟨y, k, rfl, rfl, hk, hf, hS, hZ, hB⟩ := hrel
              have d0 := hS.cell (j := 0) rfl
              by_cases hkn : k < n
              · have hkL : k < L.length := by rw [← HN.out]; exact hkn
                have hki : (k : Int) < (n : Int) := by omega
                obtain ⟨⟨xk, yk, zk, dk⟩, hxk⟩ : ∃ x, L[k] = x := ⟨_, rfl⟩
                obtain ⟨g, o, rfl, hg, e0, e1, e2, e3⟩ := (HE.out.below hB).four k hkL hxk
                rw [flw13_drop hkL, hxk] at hf
                simp only at hf
                have hw1 : IntKind.i64.wrap (ix + 1) = ix + 1 := by rw [IntKind.wrap_i64]; omega
                have hw2 : IntKind.i64.wrap (ix + 1 + (k : Int)) = ix + 1 + (k : Int) := by rw [IntKind.wrap_i64]; omega
                by_cases h2 : xk = ix + 1 + (k : Int)
                · by_cases h3 : yk < y
                  · have HF := Lib.hid hf
                    clear hf hxk
                    go_wp2_with fail
                    replace e0 : wr.drew.cell? ⟨g, o + k * 4, none⟩ = some (.int .i64 xk) := e0
                    replace e1 : wr.drew.cell? ⟨g, o + k * 4 + 1, none⟩ = some (.int .i64 yk) := e1
                    replace d0 : wr.drew.cell? ⟨b0, 0, none⟩ = some (.int .i64 ix) := d0
                    replace hS : Rt wr.drew b0 23 [.int .i64 ix, .int .i64 st, .string cf, .string dt] := hS
                    replace hZ : Rt wr.drew (b0 + 1) 32 [.int .i64 0, .int .i64 0, .string ⟨#[]⟩, .string ⟨#[]⟩, .slice none 0 0] := hZ
                    replace hB := hB.drew
                    refine wp_region_noPanic ?_
                    refine wp_region_held_drew (S := fun W => W.cell? ⟨g, o + k * 4, none⟩ = some (.int .i64 xk) ∧ W.cell? ⟨g, o + k * 4 + 1, none⟩ = some (.int .i64 yk) ∧ W.cell? ⟨b0, 0, none⟩ = some (.int .i64 ix)) (by kernel_rfl) ?_ (fun hHeld => ?_)
                    · exact ⟨e0, e1, d0⟩
                    generalize wr.drew = kr at *
                    refine tkH 0 (.slice (some ⟨g, o, none⟩) n c) rfl (fun w hSw => ?_) ?_
                    · (try dsimp only at hSw)
                      obtain ⟨q0, q1, q2⟩ := hSw
                      go_simp
                    try simp only [Act.put, List.setIfInBounds_toArray, List.set_cons_zero, List.set_cons_succ]
                    refine tkH 1 (.int .i64 (k : Int)) rfl (fun w hSw => ?_) ?_
                    · (try dsimp only at hSw)
                      obtain ⟨q0, q1, q2⟩ := hSw
                      go_simp
                    try simp only [Act.put, List.setIfInBounds_toArray, List.set_cons_zero, List.set_cons_succ]
                    refine tkH 2 (.pointer (some ⟨g, o + k * 4, none⟩)) rfl (fun w hSw => ?_) ?_
                    · (try dsimp only at hSw)
                      obtain ⟨q0, q1, q2⟩ := hSw
                      go_simp
                    try simp only [Act.put, List.setIfInBounds_toArray, List.set_cons_zero, List.set_cons_succ]
                    refine tkH 3 (.pointer (some ⟨g, o + k * 4, none⟩)) rfl (fun w hSw => ?_) ?_
                    · (try dsimp only at hSw)
                      obtain ⟨q0, q1, q2⟩ := hSw
                      go_simp
                    try simp only [Act.put, List.setIfInBounds_toArray, List.set_cons_zero, List.set_cons_succ]
                    refine tkH 4 (.int .i64 xk) rfl (fun w hSw => ?_) ?_
                    · (try dsimp only at hSw)
                      obtain ⟨q0, q1, q2⟩ := hSw
                      go_simp
                    try simp only [Act.put, List.setIfInBounds_toArray, List.set_cons_zero, List.set_cons_succ]
                    refine tkH 5 (.pointer (some ⟨b0, 0, none⟩)) rfl (fun w hSw => ?_) ?_
                    · (try dsimp only at hSw)
                      obtain ⟨q0, q1, q2⟩ := hSw
                      go_simp
                    try simp only [Act.put, List.setIfInBounds_toArray, List.set_cons_zero, List.set_cons_succ]
                    refine tkH 6 (.int .i64 ix) rfl (fun w hSw => ?_) ?_
                    · (try dsimp only at hSw)
                      obtain ⟨q0, q1, q2⟩ := hSw
                      go_simp
                    try simp only [Act.put, List.setIfInBounds_toArray, List.set_cons_zero, List.set_cons_succ]
                    refine tkH 7 (.int .i64 (ix + 1)) rfl (fun w hSw => ?_) ?_
                    · (try dsimp only at hSw)
                      obtain ⟨q0, q1, q2⟩ := hSw
                      go_simp
                    try simp only [Act.put, List.setIfInBounds_toArray, List.set_cons_zero, List.set_cons_succ]
                    refine tkH 8 (.int .i64 (k : Int)) rfl (fun w hSw => ?_) ?_
                    · (try dsimp only at hSw)
                      obtain ⟨q0, q1, q2⟩ := hSw
                      go_simp
                    try simp only [Act.put, List.setIfInBounds_toArray, List.set_cons_zero, List.set_cons_succ]
                    refine tkH 9 (.int .i64 (ix + 1 + (k : Int))) rfl (fun w hSw => ?_) ?_
                    · (try dsimp only at hSw)
                      obtain ⟨q0, q1, q2⟩ := hSw
                      go_simp
                    try simp only [Act.put, List.setIfInBounds_toArray, List.set_cons_zero, List.set_cons_succ]
                    refine tkH 10 (.bool false) rfl (fun w hSw => ?_) ?_
                    · (try dsimp only at hSw)
                      obtain ⟨q0, q1, q2⟩ := hSw
                      go_simp
                    try simp only [Act.put, List.setIfInBounds_toArray, List.set_cons_zero, List.set_cons_succ]
                    refine tkH 11 (.bool false) rfl (fun w hSw => ?_) ?_
                    · (try dsimp only at hSw)
                      obtain ⟨q0, q1, q2⟩ := hSw
                      go_simp
                    try simp only [Act.put, List.setIfInBounds_toArray, List.set_cons_zero, List.set_cons_succ]
                    refine tkH 12 (.slice (some ⟨g, o, none⟩) n c) rfl (fun w hSw => ?_) ?_
                    · (try dsimp only at hSw)
                      obtain ⟨q0, q1, q2⟩ := hSw
                      go_simp
                    try simp only [Act.put, List.setIfInBounds_toArray, List.set_cons_zero, List.set_cons_succ]
                    refine tkH 13 (.int .i64 (k : Int)) rfl (fun w hSw => ?_) ?_
                    · (try dsimp only at hSw)
                      obtain ⟨q0, q1, q2⟩ := hSw
                      go_simp
                    try simp only [Act.put, List.setIfInBounds_toArray, List.set_cons_zero, List.set_cons_succ]
                    refine tkH 14 (.pointer (some ⟨g, o + k * 4, none⟩)) rfl (fun w hSw => ?_) ?_
                    · (try dsimp only at hSw)
                      obtain ⟨q0, q1, q2⟩ := hSw
                      go_simp
                    try simp only [Act.put, List.setIfInBounds_toArray, List.set_cons_zero, List.set_cons_succ]
                    refine tkH 15 (.pointer (some ⟨g, o + k * 4 + 1, none⟩)) rfl (fun w hSw => ?_) ?_
                    · (try dsimp only at hSw)
                      obtain ⟨q0, q1, q2⟩ := hSw
                      go_simp
                    try simp only [Act.put, List.setIfInBounds_toArray, List.set_cons_zero, List.set_cons_succ]
                    refine tkH 16 (.int .i64 yk) rfl (fun w hSw => ?_) ?_
                    · (try dsimp only at hSw)
                      obtain ⟨q0, q1, q2⟩ := hSw
                      go_simp
                    try simp only [Act.put, List.setIfInBounds_toArray, List.set_cons_zero, List.set_cons_succ]
                    refine tkH 17 (.int .i64 y) rfl (fun w hSw => ?_) ?_
                    · (try dsimp only at hSw)
                      obtain ⟨q0, q1, q2⟩ := hSw
                      go_simp
                    try simp only [Act.put, List.setIfInBounds_toArray, List.set_cons_zero, List.set_cons_succ]
                    refine tkH 18 (.bool true) rfl (fun w hSw => ?_) ?_
                    · (try dsimp only at hSw)
                      obtain ⟨q0, q1, q2⟩ := hSw
                      go_simp
                    try simp only [Act.put, List.setIfInBounds_toArray, List.set_cons_zero, List.set_cons_succ]
                    refine tkH 19 (.bool true) rfl (fun w hSw => ?_) ?_
                    · (try dsimp only at hSw)
                      obtain ⟨q0, q1, q2⟩ := hSw
                      go_simp
                    try simp only [Act.put, List.setIfInBounds_toArray, List.set_cons_zero, List.set_cons_succ]
                    refine wpAnyH_done (by kernel_rfl) ?_ _
                    refine NoPanic.normal ?_
                    have z0 := hZ.cell (j := 0) rfl
                    have z1 := hZ.cell (j := 1) rfl
                    have z2 := hZ.cell (j := 2) rfl
                    have z3 := hZ.cell (j := 3) rfl
                    have z4 := hZ.cell (j := 4) rfl
                    have f0 := hZ.frz 0
                    have f1 := hZ.frz 1
                    have f2 := hZ.frz 2
                    have f3 := hZ.frz 3
                    have f4 := hZ.frz 4
                    have hB5 := (((((hB.setCell (p := ⟨b0 + 1, 0, none⟩) (by show w.heap.size ≤ b0 + 1; omega) (.int .i64 0)).setCell (p := ⟨b0 + 1, 1, none⟩) (by show w.heap.size ≤ b0 + 1; omega) (.int .i64 0)).setCell (p := ⟨b0 + 1, 2, none⟩) (by show w.heap.size ≤ b0 + 1; omega) (.string ⟨#[]⟩)).setCell (p := ⟨b0 + 1, 3, none⟩) (by show w.heap.size ≤ b0 + 1; omega) (.string ⟨#[]⟩)).setCell (p := ⟨b0 + 1, 4, none⟩) (by show w.heap.size ≤ b0 + 1; omega) (.slice none 0 0))
                    have hZ5 := (((((hZ.set 0 (.int .i64 0)).set 1 (.int .i64 0)).set 2 (.string ⟨#[]⟩)).set 3 (.string ⟨#[]⟩)).set 4 (.slice none 0 0))
                    obtain ⟨W5, hW5⟩ : ∃ W5, (((((kr.setCell ⟨b0 + 1, 0, none⟩ (.int .i64 0)).setCell ⟨b0 + 1, 1, none⟩ (.int .i64 0)).setCell ⟨b0 + 1, 2, none⟩ (.string ⟨#[]⟩)).setCell ⟨b0 + 1, 3, none⟩ (.string ⟨#[]⟩)).setCell ⟨b0 + 1, 4, none⟩ (.slice none 0 0)) = W5 := ⟨_, rfl⟩
                    rw [hW5] at hB5 hZ5
                    have g0 := hZ5.cell (j := 0) rfl
                    have g1 := hZ5.cell (j := 1) rfl
                    have g2 := hZ5.cell (j := 2) rfl
                    have g3 := hZ5.cell (j := 3) rfl
                    have g4 := hZ5.cell (j := 4) rfl
                    have hbf : b = false := by
                      rw [← HBB.out]
                      unfold new13; simp only; rw [← HF.out, show decide (y ≤ yk) = false from decide_eq_false (by omega)]; simp
                    have HBF := Lib.hid hbf
                    have HW5 := Lib.hid hW5
                    clear hZ hZ5 hW5 hbf
                    go_wp2
                    rw [HW5.out]
                    refine bodyPost_ret (v := .tuple #[.agg #[.int .i64 0, .int .i64 0, .string ⟨#[]⟩, .string ⟨#[]⟩, .slice none 0 0], .bool false]) ?_ rfl ?_
                    · simp [results, Try.results11, go_sem, g0, g1, g2, g3, g4]
                    · refine ⟨?_, .inl ⟨HBF.out, rfl⟩⟩
                      first | exact hB5 | (rw [← hb0]; exact hB5)
                  · rw [show (xk == ix + (k : Int) + 1) = true by rw [beq_iff_eq]; omega, show decide (y ≤ yk) = true from decide_eq_true (by omega), Bool.true_and, Bool.true_and, show xk = ix + ((k + 1 : Nat) : Int) by omega] at hf
                    have HF := Lib.hid hf
                    clear hf hxk
                    go_wp2_with fail
                    replace e0 : wr.drew.cell? ⟨g, o + k * 4, none⟩ = some (.int .i64 xk) := e0
                    replace e1 : wr.drew.cell? ⟨g, o + k * 4 + 1, none⟩ = some (.int .i64 yk) := e1
                    replace d0 : wr.drew.cell? ⟨b0, 0, none⟩ = some (.int .i64 ix) := d0
                    replace hS : Rt wr.drew b0 23 [.int .i64 ix, .int .i64 st, .string cf, .string dt] := hS
                    replace hZ : Rt wr.drew (b0 + 1) 32 [.int .i64 0, .int .i64 0, .string ⟨#[]⟩, .string ⟨#[]⟩, .slice none 0 0] := hZ
                    replace hB := hB.drew
                    refine wp_region_noPanic ?_
                    refine wp_region_held_drew (S := fun W => W.cell? ⟨g, o + k * 4, none⟩ = some (.int .i64 xk) ∧ W.cell? ⟨g, o + k * 4 + 1, none⟩ = some (.int .i64 yk) ∧ W.cell? ⟨b0, 0, none⟩ = some (.int .i64 ix)) (by kernel_rfl) ?_ (fun hHeld => ?_)
                    · exact ⟨e0, e1, d0⟩
                    generalize wr.drew = kr at *
                    refine tkH 0 (.slice (some ⟨g, o, none⟩) n c) rfl (fun w hSw => ?_) ?_
                    · (try dsimp only at hSw)
                      obtain ⟨q0, q1, q2⟩ := hSw
                      go_simp
                    try simp only [Act.put, List.setIfInBounds_toArray, List.set_cons_zero, List.set_cons_succ]
                    refine tkH 1 (.int .i64 (k : Int)) rfl (fun w hSw => ?_) ?_
                    · (try dsimp only at hSw)
                      obtain ⟨q0, q1, q2⟩ := hSw
                      go_simp
                    try simp only [Act.put, List.setIfInBounds_toArray, List.set_cons_zero, List.set_cons_succ]
                    refine tkH 2 (.pointer (some ⟨g, o + k * 4, none⟩)) rfl (fun w hSw => ?_) ?_
                    · (try dsimp only at hSw)
                      obtain ⟨q0, q1, q2⟩ := hSw
                      go_simp
                    try simp only [Act.put, List.setIfInBounds_toArray, List.set_cons_zero, List.set_cons_succ]
                    refine tkH 3 (.pointer (some ⟨g, o + k * 4, none⟩)) rfl (fun w hSw => ?_) ?_
                    · (try dsimp only at hSw)
                      obtain ⟨q0, q1, q2⟩ := hSw
                      go_simp
                    try simp only [Act.put, List.setIfInBounds_toArray, List.set_cons_zero, List.set_cons_succ]
                    refine tkH 4 (.int .i64 xk) rfl (fun w hSw => ?_) ?_
                    · (try dsimp only at hSw)
                      obtain ⟨q0, q1, q2⟩ := hSw
                      go_simp
                    try simp only [Act.put, List.setIfInBounds_toArray, List.set_cons_zero, List.set_cons_succ]
                    refine tkH 5 (.pointer (some ⟨b0, 0, none⟩)) rfl (fun w hSw => ?_) ?_
                    · (try dsimp only at hSw)
                      obtain ⟨q0, q1, q2⟩ := hSw
                      go_simp
                    try simp only [Act.put, List.setIfInBounds_toArray, List.set_cons_zero, List.set_cons_succ]
                    refine tkH 6 (.int .i64 ix) rfl (fun w hSw => ?_) ?_
                    · (try dsimp only at hSw)
                      obtain ⟨q0, q1, q2⟩ := hSw
                      go_simp
                    try simp only [Act.put, List.setIfInBounds_toArray, List.set_cons_zero, List.set_cons_succ]
                    refine tkH 7 (.int .i64 (ix + 1)) rfl (fun w hSw => ?_) ?_
                    · (try dsimp only at hSw)
                      obtain ⟨q0, q1, q2⟩ := hSw
                      go_simp
                    try simp only [Act.put, List.setIfInBounds_toArray, List.set_cons_zero, List.set_cons_succ]
                    refine tkH 8 (.int .i64 (k : Int)) rfl (fun w hSw => ?_) ?_
                    · (try dsimp only at hSw)
                      obtain ⟨q0, q1, q2⟩ := hSw
                      go_simp
                    try simp only [Act.put, List.setIfInBounds_toArray, List.set_cons_zero, List.set_cons_succ]
                    refine tkH 9 (.int .i64 (ix + 1 + (k : Int))) rfl (fun w hSw => ?_) ?_
                    · (try dsimp only at hSw)
                      obtain ⟨q0, q1, q2⟩ := hSw
                      go_simp
                    try simp only [Act.put, List.setIfInBounds_toArray, List.set_cons_zero, List.set_cons_succ]
                    refine tkH 10 (.bool false) rfl (fun w hSw => ?_) ?_
                    · (try dsimp only at hSw)
                      obtain ⟨q0, q1, q2⟩ := hSw
                      go_simp
                    try simp only [Act.put, List.setIfInBounds_toArray, List.set_cons_zero, List.set_cons_succ]
                    refine tkH 11 (.bool false) rfl (fun w hSw => ?_) ?_
                    · (try dsimp only at hSw)
                      obtain ⟨q0, q1, q2⟩ := hSw
                      go_simp
                    try simp only [Act.put, List.setIfInBounds_toArray, List.set_cons_zero, List.set_cons_succ]
                    refine tkH 12 (.slice (some ⟨g, o, none⟩) n c) rfl (fun w hSw => ?_) ?_
                    · (try dsimp only at hSw)
                      obtain ⟨q0, q1, q2⟩ := hSw
                      go_simp
                    try simp only [Act.put, List.setIfInBounds_toArray, List.set_cons_zero, List.set_cons_succ]
                    refine tkH 13 (.int .i64 (k : Int)) rfl (fun w hSw => ?_) ?_
                    · (try dsimp only at hSw)
                      obtain ⟨q0, q1, q2⟩ := hSw
                      go_simp
                    try simp only [Act.put, List.setIfInBounds_toArray, List.set_cons_zero, List.set_cons_succ]
                    refine tkH 14 (.pointer (some ⟨g, o + k * 4, none⟩)) rfl (fun w hSw => ?_) ?_
                    · (try dsimp only at hSw)
                      obtain ⟨q0, q1, q2⟩ := hSw
                      go_simp
                    try simp only [Act.put, List.setIfInBounds_toArray, List.set_cons_zero, List.set_cons_succ]
                    refine tkH 15 (.pointer (some ⟨g, o + k * 4 + 1, none⟩)) rfl (fun w hSw => ?_) ?_
                    · (try dsimp only at hSw)
                      obtain ⟨q0, q1, q2⟩ := hSw
                      go_simp
                    try simp only [Act.put, List.setIfInBounds_toArray, List.set_cons_zero, List.set_cons_succ]
                    refine tkH 16 (.int .i64 yk) rfl (fun w hSw => ?_) ?_
                    · (try dsimp only at hSw)
                      obtain ⟨q0, q1, q2⟩ := hSw
                      go_simp
                    try simp only [Act.put, List.setIfInBounds_toArray, List.set_cons_zero, List.set_cons_succ]
                    refine tkH 17 (.int .i64 y) rfl (fun w hSw => ?_) ?_
                    · (try dsimp only at hSw)
                      obtain ⟨q0, q1, q2⟩ := hSw
                      go_simp
                    try simp only [Act.put, List.setIfInBounds_toArray, List.set_cons_zero, List.set_cons_succ]
                    refine tkH 18 (.bool false) rfl (fun w hSw => ?_) ?_
                    · (try dsimp only at hSw)
                      obtain ⟨q0, q1, q2⟩ := hSw
                      go_simp
                    try simp only [Act.put, List.setIfInBounds_toArray, List.set_cons_zero, List.set_cons_succ]
                    refine tkH 19 (.bool false) rfl (fun w hSw => ?_) ?_
                    · (try dsimp only at hSw)
                      obtain ⟨q0, q1, q2⟩ := hSw
                      go_simp
                    try simp only [Act.put, List.setIfInBounds_toArray, List.set_cons_zero, List.set_cons_succ]
                    refine wpAnyH_done (by kernel_rfl) ?_ _
                    refine NoPanic.normal ?_
                    go_wp2
                    go_roundw
                    case rel => exact ⟨yk, k + 1, by go_num, by go_num, by omega, HF.out, hS, hZ, by first | exact hB | (rw [← hb0]; exact hB)⟩
                    case measure => first | (simp [intOf]; omega) | (simp [intOf]; done)
                · have HF := Lib.hid hf
                  clear hf hxk
                  go_wp2_with fail
                  replace e0 : wr.drew.cell? ⟨g, o + k * 4, none⟩ = some (.int .i64 xk) := e0
                  replace e1 : wr.drew.cell? ⟨g, o + k * 4 + 1, none⟩ = some (.int .i64 yk) := e1
                  replace d0 : wr.drew.cell? ⟨b0, 0, none⟩ = some (.int .i64 ix) := d0
                  replace hS : Rt wr.drew b0 23 [.int .i64 ix, .int .i64 st, .string cf, .string dt] := hS
                  replace hZ : Rt wr.drew (b0 + 1) 32 [.int .i64 0, .int .i64 0, .string ⟨#[]⟩, .string ⟨#[]⟩, .slice none 0 0] := hZ
                  replace hB := hB.drew
                  refine wp_region_noPanic ?_
                  refine wp_region_held_drew (S := fun W => W.cell? ⟨g, o + k * 4, none⟩ = some (.int .i64 xk) ∧ W.cell? ⟨g, o + k * 4 + 1, none⟩ = some (.int .i64 yk) ∧ W.cell? ⟨b0, 0, none⟩ = some (.int .i64 ix)) (by kernel_rfl) ?_ (fun hHeld => ?_)
                  · exact ⟨e0, e1, d0⟩
                  generalize wr.drew = kr at *
                  refine tkH 0 (.slice (some ⟨g, o, none⟩) n c) rfl (fun w hSw => ?_) ?_
                  · (try dsimp only at hSw)
                    obtain ⟨q0, q1, q2⟩ := hSw
                    go_simp
                  try simp only [Act.put, List.setIfInBounds_toArray, List.set_cons_zero, List.set_cons_succ]
                  refine tkH 1 (.int .i64 (k : Int)) rfl (fun w hSw => ?_) ?_
                  · (try dsimp only at hSw)
                    obtain ⟨q0, q1, q2⟩ := hSw
                    go_simp
                  try simp only [Act.put, List.setIfInBounds_toArray, List.set_cons_zero, List.set_cons_succ]
                  refine tkH 2 (.pointer (some ⟨g, o + k * 4, none⟩)) rfl (fun w hSw => ?_) ?_
                  · (try dsimp only at hSw)
                    obtain ⟨q0, q1, q2⟩ := hSw
                    go_simp
                  try simp only [Act.put, List.setIfInBounds_toArray, List.set_cons_zero, List.set_cons_succ]
                  refine tkH 3 (.pointer (some ⟨g, o + k * 4, none⟩)) rfl (fun w hSw => ?_) ?_
                  · (try dsimp only at hSw)
                    obtain ⟨q0, q1, q2⟩ := hSw
                    go_simp
                  try simp only [Act.put, List.setIfInBounds_toArray, List.set_cons_zero, List.set_cons_succ]
                  refine tkH 4 (.int .i64 xk) rfl (fun w hSw => ?_) ?_
                  · (try dsimp only at hSw)
                    obtain ⟨q0, q1, q2⟩ := hSw
                    go_simp
                  try simp only [Act.put, List.setIfInBounds_toArray, List.set_cons_zero, List.set_cons_succ]
                  refine tkH 5 (.pointer (some ⟨b0, 0, none⟩)) rfl (fun w hSw => ?_) ?_
                  · (try dsimp only at hSw)
                    obtain ⟨q0, q1, q2⟩ := hSw
                    go_simp
                  try simp only [Act.put, List.setIfInBounds_toArray, List.set_cons_zero, List.set_cons_succ]
                  refine tkH 6 (.int .i64 ix) rfl (fun w hSw => ?_) ?_
                  · (try dsimp only at hSw)
                    obtain ⟨q0, q1, q2⟩ := hSw
                    go_simp
                  try simp only [Act.put, List.setIfInBounds_toArray, List.set_cons_zero, List.set_cons_succ]
                  refine tkH 7 (.int .i64 (ix + 1)) rfl (fun w hSw => ?_) ?_
                  · (try dsimp only at hSw)
                    obtain ⟨q0, q1, q2⟩ := hSw
                    go_simp
                  try simp only [Act.put, List.setIfInBounds_toArray, List.set_cons_zero, List.set_cons_succ]
                  refine tkH 8 (.int .i64 (k : Int)) rfl (fun w hSw => ?_) ?_
                  · (try dsimp only at hSw)
                    obtain ⟨q0, q1, q2⟩ := hSw
                    go_simp
                  try simp only [Act.put, List.setIfInBounds_toArray, List.set_cons_zero, List.set_cons_succ]
                  refine tkH 9 (.int .i64 (ix + 1 + (k : Int))) rfl (fun w hSw => ?_) ?_
                  · (try dsimp only at hSw)
                    obtain ⟨q0, q1, q2⟩ := hSw
                    go_simp
                  try simp only [Act.put, List.setIfInBounds_toArray, List.set_cons_zero, List.set_cons_succ]
                  refine tkH 10 (.bool true) rfl (fun w hSw => ?_) ?_
                  · (try dsimp only at hSw)
                    obtain ⟨q0, q1, q2⟩ := hSw
                    go_simp
                  try simp only [Act.put, List.setIfInBounds_toArray, List.set_cons_zero, List.set_cons_succ]
                  refine tkH 11 (.bool true) rfl (fun w hSw => ?_) ?_
                  · (try dsimp only at hSw)
                    obtain ⟨q0, q1, q2⟩ := hSw
                    go_simp
                  try simp only [Act.put, List.setIfInBounds_toArray, List.set_cons_zero, List.set_cons_succ]
                  refine skH 12 rfl ?_
                  try simp only [Act.put, List.setIfInBounds_toArray, List.set_cons_zero, List.set_cons_succ]
                  refine skH 13 rfl ?_
                  try simp only [Act.put, List.setIfInBounds_toArray, List.set_cons_zero, List.set_cons_succ]
                  refine skH 14 rfl ?_
                  try simp only [Act.put, List.setIfInBounds_toArray, List.set_cons_zero, List.set_cons_succ]
                  refine skH 15 rfl ?_
                  try simp only [Act.put, List.setIfInBounds_toArray, List.set_cons_zero, List.set_cons_succ]
                  refine skH 16 rfl ?_
                  try simp only [Act.put, List.setIfInBounds_toArray, List.set_cons_zero, List.set_cons_succ]
                  refine skH 17 rfl ?_
                  try simp only [Act.put, List.setIfInBounds_toArray, List.set_cons_zero, List.set_cons_succ]
                  refine skH 18 rfl ?_
                  try simp only [Act.put, List.setIfInBounds_toArray, List.set_cons_zero, List.set_cons_succ]
                  refine tkH 19 (.bool true) rfl (fun w hSw => ?_) ?_
                  · (try dsimp only at hSw)
                    obtain ⟨q0, q1, q2⟩ := hSw
                    go_simp
                  try simp only [Act.put, List.setIfInBounds_toArray, List.set_cons_zero, List.set_cons_succ]
                  refine wpAnyH_done (by kernel_rfl) ?_ _
                  refine NoPanic.normal ?_
                  have z0 := hZ.cell (j := 0) rfl
                  have z1 := hZ.cell (j := 1) rfl
                  have z2 := hZ.cell (j := 2) rfl
                  have z3 := hZ.cell (j := 3) rfl
                  have z4 := hZ.cell (j := 4) rfl
                  have f0 := hZ.frz 0
                  have f1 := hZ.frz 1
                  have f2 := hZ.frz 2
                  have f3 := hZ.frz 3
                  have f4 := hZ.frz 4
                  have hB5 := (((((hB.setCell (p := ⟨b0 + 1, 0, none⟩) (by show w.heap.size ≤ b0 + 1; omega) (.int .i64 0)).setCell (p := ⟨b0 + 1, 1, none⟩) (by show w.heap.size ≤ b0 + 1; omega) (.int .i64 0)).setCell (p := ⟨b0 + 1, 2, none⟩) (by show w.heap.size ≤ b0 + 1; omega) (.string ⟨#[]⟩)).setCell (p := ⟨b0 + 1, 3, none⟩) (by show w.heap.size ≤ b0 + 1; omega) (.string ⟨#[]⟩)).setCell (p := ⟨b0 + 1, 4, none⟩) (by show w.heap.size ≤ b0 + 1; omega) (.slice none 0 0))
                  have hZ5 := (((((hZ.set 0 (.int .i64 0)).set 1 (.int .i64 0)).set 2 (.string ⟨#[]⟩)).set 3 (.string ⟨#[]⟩)).set 4 (.slice none 0 0))
                  obtain ⟨W5, hW5⟩ : ∃ W5, (((((kr.setCell ⟨b0 + 1, 0, none⟩ (.int .i64 0)).setCell ⟨b0 + 1, 1, none⟩ (.int .i64 0)).setCell ⟨b0 + 1, 2, none⟩ (.string ⟨#[]⟩)).setCell ⟨b0 + 1, 3, none⟩ (.string ⟨#[]⟩)).setCell ⟨b0 + 1, 4, none⟩ (.slice none 0 0)) = W5 := ⟨_, rfl⟩
                  rw [hW5] at hB5 hZ5
                  have g0 := hZ5.cell (j := 0) rfl
                  have g1 := hZ5.cell (j := 1) rfl
                  have g2 := hZ5.cell (j := 2) rfl
                  have g3 := hZ5.cell (j := 3) rfl
                  have g4 := hZ5.cell (j := 4) rfl
                  have hbf : b = false := by
                    rw [← HBB.out]
                    unfold new13; simp only; rw [← HF.out, show (xk == ix + (k : Int) + 1) = false by rw [beq_eq_false_iff_ne]; omega]; simp
                  have HBF := Lib.hid hbf
                  have HW5 := Lib.hid hW5
                  clear hZ hZ5 hW5 hbf
                  go_wp2
                  rw [HW5.out]
                  refine bodyPost_ret (v := .tuple #[.agg #[.int .i64 0, .int .i64 0, .string ⟨#[]⟩, .string ⟨#[]⟩, .slice none 0 0], .bool false]) ?_ rfl ?_
                  · simp [results, Try.results11, go_sem, g0, g1, g2, g3, g4]
                  · refine ⟨?_, .inl ⟨HBF.out, rfl⟩⟩
                    first | exact hB5 | (rw [← hb0]; exact hB5)
              · have hkn2 : k = n := by omega
                subst hkn2
                have hfl : flw13 ix st L = true := by
                  rw [← hf, List.drop_of_length_le (by rw [← HN.out]; exact Nat.le_refl _)]; rfl
                have hbt : b = true := by
                  rw [← HBB.out]; unfold new13; simp only
                  rw [hfl, ← HN.out, show decide (0 ≤ ix) = true from decide_eq_true (by omega), show decide (ix ≤ 1099511627776) = true from decide_eq_true (by omega), show decide (0 ≤ st) = true from decide_eq_true (by omega), show decide (st ≤ 1099511627776) = true from decide_eq_true (by omega), show decide (k ≤ 200) = true from decide_eq_true (by omega)]; rfl
                have HBT := Lib.hid hbt
                clear hf hfl hbt
                go_wp2_with fail
                replace hS : Rt wr.drew b0 23 [.int .i64 ix, .int .i64 st, .string cf, .string dt] := hS
                replace hZ : Rt wr.drew (b0 + 1) 32 [.int .i64 0, .int .i64 0, .string ⟨#[]⟩, .string ⟨#[]⟩, .slice none 0 0] := hZ
                replace hB := hB.drew
                have HD3 := Lib.hid (HE.out.below hB)
                have HSZ := Lib.hid hB.size
                have HZ := Lib.hid hZ
                have HBq := Lib.hid hB
                clear hZ hB
                have hl2 : ([] : List Ent).length + L.length ≤ 1050000 := by simp; omega
                refine wp_region_noPanic ?_
                refine wp_region_held_drew (S := fun W => Rt W b0 23 [.int .i64 ix, .int .i64 st, .string cf, .string dt]) (by kernel_rfl) ?_ (fun hHeld => ?_)
                · exact hS
                generalize wr.drew = kx at *
                refine tkH 0 (.agg #[.int .i64 ix, .int .i64 st, .string cf, .string dt]) rfl (fun w hSw => ?_) ?_
                · (try dsimp only at hSw)
                  have q0 := Rt.cell (j := 0) hSw rfl
                  have q1 := Rt.cell (j := 1) hSw rfl
                  have q2 := Rt.cell (j := 2) hSw rfl
                  have q3 := Rt.cell (j := 3) hSw rfl
                  go_simp
                try simp only [Act.put, List.setIfInBounds_toArray, List.set_cons_zero, List.set_cons_succ]
                refine tkH 1 (.slice A k c) rfl (fun w hSw => ?_) ?_
                · (try dsimp only at hSw)
                  have q0 := Rt.cell (j := 0) hSw rfl
                  have q1 := Rt.cell (j := 1) hSw rfl
                  have q2 := Rt.cell (j := 2) hSw rfl
                  have q3 := Rt.cell (j := 3) hSw rfl
                  go_simp
                try simp only [Act.put, List.setIfInBounds_toArray, List.set_cons_zero, List.set_cons_succ]
                refine stH 2 rfl (fun K hK => ?_)
                refine wp_append_en _ _ rfl kx.heap.size N (.slice none 0 0) _ [] L rfl (OwnEn.nil _ _) rfl HD3.out hl2 (Nat.le_refl _) ?_
                intro v' w' g1 g2 g3
                rw [List.nil_append] at g1
                obtain ⟨A3, c3, hv3⟩ := g1.slice
                rw [← HN.out] at hv3
                subst hv3
                replace hS := hS.below g2
                have hZ := HZ.out.below g2
                have hB := HBq.out.trans (g2.mono HSZ.out)
                have HG1 := Lib.hid g1
                clear g1 g2 g3
                refine hK.out _ _ ?_ (fun hHeld => ?_)
                · exact hS
                clear hK K
                try simp only [Act.put, List.setIfInBounds_toArray, List.set_cons_zero, List.set_cons_succ]
                refine tkH 3 (.agg #[.int .i64 ix, .int .i64 st, .string cf, .string dt, .slice A3 k c3]) rfl (fun w hSw => ?_) ?_
                · (try dsimp only at hSw)
                  have q0 := Rt.cell (j := 0) hSw rfl
                  have q1 := Rt.cell (j := 1) hSw rfl
                  have q2 := Rt.cell (j := 2) hSw rfl
                  have q3 := Rt.cell (j := 3) hSw rfl
                  go_simp
                try simp only [Act.put, List.setIfInBounds_toArray, List.set_cons_zero, List.set_cons_succ]
                refine stH 4 rfl (fun K hK => ?_)
                have z0 := hZ.cell (j := 0) rfl
                have z1 := hZ.cell (j := 1) rfl
                have z2 := hZ.cell (j := 2) rfl
                have z3 := hZ.cell (j := 3) rfl
                have z4 := hZ.cell (j := 4) rfl
                have f0 := hZ.frz 0
                have f1 := hZ.frz 1
                have f2 := hZ.frz 2
                have f3 := hZ.frz 3
                have f4 := hZ.frz 4
                have hB5 := (((((hB.setCell (p := ⟨b0 + 1, 0, none⟩) (by show w.heap.size ≤ b0 + 1; omega) (.int .i64 ix)).setCell (p := ⟨b0 + 1, 1, none⟩) (by show w.heap.size ≤ b0 + 1; omega) (.int .i64 st)).setCell (p := ⟨b0 + 1, 2, none⟩) (by show w.heap.size ≤ b0 + 1; omega) (.string cf)).setCell (p := ⟨b0 + 1, 3, none⟩) (by show w.heap.size ≤ b0 + 1; omega) (.string dt)).setCell (p := ⟨b0 + 1, 4, none⟩) (by show w.heap.size ≤ b0 + 1; omega) (.slice A3 k c3))
                have hZ5 := (((((hZ.set 0 (.int .i64 ix)).set 1 (.int .i64 st)).set 2 (.string cf)).set 3 (.string dt)).set 4 (.slice A3 k c3))
                obtain ⟨W5, hW5⟩ : ∃ W5, (((((w'.setCell ⟨b0 + 1, 0, none⟩ (.int .i64 ix)).setCell ⟨b0 + 1, 1, none⟩ (.int .i64 st)).setCell ⟨b0 + 1, 2, none⟩ (.string cf)).setCell ⟨b0 + 1, 3, none⟩ (.string dt)).setCell ⟨b0 + 1, 4, none⟩ (.slice A3 k c3)) = W5 := ⟨_, rfl⟩
                rw [hW5] at hB5 hZ5
                have g0 := hZ5.cell (j := 0) rfl
                have g1 := hZ5.cell (j := 1) rfl
                have g2 := hZ5.cell (j := 2) rfl
                have g3 := hZ5.cell (j := 3) rfl
                have g4 := hZ5.cell (j := 4) rfl
                have hS5 := (Rt.other (Rt.other (Rt.other (Rt.other (Rt.other hS 0 (.int .i64 ix) (show b0 ≠ b0 + 1 by omega)) 1 (.int .i64 st) (show b0 ≠ b0 + 1 by omega)) 2 (.string cf) (show b0 ≠ b0 + 1 by omega)) 3 (.string dt) (show b0 ≠ b0 + 1 by omega)) 4 (.slice A3 k c3) (show b0 ≠ b0 + 1 by omega))
                rw [hW5] at hS5
                have HO5 := Lib.hid (HG1.out.off (S := fun j => j = b0 + 1) (show Off (fun j => j = b0 + 1) w' W5 from by rw [← hW5]; exact Off.set (Off.set (Off.set (Off.set (Off.set (Off.refl _ w') (.inl rfl)) (.inl rfl)) (.inl rfl)) (.inl rfl)) (.inl rfl)) (fun j hj e => by subst e; have h8 := (HG1.out.lt _ hj).1; have h9 := HZ.out.lt; omega))
                have HB5 := Lib.hid hB5
                clear hB5
                go_simp
                try rw [hW5]
                clear hZ hZ5 hW5 hB
                refine hK.out _ _ ?_ (fun hHeld => ?_)
                · exact hS5
                clear hK K
                try simp only [Act.put, List.setIfInBounds_toArray, List.set_cons_zero, List.set_cons_succ]
                refine stH 5 rfl (fun K hK => ?_)
                go_simp
                refine hK.out _ _ ?_ (fun hHeld => ?_)
                · exact hS5
                clear hK K
                try simp only [Act.put, List.setIfInBounds_toArray, List.set_cons_zero, List.set_cons_succ]
                refine wpAnyH_done (by kernel_rfl) ?_ _
                refine NoPanic.normal ?_
                go_wp2
                refine bodyPost_ret (v := .tuple #[.agg #[.int .i64 ix, .int .i64 st, .string cf, .string dt, .slice A3 k c3], .bool true]) ?_ rfl ?_
                · simp [results, Try.results11, go_sem, g0, g1, g2, g3, g4]
                · refine ⟨?_, .inr ⟨HBT.out, _, rfl, ?_⟩⟩
                  · first | exact HB5.out | (rw [← hb0]; exact HB5.out)
                  · first | exact HO5.out.down HSZ.out | (rw [← hb0]; exact HO5.out.down HSZ.out)
end Go.Proofs.Ytoekiencnbgmhaa
