/-
  Contracts of the program's functions, of the reference's, and plain lemmas on what they answer (part 5 of 7).
  Each lemma names its conditions.
-/
import Derived.Test.YtbiecoifeeikpaaDoorBun4
import Derived.Maps.RangeWalk
import Derived.Test.YtbiecoifeeikpaaDoorBun1
import Derived.Test.YtbiecoifeeikpaaDoorBun3
import Derived.Lib.AppendZeros
/-
  Package keep's State and Open; what is asked of no keep.
  There are no conditions beyond those that each lemma names.
-/
set_option linter.unusedSimpArgs false
set_option linter.unusedVariables false
namespace Go.Proofs.YtbiecoifeeikpaaDoor
open Go.RowKit Go.Deep
set_option maxRecDepth 100000

set_option maxHeartbeats 1000000 in
/-- State of a keep -/
theorem kstate_any (S : Nat → Prop) (g d c : Nat) (k : Kst) (x : Fk) (w : World) (h : KB w S g d k x c) :
    Calls Tryd.prog 16 #[.pointer (some ⟨g, 0, none⟩)] w fun e w' => ∃ v, e = .returned (.agg #[.int .i64 k.ht, .int .i64 k.hv, .int .i64 k.s.ix, .int .i64 k.s.st, .string k.s.conf, .string k.s.data, v]) ∧ OwnEn w.heap.size v k.log w' ∧ Below w.heap.size w w' := by
  obtain ⟨b, hb⟩ : ∃ b, w.heap.size = b := ⟨_, rfl⟩
  obtain ⟨W0, hW0⟩ : ∃ W0, w.alloc (.cells #[.int .i64 0, .int .i64 0, .int .i64 0, .int .i64 0, .string ⟨#[]⟩, .string ⟨#[]⟩, .slice none 0 0] 52) = W0 := ⟨_, rfl⟩
  have hy : Rt W0 b 52 [.int .i64 0, .int .i64 0, .int .i64 0, .int .i64 0, .string ⟨#[]⟩, .string ⟨#[]⟩, .slice none 0 0] := by rw [← hW0, ← hb]; exact Rt.new _ _ _
  have hB : Below b w W0 := by rw [← hW0, ← hb]; exact below_new _ _
  have h0 := h.below (by rw [hb]; exact hB)
  obtain ⟨T, v, c0, hP, hc0, hx, hO, hTS, hSg, hTg, hv⟩ := h0.ex
  obtain ⟨A, mc, rfl⟩ := hO.slice
  have hs := maySnp10_is h.ok.snap
  have hcp := kcopy_any 52 g 1 k.ht k.hv k.s.ix k.s.st k.s.conf k.s.data k.log A k.log.length mc W0 (hx.cell (j := 1) rfl) (hx.cell (j := 2) rfl) (hx.cell (j := 3) rfl) (hx.cell (j := 4) rfl) (hx.cell (j := 5) rfl) (hx.cell (j := 6) rfl) (hx.cell (j := 7) rfl) _ (Ens.of_own hO) (by omega) (by omega) (by have := h.ok.few; omega) (fun e he => by have := mayEnt10_is (row11_may h.ok.ents e he); omega)
  have HC := Lib.hid hcp
  have hbl : b ≤ W0.heap.size := Nat.le_of_lt hy.lt
  clear hcp hx hO hP h h0 hs hv
  go_enter Tryd.func16, Tryd.ntmps16
  go_wp2_with fail
  refine HC.out.mono ?_
  rintro e w1 ⟨v1, rfl, hv1, h1⟩
  replace hy := hy.below h1
  have hB1 := hB.trans (h1.mono hbl)
  have hv2 : OwnEn w.heap.size v1 k.log w1 := hv1.down (by rw [hb]; exact hbl)
  obtain ⟨A3, c3, hv3⟩ := hv2.slice
  obtain ⟨n3, hn3⟩ : ∃ n3, k.log.length = n3 := ⟨_, rfl⟩
  rw [hn3] at hv3
  subst hv3
  have d0 := hy.cell (j := 0) rfl
  have e0 := hy.frz 0
  have d1 := hy.cell (j := 1) rfl
  have e1 := hy.frz 1
  have d2 := hy.cell (j := 2) rfl
  have e2 := hy.frz 2
  have d3 := hy.cell (j := 3) rfl
  have e3 := hy.frz 3
  have d4 := hy.cell (j := 4) rfl
  have e4 := hy.frz 4
  have d5 := hy.cell (j := 5) rfl
  have e5 := hy.frz 5
  have d6 := hy.cell (j := 6) rfl
  have e6 := hy.frz 6
  have hB9 := (((((((hB1.setCell (p := ⟨b, 0, none⟩) (Nat.le_refl b) (.int .i64 k.ht)).setCell (p := ⟨b, 1, none⟩) (Nat.le_refl b) (.int .i64 k.hv)).setCell (p := ⟨b, 2, none⟩) (Nat.le_refl b) (.int .i64 k.s.ix)).setCell (p := ⟨b, 3, none⟩) (Nat.le_refl b) (.int .i64 k.s.st)).setCell (p := ⟨b, 4, none⟩) (Nat.le_refl b) (.string k.s.conf)).setCell (p := ⟨b, 5, none⟩) (Nat.le_refl b) (.string k.s.data)).setCell (p := ⟨b, 6, none⟩) (Nat.le_refl b) (.slice A3 n3 c3))
  have hy9 := (((((((hy.set 0 (.int .i64 k.ht)).set 1 (.int .i64 k.hv)).set 2 (.int .i64 k.s.ix)).set 3 (.int .i64 k.s.st)).set 4 (.string k.s.conf)).set 5 (.string k.s.data)).set 6 (.slice A3 n3 c3))
  have HV9 := Lib.hid (show OwnEn w.heap.size (.slice A3 n3 c3) k.log (((((((w1.setCell ⟨b, 0, none⟩ (.int .i64 k.ht)).setCell ⟨b, 1, none⟩ (.int .i64 k.hv)).setCell ⟨b, 2, none⟩ (.int .i64 k.s.ix)).setCell ⟨b, 3, none⟩ (.int .i64 k.s.st)).setCell ⟨b, 4, none⟩ (.string k.s.conf)).setCell ⟨b, 5, none⟩ (.string k.s.data)).setCell ⟨b, 6, none⟩ (.slice A3 n3 c3)) from ownsRow_setb hv2 hy (by decide) _ _ _ _ _ _ _)
  obtain ⟨W9, hW9⟩ : ∃ W9, (((((((w1.setCell ⟨b, 0, none⟩ (.int .i64 k.ht)).setCell ⟨b, 1, none⟩ (.int .i64 k.hv)).setCell ⟨b, 2, none⟩ (.int .i64 k.s.ix)).setCell ⟨b, 3, none⟩ (.int .i64 k.s.st)).setCell ⟨b, 4, none⟩ (.string k.s.conf)).setCell ⟨b, 5, none⟩ (.string k.s.data)).setCell ⟨b, 6, none⟩ (.slice A3 n3 c3)) = W9 := ⟨_, rfl⟩
  rw [hW9] at hB9 hy9 HV9
  have g0 := hy9.cell (j := 0) rfl
  have g1 := hy9.cell (j := 1) rfl
  have g2 := hy9.cell (j := 2) rfl
  have g3 := hy9.cell (j := 3) rfl
  have g4 := hy9.cell (j := 4) rfl
  have g5 := hy9.cell (j := 5) rfl
  have g6 := hy9.cell (j := 6) rfl
  have HW9 := Lib.hid hW9
  clear hy hy9 hB1 hB hv1 hv2 h1 hW9 hn3
  go_wp2
  rw [HW9.out]
  exact bodyPost_ret (v := .agg #[.int .i64 k.ht, .int .i64 k.hv, .int .i64 k.s.ix, .int .i64 k.s.st, .string k.s.conf, .string k.s.data, .slice A3 n3 c3]) (by simp [results, Tryd.results16, go_sem, g0, g1, g2, g3, g4, g5, g6]) rfl ⟨_, rfl, HV9.out, by rw [hb]; exact hB9⟩
theorem khard_nil (t v : Int) (w : World) : Calls Tryd.prog 11 #[.pointer none, .agg #[.int .i64 t, .int .i64 v]] w fun e w' => e = .returned (.int .i64 12) ∧ Below w.heap.size w w' := by
  go_enter Tryd.func11, Tryd.ntmps11
  go_wp2
  go_ret
  exact ⟨rfl, below_new _ _⟩
theorem kwrite_nil (u : Value) (w : World) : Calls Tryd.prog 10 #[.pointer none, u] w fun e w' => e = .returned (.int .i64 12) ∧ Below w.heap.size w w' := by
  go_enter Tryd.func10, Tryd.ntmps10
  go_wp2
  go_ret
  exact ⟨rfl, Below.refl _ _⟩
theorem ksync_nil (w : World) : Calls Tryd.prog 17 #[.pointer none] w fun e w' => e = .returned (.int .i64 12) ∧ Below w.heap.size w w' := by
  go_enter Tryd.func17, Tryd.ntmps17
  go_wp2
  go_ret
  exact ⟨rfl, Below.refl _ _⟩
theorem kstate_nil (w : World) : Calls Tryd.prog 16 #[.pointer none] w fun e w' => e = .returned (.agg #[.int .i64 0, .int .i64 0, .int .i64 0, .int .i64 0, .string ⟨#[]⟩, .string ⟨#[]⟩, .slice none 0 0]) ∧ Below w.heap.size w w' := by
  obtain ⟨b, hb⟩ : ∃ b, w.heap.size = b := ⟨_, rfl⟩
  obtain ⟨W0, hW0⟩ : ∃ W0, w.alloc (.cells #[.int .i64 0, .int .i64 0, .int .i64 0, .int .i64 0, .string ⟨#[]⟩, .string ⟨#[]⟩, .slice none 0 0] 52) = W0 := ⟨_, rfl⟩
  have hy : Rt W0 b 52 [.int .i64 0, .int .i64 0, .int .i64 0, .int .i64 0, .string ⟨#[]⟩, .string ⟨#[]⟩, .slice none 0 0] := by rw [← hW0, ← hb]; exact Rt.new _ _ _
  have hB : Below b w W0 := by rw [← hW0, ← hb]; exact below_new _ _
  have d0 := hy.cell (j := 0) rfl
  have e0 := hy.frz 0
  have d1 := hy.cell (j := 1) rfl
  have e1 := hy.frz 1
  have d2 := hy.cell (j := 2) rfl
  have e2 := hy.frz 2
  have d3 := hy.cell (j := 3) rfl
  have e3 := hy.frz 3
  have d4 := hy.cell (j := 4) rfl
  have e4 := hy.frz 4
  have d5 := hy.cell (j := 5) rfl
  have e5 := hy.frz 5
  have d6 := hy.cell (j := 6) rfl
  have e6 := hy.frz 6
  have hB9 := (((((((hB.setCell (p := ⟨b, 0, none⟩) (Nat.le_refl b) (.int .i64 0)).setCell (p := ⟨b, 1, none⟩) (Nat.le_refl b) (.int .i64 0)).setCell (p := ⟨b, 2, none⟩) (Nat.le_refl b) (.int .i64 0)).setCell (p := ⟨b, 3, none⟩) (Nat.le_refl b) (.int .i64 0)).setCell (p := ⟨b, 4, none⟩) (Nat.le_refl b) (.string ⟨#[]⟩)).setCell (p := ⟨b, 5, none⟩) (Nat.le_refl b) (.string ⟨#[]⟩)).setCell (p := ⟨b, 6, none⟩) (Nat.le_refl b) (.slice none 0 0))
  have hy9 := (((((((hy.set 0 (.int .i64 0)).set 1 (.int .i64 0)).set 2 (.int .i64 0)).set 3 (.int .i64 0)).set 4 (.string ⟨#[]⟩)).set 5 (.string ⟨#[]⟩)).set 6 (.slice none 0 0))
  obtain ⟨W9, hW9⟩ : ∃ W9, (((((((W0.setCell ⟨b, 0, none⟩ (.int .i64 0)).setCell ⟨b, 1, none⟩ (.int .i64 0)).setCell ⟨b, 2, none⟩ (.int .i64 0)).setCell ⟨b, 3, none⟩ (.int .i64 0)).setCell ⟨b, 4, none⟩ (.string ⟨#[]⟩)).setCell ⟨b, 5, none⟩ (.string ⟨#[]⟩)).setCell ⟨b, 6, none⟩ (.slice none 0 0)) = W9 := ⟨_, rfl⟩
  rw [hW9] at hB9 hy9
  have g0 := hy9.cell (j := 0) rfl
  have g1 := hy9.cell (j := 1) rfl
  have g2 := hy9.cell (j := 2) rfl
  have g3 := hy9.cell (j := 3) rfl
  have g4 := hy9.cell (j := 4) rfl
  have g5 := hy9.cell (j := 5) rfl
  have g6 := hy9.cell (j := 6) rfl
  have HW9 := Lib.hid hW9
  clear hy hy9 hB hW9
  go_enter Tryd.func16, Tryd.ntmps16
  go_wp2
  rw [HW9.out]
  exact bodyPost_ret (v := .agg #[.int .i64 0, .int .i64 0, .int .i64 0, .int .i64 0, .string ⟨#[]⟩, .string ⟨#[]⟩, .slice none 0 0]) (by simp [results, Tryd.results16, go_sem, g0, g1, g2, g3, g4, g5, g6]) rfl ⟨rfl, by rw [hb]; exact hB9⟩
theorem kb_new {w w1 w2 : World} {T : Nat → Prop} {d c c0 : Nat} {k : Kst} {x : Fk} {v : Value} (hok : KOk k) (hpos : ∀ b f, x = some (b, f) → 1 ≤ b.length) (hP : PD w1 T d (files11 x) c0) (hlt : ∀ j, T j → j < w.heap.size) (hs : w.heap.size ≤ w1.heap.size) (h2 : Below w1.heap.size w1 w2)
    (hx : Rt w2 w1.heap.size 62 (kcs11 d k v (size11 x))) (hO : OwnEn 0 v k.log w1) (hc : c0 ≤ c) (hv : ∀ j, v.ownBlock = some j → w.heap.size ≤ j) : KB w2 (Grw T w w2) w1.heap.size d k x c := by
  have hg := hx.lt
  refine ⟨hok, hpos, Grw.lt hlt (Nat.le_trans hs h2.size), T, v, c0, hP.below h2, hc, hx, hO.below h2, fun j hj => .inl hj, .inr ⟨hs, hg⟩, fun e => by have := hlt _ e; omega, fun j hj => ⟨.inr ⟨hv j hj, Nat.lt_of_lt_of_le (OwnEn.lt hO j hj).2 h2.size⟩, fun e => by have := hlt _ e; have := hv j hj; omega⟩⟩
/-- Open: no file -/
theorem kopen_none (T : Nat → Prop) (d c0 : Nat) (w : World) (h : PD w T d (files11 none) c0) :
    Calls Tryd.prog 7 #[.pointer (some ⟨d, 0, none⟩)] w fun e w' => ∃ g, e = .returned (.tuple #[.pointer (some ⟨g, 0, none⟩), .int .i64 0]) ∧ KB w' (Grw T w w') g d zKst none c0 ∧ Below w.heap.size w w' := by
  have hr := read9_no T d (files11 none) c0 stateN w h stateN_le rfl
  have HR := Lib.hid hr
  have H := Lib.hid h
  clear hr h
  go_enter Tryd.func7, Tryd.ntmps7
  go_wp2_with fail
  refine HR.out.mono ?_
  rintro e w1 ⟨rfl, h1⟩
  go_wp2
  obtain ⟨b, hb⟩ : ∃ b, w1.heap.size = b := ⟨_, rfl⟩
  have h2 := below_new w1 (.cells #[.pointer (some ⟨d, 0, none⟩), .int .i64 0, .int .i64 0, .int .i64 0, .int .i64 0, .string ⟨#[]⟩, .string ⟨#[]⟩, .slice none 0 0, .int .i64 0] 62)
  have hx := Rt.new w1 62 (kcs11 d zKst (.slice none 0 0) 0)
  have hn := kb_new (w := w) (x := none) zKst_ok (fun b f e => by cases e) (H.out.below h1) H.out.lt h1.size h2 hx (OwnEn.nil _ _) (Nat.le_refl c0) (fun j hj => by cases hj)
  exact bodyPost_ret (v := .tuple #[.pointer (some ⟨w1.heap.size, 0, none⟩), .int .i64 0]) (by simp [results, Tryd.results7, go_sem]) rfl ⟨_, rfl, hn, h1.trans (h2.mono h1.size)⟩
theorem kopen_no1 (T : Nat → Prop) (d c0 : Nat) (b : List UInt8) (f : Nat) (w : World) (h : PD w T d (files11 (some (b, f))) c0) (hT : Tbl w) (n e : Nat) (hr : getS10 b = (zSnp, n, e)) (he : e ≠ 0) :
    Calls Tryd.prog 7 #[.pointer (some ⟨d, 0, none⟩)] w fun e w' => e = .returned (.tuple #[.pointer none, .int .i64 3]) ∧ Below w.heap.size w w' := by
  have hbl : b.length ≤ 1048576 := (h.good.2 ⟨stateN, b, f, true⟩ (by simp [files11])).2.2.1
  have hrd := read9_yes T d (files11 (some (b, f))) c0 stateN ⟨stateN, b, f, true⟩ w h stateN_le (getF11 _)
  have HR := Lib.hid hrd
  clear hrd h
  go_enter Tryd.func7, Tryd.ntmps7
  go_wp2_with fail
  refine HR.out.mono ?_
  rintro e w1 ⟨v1, rfl, hv1, h1⟩
  have hkr := kread_no1 v1 _ b w1 (Byt.of_own hv1) (Nat.le_refl _) (by omega) (tbl_keep hT h1) n e hr he
  have HK := Lib.hid hkr
  obtain ⟨A7, c7, rfl⟩ := own_slice hv1
  clear hkr hv1
  go_wp2_with fail
  refine HK.out.mono ?_
  rintro e w2 ⟨rfl, h2⟩
  go_wp2
  have hb := h1.trans (h2.mono h1.size)
  exact bodyPost_ret (v := .tuple #[.pointer none, .int .i64 3]) (by simp [results, Tryd.results7, go_sem]) rfl ⟨rfl, by first | exact hb | exact hb.alloc hb.size _⟩
theorem kopen_no2 (T : Nat → Prop) (d c0 : Nat) (b : List UInt8) (f : Nat) (w : World) (h : PD w T d (files11 (some (b, f))) c0) (hT : Tbl w) (ix st : Int) (cf dt : ByteArray) (N : Nat) (hr : getS10 b = (⟨ix, st, cf, dt⟩, N, 0)) (hN0 : 1 ≤ N) (hN : N ≤ b.length) (L : List Rcd) (us er : Nat) (hS : ScR (b.drop N) L us er) (he : er ≠ 2) :
    Calls Tryd.prog 7 #[.pointer (some ⟨d, 0, none⟩)] w fun e w' => e = .returned (.tuple #[.pointer none, .int .i64 3]) ∧ Below w.heap.size w w' := by
  have hbl : b.length ≤ 1048576 := (h.good.2 ⟨stateN, b, f, true⟩ (by simp [files11])).2.2.1
  have hrd := read9_yes T d (files11 (some (b, f))) c0 stateN ⟨stateN, b, f, true⟩ w h stateN_le (getF11 _)
  have HR := Lib.hid hrd
  clear hrd h
  go_enter Tryd.func7, Tryd.ntmps7
  go_wp2_with fail
  refine HR.out.mono ?_
  rintro e w1 ⟨v1, rfl, hv1, h1⟩
  have hkr := kread_no2 v1 _ b w1 (Byt.of_own hv1) (Nat.le_refl _) (by omega) (tbl_keep hT h1) ix st cf dt N hr hN0 hN L us er hS he
  have HK := Lib.hid hkr
  obtain ⟨A7, c7, rfl⟩ := own_slice hv1
  clear hkr hv1
  go_wp2_with fail
  refine HK.out.mono ?_
  rintro e w2 ⟨rfl, h2⟩
  go_wp2
  have hb := h1.trans (h2.mono h1.size)
  exact bodyPost_ret (v := .tuple #[.pointer none, .int .i64 3]) (by simp [results, Tryd.results7, go_sem]) rfl ⟨rfl, by first | exact hb | exact hb.alloc hb.size _⟩
set_option maxHeartbeats 1000000 in
theorem kopen_yes (T : Nat → Prop) (d c0 : Nat) (b : List UInt8) (f : Nat) (w : World) (h : PD w T d (files11 (some (b, f))) c0) (hc : c0 ≤ 900000) (hT : Tbl w) (ix st : Int) (cf dt : ByteArray) (N : Nat) (hr : getS10 b = (⟨ix, st, cf, dt⟩, N, 0)) (hN0 : 1 ≤ N) (hN : N ≤ b.length) (L : List Rcd) (us : Nat) (hS : ScR (b.drop N) L us 2) (k : Kst) (hk : play11 (base11 ⟨ix, st, cf, dt⟩) L = some k) (hok : KOk k) (hm : maySnp10 ⟨ix, st, cf, dt⟩ = true) (hus : N + us ≤ b.length) (hf : f = b.length) :
    Calls Tryd.prog 7 #[.pointer (some ⟨d, 0, none⟩)] w fun e w' => ∃ g, e = .returned (.tuple #[.pointer (some ⟨g, 0, none⟩), .int .i64 0]) ∧ KB w' (Grw T w w') g d k (some (b.take (N + us), N + us)) (c0 + 1) ∧ Off T w w' := by
  have hbl : b.length ≤ 1048576 := (h.good.2 ⟨stateN, b, f, true⟩ (by simp [files11])).2.2.1
  have hrd := read9_yes T d (files11 (some (b, f))) c0 stateN ⟨stateN, b, f, true⟩ w h stateN_le (getF11 _)
  have HR := Lib.hid hrd
  have H := Lib.hid h
  clear hrd h
  obtain ⟨n, hn⟩ : ∃ n, N + us = n := ⟨_, rfl⟩
  rw [hn]
  go_enter Tryd.func7, Tryd.ntmps7
  go_wp2_with fail
  refine HR.out.mono ?_
  rintro e w1 ⟨v1, rfl, hv1, h1⟩
  obtain ⟨A7, c7, rfl⟩ := own_slice hv1
  obtain ⟨q, hq⟩ : ∃ q, b.length = q := ⟨_, rfl⟩
  simp only at hv1 ⊢
  rw [hq] at hv1 ⊢
  have hkr := kread_yes (.slice A7 q c7) _ b w1 (Byt.of_own hv1) (Nat.le_refl _) (by omega) (tbl_keep hT h1) ix st cf dt N hr hN0 hN L us hS k hk hok hm
  have HK := Lib.hid hkr
  rw [hq, hn] at hus
  rw [hn] at HK
  have HQ := Lib.hid hq
  have HV := Lib.hid hv1
  have hqb : q ≤ 1048576 := by omega
  clear hkr hv1 hq
  go_wp2_with fail
  refine HK.out.mono ?_
  rintro e w2 ⟨v2, rfl, hv2, h2⟩
  obtain ⟨A2, c2, hv2e⟩ := hv2.slice
  obtain ⟨m2, hm2⟩ : ∃ m2, k.log.length = m2 := ⟨_, rfl⟩
  rw [hm2] at hv2e
  subst hv2e
  clear hm2
  have hqc := (bytA (Byt.of_own HV.out)).2
  obtain ⟨W3, hW3⟩ : ∃ W3, w2.alloc (.cells #[.int .i64 k.ht, .int .i64 k.hv, .int .i64 k.s.ix, .int .i64 k.s.st, .string k.s.conf, .string k.s.data, .slice A2 m2 c2] 52) = W3 := ⟨_, rfl⟩
  have h3 : Below w2.heap.size w2 W3 := by rw [← hW3]; exact below_new _ _
  obtain ⟨kb, hkb⟩ : ∃ kb, w2.heap.size + 1 = kb := ⟨_, rfl⟩
  have hkb2 : W3.heap.size = kb := by rw [← hW3, ← hkb]; simp
  obtain ⟨W4, hW4⟩ : ∃ W4, W3.alloc (.cells (kcs11 d k (.slice A2 m2 c2) n).toArray 62) = W4 := ⟨_, rfl⟩
  have h4 : Below W3.heap.size W3 W4 := by rw [← hW4]; exact below_new _ _
  have hx4 : Rt W4 W3.heap.size 62 (kcs11 d k (.slice A2 m2 c2) n) := by rw [← hW4]; exact Rt.new _ _ _
  have hB13 : Below w1.heap.size w1 W3 := h2.trans (h3.mono h2.size)
  have hB3 := h1.trans (hB13.mono h1.size)
  have hnl : n ≤ q := hus
  have hkb9 : W4 = (w2.alloc (.cells #[.int .i64 k.ht, .int .i64 k.hv, .int .i64 k.s.ix, .int .i64 k.s.st, .string k.s.conf, .string k.s.data, .slice A2 m2 c2] 52)).alloc (.cells #[.pointer (some ⟨d, 0, none⟩), .int .i64 k.ht, .int .i64 k.hv, .int .i64 k.s.ix, .int .i64 k.s.st, .string k.s.conf, .string k.s.data, .slice A2 m2 c2, .int .i64 n] 62) := by rw [hW3, ← hW4]; rfl
  have hsz : size11 (some (b, f)) = q := HQ.out
  have HW3 := Lib.hid hW3
  clear hW3
  by_cases hnq : n = q
  · subst hnq
    have hn9 := kb_new (w := w) (x := some (b, f)) (c := c0 + 1) hok (fun b' f' e => by injection e with e; injection e with e _; subst e; omega) (H.out.below hB3) H.out.lt hB3.size h4 (by rw [hsz]; exact hx4) (hv2.below h3 |>.down (Nat.zero_le _)) (by omega) (fun j hj => Nat.le_trans h1.size (hv2.lt j hj).1)
    rw [hkb2] at hn9
    have e9 : (b.take n, n) = (b, f) := by rw [hf, HQ.out, ← HQ.out, List.take_length]
    rw [← e9] at hn9
    have HN9 := Lib.hid hn9
    have HO9 := Lib.hid (Off.of_below (S := T) (hB3.trans (h4.mono hB3.size)))
    have HKB := Lib.hid hkb9
    clear hn9 hW4 hx4 h3 h4 hB13 hB3 hkb9 e9 hkb2 hv2 h2
    go_wp2
    rw [← HKB.out]
    exact bodyPost_ret (v := .tuple #[.pointer (some ⟨kb, 0, none⟩), .int .i64 0]) (by simp [results, Tryd.results7, go_sem]) rfl ⟨_, rfl, HN9.out, HO9.out⟩
  · have hnb : ((n : Int) == (q : Int)) = false := by simp; omega
    have HW := Lib.hid (OwnB.below (HV.out) (hB13.trans (h4.mono hB13.size)))
    obtain ⟨g7, rfl⟩ := own_some (l := b) HV.out (by have := HQ.out; omega)
    have HBt := Lib.hid (own_take10 HW.out HQ.out hnl)
    have hlen : (b.take n).length = n := by rw [List.length_take, HQ.out]; omega
    have hTl := H.out.lt
    have h14 := h1.trans (hB13.mono h1.size) |>.trans (h4.mono (Nat.le_trans h1.size hB13.size))
    have hs4 : W3.heap.size < W4.heap.size := hx4.lt
    have hb3s := hB3.size
    have hg7 := OwnB.lt HV.out g7 rfl
    have hsz1 := h1.size
    have hsz2 := h2.size
    have hsz3 := h3.size
    have hsw := kswap0 (fun i => T i ∨ i = kb ∨ (Value.slice A2 m2 c2).ownBlock = some i) T kb d c0 c0 n k (some (b, f)) (.slice A2 m2 c2) (some ⟨g7, 0, none⟩) n c7 (b.take n) W4 hok
      (fun i hi => by
        rcases hi with hi | hi | hi
        · exact Nat.lt_of_lt_of_le (hTl i hi) h14.size
        · omega
        · have := (hv2.lt i hi).2; have := h4.size; omega)
      (H.out.below h14) (Nat.le_refl _) (by rw [← hkb2]; exact hx4) ((hv2.below h3).below h4 |>.down (Nat.zero_le _)) (fun j hj => .inl hj) (.inr (.inl rfl)) (fun e => by have := hTl _ e; omega)
      (fun j hj => ⟨.inr (.inr hj), fun e => by have h8 := hTl _ e; have h9 := (hv2.lt j hj).1; omega⟩) (by omega)
      (Safe9.of_own HBt.out (fun j hj hs => by
        have e7 : g7 = j := Option.some.inj (show some g7 = some j from hj)
        subst e7
        rcases hs with hs | hs | hs
        · have := hTl _ hs; omega
        · omega
        · have := (hv2.lt _ hs).1; omega)) (by omega) (by omega) hlen.symm
    have HO9 := Lib.hid (Off.of_below (S := T) (hB3.trans (h4.mono hB3.size)))
    have HV2 := Lib.hid hv2
    have HKB := Lib.hid hkb9
    have HSW := Lib.hid hsw
    have hk4 : kb < W4.heap.size := by omega
    have h42 : w2.heap.size ≤ W4.heap.size := Nat.le_trans hsz3 h4.size
    clear hsw hW4 hx4 h3 h4 hB13 hB3 hkb9 hkb2 hv2 h2
    go_wp2_with fail
    rw [← HKB.out]
    refine HSW.out.mono ?_
    rintro e w6 ⟨⟨rfl, hK6, hO6⟩, _⟩
    go_wp2
    rw [hlen] at hK6
    have hO7 : Off T w w6 := HO9.out.trans hO6 (fun i hi => by
      rcases hi with hi | hi | hi
      · exact .inl hi
      · exact .inr (by omega)
      · exact .inr (by have := (HV2.out.lt i hi).1; omega))
    refine bodyPost_ret (v := .tuple #[.pointer (some ⟨kb, 0, none⟩), .int .i64 0]) (by simp [results, Tryd.results7, go_sem]) rfl ⟨_, rfl, hK6.more (fun i hi => ?_) (Grw.lt hTl hO7.size) (Nat.le_refl _), hO7⟩
    have h6s := hO6.size
    rcases hi with hi | hi
    · rcases hi with hi | hi | hi
      · exact .inl hi
      · exact .inr ⟨by omega, by omega⟩
      · exact .inr ⟨by have := (HV2.out.lt i hi).1; omega, by have := (HV2.out.lt i hi).2; omega⟩
    · exact .inr ⟨by have := HO9.out.size; omega, hi.2⟩
end Go.Proofs.YtbiecoifeeikpaaDoor
/-
  Package disk's Crash: what lasts of each file, and of its loose bytes so many.
  The disk has at most 100,000 files.
-/
set_option linter.unusedSimpArgs false
set_option linter.unusedVariables false
namespace Go.Proofs.YtbiecoifeeikpaaDoor
open Go.RowKit
set_option maxRecDepth 100000

set_option maxHeartbeats 2000000 in
theorem fcrash9_neg (A : Option Addr) (q ca fa k : Nat) (th : Bool) (bs : List UInt8) (n : Int) (w : World) (hb : Byt w w.heap.size (.slice A q ca) bs) (hq : bs.length = q) (hfa : fa ≤ q) (hq2 : q ≤ 1048576) (hn : ¬ 0 < n) (hn2 : n < 9223372036854775808)
    (hk : k = 0) (hkq : fa + k ≤ q) :
    Calls Tryd.prog 40 #[.agg #[.slice A q ca, .int .i64 ((fa : Nat) : Int), .bool th], .int .i64 n] w fun e w' => (if fa + k = 0 ∧ th = false then e = .returned (.tuple #[.agg #[.slice none 0 0, .int .i64 0, .bool false], .bool false]) else
      ∃ u, e = .returned (.tuple #[.agg #[u, .int .i64 ((fa + k : Nat) : Int), .bool true], .bool true]) ∧ OwnB w.heap.size u (bs.take (fa + k)) w') ∧ Below w.heap.size w w' := by
  have hca := (byt_cap9 hb).2
  obtain ⟨s, hs⟩ : ∃ s, fa + k = s := ⟨_, rfl⟩
  have hs2 : ((fa : Nat) : Int) + ((k : Nat) : Int) = ((s : Nat) : Int) := by omega
  have hwk : IntKind.i64.wrap ((fa : Int) + (k : Int)) = ((s : Nat) : Int) := by rw [IntKind.wrap_i64]; omega
  rw [hs]
  rw [hs] at hkq
  have hsca : (s : Int) ≤ ca := by omega
  have htk := byt_take9 (j := s) (l := bs) (A := A) (c := ca) (w := w) (B := w.heap.size) (by rw [hq]; exact hb) (by omega)
  have hw1 := below_new w (.cells #[.slice A q ca, .int .i64 ((fa : Nat) : Int), .bool th] 78)
  have hbx1 := Blk.new w #[.slice A q ca, .int .i64 ((fa : Nat) : Int), .bool th] 78
  obtain ⟨W0, hW0⟩ : ∃ W0, w.alloc (.cells #[.slice A q ca, .int .i64 ((fa : Nat) : Int), .bool th] 78) = W0 := ⟨_, rfl⟩
  have hz0 : W0.heap.size = w.heap.size + 1 := by rw [← hW0]; simp
  rw [hW0] at hw1 hbx1
  have hw2 := below_new W0 (.cells #[.slice none 0 0, .int .i64 0, .bool false] 78)
  have hbx2 := hbx1.below hw2
  have hby2 := Blk.new W0 #[.slice none 0 0, .int .i64 0, .bool false] 78
  obtain ⟨W1, hW1⟩ : ∃ W1, W0.alloc (.cells #[.slice none 0 0, .int .i64 0, .bool false] 78) = W1 := ⟨_, rfl⟩
  have hz1 : W1.heap.size = W0.heap.size + 1 := by rw [← hW1]; simp
  rw [hW1] at hw2 hbx2 hby2
  rw [hz0] at hby2 hz1
  have hb01 : Below w.heap.size w W1 := hw1.trans (hw2.mono (by omega))
  have HB01 := Lib.hid hb01
  have HBX := Lib.hid hbx2
  have HBY := Lib.hid hby2
  have HZ0 := Lib.hid hz0
  have HZ1 := Lib.hid hz1
  have HTK := Lib.hid htk
  have HBS : Hid (bs.length = q) := Lib.hid hq
  have y0 := hbx2.cell (j := 0) rfl
  have y1 := hbx2.cell (j := 1) rfl
  have y2 := hbx2.cell (j := 2) rfl
  have v0 := hby2.cell (j := 0) rfl
  have v1 := hby2.cell (j := 1) rfl
  have v2 := hby2.cell (j := 2) rfl
  have f0 := hby2.frz 0
  have f1 := hby2.frz 1
  have f2 := hby2.frz 2
  clear hb01 hw1 hw2 hbx1 hbx2 hby2 htk hb hq
  subst hk
  have hsf : fa = s := by omega
  subst hsf
  clear hs2 hwk
  by_cases h0 : fa = 0 ∧ th = false
  · simp only [if_pos h0]
    obtain ⟨h0, rfl⟩ := h0
    subst h0
    replace hW0 : w.alloc (.cells #[.slice A q ca, .int .i64 0, .bool false] 78) = W0 := hW0
    replace y1 : W1.cell? ⟨w.heap.size, 1, none⟩ = some (.int .i64 0) := y1
    go_enter Tryd.func40, Tryd.ntmps40
    go_wp2
    refine bodyPost_ret (v := .tuple #[.agg #[.slice none 0 0, .int .i64 0, .bool false], .bool false]) (by simp [results, Tryd.results40, go_sem, v0, v1, v2]) rfl ⟨rfl, ?_⟩
    exact ((HB01.out.setCell (p := ⟨w.heap.size + 1, 0, none⟩) (Nat.le_succ _) _).setCell (p := ⟨w.heap.size + 1, 1, none⟩) (Nat.le_succ _) _).setCell (p := ⟨w.heap.size + 1, 2, none⟩) (Nat.le_succ _) _
  · simp only [if_neg h0]
    have hcs : (fa = 0 ∧ th = true) ∨ ¬ fa = 0 := by
      rcases Nat.eq_zero_or_pos fa with h | h
      · cases th
        · exact absurd ⟨h, rfl⟩ h0
        · exact .inl ⟨h, rfl⟩
      · exact .inr (by omega)
    clear h0
    rcases hcs with ⟨h0, rfl⟩ | h0
    · subst h0
      replace hW0 : w.alloc (.cells #[.slice A q ca, .int .i64 0, .bool true] 78) = W0 := hW0
      replace y1 : W1.cell? ⟨w.heap.size, 1, none⟩ = some (.int .i64 0) := y1
      go_enter Tryd.func40, Tryd.ntmps40
      go_wp2_with fail
      have hby := (HTK.out.below HB01.out (Nat.le_refl _)).more HB01.out.size
      refine (lasting9_any _ W1.heap.size (bs.take 0) W1 hby (Nat.le_refl _) (by rw [List.length_take]; omega)).mono ?_
      rintro e k2 ⟨u2, rfl, hu2, hk2⟩
      have hln : (bs.take 0).length = 0 := by rw [List.length_take, HBS.out]; omega
      rw [hln]
      obtain ⟨A2, c2, hu2v⟩ := own_slice hu2
      rw [hln] at hu2v
      subst hu2v
      have hbk := HBY.out.below hk2
      replace v0 := hbk.cell (j := 0) rfl
      replace v1 := hbk.cell (j := 1) rfl
      replace v2 := hbk.cell (j := 2) rfl
      replace f0 := hbk.frz 0
      replace f1 := hbk.frz 1
      replace f2 := hbk.frz 2
      have hlo : w.heap.size + 1 < W1.heap.size := HBY.out.lt
      have HU2 := Lib.hid (hu2.down (show w.heap.size + 2 ≤ _ by omega))
      have HB2 := Lib.hid (HB01.out.trans (hk2.mono HB01.out.size))
      clear hk2 hbk hu2 hby hln
      go_wp2
      refine bodyPost_ret (v := .tuple #[.agg #[.slice A2 0 c2, .int .i64 ((0 : Nat) : Int), .bool true], .bool true]) (by simp [results, Tryd.results40, go_sem, v0, v1, v2]) rfl ⟨⟨_, rfl, ?_⟩, ?_⟩
      · exact (ownsRow_down (ownsRow_set (p := ⟨w.heap.size + 1, 2, none⟩) (ownsRow_set (p := ⟨w.heap.size + 1, 1, none⟩) (ownsRow_set (p := ⟨w.heap.size + 1, 0, none⟩) HU2.out (Nat.lt_succ_self _)) (Nat.lt_succ_self _)) (Nat.lt_succ_self _)) (by omega) : OwnB w.heap.size _ (bs.take 0) _)
      · exact ((HB2.out.setCell (p := ⟨w.heap.size + 1, 0, none⟩) (Nat.le_succ _) _).setCell (p := ⟨w.heap.size + 1, 1, none⟩) (Nat.le_succ _) _).setCell (p := ⟨w.heap.size + 1, 2, none⟩) (Nat.le_succ _) _
    · have h0i : ¬ ((fa : Nat) : Int) = 0 := by omega
      have h0b : (((fa : Nat) : Int) == 0) = false := by simpa using h0
      go_enter Tryd.func40, Tryd.ntmps40
      go_wp2_with fail
      have hby := (HTK.out.below HB01.out (Nat.le_refl _)).more HB01.out.size
      refine (lasting9_any _ W1.heap.size (bs.take fa) W1 hby (Nat.le_refl _) (by rw [List.length_take]; omega)).mono ?_
      rintro e k2 ⟨u2, rfl, hu2, hk2⟩
      have hln : (bs.take fa).length = fa := by rw [List.length_take, HBS.out]; omega
      rw [hln]
      obtain ⟨A2, c2, hu2v⟩ := own_slice hu2
      rw [hln] at hu2v
      subst hu2v
      have hbk := HBY.out.below hk2
      replace v0 := hbk.cell (j := 0) rfl
      replace v1 := hbk.cell (j := 1) rfl
      replace v2 := hbk.cell (j := 2) rfl
      replace f0 := hbk.frz 0
      replace f1 := hbk.frz 1
      replace f2 := hbk.frz 2
      have hlo : w.heap.size + 1 < W1.heap.size := HBY.out.lt
      have HU2 := Lib.hid (hu2.down (show w.heap.size + 2 ≤ _ by omega))
      have HB2 := Lib.hid (HB01.out.trans (hk2.mono HB01.out.size))
      clear hk2 hbk hu2 hby hln
      go_wp2
      refine bodyPost_ret (v := .tuple #[.agg #[.slice A2 fa c2, .int .i64 ((fa : Nat) : Int), .bool true], .bool true]) (by simp [results, Tryd.results40, go_sem, v0, v1, v2]) rfl ⟨⟨_, rfl, ?_⟩, ?_⟩
      · exact (ownsRow_down (ownsRow_set (p := ⟨w.heap.size + 1, 2, none⟩) (ownsRow_set (p := ⟨w.heap.size + 1, 1, none⟩) (ownsRow_set (p := ⟨w.heap.size + 1, 0, none⟩) HU2.out (Nat.lt_succ_self _)) (Nat.lt_succ_self _)) (Nat.lt_succ_self _)) (by omega) : OwnB w.heap.size _ (bs.take fa) _)
      · exact ((HB2.out.setCell (p := ⟨w.heap.size + 1, 0, none⟩) (Nat.le_succ _) _).setCell (p := ⟨w.heap.size + 1, 1, none⟩) (Nat.le_succ _) _).setCell (p := ⟨w.heap.size + 1, 2, none⟩) (Nat.le_succ _) _
set_option maxHeartbeats 2000000 in
theorem fcrash9_pos (A : Option Addr) (q ca fa k : Nat) (th : Bool) (bs : List UInt8) (n : Int) (w : World) (hb : Byt w w.heap.size (.slice A q ca) bs) (hq : bs.length = q) (hfa : fa ≤ q) (hq2 : q ≤ 1048576) (hn : 0 < n) (hn2 : n < 9223372036854775808)
    (hk : n.tmod ((q : Int) - fa + 1) = (k : Nat)) (hkq : fa + k ≤ q) :
    Calls Tryd.prog 40 #[.agg #[.slice A q ca, .int .i64 ((fa : Nat) : Int), .bool th], .int .i64 n] w fun e w' => (if fa + k = 0 ∧ th = false then e = .returned (.tuple #[.agg #[.slice none 0 0, .int .i64 0, .bool false], .bool false]) else
      ∃ u, e = .returned (.tuple #[.agg #[u, .int .i64 ((fa + k : Nat) : Int), .bool true], .bool true]) ∧ OwnB w.heap.size u (bs.take (fa + k)) w') ∧ Below w.heap.size w w' := by
  have hca := (byt_cap9 hb).2
  obtain ⟨s, hs⟩ : ∃ s, fa + k = s := ⟨_, rfl⟩
  have hs2 : ((fa : Nat) : Int) + ((k : Nat) : Int) = ((s : Nat) : Int) := by omega
  have hwk : IntKind.i64.wrap ((fa : Int) + (k : Int)) = ((s : Nat) : Int) := by rw [IntKind.wrap_i64]; omega
  rw [hs]
  rw [hs] at hkq
  have hsca : (s : Int) ≤ ca := by omega
  have htk := byt_take9 (j := s) (l := bs) (A := A) (c := ca) (w := w) (B := w.heap.size) (by rw [hq]; exact hb) (by omega)
  have hw1 := below_new w (.cells #[.slice A q ca, .int .i64 ((fa : Nat) : Int), .bool th] 78)
  have hbx1 := Blk.new w #[.slice A q ca, .int .i64 ((fa : Nat) : Int), .bool th] 78
  obtain ⟨W0, hW0⟩ : ∃ W0, w.alloc (.cells #[.slice A q ca, .int .i64 ((fa : Nat) : Int), .bool th] 78) = W0 := ⟨_, rfl⟩
  have hz0 : W0.heap.size = w.heap.size + 1 := by rw [← hW0]; simp
  rw [hW0] at hw1 hbx1
  have hw2 := below_new W0 (.cells #[.slice none 0 0, .int .i64 0, .bool false] 78)
  have hbx2 := hbx1.below hw2
  have hby2 := Blk.new W0 #[.slice none 0 0, .int .i64 0, .bool false] 78
  obtain ⟨W1, hW1⟩ : ∃ W1, W0.alloc (.cells #[.slice none 0 0, .int .i64 0, .bool false] 78) = W1 := ⟨_, rfl⟩
  have hz1 : W1.heap.size = W0.heap.size + 1 := by rw [← hW1]; simp
  rw [hW1] at hw2 hbx2 hby2
  rw [hz0] at hby2 hz1
  have hb01 : Below w.heap.size w W1 := hw1.trans (hw2.mono (by omega))
  have HB01 := Lib.hid hb01
  have HBX := Lib.hid hbx2
  have HBY := Lib.hid hby2
  have HZ0 := Lib.hid hz0
  have HZ1 := Lib.hid hz1
  have HTK := Lib.hid htk
  have HBS : Hid (bs.length = q) := Lib.hid hq
  have y0 := hbx2.cell (j := 0) rfl
  have y1 := hbx2.cell (j := 1) rfl
  have y2 := hbx2.cell (j := 2) rfl
  have v0 := hby2.cell (j := 0) rfl
  have v1 := hby2.cell (j := 1) rfl
  have v2 := hby2.cell (j := 2) rfl
  have f0 := hby2.frz 0
  have f1 := hby2.frz 1
  have f2 := hby2.frz 2
  clear hb01 hw1 hw2 hbx1 hbx2 hby2 htk hb hq
  obtain ⟨x, hx⟩ : ∃ x : Int, (q : Int) - fa = x := ⟨_, rfl⟩
  have hlz := fun w => loose9_any A q ca (fa : Nat) th w hq2 ⟨by omega, by omega⟩
  rw [hx] at hlz hk
  have hxa : IntKind.i64.wrap (x + 1) = x + 1 := by rw [IntKind.wrap_i64]; omega
  obtain ⟨y, hy⟩ : ∃ y : Int, x + 1 = y := ⟨_, rfl⟩
  rw [hy] at hxa hk
  have hy0 : ¬ y = 0 := by omega
  have hy1 : (y == 0) = false := by simpa using hy0
  have hrm : IntKind.i64.wrap (n.tmod y) = (k : Nat) := by rw [hk, IntKind.wrap_i64]; omega
  clear hx
  by_cases h0 : s = 0 ∧ th = false
  · simp only [if_pos h0]
    obtain ⟨h0, rfl⟩ := h0
    subst h0
    go_enter Tryd.func40, Tryd.ntmps40
    go_wp2_with fail
    refine (hlz _).mono ?_
    rintro e k1 ⟨rfl, hk1⟩
    have HBX := Lib.hid (HBX.out.below hk1)
    have HBY := Lib.hid (HBY.out.below hk1)
    have HB01 := Lib.hid (HB01.out.trans (hk1.mono HB01.out.size))
    replace y0 := HBX.out.cell (j := 0) rfl
    replace y1 := HBX.out.cell (j := 1) rfl
    replace y2 := HBX.out.cell (j := 2) rfl
    replace v0 := HBY.out.cell (j := 0) rfl
    replace v1 := HBY.out.cell (j := 1) rfl
    replace v2 := HBY.out.cell (j := 2) rfl
    replace f0 := HBY.out.frz 0
    replace f1 := HBY.out.frz 1
    replace f2 := HBY.out.frz 2
    clear hk1 hlz
    go_wp2
    refine bodyPost_ret (v := .tuple #[.agg #[.slice none 0 0, .int .i64 0, .bool false], .bool false]) (by simp [results, Tryd.results40, go_sem, v0, v1, v2]) rfl ⟨rfl, ?_⟩
    exact ((HB01.out.setCell (p := ⟨w.heap.size + 1, 0, none⟩) (Nat.le_succ _) _).setCell (p := ⟨w.heap.size + 1, 1, none⟩) (Nat.le_succ _) _).setCell (p := ⟨w.heap.size + 1, 2, none⟩) (Nat.le_succ _) _
  · simp only [if_neg h0]
    have hcs : (s = 0 ∧ th = true) ∨ ¬ s = 0 := by
      rcases Nat.eq_zero_or_pos s with h | h
      · cases th
        · exact absurd ⟨h, rfl⟩ h0
        · exact .inl ⟨h, rfl⟩
      · exact .inr (by omega)
    clear h0
    rcases hcs with ⟨h0, rfl⟩ | h0
    · subst h0
      go_enter Tryd.func40, Tryd.ntmps40
      go_wp2_with fail
      refine (hlz _).mono ?_
      rintro e k1 ⟨rfl, hk1⟩
      have HBX := Lib.hid (HBX.out.below hk1)
      have HBY := Lib.hid (HBY.out.below hk1)
      have HB01 := Lib.hid (HB01.out.trans (hk1.mono HB01.out.size))
      replace y0 := HBX.out.cell (j := 0) rfl
      replace y1 := HBX.out.cell (j := 1) rfl
      replace y2 := HBX.out.cell (j := 2) rfl
      replace v0 := HBY.out.cell (j := 0) rfl
      replace v1 := HBY.out.cell (j := 1) rfl
      replace v2 := HBY.out.cell (j := 2) rfl
      replace f0 := HBY.out.frz 0
      replace f1 := HBY.out.frz 1
      replace f2 := HBY.out.frz 2
      clear hk1 hlz
      go_wp2_with fail
      have hby := (HTK.out.below HB01.out (Nat.le_refl _)).more HB01.out.size
      refine (lasting9_any _ k1.heap.size (bs.take 0) k1 hby (Nat.le_refl _) (by rw [List.length_take]; omega)).mono ?_
      rintro e k2 ⟨u2, rfl, hu2, hk2⟩
      have hln : (bs.take 0).length = 0 := by rw [List.length_take, HBS.out]; omega
      rw [hln]
      obtain ⟨A2, c2, hu2v⟩ := own_slice hu2
      rw [hln] at hu2v
      subst hu2v
      have hbk := HBY.out.below hk2
      replace v0 := hbk.cell (j := 0) rfl
      replace v1 := hbk.cell (j := 1) rfl
      replace v2 := hbk.cell (j := 2) rfl
      replace f0 := hbk.frz 0
      replace f1 := hbk.frz 1
      replace f2 := hbk.frz 2
      have hlo : w.heap.size + 1 < k1.heap.size := HBY.out.lt
      have HU2 := Lib.hid (hu2.down (show w.heap.size + 2 ≤ _ by omega))
      have HB2 := Lib.hid (HB01.out.trans (hk2.mono HB01.out.size))
      clear hk2 hbk hu2 hby hln
      go_wp2
      refine bodyPost_ret (v := .tuple #[.agg #[.slice A2 0 c2, .int .i64 ((0 : Nat) : Int), .bool true], .bool true]) (by simp [results, Tryd.results40, go_sem, v0, v1, v2]) rfl ⟨⟨_, rfl, ?_⟩, ?_⟩
      · exact (ownsRow_down (ownsRow_set (p := ⟨w.heap.size + 1, 2, none⟩) (ownsRow_set (p := ⟨w.heap.size + 1, 1, none⟩) (ownsRow_set (p := ⟨w.heap.size + 1, 0, none⟩) HU2.out (Nat.lt_succ_self _)) (Nat.lt_succ_self _)) (Nat.lt_succ_self _)) (by omega) : OwnB w.heap.size _ (bs.take 0) _)
      · exact ((HB2.out.setCell (p := ⟨w.heap.size + 1, 0, none⟩) (Nat.le_succ _) _).setCell (p := ⟨w.heap.size + 1, 1, none⟩) (Nat.le_succ _) _).setCell (p := ⟨w.heap.size + 1, 2, none⟩) (Nat.le_succ _) _
    · have h0i : ¬ ((s : Nat) : Int) = 0 := by omega
      have h0b : (((s : Nat) : Int) == 0) = false := by simpa using h0
      go_enter Tryd.func40, Tryd.ntmps40
      go_wp2_with fail
      refine (hlz _).mono ?_
      rintro e k1 ⟨rfl, hk1⟩
      have HBX := Lib.hid (HBX.out.below hk1)
      have HBY := Lib.hid (HBY.out.below hk1)
      have HB01 := Lib.hid (HB01.out.trans (hk1.mono HB01.out.size))
      replace y0 := HBX.out.cell (j := 0) rfl
      replace y1 := HBX.out.cell (j := 1) rfl
      replace y2 := HBX.out.cell (j := 2) rfl
      replace v0 := HBY.out.cell (j := 0) rfl
      replace v1 := HBY.out.cell (j := 1) rfl
      replace v2 := HBY.out.cell (j := 2) rfl
      replace f0 := HBY.out.frz 0
      replace f1 := HBY.out.frz 1
      replace f2 := HBY.out.frz 2
      clear hk1 hlz
      go_wp2_with fail
      have hby := (HTK.out.below HB01.out (Nat.le_refl _)).more HB01.out.size
      refine (lasting9_any _ k1.heap.size (bs.take s) k1 hby (Nat.le_refl _) (by rw [List.length_take]; omega)).mono ?_
      rintro e k2 ⟨u2, rfl, hu2, hk2⟩
      have hln : (bs.take s).length = s := by rw [List.length_take, HBS.out]; omega
      rw [hln]
      obtain ⟨A2, c2, hu2v⟩ := own_slice hu2
      rw [hln] at hu2v
      subst hu2v
      have hbk := HBY.out.below hk2
      replace v0 := hbk.cell (j := 0) rfl
      replace v1 := hbk.cell (j := 1) rfl
      replace v2 := hbk.cell (j := 2) rfl
      replace f0 := hbk.frz 0
      replace f1 := hbk.frz 1
      replace f2 := hbk.frz 2
      have hlo : w.heap.size + 1 < k1.heap.size := HBY.out.lt
      have HU2 := Lib.hid (hu2.down (show w.heap.size + 2 ≤ _ by omega))
      have HB2 := Lib.hid (HB01.out.trans (hk2.mono HB01.out.size))
      clear hk2 hbk hu2 hby hln
      go_wp2
      refine bodyPost_ret (v := .tuple #[.agg #[.slice A2 s c2, .int .i64 ((s : Nat) : Int), .bool true], .bool true]) (by simp [results, Tryd.results40, go_sem, v0, v1, v2]) rfl ⟨⟨_, rfl, ?_⟩, ?_⟩
      · exact (ownsRow_down (ownsRow_set (p := ⟨w.heap.size + 1, 2, none⟩) (ownsRow_set (p := ⟨w.heap.size + 1, 1, none⟩) (ownsRow_set (p := ⟨w.heap.size + 1, 0, none⟩) HU2.out (Nat.lt_succ_self _)) (Nat.lt_succ_self _)) (Nat.lt_succ_self _)) (by omega) : OwnB w.heap.size _ (bs.take s) _)
      · exact ((HB2.out.setCell (p := ⟨w.heap.size + 1, 0, none⟩) (Nat.le_succ _) _).setCell (p := ⟨w.heap.size + 1, 1, none⟩) (Nat.le_succ _) _).setCell (p := ⟨w.heap.size + 1, 2, none⟩) (Nat.le_succ _) _
theorem fcrash9_any (A : Option Addr) (q ca fa k : Nat) (th : Bool) (bs : List UInt8) (n : Int) (w : World) (hb : Byt w w.heap.size (.slice A q ca) bs) (hq : bs.length = q) (hfa : fa ≤ q) (hq2 : q ≤ 1048576) (hn2 : n < 9223372036854775808)
    (hkp : 0 < n → n.tmod ((q : Int) - fa + 1) = (k : Nat)) (hkn : ¬ 0 < n → k = 0) (hkq : fa + k ≤ q) :
    Calls Tryd.prog 40 #[.agg #[.slice A q ca, .int .i64 ((fa : Nat) : Int), .bool th], .int .i64 n] w fun e w' => (if fa + k = 0 ∧ th = false then e = .returned (.tuple #[.agg #[.slice none 0 0, .int .i64 0, .bool false], .bool false]) else
      ∃ u, e = .returned (.tuple #[.agg #[u, .int .i64 ((fa + k : Nat) : Int), .bool true], .bool true]) ∧ OwnB w.heap.size u (bs.take (fa + k)) w') ∧ Below w.heap.size w w' := by
  by_cases hn : 0 < n
  · exact fcrash9_pos A q ca fa k th bs n w hb hq hfa hq2 hn hn2 (hkp hn) hkq
  · exact fcrash9_neg A q ca fa k th bs n w hb hq hfa hq2 hn hn2 (hkn hn) hkq
theorem ranges_off9 {S : Nat → Prop} {w w' : World} {b r n cnt : Nat} {D : DataW Value} {left : Lit → Bool} {P : Program} {k : TypeId} {R : Value → Option (DataW Value × List MemPlace)} (h : w.ranges P k R b r n D left cnt) (ho : Off S w w') (hb : ¬ S b) (hr : ¬ S r) : w'.ranges P k R b r n D left cnt := by
  have h1 := h.owns.lt
  have h2 := h.lt
  obtain ⟨es, clock, since, seen, c0, hb2, F, hs, hD, hr2, rest⟩ := h
  exact ⟨es, clock, since, seen, c0, (ho.block b h1 hb).trans hb2, F, hs, hD, (ho.block r h2 hr).trans hr2, rest⟩
set_option maxHeartbeats 2000000 in
theorem crash9_none (S : Nat → Prop) (g : Nat) (c : Nat) (n : Int) (w : World) (hb : Box9 w g none c) :
    Calls Tryd.prog 18 #[.pointer (some ⟨g, 0, none⟩), .int .i64 n] w fun e w' => e = .returned (.pointer (some ⟨w.heap.size, 0, none⟩)) ∧ PD w' (fun k => w.heap.size ≤ k ∧ k < w'.heap.size) w.heap.size [] 0 ∧ Below w.heap.size w w' := by
  have hb1 := below_new w (.cells #[.map none, .int .i64 0] 60)
  have hB := hb.below hb1
  have hP := PD.new w
  obtain ⟨W1, hW1⟩ : ∃ W1, w.alloc (.cells #[.map none, .int .i64 0] 60) = W1 := ⟨_, rfl⟩
  have hz1 : W1.heap.size = w.heap.size + 1 := by rw [← hW1]; simp
  rw [hW1] at hb1 hB hP
  have hc0 := hB.cell0
  have hrg := run_range_nilMap (P := Tryd.prog) W1 58 9 78 Tryd.underlying58
  have hnx : ∀ ty, (Instr.next (.pointer (some ⟨W1.heap.size, 0, none⟩)) false ty).run Tryd.prog (W1.alloc (.mapIter none 0 #[] 0)) = _ := fun ty => run_next_nilMap _ ty 0 0 #[]
  have HB1 := Lib.hid hb1
  have HP := Lib.hid hP
  have HZ1 := Lib.hid hz1
  clear hb1 hP hB hb hz1
  go_enter Tryd.func18, Tryd.ntmps18
  go_wp2_with fail
  refine (new9_any w).mono ?_
  rintro e k ⟨rfl, rfl⟩
  rw [hW1]
  go_wp2
  refine wp_loop_rounds 1 ?_
  rw [rounds_succ]
  go_wp2
  go_ret
  refine ⟨rfl, ?_, HB1.out.trans ((below_new W1 _).mono (by rw [HZ1.out]; exact Nat.le_succ _))⟩
  refine (HP.out.below (below_new W1 _)).more (fun k hk => ?_) (fun k hk => hk.2)
  subst hk
  have := HZ1.out
  exact ⟨Nat.le_refl _, by simp; omega⟩
set_option maxHeartbeats 4000000 in
theorem crash9_some (S : Nat → Prop) (g b c : Nat) (l : List Fil) (ps : List (Fil × Value)) (n : Int) (w : World) (hl : ps.map (·.1) = l) (hb : Box9 w g (some b) c) (hm : Map9 w (some b) ps) (h6 : ∀ p ∈ ps, OwnB 0 p.2 p.1.b w) (hs : Sorted9 l) (hgd : ∀ f ∈ l, Good9 f) (hlen : l.length ≤ 100000)
    (hn : -9223372036854775808 ≤ n ∧ n < 9223372036854775808) :
    Calls Tryd.prog 18 #[.pointer (some ⟨g, 0, none⟩), .int .i64 n] w fun e w' => e = .returned (.pointer (some ⟨w.heap.size, 0, none⟩)) ∧ PD w' (fun k => w.heap.size ≤ k ∧ k < w'.heap.size) w.heap.size (crash9 n l) 0 ∧ Below w.heap.size w w' := by
  have hb1 := below_new w (.cells #[.map none, .int .i64 0] 60)
  have hB := hb.below hb1
  have hM := hm.below hb1
  have hP := PD.new w
  obtain ⟨W1, hW1⟩ : ∃ W1, w.alloc (.cells #[.map none, .int .i64 0] 60) = W1 := ⟨_, rfl⟩
  have hz1 : W1.heap.size = w.heap.size + 1 := by rw [← hW1]; simp
  rw [hW1] at hb1 hB hM hP
  have hc0 := hB.cell0
  have hown : W1.ownsMap Tryd.prog 9 RH b ps.length (DD ps) := hM
  have hblt : b < w.heap.size := World.ownsMap.lt (show w.ownsMap Tryd.prog 9 RH b ps.length (DD ps) from hm)
  have H6 := Lib.hid h6
  have HS := Lib.hid hs
  have HGD := Lib.hid hgd
  have HL := Lib.hid hl
  have HB1 := Lib.hid hb1
  have HP := Lib.hid hP
  have HZ1 := Lib.hid hz1
  have HLEN := Lib.hid hlen
  clear h6 hs hgd hl hb1 hP hB hb hM hm hlen hz1
  go_enter Tryd.func18, Tryd.ntmps18
  go_wp2_with fail
  refine (new9_any w).mono ?_
  rintro e k ⟨rfl, rfl⟩
  rw [hW1]
  go_wp2_with (first
    | (at_range; refine wpList_range_own _ rfl _ 58 rfl 9 78 Tryd.lawStr9 Tryd.underlying58 _ b ps.length _ rfl hown ?_; intro w0 hrg0 hg0 hs0)
    | go_in)
  go_frame
  have hz1 := HZ1.out
  rw [hz1] at hrg0 hs0 ⊢
  have hbel0 : Below W1.heap.size W1 w0 := (Below.refl _ _).grown hg0 (Nat.le_refl _) (fun j hj => by cases hj)
  clear hown hz1
  go_loopw [9] (fun _ wr => ∃ (left : Lit → Bool) (cnt : Nat), wr.ranges Tryd.prog 9 RH b (w.heap.size + 1) ps.length (DD ps) left cnt ∧
      PD wr (fun k => w.heap.size ≤ k ∧ k ≠ w.heap.size + 1 ∧ k < wr.heap.size) w.heap.size (crash9 n (seen9 left l)) 0 ∧ Below w.heap.size w wr)
    (fun _ wr => wr.rangeLeft b (w.heap.size + 1))
  case atStart =>
    refine ⟨_, _, hrg0, ?_, HB1.out.trans (hbel0.mono (by rw [HZ1.out]; exact Nat.le_succ _))⟩
    rw [← HL.out, seen9_start]
    refine (HP.out.below hbel0).more (fun k hk => ?_) (fun k hk => hk.2.2)
    subst hk
    exact ⟨Nat.le_refl _, by omega, by omega⟩
  case round =>
    obtain ⟨left, cnt, hrg, hpd, hbw⟩ := hrel
    have HPD := Lib.hid hpd
    have HBW := Lib.hid hbw
    clear hpd hbw
    go_wp2_with (first
      | (at_next; refine wpList_next_ranges _ rfl _ rfl 9 Tryd.lawStr9 RH Go.Proofs.encStr (fun v : Value => v) (fun key kl hk => by obtain ⟨x, hx, _⟩ := Maps.keyOf_str Tryd.underlying9 hk; exact ⟨x, hx⟩) (fun v y hv => ⟨v, rfl⟩) b (w.heap.size + 1) ps.length _ _ _ rfl hrg ?_ ?_)
      | go_in)
    · intro hc0' hl0
      go_wp2
      go_ret
      refine ⟨rfl, ?_, HBW.out⟩
      have h1 := HPD.out
      rw [seen9_end l hl0] at h1
      exact h1.more (fun k hk => ⟨hk.1, hk.2.2⟩) (fun k hk => hk.2)
    · intro x v kl yd yp w1 cnt1 hkey hlk hv hat hrg1 hlt hg1 hs1 hen
      obtain ⟨x', ex, rfl, _⟩ := Maps.keyOf_str Tryd.underlying9 hkey
      obtain rfl : x = x' := encStr_inj ex
      obtain ⟨nm, hnm⟩ : ∃ nm : ByteArray, (⟨x.toArray⟩ : ByteArray) = nm := ⟨_, rfl⟩
      have hnx : nm.data.toList = x := by rw [← hnm]
      have hyd : yd = .held v := by
        have h1 : RH v = some (yd, yp) := hv
        injection h1 with h1; injection h1 with h1 _; exact h1.symm
      subst hyd
      rw [← hnx] at hat hlk hrg1
      obtain ⟨p, hp, hpn, rfl⟩ := at_find9 hat
      have hpl : p.1 ∈ l := by rw [← HL.out]; exact List.mem_map_of_mem hp
      obtain ⟨g1, g2, g3, g4⟩ := HGD.out p.1 hpl
      obtain ⟨A, ca, hpv⟩ := own_slice (H6.out p hp)
      have hob := H6.out p hp
      rw [hpv] at hob
      obtain ⟨bs, hbs⟩ : ∃ bs, p.1.b = bs := ⟨_, rfl⟩
      obtain ⟨q, hq⟩ : ∃ q, bs.length = q := ⟨_, rfl⟩
      obtain ⟨fa, hfa⟩ : ∃ fa, p.1.fast = fa := ⟨_, rfl⟩
      obtain ⟨th, hth⟩ : ∃ th, p.1.there = th := ⟨_, rfl⟩
      have hst := seen9_step (n := n) HS.out hpl left (by rw [hpn]; exact hlk)
      rw [hpn] at hst
      have hkle := kOf9_le (n := n) g2
      have hkp := fun h => kOf9_pos (n := n) h g2
      have hkn := kOf9_neg (n := n) (f := p.1)
      obtain ⟨kk, hkk⟩ : ∃ kk, kOf9 n p.1 = kk := ⟨_, rfl⟩
      have hlf : left9 n p.1 = if th = true ∨ 0 < kk then [⟨nm, bs.take (fa + kk), fa + kk, true⟩] else [] := by
        unfold left9; rw [hth, hkk, hpn, hbs, hfa]
      rw [hlf] at hst
      rw [hbs] at g2 g3 hob hkle hkp
      rw [hq] at g2 g3 hob hkle hkp
      rw [hfa] at g2 hkle hkp
      rw [hkk] at hkle hkp hkn
      rw [hfa, hth] at g4
      have hfv : fileV p = .agg #[.slice A q ca, .int .i64 ((fa : Nat) : Int), .bool th] := by unfold fileV; rw [hpv, hbs, hq, hfa, hth]
      rw [hfv] at hen ⊢
      have hnz := (goodN_size g1).2
      rw [hpn] at hnz
      have hgn1 : goodN nm = true := by rw [← hpn]; exact g1
      have hpd1 : PD w1 (fun k => w.heap.size ≤ k ∧ k ≠ w.heap.size + 1 ∧ k < wr.heap.size) w.heap.size (crash9 n (seen9 left l)) 0 := HPD.out.off (T := fun k => k = w.heap.size + 1) ((Off.refl _ _).grown hg1 (fun k hk => .inl (Option.some.inj hk).symm)) (fun k hk e => hk.2.1 e)
      have hbw1 : Below w.heap.size w w1 := HBW.out.grown hg1 HBW.out.size (fun j hj => by cases hj; exact Nat.le_succ _)
      have hbx : w1.heap.size = wr.heap.size := hs1
      have hrl := hrg.left_eq
      have hrlt := hrg1.lt
      have HRL := Lib.hid hrl
      have HRG1 := Lib.hid hrg1
      have HPD1 := Lib.hid hpd1
      have HBW1 := Lib.hid hbw1
      have HSZ := Lib.hid hbx
      have HST := Lib.hid hst
      have HOB := Lib.hid hob
      have HBS : Hid (bs.length = q) := Lib.hid hq
      have hwz := HBW.out.size
      have hnm2 : (Go.Proofs.encStr x : Value) = .string nm := by rw [← hnm]
      rw [hnm2] at hen ⊢
      clear hnm2 hnm hnx hrg hrg1 hpd1 hbw1 hbx hst hob hq hbs hfa hth hkk hlf hpv hfv hg1 hs1 hv hat hlk hkey ex g1 hpn hp hpl HPD hrl
      go_wp2_with fail
      have hal := below_new w1 (.cells #[.slice A q ca, .int .i64 ((fa : Nat) : Int), .bool th] 78)
      refine (fcrash9_any A q ca fa kk th bs n _ (((Byt.of_own HOB.out).below (HBW1.out.trans (hal.mono HBW1.out.size)) (Nat.le_refl _)).more (Nat.le_trans HBW1.out.size hal.size)) HBS.out g2 g3 hn.2 hkp (fun h => hkn (by omega)) hkle).mono ?_
      rintro e k2 ⟨hre, hk2⟩
      have hb12 : Below w1.heap.size w1 k2 := hal.trans (hk2.mono hal.size)
      have HB12 := Lib.hid hb12
      clear hal hkp hkn
      by_cases h0 : fa + kk = 0 ∧ th = false
      · rw [if_pos h0] at hre
        subst hre
        have hno : ¬ (th = true ∨ 0 < kk) := by
          rintro (h | h)
          · rw [h] at h0; cases h0.2
          · omega
        have hst := HST.out.1 (if_neg hno)
        have HST1 := Lib.hid hst
        clear hk2 hb12 hst h0 hno
        go_wp2
        go_roundw
        case rel =>
          have hb13 := HB12.out.alloc (o := .cells #[.slice none 0 0, .int .i64 0, .bool false] 78) HB12.out.size
          refine ⟨_, cnt1, ranges_off9 HRG1.out (Off.of_below (S := fun _ => False) hb13) (fun h => h) (fun h => h), ?_, HBW1.out.trans (hb13.mono HBW1.out.size)⟩
          rw [HST1.out]
          exact (HPD1.out.below hb13).more (fun k hk => ⟨hk.1, hk.2.1, by have := hb13.size; have := HSZ.out; omega⟩) (fun k hk => hk.2.2)
        case measure =>
          have hb13 := HB12.out.alloc (o := .cells #[.slice none 0 0, .int .i64 0, .bool false] 78) HB12.out.size
          rw [(ranges_off9 HRG1.out (Off.of_below (S := fun _ => False) hb13) (fun h => h) (fun h => h)).left_eq, HRL.out]
          exact hlt
      · rw [if_neg h0] at hre
        obtain ⟨u2, rfl, hu2⟩ := hre
        have hye : th = true ∨ 0 < kk := by
          cases th with
          | true => exact .inl rfl
          | false =>
            have h1 := g4 rfl
            refine .inr ?_
            rcases Nat.eq_zero_or_pos kk with h2 | h2
            · exact absurd ⟨by omega, rfl⟩ h0
            · exact h2
        have hst := HST.out.2 _ (if_pos hye)
        have HST1 := Lib.hid hst
        obtain ⟨sz, hsz⟩ : ∃ sz, fa + kk = sz := ⟨_, rfl⟩
        rw [hsz] at HST1 hu2 hkle
        rw [hsz]
        have hln : (bs.take sz).length = sz := by rw [List.length_take, HBS.out]; omega
        obtain ⟨A2, c2, hu2v⟩ := own_slice hu2
        rw [hln] at hu2v
        subst hu2v
        have HU2 := Lib.hid (hu2.down (show w1.heap.size ≤ _ by simp))
        have HLN := Lib.hid hln
        have HGF : Hid (Good9 ⟨nm, bs.take sz, sz, true⟩) := Lib.hid ⟨hgn1, by rw [hln]; exact Nat.le_refl _, by rw [hln]; omega, fun h => by cases h⟩
        obtain ⟨m2, ps2, e1, e2, e3, e4, e5, e6, e7, e8, e9, e10⟩ := HPD1.out
        have hpl2 : ps2.length ≤ 100000 := by
          have h1 := crash9_len n (seen9 left l)
          have h2 : (seen9 left l).length ≤ l.length := List.length_filter_le _ _
          have h3 : ps2.length = (crash9 n (seen9 left l)).length := by rw [← e1, List.length_map]
          have h4 := HLEN.out
          omega
        have E1 := Lib.hid e1
        have E2 := Lib.hid e2
        have E3 := Lib.hid e3
        have E4 := Lib.hid e4
        have E5 := Lib.hid e5
        have E6 := Lib.hid e6
        have E7 := Lib.hid e7
        have E8 := Lib.hid e8
        have E9 := Lib.hid e9
        have E10 := Lib.hid e10
        clear hk2 hb12 hst h0 hye hsz hln hu2 e1 e2 e3 e4 e5 e6 e7 e8 e9 e10 hgn1
        go_wp2_with fail
        refine (put9_from ⟨nm, bs.take sz, sz, true⟩ A2 sz c2 E3.out E5.out (HB12.out.alloc HB12.out.size _) (sorted_ps E1.out E8.out) hpl2 hnz).mono ?_
        rintro e k3 ⟨rfl, hbW, hbx, hmx, b2, hbk, hmk, hor, hok⟩
        have hfin := PD.done (S := fun k => w.heap.size ≤ k ∧ k ≠ w.heap.size + 1 ∧ k < wr.heap.size) (w := w1) (f := ⟨nm, bs.take sz, sz, true⟩) (u := .slice A2 sz c2) E1.out E2.out E4.out (fun p hp => (E6.out p hp).2) E7.out E8.out E9.out E10.out (Off.of_below hbW) hbx hmx (fun p hp _ => (E6.out p hp).1.below hbW)
          (((HU2.out.below (below_new k2 _)).down (Nat.zero_le _))) (fun j hj => .inr ⟨(HU2.out.lt j hj).1, by have h1 := (HU2.out.lt j hj).2; simp; omega⟩)
          (fun p hp _ j hj e => by
            have h1 := E10.out j ((E6.out p hp).2 j e)
            have h2 := (HU2.out.lt j hj).1
            omega) HGF.out hbk hmk hor hok
        have HFIN := Lib.hid hfin
        clear hfin hbW hbx hmx hbk hmk hor hok
        go_wp2
        go_roundw
        case rel =>
          have h1 := HFIN.out.2.size
          have h2 := HSZ.out
          refine ⟨_, cnt1, ranges_off9 HRG1.out HFIN.out.2 (fun h => by have := h.1; omega) (fun h => h.2.1 rfl), ?_, HBW1.out.trans (HFIN.out.2.below (fun k hk => hk.1) HBW1.out.size)⟩
          rw [HST1.out]
          refine HFIN.out.1.more (fun k hk => ?_) (fun k hk => hk.2.2)
          rcases hk with hk | hk
          · exact ⟨hk.1, hk.2.1, by omega⟩
          · exact ⟨by omega, by omega, hk.2⟩
        case measure =>
          rw [(ranges_off9 HRG1.out HFIN.out.2 (fun h => by have := h.1; omega) (fun h => h.2.1 rfl)).left_eq, HRL.out]
          exact hlt
theorem crash9_disk (S : Nat → Prop) (g : Nat) (l : List Fil) (c : Nat) (n : Int) (w : World) (h : PD w S g l c) (hlen : l.length ≤ 100000) (hn : -9223372036854775808 ≤ n ∧ n < 9223372036854775808) :
    Calls Tryd.prog 18 #[.pointer (some ⟨g, 0, none⟩), .int .i64 n] w fun e w' => e = .returned (.pointer (some ⟨w.heap.size, 0, none⟩)) ∧ PD w' (fun k => w.heap.size ≤ k ∧ k < w'.heap.size) w.heap.size (crash9 n l) 0 ∧ Below w.heap.size w w' := by
  obtain ⟨m, ps, h1, h2, h3, h4, h5, h6, h7, h8, h9, h10⟩ := h
  cases m with
  | none =>
    have h5 : ps = [] := h5
    subst h5
    have h1 : l = [] := h1.symm
    subst h1
    exact crash9_none S g c n w h3
  | some b => exact crash9_some S g b c l ps n w h1 h3 h5 (fun p hp => (h6 p hp).1) h8 h9 hlen hn
end Go.Proofs.YtbiecoifeeikpaaDoor
/-
  A keep and a disk as the laws hold them: none of their blocks is one of those that must stand.
  There are no conditions beyond those that each lemma names.
-/
set_option linter.unusedSimpArgs false
set_option linter.unusedVariables false
namespace Go.Proofs.YtbiecoifeeikpaaDoor
open Go.RowKit Go.Deep
set_option maxRecDepth 100000

/-- blocks of which N holds stand -/
def Std (N : Nat → Prop) (w w' : World) : Prop := Off (fun j => ¬ N j) w w'
theorem Std.size {N : Nat → Prop} {w w' : World} (h : Std N w w') : w.heap.size ≤ w'.heap.size := Off.size h
theorem Std.cell {N : Nat → Prop} {w w' : World} (h : Std N w w') {p : Addr} (hN : N p.block) (hl : p.block < w.heap.size) : w'.cell? p = w.cell? p := Off.cell h hl fun e => e hN
theorem Std.block {N : Nat → Prop} {w w' : World} (h : Std N w w') {j : Nat} (hN : N j) (hl : j < w.heap.size) : w'.heap[j]? = w.heap[j]? := Off.block h j hl fun e => e hN
theorem Std.rt {N : Nat → Prop} {w w' : World} {g : Nat} {t : TypeId} {cs : List Value} (h : Std N w w') (hx : Rt w g t cs) (hN : N g) : Rt w' g t cs := (h.block hN hx.lt).trans hx
theorem Std.refl (N : Nat → Prop) (w : World) : Std N w w := Off.refl _ _
theorem Std.of_below {N : Nat → Prop} {w w' : World} (h : Below w.heap.size w w') : Std N w w' := Off.of_below h
theorem Std.trans {N : Nat → Prop} {a b c : World} (h : Std N a b) (k : Std N b c) : Std N a c := Off.trans h k fun _ hj => .inl hj
theorem Std.less {N M : Nat → Prop} {a b : World} (h : Std N a b) (hM : ∀ j, M j → N j) : Std M a b := Off.mono h fun j hj => .inl fun e => hj (hM j e)
theorem Std.tbl {N : Nat → Prop} {w w' : World} (h : Std N w w') (hT : Tbl w) (hN : N 0) : Tbl w' := fun k hk => (h.cell (p := ⟨0, k, none⟩) hN (cell_lt (hT k hk))).trans (hT k hk)
theorem Std.below {N : Nat → Prop} {w w' : World} {B : Nat} (h : Std N w w') (hB : B ≤ w.heap.size) (hN : ∀ j, j < B → N j) : Below B w w' := Off.below h (fun j hj => by
  rcases Nat.lt_or_ge j B with h1 | h1
  · exact absurd (hN j h1) hj
  · exact h1) hB
theorem Std.ens {N : Nat → Prop} {w w' : World} {v : Value} {L : List Ent} (h : Std N w w') (hE : Ens N w v L) : Ens N w' v L := hE.keep fun _ hp hl => h.cell hp hl
/-- a keep none of whose blocks is one of N -/
def KK (N : Nat → Prop) (w : World) (g d : Nat) (k : Kst) (x : Fk) (c : Nat) : Prop := (∃ S, KB w S g d k x c ∧ ∀ j, S j → ¬ N j) ∧ (∀ j, N j → j < w.heap.size) ∧ N 0 ∧ Tbl w
/-- a disk none of whose blocks is one of N -/
def KD (N : Nat → Prop) (w : World) (d : Nat) (x : Fk) (c : Nat) : Prop := (∃ T, PD w T d (files11 x) c ∧ ∀ j, T j → ¬ N j) ∧ (∀ j, N j → j < w.heap.size) ∧ N 0 ∧ Tbl w
theorem KK.ok {N : Nat → Prop} {w : World} {g d c : Nat} {k : Kst} {x : Fk} (h : KK N w g d k x c) : KOk k := by
  obtain ⟨⟨S, h1, _⟩, _⟩ := h; exact h1.ok
/-- others made new blocks: these stand as well -/
theorem KK.others {N : Nat → Prop} {w w' : World} {g d c : Nat} {k : Kst} {x : Fk} (h : KK N w g d k x c) (hb : Below w.heap.size w w') : KK (fun j => N j ∨ (w.heap.size ≤ j ∧ j < w'.heap.size)) w' g d k x c := by
  obtain ⟨⟨S, h1, h2⟩, h3, h4, h5⟩ := h
  refine ⟨⟨S, h1.below hb, fun j hj hn => ?_⟩, fun j hj => ?_, .inl h4, tbl_keep h5 hb⟩
  · rcases hn with hn | hn
    · exact h2 j hj hn
    · have := h1.lt j hj; omega
  · rcases hj with hj | hj
    · exact Nat.lt_of_lt_of_le (h3 j hj) hb.size
    · exact hj.2
/-- what is written into a block of N leaves a keep alone -/
theorem KK.set {N : Nat → Prop} {w : World} {g d c : Nat} {k : Kst} {x : Fk} (h : KK N w g d k x c) {p : Addr} (u : Value) (hp : N p.block) (hs : p.block ≠ 0) (hsp : p.spot = none) : KK N (w.setCell p u) g d k x c := by
  obtain ⟨⟨S, h1, h2⟩, h3, h4, h5⟩ := h
  obtain ⟨pb, po, ps⟩ := p
  simp only at hsp hp hs
  subst hsp
  have ho : Off (fun j => j = pb) w (w.setCell ⟨pb, po, none⟩ u) := (Off.refl _ w).set (.inl rfl)
  exact ⟨⟨S, h1.off ho (fun j hj e => by subst e; exact h2 _ hj hp), h2⟩, fun j hj => Nat.lt_of_lt_of_le (h3 j hj) ho.size, h4, fun i hi => (ho.cell (p := ⟨0, i, none⟩) (cell_lt (h5 i hi)) (fun e => hs e.symm)).trans (h5 i hi)⟩
theorem KK.less {N M : Nat → Prop} {w : World} {g d c : Nat} {k : Kst} {x : Fk} (h : KK N w g d k x c) (hM : ∀ j, M j → N j) (hs : M 0) : KK M w g d k x c := by
  obtain ⟨⟨S, h1, h2⟩, h3, h4, h5⟩ := h
  exact ⟨⟨S, h1, fun j hj hm => h2 j hj (hM j hm)⟩, fun j hj => h3 j (hM j hj), hs, h5⟩
theorem KK.drew {N : Nat → Prop} {w : World} {g d c : Nat} {k : Kst} {x : Fk} (h : KK N w g d k x c) : KK N w.drew g d k x c := by
  obtain ⟨⟨S, h1, h2⟩, h3, h4, h5⟩ := h
  exact ⟨⟨S, h1.below ((Below.refl _ _).drew), h2⟩, h3, h4, h5⟩
/-- a step of a keep as the laws hold it -/
def Kt (N : Nat → Prop) (g d : Nat) (k : Kst) (x : Fk) (c : Nat) (r : Int) (w : World) (e : Ending) (w' : World) : Prop := e = .returned (.int .i64 r) ∧ KK N w' g d k x c ∧ Std N w w'
theorem Kd.kt {N S : Nat → Prop} {g d c : Nat} {k : Kst} {x : Fk} {r : Int} {w w' : World} {e : Ending} (h : Kd S g d k x c r w e w') (h2 : ∀ j, S j → ¬ N j) (h3 : ∀ j, N j → j < w.heap.size) (h4 : N 0) (h5 : Tbl w) : Kt N g d k x c r w e w' := by
  obtain ⟨a, b, o⟩ := h
  have hs : Std N w w' := o.mono fun j hj => .inl fun e => h2 j hj e
  refine ⟨a, ⟨⟨_, b, fun j hj hn => ?_⟩, fun j hj => Nat.lt_of_lt_of_le (h3 j hj) o.size, h4, hs.tbl h5 h4⟩, hs⟩
  rcases hj with hj | hj
  · exact h2 j hj hn
  · have := h3 j hn; omega
theorem hard_kk {N : Nat → Prop} {g d c : Nat} {k : Kst} {x : Fk} {w : World} (h : KK N w g d k x c) (hc : c ≤ 900000) (t v : Int) (r : Int) (k' : Kst) (hr : hard11 k t v = (r, k')) :
    Calls Tryd.prog 11 #[.pointer (some ⟨g, 0, none⟩), .agg #[.int .i64 t, .int .i64 v]] w (Kt N g d k' (hardF k x t v) (c + 2) r w) := by
  obtain ⟨⟨S, h1, h2⟩, h3, h4, h5⟩ := h
  refine (khard_any S g d c k x t v w h1 hc h5 (fun e => h2 _ e h4)).mono ?_
  intro e w' hk
  rw [hr] at hk
  exact hk.kt h2 h3 h4 h5
theorem write_kk {N : Nat → Prop} {g d c : Nat} {k : Kst} {x : Fk} {w : World} (h : KK N w g d k x c) (hc : c ≤ 900000) (A : Option Addr) (n q : Nat) (l : List Ent) (hE : Ens N w (.slice A n q) l) (hl : l.length ≤ 80) (hd : ∀ e ∈ l, e.data.size ≤ 1050000) (hib : ∀ e ∈ l, -9223372036854775808 ≤ e.ix ∧ e.ix ≤ 9223372036854775807) (r : Int) (k' : Kst) (hr : write11 k l = (r, k')) :
    Calls Tryd.prog 10 #[.pointer (some ⟨g, 0, none⟩), .slice A n q] w (Kt N g d k' (writeF k x l) (c + 2) r w) := by
  obtain ⟨⟨S, h1, h2⟩, h3, h4, h5⟩ := h
  refine (kwrite_any S g d c k x A n q l w h1 hc (hE.mono fun j hj _ e => h2 j e hj) hl hd hib h5 (fun e => h2 _ e h4)).mono ?_
  intro e w' hk
  rw [hr] at hk
  exact hk.kt h2 h3 h4 h5
theorem sync_kk {N : Nat → Prop} {g d c : Nat} {k : Kst} {x : Fk} {w : World} (h : KK N w g d k x c) (hc : c ≤ 900000) :
    Calls Tryd.prog 17 #[.pointer (some ⟨g, 0, none⟩)] w (Kt N g d k (some (sync11 k x)) (c + 2) 0 w) := by
  obtain ⟨⟨S, h1, h2⟩, h3, h4, h5⟩ := h
  refine (ksync_any S g d c k x w h1 hc h5 (fun e => h2 _ e h4)).mono ?_
  intro e w' hk
  exact hk.kt h2 h3 h4 h5
theorem state_kk {N : Nat → Prop} {g d c : Nat} {k : Kst} {x : Fk} {w : World} (h : KK N w g d k x c) :
    Calls Tryd.prog 16 #[.pointer (some ⟨g, 0, none⟩)] w fun e w' => ∃ v, e = .returned (.agg #[.int .i64 k.ht, .int .i64 k.hv, .int .i64 k.s.ix, .int .i64 k.s.st, .string k.s.conf, .string k.s.data, v]) ∧ OwnEn w.heap.size v k.log w' ∧ Below w.heap.size w w' := by
  obtain ⟨⟨S, h1, h2⟩, _⟩ := h
  exact kstate_any S g d c k x w h1
theorem new_kd (w : World) (N : Nat → Prop) (h3 : ∀ j, N j → j < w.heap.size) (h4 : N 0) (h5 : Tbl w) :
    Calls Tryd.prog 6 #[] w fun e w' => e = .returned (.pointer (some ⟨w.heap.size, 0, none⟩)) ∧ KD N w' w.heap.size none 0 ∧ Below w.heap.size w w' := by
  refine (new9_any w).mono ?_
  rintro e w' ⟨rfl, rfl⟩
  have hb := below_new w (.cells #[.map none, .int .i64 0] 60)
  exact ⟨rfl, ⟨⟨_, PD.new w, fun j hj hn => by subst hj; exact absurd (h3 _ hn) (Nat.lt_irrefl _)⟩, fun j hj => Nat.lt_of_lt_of_le (h3 j hj) hb.size, h4, tbl_keep h5 hb⟩, hb⟩
theorem open_none_kk {N : Nat → Prop} {d c : Nat} {w : World} (h : KD N w d none c) :
    Calls Tryd.prog 7 #[.pointer (some ⟨d, 0, none⟩)] w fun e w' => ∃ g, e = .returned (.tuple #[.pointer (some ⟨g, 0, none⟩), .int .i64 0]) ∧ KK N w' g d zKst none c ∧ Std N w w' := by
  obtain ⟨⟨T, h1, h2⟩, h3, h4, h5⟩ := h
  refine (kopen_none T d c w h1).mono ?_
  rintro e w' ⟨g, rfl, hk, hb⟩
  refine ⟨g, rfl, ⟨⟨_, hk, fun j hj hn => ?_⟩, fun j hj => Nat.lt_of_lt_of_le (h3 j hj) hb.size, h4, tbl_keep h5 hb⟩, Std.of_below hb⟩
  rcases hj with hj | hj
  · exact h2 j hj hn
  · have := h3 j hn; omega
/-- Crash of a keep's disk: another disk; the keep stands as well -/
theorem crash_kk {N : Nat → Prop} {g d c : Nat} {k : Kst} {x : Fk} {w : World} (h : KK N w g d k x c) (n : Int) (hn : -9223372036854775808 ≤ n ∧ n < 9223372036854775808) :
    Calls Tryd.prog 18 #[.pointer (some ⟨d, 0, none⟩), .int .i64 n] w fun e w' => e = .returned (.pointer (some ⟨w.heap.size, 0, none⟩)) ∧ KD N w' w.heap.size (crash11 n x) 0 ∧ Below w.heap.size w w' := by
  obtain ⟨⟨S, hk, h2⟩, h3, h4, h5⟩ := h
  obtain ⟨T, v, c0, hP, _⟩ := hk.ex
  refine (crash9_disk T d (files11 x) c0 n w hP (files_len x) hn).mono ?_
  rintro e w' ⟨he, hp, hb⟩
  rw [crash11_is] at hp
  exact ⟨he, ⟨⟨_, hp, fun j hj hn => by have := h3 j hn; have := hj.1; omega⟩, fun j hj => Nat.lt_of_lt_of_le (h3 j hj) hb.size, h4, tbl_keep h5 hb⟩, hb⟩
/-- a disk stands where others make new blocks -/
theorem KD.others {N : Nat → Prop} {w w' : World} {d c : Nat} {x : Fk} (h : KD N w d x c) (hb : Below w.heap.size w w') : KD (fun j => N j ∨ (w.heap.size ≤ j ∧ j < w'.heap.size)) w' d x c := by
  obtain ⟨⟨T, h1, h2⟩, h3, h4, h5⟩ := h
  refine ⟨⟨T, h1.below hb, fun j hj hn => ?_⟩, fun j hj => ?_, .inl h4, tbl_keep h5 hb⟩
  · rcases hn with hn | hn
    · exact h2 j hj hn
    · have := h1.lt j hj; omega
  · rcases hj with hj | hj
    · exact Nat.lt_of_lt_of_le (h3 j hj) hb.size
    · exact hj.2
/-- Open behind a crash -/
theorem open_crash_kk {N : Nat → Prop} {d c : Nat} {k : Kst} {x : Fk} {P : Kst → Prop} {w : World} (n : Int) (hF : Fh x k P) (h : KD N w d (crash11 n x) c) (hc : c ≤ 900000) :
    Calls Tryd.prog 7 #[.pointer (some ⟨d, 0, none⟩)] w fun e w' => ∃ g k' x', e = .returned (.tuple #[.pointer (some ⟨g, 0, none⟩), .int .i64 0]) ∧ P k' ∧ Fh x' k' (fun a => a = k') ∧ KK N w' g d k' x' (c + 1) ∧ Std N w w' := by
  cases x with
  | none =>
    refine (open_none_kk h).mono ?_
    rintro e w' ⟨g, rfl, hk, hs⟩
    obtain ⟨h0, hp, hz⟩ := hF
    have hz : k = zKst := hz
    subst hz
    obtain ⟨⟨S, h1, h2⟩, h3⟩ := hk
    exact ⟨g, zKst, none, rfl, hp, ⟨zKst_ok, rfl, rfl⟩, ⟨⟨S, h1.more (fun _ h => h) h1.lt (Nat.le_succ _), h2⟩, h3⟩, hs⟩
  | some p =>
    obtain ⟨b, f⟩ := p
    obtain ⟨cc, bs, N0, L, u, k', e1, e2, e3, e4, e5, e6, e7, e8, e9, hN1, e10⟩ := hF.crash n
    rw [e1] at h
    obtain ⟨⟨T, h1, h2⟩, h3, h4, h5⟩ := h
    obtain ⟨bix, bst, bcf, bdt⟩ := bs
    refine (kopen_yes T d c cc cc.length w h1 hc h5 bix bst bcf bdt N0 e3 hN1.2 e4 L u e5 k' e6 e7 hN1.1 e9 rfl).mono ?_
    rintro e w' ⟨g, rfl, hk, ho⟩
    have hs : Std N w w' := ho.mono fun j hj => .inl fun e => h2 j hj e
    refine ⟨g, k', _, rfl, e8, e10, ⟨⟨_, hk, fun j hj hn => ?_⟩, fun j hj => Nat.lt_of_lt_of_le (h3 j hj) ho.size, h4, hs.tbl h5 h4⟩, hs⟩
    rcases hj with hj | hj
    · exact h2 j hj hn
    · have := h3 j hn; omega
end Go.Proofs.YtbiecoifeeikpaaDoor
/-
  What a keep's file holds behind each of its steps.
  There are no conditions beyond those that each lemma names.
-/
set_option linter.unusedSimpArgs false
set_option linter.unusedVariables false
namespace Go.Proofs.YtbiecoifeeikpaaDoor
open Go.RowKit
set_option maxRecDepth 100000

theorem encs10_one (r : Rcd) : encs10 [r] = encR10 r := by unfold encs10; simp
theorem Fh.hard {x : Fk} {k k' : Kst} {P : Kst → Prop} {t v r : Int} (h : Fh x k P) (hr : hard11 k t v = (r, k')) : Fh (hardF k x t v) k' (fun a => P a ∨ a = k') := by
  unfold hard11 at hr
  unfold hardF
  split at hr
  · rename_i hm
    simp only [Prod.mk.injEq] at hr
    obtain ⟨_, rfl⟩ := hr
    rw [if_pos hm, ← encs10_one]
    have hok : KOk ⟨t, v, k.s, k.log⟩ := ⟨hm, h.1.snap, h.1.ents, h.1.few⟩
    refine Fh.add h [hardR t v] (fun r hr => by rw [List.mem_singleton.1 hr]; exact may_hard hm) (by rw [encs10_one]; have := enc10_short (hardR t v); omega) (fun i hi => ?_) ?_ (fun a ha => .inl ha)
    · match i, hi with
      | 0, _ => exact ⟨k, rfl, h.1, .inl h.2.1⟩
      | 1, _ => exact ⟨_, by show play11 k [hardR t v] = _; show (take11 k (hardR t v)).bind _ = _; rw [take11_hard]; rfl, hok, .inr rfl⟩
    · show (take11 k (hardR t v)).bind _ = _; rw [take11_hard]; rfl
  · rename_i hm
    simp only [Prod.mk.injEq] at hr
    obtain ⟨_, rfl⟩ := hr
    rw [if_neg hm]
    exact h.mono fun a ha => .inl ha
/-- the states behind each of some entries -/
def Mid11 (k : Kst) (l : List Ent) (a : Kst) : Prop := ∃ m i, 1 ≤ m ∧ m ≤ l.length ∧ l[0]?.map (·.ix) = some i ∧ a = put11 k i (l.take m)
theorem Fh.write {x : Fk} {k k' : Kst} {P : Kst → Prop} {l : List Ent} {r : Int} (h : Fh x k P) (hr : write11 k l = (r, k')) (hl : l.length ≤ 80) : Fh (writeF k x l) k' (fun a => P a ∨ (r = 0 ∧ Mid11 k l a)) := by
  by_cases h0 : 0 < l.length
  · obtain ⟨i, hi⟩ : ∃ i, (l[0]'h0).ix = i := ⟨_, rfl⟩
    have hr2 := hr
    rw [write11_1 h0 hi] at hr2
    unfold writeF
    have hne : l ≠ [] := fun e => by rw [e] at h0; simp at h0
    by_cases hr0 : r = 0
    · subst hr0
      rw [if_pos ⟨hne, by rw [hr]⟩]
      split at hr2
      · rename_i hc
        split at hr2
        · simp at hr2
        · rename_i hn
          simp only [Prod.mk.injEq, true_and] at hr2
          subst hr2
          have hi2 : l[0]?.map (·.ix) = some i := by rw [List.getElem?_eq_getElem h0]; exact congrArg some hi
          have key : ∀ m, 1 ≤ m → m ≤ l.length → play11 k ((l.take m).map entR) = some (put11 k i (l.take m)) ∧ KOk (put11 k i (l.take m)) := fun m h1 h2 => by
            have hlm : (l.take m).length = m := by rw [List.length_take]; omega
            have hrow := row11_take l i m hc.2
            have hpl := put11_len (l := l.take m) hc.1
            refine ⟨play11_row _ k i hc.1 hrow (fun e => by rw [e] at hlm; simp at hlm; omega), h.1.put hc.1 hrow ?_⟩
            rw [hlm] at hpl
            omega
          refine Fh.add h (l.map entR) (fun r hr => by obtain ⟨e, he, rfl⟩ := List.mem_map.1 hr; exact may_ent (row11_may hc.2 e he)) (by have := encs10_len (l.map entR); rw [List.length_map] at this; omega) (fun m hm => ?_) ?_ (fun a ha => .inl ha)
          · rw [List.length_map] at hm
            rw [← List.map_take]
            by_cases hm0 : m = 0
            · subst hm0; exact ⟨k, rfl, h.1, .inl h.2.1⟩
            · have hk := key m (by omega) hm
              exact ⟨_, hk.1, hk.2, .inr ⟨rfl, m, i, by omega, hm, hi2, rfl⟩⟩
          · have hk := key l.length (by omega) (Nat.le_refl _)
            rw [List.take_length] at hk
            exact hk.1
      · simp at hr2
    · have hb := write11_bad hr hr0
      rw [if_neg (fun hh => hr0 (by rw [hr] at hh; exact hh.2)), hb.1]
      exact h.mono fun a ha => .inl ha
  · have hl0 : l = [] := List.eq_nil_of_length_eq_zero (by omega)
    subst hl0
    have hr : ((0 : Int), k) = (r, k') := hr
    simp only [Prod.mk.injEq] at hr
    obtain ⟨_, rfl⟩ := hr
    unfold writeF
    rw [if_neg (by simp)]
    exact h.mono fun a ha => .inl ha
theorem Fh.snap {x : Fk} {k k' : Kst} {P : Kst → Prop} {s : Snp} {r : Int} (h : Fh x k P) (hr : snap11 k s = (r, k')) : Fh (snapF k x s) k' (fun a => (r ≠ 0 ∧ P a) ∨ a = k') := by
  unfold snapF
  rw [hr]
  simp only
  by_cases hr0 : r = 0
  · subst hr0
    rw [if_pos rfl]
    exact Fh.whole (snap11_ok h.1 hr) (.inr rfl)
  · have hb := snap11_bad hr hr0
    rw [if_neg hr0, hb.1]
    exact h.mono fun a ha => .inl ⟨hr0, ha⟩
theorem Fh.zero (P : Kst → Prop) (h : P zKst) : Fh none zKst P := ⟨zKst_ok, h, rfl⟩
end Go.Proofs.YtbiecoifeeikpaaDoor
/-
  The laws' begun answers true.
  There are no conditions but that package crc's table lies as it was laid.
-/
set_option linter.unusedSimpArgs false
set_option linter.unusedVariables false
namespace Go.Proofs.YtbiecoifeeikpaaDoor
open Go.RowKit Go.Deep
set_option maxRecDepth 100000

def bk1 : Kst := ⟨2, 1, zSnp, []⟩
def bk2 : Kst := ⟨2, 1, zSnp, [⟨1, 2, 1, ByteArray.empty⟩]⟩
theorem bw1 : write11 bk1 [⟨1, 2, 1, ByteArray.empty⟩] = (0, bk2) := by rfl
/-- a slice of one entry that was just laid -/
theorem ens_one {N : Nat → Prop} {w : World} {g : Nat} {ix et kd : Int} {dt : ByteArray} {t : TypeId} (h : Rt w g t [.int .i64 ix, .int .i64 et, .int .i64 kd, .string dt]) (hN : N g) : Ens N w (.slice (some ⟨g, 0, none⟩) 1 1) [⟨ix, et, kd, dt⟩] := ⟨_, _, rfl, Nat.le_refl _, fun _ => ⟨_, 0, rfl, hN, fun j hj => by
  have : j = 0 := by simpa using hj
  subst this
  intro i z hz
  show w.cell? ⟨g, 0 + 0 * 4 + i, none⟩ = _
  rw [show 0 + 0 * 4 + i = i by omega]
  exact h.cell hz⟩⟩
set_option maxHeartbeats 1000000 in
theorem begun11_any (w : World) (hT : Tbl w) : Calls Tryd.prog 5 #[] w fun e w' => e = .returned (.bool true) ∧ Below w.heap.size w w' := by
  have hst : 0 < w.heap.size := cell_lt (hT 0 (by omega))
  obtain ⟨B, hBw⟩ : ∃ B, w.heap.size = B := ⟨_, rfl⟩
  have hnw := new_kd w (fun j => j < B) (fun j hj => by omega) (by omega) hT
  have HN := Lib.hid hnw
  clear hnw
  go_enter Tryd.func5, Tryd.ntmps5
  go_wp2_with fail
  refine HN.out.mono ?_
  rintro e k1 ⟨rfl, hd1, hb1⟩
  rw [hBw] at hd1 hb1 ⊢
  have HD1 := Lib.hid hd1
  go_wp2_with fail
  refine (open_none_kk HD1.out).mono ?_
  rintro e k2 ⟨g, rfl, hk2, hs2⟩
  have hb2 : Below B w k2 := hb1.trans (hs2.below (by rw [← hBw]; have := hb1.size; omega) (fun j hj => hj))
  have HK2 := Lib.hid hk2
  have HB2 := Lib.hid hb2
  clear hd1 hb1 hk2 hs2 hb2 HD1
  go_wp2_with fail
  refine (hard_kk HK2.out (by omega) 2 1 0 bk1 rfl).mono ?_
  rintro e k3 ⟨rfl, hk3, hs3⟩
  have HK3 := Lib.hid hk3
  have HB3 := Lib.hid (HB2.out.trans (hs3.below (by rw [← hBw]; exact HB2.out.size) (fun j hj => hj)))
  obtain ⟨k4, hk4⟩ : ∃ k4, k3.alloc (.cells #[.int .i64 1, .int .i64 2, .int .i64 1, .string ⟨#[]⟩] 41) = k4 := ⟨_, rfl⟩
  have hb4 : Below k3.heap.size k3 k4 := by rw [← hk4]; exact below_new _ _
  have hr4 : Rt k4 k3.heap.size 41 [.int .i64 1, .int .i64 2, .int .i64 1, .string ⟨#[]⟩] := by rw [← hk4]; exact Rt.new _ _ _
  have hK4 := HK3.out.others hb4
  have hw4 := write_kk hK4 (by omega) (some ⟨k3.heap.size, 0, none⟩) 1 1 [⟨1, 2, 1, ByteArray.empty⟩] (ens_one hr4 (.inr ⟨Nat.le_refl _, hr4.lt⟩)) (by simp) (fun e he => by rw [List.mem_singleton.1 he]; show ByteArray.empty.size ≤ _; decide) (fun e he => by rw [List.mem_singleton.1 he]; decide) 0 bk2 bw1
  have HW4 := Lib.hid hw4
  have HB4 := Lib.hid (HB3.out.trans (hb4.mono (by rw [← hBw]; exact HB3.out.size)))
  have hz3 := HB3.out.size
  clear hk3 hs3 hw4 hb4 hr4 hK4
  go_wp2_with fail
  refine HW4.out.mono ?_
  rintro e k5 ⟨rfl, hk5, hs5⟩
  have HB5 := Lib.hid (HB4.out.trans (hs5.below (by have := HB4.out.size; omega) (fun j hj => .inl hj)))
  have HK5 := Lib.hid hk5
  clear hk5 hs5 HW4
  go_wp2_with fail
  refine (sync_kk HK5.out (by omega)).mono ?_
  rintro e k6 ⟨rfl, hk6, hs6⟩
  have HB6 := Lib.hid (HB5.out.trans (hs6.below (by have := HB5.out.size; omega) (fun j hj => .inl hj)))
  have HK6 := Lib.hid hk6
  clear hk6 hs6
  go_wp2_with fail
  refine (crash_kk HK6.out 0 (by omega)).mono ?_
  rintro e k7 ⟨rfl, hd7, hb7⟩
  have HB7 := Lib.hid (HB6.out.trans (hb7.mono (by have := HB6.out.size; omega)))
  have HD7 := Lib.hid hd7
  have hF : Fh (some (sync11 bk2 (writeF bk1 (hardF zKst none 2 1) [⟨1, 2, 1, ByteArray.empty⟩]))) bk2 (fun a => a = bk2) := (((Fh.zero (fun _ => True) trivial).hard (t := 2) (v := 1) (r := 0) (k' := bk1) rfl).write bw1 (by simp)).sync
  have HF := Lib.hid hF
  clear hd7 hb7 hF
  go_wp2_with fail
  refine (open_crash_kk 0 HF.out HD7.out (by omega)).mono ?_
  rintro e k8 ⟨g8, k', x', rfl, rfl, hF8, hk8, hs8⟩
  have HB8 := Lib.hid (HB7.out.trans (hs8.below (by have := HB7.out.size; omega) (fun j hj => .inl hj)))
  have HK8 := Lib.hid hk8
  clear hF8 hk8 hs8
  go_wp2_with fail
  have hs8 : Calls Tryd.prog 16 #[.pointer (some ⟨g8, 0, none⟩)] k8 fun e w' => ∃ v, e = .returned (.agg #[.int .i64 2, .int .i64 1, .int .i64 0, .int .i64 0, .string ⟨#[]⟩, .string ⟨#[]⟩, v]) ∧ OwnEn k8.heap.size v [⟨1, 2, 1, ByteArray.empty⟩] w' ∧ Below k8.heap.size k8 w' := state_kk HK8.out
  refine hs8.mono ?_
  rintro e k9 ⟨v9, rfl, hv9, hb9⟩
  have HB9 := Lib.hid (HB8.out.trans (hb9.mono (by have := HB8.out.size; omega)))
  obtain ⟨A9, c9, rfl⟩ := hv9.slice
  have hE9 := Ens.of_own hv9
  obtain ⟨g9, o9, e9, hg9, a0, a1, a2, a3⟩ := hE9.four (ix := 1) (et := 2) (kd := 1) (dt := ByteArray.empty) 0 (by decide) rfl
  rw [show o9 + 0 * 4 = o9 by omega] at a0 a1 a2 a3
  go_wp2_with fail
  go_ret
  exact ⟨rfl, by
    rw [hBw]
    exact HB9.out.trans ((below_new _ _).mono (by rw [← hBw]; exact HB9.out.size))⟩
end Go.Proofs.YtbiecoifeeikpaaDoor
/-
  How a law's arguments that are records, a row of them, or a snapshot are opened.
  There are no conditions.
-/
set_option linter.unusedSimpArgs false
set_option linter.unusedVariables false
namespace Go.Proofs.YtbiecoifeeikpaaDoor
open Go.RowKit Go.WideShapes Go.ChangeShapes Go.Joins Go.Deep
set_option maxRecDepth 100000

def I64b (a : Int) : Prop := -9223372036854775808 ≤ a ∧ a ≤ 9223372036854775807
theorem i64b_wf {a : Int} (h : (Lit.int .i64 a).wf = true) : I64b a := by
  have := bounds_i64 h; unfold I64b; omega
def Rcd.fit (r : Rcd) : Prop := I64b r.ht ∧ I64b r.hv ∧ I64b r.e.ix ∧ I64b r.e.et ∧ I64b r.e.kd ∧ r.e.data.size ≤ maxLen
def Snp.fit (s : Snp) : Prop := I64b s.ix ∧ I64b s.st ∧ s.conf.size ≤ maxLen ∧ s.data.size ≤ maxLen
/-- a slice value of records; its cells lie below block B -/
def Rcds (w : World) (B : Nat) (v : Value) (L : List Rcd) : Prop :=
  ∃ A c, v = .slice A L.length c ∧ L.length ≤ c ∧ (0 < L.length → ∃ g o, A = some ⟨g, o, Option.none⟩ ∧ g < B ∧ ∀ k (h : k < L.length), w.rangeAt g (o + k * 7) L[k].cs)
theorem Tryd.cellsHard10 : Tryd.prog.cellsOf 24 = 2 := by kernel_rfl
theorem Tryd.cellsEntry10 : Tryd.prog.cellsOf 41 = 4 := by kernel_rfl
theorem Tryd.cellsSnap10 : Tryd.prog.cellsOf 33 = 4 := by kernel_rfl
theorem Tryd.cellsInt10 : Tryd.prog.cellsOf 3 = 1 := by kernel_rfl
theorem Tryd.cellsInt6410 : Tryd.prog.cellsOf 2 = 1 := by kernel_rfl
theorem Tryd.cellsString10 : Tryd.prog.cellsOf 9 = 1 := by kernel_rfl
theorem Tryd.cellsBool10 : Tryd.prog.cellsOf 4 = 1 := by kernel_rfl
theorem cell_in10 {w : World} {a : Addr} {v : Value} (h : w.cell? a = some v) : a.block < w.heap.size := cell_lt h
section
variable {H : Type} {enc : TypeId × Value → H} {w : World} {base : Nat} {spare : Nat → Bool} {held : Bool}
theorem trod_struct4_10 {P : Program} {t : TypeId} {f0 f1 f2 f3 : Field} {fuel : Nat} {cs : List Value} {x : DataW H × List MemPlace} (ht : P.underlying t = some (.struct #[f0, f1, f2, f3])) (h : DataW.trod enc P w base spare held fuel t cs = some x) :
    ∃ y0 y1 y2 y3 n, cs.length = P.cellsOf t ∧ DataW.trod enc P w base spare held n f0.type ((cs.drop f0.offset).take (P.cellsOf f0.type)) = some y0 ∧
      DataW.trod enc P w base spare held n f1.type ((cs.drop f1.offset).take (P.cellsOf f1.type)) = some y1 ∧ DataW.trod enc P w base spare held n f2.type ((cs.drop f2.offset).take (P.cellsOf f2.type)) = some y2 ∧
      DataW.trod enc P w base spare held n f3.type ((cs.drop f3.offset).take (P.cellsOf f3.type)) = some y3 := by
  obtain ⟨xs, n, _, rfl, hl, hlen, hf⟩ := DataW.trod_struct ht h
  match xs, hlen with
  | [y0, y1, y2, y3], _ => exact ⟨y0, y1, y2, y3, n, hl, by simpa using hf 0 f0 rfl, by simpa using hf 1 f1 rfl, by simpa using hf 2 f2 rfl, by simpa using hf 3 f3 rfl⟩
theorem trod_struct2_10 {P : Program} {t : TypeId} {f0 f1 : Field} {fuel : Nat} {cs : List Value} {x : DataW H × List MemPlace} (ht : P.underlying t = some (.struct #[f0, f1])) (h : DataW.trod enc P w base spare held fuel t cs = some x) :
    ∃ y0 y1 n, cs.length = P.cellsOf t ∧ DataW.trod enc P w base spare held n f0.type ((cs.drop f0.offset).take (P.cellsOf f0.type)) = some y0 ∧
      DataW.trod enc P w base spare held n f1.type ((cs.drop f1.offset).take (P.cellsOf f1.type)) = some y1 := by
  obtain ⟨xs, n, _, rfl, hl, hlen, hf⟩ := DataW.trod_struct ht h
  match xs, hlen with
  | [y0, y1], _ => exact ⟨y0, y1, n, hl, by simpa using hf 0 f0 rfl, by simpa using hf 1 f1 rfl⟩
theorem trod_struct3_10 {P : Program} {t : TypeId} {f0 f1 f2 : Field} {fuel : Nat} {cs : List Value} {x : DataW H × List MemPlace} (ht : P.underlying t = some (.struct #[f0, f1, f2])) (h : DataW.trod enc P w base spare held fuel t cs = some x) :
    ∃ y0 y1 y2 n, cs.length = P.cellsOf t ∧ DataW.trod enc P w base spare held n f0.type ((cs.drop f0.offset).take (P.cellsOf f0.type)) = some y0 ∧
      DataW.trod enc P w base spare held n f1.type ((cs.drop f1.offset).take (P.cellsOf f1.type)) = some y1 ∧ DataW.trod enc P w base spare held n f2.type ((cs.drop f2.offset).take (P.cellsOf f2.type)) = some y2 := by
  obtain ⟨xs, n, _, rfl, hl, hlen, hf⟩ := DataW.trod_struct ht h
  match xs, hlen with
  | [y0, y1, y2], _ => exact ⟨y0, y1, y2, n, hl, by simpa using hf 0 f0 rfl, by simpa using hf 1 f1 rfl, by simpa using hf 2 f2 rfl⟩
theorem hard_cells {fuel : Nat} {cs : List Value} {x : DataW H × List MemPlace} (h : DataW.trod enc Tryd.prog w base spare held fuel 24 cs = some x) : ∃ a b, cs = [.int .i64 a, .int .i64 b] ∧ I64b a ∧ I64b b := by
  obtain ⟨y0, y1, n, hl, h0, h1⟩ := trod_struct2_10 Tryd.underlying24 h
  rw [Tryd.cellsHard10] at hl
  match cs, hl with
  | [c0, c1], _ =>
    simp only [Tryd.cellsInt10, Tryd.cellsInt6410, List.drop_zero, List.drop_succ_cons, List.take_succ_cons, List.take_zero] at h0 h1
    obtain ⟨a, e0, _, wa⟩ := DataW.trod_int Tryd.underlying2 h0
    obtain ⟨b, e1, _, wb⟩ := DataW.trod_int Tryd.underlying3 h1
    simp only [List.cons.injEq, and_true] at e0 e1
    subst e0; subst e1
    exact ⟨a, b, rfl, i64b_wf wa, i64b_wf wb⟩
theorem entry_cells {fuel : Nat} {cs : List Value} {x : DataW H × List MemPlace} (h : DataW.trod enc Tryd.prog w base spare held fuel 41 cs = some x) : ∃ a b c s, cs = [.int .i64 a, .int .i64 b, .int .i64 c, .string s] ∧ I64b a ∧ I64b b ∧ I64b c ∧ s.size ≤ maxLen := by
  obtain ⟨y0, y1, y2, y3, n, hl, h0, h1, h2, h3⟩ := trod_struct4_10 Tryd.underlying41 h
  rw [Tryd.cellsEntry10] at hl
  match cs, hl with
  | [c0, c1, c2, c3], _ =>
    simp only [Tryd.cellsInt10, Tryd.cellsInt6410, Tryd.cellsString10, List.drop_zero, List.drop_succ_cons, List.take_succ_cons, List.take_zero] at h0 h1 h2 h3
    obtain ⟨a, e0, _, wa⟩ := DataW.trod_int Tryd.underlying2 h0
    obtain ⟨b, e1, _, wb⟩ := DataW.trod_int Tryd.underlying2 h1
    obtain ⟨c, e2, _, wc⟩ := DataW.trod_int Tryd.underlying3 h2
    obtain ⟨s, e3, _, ws⟩ := DataW.trod_string Tryd.underlying9 h3
    simp only [List.cons.injEq, and_true] at e0 e1 e2 e3
    subst e0; subst e1; subst e2; subst e3
    exact ⟨a, b, c, s, rfl, i64b_wf wa, i64b_wf wb, i64b_wf wc, ws⟩
theorem snp_cells {fuel : Nat} {cs : List Value} {x : DataW H × List MemPlace} (h : DataW.trod enc Tryd.prog w base spare held fuel 33 cs = some x) : ∃ s : Snp, cs = [.int .i64 s.ix, .int .i64 s.st, .string s.conf, .string s.data] ∧ s.fit := by
  obtain ⟨y0, y1, y2, y3, n, hl, h0, h1, h2, h3⟩ := trod_struct4_10 Tryd.underlying33 h
  rw [Tryd.cellsSnap10] at hl
  match cs, hl with
  | [c0, c1, c2, c3], _ =>
    simp only [Tryd.cellsInt6410, Tryd.cellsString10, List.drop_zero, List.drop_succ_cons, List.take_succ_cons, List.take_zero] at h0 h1 h2 h3
    obtain ⟨a, e0, _, wa⟩ := DataW.trod_int Tryd.underlying2 h0
    obtain ⟨b, e1, _, wb⟩ := DataW.trod_int Tryd.underlying2 h1
    obtain ⟨c, e2, _, wc⟩ := DataW.trod_string Tryd.underlying9 h2
    obtain ⟨s, e3, _, ws⟩ := DataW.trod_string Tryd.underlying9 h3
    simp only [List.cons.injEq, and_true] at e0 e1 e2 e3
    subst e0; subst e1; subst e2; subst e3
    exact ⟨⟨a, b, c, s⟩, rfl, i64b_wf wa, i64b_wf wb, wc, ws⟩
end
section
variable {H : Type} {enc : TypeId × Value → H} {W : World} {base b0 : Nat} {sp : Nat → Bool} {hd : Bool} {r : Reach} {v : Value} {d : DataW H} {p : List MemPlace}
theorem open_snp (hv : Value.okWide Tryd.prog W r b0 33 v) (h : DataW.Trod enc Tryd.prog W base sp hd 33 v d p) : ∃ x : Snp, v = x.val ∧ x.fit := by
  obtain ⟨cs, rfl, hsz⟩ := okWide_struct Tryd.underlying33 hv
  obtain ⟨fuel, hf⟩ := h
  obtain ⟨x, hx, hfit⟩ := snp_cells hf
  have hx2 : cs.toList = [.int .i64 x.ix, .int .i64 x.st, .string x.conf, .string x.data] := by simpa [Value.cells] using hx
  exact ⟨x, by unfold Snp.val; congr 1; apply Array.toList_inj.1; rw [hx2], hfit⟩
end
theorem Rcds.below {w w' : World} {B C : Nat} {v : Value} {L : List Rcd} (h : Rcds w B v L) (hb : Below C w w') (hC : B ≤ C) : Rcds w' B v L := by
  obtain ⟨A, c, hv, hc, h⟩ := h
  refine ⟨A, c, hv, hc, fun hn => ?_⟩
  obtain ⟨g, o, hA, hg, hcs⟩ := h hn
  exact ⟨g, o, hA, hg, fun k hk j z hj => (hb.cell (p := ⟨g, o + k * 7 + j, Option.none⟩) (Nat.lt_of_lt_of_le hg hC)).trans (hcs k hk j z hj)⟩
theorem Rcds.at_ {w : World} {B n c : Nat} {A : Option Addr} {L : List Rcd} (h : Rcds w B (.slice A n c) L) (k : Nat) (hk : k < L.length) : ∃ g o, A = some ⟨g, o, Option.none⟩ ∧ g < B ∧ w.rangeAt g (o + k * 7) L[k].cs := by
  obtain ⟨A', c', hv, _, h⟩ := h
  injection hv with e1 e2 e3
  subst e1
  obtain ⟨g, o, rfl, hg, hcs⟩ := h (by omega)
  exact ⟨g, o, rfl, hg, hcs k hk⟩
end Go.Proofs.YtbiecoifeeikpaaDoor
/-
  How a law's argument that is a row of entries is opened.
  There are no conditions.
-/
set_option linter.unusedSimpArgs false
set_option linter.unusedVariables false
namespace Go.Proofs.YtbiecoifeeikpaaDoor
open Go.RowKit Go.WideShapes Go.ChangeShapes Go.Joins Go.Deep
set_option maxRecDepth 100000

def Ent.fit (e : Ent) : Prop := I64b e.ix ∧ I64b e.et ∧ I64b e.kd ∧ e.data.size ≤ maxLen
section
variable {H : Type} {enc : TypeId × Value → H} {w : World} {base : Nat} {spare : Nat → Bool} {held : Bool}
theorem ent_cells {fuel : Nat} {cs : List Value} {x : DataW H × List MemPlace} (h : DataW.trod enc Tryd.prog w base spare held fuel 41 cs = some x) : ∃ e : Ent, cs = e.cs ∧ e.fit := by
  obtain ⟨a, b, c, s, rfl, w1, w2, w3, w4⟩ := entry_cells h
  exact ⟨⟨a, b, c, s⟩, rfl, w1, w2, w3, w4⟩
end
section
variable {H : Type} {enc : TypeId × Value → H} {W : World} {base b0 : Nat} {sp : Nat → Bool} {hd : Bool} {r : Reach} {v : Value} {d : DataW H} {p : List MemPlace}
theorem open_ents (hv : Value.okWide Tryd.prog W r b0 22 v) (h : DataW.Trod enc Tryd.prog W 0 (fun _ => true) true 22 v d p) :
    ∃ (A : Option Addr) (c : Nat) (L : List Ent), v = .slice A L.length c ∧ Ens (fun j => j < W.heap.size) W (.slice A L.length c) L ∧ ∀ b ∈ L, b.fit := by
  obtain ⟨a0, len, cap, rfl⟩ := okWide_slice Tryd.underlying22 hv
  obtain ⟨fuel, hf⟩ := h
  have hf2 : DataW.trod enc Tryd.prog W 0 (fun _ => true) true fuel 22 [.slice a0 len cap] = some (d, p) := by simpa [Value.cells] using hf
  rcases open_slice Tryd.underlying22 hf2 with ⟨hcs, _⟩ | ⟨a, len', cap', m, n, D, Pl, hcs, _, hl, hm, hmm, _, hx⟩
  · simp only [List.cons.injEq, and_true] at hcs
    injection hcs with e1 e2 e3
    subst e1; subst e2; subst e3
    exact ⟨none, 0, [], rfl, ⟨none, 0, rfl, Nat.le_refl _, fun h => absurd h (by decide)⟩, fun x hx => by cases hx⟩
  · simp only [List.cons.injEq, and_true] at hcs
    injection hcs with e1 e2 e3
    subst e1; subst e2; subst e3
    simp only [if_true] at hmm
    subst hmm
    rw [Tryd.cellsEntry10] at hx
    have hz : Inhabited Ent := ⟨noEnt⟩
    obtain ⟨f, hf⟩ := choose_lt (α := Ent) (p := fun i b => W.cells? 0 (a.add (i * 4)) 4 = some b.cs ∧ b.fit) (fun i (hi : i < len) => by
      obtain ⟨cs', h1, h2⟩ := hx i (by omega)
      obtain ⟨b, rfl, h4⟩ := ent_cells h2
      exact ⟨b, h1, h4⟩)
    have hln : ((List.range len).map f).length = len := by simp
    refine ⟨some a, m, (List.range len).map f, by rw [hln], ?_, fun x hx => ?_⟩
    · refine ⟨some a, m, rfl, by rw [hln]; exact hl, fun h0 => ?_⟩
      rw [hln] at h0
      obtain ⟨hc0, _⟩ := hf 0 h0
      obtain ⟨_, hl0, hcc⟩ := World.cells?_some hc0
      have hc := hcc 0 (by decide)
      obtain ⟨g, o, spot⟩ := a
      have hspot : spot = Option.none := by simpa [Addr.add] using World.cell?_spot hc
      subst hspot
      refine ⟨g, o, rfl, ?_, fun k hk => ?_⟩
      · have := cell_in10 hc; simpa [Addr.add] using this
      · rw [hln] at hk
        obtain ⟨h1, h3⟩ := hf k hk
        have e : ((List.range len).map f)[k]'(by rw [hln]; exact hk) = f k := by simp
        rw [e]
        refine fun j v hj => ?_
        obtain ⟨_, hli, hci⟩ := World.cells?_some h1
        have hj3 : j < 4 := (List.getElem?_eq_some_iff.1 hj).1
        have e2 : ((⟨g, o, Option.none⟩ : Addr).add (k * 4)).add j = ⟨g, o + k * 4 + j, Option.none⟩ := by
          rw [add_add]; unfold Addr.add; split
          · have h0 : k * 4 + j = 0 := by assumption
            have : o + k * 4 + j = o := by omega
            rw [this]
          · show (⟨g, o + (k * 4 + j), _⟩ : Addr) = _
            rw [Nat.add_assoc]
        rw [← e2, hci j hj3]; exact hj
    · obtain ⟨i, hi, rfl⟩ := List.mem_map.1 hx
      obtain ⟨h1, h3⟩ := hf i (List.mem_range.1 hi)
      exact h3
end
end Go.Proofs.YtbiecoifeeikpaaDoor
/-
  The reference's EqEntries: two slices of entries.
  The conditions: both are no longer than 220.
-/
set_option linter.unusedSimpArgs false
set_option linter.unusedVariables false
namespace Go.Proofs.YtbiecoifeeikpaaDoor
open Go.RowKit Go.Deep
set_option maxRecDepth 100000

def eqEs11 : List Ent → List Ent → Bool
  | [], [] => true
  | a :: l, b :: m => eqEnt10 a b && eqEs11 l m
  | _, _ => false
theorem eqEnt10_self (a : Ent) : eqEnt10 a a = true := by simp [eqEnt10]
theorem eqEs11_self (l : List Ent) : eqEs11 l l = true := by
  induction l with
  | nil => rfl
  | cons a t ih => simp [eqEs11, eqEnt10_self, ih]
theorem eqEs11_drop {a b : List Ent} (k : Nat) (h1 : k < a.length) (h2 : k < b.length) : eqEs11 (a.drop k) (b.drop k) = (eqEnt10 (a[k]'h1) (b[k]'h2) && eqEs11 (a.drop (k + 1)) (b.drop (k + 1))) := by
  rw [List.drop_eq_getElem_cons h1, List.drop_eq_getElem_cons h2]
  rfl
theorem eqEs11_len {a : List Ent} : ∀ {b : List Ent}, a.length ≠ b.length → eqEs11 a b = false := by
  induction a with
  | nil => intro b h; cases b with
    | nil => exact absurd rfl h
    | cons x t => rfl
  | cons y l ih => intro b h; cases b with
    | nil => rfl
    | cons x t => simp only [eqEs11]; rw [ih (fun e => h (by simp [e]))]; simp
set_option maxHeartbeats 1000000 in
theorem reqEnts_any (N M : Nat → Prop) (A C : Option Addr) (c d : Nat) (a b : List Ent) (w : World) (ha : Ens N w (.slice A a.length c) a) (hb : Ens M w (.slice C b.length d) b) (hl : a.length ≤ 1000) :
    Calls Tryd.prog 36 #[.slice A a.length c, .slice C b.length d] w (Bl (eqEs11 a b) w) := by
  have HA := Lib.hid ha
  have HC := Lib.hid hb
  clear ha hb
  by_cases hlen : a.length = b.length
  · obtain ⟨n, hn⟩ : ∃ n, b.length = n := ⟨_, rfl⟩
    rw [hn] at HC hlen ⊢
    rw [hlen] at HA hl ⊢
    have HN := Lib.hid (And.intro hlen hn)
    clear hlen hn
    go_enter Tryd.func36, Tryd.ntmps36
    go_wp2_with fail
    go_loopw [5] (fun i wr => ∃ k : Nat, i = .int .i64 (k : Int) ∧ k ≤ n ∧ eqEs11 (a.drop k) (b.drop k) = eqEs11 a b ∧ Below w.heap.size w wr) (fun i _ => n - (intOf i).toNat)
    case atStart => exact ⟨0, rfl, by omega, rfl, Below.refl _ _⟩
    case round =>
      obtain ⟨k, rfl, hk, he, hb⟩ := hrel
      have HE := Lib.hid he
      have HB := Lib.hid hb
      clear he hb
      by_cases hlt : k < n
      · have hki : (k : Int) < n := by omega
        have h1 : k < a.length := by rw [HN.out.1]; exact hlt
        have h2 : k < b.length := by rw [HN.out.2]; exact hlt
        have hdr := eqEs11_drop k h1 h2
        obtain ⟨x, hx⟩ : ∃ x, a[k]'h1 = x := ⟨_, rfl⟩
        obtain ⟨y, hy⟩ : ∃ y, b[k]'h2 = y := ⟨_, rfl⟩
        rw [hx, hy] at hdr
        have hq := fun W => reqEntry_any x y W
        obtain ⟨ix, et, kd, dt⟩ := x
        obtain ⟨jx, jt, jk, jd⟩ := y
        obtain ⟨g, o, rfl, hg, c0, c1, c2, c3⟩ := (HA.out.below HB.out).four k h1 hx
        obtain ⟨g', o', rfl, hg', d0, d1, d2, d3⟩ := (HC.out.below HB.out).four k h2 hy
        obtain ⟨bq, hbq⟩ : ∃ bq, eqEnt10 ⟨ix, et, kd, dt⟩ ⟨jx, jt, jk, jd⟩ = bq := ⟨_, rfl⟩
        simp only [hbq] at hq hdr
        have HQ := Lib.hid hq
        have HD := Lib.hid hdr
        clear hq hdr hx hy h1 h2 hbq
        replace HB := Lib.hid HB.out.drew
        go_wp2_with fail
        go_region_held3 (fun W => W.cell? ⟨g, o + k * 4, none⟩ = some (.int .i64 ix) ∧ W.cell? ⟨g, o + k * 4 + 1, none⟩ = some (.int .i64 et) ∧ W.cell? ⟨g, o + k * 4 + 2, none⟩ = some (.int .i64 kd) ∧ W.cell? ⟨g, o + k * 4 + 3, none⟩ = some (.string dt) ∧ W.cell? ⟨g', o' + k * 4, none⟩ = some (.int .i64 jx) ∧ W.cell? ⟨g', o' + k * 4 + 1, none⟩ = some (.int .i64 jt) ∧ W.cell? ⟨g', o' + k * 4 + 2, none⟩ = some (.int .i64 jk) ∧ W.cell? ⟨g', o' + k * 4 + 3, none⟩ = some (.string jd)) (first | exact ⟨c0, c1, c2, c3, d0, d1, d2, d3⟩ | assumption) (first | (go_at_call 55; refine (HQ.out _).mono ?_; rintro e k9 ⟨rfl, h⟩; replace c0 := (h.cell (p := ⟨g, o + k * 4, none⟩) hg).trans c0; replace c1 := (h.cell (p := ⟨g, o + k * 4 + 1, none⟩) hg).trans c1; replace c2 := (h.cell (p := ⟨g, o + k * 4 + 2, none⟩) hg).trans c2; replace c3 := (h.cell (p := ⟨g, o + k * 4 + 3, none⟩) hg).trans c3; replace d0 := (h.cell (p := ⟨g', o' + k * 4, none⟩) hg').trans d0; replace d1 := (h.cell (p := ⟨g', o' + k * 4 + 1, none⟩) hg').trans d1; replace d2 := (h.cell (p := ⟨g', o' + k * 4 + 2, none⟩) hg').trans d2; replace d3 := (h.cell (p := ⟨g', o' + k * 4 + 3, none⟩) hg').trans d3; replace HB := Lib.hid (HB.out.trans (h.mono HB.out.size)); clear h))
        cases bq with
        | false =>
          go_wp2_with fail
          go_ret
          have hz : eqEs11 a b = false := by rw [← HE.out, HD.out, Bool.false_and]
          exact ⟨by rw [hz]; rfl, HB.out⟩
        | true =>
          go_wp2_with fail
          go_roundw
          case rel => exact ⟨k + 1, by go_num, by omega, by rw [← HE.out, HD.out, Bool.true_and], HB.out⟩
          case measure => simp [intOf]; omega
      · have hge : (n : Int) ≤ k := by omega
        have hkn : k = n := by omega
        subst hkn
        have hz : eqEs11 a b = true := by
          rw [← HE.out, List.drop_of_length_le (by rw [HN.out.1]; omega), List.drop_of_length_le (by rw [HN.out.2]; omega)]
          rfl
        go_wp2_with fail
        go_ret
        exact ⟨by rw [hz]; rfl, HB.out⟩
  · have hz := eqEs11_len hlen
    rw [hz]
    have hli : ((a.length : Int) != (b.length : Int)) = true := by
      rw [bne_iff_ne]; omega
    have hlj : ¬ ((a.length : Int) = (b.length : Int)) := by omega
    go_enter Tryd.func36, Tryd.ntmps36
    go_wp2_with fail
    go_ret
    exact ⟨rfl, Below.refl _ _⟩
end Go.Proofs.YtbiecoifeeikpaaDoor
/-
  The reference's Last and Put, where the entry fits.
  The conditions: the log has 1,000 entries at the most, its snapshot's Index is one that may be.
-/
namespace Go.Proofs.YtbiecoifeeikpaaDoor
open Go.RowKit Go.Deep
set_option maxRecDepth 100000

set_option maxHeartbeats 1000000 in
theorem rlastS_any (ht hv ix st : Int) (cf dt : ByteArray) (A : Option Addr) (n c : Nat) (w : World) (h0 : 0 ≤ ix) (h1 : ix ≤ 1099511627776) (hn : n ≤ 1000) :
    Calls Tryd.prog 23 #[.agg #[.int .i64 ht, .int .i64 hv, .int .i64 ix, .int .i64 st, .string cf, .string dt, .slice A n c]] w fun e w' => e = .returned (.int .i64 (ix + (n : Int))) ∧ Below w.heap.size w w' := by
  go_enter Tryd.func23, Tryd.ntmps23
  go_wp2_with fail
  go_ret
  exact ⟨rfl, below_new _ _⟩
section
variable {P : Program} {ops : Array Oper} {Q : Exit → Act → World → Prop} {md : Region.Mode} {S : World → Prop} {f : Nat}
theorem anyG_step2 {i j : Nat} {o p : Oper} {n : Nat} {L : Array Bool} {a : Act} {w : World} (hr : Region.ready md ops L = [i, j]) (ho : ops[i]? = some o) (hp : ops[j]? = some p)
    (h : ∀ K : Act → World → Prop, Shut (∀ b v, (f ≤ i ∨ S v) → AnyG P md ops Q S f n (L.setIfInBounds i true) b v → K b v) → if Region.wanted o (yielded ops a.tmps) = true then Oper.wp P o a w K Q else K (a.put o.dst undef) w)
    (h2 : ∀ K : Act → World → Prop, Shut (∀ b v, (f ≤ j ∨ S v) → AnyG P md ops Q S f n (L.setIfInBounds j true) b v → K b v) → if Region.wanted p (yielded ops a.tmps) = true then Oper.wp P p a w K Q else K (a.put p.dst undef) w) : AnyG P md ops Q S f (n + 1) L a w :=
  ⟨fun h0 => (by rw [h0] at hr; cases hr), fun k hk => by
    rw [hr, List.mem_cons, List.mem_singleton] at hk
    rcases hk with hk | hk
    · subst hk
      exact wpOp_step ho (fun K hK => h K (fun b v h1 h2 => hK b v ⟨h1, h2⟩))
    · subst hk
      exact wpOp_step hp (fun K hK => h2 K (fun b v h1 h2 => hK b v ⟨h1, h2⟩))⟩
theorem stM2 {n : Nat} {L : Array Bool} {a : Act} {w : World} (i j : Nat) {d : Option Tmp} {x : Op} {t : TypeId} {p : String} {e : Array Edge} {g : Option (Nat × Bool)} (hi : ops[i]? = some ⟨d, x, t, p, e, g⟩)
    {d2 : Option Tmp} {x2 : Op} {t2 : TypeId} {p2 : String} {e2 : Array Edge} {g2 : Option (Nat × Bool)} (hj : ops[j]? = some ⟨d2, x2, t2, p2, e2, g2⟩)
    (h : ∀ K : Act → World → Prop, Shut (∀ b v, (f ≤ i ∨ S v) → AnyG P md ops Q S f n (L.setIfInBounds i true) b v → K b v) → Oper.wp P ⟨d, x, t, p, e, g⟩ a w K Q)
    (h2 : ∀ K : Act → World → Prop, Shut (∀ b v, (f ≤ j ∨ S v) → AnyG P md ops Q S f n (L.setIfInBounds j true) b v → K b v) → Oper.wp P ⟨d2, x2, t2, p2, e2, g2⟩ a w K Q)
    (hr : Region.ready md ops L = [i, j] := by kernel_rfl) (hw : Region.wanted ⟨d, x, t, p, e, g⟩ (yielded ops a.tmps) = true := by rfl) (hw2 : Region.wanted ⟨d2, x2, t2, p2, e2, g2⟩ (yielded ops a.tmps) = true := by rfl) : AnyG P md ops Q S f (n + 1) L a w :=
  anyG_step2 hr hi hj (fun K hK => by rw [if_pos hw]; exact h K hK) (fun K hK => by rw [if_pos hw2]; exact h2 K hK)
end
theorem append_nilE {w : World} {B n c : Nat} {v : Value} {xs : List Value} (ty : TypeId) (hown : w.ownsRow B 41 4 v n xs) :
    (Builtin.append_ #[22, 22] ty #[v, .slice none 0 c]).run Tryd.prog w = .ok v w := by
  obtain ⟨iR, hiR, hz, hs, _⟩ := info_parts Tryd.infoEn
  rcases hown.2 with ⟨rfl, rfl⟩ | ⟨g, cap, cur, rfl, _, _, hnc, _⟩
  · simp [Builtin.append_, run_underlying Tryd.underlying22, sizeOf, typeInfo, hiR, hs, Builtin.lenOf, Builtin.firstCells]
  · simp [Builtin.append_, run_underlying Tryd.underlying22, sizeOf, typeInfo, hiR, hs, Builtin.lenOf, Builtin.firstCells, hnc, storeCells]
/-- entries of any slice put behind a row of one's own -/
theorem wp_append_en {w : World} {o : Oper} {a : Act} {K : Act → World → Prop} {Q : Exit → Act → World → Prop} (s x : Operand)
    (ho : o.op = .call { callee := .builtin .append, args := #[s, x], argTypes := #[22, 22] })
    (B : Nat) (N : Nat → Prop) (v u : Value) (L M : List Ent) (hs : a.eval s = v) (hown : OwnEn B v L w) (hx : a.eval x = u) (hu : Ens N w u M) (hlm : L.length + M.length ≤ 1050000) (hB : B ≤ w.heap.size)
    (h : ∀ v' w', OwnEn B v' (L ++ M) w' → Below B w w' → Grew v w v' w' → K (a.put o.dst v') w') : o.wp Tryd.prog a w K Q := by
  obtain ⟨A, c, rfl, hc, hcell⟩ := id hu
  cases A with
  | some ad =>
    obtain ⟨v', w', hr, h2, h3, h4⟩ := run_append_En w B v L M o.type ad M.length c hown N hu hlm hB
    unfold Oper.wp execOp
    simp only [ho, resolve, invoke, builtin, Sem.run_bind, Sem.run_pure, Result.andThen_ok, List.map_toArray, List.map_cons, List.map_nil, hs, hx, hr]
    exact h v' w' h2 h4 h3
  | none =>
    have hm : M = [] := by
      cases M with
      | nil => rfl
      | cons y t => obtain ⟨g, oo, hA, _⟩ := hcell (by simp); cases hA
    subst hm
    have hrun := append_nilE (c := c) o.type (show w.ownsRow B 41 4 v L.length (L.flatMap Ent.cs) from hown)
    unfold Oper.wp
    simp [execOp, ho, resolve, invoke, builtin, hs, hx, hrun, Result.andThen]
    refine h v w ?_ (Below.refl _ _) ⟨grownBy_refl _ _, .inl rfl⟩
    rw [List.append_nil]; exact hown
theorem wpList_append_en {w : World} {ops : Array Oper} {rest : List Oper} {o : Oper} {a : Act} {Q : Exit → Act → World → Prop} (hgd : o.guard = none) (s x : Operand)
    (ho : o.op = .call { callee := .builtin .append, args := #[s, x], argTypes := #[22, 22] })
    (B : Nat) (N : Nat → Prop) (v u : Value) (L M : List Ent) (hs : a.eval s = v) (hown : OwnEn B v L w) (hx : a.eval x = u) (hu : Ens N w u M) (hlm : L.length + M.length ≤ 1050000) (hB : B ≤ w.heap.size)
    (h : ∀ v' w', OwnEn B v' (L ++ M) w' → Below B w w' → Grew v w v' w' → wpList Tryd.prog ops Q rest (a.put o.dst v') w') : wpList Tryd.prog ops Q (o :: rest) a w :=
  wpList_plain hgd fun _ hK => wp_append_en s x ho B N v u L M hs hown hx hu hlm hB fun v' w' h1 h2 h3 => hK _ _ (h v' w' h1 h2 h3)
/-- a slice of one entry -/
theorem en_one {N : Nat → Prop} {w : World} {g : Nat} {ix et kd : Int} {dt : ByteArray} {t : TypeId} (h : Rt w g t [.int .i64 ix, .int .i64 et, .int .i64 kd, .string dt]) (hN : N g) : Ens N w (.slice (some ⟨g, 0, none⟩) 1 1) [⟨ix, et, kd, dt⟩] := ⟨_, _, rfl, Nat.le_refl _, fun _ => ⟨_, 0, rfl, hN, fun j hj => by
  have : j = 0 := by simpa using hj
  subst this
  intro i z hz
  show w.cell? ⟨g, 0 + 0 * 4 + i, none⟩ = _
  rw [show 0 + 0 * 4 + i = i by omega]
  exact h.cell hz⟩⟩
set_option maxHeartbeats 2000000 in
theorem rputS_any (ht hv ix st : Int) (cf dt : ByteArray) (N : Nat → Prop) (A : Option Addr) (n c : Nat) (L : List Ent) (ex et kd : Int) (ed : ByteArray) (w : World) (hE : Ens N w (.slice A n c) L) (h0 : 0 ≤ ix) (h1 : ix ≤ 1099511627776) (hn : n ≤ 1000) (q : Nat) (hq : q ≤ n) (hex : ex = ix + 1 + (q : Int)) :
    Calls Tryd.prog 24 #[.agg #[.int .i64 ht, .int .i64 hv, .int .i64 ix, .int .i64 st, .string cf, .string dt, .slice A n c], .agg #[.int .i64 ex, .int .i64 et, .int .i64 kd, .string ed]] w
      fun e w' => ∃ v, e = .returned (.tuple #[.agg #[.int .i64 ht, .int .i64 hv, .int .i64 ix, .int .i64 st, .string cf, .string dt, v], .bool (decide (q + 1 ≤ 200))]) ∧ OwnEn w.heap.size v (L.take q ++ [⟨ex, et, kd, ed⟩]) w' ∧ Below w.heap.size w w' := by
  have HE := Lib.hid hE
  clear hE
  subst hex
  go_enter Tryd.func24, Tryd.ntmps24
  obtain ⟨b, hb⟩ : ∃ b, w.heap.size = b := ⟨_, rfl⟩
  obtain ⟨W1, hW1⟩ : ∃ W, w.alloc (.cells #[.int .i64 ht, .int .i64 hv, .int .i64 ix, .int .i64 st, .string cf, .string dt, .slice A n c] 38) = W := ⟨_, rfl⟩
  obtain ⟨W2, hW2⟩ : ∃ W, W1.alloc (.cells #[.int .i64 (ix + 1 + (q : Int)), .int .i64 et, .int .i64 kd, .string ed] 41) = W := ⟨_, rfl⟩
  obtain ⟨W, hW⟩ : ∃ W, W2.alloc (.cells #[.int .i64 0, .int .i64 0, .int .i64 0, .int .i64 0, .string ⟨#[]⟩, .string ⟨#[]⟩, .slice none 0 0] 38) = W := ⟨_, rfl⟩
  have z1 : W1.heap.size = b + 1 := by rw [← hW1, World.size_alloc, hb]
  have z2 : W2.heap.size = b + 2 := by rw [← hW2, World.size_alloc, z1]
  have b1 : Below b w W1 := by rw [← hW1, ← hb]; exact below_new _ _
  have b2 : Below (b + 1) W1 W2 := by rw [← hW2, ← z1]; exact below_new _ _
  have b3 : Below (b + 2) W2 W := by rw [← hW, ← z2]; exact below_new _ _
  have rs : Rt W b 38 [.int .i64 ht, .int .i64 hv, .int .i64 ix, .int .i64 st, .string cf, .string dt, .slice A n c] := Rt.under (Rt.under (show Rt W1 b _ _ by rw [← hW1]; exact Rt.new_at w b _ _ hb) b2 (by omega)) b3 (by omega)
  have re : Rt W (b + 1) 41 [.int .i64 (ix + 1 + (q : Int)), .int .i64 et, .int .i64 kd, .string ed] := (show Rt W2 (b + 1) _ _ by rw [← hW2]; exact Rt.new_at W1 (b + 1) _ _ z1).under b3 (by omega)
  have hB : Below b w W := (b1.trans (b2.mono (by omega))).trans (b3.mono (by omega))
  have zW : W.heap.size = b + 3 := by rw [← hW, World.size_alloc, z2]
  have hle : ¬ (ix + 1 + (q : Int) ≤ ix) := by omega
  have hwr : IntKind.i64.wrap (ix + (n : Int) + 1) = ix + (n : Int) + 1 := by rw [IntKind.wrap_i64]; omega
  have hlt2 : ¬ (ix + (n : Int) + 1 < ix + 1 + (q : Int)) := by omega
  have hrz : Rt W (b + 2) 38 [.int .i64 0, .int .i64 0, .int .i64 0, .int .i64 0, .string ⟨#[]⟩, .string ⟨#[]⟩, .slice none 0 0] := by rw [← hW]; exact Rt.new_at W2 (b + 2) _ _ z2
  have hrs := rs
  have hre := re
  have s0 := rs.cell (j := 0) rfl
  have s1 := rs.cell (j := 1) rfl
  have s2 := rs.cell (j := 2) rfl
  have s3 := rs.cell (j := 3) rfl
  have s4 := rs.cell (j := 4) rfl
  have s5 := rs.cell (j := 5) rfl
  have s6 := rs.cell (j := 6) rfl
  have e0 := re.cell (j := 0) rfl
  have hbl : b < W.heap.size := by omega
  have hel : b + 1 < W.heap.size := by omega
  replace HE := Lib.hid (HE.out.below (show Below w.heap.size w W by rw [hb]; exact hB))
  clear b1 b2 b3 rs re
  go_wp2_with fail
  replace hB := hB.drew
  have HE' := Lib.hid (HE.out.below ((Below.refl _ W).drew))
  replace hrs := hrs.below (Below.refl _ W).drew
  replace hre := hre.below (Below.refl _ W).drew
  replace hrz := hrz.below (Below.refl _ W).drew
  replace HE := HE'
  refine wp_region_noPanic ?_
  refine wp_region_held_drew (S := fun W => Rt W b 38 [.int .i64 ht, .int .i64 hv, .int .i64 ix, .int .i64 st, .string cf, .string dt, .slice A n c] ∧ Rt W (b + 1) 41 [.int .i64 (ix + 1 + (q : Int)), .int .i64 et, .int .i64 kd, .string ed]) (by kernel_rfl) ?_ (fun hHeld => ?_)
  · exact ⟨hrs, hre⟩
  generalize W.drew = W3 at *
  refine wpAnyH_take (i := 0) (oi := { dst := some 7, op := Op.fieldAddr 41 (Operand.tmp 3) 0, type := 0, pos := "ref.go:269", after := #[], guard := none }) (v := .pointer (some ⟨b + 1, 0, none⟩)) rfl (by kernel_rfl) (by kernel_rfl) (by kernel_rfl) (fun _ _ _ h => h) (Or.inl ⟨by rfl, fun w hSw => ?_⟩) (by assumption) ?_
  · (try dsimp only at hSw)
    obtain ⟨q1, q2⟩ := hSw
    have u0 := q1.cell (j := 0) rfl
    have u1 := q1.cell (j := 1) rfl
    have u2 := q1.cell (j := 2) rfl
    have u3 := q1.cell (j := 3) rfl
    have u4 := q1.cell (j := 4) rfl
    have u5 := q1.cell (j := 5) rfl
    have u6 := q1.cell (j := 6) rfl
    have v0 := q2.cell (j := 0) rfl
    go_simp
  try simp only [Act.put, List.setIfInBounds_toArray, List.set_cons_zero, List.set_cons_succ]
  refine wpAnyH_take (i := 1) (oi := { dst := some 8, op := Op.load 2 (Operand.tmp 7), type := 2, pos := "ref.go:269", after := #[{ on := 0, ground := Ground.data }], guard := none }) (v := .int .i64 (ix + 1 + (q : Int))) rfl (by kernel_rfl) (by kernel_rfl) (by kernel_rfl) (fun _ _ _ h => h) (Or.inl ⟨by rfl, fun w hSw => ?_⟩) (by assumption) ?_
  · (try dsimp only at hSw)
    obtain ⟨q1, q2⟩ := hSw
    have u0 := q1.cell (j := 0) rfl
    have u1 := q1.cell (j := 1) rfl
    have u2 := q1.cell (j := 2) rfl
    have u3 := q1.cell (j := 3) rfl
    have u4 := q1.cell (j := 4) rfl
    have u5 := q1.cell (j := 5) rfl
    have u6 := q1.cell (j := 6) rfl
    have v0 := q2.cell (j := 0) rfl
    go_simp
  try simp only [Act.put, List.setIfInBounds_toArray, List.set_cons_zero, List.set_cons_succ]
  refine wpAnyH_take (i := 2) (oi := { dst := some 9, op := Op.fieldAddr 38 (Operand.tmp 2) 1, type := 0, pos := "ref.go:269", after := #[], guard := none }) (v := .pointer (some ⟨b, 2, none⟩)) rfl (by kernel_rfl) (by kernel_rfl) (by kernel_rfl) (fun _ _ _ h => h) (Or.inl ⟨by rfl, fun w hSw => ?_⟩) (by assumption) ?_
  · (try dsimp only at hSw)
    obtain ⟨q1, q2⟩ := hSw
    have u0 := q1.cell (j := 0) rfl
    have u1 := q1.cell (j := 1) rfl
    have u2 := q1.cell (j := 2) rfl
    have u3 := q1.cell (j := 3) rfl
    have u4 := q1.cell (j := 4) rfl
    have u5 := q1.cell (j := 5) rfl
    have u6 := q1.cell (j := 6) rfl
    have v0 := q2.cell (j := 0) rfl
    go_simp
  try simp only [Act.put, List.setIfInBounds_toArray, List.set_cons_zero, List.set_cons_succ]
  refine wpAnyH_take (i := 3) (oi := { dst := some 10, op := Op.fieldAddr 33 (Operand.tmp 9) 0, type := 0, pos := "ref.go:269", after := #[{ on := 2, ground := Ground.data }], guard := none }) (v := .pointer (some ⟨b, 2, none⟩)) rfl (by kernel_rfl) (by kernel_rfl) (by kernel_rfl) (fun _ _ _ h => h) (Or.inl ⟨by rfl, fun w hSw => ?_⟩) (by assumption) ?_
  · (try dsimp only at hSw)
    obtain ⟨q1, q2⟩ := hSw
    have u0 := q1.cell (j := 0) rfl
    have u1 := q1.cell (j := 1) rfl
    have u2 := q1.cell (j := 2) rfl
    have u3 := q1.cell (j := 3) rfl
    have u4 := q1.cell (j := 4) rfl
    have u5 := q1.cell (j := 5) rfl
    have u6 := q1.cell (j := 6) rfl
    have v0 := q2.cell (j := 0) rfl
    go_simp
  try simp only [Act.put, List.setIfInBounds_toArray, List.set_cons_zero, List.set_cons_succ]
  refine wpAnyH_take (i := 4) (oi := { dst := some 11, op := Op.load 2 (Operand.tmp 10), type := 2, pos := "ref.go:269", after := #[{ on := 3, ground := Ground.data }], guard := none }) (v := .int .i64 ix) rfl (by kernel_rfl) (by kernel_rfl) (by kernel_rfl) (fun _ _ _ h => h) (Or.inl ⟨by rfl, fun w hSw => ?_⟩) (by assumption) ?_
  · (try dsimp only at hSw)
    obtain ⟨q1, q2⟩ := hSw
    have u0 := q1.cell (j := 0) rfl
    have u1 := q1.cell (j := 1) rfl
    have u2 := q1.cell (j := 2) rfl
    have u3 := q1.cell (j := 3) rfl
    have u4 := q1.cell (j := 4) rfl
    have u5 := q1.cell (j := 5) rfl
    have u6 := q1.cell (j := 6) rfl
    have v0 := q2.cell (j := 0) rfl
    go_simp
  try simp only [Act.put, List.setIfInBounds_toArray, List.set_cons_zero, List.set_cons_succ]
  refine wpAnyH_take (i := 5) (oi := { dst := some 12, op := Op.binOp BinOp.leq 2 (Operand.tmp 8) (Operand.tmp 11) 2, type := 4, pos := "ref.go:269", after := #[{ on := 1, ground := Ground.data }, { on := 4, ground := Ground.data }], guard := none }) (v := .bool false) rfl (by kernel_rfl) (by kernel_rfl) (by kernel_rfl) (fun _ _ _ h => h) (Or.inl ⟨by rfl, fun w hSw => ?_⟩) (by assumption) ?_
  · (try dsimp only at hSw)
    obtain ⟨q1, q2⟩ := hSw
    have u0 := q1.cell (j := 0) rfl
    have u1 := q1.cell (j := 1) rfl
    have u2 := q1.cell (j := 2) rfl
    have u3 := q1.cell (j := 3) rfl
    have u4 := q1.cell (j := 4) rfl
    have u5 := q1.cell (j := 5) rfl
    have u6 := q1.cell (j := 6) rfl
    have v0 := q2.cell (j := 0) rfl
    go_simp
  try simp only [Act.put, List.setIfInBounds_toArray, List.set_cons_zero, List.set_cons_succ]
  refine wpAnyH_take (i := 6) (oi := { dst := some 13, op := Op.move (Operand.tmp 12), type := 4, pos := "ref.go:269", after := #[{ on := 5, ground := Ground.data }], guard := none }) (v := .bool false) rfl (by kernel_rfl) (by kernel_rfl) (by kernel_rfl) (fun _ _ _ h => h) (Or.inl ⟨by rfl, fun w hSw => ?_⟩) (by assumption) ?_
  · (try dsimp only at hSw)
    obtain ⟨q1, q2⟩ := hSw
    have u0 := q1.cell (j := 0) rfl
    have u1 := q1.cell (j := 1) rfl
    have u2 := q1.cell (j := 2) rfl
    have u3 := q1.cell (j := 3) rfl
    have u4 := q1.cell (j := 4) rfl
    have u5 := q1.cell (j := 5) rfl
    have u6 := q1.cell (j := 6) rfl
    have v0 := q2.cell (j := 0) rfl
    go_simp
  try simp only [Act.put, List.setIfInBounds_toArray, List.set_cons_zero, List.set_cons_succ]
  refine wpAnyH_take (i := 7) (oi := { dst := some 14, op := Op.fieldAddr 41 (Operand.tmp 3) 0, type := 0, pos := "ref.go:269", after := #[{ on := 6, ground := Ground.guard }], guard := some (6, false) }) (v := .pointer (some ⟨b + 1, 0, none⟩)) rfl (by kernel_rfl) (by kernel_rfl) (by kernel_rfl) (fun _ _ _ h => h) (Or.inl ⟨by rfl, fun w hSw => ?_⟩) (by assumption) ?_
  · (try dsimp only at hSw)
    obtain ⟨q1, q2⟩ := hSw
    have u0 := q1.cell (j := 0) rfl
    have u1 := q1.cell (j := 1) rfl
    have u2 := q1.cell (j := 2) rfl
    have u3 := q1.cell (j := 3) rfl
    have u4 := q1.cell (j := 4) rfl
    have u5 := q1.cell (j := 5) rfl
    have u6 := q1.cell (j := 6) rfl
    have v0 := q2.cell (j := 0) rfl
    go_simp
  try simp only [Act.put, List.setIfInBounds_toArray, List.set_cons_zero, List.set_cons_succ]
  refine wpAnyH_take (i := 8) (oi := { dst := some 15, op := Op.load 2 (Operand.tmp 14), type := 2, pos := "ref.go:269", after := #[{ on := 7, ground := Ground.data }, { on := 6, ground := Ground.guard }], guard := some (6, false) }) (v := .int .i64 (ix + 1 + (q : Int))) rfl (by kernel_rfl) (by kernel_rfl) (by kernel_rfl) (fun _ _ _ h => h) (Or.inl ⟨by rfl, fun w hSw => ?_⟩) (by assumption) ?_
  · (try dsimp only at hSw)
    obtain ⟨q1, q2⟩ := hSw
    have u0 := q1.cell (j := 0) rfl
    have u1 := q1.cell (j := 1) rfl
    have u2 := q1.cell (j := 2) rfl
    have u3 := q1.cell (j := 3) rfl
    have u4 := q1.cell (j := 4) rfl
    have u5 := q1.cell (j := 5) rfl
    have u6 := q1.cell (j := 6) rfl
    have v0 := q2.cell (j := 0) rfl
    go_simp
  try simp only [Act.put, List.setIfInBounds_toArray, List.set_cons_zero, List.set_cons_succ]
  refine wpAnyH_take (i := 9) (oi := { dst := some 16, op := Op.load 38 (Operand.tmp 2), type := 38, pos := "ref.go:269", after := #[{ on := 6, ground := Ground.guard }], guard := some (6, false) }) (v := .agg #[.int .i64 ht, .int .i64 hv, .int .i64 ix, .int .i64 st, .string cf, .string dt, .slice A n c]) rfl (by kernel_rfl) (by kernel_rfl) (by kernel_rfl) (fun _ _ _ h => h) (Or.inl ⟨by rfl, fun w hSw => ?_⟩) (by assumption) ?_
  · (try dsimp only at hSw)
    obtain ⟨q1, q2⟩ := hSw
    have u0 := q1.cell (j := 0) rfl
    have u1 := q1.cell (j := 1) rfl
    have u2 := q1.cell (j := 2) rfl
    have u3 := q1.cell (j := 3) rfl
    have u4 := q1.cell (j := 4) rfl
    have u5 := q1.cell (j := 5) rfl
    have u6 := q1.cell (j := 6) rfl
    have v0 := q2.cell (j := 0) rfl
    go_simp
  try simp only [Act.put, List.setIfInBounds_toArray, List.set_cons_zero, List.set_cons_succ]
  refine wpAnyH_ready (rs := [10]) (by kernel_rfl) (by simp) ?_
  refine AllReadyH.cons (o := { dst := some 17, op := Op.call { callee := Callee.value (Operand.func 23), args := #[Operand.tmp 16], argTypes := #[38] }, type := 2, pos := "ref.go:269", after := #[{ on := 9, ground := Ground.data }, { on := 6, ground := Ground.chain }, { on := 6, ground := Ground.guard }], guard := some (6, false) }) rfl (fun K hK => ?_) AllReadyH.nil
  go_simp
  go_at_call 23
  refine (rlastS_any ht hv ix st cf dt A n c _ h0 h1 hn).mono ?_
  rintro e k9 ⟨rfl, h⟩
  replace hrs := hrs.below h
  replace hre := hre.below h
  replace hrz := hrz.below h
  replace hB := hB.trans (h.mono (by rw [← hb]; exact hB.size))
  replace HE := Lib.hid (HE.out.below h)
  clear h
  refine hK.out _ _ ?_ (fun hHeld => ?_)
  · exact ⟨hrs, hre⟩
  clear hK K
  try simp only [Act.put, List.setIfInBounds_toArray, List.set_cons_zero, List.set_cons_succ]
  refine wpAnyH_take (i := 11) (oi := { dst := some 18, op := Op.binOp BinOp.add 2 (Operand.tmp 17) (Operand.const (Value.int IntKind.i64 1)) 2, type := 2, pos := "ref.go:269", after := #[{ on := 10, ground := Ground.data }, { on := 6, ground := Ground.guard }], guard := some (6, false) }) (v := .int .i64 (ix + (n : Int) + 1)) rfl (by kernel_rfl) (by kernel_rfl) (by kernel_rfl) (fun _ _ _ h => h) (Or.inl ⟨by rfl, fun w hSw => ?_⟩) (by assumption) ?_
  · (try dsimp only at hSw)
    go_simp
  try simp only [Act.put, List.setIfInBounds_toArray, List.set_cons_zero, List.set_cons_succ]
  refine wpAnyH_take (i := 12) (oi := { dst := some 19, op := Op.binOp BinOp.gtr 2 (Operand.tmp 15) (Operand.tmp 18) 2, type := 4, pos := "ref.go:269", after := #[{ on := 8, ground := Ground.data }, { on := 11, ground := Ground.data }, { on := 6, ground := Ground.guard }], guard := some (6, false) }) (v := .bool false) rfl (by kernel_rfl) (by kernel_rfl) (by kernel_rfl) (fun _ _ _ h => h) (Or.inl ⟨by rfl, fun w hSw => ?_⟩) (by assumption) ?_
  · (try dsimp only at hSw)
    go_simp
  try simp only [Act.put, List.setIfInBounds_toArray, List.set_cons_zero, List.set_cons_succ]
  refine wpAnyH_take (i := 13) (oi := { dst := some 20, op := Op.pick (Operand.tmp 13) (Operand.const (Value.bool true)) (Operand.tmp 19), type := 4, pos := "ref.go:269", after := #[{ on := 6, ground := Ground.data }, { on := 12, ground := Ground.data }], guard := none }) (v := .bool false) rfl (by kernel_rfl) (by kernel_rfl) (by kernel_rfl) (fun _ _ _ h => h) (Or.inl ⟨by rfl, fun w hSw => ?_⟩) (by assumption) ?_
  · (try dsimp only at hSw)
    go_simp
  try simp only [Act.put, List.setIfInBounds_toArray, List.set_cons_zero, List.set_cons_succ]
  refine wpAnyH_done (by kernel_rfl) ?_ _
  refine NoPanic.normal ?_

  clear hwr hle hlt2 HE'
  have t2 := hrs.cell (j := 2) rfl
  have t6 := hrs.cell (j := 6) rfl
  have u0 := hre.cell (j := 0) rfl
  have u1 := hre.cell (j := 1) rfl
  have u2 := hre.cell (j := 2) rfl
  have u3 := hre.cell (j := 3) rfl
  clear s0 s1 s2 s3 s4 s5 s6 e0
  have hmx : ix + 1 + (q : Int) - ix - 1 = (q : Int) := by omega
  have hbk : b + 2 < k9.heap.size := hrz.lt
  have hqc : ¬ c < q := by have := HE.out.len; omega
  go_wp2_with fail
  clear hmx t2 t6 u0 u1 u2 u3
  replace hrs := hrs.below (Below.refl _ k9).drew
  replace hre := hre.below (Below.refl _ k9).drew
  replace hrz := hrz.below (Below.refl _ k9).drew
  replace hB := hB.drew
  replace HE := Lib.hid (HE.out.below ((Below.refl _ k9).drew))
  refine wp_region_noPanic ?_
  refine region_g 9 (fun W => Rt W b 38 [.int .i64 ht, .int .i64 hv, .int .i64 ix, .int .i64 st, .string cf, .string dt, .slice A n c] ∧ Rt W (b + 1) 41 [.int .i64 (ix + 1 + (q : Int)), .int .i64 et, .int .i64 kd, .string ed]) (by kernel_rfl) ?_
  replace hbk : b + 2 < k9.drew.heap.size := hbk
  generalize k9.drew = k3 at *
  have hHeld : (fun W : World => Rt W b 38 [.int .i64 ht, .int .i64 hv, .int .i64 ix, .int .i64 st, .string cf, .string dt, .slice A n c] ∧ Rt W (b + 1) 41 [.int .i64 (ix + 1 + (q : Int)), .int .i64 et, .int .i64 kd, .string ed]) k3 := ⟨hrs, hre⟩
  refine tkL 0 (.pointer (some ⟨b, 6, none⟩)) rfl (fun w hSw => ?_) ?_
  · (try dsimp only at hSw)
    go_simp
  try simp only [Act.put, List.setIfInBounds_toArray, List.set_cons_zero, List.set_cons_succ]
  refine tkL 1 (.slice A n c) rfl (fun w hSw => ?_) ?_
  · (try dsimp only at hSw)
    obtain ⟨q1, q2⟩ := hSw
    have u6 := q1.cell (j := 6) rfl
    go_simp
  try simp only [Act.put, List.setIfInBounds_toArray, List.set_cons_zero, List.set_cons_succ]
  refine tkL 2 (.int .i64 (q : Int)) rfl (fun w hSw => ?_) ?_
  · (try dsimp only at hSw)
    go_simp
  try simp only [Act.put, List.setIfInBounds_toArray, List.set_cons_zero, List.set_cons_succ]
  refine tkL 3 (.slice A q c) rfl (fun w hSw => ?_) ?_
  · (try dsimp only at hSw)
    go_simp
  try simp only [Act.put, List.setIfInBounds_toArray, List.set_cons_zero, List.set_cons_succ]
  refine tkL 5 (.agg #[.int .i64 (ix + 1 + (q : Int)), .int .i64 et, .int .i64 kd, .string ed]) rfl (fun w hSw => ?_) ?_
  · (try dsimp only at hSw)
    obtain ⟨q1, q2⟩ := hSw
    have v0 := q2.cell (j := 0) rfl
    have v1 := q2.cell (j := 1) rfl
    have v2 := q2.cell (j := 2) rfl
    have v3 := q2.cell (j := 3) rfl
    go_simp
  try simp only [Act.put, List.setIfInBounds_toArray, List.set_cons_zero, List.set_cons_succ]
  have hrsk3 := hrs
  have hrek3 := hre
  have hrzk3 := hrz
  have hBk3 := hB
  have hzk3 : k3.heap.size ≤ k3.heap.size := Nat.le_refl _
  have HEk3 := HE
  refine stM2 4 6 rfl rfl (fun K hK => ?_) (fun K hK => ?_)
  · refine wp_append_en _ _ rfl k3.heap.size N _ _ [] (L.take q) rfl (OwnEn.nil _ _) rfl (HEk3.out.take q (by have := HE.out.len; omega)) (by rw [List.length_take]; have := HE.out.len; show 0 + _ ≤ _; omega) (Nat.le_refl _) ?_
    intro va k4 hoa hba hga
    rw [List.nil_append] at hoa
    obtain ⟨Aa, ca, hva⟩ := hoa.slice
    obtain ⟨ma, hma⟩ : ∃ ma, (L.take q).length = ma := ⟨_, rfl⟩
    rw [hma] at hva
    subst hva
    have HMA := Lib.hid hma
    have hrsk4 := hrsk3.below hba
    have hrek4 := hrek3.below hba
    have hrzk4 := hrzk3.below hba
    have hBk4 := hBk3.trans (hba.mono (by have := hrzk3.lt; omega))
    have hzk4 := Nat.le_trans hzk3 hba.size
    clear hma hga
    have HOA0 := Lib.hid hoa
    obtain ⟨BA, hBAe⟩ : ∃ BA, k3.heap.size = BA := ⟨_, rfl⟩
    rw [hBAe] at HOA0
    have HMQ := Lib.hid (show ma = q by have h1 := HMA.out; have h2 := HE.out.len; rw [List.length_take] at h1; omega)
    clear hoa hba
    clear hHeld
    have hHeld : (fun W : World => Rt W b 38 [.int .i64 ht, .int .i64 hv, .int .i64 ix, .int .i64 st, .string cf, .string dt, .slice A n c] ∧ Rt W (b + 1) 41 [.int .i64 (ix + 1 + (q : Int)), .int .i64 et, .int .i64 kd, .string ed]) k4 := ⟨hrsk4, hrek4⟩
    refine hK.out _ _ (.inr hHeld) ?_
    clear hK K
    try simp only [Act.put, List.setIfInBounds_toArray, List.set_cons_zero, List.set_cons_succ]
    refine stM 6 rfl (fun K hK => ?_)
    go_simp
    obtain ⟨k5, hk5e⟩ : ∃ W9, k4.alloc (.cells #[.int .i64 (ix + 1 + (q : Int)), .int .i64 et, .int .i64 kd, .string ed] 41) = W9 := ⟨_, rfl⟩
    have hbx : Below k4.heap.size k4 k5 := by rw [← hk5e]; exact below_new _ _
    have hyx : Rt k5 k4.heap.size 41 [.int .i64 (ix + 1 + (q : Int)), .int .i64 et, .int .i64 kd, .string ed] := by rw [← hk5e]; exact Rt.new _ _ _
    have hrsk5 := hrsk4.below hbx
    have hrek5 := hrek4.below hbx
    have hrzk5 := hrzk4.below hbx
    have hBk5 := hBk4.trans (hbx.mono (by have := hrzk4.lt; omega))
    have hzk5 := Nat.le_trans hzk4 hbx.size
    obtain ⟨nb, hnb⟩ : ∃ nb, k4.heap.size = nb := ⟨_, rfl⟩
    have hnl : nb < k5.heap.size := by have := hyx.lt; omega
    rw [hk5e, hnb]
    rw [hnb] at hyx
    have HOA := Lib.hid (HOA0.out.below hbx)
    clear hk5e
    have hBA : BA ≤ k5.heap.size := by rw [← hBAe]; exact hzk5
    have hbBA : b + 2 < BA := by rw [← hBAe]; exact hrzk3.lt
    clear hHeld
    have hHeld : (fun W : World => Rt W b 38 [.int .i64 ht, .int .i64 hv, .int .i64 ix, .int .i64 st, .string cf, .string dt, .slice A n c] ∧ Rt W (b + 1) 41 [.int .i64 (ix + 1 + (q : Int)), .int .i64 et, .int .i64 kd, .string ed]) k5 := ⟨hrsk5, hrek5⟩
    refine hK.out _ _ (.inr hHeld) ?_
    clear hK K
    try simp only [Act.put, List.setIfInBounds_toArray, List.set_cons_zero, List.set_cons_succ]
    refine stM 7 rfl (fun K hK => ?_)
    refine wp_append_en _ _ rfl BA (fun j => j = nb) _ _ (L.take q) [(⟨ix + 1 + (q : Int), et, kd, ed⟩ : Ent)] rfl HOA.out rfl (en_one hyx rfl) (by rw [HMA.out]; show ma + 1 ≤ _; have := HMQ.out; omega) hBA ?_
    intro vb k6 hob hbb hgb
    obtain ⟨Ab, cb, hvb⟩ := hob.slice
    obtain ⟨mb, hmb⟩ : ∃ mb, (L.take q ++ [(⟨ix + 1 + (q : Int), et, kd, ed⟩ : Ent)]).length = mb := ⟨_, rfl⟩
    have hmq : mb = q + 1 := by rw [← hmb, List.length_append, HMA.out]; show ma + 1 = _; rw [HMQ.out]
    rw [hmb] at hvb
    subst hvb
    have hrs6 := hrsk5.under hbb (by omega)
    have hre6 := hrek5.under hbb (by omega)
    have hrz6 := hrzk5.under hbb (by omega)
    have hB6 := hBk5.trans (hbb.mono (by omega))
    have hbb6 : b + 2 < k6.heap.size := hrz6.lt
    have HOB := Lib.hid hob
    have HMQ2 := Lib.hid hmq
    clear hob hbb hgb hmb hmq
    clear hHeld
    have hHeld : (fun W : World => Rt W b 38 [.int .i64 ht, .int .i64 hv, .int .i64 ix, .int .i64 st, .string cf, .string dt, .slice A n c] ∧ Rt W (b + 1) 41 [.int .i64 (ix + 1 + (q : Int)), .int .i64 et, .int .i64 kd, .string ed]) k6 := ⟨hrs6, hre6⟩
    refine hK.out _ _ (.inr hHeld) ?_
    clear hK K
    try simp only [Act.put, List.setIfInBounds_toArray, List.set_cons_zero, List.set_cons_succ]
    refine tkL 8 (.pointer (some ⟨b, 6, none⟩)) rfl (fun w hSw => ?_) ?_
    · (try dsimp only at hSw)
      go_simp
    try simp only [Act.put, List.setIfInBounds_toArray, List.set_cons_zero, List.set_cons_succ]
    refine stM 9 rfl (fun K hK => ?_)
    have c6 := hrs6.cell (j := 6) rfl
    have f6 := hrs6.frz 6
    go_simp
    refine hK.out _ _ (.inl (by decide)) ?_
    clear hK K
    try simp only [Act.put, List.setIfInBounds_toArray, List.set_cons_zero, List.set_cons_succ]
    refine anyG_done (by kernel_rfl) ?_ _
    refine NoPanic.normal ?_
    have hrs7 := hrs6.set 6 (.slice Ab mb cb)
    have hrz7 := hrz6.other 6 (.slice Ab mb cb) (g' := b) (by omega)
    have hB7 := hB6.setCell (p := ⟨b, 6, none⟩) (Nat.le_refl b) (.slice Ab mb cb)
    have HO7 := Lib.hid (show OwnEn BA _ _ (k6.setCell ⟨b, 6, none⟩ (.slice Ab mb cb)) from ownsRow_set HOB.out (by show b < _; omega))
    obtain ⟨k7, hk7⟩ : ∃ k7, k6.setCell ⟨b, 6, none⟩ (.slice Ab mb cb) = k7 := ⟨_, rfl⟩
    rw [hk7] at hrs7 hrz7 hB7 HO7 ⊢
    simp only [List.set_cons_zero, List.set_cons_succ] at hrs7
    clear c6 f6 hrs6 hre6 hrz6 hB6 hk7 HOB hHeld
    obtain ⟨bq, hbq⟩ : ∃ bq, decide (q + 1 ≤ 200) = bq := ⟨_, rfl⟩
    have hb1 : decide ((mb : Int) ≤ 200) = bq := by rw [← hbq, decide_eq_decide, HMQ2.out]; omega
    have hb2 : decide (mb ≤ 200) = bq := by rw [← hbq, HMQ2.out]
    have HBQ := Lib.hid hbq
    clear hbq
    go_wp2_with fail
    replace hrs7 := hrs7.below (Below.refl _ k7).drew
    replace hrz7 := hrz7.below (Below.refl _ k7).drew
    replace hB7 := hB7.drew
    replace HO7 := Lib.hid (HO7.out.below (Below.refl _ k7).drew)
    refine wp_region_noPanic ?_
    refine wp_region_held_drew (S := fun W => Rt W b 38 [.int .i64 ht, .int .i64 hv, .int .i64 ix, .int .i64 st, .string cf, .string dt, .slice Ab mb cb]) (by kernel_rfl) ?_ (fun hHeld => ?_)
    · exact hrs7
    generalize k7.drew = k8 at *
    refine wpAnyH_take (i := 0) (oi := { dst := some 38, op := Op.load 38 (Operand.tmp 2), type := 38, pos := "ref.go:274", after := #[], guard := none }) (v := .agg #[.int .i64 ht, .int .i64 hv, .int .i64 ix, .int .i64 st, .string cf, .string dt, .slice Ab mb cb]) rfl (by kernel_rfl) (by kernel_rfl) (by kernel_rfl) (fun _ _ _ h => h) (Or.inl ⟨by rfl, fun w hSw => ?_⟩) (by assumption) ?_
    · (try dsimp only at hSw)
      have u0 := hSw.cell (j := 0) rfl
      have u1 := hSw.cell (j := 1) rfl
      have u2 := hSw.cell (j := 2) rfl
      have u3 := hSw.cell (j := 3) rfl
      have u4 := hSw.cell (j := 4) rfl
      have u5 := hSw.cell (j := 5) rfl
      have u6 := hSw.cell (j := 6) rfl
      go_simp
    try simp only [Act.put, List.setIfInBounds_toArray, List.set_cons_zero, List.set_cons_succ]
    refine wpAnyH_take (i := 1) (oi := { dst := some 39, op := Op.fieldAddr 38 (Operand.tmp 2) 2, type := 0, pos := "ref.go:274", after := #[], guard := none }) (v := .pointer (some ⟨b, 6, none⟩)) rfl (by kernel_rfl) (by kernel_rfl) (by kernel_rfl) (fun _ _ _ h => h) (Or.inl ⟨by rfl, fun w hSw => ?_⟩) (by assumption) ?_
    · (try dsimp only at hSw)
      go_simp
    try simp only [Act.put, List.setIfInBounds_toArray, List.set_cons_zero, List.set_cons_succ]
    refine wpAnyH_take (i := 2) (oi := { dst := some 40, op := Op.load 22 (Operand.tmp 39), type := 22, pos := "ref.go:274", after := #[{ on := 1, ground := Ground.data }], guard := none }) (v := .slice Ab mb cb) rfl (by kernel_rfl) (by kernel_rfl) (by kernel_rfl) (fun _ _ _ h => h) (Or.inl ⟨by rfl, fun w hSw => ?_⟩) (by assumption) ?_
    · (try dsimp only at hSw)
      have u0 := hSw.cell (j := 0) rfl
      have u1 := hSw.cell (j := 1) rfl
      have u2 := hSw.cell (j := 2) rfl
      have u3 := hSw.cell (j := 3) rfl
      have u4 := hSw.cell (j := 4) rfl
      have u5 := hSw.cell (j := 5) rfl
      have u6 := hSw.cell (j := 6) rfl
      go_simp
    try simp only [Act.put, List.setIfInBounds_toArray, List.set_cons_zero, List.set_cons_succ]
    refine wpAnyH_take (i := 3) (oi := { dst := some 41, op := Op.call { callee := Callee.builtin Builtin.len, args := #[Operand.tmp 40], argTypes := #[22] }, type := 3, pos := "ref.go:274", after := #[{ on := 2, ground := Ground.data }], guard := none }) (v := .int .i64 (mb : Int)) rfl (by kernel_rfl) (by kernel_rfl) (by kernel_rfl) (fun _ _ _ h => h) (Or.inl ⟨by rfl, fun w hSw => ?_⟩) (by assumption) ?_
    · (try dsimp only at hSw)
      go_simp
    try simp only [Act.put, List.setIfInBounds_toArray, List.set_cons_zero, List.set_cons_succ]
    refine wpAnyH_take (i := 4) (oi := { dst := some 42, op := Op.binOp BinOp.leq 3 (Operand.tmp 41) (Operand.const (Value.int IntKind.i64 200)) 3, type := 4, pos := "ref.go:274", after := #[{ on := 3, ground := Ground.data }, { on := 5, ground := Ground.gcOnly Departure.lateStores }], guard := none }) (v := .bool bq) rfl (by kernel_rfl) (by kernel_rfl) (by kernel_rfl) (fun _ _ _ h => h) (Or.inl ⟨by rfl, fun w hSw => ?_⟩) (by assumption) ?_
    · (try dsimp only at hSw)
      go_simp
    try simp only [Act.put, List.setIfInBounds_toArray, List.set_cons_zero, List.set_cons_succ]
    refine wpAnyH_ready (rs := [5]) (by kernel_rfl) (by simp) ?_
    refine AllReadyH.cons (o := { dst := none, op := Op.store 38 (Operand.tmp 4) (Operand.tmp 38), type := 0, pos := "ref.go:274", after := #[{ on := 0, ground := Ground.data }, { on := 0, ground := Ground.phase }, { on := 1, ground := Ground.textOnly Departure.lateStores }, { on := 2, ground := Ground.textOnly Departure.lateStores }, { on := 3, ground := Ground.textOnly Departure.lateStoresUnsure }, { on := 4, ground := Ground.textOnly Departure.lateStores }], guard := none }) rfl (fun K hK => ?_) AllReadyH.nil
    go_simp
    have d0 := hrz7.cell (j := 0) rfl
    have e0 := hrz7.frz 0
    have d1 := hrz7.cell (j := 1) rfl
    have e1 := hrz7.frz 1
    have d2 := hrz7.cell (j := 2) rfl
    have e2 := hrz7.frz 2
    have d3 := hrz7.cell (j := 3) rfl
    have e3 := hrz7.frz 3
    have d4 := hrz7.cell (j := 4) rfl
    have e4 := hrz7.frz 4
    have d5 := hrz7.cell (j := 5) rfl
    have e5 := hrz7.frz 5
    have d6 := hrz7.cell (j := 6) rfl
    have e6 := hrz7.frz 6
    go_simp
    obtain ⟨k9, hk9⟩ : ∃ k9, (((((((k8.setCell ⟨(b + 2), 0, none⟩ (.int .i64 ht)).setCell ⟨(b + 2), 1, none⟩ (.int .i64 hv)).setCell ⟨(b + 2), 2, none⟩ (.int .i64 ix)).setCell ⟨(b + 2), 3, none⟩ (.int .i64 st)).setCell ⟨(b + 2), 4, none⟩ (.string cf)).setCell ⟨(b + 2), 5, none⟩ (.string dt)).setCell ⟨(b + 2), 6, none⟩ (.slice Ab mb cb)) = k9 := ⟨_, rfl⟩
    have hy9 := (((((((hrz7.set 0 (.int .i64 ht)).set 1 (.int .i64 hv)).set 2 (.int .i64 ix)).set 3 (.int .i64 st)).set 4 (.string cf)).set 5 (.string dt)).set 6 (.slice Ab mb cb))
    have hB9 := (((((((hB7.setCell (p := ⟨(b + 2), 0, none⟩) (Nat.le_add_right b 2) (.int .i64 ht)).setCell (p := ⟨(b + 2), 1, none⟩) (Nat.le_add_right b 2) (.int .i64 hv)).setCell (p := ⟨(b + 2), 2, none⟩) (Nat.le_add_right b 2) (.int .i64 ix)).setCell (p := ⟨(b + 2), 3, none⟩) (Nat.le_add_right b 2) (.int .i64 st)).setCell (p := ⟨(b + 2), 4, none⟩) (Nat.le_add_right b 2) (.string cf)).setCell (p := ⟨(b + 2), 5, none⟩) (Nat.le_add_right b 2) (.string dt)).setCell (p := ⟨(b + 2), 6, none⟩) (Nat.le_add_right b 2) (.slice Ab mb cb))
    have HO9 := Lib.hid (show OwnEn BA (.slice Ab mb cb) _ (((((((k8.setCell ⟨(b + 2), 0, none⟩ (.int .i64 ht)).setCell ⟨(b + 2), 1, none⟩ (.int .i64 hv)).setCell ⟨(b + 2), 2, none⟩ (.int .i64 ix)).setCell ⟨(b + 2), 3, none⟩ (.int .i64 st)).setCell ⟨(b + 2), 4, none⟩ (.string cf)).setCell ⟨(b + 2), 5, none⟩ (.string dt)).setCell ⟨(b + 2), 6, none⟩ (.slice Ab mb cb)) from ownsRow_setb HO7.out hrz7 (by decide) _ _ _ _ _ _ _)
    have hrs9 := hrs7
    replace hrs9 := hrs9.other 0 (.int .i64 ht) (g' := b + 2) (by omega)
    replace hrs9 := hrs9.other 1 (.int .i64 hv) (g' := b + 2) (by omega)
    replace hrs9 := hrs9.other 2 (.int .i64 ix) (g' := b + 2) (by omega)
    replace hrs9 := hrs9.other 3 (.int .i64 st) (g' := b + 2) (by omega)
    replace hrs9 := hrs9.other 4 (.string cf) (g' := b + 2) (by omega)
    replace hrs9 := hrs9.other 5 (.string dt) (g' := b + 2) (by omega)
    replace hrs9 := hrs9.other 6 (.slice Ab mb cb) (g' := b + 2) (by omega)
    rw [hk9] at hy9 hB9 HO9 hrs9 ⊢
    simp only [List.set_cons_zero, List.set_cons_succ] at hy9
    clear hk9 d0 e0 d1 e1 d2 e2 d3 e3 d4 e4 d5 e5 d6 e6
    refine hK.out _ _ ?_ (fun hHeld => ?_)
    · exact hrs9
    clear hK K
    try simp only [Act.put, List.setIfInBounds_toArray, List.set_cons_zero, List.set_cons_succ]
    refine wpAnyH_take (i := 6) (oi := { dst := some 5, op := Op.assign (Operand.tmp 42), type := 4, pos := "ref.go:274", after := #[{ on := 4, ground := Ground.data }, { on := 5, ground := Ground.chain }, { on := 0, ground := Ground.phase }, { on := 1, ground := Ground.phase }, { on := 2, ground := Ground.phase }, { on := 3, ground := Ground.phase }, { on := 4, ground := Ground.phase }, { on := 5, ground := Ground.phase }], guard := none }) (v := .bool bq) rfl (by kernel_rfl) (by kernel_rfl) (by kernel_rfl) (fun _ _ _ h => h) (Or.inl ⟨by rfl, fun w hSw => ?_⟩) (by assumption) ?_
    · (try dsimp only at hSw)
      go_simp
    try simp only [Act.put, List.setIfInBounds_toArray, List.set_cons_zero, List.set_cons_succ]
    refine wpAnyH_done (by kernel_rfl) ?_ _
    refine NoPanic.normal ?_
    go_wp2
    have g0 := hy9.cell (j := 0) rfl
    have g1 := hy9.cell (j := 1) rfl
    have g2 := hy9.cell (j := 2) rfl
    have g3 := hy9.cell (j := 3) rfl
    have g4 := hy9.cell (j := 4) rfl
    have g5 := hy9.cell (j := 5) rfl
    have g6 := hy9.cell (j := 6) rfl
    refine bodyPost_ret (v := .tuple #[.agg #[.int .i64 ht, .int .i64 hv, .int .i64 ix, .int .i64 st, .string cf, .string dt, .slice Ab mb cb], .bool bq]) (by simp [results, Tryd.results24, go_sem, g0, g1, g2, g3, g4, g5, g6]) rfl ⟨.slice Ab mb cb, by rw [HBQ.out], ?_, by rw [hb]; exact hB9⟩
    rw [hb]
    exact HO9.out.down (by omega)
  · go_simp
    obtain ⟨k4, hk4e⟩ : ∃ W9, k3.alloc (.cells #[.int .i64 (ix + 1 + (q : Int)), .int .i64 et, .int .i64 kd, .string ed] 41) = W9 := ⟨_, rfl⟩
    have hbx : Below k3.heap.size k3 k4 := by rw [← hk4e]; exact below_new _ _
    have hyx : Rt k4 k3.heap.size 41 [.int .i64 (ix + 1 + (q : Int)), .int .i64 et, .int .i64 kd, .string ed] := by rw [← hk4e]; exact Rt.new _ _ _
    have hrsk4 := hrsk3.below hbx
    have hrek4 := hrek3.below hbx
    have hrzk4 := hrzk3.below hbx
    have hBk4 := hBk3.trans (hbx.mono (by have := hrzk3.lt; omega))
    have hzk4 := Nat.le_trans hzk3 hbx.size
    obtain ⟨nb, hnb⟩ : ∃ nb, k3.heap.size = nb := ⟨_, rfl⟩
    have hnl : nb < k4.heap.size := by have := hyx.lt; omega
    rw [hk4e, hnb]
    rw [hnb] at hyx
    have HEk4 := Lib.hid (HE.out.below hbx)
    clear hk4e
    clear hHeld
    have hHeld : (fun W : World => Rt W b 38 [.int .i64 ht, .int .i64 hv, .int .i64 ix, .int .i64 st, .string cf, .string dt, .slice A n c] ∧ Rt W (b + 1) 41 [.int .i64 (ix + 1 + (q : Int)), .int .i64 et, .int .i64 kd, .string ed]) k4 := ⟨hrsk4, hrek4⟩
    refine hK.out _ _ (.inr hHeld) ?_
    clear hK K
    try simp only [Act.put, List.setIfInBounds_toArray, List.set_cons_zero, List.set_cons_succ]
    refine stM 4 rfl (fun K hK => ?_)
    refine wp_append_en _ _ rfl k4.heap.size N _ _ [] (L.take q) rfl (OwnEn.nil _ _) rfl (HEk4.out.take q (by have := HE.out.len; omega)) (by rw [List.length_take]; have := HE.out.len; show 0 + _ ≤ _; omega) (Nat.le_refl _) ?_
    intro va k5 hoa hba hga
    rw [List.nil_append] at hoa
    obtain ⟨Aa, ca, hva⟩ := hoa.slice
    obtain ⟨ma, hma⟩ : ∃ ma, (L.take q).length = ma := ⟨_, rfl⟩
    rw [hma] at hva
    subst hva
    have HMA := Lib.hid hma
    have hrsk5 := hrsk4.below hba
    have hrek5 := hrek4.below hba
    have hrzk5 := hrzk4.below hba
    have hBk5 := hBk4.trans (hba.mono (by have := hrzk4.lt; omega))
    have hzk5 := Nat.le_trans hzk4 hba.size
    clear hma hga
    have HOA := Lib.hid hoa
    replace hyx := hyx.below hba
    obtain ⟨BA, hBAe⟩ : ∃ BA, k4.heap.size = BA := ⟨_, rfl⟩
    rw [hBAe] at HOA
    have HMQ := Lib.hid (show ma = q by have h1 := HMA.out; have h2 := HE.out.len; rw [List.length_take] at h1; omega)
    have hBA : BA ≤ k5.heap.size := by rw [← hBAe]; exact hba.size
    have hbBA : b + 2 < BA := by rw [← hBAe]; exact hrzk4.lt
    clear hoa hba
    clear hHeld
    have hHeld : (fun W : World => Rt W b 38 [.int .i64 ht, .int .i64 hv, .int .i64 ix, .int .i64 st, .string cf, .string dt, .slice A n c] ∧ Rt W (b + 1) 41 [.int .i64 (ix + 1 + (q : Int)), .int .i64 et, .int .i64 kd, .string ed]) k5 := ⟨hrsk5, hrek5⟩
    refine hK.out _ _ (.inr hHeld) ?_
    clear hK K
    try simp only [Act.put, List.setIfInBounds_toArray, List.set_cons_zero, List.set_cons_succ]
    refine stM 7 rfl (fun K hK => ?_)
    refine wp_append_en _ _ rfl BA (fun j => j = nb) _ _ (L.take q) [(⟨ix + 1 + (q : Int), et, kd, ed⟩ : Ent)] rfl HOA.out rfl (en_one hyx rfl) (by rw [HMA.out]; show ma + 1 ≤ _; have := HMQ.out; omega) hBA ?_
    intro vb k6 hob hbb hgb
    obtain ⟨Ab, cb, hvb⟩ := hob.slice
    obtain ⟨mb, hmb⟩ : ∃ mb, (L.take q ++ [(⟨ix + 1 + (q : Int), et, kd, ed⟩ : Ent)]).length = mb := ⟨_, rfl⟩
    have hmq : mb = q + 1 := by rw [← hmb, List.length_append, HMA.out]; show ma + 1 = _; rw [HMQ.out]
    rw [hmb] at hvb
    subst hvb
    have hrs6 := hrsk5.under hbb (by omega)
    have hre6 := hrek5.under hbb (by omega)
    have hrz6 := hrzk5.under hbb (by omega)
    have hB6 := hBk5.trans (hbb.mono (by omega))
    have hbb6 : b + 2 < k6.heap.size := hrz6.lt
    have HOB := Lib.hid hob
    have HMQ2 := Lib.hid hmq
    clear hob hbb hgb hmb hmq
    clear hHeld
    have hHeld : (fun W : World => Rt W b 38 [.int .i64 ht, .int .i64 hv, .int .i64 ix, .int .i64 st, .string cf, .string dt, .slice A n c] ∧ Rt W (b + 1) 41 [.int .i64 (ix + 1 + (q : Int)), .int .i64 et, .int .i64 kd, .string ed]) k6 := ⟨hrs6, hre6⟩
    refine hK.out _ _ (.inr hHeld) ?_
    clear hK K
    try simp only [Act.put, List.setIfInBounds_toArray, List.set_cons_zero, List.set_cons_succ]
    refine tkL 8 (.pointer (some ⟨b, 6, none⟩)) rfl (fun w hSw => ?_) ?_
    · (try dsimp only at hSw)
      go_simp
    try simp only [Act.put, List.setIfInBounds_toArray, List.set_cons_zero, List.set_cons_succ]
    refine stM 9 rfl (fun K hK => ?_)
    have c6 := hrs6.cell (j := 6) rfl
    have f6 := hrs6.frz 6
    go_simp
    refine hK.out _ _ (.inl (by decide)) ?_
    clear hK K
    try simp only [Act.put, List.setIfInBounds_toArray, List.set_cons_zero, List.set_cons_succ]
    refine anyG_done (by kernel_rfl) ?_ _
    refine NoPanic.normal ?_
    have hrs7 := hrs6.set 6 (.slice Ab mb cb)
    have hrz7 := hrz6.other 6 (.slice Ab mb cb) (g' := b) (by omega)
    have hB7 := hB6.setCell (p := ⟨b, 6, none⟩) (Nat.le_refl b) (.slice Ab mb cb)
    have HO7 := Lib.hid (show OwnEn BA _ _ (k6.setCell ⟨b, 6, none⟩ (.slice Ab mb cb)) from ownsRow_set HOB.out (by show b < _; omega))
    obtain ⟨k7, hk7⟩ : ∃ k7, k6.setCell ⟨b, 6, none⟩ (.slice Ab mb cb) = k7 := ⟨_, rfl⟩
    rw [hk7] at hrs7 hrz7 hB7 HO7 ⊢
    simp only [List.set_cons_zero, List.set_cons_succ] at hrs7
    clear c6 f6 hrs6 hre6 hrz6 hB6 hk7 HOB hHeld
    obtain ⟨bq, hbq⟩ : ∃ bq, decide (q + 1 ≤ 200) = bq := ⟨_, rfl⟩
    have hb1 : decide ((mb : Int) ≤ 200) = bq := by rw [← hbq, decide_eq_decide, HMQ2.out]; omega
    have hb2 : decide (mb ≤ 200) = bq := by rw [← hbq, HMQ2.out]
    have HBQ := Lib.hid hbq
    clear hbq
    go_wp2_with fail
    replace hrs7 := hrs7.below (Below.refl _ k7).drew
    replace hrz7 := hrz7.below (Below.refl _ k7).drew
    replace hB7 := hB7.drew
    replace HO7 := Lib.hid (HO7.out.below (Below.refl _ k7).drew)
    refine wp_region_noPanic ?_
    refine wp_region_held_drew (S := fun W => Rt W b 38 [.int .i64 ht, .int .i64 hv, .int .i64 ix, .int .i64 st, .string cf, .string dt, .slice Ab mb cb]) (by kernel_rfl) ?_ (fun hHeld => ?_)
    · exact hrs7
    generalize k7.drew = k8 at *
    refine wpAnyH_take (i := 0) (oi := { dst := some 38, op := Op.load 38 (Operand.tmp 2), type := 38, pos := "ref.go:274", after := #[], guard := none }) (v := .agg #[.int .i64 ht, .int .i64 hv, .int .i64 ix, .int .i64 st, .string cf, .string dt, .slice Ab mb cb]) rfl (by kernel_rfl) (by kernel_rfl) (by kernel_rfl) (fun _ _ _ h => h) (Or.inl ⟨by rfl, fun w hSw => ?_⟩) (by assumption) ?_
    · (try dsimp only at hSw)
      have u0 := hSw.cell (j := 0) rfl
      have u1 := hSw.cell (j := 1) rfl
      have u2 := hSw.cell (j := 2) rfl
      have u3 := hSw.cell (j := 3) rfl
      have u4 := hSw.cell (j := 4) rfl
      have u5 := hSw.cell (j := 5) rfl
      have u6 := hSw.cell (j := 6) rfl
      go_simp
    try simp only [Act.put, List.setIfInBounds_toArray, List.set_cons_zero, List.set_cons_succ]
    refine wpAnyH_take (i := 1) (oi := { dst := some 39, op := Op.fieldAddr 38 (Operand.tmp 2) 2, type := 0, pos := "ref.go:274", after := #[], guard := none }) (v := .pointer (some ⟨b, 6, none⟩)) rfl (by kernel_rfl) (by kernel_rfl) (by kernel_rfl) (fun _ _ _ h => h) (Or.inl ⟨by rfl, fun w hSw => ?_⟩) (by assumption) ?_
    · (try dsimp only at hSw)
      go_simp
    try simp only [Act.put, List.setIfInBounds_toArray, List.set_cons_zero, List.set_cons_succ]
    refine wpAnyH_take (i := 2) (oi := { dst := some 40, op := Op.load 22 (Operand.tmp 39), type := 22, pos := "ref.go:274", after := #[{ on := 1, ground := Ground.data }], guard := none }) (v := .slice Ab mb cb) rfl (by kernel_rfl) (by kernel_rfl) (by kernel_rfl) (fun _ _ _ h => h) (Or.inl ⟨by rfl, fun w hSw => ?_⟩) (by assumption) ?_
    · (try dsimp only at hSw)
      have u0 := hSw.cell (j := 0) rfl
      have u1 := hSw.cell (j := 1) rfl
      have u2 := hSw.cell (j := 2) rfl
      have u3 := hSw.cell (j := 3) rfl
      have u4 := hSw.cell (j := 4) rfl
      have u5 := hSw.cell (j := 5) rfl
      have u6 := hSw.cell (j := 6) rfl
      go_simp
    try simp only [Act.put, List.setIfInBounds_toArray, List.set_cons_zero, List.set_cons_succ]
    refine wpAnyH_take (i := 3) (oi := { dst := some 41, op := Op.call { callee := Callee.builtin Builtin.len, args := #[Operand.tmp 40], argTypes := #[22] }, type := 3, pos := "ref.go:274", after := #[{ on := 2, ground := Ground.data }], guard := none }) (v := .int .i64 (mb : Int)) rfl (by kernel_rfl) (by kernel_rfl) (by kernel_rfl) (fun _ _ _ h => h) (Or.inl ⟨by rfl, fun w hSw => ?_⟩) (by assumption) ?_
    · (try dsimp only at hSw)
      go_simp
    try simp only [Act.put, List.setIfInBounds_toArray, List.set_cons_zero, List.set_cons_succ]
    refine wpAnyH_take (i := 4) (oi := { dst := some 42, op := Op.binOp BinOp.leq 3 (Operand.tmp 41) (Operand.const (Value.int IntKind.i64 200)) 3, type := 4, pos := "ref.go:274", after := #[{ on := 3, ground := Ground.data }, { on := 5, ground := Ground.gcOnly Departure.lateStores }], guard := none }) (v := .bool bq) rfl (by kernel_rfl) (by kernel_rfl) (by kernel_rfl) (fun _ _ _ h => h) (Or.inl ⟨by rfl, fun w hSw => ?_⟩) (by assumption) ?_
    · (try dsimp only at hSw)
      go_simp
    try simp only [Act.put, List.setIfInBounds_toArray, List.set_cons_zero, List.set_cons_succ]
    refine wpAnyH_ready (rs := [5]) (by kernel_rfl) (by simp) ?_
    refine AllReadyH.cons (o := { dst := none, op := Op.store 38 (Operand.tmp 4) (Operand.tmp 38), type := 0, pos := "ref.go:274", after := #[{ on := 0, ground := Ground.data }, { on := 0, ground := Ground.phase }, { on := 1, ground := Ground.textOnly Departure.lateStores }, { on := 2, ground := Ground.textOnly Departure.lateStores }, { on := 3, ground := Ground.textOnly Departure.lateStoresUnsure }, { on := 4, ground := Ground.textOnly Departure.lateStores }], guard := none }) rfl (fun K hK => ?_) AllReadyH.nil
    go_simp
    have d0 := hrz7.cell (j := 0) rfl
    have e0 := hrz7.frz 0
    have d1 := hrz7.cell (j := 1) rfl
    have e1 := hrz7.frz 1
    have d2 := hrz7.cell (j := 2) rfl
    have e2 := hrz7.frz 2
    have d3 := hrz7.cell (j := 3) rfl
    have e3 := hrz7.frz 3
    have d4 := hrz7.cell (j := 4) rfl
    have e4 := hrz7.frz 4
    have d5 := hrz7.cell (j := 5) rfl
    have e5 := hrz7.frz 5
    have d6 := hrz7.cell (j := 6) rfl
    have e6 := hrz7.frz 6
    go_simp
    obtain ⟨k9, hk9⟩ : ∃ k9, (((((((k8.setCell ⟨(b + 2), 0, none⟩ (.int .i64 ht)).setCell ⟨(b + 2), 1, none⟩ (.int .i64 hv)).setCell ⟨(b + 2), 2, none⟩ (.int .i64 ix)).setCell ⟨(b + 2), 3, none⟩ (.int .i64 st)).setCell ⟨(b + 2), 4, none⟩ (.string cf)).setCell ⟨(b + 2), 5, none⟩ (.string dt)).setCell ⟨(b + 2), 6, none⟩ (.slice Ab mb cb)) = k9 := ⟨_, rfl⟩
    have hy9 := (((((((hrz7.set 0 (.int .i64 ht)).set 1 (.int .i64 hv)).set 2 (.int .i64 ix)).set 3 (.int .i64 st)).set 4 (.string cf)).set 5 (.string dt)).set 6 (.slice Ab mb cb))
    have hB9 := (((((((hB7.setCell (p := ⟨(b + 2), 0, none⟩) (Nat.le_add_right b 2) (.int .i64 ht)).setCell (p := ⟨(b + 2), 1, none⟩) (Nat.le_add_right b 2) (.int .i64 hv)).setCell (p := ⟨(b + 2), 2, none⟩) (Nat.le_add_right b 2) (.int .i64 ix)).setCell (p := ⟨(b + 2), 3, none⟩) (Nat.le_add_right b 2) (.int .i64 st)).setCell (p := ⟨(b + 2), 4, none⟩) (Nat.le_add_right b 2) (.string cf)).setCell (p := ⟨(b + 2), 5, none⟩) (Nat.le_add_right b 2) (.string dt)).setCell (p := ⟨(b + 2), 6, none⟩) (Nat.le_add_right b 2) (.slice Ab mb cb))
    have HO9 := Lib.hid (show OwnEn BA (.slice Ab mb cb) _ (((((((k8.setCell ⟨(b + 2), 0, none⟩ (.int .i64 ht)).setCell ⟨(b + 2), 1, none⟩ (.int .i64 hv)).setCell ⟨(b + 2), 2, none⟩ (.int .i64 ix)).setCell ⟨(b + 2), 3, none⟩ (.int .i64 st)).setCell ⟨(b + 2), 4, none⟩ (.string cf)).setCell ⟨(b + 2), 5, none⟩ (.string dt)).setCell ⟨(b + 2), 6, none⟩ (.slice Ab mb cb)) from ownsRow_setb HO7.out hrz7 (by decide) _ _ _ _ _ _ _)
    have hrs9 := hrs7
    replace hrs9 := hrs9.other 0 (.int .i64 ht) (g' := b + 2) (by omega)
    replace hrs9 := hrs9.other 1 (.int .i64 hv) (g' := b + 2) (by omega)
    replace hrs9 := hrs9.other 2 (.int .i64 ix) (g' := b + 2) (by omega)
    replace hrs9 := hrs9.other 3 (.int .i64 st) (g' := b + 2) (by omega)
    replace hrs9 := hrs9.other 4 (.string cf) (g' := b + 2) (by omega)
    replace hrs9 := hrs9.other 5 (.string dt) (g' := b + 2) (by omega)
    replace hrs9 := hrs9.other 6 (.slice Ab mb cb) (g' := b + 2) (by omega)
    rw [hk9] at hy9 hB9 HO9 hrs9 ⊢
    simp only [List.set_cons_zero, List.set_cons_succ] at hy9
    clear hk9 d0 e0 d1 e1 d2 e2 d3 e3 d4 e4 d5 e5 d6 e6
    refine hK.out _ _ ?_ (fun hHeld => ?_)
    · exact hrs9
    clear hK K
    try simp only [Act.put, List.setIfInBounds_toArray, List.set_cons_zero, List.set_cons_succ]
    refine wpAnyH_take (i := 6) (oi := { dst := some 5, op := Op.assign (Operand.tmp 42), type := 4, pos := "ref.go:274", after := #[{ on := 4, ground := Ground.data }, { on := 5, ground := Ground.chain }, { on := 0, ground := Ground.phase }, { on := 1, ground := Ground.phase }, { on := 2, ground := Ground.phase }, { on := 3, ground := Ground.phase }, { on := 4, ground := Ground.phase }, { on := 5, ground := Ground.phase }], guard := none }) (v := .bool bq) rfl (by kernel_rfl) (by kernel_rfl) (by kernel_rfl) (fun _ _ _ h => h) (Or.inl ⟨by rfl, fun w hSw => ?_⟩) (by assumption) ?_
    · (try dsimp only at hSw)
      go_simp
    try simp only [Act.put, List.setIfInBounds_toArray, List.set_cons_zero, List.set_cons_succ]
    refine wpAnyH_done (by kernel_rfl) ?_ _
    refine NoPanic.normal ?_
    go_wp2
    have g0 := hy9.cell (j := 0) rfl
    have g1 := hy9.cell (j := 1) rfl
    have g2 := hy9.cell (j := 2) rfl
    have g3 := hy9.cell (j := 3) rfl
    have g4 := hy9.cell (j := 4) rfl
    have g5 := hy9.cell (j := 5) rfl
    have g6 := hy9.cell (j := 6) rfl
    refine bodyPost_ret (v := .tuple #[.agg #[.int .i64 ht, .int .i64 hv, .int .i64 ix, .int .i64 st, .string cf, .string dt, .slice Ab mb cb], .bool bq]) (by simp [results, Tryd.results24, go_sem, g0, g1, g2, g3, g4, g5, g6]) rfl ⟨.slice Ab mb cb, by rw [HBQ.out], ?_, by rw [hb]; exact hB9⟩
    rw [hb]
    exact HO9.out.down (by omega)
end Go.Proofs.YtbiecoifeeikpaaDoor
/-
  The reference's Write, plainly: what holds behind so many entries, and what comes of it.
  There are no conditions beyond those that each lemma names.
-/
namespace Go.Proofs.YtbiecoifeeikpaaDoor
open Go.RowKit
set_option maxRecDepth 100000

/-- behind j entries of l -/
def Wst (k : Kst) (l : List Ent) (j : Nat) (Lx : List Ent) : Prop :=
  (j = 0 → Lx = k.log) ∧ (0 < j → ∃ e t, l = e :: t ∧ fits11 k e.ix = true ∧ row11 e.ix (l.take j) = true ∧ Lx = k.log.take (e.ix - k.s.ix - 1).toNat ++ l.take j)
theorem Wst.zero (k : Kst) (l : List Ent) : Wst k l 0 k.log := ⟨fun _ => rfl, fun h => absurd h (by decide)⟩
theorem write_no {k : Kst} {l : List Ent} {e : Ent} {t : List Ent} (hl : l = e :: t) (h : fits11 k e.ix = false ∨ row11 e.ix l = false) : write11 k l = (1, k) := by
  subst hl
  unfold write11
  simp only
  rw [if_neg]
  rintro ⟨h1, h2⟩
  rcases h with h | h
  · rw [h1] at h; cases h
  · rw [h2] at h; cases h
theorem head_of {l : List Ent} {j : Nat} (h : j < l.length) : ∃ e t, l = e :: t := by
  cases l with
  | nil => exact absurd h (by simp)
  | cons e t => exact ⟨e, t, rfl⟩
theorem write_may {k : Kst} {l : List Ent} {j : Nat} (h : j < l.length) (hm : mayEnt10 l[j] = false) : write11 k l = (1, k) := by
  obtain ⟨e, t, hl⟩ := head_of h
  refine write_no hl (.inr ?_)
  cases hr : row11 e.ix l with
  | false => rfl
  | true => have := (row11_at l e.ix hr j h).1; rw [hm] at this; cases this
theorem write_row {k : Kst} {l : List Ent} {j : Nat} (h : j + 1 < l.length) (hm : l[j + 1].ix ≠ l[j].ix + 1) : write11 k l = (1, k) := by
  obtain ⟨e, t, hl⟩ := head_of h
  refine write_no hl (.inr ?_)
  cases hr : row11 e.ix l with
  | false => rfl
  | true =>
    have h1 := (row11_at l e.ix hr (j + 1) h).2
    have h2 := (row11_at l e.ix hr j (by omega)).2
    exact absurd (by rw [h1, h2]; omega) hm
theorem write_fit {k : Kst} {l : List Ent} (h : 0 < l.length) (hm : l[0].ix ≤ k.s.ix ∨ k.s.ix + (k.log.length : Int) + 1 < l[0].ix) : write11 k l = (1, k) := by
  obtain ⟨e, t, hl⟩ := head_of h
  refine write_no hl (.inl ?_)
  subst hl
  cases hf : fits11 k e.ix with
  | false => rfl
  | true =>
    have := fits11_is.1 hf
    simp only [List.getElem_cons_zero] at hm
    omega
theorem Wst.len {k : Kst} {l : List Ent} {j : Nat} {Lx : List Ent} (h : Wst k l j Lx) : Lx.length ≤ k.log.length + j := by
  by_cases h0 : j = 0
  · rw [h.1 h0]; omega
  · obtain ⟨e, t, _, _, _, he⟩ := h.2 (by omega)
    rw [he, List.length_append, List.length_take, List.length_take]; omega
theorem Wst.first {k : Kst} {l : List Ent} {Lx : List Ent} (h : Wst k l 0 Lx) (hl : 0 < l.length) (hm : mayEnt10 l[0] = true) (h1 : k.s.ix < l[0].ix) (h2 : l[0].ix ≤ k.s.ix + (k.log.length : Int) + 1) :
    ∃ q, q ≤ Lx.length ∧ l[0].ix = k.s.ix + 1 + (q : Int) ∧ Wst k l 1 (Lx.take q ++ [l[0]]) := by
  have hL := h.1 rfl
  subst hL
  refine ⟨(l[0].ix - k.s.ix - 1).toNat, by omega, by omega, fun h => absurd h (by decide), fun _ => ?_⟩
  cases l with
  | nil => exact absurd hl (by simp)
  | cons e t =>
    simp only [List.getElem_cons_zero] at hm h1 h2 ⊢
    refine ⟨e, t, rfl, fits11_is.2 ⟨h1, h2⟩, ?_, ?_⟩
    · simp [row11, hm]
    · simp
theorem Wst.next {k : Kst} {l : List Ent} {j : Nat} {Lx : List Ent} (h : Wst k l (j + 1) Lx) (hl : j + 1 < l.length) (hm : mayEnt10 l[j + 1] = true) (h1 : l[j + 1].ix = l[j].ix + 1) :
    l[j + 1].ix = k.s.ix + 1 + (Lx.length : Int) ∧ Wst k l (j + 1 + 1) (Lx.take Lx.length ++ [l[j + 1]]) := by
  obtain ⟨e, t, he, hf, hr, hL⟩ := h.2 (by omega)
  have hfi := fits11_is.1 hf
  have hjt : j < (l.take (j + 1)).length := by rw [List.length_take]; omega
  have hx := (row11_at _ e.ix hr j hjt).2
  rw [List.getElem_take] at hx
  have hlen : (Lx.length : Int) = e.ix - k.s.ix - 1 + (j + 1) := by
    rw [hL, List.length_append, List.length_take, List.length_take]; omega
  have hix : l[j + 1].ix = e.ix + ((l.take (j + 1)).length : Int) := by rw [h1, hx, List.length_take]; omega
  refine ⟨by rw [h1, hx]; omega, fun h => absurd h (by omega), fun _ => ⟨e, t, he, hf, ?_, ?_⟩⟩
  · rw [List.take_succ_eq_append_getElem hl, row11_snoc, hr, hm]
    simp [hix]
  · rw [List.take_length, hL, List.append_assoc, ← List.take_succ_eq_append_getElem hl]
theorem Wst.prev {k : Kst} {l : List Ent} {j : Nat} {Lx : List Ent} (h : Wst k l (j + 1) Lx) (hl : j < l.length) : mayEnt10 l[j] = true := by
  obtain ⟨e, t, he, hf, hr, hL⟩ := h.2 (by omega)
  have := (row11_at _ e.ix hr j (by rw [List.length_take]; omega)).1
  rwa [List.getElem_take] at this
theorem Wst.done {k : Kst} {l : List Ent} {Lx : List Ent} (h : Wst k l l.length Lx) : write11 k l = (if 200 < Lx.length ∧ 0 < l.length then (5, k) else (0, ⟨k.ht, k.hv, k.s, Lx⟩)) := by
  by_cases h0 : l.length = 0
  · have hl : l = [] := List.eq_nil_of_length_eq_zero h0
    subst hl
    rw [h.1 rfl, if_neg (by simp)]
    rfl
  · obtain ⟨e, t, he, hf, hr, hL⟩ := h.2 (by omega)
    have hfi := fits11_is.1 hf
    rw [List.take_length] at hr hL
    have hlen : (Lx.length : Int) = e.ix - k.s.ix - 1 + (l.length : Int) := by
      rw [hL, List.length_append, List.length_take]; omega
    have hll : (l.length : Int) = (t.length : Int) + 1 := by rw [he]; simp
    rw [he] at hr ⊢
    unfold write11
    simp only
    rw [if_pos ⟨hf, hr⟩]
    by_cases hg : 200 < Lx.length
    · rw [if_pos (by omega), if_pos ⟨hg, by simp⟩]
    · rw [if_neg (by omega), if_neg (fun h => hg h.1)]
      unfold put11
      rw [hL, he]
theorem write_err {k : Kst} {l : List Ent} (h : write11 k l = (1, k)) : (write11 k l).1 = 1 ∧ (write11 k l).2 = k := by rw [h]; exact ⟨rfl, rfl⟩
end Go.Proofs.YtbiecoifeeikpaaDoor
