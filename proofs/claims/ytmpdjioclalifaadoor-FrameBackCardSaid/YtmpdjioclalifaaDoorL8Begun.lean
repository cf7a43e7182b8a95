/-
  The beginning of stage 8's statements: one frame is sealed, opened, cut off, told in a row.
  Package crc's table lies as it was laid.
-/
import Derived.Test.YtmpdjioclalifaaDoorFrAll
import Derived.Test.YtmpdjioclalifaaDoorWConv
import Derived.Lib.SlBytesConst
set_option linter.unusedSimpArgs false
set_option linter.unusedVariables false
namespace Go.Proofs.YtmpdjioclalifaaDoor
open Go.RowKit
set_option maxRecDepth 100000

/-- the bytes of a literal, in their row that bears the run-time's mark -/
theorem byt_lit2 (w : World) (t : TypeId) (a b : Int) (x y : UInt8) (p : Nat × Nat) (ha : a = (x.toNat : Int)) (hb : b = (y.toNat : Int)) : Byt (w.alloc (.cells #[.int .u8 a, .int .u8 b] t p)) (w.heap.size + 1) (.slice (some ⟨w.heap.size, 0, none⟩) 2 2) [x, y] := by
  refine ⟨_, 2, rfl, Nat.le_refl _, fun _ => ⟨w.heap.size, 0, rfl, Nat.lt_succ_self _, fun j hj => ?_⟩⟩
  have hh : (w.alloc (.cells #[.int .u8 a, .int .u8 b] t p)).heap[w.heap.size]? = some (.cells #[.int .u8 a, .int .u8 b] t p) := heap_alloc_new _ _
  unfold World.cell?
  rw [hh, ha, hb]
  rcases (show j = 0 ∨ j = 1 by simp at hj; omega) with rfl | rfl <;> rfl
theorem fopen_own (v : Value) (B : Nat) (l : List UInt8) (r : Nat × List UInt8 × Nat × Nat) (w : World) (h : OwnB B v l w) (hl : l.length ≤ 1000000) (hT : Tbl w) (hr : openB l = r) :
    Calls Tryd.prog 13 #[v] w (GotO r w) := by
  have hb := Byt.of_own h
  obtain ⟨A, c, hv⟩ := own_slice h
  subst hv
  exact fopen_is _ _ _ _ l r w hb (Nat.le_refl _) hl hT hr
set_option maxHeartbeats 1000000 in
theorem begun8_any (w : World) (hT : Tbl w) : Calls Tryd.prog 9 #[] w fun e w' => e = .returned (.bool true) ∧ Below w.heap.size w w' := by
  have HT := Lib.hid hT; clear hT
  have hs8 : (sealB 7 [97, 98]).length = 8 := by decide
  have h1 := openB_seal 7 [97, 98] [] (by decide) (by decide) (by decide)
  rw [List.append_nil, hs8] at h1
  have h2 := openB_cut 7 [97, 98] 3 (by decide) (by decide) (by decide) (by decide)
  have h3 : AllR (sealB 7 [97, 98] ++ [0]) [(7, [97, 98])] 8 := by
    have h4 := openB_seal 7 [97, 98] [0] (by decide) (by decide) (by decide)
    rw [hs8] at h4
    refine AllR.cons _ 7 _ 8 [] 0 h4 (AllR.nil _ ?_)
    rw [← hs8, List.drop_left]; decide
  obtain ⟨s, hs⟩ : ∃ s, sealB 7 [97, 98] = s := ⟨_, rfl⟩
  rw [hs] at hs8 h1 h2 h3
  have HS := Lib.hid hs; have HS8 := Lib.hid hs8; have H1 := Lib.hid h1; have H2 := Lib.hid h2; have H3 := Lib.hid h3
  clear hs hs8 h1 h2 h3
  have hb : Below w.heap.size w w := Below.refl _ _
  go_enter Tryd.func9, Tryd.ntmps9
  have kc := fun (w : World) (C : Array Value) (n c : Nat) => Lib.run_convert_bytes_const (P := Tryd.prog) w 22 5 C n c Tryd.underlying22 Tryd.underlying5
  go_wp2_with fail
  have hbl := byt_lit2 w 5 97 98 97 98 (2, 3) rfl rfl
  have hbw : Below w.heap.size w (w.alloc (Obj.cells #[.int .u8 97, .int .u8 98] 5 (2, 3))) := below_new w _
  refine (fseal_is 7 _ _ [97, 98] s _ hbl (by simp) (by decide) (tbl_keep HT.out hbw) HS.out).mono ?_
  rintro e w1 ⟨v1, rfl, ho1, hb1⟩
  have hb1 : Below w.heap.size w w1 := hbw.trans (hb1.mono hbw.size)
  replace ho1 : OwnB w.heap.size v1 s w1 := ho1.down (by simp)
  obtain ⟨g1, c1, rfl, hg1, _⟩ := ho1.at_ (by rw [HS8.out]; decide)
  have hby1 := Byt.of_own ho1
  rw [HS8.out] at ho1 hby1 ⊢
  have HO1 := Lib.hid ho1; have HBY1 := Lib.hid hby1
  clear hb hbw hbl ho1 hby1
  go_wp2_with fail
  refine (fopen_is _ 8 c1 _ s _ _ HBY1.out (Nat.le_refl _) (by rw [HS8.out]; decide) (tbl_keep HT.out hb1) H1.out).mono ?_
  rintro e w2 ⟨v2, rfl, ho2, hb2⟩
  have HO1b := Lib.hid (HO1.out.below hb2)
  have hb2 : Below w.heap.size w w2 := hb1.trans (hb2.mono hb1.size)
  have HV := Lib.hid (Byt.of_own ho2)
  have HO1c := HO1b
  clear HO1 HBY1 ho2 hb1 HO1b
  have hby2 := Byt.of_own HO1c.out
  have hby3 := byt_take2 (n := 3) (A := some ⟨g1, 0, none⟩) (c := c1) (l := s) (by rw [HS8.out]; exact hby2) (by rw [HS8.out]; decide)
  have HBY2 := Lib.hid hby2; have HBY3 := Lib.hid hby3
  have hc3 : 8 ≤ c1 := by have := (byt_len hby2).2; rw [HS8.out] at this; exact this
  clear hby2 hby3
  go_wp2_with fail
  refine (fopen_is _ 3 c1 _ (s.take 3) _ _ HBY3.out (Nat.le_refl _) (by simp; omega) (tbl_keep HT.out hb2) H2.out).mono ?_
  rintro e w3 ⟨v3, rfl, _, hb3⟩
  have HBY4 := Lib.hid (HBY2.out.below hb3 (Nat.le_refl _))
  have HV3 := Lib.hid (HV.out.below hb3 (Nat.le_refl _))
  have hz3 := hb3.size
  have hb3 : Below w.heap.size w w3 := hb2.trans (hb3.mono hb2.size)
  clear HBY2 HBY3 HO1c HV
  have hT3 := tbl_keep HT.out hb3
  go_wp2_with (at_builtin; refine wpList_append_byt_at rfl _ _ rfl w3.heap.size _ _ _ _ _ rfl (ownB_nil w3.heap.size _) rfl HBY4.out ?x1 (Nat.le_refl _) ?_)
  case x1 => rw [HS8.out]; simp
  intro v4 w4 hown4 hb4 _
  have h0 := byt_new1 w4 5 0 0 rfl
  have hown5 := hown4.alloc (Obj.cells #[.int .u8 0] 5)
  have hb5 : Below w3.heap.size w3 (w4.alloc (Obj.cells #[.int .u8 0] 5)) := hb4.alloc hb4.size _
  clear hown4 hb4
  go_wp2_with (at_builtin; refine wpList_append_byt_at rfl _ _ rfl w3.heap.size _ _ _ _ _ rfl hown5 rfl h0 ?x2 hb5.size ?_)
  case x2 => simp [HS8.out]
  intro v6 w6 hown6 hb6 _
  have hb6 : Below w3.heap.size w3 w6 := hb5.trans hb6
  have HV6 := Lib.hid (HV3.out.below hb6 hz3)
  have hT6 := tbl_keep hT3 hb6
  have hown6' : OwnB w3.heap.size v6 (s ++ [0]) w6 := by simpa using hown6
  have hzw : w2.heap.size ≤ w6.heap.size := Nat.le_trans hz3 hb6.size
  have hb6 : Below w.heap.size w w6 := hb3.trans (hb6.mono hb3.size)
  clear hown5 h0 hb5 hown6 HV3 hT3 HBY4
  have HO6 := Lib.hid hown6'; have HT6 := Lib.hid hT6; clear hown6' hT6
  go_wp2_with fail
  refine (fall_own _ _ (s ++ [0]) _ HO6.out (by simp [HS8.out]) HT6.out).mono ?_
  rintro e w7 ⟨fs, u, v7, har, rfl, hown7, hb7⟩
  obtain ⟨rfl, rfl⟩ := har.two H3.out
  obtain ⟨A7, c7, rfl⟩ := hown7.slice
  have hkv := conv_byt (HV6.out.below hb7 hzw) rfl
  have hb7 : Below w.heap.size w w7 := hb6.trans (hb7.mono hb6.size)
  clear hb6 HO6 hown7 har
  go_wp2
  go_ret
  exact ⟨rfl, hb7⟩
end Go.Proofs.YtmpdjioclalifaaDoor
