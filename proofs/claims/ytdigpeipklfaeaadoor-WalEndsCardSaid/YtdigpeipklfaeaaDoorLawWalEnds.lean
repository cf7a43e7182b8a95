/-
  The limits of records and snapshots (WalEnds).
  There are no conditions.
-/
import Derived.Test.YtdigpeipklfaeaaDoorRows
import Derived.Test.YtdigpeipklfaeaaDoorCards
import Derived.Test.YtdigpeipklfaeaaDoorTie
import Derived.Test.YtdigpeipklfaeaaDoorBun1
import Derived.Test.YtdigpeipklfaeaaDoorBun4
import Derived.Test.YtdigpeipklfaeaaDoorBun9
import Derived.Test.YtdigpeipklfaeaaDoorBun2
import Derived.SevenTiedAt
import Derived.WalkKit
import Derived.ProofKit
import Derived.OpenShut
import Derived.ShutString
namespace Go.Proofs.YtdigpeipklfaeaaDoor.walEnds
open Go.ChangeShapes Go.WideShapes Go.ChangeAt Go.RowKit
open Go.ChangeMaps (open_string shut_string)
set_option linter.unusedVariables false

theorem own : ownKnob Tryd.prog.godebug = none := by kernel_rfl
/-- at least so much, and at most 2^40 -/
def nm10 (n l : Int) : Bool := decide (l ≤ n) && decide (n ≤ 1099511627776)
theorem num10_any (n l : Int) (w : World) : Calls Tryd.prog 30 #[.int .i64 n, .int .i64 l] w (Bl (nm10 n l) w) := by
  go_enter Tryd.func30, Tryd.ntmps30
  obtain ⟨b, hb⟩ : ∃ b, nm10 n l = b := ⟨_, rfl⟩
  rw [hb]
  unfold nm10 at hb
  go_wp2_with fail
  all_goals
    go_ret
    exact ⟨by subst hb; simp; try omega, Below.refl _ _⟩
theorem ent10_num (a b : Int) (s : ByteArray) : may10 ⟨false, 0, 0, ⟨a, b, 2, s⟩⟩ = (nm10 a 1 && (nm10 b 1 && decide (s.size ≤ 2500))) := by
  unfold may10 mayEnt10 nm10; simp [Bool.and_assoc]
theorem hard10_num (a b : Int) : may10 ⟨true, a, b, ⟨0, 0, 0, ⟨#[]⟩⟩⟩ = (nm10 a 0 && (decide (0 ≤ b) && decide (b ≤ 7))) := by
  have h : eqEnt10 ⟨0, 0, 0, ⟨#[]⟩⟩ noEnt = true := by decide
  unfold may10 mayHard10 nm10; simp [Bool.and_assoc, h]
theorem snp10_num (a b : Int) : (0 < (snapB10 ⟨a, b, ⟨#[]⟩, ⟨#[]⟩⟩).length) = ((nm10 a 0 && nm10 b 0) = true) := by
  have e : maySnp10 ⟨a, b, ⟨#[]⟩, ⟨#[]⟩⟩ = (nm10 a 0 && nm10 b 0) := by
    unfold maySnp10 nm10
    have h1 : (⟨#[]⟩ : ByteArray).size = 0 := rfl
    simp [Bool.and_assoc, h1]
  rw [← e]
  by_cases h : maySnp10 ⟨a, b, ⟨#[]⟩, ⟨#[]⟩⟩ = true
  · have := (snapB10_len h).1
    simp only [h, eq_iff_iff, iff_true]; omega
  · have h' : maySnp10 ⟨a, b, ⟨#[]⟩, ⟨#[]⟩⟩ = false := by simpa using h
    unfold snapB10; simp [h']

set_option maxRecDepth 100000 in
set_option maxHeartbeats 8000000 in
theorem walk (w : World) (a0 : Int) (w0 : (Lit.int .i64 a0).wf = true) (a1 : Int) (w1 : (Lit.int .i64 a1).wf = true) (a2 : Int) (w2 : (Lit.int .i64 a2).wf = true) (a3 : Int) (w3 : (Lit.int .i64 a3).wf = true) (hT : Tbl w) :
    Calls Tryd.prog 8 #[.int .i64 a0, .int .i64 a1, .int .i64 a2, .int .i64 a3] w fun e w' => e = .returned (.bool true) ∧ Below w.heap.size w w' := by
  have HW0 := Lib.hid w0; have HW1 := Lib.hid w1; have HW2 := Lib.hid w2; have HW3 := Lib.hid w3
  clear w0 w1 w2 w3
  have hTT := fun (k : World) (h : Below w.heap.size w k) => tbl_keep hT h
  have HT := Lib.hid hT; clear hT
  go_enter Tryd.func8, Tryd.ntmps8
  go_wp2_with fail
  refine (begun10_any w HT.out).mono ?_
  rintro e w1 ⟨rfl, hb1⟩
  have HT1 := Lib.hid (tbl_keep HT.out hb1)
  have HB1 := Lib.hid hb1
  clear HT hb1
  go_wp2_with fail
  · go_ret
    exact ⟨rfl, HB1.out⟩
  · obtain ⟨n, rfl⟩ : ∃ n : Nat, a3 = (n : Int) := ⟨a3.toNat, by omega⟩
    have hmk := make_zer10 n (by omega) w1
    rw [hmk]
    have hcv : (convert 30 9 (.slice (some ⟨w1.heap.size, 0, none⟩) n n)).run Tryd.prog (w1.alloc (.cells (madeCells #[.int .u8 0] n) 5)) = .ok (.string (zerS n)) (w1.alloc (.cells (madeCells #[.int .u8 0] n) 5)) := conv_byt (Byt.of_own (own_zer10 n (by omega) w1)) rfl
    have hzs := zerS_size n
    obtain ⟨dx, hdx⟩ : ∃ dx, zerS n = dx := ⟨_, rfl⟩
    rw [hdx] at hzs hcv
    clear hdx hmk
    have hb2 := HB1.out.trans ((below_new w1 (.cells (madeCells #[.int .u8 0] n) 5)).mono HB1.out.size)
    obtain ⟨W2, hW2⟩ : ∃ W2, w1.alloc (.cells (madeCells #[.int .u8 0] n) 5) = W2 := ⟨_, rfl⟩
    rw [hW2] at hcv hb2 ⊢
    have HB2 := Lib.hid hb2
    clear hW2 hb2
    go_wp2_with fail
    have r1 := Rt.new W2 32 [.bool false, .int .i64 0, .int .i64 0, .int .i64 a0, .int .i64 a1, .int .i64 2, .string dx]
    have d1 := below_new W2 (.cells #[.bool false, .int .i64 0, .int .i64 0, .int .i64 a0, .int .i64 a1, .int .i64 2, .string dx] 32)
    obtain ⟨X1, hX1⟩ : ∃ X1, W2.alloc (.cells #[.bool false, .int .i64 0, .int .i64 0, .int .i64 a0, .int .i64 a1, .int .i64 2, .string dx] 32) = X1 := ⟨_, rfl⟩
    have s1 : X1.heap.size = W2.heap.size + 1 := by rw [← hX1]; simp
    replace r1 : Rt X1 W2.heap.size 32 [.bool false, .int .i64 0, .int .i64 0, .int .i64 a0, .int .i64 a1, .int .i64 2, .string dx] := by rw [← hX1]; exact r1
    rw [hX1] at d1 ⊢
    have r2 := Rt.new_at X1 (W2.heap.size + 1) 32 [.bool true, .int .i64 a1, .int .i64 a2, .int .i64 0, .int .i64 0, .int .i64 0, .string ⟨#[]⟩] s1
    have d2 := below_new X1 (.cells #[.bool true, .int .i64 a1, .int .i64 a2, .int .i64 0, .int .i64 0, .int .i64 0, .string ⟨#[]⟩] 32)
    obtain ⟨X2, hX2⟩ : ∃ X2, X1.alloc (.cells #[.bool true, .int .i64 a1, .int .i64 a2, .int .i64 0, .int .i64 0, .int .i64 0, .string ⟨#[]⟩] 32) = X2 := ⟨_, rfl⟩
    have s2 : X2.heap.size = W2.heap.size + 1 + 1 := by rw [← hX2, ← s1]; simp
    replace r2 : Rt X2 (W2.heap.size + 1) 32 [.bool true, .int .i64 a1, .int .i64 a2, .int .i64 0, .int .i64 0, .int .i64 0, .string ⟨#[]⟩] := by rw [← hX2]; exact r2
    rw [hX2] at d2 ⊢
    have r3 := Rt.new_at X2 (W2.heap.size + 1 + 1) 55 [.int .i64 a0, .int .i64 a1, .string ⟨#[]⟩, .string ⟨#[]⟩] s2
    have d3 := below_new X2 (.cells #[.int .i64 a0, .int .i64 a1, .string ⟨#[]⟩, .string ⟨#[]⟩] 55)
    obtain ⟨X3, hX3⟩ : ∃ X3, X2.alloc (.cells #[.int .i64 a0, .int .i64 a1, .string ⟨#[]⟩, .string ⟨#[]⟩] 55) = X3 := ⟨_, rfl⟩
    replace r3 : Rt X3 (W2.heap.size + 1 + 1) 55 [.int .i64 a0, .int .i64 a1, .string ⟨#[]⟩, .string ⟨#[]⟩] := by rw [← hX3]; exact r3
    rw [hX3] at d3 ⊢
    replace r2 := r2.below d3
    replace r1 := (r1.below d2).below d3
    have hb := HB2.out.trans ((d1.trans ((d2.mono d1.size).trans (d3.mono (Nat.le_trans d1.size d2.size)))).mono HB2.out.size)
    clear hX1 hX2 hX3 d1 d2 d3 s1 s2 HB2 HB1
    obtain ⟨b1, hb1⟩ : ∃ b, may10 ⟨false, 0, 0, ⟨a0, a1, 2, dx⟩⟩ = b := ⟨_, rfl⟩
    obtain ⟨b2, hb2⟩ : ∃ b, may10 ⟨true, a1, a2, ⟨0, 0, 0, ⟨#[]⟩⟩⟩ = b := ⟨_, rfl⟩
    obtain ⟨m, hm⟩ : ∃ m, snapB10 ⟨a0, a1, ⟨#[]⟩, ⟨#[]⟩⟩ = m := ⟨_, rfl⟩
    have E1 := Lib.hid hb1
    have E2 := Lib.hid hb2
    have E3 := Lib.hid hm
    clear hb1 hb2 hm hcv
    refine (wmay_v false 0 0 a0 a1 2 dx b1 _ (by omega) E1.out).mono ?_
    rintro e k4 ⟨rfl, h4⟩
    replace r1 := r1.below h4
    have R2 := Lib.hid (r2.below h4)
    have R3 := Lib.hid (r3.below h4)
    have HB := Lib.hid (hb.trans (h4.mono hb.size))
    clear h4 r1 r2 r3 hb
    go_wp2_with fail
    refine (num10_any a0 1 _).mono ?_
    rintro e kq ⟨rfl, hq⟩
    have HB := Lib.hid (HB.out.trans (hq.mono HB.out.size))
    have R2 := Lib.hid (R2.out.below hq)
    have R3 := Lib.hid (R3.out.below hq)
    clear hq
    rcases Bool.eq_false_or_eq_true (nm10 a0 1) with hp | hp <;> rw [hp]
    · go_wp2_with fail
      refine (num10_any a1 1 _).mono ?_
      rintro e kq ⟨rfl, hq⟩
      have HB := Lib.hid (HB.out.trans (hq.mono HB.out.size))
      have R2 := Lib.hid (R2.out.below hq)
      have R3 := Lib.hid (R3.out.below hq)
      clear hq
      rcases Bool.eq_false_or_eq_true (nm10 a1 1) with hp2 | hp2 <;> rw [hp2]
      · by_cases hz : n ≤ 2500
        · have hz2 : (n : Int) ≤ 2500 := by omega
          have hv : b1 = true := by rw [← E1.out, ent10_num]; rw [hp, hp2, hzs]; simp [hz]
          subst hv
          have x0 := R2.out.cell (j := 0) rfl
          have x1 := R2.out.cell (j := 1) rfl
          have x2 := R2.out.cell (j := 2) rfl
          have x3 := R2.out.cell (j := 3) rfl
          have x4 := R2.out.cell (j := 4) rfl
          have x5 := R2.out.cell (j := 5) rfl
          have x6 := R2.out.cell (j := 6) rfl
          go_wp2_with fail
          refine (wmay_v true a1 a2 0 0 0 ⟨#[]⟩ b2 _ (by decide) E2.out).mono ?_
          rintro e kq ⟨rfl, hq⟩
          clear x0 x1 x2 x3 x4 x5 x6
          have HB := Lib.hid (HB.out.trans (hq.mono HB.out.size))
          have R2 := Lib.hid (R2.out.below hq)
          have R3 := Lib.hid (R3.out.below hq)
          clear hq
          go_wp2_with fail
          refine (num10_any a1 0 _).mono ?_
          rintro e kq ⟨rfl, hq⟩
          have HB := Lib.hid (HB.out.trans (hq.mono HB.out.size))
          have R2 := Lib.hid (R2.out.below hq)
          have R3 := Lib.hid (R3.out.below hq)
          clear hq
          rcases Bool.eq_false_or_eq_true (nm10 a1 0) with hr | hr <;> rw [hr]
          · by_cases hy : 0 ≤ a2
            · by_cases hy7 : a2 ≤ 7
              · have hv : b2 = true := by rw [← E2.out, hard10_num]; rw [hr]; simp [hy, hy7]
                subst hv
                have y0 := R3.out.cell (j := 0) rfl
                have y1 := R3.out.cell (j := 1) rfl
                have y2 := R3.out.cell (j := 2) rfl
                have y3 := R3.out.cell (j := 3) rfl
                go_wp2_with fail
                refine (snap_v a0 a1 ⟨#[]⟩ ⟨#[]⟩ m _ (by decide) (by decide) (hTT _ HB.out) E3.out).mono ?_
                rintro e kq ⟨v, rfl, ho, hq⟩
                obtain ⟨Av, cv, rfl⟩ := byt_slice (Byt.of_own ho)
                clear ho y0 y1 y2 y3
                have HB := Lib.hid (HB.out.trans (hq.mono HB.out.size))
                have R2 := Lib.hid (R2.out.below hq)
                have R3 := Lib.hid (R3.out.below hq)
                clear hq
                go_wp2_with fail
                refine (num10_any a0 0 _).mono ?_
                rintro e kq ⟨rfl, hq⟩
                have HB := Lib.hid (HB.out.trans (hq.mono HB.out.size))
                have R2 := Lib.hid (R2.out.below hq)
                have R3 := Lib.hid (R3.out.below hq)
                clear hq
                rcases Bool.eq_false_or_eq_true (nm10 a0 0) with hs | hs <;> rw [hs]
                · go_wp2_with fail
                  refine (num10_any a1 0 _).mono ?_
                  rintro e kq ⟨rfl, hq⟩
                  have HB := Lib.hid (HB.out.trans (hq.mono HB.out.size))
                  have R2 := Lib.hid (R2.out.below hq)
                  have R3 := Lib.hid (R3.out.below hq)
                  clear hq
                  rcases Bool.eq_false_or_eq_true (nm10 a1 0) with hs2 | hs2 <;> rw [hs2]
                  · have hl : 0 < m.length := by rw [← E3.out, snp10_num]; simp [hs, hs2]
                    have hl2 : (0 : Int) < m.length := by omega
                    go_wp2_with fail
                    go_ret
                    first
                      | exact ⟨rfl, HB.out⟩
                      | exact ⟨congrArg (fun b => Ending.returned (.bool b)) (by simp; omega), HB.out⟩
                  · have hl : ¬ 0 < m.length := by rw [← E3.out, snp10_num]; simp [hs, hs2]
                    have hl2 : (0 : Int) ≥ m.length := by omega
                    go_wp2_with fail
                    go_ret
                    first
                      | exact ⟨rfl, HB.out⟩
                      | exact ⟨congrArg (fun b => Ending.returned (.bool b)) (by simp; omega), HB.out⟩
                · have hl : ¬ 0 < m.length := by rw [← E3.out, snp10_num]; simp [hs]
                  have hl2 : (0 : Int) ≥ m.length := by omega
                  go_wp2_with fail
                  go_ret
                  first
                    | exact ⟨rfl, HB.out⟩
                    | exact ⟨congrArg (fun b => Ending.returned (.bool b)) (by simp; omega), HB.out⟩
              · have hv : b2 = false := by rw [← E2.out, hard10_num]; rw [hr]; simp; omega
                subst hv
                have y0 := R3.out.cell (j := 0) rfl
                have y1 := R3.out.cell (j := 1) rfl
                have y2 := R3.out.cell (j := 2) rfl
                have y3 := R3.out.cell (j := 3) rfl
                go_wp2_with fail
                refine (snap_v a0 a1 ⟨#[]⟩ ⟨#[]⟩ m _ (by decide) (by decide) (hTT _ HB.out) E3.out).mono ?_
                rintro e kq ⟨v, rfl, ho, hq⟩
                obtain ⟨Av, cv, rfl⟩ := byt_slice (Byt.of_own ho)
                clear ho y0 y1 y2 y3
                have HB := Lib.hid (HB.out.trans (hq.mono HB.out.size))
                have R2 := Lib.hid (R2.out.below hq)
                have R3 := Lib.hid (R3.out.below hq)
                clear hq
                go_wp2_with fail
                refine (num10_any a0 0 _).mono ?_
                rintro e kq ⟨rfl, hq⟩
                have HB := Lib.hid (HB.out.trans (hq.mono HB.out.size))
                have R2 := Lib.hid (R2.out.below hq)
                have R3 := Lib.hid (R3.out.below hq)
                clear hq
                rcases Bool.eq_false_or_eq_true (nm10 a0 0) with hs | hs <;> rw [hs]
                · go_wp2_with fail
                  refine (num10_any a1 0 _).mono ?_
                  rintro e kq ⟨rfl, hq⟩
                  have HB := Lib.hid (HB.out.trans (hq.mono HB.out.size))
                  have R2 := Lib.hid (R2.out.below hq)
                  have R3 := Lib.hid (R3.out.below hq)
                  clear hq
                  rcases Bool.eq_false_or_eq_true (nm10 a1 0) with hs2 | hs2 <;> rw [hs2]
                  · have hl : 0 < m.length := by rw [← E3.out, snp10_num]; simp [hs, hs2]
                    have hl2 : (0 : Int) < m.length := by omega
                    go_wp2_with fail
                    go_ret
                    first
                      | exact ⟨rfl, HB.out⟩
                      | exact ⟨congrArg (fun b => Ending.returned (.bool b)) (by simp; omega), HB.out⟩
                  · have hl : ¬ 0 < m.length := by rw [← E3.out, snp10_num]; simp [hs, hs2]
                    have hl2 : (0 : Int) ≥ m.length := by omega
                    go_wp2_with fail
                    go_ret
                    first
                      | exact ⟨rfl, HB.out⟩
                      | exact ⟨congrArg (fun b => Ending.returned (.bool b)) (by simp; omega), HB.out⟩
                · have hl : ¬ 0 < m.length := by rw [← E3.out, snp10_num]; simp [hs]
                  have hl2 : (0 : Int) ≥ m.length := by omega
                  go_wp2_with fail
                  go_ret
                  first
                    | exact ⟨rfl, HB.out⟩
                    | exact ⟨congrArg (fun b => Ending.returned (.bool b)) (by simp; omega), HB.out⟩
            · have hv : b2 = false := by rw [← E2.out, hard10_num]; rw [hr]; simp; omega
              subst hv
              have y0 := R3.out.cell (j := 0) rfl
              have y1 := R3.out.cell (j := 1) rfl
              have y2 := R3.out.cell (j := 2) rfl
              have y3 := R3.out.cell (j := 3) rfl
              go_wp2_with fail
              refine (snap_v a0 a1 ⟨#[]⟩ ⟨#[]⟩ m _ (by decide) (by decide) (hTT _ HB.out) E3.out).mono ?_
              rintro e kq ⟨v, rfl, ho, hq⟩
              obtain ⟨Av, cv, rfl⟩ := byt_slice (Byt.of_own ho)
              clear ho y0 y1 y2 y3
              have HB := Lib.hid (HB.out.trans (hq.mono HB.out.size))
              have R2 := Lib.hid (R2.out.below hq)
              have R3 := Lib.hid (R3.out.below hq)
              clear hq
              go_wp2_with fail
              refine (num10_any a0 0 _).mono ?_
              rintro e kq ⟨rfl, hq⟩
              have HB := Lib.hid (HB.out.trans (hq.mono HB.out.size))
              have R2 := Lib.hid (R2.out.below hq)
              have R3 := Lib.hid (R3.out.below hq)
              clear hq
              rcases Bool.eq_false_or_eq_true (nm10 a0 0) with hs | hs <;> rw [hs]
              · go_wp2_with fail
                refine (num10_any a1 0 _).mono ?_
                rintro e kq ⟨rfl, hq⟩
                have HB := Lib.hid (HB.out.trans (hq.mono HB.out.size))
                have R2 := Lib.hid (R2.out.below hq)
                have R3 := Lib.hid (R3.out.below hq)
                clear hq
                rcases Bool.eq_false_or_eq_true (nm10 a1 0) with hs2 | hs2 <;> rw [hs2]
                · have hl : 0 < m.length := by rw [← E3.out, snp10_num]; simp [hs, hs2]
                  have hl2 : (0 : Int) < m.length := by omega
                  go_wp2_with fail
                  go_ret
                  first
                    | exact ⟨rfl, HB.out⟩
                    | exact ⟨congrArg (fun b => Ending.returned (.bool b)) (by simp; omega), HB.out⟩
                · have hl : ¬ 0 < m.length := by rw [← E3.out, snp10_num]; simp [hs, hs2]
                  have hl2 : (0 : Int) ≥ m.length := by omega
                  go_wp2_with fail
                  go_ret
                  first
                    | exact ⟨rfl, HB.out⟩
                    | exact ⟨congrArg (fun b => Ending.returned (.bool b)) (by simp; omega), HB.out⟩
              · have hl : ¬ 0 < m.length := by rw [← E3.out, snp10_num]; simp [hs]
                have hl2 : (0 : Int) ≥ m.length := by omega
                go_wp2_with fail
                go_ret
                first
                  | exact ⟨rfl, HB.out⟩
                  | exact ⟨congrArg (fun b => Ending.returned (.bool b)) (by simp; omega), HB.out⟩
          · have hv : b2 = false := by rw [← E2.out, hard10_num]; rw [hr]; simp
            subst hv
            have y0 := R3.out.cell (j := 0) rfl
            have y1 := R3.out.cell (j := 1) rfl
            have y2 := R3.out.cell (j := 2) rfl
            have y3 := R3.out.cell (j := 3) rfl
            go_wp2_with fail
            refine (snap_v a0 a1 ⟨#[]⟩ ⟨#[]⟩ m _ (by decide) (by decide) (hTT _ HB.out) E3.out).mono ?_
            rintro e kq ⟨v, rfl, ho, hq⟩
            obtain ⟨Av, cv, rfl⟩ := byt_slice (Byt.of_own ho)
            clear ho y0 y1 y2 y3
            have HB := Lib.hid (HB.out.trans (hq.mono HB.out.size))
            have R2 := Lib.hid (R2.out.below hq)
            have R3 := Lib.hid (R3.out.below hq)
            clear hq
            go_wp2_with fail
            refine (num10_any a0 0 _).mono ?_
            rintro e kq ⟨rfl, hq⟩
            have HB := Lib.hid (HB.out.trans (hq.mono HB.out.size))
            have R2 := Lib.hid (R2.out.below hq)
            have R3 := Lib.hid (R3.out.below hq)
            clear hq
            rcases Bool.eq_false_or_eq_true (nm10 a0 0) with hs | hs <;> rw [hs]
            · go_wp2_with fail
              refine (num10_any a1 0 _).mono ?_
              rintro e kq ⟨rfl, hq⟩
              have HB := Lib.hid (HB.out.trans (hq.mono HB.out.size))
              have R2 := Lib.hid (R2.out.below hq)
              have R3 := Lib.hid (R3.out.below hq)
              clear hq
              rcases Bool.eq_false_or_eq_true (nm10 a1 0) with hs2 | hs2 <;> rw [hs2]
              · have hl : 0 < m.length := by rw [← E3.out, snp10_num]; simp [hs, hs2]
                have hl2 : (0 : Int) < m.length := by omega
                go_wp2_with fail
                go_ret
                first
                  | exact ⟨rfl, HB.out⟩
                  | exact ⟨congrArg (fun b => Ending.returned (.bool b)) (by simp; omega), HB.out⟩
              · have hl : ¬ 0 < m.length := by rw [← E3.out, snp10_num]; simp [hs, hs2]
                have hl2 : (0 : Int) ≥ m.length := by omega
                go_wp2_with fail
                go_ret
                first
                  | exact ⟨rfl, HB.out⟩
                  | exact ⟨congrArg (fun b => Ending.returned (.bool b)) (by simp; omega), HB.out⟩
            · have hl : ¬ 0 < m.length := by rw [← E3.out, snp10_num]; simp [hs]
              have hl2 : (0 : Int) ≥ m.length := by omega
              go_wp2_with fail
              go_ret
              first
                | exact ⟨rfl, HB.out⟩
                | exact ⟨congrArg (fun b => Ending.returned (.bool b)) (by simp; omega), HB.out⟩
        · have hz2 : ¬ (n : Int) ≤ 2500 := by omega
          have hv : b1 = false := by rw [← E1.out, ent10_num]; rw [hp, hp2, hzs]; simp; omega
          subst hv
          have x0 := R2.out.cell (j := 0) rfl
          have x1 := R2.out.cell (j := 1) rfl
          have x2 := R2.out.cell (j := 2) rfl
          have x3 := R2.out.cell (j := 3) rfl
          have x4 := R2.out.cell (j := 4) rfl
          have x5 := R2.out.cell (j := 5) rfl
          have x6 := R2.out.cell (j := 6) rfl
          go_wp2_with fail
          refine (wmay_v true a1 a2 0 0 0 ⟨#[]⟩ b2 _ (by decide) E2.out).mono ?_
          rintro e kq ⟨rfl, hq⟩
          clear x0 x1 x2 x3 x4 x5 x6
          have HB := Lib.hid (HB.out.trans (hq.mono HB.out.size))
          have R2 := Lib.hid (R2.out.below hq)
          have R3 := Lib.hid (R3.out.below hq)
          clear hq
          go_wp2_with fail
          refine (num10_any a1 0 _).mono ?_
          rintro e kq ⟨rfl, hq⟩
          have HB := Lib.hid (HB.out.trans (hq.mono HB.out.size))
          have R2 := Lib.hid (R2.out.below hq)
          have R3 := Lib.hid (R3.out.below hq)
          clear hq
          rcases Bool.eq_false_or_eq_true (nm10 a1 0) with hr | hr <;> rw [hr]
          · by_cases hy : 0 ≤ a2
            · by_cases hy7 : a2 ≤ 7
              · have hv : b2 = true := by rw [← E2.out, hard10_num]; rw [hr]; simp [hy, hy7]
                subst hv
                have y0 := R3.out.cell (j := 0) rfl
                have y1 := R3.out.cell (j := 1) rfl
                have y2 := R3.out.cell (j := 2) rfl
                have y3 := R3.out.cell (j := 3) rfl
                go_wp2_with fail
                refine (snap_v a0 a1 ⟨#[]⟩ ⟨#[]⟩ m _ (by decide) (by decide) (hTT _ HB.out) E3.out).mono ?_
                rintro e kq ⟨v, rfl, ho, hq⟩
                obtain ⟨Av, cv, rfl⟩ := byt_slice (Byt.of_own ho)
                clear ho y0 y1 y2 y3
                have HB := Lib.hid (HB.out.trans (hq.mono HB.out.size))
                have R2 := Lib.hid (R2.out.below hq)
                have R3 := Lib.hid (R3.out.below hq)
                clear hq
                go_wp2_with fail
                refine (num10_any a0 0 _).mono ?_
                rintro e kq ⟨rfl, hq⟩
                have HB := Lib.hid (HB.out.trans (hq.mono HB.out.size))
                have R2 := Lib.hid (R2.out.below hq)
                have R3 := Lib.hid (R3.out.below hq)
                clear hq
                rcases Bool.eq_false_or_eq_true (nm10 a0 0) with hs | hs <;> rw [hs]
                · go_wp2_with fail
                  refine (num10_any a1 0 _).mono ?_
                  rintro e kq ⟨rfl, hq⟩
                  have HB := Lib.hid (HB.out.trans (hq.mono HB.out.size))
                  have R2 := Lib.hid (R2.out.below hq)
                  have R3 := Lib.hid (R3.out.below hq)
                  clear hq
                  rcases Bool.eq_false_or_eq_true (nm10 a1 0) with hs2 | hs2 <;> rw [hs2]
                  · have hl : 0 < m.length := by rw [← E3.out, snp10_num]; simp [hs, hs2]
                    have hl2 : (0 : Int) < m.length := by omega
                    go_wp2_with fail
                    go_ret
                    first
                      | exact ⟨rfl, HB.out⟩
                      | exact ⟨congrArg (fun b => Ending.returned (.bool b)) (by simp; omega), HB.out⟩
                  · have hl : ¬ 0 < m.length := by rw [← E3.out, snp10_num]; simp [hs, hs2]
                    have hl2 : (0 : Int) ≥ m.length := by omega
                    go_wp2_with fail
                    go_ret
                    first
                      | exact ⟨rfl, HB.out⟩
                      | exact ⟨congrArg (fun b => Ending.returned (.bool b)) (by simp; omega), HB.out⟩
                · have hl : ¬ 0 < m.length := by rw [← E3.out, snp10_num]; simp [hs]
                  have hl2 : (0 : Int) ≥ m.length := by omega
                  go_wp2_with fail
                  go_ret
                  first
                    | exact ⟨rfl, HB.out⟩
                    | exact ⟨congrArg (fun b => Ending.returned (.bool b)) (by simp; omega), HB.out⟩
              · have hv : b2 = false := by rw [← E2.out, hard10_num]; rw [hr]; simp; omega
                subst hv
                have y0 := R3.out.cell (j := 0) rfl
                have y1 := R3.out.cell (j := 1) rfl
                have y2 := R3.out.cell (j := 2) rfl
                have y3 := R3.out.cell (j := 3) rfl
                go_wp2_with fail
                refine (snap_v a0 a1 ⟨#[]⟩ ⟨#[]⟩ m _ (by decide) (by decide) (hTT _ HB.out) E3.out).mono ?_
                rintro e kq ⟨v, rfl, ho, hq⟩
                obtain ⟨Av, cv, rfl⟩ := byt_slice (Byt.of_own ho)
                clear ho y0 y1 y2 y3
                have HB := Lib.hid (HB.out.trans (hq.mono HB.out.size))
                have R2 := Lib.hid (R2.out.below hq)
                have R3 := Lib.hid (R3.out.below hq)
                clear hq
                go_wp2_with fail
                refine (num10_any a0 0 _).mono ?_
                rintro e kq ⟨rfl, hq⟩
                have HB := Lib.hid (HB.out.trans (hq.mono HB.out.size))
                have R2 := Lib.hid (R2.out.below hq)
                have R3 := Lib.hid (R3.out.below hq)
                clear hq
                rcases Bool.eq_false_or_eq_true (nm10 a0 0) with hs | hs <;> rw [hs]
                · go_wp2_with fail
                  refine (num10_any a1 0 _).mono ?_
                  rintro e kq ⟨rfl, hq⟩
                  have HB := Lib.hid (HB.out.trans (hq.mono HB.out.size))
                  have R2 := Lib.hid (R2.out.below hq)
                  have R3 := Lib.hid (R3.out.below hq)
                  clear hq
                  rcases Bool.eq_false_or_eq_true (nm10 a1 0) with hs2 | hs2 <;> rw [hs2]
                  · have hl : 0 < m.length := by rw [← E3.out, snp10_num]; simp [hs, hs2]
                    have hl2 : (0 : Int) < m.length := by omega
                    go_wp2_with fail
                    go_ret
                    first
                      | exact ⟨rfl, HB.out⟩
                      | exact ⟨congrArg (fun b => Ending.returned (.bool b)) (by simp; omega), HB.out⟩
                  · have hl : ¬ 0 < m.length := by rw [← E3.out, snp10_num]; simp [hs, hs2]
                    have hl2 : (0 : Int) ≥ m.length := by omega
                    go_wp2_with fail
                    go_ret
                    first
                      | exact ⟨rfl, HB.out⟩
                      | exact ⟨congrArg (fun b => Ending.returned (.bool b)) (by simp; omega), HB.out⟩
                · have hl : ¬ 0 < m.length := by rw [← E3.out, snp10_num]; simp [hs]
                  have hl2 : (0 : Int) ≥ m.length := by omega
                  go_wp2_with fail
                  go_ret
                  first
                    | exact ⟨rfl, HB.out⟩
                    | exact ⟨congrArg (fun b => Ending.returned (.bool b)) (by simp; omega), HB.out⟩
            · have hv : b2 = false := by rw [← E2.out, hard10_num]; rw [hr]; simp; omega
              subst hv
              have y0 := R3.out.cell (j := 0) rfl
              have y1 := R3.out.cell (j := 1) rfl
              have y2 := R3.out.cell (j := 2) rfl
              have y3 := R3.out.cell (j := 3) rfl
              go_wp2_with fail
              refine (snap_v a0 a1 ⟨#[]⟩ ⟨#[]⟩ m _ (by decide) (by decide) (hTT _ HB.out) E3.out).mono ?_
              rintro e kq ⟨v, rfl, ho, hq⟩
              obtain ⟨Av, cv, rfl⟩ := byt_slice (Byt.of_own ho)
              clear ho y0 y1 y2 y3
              have HB := Lib.hid (HB.out.trans (hq.mono HB.out.size))
              have R2 := Lib.hid (R2.out.below hq)
              have R3 := Lib.hid (R3.out.below hq)
              clear hq
              go_wp2_with fail
              refine (num10_any a0 0 _).mono ?_
              rintro e kq ⟨rfl, hq⟩
              have HB := Lib.hid (HB.out.trans (hq.mono HB.out.size))
              have R2 := Lib.hid (R2.out.below hq)
              have R3 := Lib.hid (R3.out.below hq)
              clear hq
              rcases Bool.eq_false_or_eq_true (nm10 a0 0) with hs | hs <;> rw [hs]
              · go_wp2_with fail
                refine (num10_any a1 0 _).mono ?_
                rintro e kq ⟨rfl, hq⟩
                have HB := Lib.hid (HB.out.trans (hq.mono HB.out.size))
                have R2 := Lib.hid (R2.out.below hq)
                have R3 := Lib.hid (R3.out.below hq)
                clear hq
                rcases Bool.eq_false_or_eq_true (nm10 a1 0) with hs2 | hs2 <;> rw [hs2]
                · have hl : 0 < m.length := by rw [← E3.out, snp10_num]; simp [hs, hs2]
                  have hl2 : (0 : Int) < m.length := by omega
                  go_wp2_with fail
                  go_ret
                  first
                    | exact ⟨rfl, HB.out⟩
                    | exact ⟨congrArg (fun b => Ending.returned (.bool b)) (by simp; omega), HB.out⟩
                · have hl : ¬ 0 < m.length := by rw [← E3.out, snp10_num]; simp [hs, hs2]
                  have hl2 : (0 : Int) ≥ m.length := by omega
                  go_wp2_with fail
                  go_ret
                  first
                    | exact ⟨rfl, HB.out⟩
                    | exact ⟨congrArg (fun b => Ending.returned (.bool b)) (by simp; omega), HB.out⟩
              · have hl : ¬ 0 < m.length := by rw [← E3.out, snp10_num]; simp [hs]
                have hl2 : (0 : Int) ≥ m.length := by omega
                go_wp2_with fail
                go_ret
                first
                  | exact ⟨rfl, HB.out⟩
                  | exact ⟨congrArg (fun b => Ending.returned (.bool b)) (by simp; omega), HB.out⟩
          · have hv : b2 = false := by rw [← E2.out, hard10_num]; rw [hr]; simp
            subst hv
            have y0 := R3.out.cell (j := 0) rfl
            have y1 := R3.out.cell (j := 1) rfl
            have y2 := R3.out.cell (j := 2) rfl
            have y3 := R3.out.cell (j := 3) rfl
            go_wp2_with fail
            refine (snap_v a0 a1 ⟨#[]⟩ ⟨#[]⟩ m _ (by decide) (by decide) (hTT _ HB.out) E3.out).mono ?_
            rintro e kq ⟨v, rfl, ho, hq⟩
            obtain ⟨Av, cv, rfl⟩ := byt_slice (Byt.of_own ho)
            clear ho y0 y1 y2 y3
            have HB := Lib.hid (HB.out.trans (hq.mono HB.out.size))
            have R2 := Lib.hid (R2.out.below hq)
            have R3 := Lib.hid (R3.out.below hq)
            clear hq
            go_wp2_with fail
            refine (num10_any a0 0 _).mono ?_
            rintro e kq ⟨rfl, hq⟩
            have HB := Lib.hid (HB.out.trans (hq.mono HB.out.size))
            have R2 := Lib.hid (R2.out.below hq)
            have R3 := Lib.hid (R3.out.below hq)
            clear hq
            rcases Bool.eq_false_or_eq_true (nm10 a0 0) with hs | hs <;> rw [hs]
            · go_wp2_with fail
              refine (num10_any a1 0 _).mono ?_
              rintro e kq ⟨rfl, hq⟩
              have HB := Lib.hid (HB.out.trans (hq.mono HB.out.size))
              have R2 := Lib.hid (R2.out.below hq)
              have R3 := Lib.hid (R3.out.below hq)
              clear hq
              rcases Bool.eq_false_or_eq_true (nm10 a1 0) with hs2 | hs2 <;> rw [hs2]
              · have hl : 0 < m.length := by rw [← E3.out, snp10_num]; simp [hs, hs2]
                have hl2 : (0 : Int) < m.length := by omega
                go_wp2_with fail
                go_ret
                first
                  | exact ⟨rfl, HB.out⟩
                  | exact ⟨congrArg (fun b => Ending.returned (.bool b)) (by simp; omega), HB.out⟩
              · have hl : ¬ 0 < m.length := by rw [← E3.out, snp10_num]; simp [hs, hs2]
                have hl2 : (0 : Int) ≥ m.length := by omega
                go_wp2_with fail
                go_ret
                first
                  | exact ⟨rfl, HB.out⟩
                  | exact ⟨congrArg (fun b => Ending.returned (.bool b)) (by simp; omega), HB.out⟩
            · have hl : ¬ 0 < m.length := by rw [← E3.out, snp10_num]; simp [hs]
              have hl2 : (0 : Int) ≥ m.length := by omega
              go_wp2_with fail
              go_ret
              first
                | exact ⟨rfl, HB.out⟩
                | exact ⟨congrArg (fun b => Ending.returned (.bool b)) (by simp; omega), HB.out⟩
      · have hv : b1 = false := by rw [← E1.out, ent10_num]; rw [hp, hp2]; simp
        subst hv
        have x0 := R2.out.cell (j := 0) rfl
        have x1 := R2.out.cell (j := 1) rfl
        have x2 := R2.out.cell (j := 2) rfl
        have x3 := R2.out.cell (j := 3) rfl
        have x4 := R2.out.cell (j := 4) rfl
        have x5 := R2.out.cell (j := 5) rfl
        have x6 := R2.out.cell (j := 6) rfl
        go_wp2_with fail
        refine (wmay_v true a1 a2 0 0 0 ⟨#[]⟩ b2 _ (by decide) E2.out).mono ?_
        rintro e kq ⟨rfl, hq⟩
        clear x0 x1 x2 x3 x4 x5 x6
        have HB := Lib.hid (HB.out.trans (hq.mono HB.out.size))
        have R2 := Lib.hid (R2.out.below hq)
        have R3 := Lib.hid (R3.out.below hq)
        clear hq
        go_wp2_with fail
        refine (num10_any a1 0 _).mono ?_
        rintro e kq ⟨rfl, hq⟩
        have HB := Lib.hid (HB.out.trans (hq.mono HB.out.size))
        have R2 := Lib.hid (R2.out.below hq)
        have R3 := Lib.hid (R3.out.below hq)
        clear hq
        rcases Bool.eq_false_or_eq_true (nm10 a1 0) with hr | hr <;> rw [hr]
        · by_cases hy : 0 ≤ a2
          · by_cases hy7 : a2 ≤ 7
            · have hv : b2 = true := by rw [← E2.out, hard10_num]; rw [hr]; simp [hy, hy7]
              subst hv
              have y0 := R3.out.cell (j := 0) rfl
              have y1 := R3.out.cell (j := 1) rfl
              have y2 := R3.out.cell (j := 2) rfl
              have y3 := R3.out.cell (j := 3) rfl
              go_wp2_with fail
              refine (snap_v a0 a1 ⟨#[]⟩ ⟨#[]⟩ m _ (by decide) (by decide) (hTT _ HB.out) E3.out).mono ?_
              rintro e kq ⟨v, rfl, ho, hq⟩
              obtain ⟨Av, cv, rfl⟩ := byt_slice (Byt.of_own ho)
              clear ho y0 y1 y2 y3
              have HB := Lib.hid (HB.out.trans (hq.mono HB.out.size))
              have R2 := Lib.hid (R2.out.below hq)
              have R3 := Lib.hid (R3.out.below hq)
              clear hq
              go_wp2_with fail
              refine (num10_any a0 0 _).mono ?_
              rintro e kq ⟨rfl, hq⟩
              have HB := Lib.hid (HB.out.trans (hq.mono HB.out.size))
              have R2 := Lib.hid (R2.out.below hq)
              have R3 := Lib.hid (R3.out.below hq)
              clear hq
              rcases Bool.eq_false_or_eq_true (nm10 a0 0) with hs | hs <;> rw [hs]
              · go_wp2_with fail
                refine (num10_any a1 0 _).mono ?_
                rintro e kq ⟨rfl, hq⟩
                have HB := Lib.hid (HB.out.trans (hq.mono HB.out.size))
                have R2 := Lib.hid (R2.out.below hq)
                have R3 := Lib.hid (R3.out.below hq)
                clear hq
                rcases Bool.eq_false_or_eq_true (nm10 a1 0) with hs2 | hs2 <;> rw [hs2]
                · have hl : 0 < m.length := by rw [← E3.out, snp10_num]; simp [hs, hs2]
                  have hl2 : (0 : Int) < m.length := by omega
                  go_wp2_with fail
                  go_ret
                  first
                    | exact ⟨rfl, HB.out⟩
                    | exact ⟨congrArg (fun b => Ending.returned (.bool b)) (by simp; omega), HB.out⟩
                · have hl : ¬ 0 < m.length := by rw [← E3.out, snp10_num]; simp [hs, hs2]
                  have hl2 : (0 : Int) ≥ m.length := by omega
                  go_wp2_with fail
                  go_ret
                  first
                    | exact ⟨rfl, HB.out⟩
                    | exact ⟨congrArg (fun b => Ending.returned (.bool b)) (by simp; omega), HB.out⟩
              · have hl : ¬ 0 < m.length := by rw [← E3.out, snp10_num]; simp [hs]
                have hl2 : (0 : Int) ≥ m.length := by omega
                go_wp2_with fail
                go_ret
                first
                  | exact ⟨rfl, HB.out⟩
                  | exact ⟨congrArg (fun b => Ending.returned (.bool b)) (by simp; omega), HB.out⟩
            · have hv : b2 = false := by rw [← E2.out, hard10_num]; rw [hr]; simp; omega
              subst hv
              have y0 := R3.out.cell (j := 0) rfl
              have y1 := R3.out.cell (j := 1) rfl
              have y2 := R3.out.cell (j := 2) rfl
              have y3 := R3.out.cell (j := 3) rfl
              go_wp2_with fail
              refine (snap_v a0 a1 ⟨#[]⟩ ⟨#[]⟩ m _ (by decide) (by decide) (hTT _ HB.out) E3.out).mono ?_
              rintro e kq ⟨v, rfl, ho, hq⟩
              obtain ⟨Av, cv, rfl⟩ := byt_slice (Byt.of_own ho)
              clear ho y0 y1 y2 y3
              have HB := Lib.hid (HB.out.trans (hq.mono HB.out.size))
              have R2 := Lib.hid (R2.out.below hq)
              have R3 := Lib.hid (R3.out.below hq)
              clear hq
              go_wp2_with fail
              refine (num10_any a0 0 _).mono ?_
              rintro e kq ⟨rfl, hq⟩
              have HB := Lib.hid (HB.out.trans (hq.mono HB.out.size))
              have R2 := Lib.hid (R2.out.below hq)
              have R3 := Lib.hid (R3.out.below hq)
              clear hq
              rcases Bool.eq_false_or_eq_true (nm10 a0 0) with hs | hs <;> rw [hs]
              · go_wp2_with fail
                refine (num10_any a1 0 _).mono ?_
                rintro e kq ⟨rfl, hq⟩
                have HB := Lib.hid (HB.out.trans (hq.mono HB.out.size))
                have R2 := Lib.hid (R2.out.below hq)
                have R3 := Lib.hid (R3.out.below hq)
                clear hq
                rcases Bool.eq_false_or_eq_true (nm10 a1 0) with hs2 | hs2 <;> rw [hs2]
                · have hl : 0 < m.length := by rw [← E3.out, snp10_num]; simp [hs, hs2]
                  have hl2 : (0 : Int) < m.length := by omega
                  go_wp2_with fail
                  go_ret
                  first
                    | exact ⟨rfl, HB.out⟩
                    | exact ⟨congrArg (fun b => Ending.returned (.bool b)) (by simp; omega), HB.out⟩
                · have hl : ¬ 0 < m.length := by rw [← E3.out, snp10_num]; simp [hs, hs2]
                  have hl2 : (0 : Int) ≥ m.length := by omega
                  go_wp2_with fail
                  go_ret
                  first
                    | exact ⟨rfl, HB.out⟩
                    | exact ⟨congrArg (fun b => Ending.returned (.bool b)) (by simp; omega), HB.out⟩
              · have hl : ¬ 0 < m.length := by rw [← E3.out, snp10_num]; simp [hs]
                have hl2 : (0 : Int) ≥ m.length := by omega
                go_wp2_with fail
                go_ret
                first
                  | exact ⟨rfl, HB.out⟩
                  | exact ⟨congrArg (fun b => Ending.returned (.bool b)) (by simp; omega), HB.out⟩
          · have hv : b2 = false := by rw [← E2.out, hard10_num]; rw [hr]; simp; omega
            subst hv
            have y0 := R3.out.cell (j := 0) rfl
            have y1 := R3.out.cell (j := 1) rfl
            have y2 := R3.out.cell (j := 2) rfl
            have y3 := R3.out.cell (j := 3) rfl
            go_wp2_with fail
            refine (snap_v a0 a1 ⟨#[]⟩ ⟨#[]⟩ m _ (by decide) (by decide) (hTT _ HB.out) E3.out).mono ?_
            rintro e kq ⟨v, rfl, ho, hq⟩
            obtain ⟨Av, cv, rfl⟩ := byt_slice (Byt.of_own ho)
            clear ho y0 y1 y2 y3
            have HB := Lib.hid (HB.out.trans (hq.mono HB.out.size))
            have R2 := Lib.hid (R2.out.below hq)
            have R3 := Lib.hid (R3.out.below hq)
            clear hq
            go_wp2_with fail
            refine (num10_any a0 0 _).mono ?_
            rintro e kq ⟨rfl, hq⟩
            have HB := Lib.hid (HB.out.trans (hq.mono HB.out.size))
            have R2 := Lib.hid (R2.out.below hq)
            have R3 := Lib.hid (R3.out.below hq)
            clear hq
            rcases Bool.eq_false_or_eq_true (nm10 a0 0) with hs | hs <;> rw [hs]
            · go_wp2_with fail
              refine (num10_any a1 0 _).mono ?_
              rintro e kq ⟨rfl, hq⟩
              have HB := Lib.hid (HB.out.trans (hq.mono HB.out.size))
              have R2 := Lib.hid (R2.out.below hq)
              have R3 := Lib.hid (R3.out.below hq)
              clear hq
              rcases Bool.eq_false_or_eq_true (nm10 a1 0) with hs2 | hs2 <;> rw [hs2]
              · have hl : 0 < m.length := by rw [← E3.out, snp10_num]; simp [hs, hs2]
                have hl2 : (0 : Int) < m.length := by omega
                go_wp2_with fail
                go_ret
                first
                  | exact ⟨rfl, HB.out⟩
                  | exact ⟨congrArg (fun b => Ending.returned (.bool b)) (by simp; omega), HB.out⟩
              · have hl : ¬ 0 < m.length := by rw [← E3.out, snp10_num]; simp [hs, hs2]
                have hl2 : (0 : Int) ≥ m.length := by omega
                go_wp2_with fail
                go_ret
                first
                  | exact ⟨rfl, HB.out⟩
                  | exact ⟨congrArg (fun b => Ending.returned (.bool b)) (by simp; omega), HB.out⟩
            · have hl : ¬ 0 < m.length := by rw [← E3.out, snp10_num]; simp [hs]
              have hl2 : (0 : Int) ≥ m.length := by omega
              go_wp2_with fail
              go_ret
              first
                | exact ⟨rfl, HB.out⟩
                | exact ⟨congrArg (fun b => Ending.returned (.bool b)) (by simp; omega), HB.out⟩
        · have hv : b2 = false := by rw [← E2.out, hard10_num]; rw [hr]; simp
          subst hv
          have y0 := R3.out.cell (j := 0) rfl
          have y1 := R3.out.cell (j := 1) rfl
          have y2 := R3.out.cell (j := 2) rfl
          have y3 := R3.out.cell (j := 3) rfl
          go_wp2_with fail
          refine (snap_v a0 a1 ⟨#[]⟩ ⟨#[]⟩ m _ (by decide) (by decide) (hTT _ HB.out) E3.out).mono ?_
          rintro e kq ⟨v, rfl, ho, hq⟩
          obtain ⟨Av, cv, rfl⟩ := byt_slice (Byt.of_own ho)
          clear ho y0 y1 y2 y3
          have HB := Lib.hid (HB.out.trans (hq.mono HB.out.size))
          have R2 := Lib.hid (R2.out.below hq)
          have R3 := Lib.hid (R3.out.below hq)
          clear hq
          go_wp2_with fail
          refine (num10_any a0 0 _).mono ?_
          rintro e kq ⟨rfl, hq⟩
          have HB := Lib.hid (HB.out.trans (hq.mono HB.out.size))
          have R2 := Lib.hid (R2.out.below hq)
          have R3 := Lib.hid (R3.out.below hq)
          clear hq
          rcases Bool.eq_false_or_eq_true (nm10 a0 0) with hs | hs <;> rw [hs]
          · go_wp2_with fail
            refine (num10_any a1 0 _).mono ?_
            rintro e kq ⟨rfl, hq⟩
            have HB := Lib.hid (HB.out.trans (hq.mono HB.out.size))
            have R2 := Lib.hid (R2.out.below hq)
            have R3 := Lib.hid (R3.out.below hq)
            clear hq
            rcases Bool.eq_false_or_eq_true (nm10 a1 0) with hs2 | hs2 <;> rw [hs2]
            · have hl : 0 < m.length := by rw [← E3.out, snp10_num]; simp [hs, hs2]
              have hl2 : (0 : Int) < m.length := by omega
              go_wp2_with fail
              go_ret
              first
                | exact ⟨rfl, HB.out⟩
                | exact ⟨congrArg (fun b => Ending.returned (.bool b)) (by simp; omega), HB.out⟩
            · have hl : ¬ 0 < m.length := by rw [← E3.out, snp10_num]; simp [hs, hs2]
              have hl2 : (0 : Int) ≥ m.length := by omega
              go_wp2_with fail
              go_ret
              first
                | exact ⟨rfl, HB.out⟩
                | exact ⟨congrArg (fun b => Ending.returned (.bool b)) (by simp; omega), HB.out⟩
          · have hl : ¬ 0 < m.length := by rw [← E3.out, snp10_num]; simp [hs]
            have hl2 : (0 : Int) ≥ m.length := by omega
            go_wp2_with fail
            go_ret
            first
              | exact ⟨rfl, HB.out⟩
              | exact ⟨congrArg (fun b => Ending.returned (.bool b)) (by simp; omega), HB.out⟩
    · have hv : b1 = false := by rw [← E1.out, ent10_num]; rw [hp]; simp
      subst hv
      have x0 := R2.out.cell (j := 0) rfl
      have x1 := R2.out.cell (j := 1) rfl
      have x2 := R2.out.cell (j := 2) rfl
      have x3 := R2.out.cell (j := 3) rfl
      have x4 := R2.out.cell (j := 4) rfl
      have x5 := R2.out.cell (j := 5) rfl
      have x6 := R2.out.cell (j := 6) rfl
      go_wp2_with fail
      refine (wmay_v true a1 a2 0 0 0 ⟨#[]⟩ b2 _ (by decide) E2.out).mono ?_
      rintro e kq ⟨rfl, hq⟩
      clear x0 x1 x2 x3 x4 x5 x6
      have HB := Lib.hid (HB.out.trans (hq.mono HB.out.size))
      have R2 := Lib.hid (R2.out.below hq)
      have R3 := Lib.hid (R3.out.below hq)
      clear hq
      go_wp2_with fail
      refine (num10_any a1 0 _).mono ?_
      rintro e kq ⟨rfl, hq⟩
      have HB := Lib.hid (HB.out.trans (hq.mono HB.out.size))
      have R2 := Lib.hid (R2.out.below hq)
      have R3 := Lib.hid (R3.out.below hq)
      clear hq
      rcases Bool.eq_false_or_eq_true (nm10 a1 0) with hr | hr <;> rw [hr]
      · by_cases hy : 0 ≤ a2
        · by_cases hy7 : a2 ≤ 7
          · have hv : b2 = true := by rw [← E2.out, hard10_num]; rw [hr]; simp [hy, hy7]
            subst hv
            have y0 := R3.out.cell (j := 0) rfl
            have y1 := R3.out.cell (j := 1) rfl
            have y2 := R3.out.cell (j := 2) rfl
            have y3 := R3.out.cell (j := 3) rfl
            go_wp2_with fail
            refine (snap_v a0 a1 ⟨#[]⟩ ⟨#[]⟩ m _ (by decide) (by decide) (hTT _ HB.out) E3.out).mono ?_
            rintro e kq ⟨v, rfl, ho, hq⟩
            obtain ⟨Av, cv, rfl⟩ := byt_slice (Byt.of_own ho)
            clear ho y0 y1 y2 y3
            have HB := Lib.hid (HB.out.trans (hq.mono HB.out.size))
            have R2 := Lib.hid (R2.out.below hq)
            have R3 := Lib.hid (R3.out.below hq)
            clear hq
            go_wp2_with fail
            refine (num10_any a0 0 _).mono ?_
            rintro e kq ⟨rfl, hq⟩
            have HB := Lib.hid (HB.out.trans (hq.mono HB.out.size))
            have R2 := Lib.hid (R2.out.below hq)
            have R3 := Lib.hid (R3.out.below hq)
            clear hq
            rcases Bool.eq_false_or_eq_true (nm10 a0 0) with hs | hs <;> rw [hs]
            · go_wp2_with fail
              refine (num10_any a1 0 _).mono ?_
              rintro e kq ⟨rfl, hq⟩
              have HB := Lib.hid (HB.out.trans (hq.mono HB.out.size))
              have R2 := Lib.hid (R2.out.below hq)
              have R3 := Lib.hid (R3.out.below hq)
              clear hq
              rcases Bool.eq_false_or_eq_true (nm10 a1 0) with hs2 | hs2 <;> rw [hs2]
              · have hl : 0 < m.length := by rw [← E3.out, snp10_num]; simp [hs, hs2]
                have hl2 : (0 : Int) < m.length := by omega
                go_wp2_with fail
                go_ret
                first
                  | exact ⟨rfl, HB.out⟩
                  | exact ⟨congrArg (fun b => Ending.returned (.bool b)) (by simp; omega), HB.out⟩
              · have hl : ¬ 0 < m.length := by rw [← E3.out, snp10_num]; simp [hs, hs2]
                have hl2 : (0 : Int) ≥ m.length := by omega
                go_wp2_with fail
                go_ret
                first
                  | exact ⟨rfl, HB.out⟩
                  | exact ⟨congrArg (fun b => Ending.returned (.bool b)) (by simp; omega), HB.out⟩
            · have hl : ¬ 0 < m.length := by rw [← E3.out, snp10_num]; simp [hs]
              have hl2 : (0 : Int) ≥ m.length := by omega
              go_wp2_with fail
              go_ret
              first
                | exact ⟨rfl, HB.out⟩
                | exact ⟨congrArg (fun b => Ending.returned (.bool b)) (by simp; omega), HB.out⟩
          · have hv : b2 = false := by rw [← E2.out, hard10_num]; rw [hr]; simp; omega
            subst hv
            have y0 := R3.out.cell (j := 0) rfl
            have y1 := R3.out.cell (j := 1) rfl
            have y2 := R3.out.cell (j := 2) rfl
            have y3 := R3.out.cell (j := 3) rfl
            go_wp2_with fail
            refine (snap_v a0 a1 ⟨#[]⟩ ⟨#[]⟩ m _ (by decide) (by decide) (hTT _ HB.out) E3.out).mono ?_
            rintro e kq ⟨v, rfl, ho, hq⟩
            obtain ⟨Av, cv, rfl⟩ := byt_slice (Byt.of_own ho)
            clear ho y0 y1 y2 y3
            have HB := Lib.hid (HB.out.trans (hq.mono HB.out.size))
            have R2 := Lib.hid (R2.out.below hq)
            have R3 := Lib.hid (R3.out.below hq)
            clear hq
            go_wp2_with fail
            refine (num10_any a0 0 _).mono ?_
            rintro e kq ⟨rfl, hq⟩
            have HB := Lib.hid (HB.out.trans (hq.mono HB.out.size))
            have R2 := Lib.hid (R2.out.below hq)
            have R3 := Lib.hid (R3.out.below hq)
            clear hq
            rcases Bool.eq_false_or_eq_true (nm10 a0 0) with hs | hs <;> rw [hs]
            · go_wp2_with fail
              refine (num10_any a1 0 _).mono ?_
              rintro e kq ⟨rfl, hq⟩
              have HB := Lib.hid (HB.out.trans (hq.mono HB.out.size))
              have R2 := Lib.hid (R2.out.below hq)
              have R3 := Lib.hid (R3.out.below hq)
              clear hq
              rcases Bool.eq_false_or_eq_true (nm10 a1 0) with hs2 | hs2 <;> rw [hs2]
              · have hl : 0 < m.length := by rw [← E3.out, snp10_num]; simp [hs, hs2]
                have hl2 : (0 : Int) < m.length := by omega
                go_wp2_with fail
                go_ret
                first
                  | exact ⟨rfl, HB.out⟩
                  | exact ⟨congrArg (fun b => Ending.returned (.bool b)) (by simp; omega), HB.out⟩
              · have hl : ¬ 0 < m.length := by rw [← E3.out, snp10_num]; simp [hs, hs2]
                have hl2 : (0 : Int) ≥ m.length := by omega
                go_wp2_with fail
                go_ret
                first
                  | exact ⟨rfl, HB.out⟩
                  | exact ⟨congrArg (fun b => Ending.returned (.bool b)) (by simp; omega), HB.out⟩
            · have hl : ¬ 0 < m.length := by rw [← E3.out, snp10_num]; simp [hs]
              have hl2 : (0 : Int) ≥ m.length := by omega
              go_wp2_with fail
              go_ret
              first
                | exact ⟨rfl, HB.out⟩
                | exact ⟨congrArg (fun b => Ending.returned (.bool b)) (by simp; omega), HB.out⟩
        · have hv : b2 = false := by rw [← E2.out, hard10_num]; rw [hr]; simp; omega
          subst hv
          have y0 := R3.out.cell (j := 0) rfl
          have y1 := R3.out.cell (j := 1) rfl
          have y2 := R3.out.cell (j := 2) rfl
          have y3 := R3.out.cell (j := 3) rfl
          go_wp2_with fail
          refine (snap_v a0 a1 ⟨#[]⟩ ⟨#[]⟩ m _ (by decide) (by decide) (hTT _ HB.out) E3.out).mono ?_
          rintro e kq ⟨v, rfl, ho, hq⟩
          obtain ⟨Av, cv, rfl⟩ := byt_slice (Byt.of_own ho)
          clear ho y0 y1 y2 y3
          have HB := Lib.hid (HB.out.trans (hq.mono HB.out.size))
          have R2 := Lib.hid (R2.out.below hq)
          have R3 := Lib.hid (R3.out.below hq)
          clear hq
          go_wp2_with fail
          refine (num10_any a0 0 _).mono ?_
          rintro e kq ⟨rfl, hq⟩
          have HB := Lib.hid (HB.out.trans (hq.mono HB.out.size))
          have R2 := Lib.hid (R2.out.below hq)
          have R3 := Lib.hid (R3.out.below hq)
          clear hq
          rcases Bool.eq_false_or_eq_true (nm10 a0 0) with hs | hs <;> rw [hs]
          · go_wp2_with fail
            refine (num10_any a1 0 _).mono ?_
            rintro e kq ⟨rfl, hq⟩
            have HB := Lib.hid (HB.out.trans (hq.mono HB.out.size))
            have R2 := Lib.hid (R2.out.below hq)
            have R3 := Lib.hid (R3.out.below hq)
            clear hq
            rcases Bool.eq_false_or_eq_true (nm10 a1 0) with hs2 | hs2 <;> rw [hs2]
            · have hl : 0 < m.length := by rw [← E3.out, snp10_num]; simp [hs, hs2]
              have hl2 : (0 : Int) < m.length := by omega
              go_wp2_with fail
              go_ret
              first
                | exact ⟨rfl, HB.out⟩
                | exact ⟨congrArg (fun b => Ending.returned (.bool b)) (by simp; omega), HB.out⟩
            · have hl : ¬ 0 < m.length := by rw [← E3.out, snp10_num]; simp [hs, hs2]
              have hl2 : (0 : Int) ≥ m.length := by omega
              go_wp2_with fail
              go_ret
              first
                | exact ⟨rfl, HB.out⟩
                | exact ⟨congrArg (fun b => Ending.returned (.bool b)) (by simp; omega), HB.out⟩
          · have hl : ¬ 0 < m.length := by rw [← E3.out, snp10_num]; simp [hs]
            have hl2 : (0 : Int) ≥ m.length := by omega
            go_wp2_with fail
            go_ret
            first
              | exact ⟨rfl, HB.out⟩
              | exact ⟨congrArg (fun b => Ending.returned (.bool b)) (by simp; omega), HB.out⟩
      · have hv : b2 = false := by rw [← E2.out, hard10_num]; rw [hr]; simp
        subst hv
        have y0 := R3.out.cell (j := 0) rfl
        have y1 := R3.out.cell (j := 1) rfl
        have y2 := R3.out.cell (j := 2) rfl
        have y3 := R3.out.cell (j := 3) rfl
        go_wp2_with fail
        refine (snap_v a0 a1 ⟨#[]⟩ ⟨#[]⟩ m _ (by decide) (by decide) (hTT _ HB.out) E3.out).mono ?_
        rintro e kq ⟨v, rfl, ho, hq⟩
        obtain ⟨Av, cv, rfl⟩ := byt_slice (Byt.of_own ho)
        clear ho y0 y1 y2 y3
        have HB := Lib.hid (HB.out.trans (hq.mono HB.out.size))
        have R2 := Lib.hid (R2.out.below hq)
        have R3 := Lib.hid (R3.out.below hq)
        clear hq
        go_wp2_with fail
        refine (num10_any a0 0 _).mono ?_
        rintro e kq ⟨rfl, hq⟩
        have HB := Lib.hid (HB.out.trans (hq.mono HB.out.size))
        have R2 := Lib.hid (R2.out.below hq)
        have R3 := Lib.hid (R3.out.below hq)
        clear hq
        rcases Bool.eq_false_or_eq_true (nm10 a0 0) with hs | hs <;> rw [hs]
        · go_wp2_with fail
          refine (num10_any a1 0 _).mono ?_
          rintro e kq ⟨rfl, hq⟩
          have HB := Lib.hid (HB.out.trans (hq.mono HB.out.size))
          have R2 := Lib.hid (R2.out.below hq)
          have R3 := Lib.hid (R3.out.below hq)
          clear hq
          rcases Bool.eq_false_or_eq_true (nm10 a1 0) with hs2 | hs2 <;> rw [hs2]
          · have hl : 0 < m.length := by rw [← E3.out, snp10_num]; simp [hs, hs2]
            have hl2 : (0 : Int) < m.length := by omega
            go_wp2_with fail
            go_ret
            first
              | exact ⟨rfl, HB.out⟩
              | exact ⟨congrArg (fun b => Ending.returned (.bool b)) (by simp; omega), HB.out⟩
          · have hl : ¬ 0 < m.length := by rw [← E3.out, snp10_num]; simp [hs, hs2]
            have hl2 : (0 : Int) ≥ m.length := by omega
            go_wp2_with fail
            go_ret
            first
              | exact ⟨rfl, HB.out⟩
              | exact ⟨congrArg (fun b => Ending.returned (.bool b)) (by simp; omega), HB.out⟩
        · have hl : ¬ 0 < m.length := by rw [← E3.out, snp10_num]; simp [hs]
          have hl2 : (0 : Int) ≥ m.length := by omega
          go_wp2_with fail
          go_ret
          first
            | exact ⟨rfl, HB.out⟩
            | exact ⟨congrArg (fun b => Ending.returned (.bool b)) (by simp; omega), HB.out⟩
  · go_ret
    exact ⟨rfl, HB1.out⟩

set_option maxRecDepth 100000 in
theorem lifted (os : Os) (started : os.Started) (H : Type) (enc : TypeId × Value → H) :
    ReturnsInHanded {} Tryd.checked os 8 .any (fun w args => (Rows.walEndsSpec.pre enc Tryd.prog Tryd.f8 [] false w args ∧ laidMetH Tryd.prog laidS w) ∧ sizedMet enc Tryd.prog Tryd.f8 (OpenSpec.ofChange Rows.walEndsSpec) false w args) (Rows.walEndsSpec.post enc Tryd.prog Tryd.f8 false true false false) := by
  refine returnsInHanded_of_change_and (C := Tryd.checked) (X := fun w _ => laidMetH Tryd.prog laidS w) (fun _ _ _ hh h => h.of_heap hh) own started (by kernel_rfl) Tryd.func8
    (ChangeSpec.witness_at (enc := enc) (C := Tryd.checked) (os := os) (X := fun w _ => laidMetH Tryd.prog laidS w) false (laidWorld os) #[.int .i64 0, .int .i64 0, .int .i64 0, .int .i64 0] 8 rfl (by kernel_rfl) (by kernel_rfl) (by kernel_rfl) (by kernel_rfl) (by kernel_rfl) (laid_met os _)) ?_
  intro W base args ds gs before hval0 hW hcnd _ hL _
  have hT := tbl_of_laid hL
  have hval : ∀ (j : Nat) t v, Tryd.f8.params[j]? = some t → args[j]? = some v → Value.okWide Tryd.prog W .any base t v := hval0
  have hW' := hW
  obtain ⟨p, q, hA0, hV, rfl, hfz, hnd⟩ := hW
  have hA : DataW.TrodAll enc Tryd.prog W 0 (fun _ => true) true Tryd.f8.params.toList args.toList ds p := hA0
  have hA1 := hA
  rw [Tryd.params8] at hA hval
  obtain ⟨v0, vs0, d0, ds0, p0, q0, hargs, rfl, rfl, h0, r0⟩ := trodAll_cons hA
  obtain ⟨v1, vs1, d1, ds1, p1, q1, rfl, rfl, rfl, h1, r1⟩ := trodAll_cons r0
  obtain ⟨v2, vs2, d2, ds2, p2, q2, rfl, rfl, rfl, h2, r2⟩ := trodAll_cons r1
  obtain ⟨v3, vs3, d3, ds3, p3, q3, rfl, rfl, rfl, h3, r3⟩ := trodAll_cons r2
  obtain ⟨rfl, rfl, rfl⟩ := trodAll_nil r3
  obtain rfl : args = #[v0, v1, v2, v3] := by cases args; simp_all
  obtain ⟨rfl, rfl⟩ := trodVars_none hV
  obtain ⟨a0, rfl, rfl, rfl, w0⟩ := open_int Tryd.underlying2 (hval 0 2 v0 rfl rfl) h0
  obtain ⟨a1, rfl, rfl, rfl, w1⟩ := open_int Tryd.underlying2 (hval 1 2 v1 rfl rfl) h1
  obtain ⟨a2, rfl, rfl, rfl, w2⟩ := open_int Tryd.underlying3 (hval 2 3 v2 rfl rfl) h2
  obtain ⟨a3, rfl, rfl, rfl, w3⟩ := open_int Tryd.underlying3 (hval 3 3 v3 rfl rfl) h3
  clear hA0 hval0
  simp only [List.append_nil] at hW'
  try simp only [List.append_nil] at hA1
  refine (walk W a0 w0 a1 w1 a2 w2 a3 w3 hT).mono fun e W' ⟨he, hg⟩ => ?_
  subst he
  exact ⟨_, rfl, law_end Tryd.laidOut (by kernel_rfl) hW' hA1 hg rfl rfl rfl (trodAll_mk1 (shut_bool Tryd.underlying4 _))⟩

theorem over : Rows.walEndsRow.holds Tryd.pinned (OpenSpec.ofChange Rows.walEndsSpec) :=
  OpenClaim.holds_of_wide 8 Tryd.f8 rfl rfl rfl rfl rfl rfl rfl ⟨rfl, rfl, rfl, rfl, rfl⟩ rfl rfl rfl rfl rfl (by kernel_rfl) Tryd.func8 (by kernel_rfl)
    (of_decide_eq_true (by kernel_rfl)) (by unfold Func.isWrapper; first | (rw [if_pos (by decide +kernel)]; kernel_rfl) | (rw [if_neg (by decide +kernel)]; exact ⟨rfl, rfl⟩))
    (fun os started H enc _ => lifted os started H enc)


/-- the statement: the card, closed by the builder's one call -/
theorem proved : Rows.WalEndsCardSaid :=
  Claim7.holds_tied_plain_at .later [] [.data] true Rows.walEndsCard.stood.harness Rows.walEndsCard.stood.looks
    over (fun _ h => by cases h) (by kernel_rfl) (fun _ h => by cases h) walEnds_row_tie rfl ⟨rfl, rfl⟩ (by kernel_rfl) rfl
    (fun f fn hf hfn => by
      obtain rfl : f = 8 := Option.some.inj ((show Tryd.prog.funcNamed "packhorse/packhorselaw10.WalEnds" = some 8 by kernel_rfl).symm.trans hf) |>.symm
      obtain rfl : fn = Tryd.f8 := (Option.some.inj (Tryd.func8.symm.trans hfn)).symm
      refine ⟨by kernel_rfl, fun j t ht => ?_⟩
      have h := List.all_eq_true.1 (show (Tryd.f8.params.toList.all fun t => !Tryd.prog.wantsStandIn t) = true by kernel_rfl) t (List.mem_of_getElem? (by simpa using ht))
      exact (show Tryd.prog.wantsStandIn t = false by simpa using h))
    (by kernel_rfl)
#print axioms proved
end Go.Proofs.YtdigpeipklfaeaaDoor.walEnds
