/-
  LogConf: the last configuration counts, of the entries or the snapshot. It is true for all arguments.
-/
import Derived.Test.YtmmlkfkepncpgaaRows
import Derived.Test.YtmmlkfkepncpgaaCun3
import Derived.Test.YtmmlkfkepncpgaaCun1
import Derived.WalkKit
import Derived.ProofKit
import Derived.OpenShut
import Derived.ShutString
namespace Go.Proofs.Ytmmlkfkepncpgaa.logConf
open Go.ChangeShapes Go.WideShapes Go.ChangeAt Go.RowKit
open Go.ChangeMaps (open_string shut_string)
set_option linter.unusedVariables false

theorem own : ownKnob Try.prog.godebug = none := by kernel_rfl

set_option maxRecDepth 100000 in
set_option maxHeartbeats 8000000 in
theorem walk (w : World) (a0 : Int) (w0 : (Lit.int .i64 a0).wf = true) (A1 : Option Addr) (c1 : Nat) (a1 : List Int) (w1 : Ints w w.heap.size (.slice A1 a1.length c1) a1) (x1 : ∀ x ∈ a1, I64 x) :
    Calls Try.prog 7 #[.int .i64 a0, .slice A1 a1.length c1] w fun e w' => e = .returned (.bool true) ∧ Below w.heap.size w w' := by
  obtain ⟨m, hm⟩ : ∃ m, a1.length = m := ⟨_, rfl⟩
  rw [hm] at w1 ⊢
  have HI := Lib.hid w1
  have HM := Lib.hid hm
  clear w1 hm
  go_enter Try.func7, Try.ntmps7
  go_wp2_with fail
  refine (begun13_any w).mono ?_
  rintro e k1 ⟨rfl, hb1⟩
  have HB1 := Lib.hid hb1
  clear hb1
  by_cases hc : 0 ≤ a0 ∧ a0 ≤ 30
  · obtain ⟨n, rfl⟩ : ∃ n : Nat, a0 = (n : Int) := ⟨a0.toNat, by omega⟩
    have hn30 : n ≤ 30 := by omega
    have t1 : ¬ (n : Int) < 0 := by omega
    have t2 : ¬ (30 : Int) < (n : Int) := by omega
    go_wp2_with fail
    go_loopw [6, 7, 8, 9] (fun u v x i wr => ∃ (k : Nat) (L : List Ent), i = .int .i64 (k : Int) ∧ k ≤ n ∧ OwnEn w.heap.size u L wr ∧ L.length = k ∧ (∀ e ∈ L, Gd e.kd e.data) ∧ (∀ j (h : j < L.length), L[j].ix = 6 + (j : Int) ∧ L[j].et = 1) ∧ v = .string (wnt L).1 ∧ x = .int .i64 (wnt L).2 ∧ Below w.heap.size w wr) (fun _ _ _ i _ => n + 1 - (intOf i).toNat)
    case atStart => exact ⟨0, [], rfl, Nat.zero_le _, OwnEn.nil _ _, rfl, by simp, by simp, rfl, rfl, HB1.out⟩
    case round =>
      have HH := Lib.hid hn30
      clear hn30 t1 t2 w0 hc
      obtain ⟨k, L, rfl, hk, hO, hlen, hgd, hlin, rfl, rfl, hb⟩ := hrel
      obtain ⟨A, c, hu⟩ := hO.slice
      rw [hlen] at hu
      subst hu
      obtain ⟨⟨wd, wx⟩, hw⟩ : ∃ p, wnt L = p := ⟨_, rfl⟩
      rw [hw]
      have HW := Lib.hid hw
      have HL := Lib.hid hlen
      have HG := Lib.hid hgd
      have HLI := Lib.hid hlin
      clear hw hlen hgd hlin
      simp only
      by_cases hkn : k < n
      · have hki : (k : Int) < (n : Int) := by omega
        obtain ⟨be, hbe⟩ : ∃ be, wr.heap.size = be := ⟨_, rfl⟩
        obtain ⟨W1, hW1⟩ : ∃ W1, wr.alloc (.cells #[.int .i64 (6 + (k : Int)), .int .i64 1, .int .i64 1, .string ⟨#[49, 50]⟩] 51) = W1 := ⟨_, rfl⟩
        have hR1 : Rt W1 be 51 [.int .i64 (6 + (k : Int)), .int .i64 1, .int .i64 1, .string ⟨#[49, 50]⟩] := by rw [← hW1, ← hbe]; exact Rt.new _ _ _
        have hb1 : Below wr.heap.size wr W1 := by rw [← hW1]; exact below_new _ _
        have hwk : IntKind.i64.wrap (6 + (k : Int)) = 6 + (k : Int) := by rw [IntKind.wrap_i64]; have := HH.out; omega
        have HO1 := Lib.hid (hO.below hb1)
        have HBb := Lib.hid (hb.trans (hb1.mono hb.size))
        have HR1 := Lib.hid hR1
        have HBE := Lib.hid (show w.heap.size ≤ be by rw [← hbe]; exact hb.size)
        have HNE := Lib.hid (fun j hj => (hO.lt j hj).2)
        clear hO hb hb1 hR1
        go_wp2_with fail
        go_loopw [11] (fun i wr => ∃ (q : Nat) (kd : Int) (d : ByteArray), i = .int .i64 (q : Int) ∧ q ≤ 10 ∧ q ≤ m ∧ Gd kd d ∧ Rt wr be 51 [.int .i64 (6 + (k : Int)), .int .i64 1, .int .i64 kd, .string d] ∧ OwnEn w.heap.size (.slice A k c) L wr ∧ Below w.heap.size w wr) (fun i _ => 11 - (intOf i).toNat)
        case atStart => exact ⟨0, 1, t12, rfl, by omega, Nat.zero_le _, .inl ⟨rfl, rfl⟩, HR1.out, HO1.out, HBb.out⟩
        case round =>
          obtain ⟨q, kd, d, rfl, hq, hqm, hG, hR, hO, hb⟩ := hrel
          by_cases hqm2 : q < m
          · have hqmi : (q : Int) < (m : Int) := by omega
            by_cases hq10 : q < 10
            · have hq10i : (q : Int) < 10 := by omega
              obtain ⟨g1, o1, rfl, hg1, hce⟩ := (HI.out.keep hb (Nat.le_refl _)).at_ q (by rw [HM.out]; exact hqm2)
              obtain ⟨y, hy⟩ : ∃ y, a1[q]'(by rw [HM.out]; exact hqm2) = y := ⟨_, rfl⟩
              rw [hy] at hce
              by_cases hyk : y = (k : Int)
              · subst hyk
                obtain ⟨p, hp⟩ : ∃ p : Nat, (q : Int).tmod 4 = (p : Int) ∧ p < 4 := ⟨q % 4, by rw [Int.tmod_eq_emod_of_nonneg (by omega)]; omega, by omega⟩
                obtain ⟨hp1, hp4⟩ := hp
                have r2 := hR.cell (j := 2) rfl
                have z2 := hR.frz 2
                obtain ⟨Wa, hWa⟩ : ∃ Wa, wr.setCell ⟨be, 2, none⟩ (.int .i64 3) = Wa := ⟨_, rfl⟩
                have hRa := hR.set 2 (.int .i64 3)
                have hba := hb.setCell (p := ⟨be, 2, none⟩) (show w.heap.size ≤ be from HBE.out) (.int .i64 3)
                have hOa := hO.off (S := fun j => j = be) (show Off (fun j => j = be) wr (wr.setCell ⟨be, 2, none⟩ (.int .i64 3)) from (Off.refl _ wr).set (.inl rfl)) (fun j hj e => by subst e; have := HNE.out j hj; omega)
                rw [hWa] at hRa hba hOa
                obtain ⟨Wb, hWb⟩ : ∃ Wb, Wa.alloc (.cells #[.string ⟨#[49, 50]⟩, .string ⟨#[49, 50, 51, 52]⟩, .string ⟨#[120]⟩, .string ⟨#[49, 51]⟩] 9) = Wb := ⟨_, rfl⟩
                have hbb : Below Wa.heap.size Wa Wb := by rw [← hWb]; exact below_new _ _
                have hRs : Rt Wb Wa.heap.size 9 [.string ⟨#[49, 50]⟩, .string ⟨#[49, 50, 51, 52]⟩, .string ⟨#[120]⟩, .string ⟨#[49, 51]⟩] := by rw [← hWb]; exact Rt.new _ _ _
                have cp := t4_cell hRs hp4
                have hRb := hRa.below hbb
                have r3 := hRb.cell (j := 3) rfl
                have z3 := hRb.frz 3
                have hp4i : (p : Int) < 4 := by omega
                have HRc := Lib.hid (hRb.set 3 (.string (t4 p)))
                have hbc : Below w.heap.size w Wb := hba.trans (hbb.mono hba.size)
                have HBc := Lib.hid (hbc.setCell (p := ⟨be, 3, none⟩) (show w.heap.size ≤ be from HBE.out) (.string (t4 p)))
                have HOc := Lib.hid ((hOa.below hbb).off (S := fun j => j = be) (show Off (fun j => j = be) Wb (Wb.setCell ⟨be, 3, none⟩ (.string (t4 p))) from (Off.refl _ Wb).set (.inl rfl)) (fun j hj e => by subst e; have := HNE.out j hj; omega))
                obtain ⟨d4, hd4⟩ : ∃ d4, t4 p = d4 := ⟨_, rfl⟩
                have HD4 := Lib.hid hd4
                rw [hd4] at cp HRc HBc HOc
                have HTA := Lib.hid (And.intro hp1 hd4)
                clear hR hO hb hRa hba hOa hbb hRs hRb hbc hG hd4
                go_wp2
                go_roundw
                case rel => exact ⟨q + 1, 3, d4, by go_num, by omega, by omega, by rw [← HD4.out]; exact t4_gd p, HRc.out, HOc.out, HBc.out⟩
                case measure => first | (simp [intOf]; omega) | (simp [intOf]; done)
              · have hyb : (y == (k : Int)) = false := by simpa using hyk
                have HR2 := Lib.hid hR
                have HO2 := Lib.hid hO
                have HB2 := Lib.hid hb
                clear hR hO hb
                go_wp2
                go_roundw
                case rel => exact ⟨q + 1, kd, d, by go_num, by omega, by omega, hG, HR2.out, HO2.out, HB2.out⟩
                case measure => first | (simp [intOf]; omega) | (simp [intOf]; done)
            · have hq10i : ¬ (q : Int) < 10 := by omega
              rcases hG with ⟨rfl, rfl⟩ | ⟨rfl, rfl | rfl | rfl | rfl⟩
              · replace hR : Rt wr be 51 [.int .i64 (6 + (k : Int)), .int .i64 1, .int .i64 1, .string ⟨#[49, 50]⟩] := hR
                have e0 := hR.cell (j := 0) rfl
                have e1 := hR.cell (j := 1) rfl
                have e2 := hR.cell (j := 2) rfl
                have e3 := hR.cell (j := 3) rfl
                have hG : Gd 1 t12 := .inl ⟨rfl, rfl⟩
                have hwe := (wE_no (6 + (k : Int))).1
                obtain ⟨Wp, hWp⟩ : ∃ Wp, wr.alloc (.cells #[.int .i64 (6 + (k : Int)), .int .i64 1, .int .i64 1, .string ⟨#[49, 50]⟩] 51) = Wp := ⟨_, rfl⟩
                have hRp : Rt Wp wr.heap.size 51 [.int .i64 (6 + (k : Int)), .int .i64 1, .int .i64 1, .string ⟨#[49, 50]⟩] := by rw [← hWp]; exact Rt.new _ _ _
                have hbp : Below wr.heap.size wr Wp := by rw [← hWp]; exact below_new _ _
                have HOp := Lib.hid (hO.below hbp)
                have HEp := Lib.hid (en_one (N := fun _ => True) hRp trivial)
                have HBp := Lib.hid (hb.trans (hbp.mono hb.size))
                have hlenp : L.length + 1 ≤ 1050000 := by rw [HL.out]; have := HH.out; omega
                clear hO hb hbp hRp hR
                go_wp2_with (at_builtin; refine wpList_append_en rfl _ _ rfl w.heap.size _ _ _ L [⟨6 + (k : Int), 1, 1, ⟨#[49, 50]⟩⟩] rfl HOp.out rfl HEp.out hlenp HBp.out.size ?_; intro v' w' g1 g2 g3; (obtain ⟨A3, c3, hv3⟩ := g1.slice); (rw [List.length_append, HL.out] at hv3); subst hv3; (have HG1 := Lib.hid g1); (have HG2 := Lib.hid g2); clear g1 g2 g3)
                go_roundw
                case rel => exact ⟨k + 1, L ++ [⟨6 + (k : Int), 1, 1, ⟨#[49, 50]⟩⟩], by go_num, by omega, HG1.out, by rw [List.length_append, HL.out]; rfl, gd_snoc HG.out hG, lin_snoc HL.out HLI.out rfl rfl, by show _ = _; rw [show (⟨6 + (k : Int), 1, 1, ⟨#[49, 50]⟩⟩ : Ent) = ⟨6 + (k : Int), 1, 1, t12⟩ from rfl, wnt_snoc, hwe, HW.out], by show _ = _; rw [show (⟨6 + (k : Int), 1, 1, ⟨#[49, 50]⟩⟩ : Ent) = ⟨6 + (k : Int), 1, 1, t12⟩ from rfl, wnt_snoc, hwe, HW.out], HBp.out.trans HG2.out⟩
                case measure => first | (simp [intOf]; omega) | (simp [intOf]; done)
              · replace hR : Rt wr be 51 [.int .i64 (6 + (k : Int)), .int .i64 1, .int .i64 3, .string ⟨#[49, 50]⟩] := hR
                have e0 := hR.cell (j := 0) rfl
                have e1 := hR.cell (j := 1) rfl
                have e2 := hR.cell (j := 2) rfl
                have e3 := hR.cell (j := 3) rfl
                have hG : Gd 3 t12 := .inr ⟨rfl, .inl rfl⟩
                have hwe := (wE_yes (6 + (k : Int))).1
                go_wp2_with fail
                go_quiet (fail)
                replace hR := hR.below (below_drewN13 wr nq wr.heap.size)
                replace hO := hO.below (below_drewN13 wr nq wr.heap.size)
                replace hb := hb.trans (below_drewN13 wr nq w.heap.size)
                replace e0 := hR.cell (j := 0) rfl
                replace e1 := hR.cell (j := 1) rfl
                replace e2 := hR.cell (j := 2) rfl
                replace e3 := hR.cell (j := 3) rfl
                obtain ⟨wq, hwq⟩ : ∃ wq, wr.drewN nq = wq := ⟨_, rfl⟩
                rw [hwq] at hR hO hb e0 e1 e2 e3 ⊢
                clear hwq
                obtain ⟨Wp, hWp⟩ : ∃ Wp, wq.alloc (.cells #[.int .i64 (6 + (k : Int)), .int .i64 1, .int .i64 3, .string ⟨#[49, 50]⟩] 51) = Wp := ⟨_, rfl⟩
                have hRp : Rt Wp wq.heap.size 51 [.int .i64 (6 + (k : Int)), .int .i64 1, .int .i64 3, .string ⟨#[49, 50]⟩] := by rw [← hWp]; exact Rt.new _ _ _
                have hbp : Below wq.heap.size wq Wp := by rw [← hWp]; exact below_new _ _
                have HOp := Lib.hid (hO.below hbp)
                have HEp := Lib.hid (en_one (N := fun _ => True) hRp trivial)
                have HBp := Lib.hid (hb.trans (hbp.mono hb.size))
                have hlenp : L.length + 1 ≤ 1050000 := by rw [HL.out]; have := HH.out; omega
                clear hO hb hbp hRp hR
                go_wp2_with (at_builtin; refine wpList_append_en rfl _ _ rfl w.heap.size _ _ _ L [⟨6 + (k : Int), 1, 3, ⟨#[49, 50]⟩⟩] rfl HOp.out rfl HEp.out hlenp HBp.out.size ?_; intro v' w' g1 g2 g3; (obtain ⟨A3, c3, hv3⟩ := g1.slice); (rw [List.length_append, HL.out] at hv3); subst hv3; (have HG1 := Lib.hid g1); (have HG2 := Lib.hid g2); clear g1 g2 g3)
                go_roundw
                case rel => exact ⟨k + 1, L ++ [⟨6 + (k : Int), 1, 3, ⟨#[49, 50]⟩⟩], by go_num, by omega, HG1.out, by rw [List.length_append, HL.out]; rfl, gd_snoc HG.out hG, lin_snoc HL.out HLI.out rfl rfl, by rw [show (⟨6 + (k : Int), 1, 3, ⟨#[49, 50]⟩⟩ : Ent) = ⟨6 + (k : Int), 1, 3, t12⟩ from rfl, wnt_snoc, hwe]; try rfl, by rw [show (⟨6 + (k : Int), 1, 3, ⟨#[49, 50]⟩⟩ : Ent) = ⟨6 + (k : Int), 1, 3, t12⟩ from rfl, wnt_snoc, hwe]; try rfl, HBp.out.trans HG2.out⟩
                case measure => first | (simp [intOf]; omega) | (simp [intOf]; done)
              · replace hR : Rt wr be 51 [.int .i64 (6 + (k : Int)), .int .i64 1, .int .i64 3, .string ⟨#[49, 50, 51, 52]⟩] := hR
                have e0 := hR.cell (j := 0) rfl
                have e1 := hR.cell (j := 1) rfl
                have e2 := hR.cell (j := 2) rfl
                have e3 := hR.cell (j := 3) rfl
                have hG : Gd 3 t1234 := .inr ⟨rfl, .inr (.inl rfl)⟩
                have hwe := (wE_yes (6 + (k : Int))).2.1
                go_wp2_with fail
                go_quiet (fail)
                replace hR := hR.below (below_drewN13 wr nq wr.heap.size)
                replace hO := hO.below (below_drewN13 wr nq wr.heap.size)
                replace hb := hb.trans (below_drewN13 wr nq w.heap.size)
                replace e0 := hR.cell (j := 0) rfl
                replace e1 := hR.cell (j := 1) rfl
                replace e2 := hR.cell (j := 2) rfl
                replace e3 := hR.cell (j := 3) rfl
                obtain ⟨wq, hwq⟩ : ∃ wq, wr.drewN nq = wq := ⟨_, rfl⟩
                rw [hwq] at hR hO hb e0 e1 e2 e3 ⊢
                clear hwq
                obtain ⟨Wp, hWp⟩ : ∃ Wp, wq.alloc (.cells #[.int .i64 (6 + (k : Int)), .int .i64 1, .int .i64 3, .string ⟨#[49, 50, 51, 52]⟩] 51) = Wp := ⟨_, rfl⟩
                have hRp : Rt Wp wq.heap.size 51 [.int .i64 (6 + (k : Int)), .int .i64 1, .int .i64 3, .string ⟨#[49, 50, 51, 52]⟩] := by rw [← hWp]; exact Rt.new _ _ _
                have hbp : Below wq.heap.size wq Wp := by rw [← hWp]; exact below_new _ _
                have HOp := Lib.hid (hO.below hbp)
                have HEp := Lib.hid (en_one (N := fun _ => True) hRp trivial)
                have HBp := Lib.hid (hb.trans (hbp.mono hb.size))
                have hlenp : L.length + 1 ≤ 1050000 := by rw [HL.out]; have := HH.out; omega
                clear hO hb hbp hRp hR
                go_wp2_with (at_builtin; refine wpList_append_en rfl _ _ rfl w.heap.size _ _ _ L [⟨6 + (k : Int), 1, 3, ⟨#[49, 50, 51, 52]⟩⟩] rfl HOp.out rfl HEp.out hlenp HBp.out.size ?_; intro v' w' g1 g2 g3; (obtain ⟨A3, c3, hv3⟩ := g1.slice); (rw [List.length_append, HL.out] at hv3); subst hv3; (have HG1 := Lib.hid g1); (have HG2 := Lib.hid g2); clear g1 g2 g3)
                go_roundw
                case rel => exact ⟨k + 1, L ++ [⟨6 + (k : Int), 1, 3, ⟨#[49, 50, 51, 52]⟩⟩], by go_num, by omega, HG1.out, by rw [List.length_append, HL.out]; rfl, gd_snoc HG.out hG, lin_snoc HL.out HLI.out rfl rfl, by rw [show (⟨6 + (k : Int), 1, 3, ⟨#[49, 50, 51, 52]⟩⟩ : Ent) = ⟨6 + (k : Int), 1, 3, t1234⟩ from rfl, wnt_snoc, hwe]; try rfl, by rw [show (⟨6 + (k : Int), 1, 3, ⟨#[49, 50, 51, 52]⟩⟩ : Ent) = ⟨6 + (k : Int), 1, 3, t1234⟩ from rfl, wnt_snoc, hwe]; try rfl, HBp.out.trans HG2.out⟩
                case measure => first | (simp [intOf]; omega) | (simp [intOf]; done)
              · replace hR : Rt wr be 51 [.int .i64 (6 + (k : Int)), .int .i64 1, .int .i64 3, .string ⟨#[120]⟩] := hR
                have e0 := hR.cell (j := 0) rfl
                have e1 := hR.cell (j := 1) rfl
                have e2 := hR.cell (j := 2) rfl
                have e3 := hR.cell (j := 3) rfl
                have hG : Gd 3 tx := .inr ⟨rfl, .inr (.inr (.inl rfl))⟩
                have hwe := (wE_no (6 + (k : Int))).2
                obtain ⟨Wp, hWp⟩ : ∃ Wp, wr.alloc (.cells #[.int .i64 (6 + (k : Int)), .int .i64 1, .int .i64 3, .string ⟨#[120]⟩] 51) = Wp := ⟨_, rfl⟩
                have hRp : Rt Wp wr.heap.size 51 [.int .i64 (6 + (k : Int)), .int .i64 1, .int .i64 3, .string ⟨#[120]⟩] := by rw [← hWp]; exact Rt.new _ _ _
                have hbp : Below wr.heap.size wr Wp := by rw [← hWp]; exact below_new _ _
                have HOp := Lib.hid (hO.below hbp)
                have HEp := Lib.hid (en_one (N := fun _ => True) hRp trivial)
                have HBp := Lib.hid (hb.trans (hbp.mono hb.size))
                have hlenp : L.length + 1 ≤ 1050000 := by rw [HL.out]; have := HH.out; omega
                clear hO hb hbp hRp hR
                go_wp2_with (at_builtin; refine wpList_append_en rfl _ _ rfl w.heap.size _ _ _ L [⟨6 + (k : Int), 1, 3, ⟨#[120]⟩⟩] rfl HOp.out rfl HEp.out hlenp HBp.out.size ?_; intro v' w' g1 g2 g3; (obtain ⟨A3, c3, hv3⟩ := g1.slice); (rw [List.length_append, HL.out] at hv3); subst hv3; (have HG1 := Lib.hid g1); (have HG2 := Lib.hid g2); clear g1 g2 g3)
                go_roundw
                case rel => exact ⟨k + 1, L ++ [⟨6 + (k : Int), 1, 3, ⟨#[120]⟩⟩], by go_num, by omega, HG1.out, by rw [List.length_append, HL.out]; rfl, gd_snoc HG.out hG, lin_snoc HL.out HLI.out rfl rfl, by show _ = _; rw [show (⟨6 + (k : Int), 1, 3, ⟨#[120]⟩⟩ : Ent) = ⟨6 + (k : Int), 1, 3, tx⟩ from rfl, wnt_snoc, hwe, HW.out], by show _ = _; rw [show (⟨6 + (k : Int), 1, 3, ⟨#[120]⟩⟩ : Ent) = ⟨6 + (k : Int), 1, 3, tx⟩ from rfl, wnt_snoc, hwe, HW.out], HBp.out.trans HG2.out⟩
                case measure => first | (simp [intOf]; omega) | (simp [intOf]; done)
              · replace hR : Rt wr be 51 [.int .i64 (6 + (k : Int)), .int .i64 1, .int .i64 3, .string ⟨#[49, 51]⟩] := hR
                have e0 := hR.cell (j := 0) rfl
                have e1 := hR.cell (j := 1) rfl
                have e2 := hR.cell (j := 2) rfl
                have e3 := hR.cell (j := 3) rfl
                have hG : Gd 3 t13 := .inr ⟨rfl, .inr (.inr (.inr rfl))⟩
                have hwe := (wE_yes (6 + (k : Int))).2.2
                go_wp2_with fail
                go_quiet (fail)
                replace hR := hR.below (below_drewN13 wr nq wr.heap.size)
                replace hO := hO.below (below_drewN13 wr nq wr.heap.size)
                replace hb := hb.trans (below_drewN13 wr nq w.heap.size)
                replace e0 := hR.cell (j := 0) rfl
                replace e1 := hR.cell (j := 1) rfl
                replace e2 := hR.cell (j := 2) rfl
                replace e3 := hR.cell (j := 3) rfl
                obtain ⟨wq, hwq⟩ : ∃ wq, wr.drewN nq = wq := ⟨_, rfl⟩
                rw [hwq] at hR hO hb e0 e1 e2 e3 ⊢
                clear hwq
                obtain ⟨Wp, hWp⟩ : ∃ Wp, wq.alloc (.cells #[.int .i64 (6 + (k : Int)), .int .i64 1, .int .i64 3, .string ⟨#[49, 51]⟩] 51) = Wp := ⟨_, rfl⟩
                have hRp : Rt Wp wq.heap.size 51 [.int .i64 (6 + (k : Int)), .int .i64 1, .int .i64 3, .string ⟨#[49, 51]⟩] := by rw [← hWp]; exact Rt.new _ _ _
                have hbp : Below wq.heap.size wq Wp := by rw [← hWp]; exact below_new _ _
                have HOp := Lib.hid (hO.below hbp)
                have HEp := Lib.hid (en_one (N := fun _ => True) hRp trivial)
                have HBp := Lib.hid (hb.trans (hbp.mono hb.size))
                have hlenp : L.length + 1 ≤ 1050000 := by rw [HL.out]; have := HH.out; omega
                clear hO hb hbp hRp hR
                go_wp2_with (at_builtin; refine wpList_append_en rfl _ _ rfl w.heap.size _ _ _ L [⟨6 + (k : Int), 1, 3, ⟨#[49, 51]⟩⟩] rfl HOp.out rfl HEp.out hlenp HBp.out.size ?_; intro v' w' g1 g2 g3; (obtain ⟨A3, c3, hv3⟩ := g1.slice); (rw [List.length_append, HL.out] at hv3); subst hv3; (have HG1 := Lib.hid g1); (have HG2 := Lib.hid g2); clear g1 g2 g3)
                go_roundw
                case rel => exact ⟨k + 1, L ++ [⟨6 + (k : Int), 1, 3, ⟨#[49, 51]⟩⟩], by go_num, by omega, HG1.out, by rw [List.length_append, HL.out]; rfl, gd_snoc HG.out hG, lin_snoc HL.out HLI.out rfl rfl, by rw [show (⟨6 + (k : Int), 1, 3, ⟨#[49, 51]⟩⟩ : Ent) = ⟨6 + (k : Int), 1, 3, t13⟩ from rfl, wnt_snoc, hwe]; try rfl, by rw [show (⟨6 + (k : Int), 1, 3, ⟨#[49, 51]⟩⟩ : Ent) = ⟨6 + (k : Int), 1, 3, t13⟩ from rfl, wnt_snoc, hwe]; try rfl, HBp.out.trans HG2.out⟩
                case measure => first | (simp [intOf]; omega) | (simp [intOf]; done)
          · have hqmi : ¬ (q : Int) < (m : Int) := by omega
            rcases hG with ⟨rfl, rfl⟩ | ⟨rfl, rfl | rfl | rfl | rfl⟩
            · replace hR : Rt wr be 51 [.int .i64 (6 + (k : Int)), .int .i64 1, .int .i64 1, .string ⟨#[49, 50]⟩] := hR
              have e0 := hR.cell (j := 0) rfl
              have e1 := hR.cell (j := 1) rfl
              have e2 := hR.cell (j := 2) rfl
              have e3 := hR.cell (j := 3) rfl
              have hG : Gd 1 t12 := .inl ⟨rfl, rfl⟩
              have hwe := (wE_no (6 + (k : Int))).1
              obtain ⟨Wp, hWp⟩ : ∃ Wp, wr.alloc (.cells #[.int .i64 (6 + (k : Int)), .int .i64 1, .int .i64 1, .string ⟨#[49, 50]⟩] 51) = Wp := ⟨_, rfl⟩
              have hRp : Rt Wp wr.heap.size 51 [.int .i64 (6 + (k : Int)), .int .i64 1, .int .i64 1, .string ⟨#[49, 50]⟩] := by rw [← hWp]; exact Rt.new _ _ _
              have hbp : Below wr.heap.size wr Wp := by rw [← hWp]; exact below_new _ _
              have HOp := Lib.hid (hO.below hbp)
              have HEp := Lib.hid (en_one (N := fun _ => True) hRp trivial)
              have HBp := Lib.hid (hb.trans (hbp.mono hb.size))
              have hlenp : L.length + 1 ≤ 1050000 := by rw [HL.out]; have := HH.out; omega
              clear hO hb hbp hRp hR
              go_wp2_with (at_builtin; refine wpList_append_en rfl _ _ rfl w.heap.size _ _ _ L [⟨6 + (k : Int), 1, 1, ⟨#[49, 50]⟩⟩] rfl HOp.out rfl HEp.out hlenp HBp.out.size ?_; intro v' w' g1 g2 g3; (obtain ⟨A3, c3, hv3⟩ := g1.slice); (rw [List.length_append, HL.out] at hv3); subst hv3; (have HG1 := Lib.hid g1); (have HG2 := Lib.hid g2); clear g1 g2 g3)
              go_roundw
              case rel => exact ⟨k + 1, L ++ [⟨6 + (k : Int), 1, 1, ⟨#[49, 50]⟩⟩], by go_num, by omega, HG1.out, by rw [List.length_append, HL.out]; rfl, gd_snoc HG.out hG, lin_snoc HL.out HLI.out rfl rfl, by show _ = _; rw [show (⟨6 + (k : Int), 1, 1, ⟨#[49, 50]⟩⟩ : Ent) = ⟨6 + (k : Int), 1, 1, t12⟩ from rfl, wnt_snoc, hwe, HW.out], by show _ = _; rw [show (⟨6 + (k : Int), 1, 1, ⟨#[49, 50]⟩⟩ : Ent) = ⟨6 + (k : Int), 1, 1, t12⟩ from rfl, wnt_snoc, hwe, HW.out], HBp.out.trans HG2.out⟩
              case measure => first | (simp [intOf]; omega) | (simp [intOf]; done)
            · replace hR : Rt wr be 51 [.int .i64 (6 + (k : Int)), .int .i64 1, .int .i64 3, .string ⟨#[49, 50]⟩] := hR
              have e0 := hR.cell (j := 0) rfl
              have e1 := hR.cell (j := 1) rfl
              have e2 := hR.cell (j := 2) rfl
              have e3 := hR.cell (j := 3) rfl
              have hG : Gd 3 t12 := .inr ⟨rfl, .inl rfl⟩
              have hwe := (wE_yes (6 + (k : Int))).1
              go_wp2_with fail
              go_quiet (fail)
              replace hR := hR.below (below_drewN13 wr nq wr.heap.size)
              replace hO := hO.below (below_drewN13 wr nq wr.heap.size)
              replace hb := hb.trans (below_drewN13 wr nq w.heap.size)
              replace e0 := hR.cell (j := 0) rfl
              replace e1 := hR.cell (j := 1) rfl
              replace e2 := hR.cell (j := 2) rfl
              replace e3 := hR.cell (j := 3) rfl
              obtain ⟨wq, hwq⟩ : ∃ wq, wr.drewN nq = wq := ⟨_, rfl⟩
              rw [hwq] at hR hO hb e0 e1 e2 e3 ⊢
              clear hwq
              obtain ⟨Wp, hWp⟩ : ∃ Wp, wq.alloc (.cells #[.int .i64 (6 + (k : Int)), .int .i64 1, .int .i64 3, .string ⟨#[49, 50]⟩] 51) = Wp := ⟨_, rfl⟩
              have hRp : Rt Wp wq.heap.size 51 [.int .i64 (6 + (k : Int)), .int .i64 1, .int .i64 3, .string ⟨#[49, 50]⟩] := by rw [← hWp]; exact Rt.new _ _ _
              have hbp : Below wq.heap.size wq Wp := by rw [← hWp]; exact below_new _ _
              have HOp := Lib.hid (hO.below hbp)
              have HEp := Lib.hid (en_one (N := fun _ => True) hRp trivial)
              have HBp := Lib.hid (hb.trans (hbp.mono hb.size))
              have hlenp : L.length + 1 ≤ 1050000 := by rw [HL.out]; have := HH.out; omega
              clear hO hb hbp hRp hR
              go_wp2_with (at_builtin; refine wpList_append_en rfl _ _ rfl w.heap.size _ _ _ L [⟨6 + (k : Int), 1, 3, ⟨#[49, 50]⟩⟩] rfl HOp.out rfl HEp.out hlenp HBp.out.size ?_; intro v' w' g1 g2 g3; (obtain ⟨A3, c3, hv3⟩ := g1.slice); (rw [List.length_append, HL.out] at hv3); subst hv3; (have HG1 := Lib.hid g1); (have HG2 := Lib.hid g2); clear g1 g2 g3)
              go_roundw
              case rel => exact ⟨k + 1, L ++ [⟨6 + (k : Int), 1, 3, ⟨#[49, 50]⟩⟩], by go_num, by omega, HG1.out, by rw [List.length_append, HL.out]; rfl, gd_snoc HG.out hG, lin_snoc HL.out HLI.out rfl rfl, by rw [show (⟨6 + (k : Int), 1, 3, ⟨#[49, 50]⟩⟩ : Ent) = ⟨6 + (k : Int), 1, 3, t12⟩ from rfl, wnt_snoc, hwe]; try rfl, by rw [show (⟨6 + (k : Int), 1, 3, ⟨#[49, 50]⟩⟩ : Ent) = ⟨6 + (k : Int), 1, 3, t12⟩ from rfl, wnt_snoc, hwe]; try rfl, HBp.out.trans HG2.out⟩
              case measure => first | (simp [intOf]; omega) | (simp [intOf]; done)
            · replace hR : Rt wr be 51 [.int .i64 (6 + (k : Int)), .int .i64 1, .int .i64 3, .string ⟨#[49, 50, 51, 52]⟩] := hR
              have e0 := hR.cell (j := 0) rfl
              have e1 := hR.cell (j := 1) rfl
              have e2 := hR.cell (j := 2) rfl
              have e3 := hR.cell (j := 3) rfl
              have hG : Gd 3 t1234 := .inr ⟨rfl, .inr (.inl rfl)⟩
              have hwe := (wE_yes (6 + (k : Int))).2.1
              go_wp2_with fail
              go_quiet (fail)
              replace hR := hR.below (below_drewN13 wr nq wr.heap.size)
              replace hO := hO.below (below_drewN13 wr nq wr.heap.size)
              replace hb := hb.trans (below_drewN13 wr nq w.heap.size)
              replace e0 := hR.cell (j := 0) rfl
              replace e1 := hR.cell (j := 1) rfl
              replace e2 := hR.cell (j := 2) rfl
              replace e3 := hR.cell (j := 3) rfl
              obtain ⟨wq, hwq⟩ : ∃ wq, wr.drewN nq = wq := ⟨_, rfl⟩
              rw [hwq] at hR hO hb e0 e1 e2 e3 ⊢
              clear hwq
              obtain ⟨Wp, hWp⟩ : ∃ Wp, wq.alloc (.cells #[.int .i64 (6 + (k : Int)), .int .i64 1, .int .i64 3, .string ⟨#[49, 50, 51, 52]⟩] 51) = Wp := ⟨_, rfl⟩
              have hRp : Rt Wp wq.heap.size 51 [.int .i64 (6 + (k : Int)), .int .i64 1, .int .i64 3, .string ⟨#[49, 50, 51, 52]⟩] := by rw [← hWp]; exact Rt.new _ _ _
              have hbp : Below wq.heap.size wq Wp := by rw [← hWp]; exact below_new _ _
              have HOp := Lib.hid (hO.below hbp)
              have HEp := Lib.hid (en_one (N := fun _ => True) hRp trivial)
              have HBp := Lib.hid (hb.trans (hbp.mono hb.size))
              have hlenp : L.length + 1 ≤ 1050000 := by rw [HL.out]; have := HH.out; omega
              clear hO hb hbp hRp hR
              go_wp2_with (at_builtin; refine wpList_append_en rfl _ _ rfl w.heap.size _ _ _ L [⟨6 + (k : Int), 1, 3, ⟨#[49, 50, 51, 52]⟩⟩] rfl HOp.out rfl HEp.out hlenp HBp.out.size ?_; intro v' w' g1 g2 g3; (obtain ⟨A3, c3, hv3⟩ := g1.slice); (rw [List.length_append, HL.out] at hv3); subst hv3; (have HG1 := Lib.hid g1); (have HG2 := Lib.hid g2); clear g1 g2 g3)
              go_roundw
              case rel => exact ⟨k + 1, L ++ [⟨6 + (k : Int), 1, 3, ⟨#[49, 50, 51, 52]⟩⟩], by go_num, by omega, HG1.out, by rw [List.length_append, HL.out]; rfl, gd_snoc HG.out hG, lin_snoc HL.out HLI.out rfl rfl, by rw [show (⟨6 + (k : Int), 1, 3, ⟨#[49, 50, 51, 52]⟩⟩ : Ent) = ⟨6 + (k : Int), 1, 3, t1234⟩ from rfl, wnt_snoc, hwe]; try rfl, by rw [show (⟨6 + (k : Int), 1, 3, ⟨#[49, 50, 51, 52]⟩⟩ : Ent) = ⟨6 + (k : Int), 1, 3, t1234⟩ from rfl, wnt_snoc, hwe]; try rfl, HBp.out.trans HG2.out⟩
              case measure => first | (simp [intOf]; omega) | (simp [intOf]; done)
            · replace hR : Rt wr be 51 [.int .i64 (6 + (k : Int)), .int .i64 1, .int .i64 3, .string ⟨#[120]⟩] := hR
              have e0 := hR.cell (j := 0) rfl
              have e1 := hR.cell (j := 1) rfl
              have e2 := hR.cell (j := 2) rfl
              have e3 := hR.cell (j := 3) rfl
              have hG : Gd 3 tx := .inr ⟨rfl, .inr (.inr (.inl rfl))⟩
              have hwe := (wE_no (6 + (k : Int))).2
              obtain ⟨Wp, hWp⟩ : ∃ Wp, wr.alloc (.cells #[.int .i64 (6 + (k : Int)), .int .i64 1, .int .i64 3, .string ⟨#[120]⟩] 51) = Wp := ⟨_, rfl⟩
              have hRp : Rt Wp wr.heap.size 51 [.int .i64 (6 + (k : Int)), .int .i64 1, .int .i64 3, .string ⟨#[120]⟩] := by rw [← hWp]; exact Rt.new _ _ _
              have hbp : Below wr.heap.size wr Wp := by rw [← hWp]; exact below_new _ _
              have HOp := Lib.hid (hO.below hbp)
              have HEp := Lib.hid (en_one (N := fun _ => True) hRp trivial)
              have HBp := Lib.hid (hb.trans (hbp.mono hb.size))
              have hlenp : L.length + 1 ≤ 1050000 := by rw [HL.out]; have := HH.out; omega
              clear hO hb hbp hRp hR
              go_wp2_with (at_builtin; refine wpList_append_en rfl _ _ rfl w.heap.size _ _ _ L [⟨6 + (k : Int), 1, 3, ⟨#[120]⟩⟩] rfl HOp.out rfl HEp.out hlenp HBp.out.size ?_; intro v' w' g1 g2 g3; (obtain ⟨A3, c3, hv3⟩ := g1.slice); (rw [List.length_append, HL.out] at hv3); subst hv3; (have HG1 := Lib.hid g1); (have HG2 := Lib.hid g2); clear g1 g2 g3)
              go_roundw
              case rel => exact ⟨k + 1, L ++ [⟨6 + (k : Int), 1, 3, ⟨#[120]⟩⟩], by go_num, by omega, HG1.out, by rw [List.length_append, HL.out]; rfl, gd_snoc HG.out hG, lin_snoc HL.out HLI.out rfl rfl, by show _ = _; rw [show (⟨6 + (k : Int), 1, 3, ⟨#[120]⟩⟩ : Ent) = ⟨6 + (k : Int), 1, 3, tx⟩ from rfl, wnt_snoc, hwe, HW.out], by show _ = _; rw [show (⟨6 + (k : Int), 1, 3, ⟨#[120]⟩⟩ : Ent) = ⟨6 + (k : Int), 1, 3, tx⟩ from rfl, wnt_snoc, hwe, HW.out], HBp.out.trans HG2.out⟩
              case measure => first | (simp [intOf]; omega) | (simp [intOf]; done)
            · replace hR : Rt wr be 51 [.int .i64 (6 + (k : Int)), .int .i64 1, .int .i64 3, .string ⟨#[49, 51]⟩] := hR
              have e0 := hR.cell (j := 0) rfl
              have e1 := hR.cell (j := 1) rfl
              have e2 := hR.cell (j := 2) rfl
              have e3 := hR.cell (j := 3) rfl
              have hG : Gd 3 t13 := .inr ⟨rfl, .inr (.inr (.inr rfl))⟩
              have hwe := (wE_yes (6 + (k : Int))).2.2
              go_wp2_with fail
              go_quiet (fail)
              replace hR := hR.below (below_drewN13 wr nq wr.heap.size)
              replace hO := hO.below (below_drewN13 wr nq wr.heap.size)
              replace hb := hb.trans (below_drewN13 wr nq w.heap.size)
              replace e0 := hR.cell (j := 0) rfl
              replace e1 := hR.cell (j := 1) rfl
              replace e2 := hR.cell (j := 2) rfl
              replace e3 := hR.cell (j := 3) rfl
              obtain ⟨wq, hwq⟩ : ∃ wq, wr.drewN nq = wq := ⟨_, rfl⟩
              rw [hwq] at hR hO hb e0 e1 e2 e3 ⊢
              clear hwq
              obtain ⟨Wp, hWp⟩ : ∃ Wp, wq.alloc (.cells #[.int .i64 (6 + (k : Int)), .int .i64 1, .int .i64 3, .string ⟨#[49, 51]⟩] 51) = Wp := ⟨_, rfl⟩
              have hRp : Rt Wp wq.heap.size 51 [.int .i64 (6 + (k : Int)), .int .i64 1, .int .i64 3, .string ⟨#[49, 51]⟩] := by rw [← hWp]; exact Rt.new _ _ _
              have hbp : Below wq.heap.size wq Wp := by rw [← hWp]; exact below_new _ _
              have HOp := Lib.hid (hO.below hbp)
              have HEp := Lib.hid (en_one (N := fun _ => True) hRp trivial)
              have HBp := Lib.hid (hb.trans (hbp.mono hb.size))
              have hlenp : L.length + 1 ≤ 1050000 := by rw [HL.out]; have := HH.out; omega
              clear hO hb hbp hRp hR
              go_wp2_with (at_builtin; refine wpList_append_en rfl _ _ rfl w.heap.size _ _ _ L [⟨6 + (k : Int), 1, 3, ⟨#[49, 51]⟩⟩] rfl HOp.out rfl HEp.out hlenp HBp.out.size ?_; intro v' w' g1 g2 g3; (obtain ⟨A3, c3, hv3⟩ := g1.slice); (rw [List.length_append, HL.out] at hv3); subst hv3; (have HG1 := Lib.hid g1); (have HG2 := Lib.hid g2); clear g1 g2 g3)
              go_roundw
              case rel => exact ⟨k + 1, L ++ [⟨6 + (k : Int), 1, 3, ⟨#[49, 51]⟩⟩], by go_num, by omega, HG1.out, by rw [List.length_append, HL.out]; rfl, gd_snoc HG.out hG, lin_snoc HL.out HLI.out rfl rfl, by rw [show (⟨6 + (k : Int), 1, 3, ⟨#[49, 51]⟩⟩ : Ent) = ⟨6 + (k : Int), 1, 3, t13⟩ from rfl, wnt_snoc, hwe]; try rfl, by rw [show (⟨6 + (k : Int), 1, 3, ⟨#[49, 51]⟩⟩ : Ent) = ⟨6 + (k : Int), 1, 3, t13⟩ from rfl, wnt_snoc, hwe]; try rfl, HBp.out.trans HG2.out⟩
              case measure => first | (simp [intOf]; omega) | (simp [intOf]; done)
      · obtain rfl : k = n := by omega
        have hnk : ¬ (k : Int) < (k : Int) := by omega
        have HE := Lib.hid (Ens.of_own hO)
        have HBo := Lib.hid hb
        have hfit : ∀ e ∈ L, e.data.size ≤ 100000 ∧ -9223372036854775808 ≤ e.ix ∧ e.ix ≤ 9223372036854775807 := by
          intro e he
          obtain ⟨j, hj, rfl⟩ := List.mem_iff_getElem.1 he
          have h1 := HLI.out j hj
          have h2 := HH.out
          have h3 := HL.out
          exact ⟨gd_size (HG.out _ he), by rw [h1.1]; omega, by rw [h1.1]; omega⟩
        have hnew := cnf_new HLI.out (by rw [HL.out]; exact HH.out)
        clear hO hb
        go_wp2_with fail
        refine (new_lk (fun j => j < wr.heap.size) sCnf A k c L wr (fun _ h => h) (HE.out.mono fun j _ hl => hl) (by rw [HL.out]; have := HH.out; omega) (by decide) hfit (by decide) (by decide) true hnew).mono ?_
        rintro e w2 ⟨hb2, ⟨h, _⟩ | ⟨_, g, rfl, hL1⟩⟩
        · cases h
        obtain ⟨vg, hLB, hLk⟩ := hL1.get (by decide)
        have HC := Lib.hid (lconf_any hLB hLk)
        have HB2 := Lib.hid (HBo.out.trans (hb2.mono HBo.out.size))
        clear hLB hLk hL1 hb2 hnew hfit
        go_wp2_with fail
        refine HC.out.mono ?_
        rintro e w3 ⟨hb3, hres⟩
        rw [cnf_wnt HG.out, HW.out] at hres
        obtain ⟨A9, c9, rfl, hI9⟩ := hres
        have hsz := wnt_size HG.out
        rw [HW.out] at hsz
        simp only at hI9 hsz ⊢
        have hdl := decL_len wd
        obtain ⟨ln, hln⟩ : ∃ ln, wd.size = ln := ⟨_, rfl⟩
        have hI9' : Ints w3 w3.heap.size (.slice A9 ln c9) (decL wd) := by rw [hln] at hdl; rw [hdl] at hI9; exact hI9
        rw [hdl, hln]
        have HI9 := Lib.hid hI9'
        have HDL := Lib.hid (hdl.trans hln)
        have HSZ := Lib.hid hsz
        have HB3 := Lib.hid (HB2.out.trans (hb3.mono HB2.out.size))
        have hln4 : ln ≤ 4 := by rw [← hln]; exact hsz.1
        clear hI9 hI9' hdl hsz hb3
        go_wp2_with fail
        go_loopw [15] (fun i wr => ∃ q : Nat, i = .int .i64 (q : Int) ∧ q ≤ ln ∧ Below w3.heap.size w3 wr) (fun i _ => ln + 1 - (intOf i).toNat)
        case atStart => exact ⟨0, rfl, Nat.zero_le _, Below.refl _ _⟩
        case round =>
          obtain ⟨q, rfl, hq, hbq⟩ := hrel
          by_cases hqln : q < ln
          · have hqi : (q : Int) < (ln : Int) := by omega
            have hqs : q < wd.size := by rw [hln]; exact hqln
            obtain ⟨g9, o9, rfl, hg9, hce⟩ := (HI9.out.keep hbq (Nat.le_refl _)).at_ q (by rw [HDL.out]; exact hqln)
            rw [decL_at wd q hqs] at hce
            have hr := HSZ.out.2 q hqs
            have hr1 : 48 ≤ ((wd[q]'hqs).toNat : Int) := by omega
            have hr2 : ((wd[q]'hqs).toNat : Int) < 58 := by omega
            have hw8 : IntKind.u8.wrap (((wd[q]'hqs).toNat : Int) - 48) = ((wd[q]'hqs).toNat : Int) - 48 := by
              unfold IntKind.wrap; simp [IntKind.bits, IntKind.signed]; omega
            have HBQ := Lib.hid hbq
            have hq0 : (0 : Int) ≤ (q : Int) := by omega
            clear hbq
            go_wp2
            go_quiet (fail)
            go_wp2
            go_roundw
            case rel => exact ⟨q + 1, by go_num, by omega, HBQ.out.trans (below_drewN13 _ _ _)⟩
            case measure => first | (simp [intOf]; omega) | (simp [intOf]; done)
          · have hqi : ¬ (q : Int) < (ln : Int) := by omega
            have HBF := HB3.out.trans (hbq.mono HB3.out.size)
            clear hbq
            go_wp2
            go_ret
            exact ⟨rfl, HBF⟩
  · by_cases c1 : a0 < 0
    · clear hc
      go_wp2
      go_ret
      exact ⟨rfl, HB1.out⟩
    · have c2 : 30 < a0 := by omega
      clear hc
      go_wp2
      go_ret
      exact ⟨rfl, HB1.out⟩

set_option maxRecDepth 100000 in
theorem lifted (os : Os) (started : os.Started) (H : Type) (enc : TypeId × Value → H) :
    ReturnsInHanded {} Try.checked os 7 .any (Rows.logConfSpec.pre6 enc Try.prog Try.f7 Rows.logConfRow.domain false) (Rows.logConfSpec.post enc Try.prog Try.f7 false true false false) := by
  refine returnsInHanded_of_change (C := Try.checked) own started (by kernel_rfl) Try.func7
    (ChangeSpec.witness6 (enc := enc) (C := Try.checked) false ⟨#[], #[.int .i64 0, .slice none 0 0], []⟩ 8 (by kernel_rfl) (by kernel_rfl) (by kernel_rfl) (by kernel_rfl)) ?_
  intro W base args ds gs before hval0 hW hcnd _
  have hval : ∀ (j : Nat) t v, Try.f7.params[j]? = some t → args[j]? = some v → Value.okWide Try.prog W .any base t v := hval0
  have hW' := hW
  obtain ⟨p, q, hA0, hV, rfl, hfz, hnd⟩ := hW
  have hA : DataW.TrodAll enc Try.prog W 0 (fun _ => true) true Try.f7.params.toList args.toList ds p := hA0
  have hA1 := hA
  rw [Try.params7] at hA hval
  obtain ⟨v0, vs0, d0, ds0, p0, q0, hargs, rfl, rfl, h0, r0⟩ := trodAll_cons hA
  obtain ⟨v1, vs1, d1, ds1, p1, q1, rfl, rfl, rfl, h1, r1⟩ := trodAll_cons r0
  obtain ⟨rfl, rfl, rfl⟩ := trodAll_nil r1
  obtain rfl : args = #[v0, v1] := by cases args; simp_all
  obtain ⟨rfl, rfl⟩ := trodVars_none hV
  obtain ⟨a0, rfl, rfl, rfl, w0⟩ := open_int Try.underlying3 (hval 0 3 v0 rfl rfl) h0
  obtain ⟨A1, c1, a1, rfl, w1, x1⟩ := open_ints7 (hval 1 52 v1 rfl rfl) h1
  clear hA0 hval0
  simp only [List.append_nil] at hW'
  try simp only [List.append_nil] at hA1
  refine (walk W a0 w0 A1 c1 a1 w1 x1).mono fun e W' ⟨he, hg⟩ => ?_
  subst he
  exact ⟨_, rfl, law_end Try.laidOut (by kernel_rfl) hW' hA1 hg rfl rfl rfl (trodAll_mk1 (shut_bool Try.underlying4 _))⟩

theorem over : Rows.logConfRow.holds Try.pinned (OpenSpec.ofChange Rows.logConfSpec) :=
  OpenClaim.holds_of_wide 7 Try.f7 rfl rfl rfl rfl rfl rfl rfl ⟨rfl, rfl, rfl, rfl, rfl⟩ rfl rfl rfl rfl rfl (by kernel_rfl) Try.func7 (by kernel_rfl)
    (of_decide_eq_true (by kernel_rfl)) (by unfold Func.isWrapper; first | (rw [if_pos (by decide +kernel)]; kernel_rfl) | (rw [if_neg (by decide +kernel)]; exact ⟨rfl, rfl⟩))
    (fun os started H enc _ => lifted os started H enc)

/-- the statement -/
theorem proved : Rows.LogConfSaid := over
#print axioms proved
end Go.Proofs.Ytmmlkfkepncpgaa.logConf
