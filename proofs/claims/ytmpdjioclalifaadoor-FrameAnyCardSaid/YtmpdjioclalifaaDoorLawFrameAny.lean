/-
  Any bytes begin with a frame, with the beginning of one, or with none. There are no conditions; package crc's table is as the program's text lays it.
-/
import Derived.Test.YtmpdjioclalifaaDoorRows
import Derived.Test.YtmpdjioclalifaaDoorCards
import Derived.Test.YtmpdjioclalifaaDoorTie
import Derived.Test.YtmpdjioclalifaaDoorDoorKit
import Derived.SevenTiedAt
import Derived.Test.YtmpdjioclalifaaDoorL8Begun
import Derived.Test.YtmpdjioclalifaaDoorL4Cut
import Derived.Test.YtmpdjioclalifaaDoorReSeal
import Derived.Test.YtmpdjioclalifaaDoorL8Set
import Derived.Test.YtmpdjioclalifaaDoorL8Tells
import Derived.Test.YtmpdjioclalifaaDoorLawKit
import Derived.WalkKit
import Derived.ProofKit
import Derived.OpenShut
import Derived.ShutString
set_option linter.unusedSimpArgs false
set_option linter.unusedVariables false
namespace Go.Proofs.YtmpdjioclalifaaDoor.frameAny
open Go.ChangeShapes Go.WideShapes Go.ChangeAt Go.RowKit
open Go.ChangeMaps (open_string shut_string)
set_option linter.unusedVariables false

theorem own : ownKnob Tryd.prog.godebug = none := by kernel_rfl

set_option maxRecDepth 100000 in
set_option maxHeartbeats 8000000 in
theorem walk (w : World) (A0 : Option Addr) (c0 : Nat) (a0 : List UInt8) (w0 : Byt w w.heap.size (.slice A0 a0.length c0) a0) (x0 : a0.length ≤ maxLen) (A1 : Option Addr) (c1 : Nat) (a1 : List UInt8) (w1 : Byt w w.heap.size (.slice A1 a1.length c1) a1) (x1 : a1.length ≤ maxLen) (a2 : Int) (w2 : (Lit.int .i64 a2).wf = true) (a3 : Int) (w3 : (Lit.int .i64 a3).wf = true) (a4 : Int) (w4 : (Lit.int .i64 a4).wf = true) (a5 : Int) (w5 : (Lit.int .u8 a5).wf = true) (hT : Tbl w) :
    Calls Tryd.prog 4 #[.slice A0 a0.length c0, .slice A1 a1.length c1, .int .i64 a2, .int .i64 a3, .int .i64 a4, .int .u8 a5] w fun e w' => e = .returned (.bool true) ∧ Below w.heap.size w w' := by
  have HA0 := Lib.hid w0; have HF0 := Lib.hid x0; clear w0 x0
  have HA1 := Lib.hid w1; have HF1 := Lib.hid x1; clear w1 x1
  have HT := Lib.hid hT; clear hT
  go_enter Tryd.func4, Tryd.ntmps4
  go_wp2_with fail
  refine (begun8_any w HT.out).mono ?_
  rintro e w1 ⟨rfl, hb1⟩
  have HT1 := Lib.hid (tbl_keep HT.out hb1)
  clear HT
  have hw3 := bounds_i64 w3; have hw4 := bounds_i64 w4
  have HA := Lib.hid (HA0.out.below hb1 (Nat.le_refl _)); have HC := Lib.hid (HA1.out.below hb1 (Nat.le_refl _))
  clear w2 w3 w4
  go_wp2_with fail
  refine (short_any A1 a1.length c1 w.heap.size 60 a1 w1 HC.out (by omega)).mono ?_
  rintro e w1' ⟨A4, c4, rfl, hby4, rfl⟩
  have hl4 : (a1.take 60).length ≤ 60 := by rw [List.length_take]; omega
  obtain ⟨r, hr⟩ : ∃ r, a1.take 60 = r := ⟨_, rfl⟩
  rw [hr] at hby4 hl4 ⊢
  have HRr := Lib.hid hby4; have HR4 := Lib.hid hl4
  clear hr HC hl4 hby4
  go_wp2_with fail
  refine (short_any A0 a0.length c0 w.heap.size 200 a0 w1 HA.out (by omega)).mono ?_
  rintro e w1' ⟨A3, c3, rfl, hby3, rfl⟩
  have hl3 : (a0.take 200).length ≤ 200 := by rw [List.length_take]; omega
  obtain ⟨l, hl⟩ : ∃ l, a0.take 200 = l := ⟨_, rfl⟩
  rw [hl] at hby3 hl3 ⊢
  clear hl HA
  go_wp2_with fail
  refine (rseal_any a2 _ _ l w1 hby3 hb1.size (by omega)).mono ?_
  rintro e w4 ⟨v, rfl, ho2, hb2⟩
  have HTB := Lib.hid (tbl_keep HT1.out hb2)
  have HRB := Lib.hid (HRr.out.below hb2 hb1.size)
  have hww := hb1.size
  have hb : Below w.heap.size w w4 := hb1.trans (hb2.mono hb1.size)
  have hsl := sealB_short a2 l
  obtain ⟨s, hs⟩ : ∃ s, sealB a2 l = s := ⟨_, rfl⟩
  rw [hs] at ho2 hsl
  obtain ⟨A6, c6, hv6⟩ := own_slice ho2
  subst hv6
  have HOQ := Lib.hid ho2
  have hhead := own_head ho2
  have HOW := Lib.hid hhead
  have hbyt := Byt.of_own ho2
  have hcl := (byt_len hbyt).2
  have HBY := Lib.hid hbyt
  clear hs ho2 hb2 hby3 hl3 HRr hb1 hbyt hhead
  by_cases hc0 : 0 < a3
  · by_cases hc1 : a3 ≤ (s.length : Int)
    · obtain ⟨m, hm⟩ : ∃ m : Nat, (s.length : Int) - a3 = (m : Int) := ⟨((s.length : Int) - a3).toNat, by omega⟩
      have hms : m ≤ s.length := by omega
      obtain ⟨s2, hs2⟩ : ∃ s2, s.take m = s2 := ⟨_, rfl⟩
      have hml : m = s2.length := by rw [← hs2, List.length_take]; omega
      have hby2 := byt_take2 (n := m) HBY.out hms
      rw [hs2] at hby2
      have HBY2 := Lib.hid hby2
      have HOW2 := Lib.hid (fun (h : 1 ≤ m) => HOW.out (by omega))
      have k0 : 0 ≤ (s.length : Int) - a3 := by omega
      have k1 : (s.length : Int) - a3 ≤ c6 := by omega
      have k2 : ((s.length : Int) - a3).toNat = m := by omega
      have hs2l : s2.length ≤ 4007 := by omega
      clear hs2 hby2 HBY HOW hms
      subst hml
      have HBY := HBY2; have HOW := HOW2
      clear HBY2 HOW2
      by_cases h0 : s2.length = 0
      · have h00 : ((s2.length : Nat) : Int) = 0 := by omega
        have hs0 : s2 = [] := List.length_eq_zero_iff.1 h0
        have hb0 : Byt w4 w4.heap.size (.slice A6 0 c6) [] := by have := HBY.out; rw [hs0] at this; exact this
        have HST := Lib.hid hb0; have HRW := HRB; have HT3 := HTB
        clear h0 hs0 hb0 HBY HRB HTB HOW
        go_wp2_with fail
        refine (tells8_any _ _ r _ HRW.out (by have := hb.size; first | exact hb.size | omega) (by have := HR4.out; omega) HT3.out).mono ?_
        rintro e w7 ⟨rfl, hb7⟩
        have HST2 := Lib.hid (HST.out.below hb7 (by first | exact Nat.le_refl _ | (simp; done)))
        have HT4 := Lib.hid (tbl_keep HT3.out hb7)
        have hz7 := hb7.size
        have hb9 : Below w.heap.size w w7 := hb.trans (hb7.mono hb.size)
        clear hb7 HST HT3 hb HRW
        go_wp2_with fail
        refine (tells8_any _ _ [] _ HST2.out (by first | exact hz7 | (simp at hz7; exact hz7)) (by first | (simp; done) | omega | (simp; omega)) HT4.out).mono ?_
        rintro e w8 ⟨rfl, hb8⟩
        have hb : Below w.heap.size w w8 := hb9.trans (hb8.mono hb9.size)
        clear hb8 HST2 HT4 hb9
        go_wp2
        go_ret
        exact ⟨rfl, hb⟩
      · have h00 : ¬ ((s2.length : Nat) : Int) = 0 := by omega
        have h01 : 0 < ((s2.length : Nat) : Int) := by omega
        have h02 : (((s2.length : Nat) : Int) == 0) = false := by rw [beq_eq_false_iff_ne]; exact h00
        by_cases h4 : a4 < 0
        · have HST := HBY; have HRW := HRB; have HT3 := HTB
          clear h0 HBY HRB HTB HOW
          go_wp2_with fail
          refine (tells8_any _ _ r _ HRW.out (by have := hb.size; first | exact hb.size | omega) (by have := HR4.out; omega) HT3.out).mono ?_
          rintro e w7 ⟨rfl, hb7⟩
          have HST2 := Lib.hid (HST.out.below hb7 (by first | exact Nat.le_refl _ | (simp; done)))
          have HT4 := Lib.hid (tbl_keep HT3.out hb7)
          have hz7 := hb7.size
          have hb9 : Below w.heap.size w w7 := hb.trans (hb7.mono hb.size)
          clear hb7 HST HT3 hb HRW
          go_wp2_with fail
          refine (tells8_any _ _ s2 _ HST2.out (by first | exact hz7 | (simp at hz7; exact hz7)) (by first | (simp; done) | omega | (simp; omega)) HT4.out).mono ?_
          rintro e w8 ⟨rfl, hb8⟩
          have hb : Below w.heap.size w w8 := hb9.trans (hb8.mono hb9.size)
          clear hb8 HST2 HT4 hb9
          go_wp2
          go_ret
          exact ⟨rfl, hb⟩
        · obtain ⟨g, rfl, hg1, hg2, hfz⟩ := HOW.out (by omega)
          obtain ⟨j, hj⟩ : ∃ j : Nat, a4 % ((s2.length : Nat) : Int) = (j : Int) := ⟨(a4 % ((s2.length : Nat) : Int)).toNat, by have := Int.emod_nonneg a4 h00; omega⟩
          have hjm : j < s2.length := by have := Int.emod_lt_of_pos a4 h01; omega
          have hjl : j < s2.length := by omega
          have hx5 := bounds_u8 w5
          obtain ⟨X, rfl⟩ : ∃ X : UInt8, a5 = (X.toNat : Int) := ⟨a5.toNat.toUInt8, by rw [Nu.u8n _ (by omega)]; omega⟩
          obtain ⟨A', c', hv', hc', hcell'⟩ := id HBY.out
          injection hv' with e1 e2 e3
          subst e1
          subst e3
          clear e2
          obtain ⟨g', o', hA', hg', hcs⟩ := hcell' (by omega)
          injection hA' with hA'
          obtain ⟨rfl, rfl⟩ : g = g' ∧ 0 = o' := by injection hA' with a b; exact ⟨a, b⟩
          have hcj := hcs j hjl
          rw [Nat.zero_add] at hcj
          have hfj := hfz j
          obtain ⟨y, hy⟩ : ∃ y, s2[j] ^^^ X = y := ⟨_, rfl⟩
          have hxor : bits BinOp.xor IntKind.u8 (s2[j].toNat : Int) (X.toNat : Int) = (y.toNat : Int) := by rw [u8_xor, hy]
          have hby := byt_set (y := y) HBY.out hjl
          have HST := Lib.hid hby
          obtain ⟨cj, hcje⟩ : ∃ cj : Nat, s2[j].toNat = cj := ⟨_, rfl⟩
          rw [hcje] at hcj hxor
          have hT9 : Tbl (w4.setCell ⟨g, j, none⟩ (.int .u8 (y.toNat : Int))) := fun k hk => (World.cell?_setCell_other _ _ _ _ (fun e => by
            have e1 : g = 0 := congrArg Addr.block e
            have := tbl_lt HT1.out
            omega)).trans (HTB.out k hk)
          have HT3 := Lib.hid hT9
          have hb9 : Below w.heap.size w (w4.setCell ⟨g, j, none⟩ (.int .u8 (y.toNat : Int))) := hb.setCell (show w.heap.size ≤ g by omega) _
          have hrw : Byt (w4.setCell ⟨g, j, none⟩ (.int .u8 (y.toNat : Int))) w.heap.size (.slice A4 r.length c4) r := HRB.out.below ((Below.refl w.heap.size w4).setCell (show w.heap.size ≤ g by omega) _) (Nat.le_refl _)
          have HRW := Lib.hid hrw
          clear hby hT9 hcs hfz hcell' hy hrw hcje HBY HRB HTB h0 hb
          have hb := hb9
          clear hb9
          go_wp2_with fail
          refine (tells8_any _ _ r _ HRW.out (by have := hb.size; first | exact hb.size | omega) (by have := HR4.out; omega) HT3.out).mono ?_
          rintro e w7 ⟨rfl, hb7⟩
          have HST2 := Lib.hid (HST.out.below hb7 (by first | exact Nat.le_refl _ | (simp; done)))
          have HT4 := Lib.hid (tbl_keep HT3.out hb7)
          have hz7 := hb7.size
          have hb9 : Below w.heap.size w w7 := hb.trans (hb7.mono hb.size)
          clear hb7 HST HT3 hb HRW
          go_wp2_with fail
          refine (tells8_any _ _ (s2.set j y) _ HST2.out (by first | exact hz7 | (simp at hz7; exact hz7)) (by first | (simp; done) | omega | (simp; omega)) HT4.out).mono ?_
          rintro e w8 ⟨rfl, hb8⟩
          have hb : Below w.heap.size w w8 := hb9.trans (hb8.mono hb9.size)
          clear hb8 HST2 HT4 hb9
          go_wp2
          go_ret
          exact ⟨rfl, hb⟩
    · have HBY2 := HBY
      by_cases h0 : s.length = 0
      · have h00 : ((s.length : Nat) : Int) = 0 := by omega
        have hs0 : s = [] := List.length_eq_zero_iff.1 h0
        have hb0 : Byt w4 w4.heap.size (.slice A6 0 c6) [] := by have := HBY.out; rw [hs0] at this; exact this
        have HST := HBY; have HRW := HRB; have HT3 := HTB
        clear h0 hs0 hb0 HBY HRB HTB HOW
        go_wp2_with fail
        refine (tells8_any _ _ r _ HRW.out (by have := hb.size; first | exact hb.size | omega) (by have := HR4.out; omega) HT3.out).mono ?_
        rintro e w7 ⟨rfl, hb7⟩
        have HST2 := Lib.hid (HST.out.below hb7 (by first | exact Nat.le_refl _ | (simp; done)))
        have HT4 := Lib.hid (tbl_keep HT3.out hb7)
        have hz7 := hb7.size
        have hb9 : Below w.heap.size w w7 := hb.trans (hb7.mono hb.size)
        clear hb7 HST HT3 hb HRW
        go_wp2_with fail
        refine (tells8_any _ _ s _ HST2.out (by first | exact hz7 | (simp at hz7; exact hz7)) (by first | (simp; done) | omega | (simp; omega)) HT4.out).mono ?_
        rintro e w8 ⟨rfl, hb8⟩
        have hb : Below w.heap.size w w8 := hb9.trans (hb8.mono hb9.size)
        clear hb8 HST2 HT4 hb9
        go_wp2
        go_ret
        exact ⟨rfl, hb⟩
      · have h00 : ¬ ((s.length : Nat) : Int) = 0 := by omega
        have h01 : 0 < ((s.length : Nat) : Int) := by omega
        have h02 : (((s.length : Nat) : Int) == 0) = false := by rw [beq_eq_false_iff_ne]; exact h00
        by_cases h4 : a4 < 0
        · have HST := HBY; have HRW := HRB; have HT3 := HTB
          clear h0 HBY HRB HTB HOW
          go_wp2_with fail
          refine (tells8_any _ _ r _ HRW.out (by have := hb.size; first | exact hb.size | omega) (by have := HR4.out; omega) HT3.out).mono ?_
          rintro e w7 ⟨rfl, hb7⟩
          have HST2 := Lib.hid (HST.out.below hb7 (by first | exact Nat.le_refl _ | (simp; done)))
          have HT4 := Lib.hid (tbl_keep HT3.out hb7)
          have hz7 := hb7.size
          have hb9 : Below w.heap.size w w7 := hb.trans (hb7.mono hb.size)
          clear hb7 HST HT3 hb HRW
          go_wp2_with fail
          refine (tells8_any _ _ s _ HST2.out (by first | exact hz7 | (simp at hz7; exact hz7)) (by first | (simp; done) | omega | (simp; omega)) HT4.out).mono ?_
          rintro e w8 ⟨rfl, hb8⟩
          have hb : Below w.heap.size w w8 := hb9.trans (hb8.mono hb9.size)
          clear hb8 HST2 HT4 hb9
          go_wp2
          go_ret
          exact ⟨rfl, hb⟩
        · obtain ⟨g, rfl, hg1, hg2, hfz⟩ := HOW.out (by omega)
          obtain ⟨j, hj⟩ : ∃ j : Nat, a4 % ((s.length : Nat) : Int) = (j : Int) := ⟨(a4 % ((s.length : Nat) : Int)).toNat, by have := Int.emod_nonneg a4 h00; omega⟩
          have hjm : j < s.length := by have := Int.emod_lt_of_pos a4 h01; omega
          have hjl : j < s.length := by omega
          have hx5 := bounds_u8 w5
          obtain ⟨X, rfl⟩ : ∃ X : UInt8, a5 = (X.toNat : Int) := ⟨a5.toNat.toUInt8, by rw [Nu.u8n _ (by omega)]; omega⟩
          obtain ⟨A', c', hv', hc', hcell'⟩ := id HBY.out
          injection hv' with e1 e2 e3
          subst e1
          subst e3
          clear e2
          obtain ⟨g', o', hA', hg', hcs⟩ := hcell' (by omega)
          injection hA' with hA'
          obtain ⟨rfl, rfl⟩ : g = g' ∧ 0 = o' := by injection hA' with a b; exact ⟨a, b⟩
          have hcj := hcs j hjl
          rw [Nat.zero_add] at hcj
          have hfj := hfz j
          obtain ⟨y, hy⟩ : ∃ y, s[j] ^^^ X = y := ⟨_, rfl⟩
          have hxor : bits BinOp.xor IntKind.u8 (s[j].toNat : Int) (X.toNat : Int) = (y.toNat : Int) := by rw [u8_xor, hy]
          have hby := byt_set (y := y) HBY.out hjl
          have HST := Lib.hid hby
          obtain ⟨cj, hcje⟩ : ∃ cj : Nat, s[j].toNat = cj := ⟨_, rfl⟩
          rw [hcje] at hcj hxor
          have hT9 : Tbl (w4.setCell ⟨g, j, none⟩ (.int .u8 (y.toNat : Int))) := fun k hk => (World.cell?_setCell_other _ _ _ _ (fun e => by
            have e1 : g = 0 := congrArg Addr.block e
            have := tbl_lt HT1.out
            omega)).trans (HTB.out k hk)
          have HT3 := Lib.hid hT9
          have hb9 : Below w.heap.size w (w4.setCell ⟨g, j, none⟩ (.int .u8 (y.toNat : Int))) := hb.setCell (show w.heap.size ≤ g by omega) _
          have hrw : Byt (w4.setCell ⟨g, j, none⟩ (.int .u8 (y.toNat : Int))) w.heap.size (.slice A4 r.length c4) r := HRB.out.below ((Below.refl w.heap.size w4).setCell (show w.heap.size ≤ g by omega) _) (Nat.le_refl _)
          have HRW := Lib.hid hrw
          clear hby hT9 hcs hfz hcell' hy hrw hcje HBY HRB HTB h0 hb
          have hb := hb9
          clear hb9
          go_wp2_with fail
          refine (tells8_any _ _ r _ HRW.out (by have := hb.size; first | exact hb.size | omega) (by have := HR4.out; omega) HT3.out).mono ?_
          rintro e w7 ⟨rfl, hb7⟩
          have HST2 := Lib.hid (HST.out.below hb7 (by first | exact Nat.le_refl _ | (simp; done)))
          have HT4 := Lib.hid (tbl_keep HT3.out hb7)
          have hz7 := hb7.size
          have hb9 : Below w.heap.size w w7 := hb.trans (hb7.mono hb.size)
          clear hb7 HST HT3 hb HRW
          go_wp2_with fail
          refine (tells8_any _ _ (s.set j y) _ HST2.out (by first | exact hz7 | (simp at hz7; exact hz7)) (by first | (simp; done) | omega | (simp; omega)) HT4.out).mono ?_
          rintro e w8 ⟨rfl, hb8⟩
          have hb : Below w.heap.size w w8 := hb9.trans (hb8.mono hb9.size)
          clear hb8 HST2 HT4 hb9
          go_wp2
          go_ret
          exact ⟨rfl, hb⟩
  · have HBY2 := HBY
    by_cases h0 : s.length = 0
    · have h00 : ((s.length : Nat) : Int) = 0 := by omega
      have hs0 : s = [] := List.length_eq_zero_iff.1 h0
      have hb0 : Byt w4 w4.heap.size (.slice A6 0 c6) [] := by have := HBY.out; rw [hs0] at this; exact this
      have HST := HBY; have HRW := HRB; have HT3 := HTB
      clear h0 hs0 hb0 HBY HRB HTB HOW
      go_wp2_with fail
      refine (tells8_any _ _ r _ HRW.out (by have := hb.size; first | exact hb.size | omega) (by have := HR4.out; omega) HT3.out).mono ?_
      rintro e w7 ⟨rfl, hb7⟩
      have HST2 := Lib.hid (HST.out.below hb7 (by first | exact Nat.le_refl _ | (simp; done)))
      have HT4 := Lib.hid (tbl_keep HT3.out hb7)
      have hz7 := hb7.size
      have hb9 : Below w.heap.size w w7 := hb.trans (hb7.mono hb.size)
      clear hb7 HST HT3 hb HRW
      go_wp2_with fail
      refine (tells8_any _ _ s _ HST2.out (by first | exact hz7 | (simp at hz7; exact hz7)) (by first | (simp; done) | omega | (simp; omega)) HT4.out).mono ?_
      rintro e w8 ⟨rfl, hb8⟩
      have hb : Below w.heap.size w w8 := hb9.trans (hb8.mono hb9.size)
      clear hb8 HST2 HT4 hb9
      go_wp2
      go_ret
      exact ⟨rfl, hb⟩
    · have h00 : ¬ ((s.length : Nat) : Int) = 0 := by omega
      have h01 : 0 < ((s.length : Nat) : Int) := by omega
      have h02 : (((s.length : Nat) : Int) == 0) = false := by rw [beq_eq_false_iff_ne]; exact h00
      by_cases h4 : a4 < 0
      · have HST := HBY; have HRW := HRB; have HT3 := HTB
        clear h0 HBY HRB HTB HOW
        go_wp2_with fail
        refine (tells8_any _ _ r _ HRW.out (by have := hb.size; first | exact hb.size | omega) (by have := HR4.out; omega) HT3.out).mono ?_
        rintro e w7 ⟨rfl, hb7⟩
        have HST2 := Lib.hid (HST.out.below hb7 (by first | exact Nat.le_refl _ | (simp; done)))
        have HT4 := Lib.hid (tbl_keep HT3.out hb7)
        have hz7 := hb7.size
        have hb9 : Below w.heap.size w w7 := hb.trans (hb7.mono hb.size)
        clear hb7 HST HT3 hb HRW
        go_wp2_with fail
        refine (tells8_any _ _ s _ HST2.out (by first | exact hz7 | (simp at hz7; exact hz7)) (by first | (simp; done) | omega | (simp; omega)) HT4.out).mono ?_
        rintro e w8 ⟨rfl, hb8⟩
        have hb : Below w.heap.size w w8 := hb9.trans (hb8.mono hb9.size)
        clear hb8 HST2 HT4 hb9
        go_wp2
        go_ret
        exact ⟨rfl, hb⟩
      · obtain ⟨g, rfl, hg1, hg2, hfz⟩ := HOW.out (by omega)
        obtain ⟨j, hj⟩ : ∃ j : Nat, a4 % ((s.length : Nat) : Int) = (j : Int) := ⟨(a4 % ((s.length : Nat) : Int)).toNat, by have := Int.emod_nonneg a4 h00; omega⟩
        have hjm : j < s.length := by have := Int.emod_lt_of_pos a4 h01; omega
        have hjl : j < s.length := by omega
        have hx5 := bounds_u8 w5
        obtain ⟨X, rfl⟩ : ∃ X : UInt8, a5 = (X.toNat : Int) := ⟨a5.toNat.toUInt8, by rw [Nu.u8n _ (by omega)]; omega⟩
        obtain ⟨A', c', hv', hc', hcell'⟩ := id HBY.out
        injection hv' with e1 e2 e3
        subst e1
        subst e3
        clear e2
        obtain ⟨g', o', hA', hg', hcs⟩ := hcell' (by omega)
        injection hA' with hA'
        obtain ⟨rfl, rfl⟩ : g = g' ∧ 0 = o' := by injection hA' with a b; exact ⟨a, b⟩
        have hcj := hcs j hjl
        rw [Nat.zero_add] at hcj
        have hfj := hfz j
        obtain ⟨y, hy⟩ : ∃ y, s[j] ^^^ X = y := ⟨_, rfl⟩
        have hxor : bits BinOp.xor IntKind.u8 (s[j].toNat : Int) (X.toNat : Int) = (y.toNat : Int) := by rw [u8_xor, hy]
        have hby := byt_set (y := y) HBY.out hjl
        have HST := Lib.hid hby
        obtain ⟨cj, hcje⟩ : ∃ cj : Nat, s[j].toNat = cj := ⟨_, rfl⟩
        rw [hcje] at hcj hxor
        have hT9 : Tbl (w4.setCell ⟨g, j, none⟩ (.int .u8 (y.toNat : Int))) := fun k hk => (World.cell?_setCell_other _ _ _ _ (fun e => by
          have e1 : g = 0 := congrArg Addr.block e
          have := tbl_lt HT1.out
          omega)).trans (HTB.out k hk)
        have HT3 := Lib.hid hT9
        have hb9 : Below w.heap.size w (w4.setCell ⟨g, j, none⟩ (.int .u8 (y.toNat : Int))) := hb.setCell (show w.heap.size ≤ g by omega) _
        have hrw : Byt (w4.setCell ⟨g, j, none⟩ (.int .u8 (y.toNat : Int))) w.heap.size (.slice A4 r.length c4) r := HRB.out.below ((Below.refl w.heap.size w4).setCell (show w.heap.size ≤ g by omega) _) (Nat.le_refl _)
        have HRW := Lib.hid hrw
        clear hby hT9 hcs hfz hcell' hy hrw hcje HBY HRB HTB h0 hb
        have hb := hb9
        clear hb9
        go_wp2_with fail
        refine (tells8_any _ _ r _ HRW.out (by have := hb.size; first | exact hb.size | omega) (by have := HR4.out; omega) HT3.out).mono ?_
        rintro e w7 ⟨rfl, hb7⟩
        have HST2 := Lib.hid (HST.out.below hb7 (by first | exact Nat.le_refl _ | (simp; done)))
        have HT4 := Lib.hid (tbl_keep HT3.out hb7)
        have hz7 := hb7.size
        have hb9 : Below w.heap.size w w7 := hb.trans (hb7.mono hb.size)
        clear hb7 HST HT3 hb HRW
        go_wp2_with fail
        refine (tells8_any _ _ (s.set j y) _ HST2.out (by first | exact hz7 | (simp at hz7; exact hz7)) (by first | (simp; done) | omega | (simp; omega)) HT4.out).mono ?_
        rintro e w8 ⟨rfl, hb8⟩
        have hb : Below w.heap.size w w8 := hb9.trans (hb8.mono hb9.size)
        clear hb8 HST2 HT4 hb9
        go_wp2
        go_ret
        exact ⟨rfl, hb⟩

set_option maxRecDepth 100000 in
theorem lifted (os : Os) (started : os.Started) (H : Type) (enc : TypeId × Value → H) :
    ReturnsInHanded {} Tryd.checked os 4 .any (fun w args => (Rows.frameAnySpec.pre enc Tryd.prog Tryd.f4 [] false w args ∧ laidMetH Tryd.prog laidS w) ∧ sizedMet enc Tryd.prog Tryd.f4 (OpenSpec.ofChange Rows.frameAnySpec) false w args) (Rows.frameAnySpec.post enc Tryd.prog Tryd.f4 false true false false) := by
  refine returnsInHanded_of_change_and (C := Tryd.checked) (X := fun w _ => laidMetH Tryd.prog laidS w) (fun _ _ _ hh h => h.of_heap hh) own started (by kernel_rfl) Tryd.func4
    (ChangeSpec.witness_at (enc := enc) (C := Tryd.checked) (os := os) (X := fun w _ => laidMetH Tryd.prog laidS w) false (laidWorld os) #[.slice none 0 0, .slice none 0 0, .int .i64 0, .int .i64 0, .int .i64 0, .int .u8 0] 8 rfl (by kernel_rfl) (by kernel_rfl) (by kernel_rfl) (by kernel_rfl) (by kernel_rfl) (laid_met os _)) ?_
  intro W base args ds gs before hval0 hW hcnd _ hL _
  have hT := tbl_of_laid hL
  have hval : ∀ (j : Nat) t v, Tryd.f4.params[j]? = some t → args[j]? = some v → Value.okWide Tryd.prog W .any base t v := hval0
  have hW' := hW
  obtain ⟨p, q, hA0, hV, rfl, hfz, hnd⟩ := hW
  have hA : DataW.TrodAll enc Tryd.prog W 0 (fun _ => true) true Tryd.f4.params.toList args.toList ds p := hA0
  have hA1 := hA
  rw [Tryd.params4] at hA hval
  obtain ⟨v0, vs0, d0, ds0, p0, q0, hargs, rfl, rfl, h0, r0⟩ := trodAll_cons hA
  obtain ⟨v1, vs1, d1, ds1, p1, q1, rfl, rfl, rfl, h1, r1⟩ := trodAll_cons r0
  obtain ⟨v2, vs2, d2, ds2, p2, q2, rfl, rfl, rfl, h2, r2⟩ := trodAll_cons r1
  obtain ⟨v3, vs3, d3, ds3, p3, q3, rfl, rfl, rfl, h3, r3⟩ := trodAll_cons r2
  obtain ⟨v4, vs4, d4, ds4, p4, q4, rfl, rfl, rfl, h4, r4⟩ := trodAll_cons r3
  obtain ⟨v5, vs5, d5, ds5, p5, q5, rfl, rfl, rfl, h5, r5⟩ := trodAll_cons r4
  obtain ⟨rfl, rfl, rfl⟩ := trodAll_nil r5
  obtain rfl : args = #[v0, v1, v2, v3, v4, v5] := by cases args; simp_all
  obtain ⟨rfl, rfl⟩ := trodVars_none hV
  obtain ⟨A0, c0, a0, rfl, w0, x0⟩ := open_bytes (hval 0 22 v0 rfl rfl) h0
  obtain ⟨A1, c1, a1, rfl, w1, x1⟩ := open_bytes (hval 1 22 v1 rfl rfl) h1
  obtain ⟨a2, rfl, rfl, rfl, w2⟩ := open_int Tryd.underlying3 (hval 2 3 v2 rfl rfl) h2
  obtain ⟨a3, rfl, rfl, rfl, w3⟩ := open_int Tryd.underlying3 (hval 3 3 v3 rfl rfl) h3
  obtain ⟨a4, rfl, rfl, rfl, w4⟩ := open_int Tryd.underlying3 (hval 4 3 v4 rfl rfl) h4
  obtain ⟨a5, rfl, rfl, rfl, w5⟩ := open_int Tryd.underlying5 (hval 5 5 v5 rfl rfl) h5
  clear hA0 hval0
  simp only [List.append_nil] at hW'
  try simp only [List.append_nil] at hA1
  refine (walk W A0 c0 a0 w0 x0 A1 c1 a1 w1 x1 a2 w2 a3 w3 a4 w4 a5 w5 hT).mono fun e W' ⟨he, hg⟩ => ?_
  subst he
  exact ⟨_, rfl, law_end Tryd.laidOut (by kernel_rfl) hW' hA1 hg rfl rfl rfl (trodAll_mk1 (shut_bool Tryd.underlying4 _))⟩

theorem over : Rows.frameAnyRow.holds Tryd.pinned (OpenSpec.ofChange Rows.frameAnySpec) :=
  OpenClaim.holds_of_wide 4 Tryd.f4 rfl rfl rfl rfl rfl rfl rfl ⟨rfl, rfl, rfl, rfl, rfl⟩ rfl rfl rfl rfl rfl (by kernel_rfl) Tryd.func4 (by kernel_rfl)
    (of_decide_eq_true (by kernel_rfl)) (by unfold Func.isWrapper; first | (rw [if_pos (by decide +kernel)]; kernel_rfl) | (rw [if_neg (by decide +kernel)]; exact ⟨rfl, rfl⟩))
    (fun os started H enc _ => lifted os started H enc)


/-- the statement: the card, closed by the builder's one call -/
theorem proved : Rows.FrameAnyCardSaid :=
  Claim7.holds_tied_plain_at .later [] [.data] true Rows.frameAnyCard.stood.harness Rows.frameAnyCard.stood.looks
    over (fun _ h => by cases h) (by kernel_rfl) (fun _ h => by cases h) frameAny_row_tie rfl ⟨rfl, rfl⟩ (by kernel_rfl) rfl
    (fun f fn hf hfn => by
      obtain rfl : f = 4 := Option.some.inj ((show Tryd.prog.funcNamed "packhorse/packhorselaw8.FrameAny" = some 4 by kernel_rfl).symm.trans hf) |>.symm
      obtain rfl : fn = Tryd.f4 := (Option.some.inj (Tryd.func4.symm.trans hfn)).symm
      refine ⟨by kernel_rfl, fun j t ht => ?_⟩
      have h := List.all_eq_true.1 (show (Tryd.f4.params.toList.all fun t => !Tryd.prog.wantsStandIn t) = true by kernel_rfl) t (List.mem_of_getElem? (by simpa using ht))
      exact (show Tryd.prog.wantsStandIn t = false by simpa using h))
    (by kernel_rfl)
#print axioms proved
end Go.Proofs.YtmpdjioclalifaaDoor.frameAny
