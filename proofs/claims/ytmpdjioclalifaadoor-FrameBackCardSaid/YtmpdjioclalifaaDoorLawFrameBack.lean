/-
  What may be sealed is told again; what may not is not. There are no conditions; package crc's table is as the program's text lays it.
-/
import Derived.Test.YtmpdjioclalifaaDoorRows
import Derived.Test.YtmpdjioclalifaaDoorCards
import Derived.Test.YtmpdjioclalifaaDoorTie
import Derived.Test.YtmpdjioclalifaaDoorDoorKit
import Derived.SevenTiedAt
import Derived.Test.YtmpdjioclalifaaDoorL8Begun
import Derived.Test.YtmpdjioclalifaaDoorL4Cut
import Derived.Test.YtmpdjioclalifaaDoorReSeal
import Derived.Test.YtmpdjioclalifaaDoorL8Set
import Derived.Test.YtmpdjioclalifaaDoorL8Zer
import Derived.Test.YtmpdjioclalifaaDoorLawKit
import Derived.WalkKit
import Derived.ProofKit
import Derived.OpenShut
import Derived.ShutString
set_option linter.unusedSimpArgs false
set_option linter.unusedVariables false
namespace Go.Proofs.YtmpdjioclalifaaDoor.frameBack
open Go.ChangeShapes Go.WideShapes Go.ChangeAt Go.RowKit
open Go.ChangeMaps (open_string shut_string)
set_option linter.unusedVariables false

theorem own : ownKnob Tryd.prog.godebug = none := by kernel_rfl

set_option maxRecDepth 100000 in
set_option maxHeartbeats 8000000 in
theorem walk (w : World) (a0 : Int) (w0 : (Lit.int .i64 a0).wf = true) (A1 : Option Addr) (c1 : Nat) (a1 : List UInt8) (w1 : Byt w w.heap.size (.slice A1 a1.length c1) a1) (x1 : a1.length ≤ maxLen) (A2 : Option Addr) (c2 : Nat) (a2 : List UInt8) (w2 : Byt w w.heap.size (.slice A2 a2.length c2) a2) (x2 : a2.length ≤ maxLen) (a3 : Int) (w3 : (Lit.int .i64 a3).wf = true) (hT : Tbl w) :
    Calls Tryd.prog 3 #[.int .i64 a0, .slice A1 a1.length c1, .slice A2 a2.length c2, .int .i64 a3] w fun e w' => e = .returned (.bool true) ∧ Below w.heap.size w w' := by
  have HA1 := Lib.hid w1; have HF1 := Lib.hid x1; clear w1 x1
  have HA2 := Lib.hid w2; have HF2 := Lib.hid x2; clear w2 x2
  have HT := Lib.hid hT; clear hT
  go_enter Tryd.func3, Tryd.ntmps3
  go_wp2_with fail
  refine (begun8_any w HT.out).mono ?_
  rintro e w1 ⟨rfl, hb1⟩
  have HT1 := Lib.hid (tbl_keep HT.out hb1)
  clear HT
  have hw3 := bounds_i64 w3
  have HA := Lib.hid (HA1.out.below hb1 (Nat.le_refl _)); have HC := Lib.hid (HA2.out.below hb1 (Nat.le_refl _))
  go_wp2_with fail
  refine (short_any A1 a1.length c1 w.heap.size 100 a1 w1 HA.out (by omega)).mono ?_
  rintro e w1' ⟨A3, c3, rfl, hby3, rfl⟩
  have hl3 : (a1.take 100).length ≤ 100 := by rw [List.length_take]; omega
  obtain ⟨l, hl⟩ : ∃ l, a1.take 100 = l := ⟨_, rfl⟩
  rw [hl] at hby3 hl3 ⊢
  have HL3 := Lib.hid hl3
  clear hl HA hl3
  go_wp2_with (at_builtin; refine wpList_append_byt_at rfl _ _ rfl w1.heap.size _ _ _ _ _ rfl (ownB_nil w1.heap.size _) rfl hby3 ?x1 (Nat.le_refl _) ?_)
  case x1 => have := HL3.out; simp; omega
  intro v2 w2 hown2 hb2 _
  have ho2 : OwnB w1.heap.size v2 l w2 := by simpa using hown2
  have hlo2 := hb2.size
  have hww1 := hb1.size
  have hT0 := tbl_lt HT1.out
  have HC2 := Lib.hid (HC.out.below hb2 hb1.size)
  have HT2 := Lib.hid (tbl_keep HT1.out hb2)
  have hbW2 := hb1.trans (hb2.mono hb1.size)
  have HO2 := Lib.hid ho2
  clear hown2 ho2 hby3 HC hb2 HT1 hb1
  go_wp2_with fail
  refine (short_any A2 a2.length c2 w.heap.size 20 a2 w2 HC2.out (by omega)).mono ?_
  rintro e w1' ⟨A4, c4, rfl, hby4, rfl⟩
  have hl4 : (a2.take 20).length ≤ 20 := by rw [List.length_take]; omega
  obtain ⟨r, hr⟩ : ∃ r, a2.take 20 = r := ⟨_, rfl⟩
  rw [hr] at hby4 hl4 ⊢
  have HR := Lib.hid hby4; have HR4 := Lib.hid hl4
  obtain ⟨Av, cv, hv2⟩ := own_slice HO2.out
  subst hv2
  clear hr hby4 hl4 HC2
  by_cases hm0 : 0 < a3
  · by_cases hm1 : a3 < 4200
    · obtain ⟨n, rfl⟩ : ∃ n : Nat, a3 = (n : Int) := ⟨a3.toNat, by omega⟩
      have hn0 : 0 < n := by omega
      have hn1 : n ≤ 100000 := by omega
      have hnn : n ≤ 4200 := by omega
      go_wp2_with (at_builtin; refine wpList_append_zeros rfl _ _ rfl w1.heap.size _ l n rfl HO2.out rfl hn0 hn1 (by have := HL3.out; omega) ?x9 ?_)
      case x9 => exact hlo2
      intro v5 w5 ho5 hb5
      obtain ⟨b, hbe⟩ : ∃ b, l ++ List.replicate n 0 = b := ⟨_, rfl⟩
      have hbl : b.length ≤ 4300 := by have := HL3.out; rw [← hbe]; simp; omega
      rw [hbe] at ho5
      have HO := Lib.hid ho5
      have HRr := Lib.hid (HR.out.below hb5 hww1)
      have HT := Lib.hid (tbl_keep2 HT2.out hb5 hT0)
      have hbW := hbW2.trans (hb5.mono hww1)
      obtain ⟨AV, cV, hV⟩ := own_slice HO.out
      subst hV
      clear ho5 hb5 HO2 HR HT2 hbW2 hbe hm0 hm1 hn0 hn1 hnn hw3
      go_wp2_with fail
      refine (fseal_any a0 _ _ b w5 (Byt.of_own HO.out) (Nat.le_refl _) (by omega) HT.out).mono ?_
      rintro e w6 ⟨v6, rfl, ho6, hb6⟩
      have HOB := Lib.hid (HO.out.below hb6)
      have HRB := Lib.hid (HRr.out.below hb6 hbW.size)
      have HTB := Lib.hid (tbl_keep HT.out hb6)
      have hb : Below w.heap.size w w6 := hbW.trans (hb6.mono hbW.size)
      have hsl := sealB_short a0 b
      have HG := Lib.hid (sealB_some (k := a0) (l := b))
      obtain ⟨s, hs⟩ : ∃ s, sealB a0 b = s := ⟨_, rfl⟩
      have HSQ := Lib.hid hs
      rw [hs] at ho6 hsl HG
      obtain ⟨A6, c6, hv6⟩ := own_slice ho6
      subst hv6
      have HSB := Lib.hid ho6
      obtain ⟨S, hS⟩ : ∃ S, (⟨s.toArray⟩ : ByteArray) = S := ⟨_, rfl⟩
      have HSE := Lib.hid hS
      clear HO HRr HT hbW hb6 ho6 hs hS
      go_upto_region 8 with fail
      replace HOB := Lib.hid ((HOB.out).below ((Below.refl w6.heap.size w6).drew))
      replace HRB := Lib.hid ((HRB.out).below ((Below.refl w6.heap.size w6).drew) (by have := hb.size; omega))
      replace HTB := Lib.hid (tbl_keep (HTB.out) ((Below.refl w6.heap.size w6).drew))
      replace HSB := Lib.hid ((HSB.out).below ((Below.refl w6.heap.size w6).drew))
      have m1 : (convert 22 9 (.slice A6 s.length c6)).run Tryd.prog w6.drew = .ok (.string S) w6.drew := conv_byt (Byt.of_own HSB.out) HSE.out
      refine wp_region_noPanic ?_
      refine wp_region_held_drew (S := fun W => (convert 22 9 (.slice A6 s.length c6)).run Tryd.prog W = .ok (.string S) W) (by kernel_rfl) ?_ (fun hHeld => ?_)
      · exact m1
      replace hb : Below w.heap.size w w6.drew := hb.drew
      have hzd : w6.heap.size ≤ w6.drew.heap.size := Nat.le_refl _
      generalize w6.drew = k81 at *
      refine wpAnyH_take (i := 0) (oi := { dst := some 35, op := Op.move (Operand.tmp 10), type := 22, pos := "law.go:34", after := #[], guard := none }) (v := .slice A6 s.length c6) rfl (by kernel_rfl) (by kernel_rfl) (by kernel_rfl) (fun _ _ _ h => h) (Or.inl ⟨by rfl, fun w hSw => ?_⟩) (by assumption) ?_
      · (try dsimp only at hSw)
        go_simp
      try simp only [Act.put, List.setIfInBounds_toArray, List.set_cons_zero, List.set_cons_succ]
      refine wpAnyH_take (i := 1) (oi := { dst := some 36, op := Op.convert 22 9 (Operand.tmp 35), type := 9, pos := "law.go:34", after := #[{ on := 0, ground := Ground.data }], guard := none }) (v := .string S) rfl (by kernel_rfl) (by kernel_rfl) (by kernel_rfl) (fun _ _ _ h => h) (Or.inl ⟨by rfl, fun w hSw => ?_⟩) (by assumption) ?_
      · (try dsimp only at hSw)
        go_simp
      try simp only [Act.put, List.setIfInBounds_toArray, List.set_cons_zero, List.set_cons_succ]
      refine wpAnyH_take (i := 2) (oi := { dst := some 37, op := Op.move (Operand.tmp 0), type := 3, pos := "law.go:34", after := #[], guard := none }) (v := .int .i64 a0) rfl (by kernel_rfl) (by kernel_rfl) (by kernel_rfl) (fun _ _ _ h => h) (Or.inl ⟨by rfl, fun w hSw => ?_⟩) (by assumption) ?_
      · (try dsimp only at hSw)
        go_simp
      try simp only [Act.put, List.setIfInBounds_toArray, List.set_cons_zero, List.set_cons_succ]
      refine wpAnyH_take (i := 3) (oi := { dst := some 38, op := Op.move (Operand.tmp 1), type := 22, pos := "law.go:34", after := #[], guard := none }) (v := .slice AV b.length cV) rfl (by kernel_rfl) (by kernel_rfl) (by kernel_rfl) (fun _ _ _ h => h) (Or.inl ⟨by rfl, fun w hSw => ?_⟩) (by assumption) ?_
      · (try dsimp only at hSw)
        go_simp
      try simp only [Act.put, List.setIfInBounds_toArray, List.set_cons_zero, List.set_cons_succ]
      refine wpAnyH_ready (rs := [4]) (by kernel_rfl) (by simp) ?_
      refine AllReadyH.cons (o := { dst := some 39, op := Op.call { callee := Callee.value (Operand.func 12), args := #[Operand.tmp 37, Operand.tmp 38], argTypes := #[3, 22] }, type := 22, pos := "law.go:34", after := #[{ on := 2, ground := Ground.data }, { on := 3, ground := Ground.data }], guard := none }) rfl (fun K hK => ?_) (AllReadyH.nil)
      go_simp
      go_at_call 12
      refine (rseal_is a0 _ _ b s _ (Byt.of_own HOB.out) (Nat.le_refl _) (by omega) HSQ.out).mono ?_
      rintro e k82 ⟨v9, rfl, ho9, h⟩
      have hk : Below k81.heap.size k81 k82 := by
        refine Below.trans ?_ (h.mono (by first | (simp; done) | (simp; omega) | omega))
        repeat' (first | with_reducible exact Below.refl _ _ | (with_reducible refine Below.alloc ?_ ?_ _) | (with_reducible refine Below.setCell ?_ ?_ _) | exact (by first | (simp; done) | (simp; omega) | omega))
      have hz := h.size
      try simp at hz
      replace HOB := Lib.hid ((HOB.out).below hk)
      replace HRB := Lib.hid ((HRB.out).below hk (by have := hb.size; omega))
      replace HTB := Lib.hid (tbl_keep (HTB.out) hk)
      replace HSB := Lib.hid ((HSB.out).below hk)
      replace hb : Below w.heap.size w k82 := hb.trans (hk.mono hb.size)
      have m3 := conv_byt (Byt.of_own ho9) HSE.out
      clear ho9
      clear h hk
      have m1 : (convert 22 9 (.slice A6 s.length c6)).run Tryd.prog k82 = .ok (.string S) k82 := conv_byt (Byt.of_own HSB.out) HSE.out
      try dsimp only
      refine hK.out _ _ ?_ (fun hHeld => ?_)
      · exact m1
      clear hK K
      try simp only [Act.put, List.setIfInBounds_toArray, List.set_cons_zero, List.set_cons_succ]
      refine wpAnyH_ready (rs := [5]) (by kernel_rfl) (by simp) ?_
      refine AllReadyH.cons (o := { dst := some 40, op := Op.convert 22 9 (Operand.tmp 39), type := 9, pos := "law.go:34", after := #[{ on := 4, ground := Ground.data }], guard := none }) rfl (fun K hK => ?_) (AllReadyH.nil)
      go_simp
      refine hK.out _ _ ?_ (fun hHeld => ?_)
      · exact m1
      clear hK K
      try simp only [Act.put, List.setIfInBounds_toArray, List.set_cons_zero, List.set_cons_succ]
      refine wpAnyH_take (i := 6) (oi := { dst := some 41, op := Op.binOp BinOp.neq 9 (Operand.tmp 36) (Operand.tmp 40) 9, type := 4, pos := "law.go:34", after := #[{ on := 1, ground := Ground.data }, { on := 5, ground := Ground.data }], guard := none }) (v := .bool false) rfl (by kernel_rfl) (by kernel_rfl) (by kernel_rfl) (fun _ _ _ h => h) (Or.inl ⟨by rfl, fun w hSw => ?_⟩) (by assumption) ?_
      · (try dsimp only at hSw)
        go_simp
      try simp only [Act.put, List.setIfInBounds_toArray, List.set_cons_zero, List.set_cons_succ]
      refine wpAnyH_done (by kernel_rfl) ?_ _
      refine NoPanic.normal ?_
      try clear m1 m3
      by_cases h0 : s.length = 0
      · have h00 : (s.length : Int) = 0 := by omega
        have hcs : a0 < 1 ∨ (1 ≤ a0 ∧ 255 < a0) ∨ (1 ≤ a0 ∧ a0 ≤ 255 ∧ 4000 < (b.length : Int)) := by
          by_cases hgd : 1 ≤ a0 ∧ a0 ≤ 255 ∧ b.length ≤ 4000
          · have := sealB_len a0 b hgd.1 hgd.2.1 hgd.2.2
            rw [HSQ.out] at this
            omega
          · omega
        clear h0
        rcases hcs with h1 | ⟨h1, h2⟩ | ⟨h1, h2, h3⟩
        all_goals
          go_wp2
          go_ret
          exact ⟨rfl, hb⟩
      · have h00 : ((s.length : Int) == 0) = false := by rw [beq_eq_false_iff_ne]; omega
        obtain ⟨g1, g2, g3⟩ := HG.out (by omega)
        have hop := openB_seal a0 b r g1 g2 g3
        rw [HSQ.out] at hop
        have hka : ((a0.toNat : Nat) : Int) = a0 := by omega
        have HKA := Lib.hid hka
        have HOP := Lib.hid hop
        have hbs := Byt.of_own HSB.out
        have hsl1 : s.length ≤ 5000 := by omega
        clear hop h0 hka g3
        go_wp2_with (at_builtin; refine wpList_append_byt_at rfl _ _ rfl k82.heap.size _ _ _ _ _ rfl (ownB_nil k82.heap.size _) rfl hbs ?x1 (Nat.le_refl _) ?_)
        case x1 => simp; omega
        intro v7 w7 hown7 hb7 _
        have ho7 : OwnB k82.heap.size v7 s w7 := by simpa using hown7
        have hb7s := hb7.size
        have hbr := HRB.out.below hb7 hb.size
        clear hown7 hbs
        go_wp2_with (at_builtin; refine wpList_append_byt_at rfl _ _ rfl k82.heap.size _ _ _ _ _ rfl ho7 rfl hbr ?x2 hb7s ?_)
        case x2 => have := HR4.out; omega
        intro v8 w8 ho8 hb8 _
        have hb78 := hb7.trans hb8
        have HO8 := Lib.hid ho8; have HOC := Lib.hid (HOB.out.below hb78); have HTC := Lib.hid (tbl_keep HTB.out hb78)
        have hbv : Below w.heap.size w w8 := hb.trans (hb78.mono hb.size)
        clear ho7 hbr ho8 hb7 hb8 hb7s hb78 HOB HTB HRB HSB
        go_wp2_with fail
        refine (fopen_own _ _ (s ++ r) _ _ HO8.out (by have := HR4.out; simp; omega) HTC.out HOP.out).mono ?_
        rintro e w9 ⟨v9, rfl, ho9, hb9⟩
        have HOD := Lib.hid (HOC.out.below hb9)
        have hb : Below w.heap.size w w9 := hbv.trans (hb9.mono hbv.size)
        have HV9 := Lib.hid ho9
        obtain ⟨BS, hBS⟩ : ∃ BS, (⟨b.toArray⟩ : ByteArray) = BS := ⟨_, rfl⟩
        have m1 := conv_byt (Byt.of_own HV9.out) hBS
        have m2 := conv_byt (Byt.of_own HOD.out) hBS
        rw [HKA.out]
        clear hbv hb9 ho9 HOC HO8 HTC
        go_wp2
        go_ret
        exact ⟨rfl, hb⟩
    · have HO := HO2; have HRr := HR; have HT := HT2; have hbW := hbW2
      have hbl : l.length ≤ 4300 := by have := HL3.out; omega
      clear HO2 HR HT2 hbW2
      go_wp2_with fail
      refine (fseal_any a0 _ _ l w2 (Byt.of_own HO.out) (Nat.le_refl _) (by omega) HT.out).mono ?_
      rintro e w6 ⟨v6, rfl, ho6, hb6⟩
      have HOB := Lib.hid (HO.out.below hb6)
      have HRB := Lib.hid (HRr.out.below hb6 hbW.size)
      have HTB := Lib.hid (tbl_keep HT.out hb6)
      have hb : Below w.heap.size w w6 := hbW.trans (hb6.mono hbW.size)
      have hsl := sealB_short a0 l
      have HG := Lib.hid (sealB_some (k := a0) (l := l))
      obtain ⟨s, hs⟩ : ∃ s, sealB a0 l = s := ⟨_, rfl⟩
      have HSQ := Lib.hid hs
      rw [hs] at ho6 hsl HG
      obtain ⟨A6, c6, hv6⟩ := own_slice ho6
      subst hv6
      have HSB := Lib.hid ho6
      obtain ⟨S, hS⟩ : ∃ S, (⟨s.toArray⟩ : ByteArray) = S := ⟨_, rfl⟩
      have HSE := Lib.hid hS
      clear HO HRr HT hbW hb6 ho6 hs hS
      go_upto_region 8 with fail
      replace HOB := Lib.hid ((HOB.out).below ((Below.refl w6.heap.size w6).drew))
      replace HRB := Lib.hid ((HRB.out).below ((Below.refl w6.heap.size w6).drew) (by have := hb.size; omega))
      replace HTB := Lib.hid (tbl_keep (HTB.out) ((Below.refl w6.heap.size w6).drew))
      replace HSB := Lib.hid ((HSB.out).below ((Below.refl w6.heap.size w6).drew))
      have m1 : (convert 22 9 (.slice A6 s.length c6)).run Tryd.prog w6.drew = .ok (.string S) w6.drew := conv_byt (Byt.of_own HSB.out) HSE.out
      refine wp_region_noPanic ?_
      refine wp_region_held_drew (S := fun W => (convert 22 9 (.slice A6 s.length c6)).run Tryd.prog W = .ok (.string S) W) (by kernel_rfl) ?_ (fun hHeld => ?_)
      · exact m1
      replace hb : Below w.heap.size w w6.drew := hb.drew
      have hzd : w6.heap.size ≤ w6.drew.heap.size := Nat.le_refl _
      generalize w6.drew = k81 at *
      refine wpAnyH_take (i := 0) (oi := { dst := some 35, op := Op.move (Operand.tmp 10), type := 22, pos := "law.go:34", after := #[], guard := none }) (v := .slice A6 s.length c6) rfl (by kernel_rfl) (by kernel_rfl) (by kernel_rfl) (fun _ _ _ h => h) (Or.inl ⟨by rfl, fun w hSw => ?_⟩) (by assumption) ?_
      · (try dsimp only at hSw)
        go_simp
      try simp only [Act.put, List.setIfInBounds_toArray, List.set_cons_zero, List.set_cons_succ]
      refine wpAnyH_take (i := 1) (oi := { dst := some 36, op := Op.convert 22 9 (Operand.tmp 35), type := 9, pos := "law.go:34", after := #[{ on := 0, ground := Ground.data }], guard := none }) (v := .string S) rfl (by kernel_rfl) (by kernel_rfl) (by kernel_rfl) (fun _ _ _ h => h) (Or.inl ⟨by rfl, fun w hSw => ?_⟩) (by assumption) ?_
      · (try dsimp only at hSw)
        go_simp
      try simp only [Act.put, List.setIfInBounds_toArray, List.set_cons_zero, List.set_cons_succ]
      refine wpAnyH_take (i := 2) (oi := { dst := some 37, op := Op.move (Operand.tmp 0), type := 3, pos := "law.go:34", after := #[], guard := none }) (v := .int .i64 a0) rfl (by kernel_rfl) (by kernel_rfl) (by kernel_rfl) (fun _ _ _ h => h) (Or.inl ⟨by rfl, fun w hSw => ?_⟩) (by assumption) ?_
      · (try dsimp only at hSw)
        go_simp
      try simp only [Act.put, List.setIfInBounds_toArray, List.set_cons_zero, List.set_cons_succ]
      refine wpAnyH_take (i := 3) (oi := { dst := some 38, op := Op.move (Operand.tmp 1), type := 22, pos := "law.go:34", after := #[], guard := none }) (v := .slice Av l.length cv) rfl (by kernel_rfl) (by kernel_rfl) (by kernel_rfl) (fun _ _ _ h => h) (Or.inl ⟨by rfl, fun w hSw => ?_⟩) (by assumption) ?_
      · (try dsimp only at hSw)
        go_simp
      try simp only [Act.put, List.setIfInBounds_toArray, List.set_cons_zero, List.set_cons_succ]
      refine wpAnyH_ready (rs := [4]) (by kernel_rfl) (by simp) ?_
      refine AllReadyH.cons (o := { dst := some 39, op := Op.call { callee := Callee.value (Operand.func 12), args := #[Operand.tmp 37, Operand.tmp 38], argTypes := #[3, 22] }, type := 22, pos := "law.go:34", after := #[{ on := 2, ground := Ground.data }, { on := 3, ground := Ground.data }], guard := none }) rfl (fun K hK => ?_) (AllReadyH.nil)
      go_simp
      go_at_call 12
      refine (rseal_is a0 _ _ l s _ (Byt.of_own HOB.out) (Nat.le_refl _) (by omega) HSQ.out).mono ?_
      rintro e k82 ⟨v9, rfl, ho9, h⟩
      have hk : Below k81.heap.size k81 k82 := by
        refine Below.trans ?_ (h.mono (by first | (simp; done) | (simp; omega) | omega))
        repeat' (first | with_reducible exact Below.refl _ _ | (with_reducible refine Below.alloc ?_ ?_ _) | (with_reducible refine Below.setCell ?_ ?_ _) | exact (by first | (simp; done) | (simp; omega) | omega))
      have hz := h.size
      try simp at hz
      replace HOB := Lib.hid ((HOB.out).below hk)
      replace HRB := Lib.hid ((HRB.out).below hk (by have := hb.size; omega))
      replace HTB := Lib.hid (tbl_keep (HTB.out) hk)
      replace HSB := Lib.hid ((HSB.out).below hk)
      replace hb : Below w.heap.size w k82 := hb.trans (hk.mono hb.size)
      have m3 := conv_byt (Byt.of_own ho9) HSE.out
      clear ho9
      clear h hk
      have m1 : (convert 22 9 (.slice A6 s.length c6)).run Tryd.prog k82 = .ok (.string S) k82 := conv_byt (Byt.of_own HSB.out) HSE.out
      try dsimp only
      refine hK.out _ _ ?_ (fun hHeld => ?_)
      · exact m1
      clear hK K
      try simp only [Act.put, List.setIfInBounds_toArray, List.set_cons_zero, List.set_cons_succ]
      refine wpAnyH_ready (rs := [5]) (by kernel_rfl) (by simp) ?_
      refine AllReadyH.cons (o := { dst := some 40, op := Op.convert 22 9 (Operand.tmp 39), type := 9, pos := "law.go:34", after := #[{ on := 4, ground := Ground.data }], guard := none }) rfl (fun K hK => ?_) (AllReadyH.nil)
      go_simp
      refine hK.out _ _ ?_ (fun hHeld => ?_)
      · exact m1
      clear hK K
      try simp only [Act.put, List.setIfInBounds_toArray, List.set_cons_zero, List.set_cons_succ]
      refine wpAnyH_take (i := 6) (oi := { dst := some 41, op := Op.binOp BinOp.neq 9 (Operand.tmp 36) (Operand.tmp 40) 9, type := 4, pos := "law.go:34", after := #[{ on := 1, ground := Ground.data }, { on := 5, ground := Ground.data }], guard := none }) (v := .bool false) rfl (by kernel_rfl) (by kernel_rfl) (by kernel_rfl) (fun _ _ _ h => h) (Or.inl ⟨by rfl, fun w hSw => ?_⟩) (by assumption) ?_
      · (try dsimp only at hSw)
        go_simp
      try simp only [Act.put, List.setIfInBounds_toArray, List.set_cons_zero, List.set_cons_succ]
      refine wpAnyH_done (by kernel_rfl) ?_ _
      refine NoPanic.normal ?_
      try clear m1 m3
      by_cases h0 : s.length = 0
      · have h00 : (s.length : Int) = 0 := by omega
        have hcs : a0 < 1 ∨ (1 ≤ a0 ∧ 255 < a0) ∨ (1 ≤ a0 ∧ a0 ≤ 255 ∧ 4000 < (l.length : Int)) := by
          by_cases hgd : 1 ≤ a0 ∧ a0 ≤ 255 ∧ l.length ≤ 4000
          · have := sealB_len a0 l hgd.1 hgd.2.1 hgd.2.2
            rw [HSQ.out] at this
            omega
          · omega
        clear h0
        rcases hcs with h1 | ⟨h1, h2⟩ | ⟨h1, h2, h3⟩
        all_goals
          go_wp2
          go_ret
          exact ⟨rfl, hb⟩
      · have h00 : ((s.length : Int) == 0) = false := by rw [beq_eq_false_iff_ne]; omega
        obtain ⟨g1, g2, g3⟩ := HG.out (by omega)
        have hop := openB_seal a0 l r g1 g2 g3
        rw [HSQ.out] at hop
        have hka : ((a0.toNat : Nat) : Int) = a0 := by omega
        have HKA := Lib.hid hka
        have HOP := Lib.hid hop
        have hbs := Byt.of_own HSB.out
        have hsl1 : s.length ≤ 5000 := by omega
        clear hop h0 hka g3
        go_wp2_with (at_builtin; refine wpList_append_byt_at rfl _ _ rfl k82.heap.size _ _ _ _ _ rfl (ownB_nil k82.heap.size _) rfl hbs ?x1 (Nat.le_refl _) ?_)
        case x1 => simp; omega
        intro v7 w7 hown7 hb7 _
        have ho7 : OwnB k82.heap.size v7 s w7 := by simpa using hown7
        have hb7s := hb7.size
        have hbr := HRB.out.below hb7 hb.size
        clear hown7 hbs
        go_wp2_with (at_builtin; refine wpList_append_byt_at rfl _ _ rfl k82.heap.size _ _ _ _ _ rfl ho7 rfl hbr ?x2 hb7s ?_)
        case x2 => have := HR4.out; omega
        intro v8 w8 ho8 hb8 _
        have hb78 := hb7.trans hb8
        have HO8 := Lib.hid ho8; have HOC := Lib.hid (HOB.out.below hb78); have HTC := Lib.hid (tbl_keep HTB.out hb78)
        have hbv : Below w.heap.size w w8 := hb.trans (hb78.mono hb.size)
        clear ho7 hbr ho8 hb7 hb8 hb7s hb78 HOB HTB HRB HSB
        go_wp2_with fail
        refine (fopen_own _ _ (s ++ r) _ _ HO8.out (by have := HR4.out; simp; omega) HTC.out HOP.out).mono ?_
        rintro e w9 ⟨v9, rfl, ho9, hb9⟩
        have HOD := Lib.hid (HOC.out.below hb9)
        have hb : Below w.heap.size w w9 := hbv.trans (hb9.mono hbv.size)
        have HV9 := Lib.hid ho9
        obtain ⟨BS, hBS⟩ : ∃ BS, (⟨l.toArray⟩ : ByteArray) = BS := ⟨_, rfl⟩
        have m1 := conv_byt (Byt.of_own HV9.out) hBS
        have m2 := conv_byt (Byt.of_own HOD.out) hBS
        rw [HKA.out]
        clear hbv hb9 ho9 HOC HO8 HTC
        go_wp2
        go_ret
        exact ⟨rfl, hb⟩
  · have HO := HO2; have HRr := HR; have HT := HT2; have hbW := hbW2
    have hbl : l.length ≤ 4300 := by have := HL3.out; omega
    clear HO2 HR HT2 hbW2
    go_wp2_with fail
    refine (fseal_any a0 _ _ l w2 (Byt.of_own HO.out) (Nat.le_refl _) (by omega) HT.out).mono ?_
    rintro e w6 ⟨v6, rfl, ho6, hb6⟩
    have HOB := Lib.hid (HO.out.below hb6)
    have HRB := Lib.hid (HRr.out.below hb6 hbW.size)
    have HTB := Lib.hid (tbl_keep HT.out hb6)
    have hb : Below w.heap.size w w6 := hbW.trans (hb6.mono hbW.size)
    have hsl := sealB_short a0 l
    have HG := Lib.hid (sealB_some (k := a0) (l := l))
    obtain ⟨s, hs⟩ : ∃ s, sealB a0 l = s := ⟨_, rfl⟩
    have HSQ := Lib.hid hs
    rw [hs] at ho6 hsl HG
    obtain ⟨A6, c6, hv6⟩ := own_slice ho6
    subst hv6
    have HSB := Lib.hid ho6
    obtain ⟨S, hS⟩ : ∃ S, (⟨s.toArray⟩ : ByteArray) = S := ⟨_, rfl⟩
    have HSE := Lib.hid hS
    clear HO HRr HT hbW hb6 ho6 hs hS
    go_upto_region 8 with fail
    replace HOB := Lib.hid ((HOB.out).below ((Below.refl w6.heap.size w6).drew))
    replace HRB := Lib.hid ((HRB.out).below ((Below.refl w6.heap.size w6).drew) (by have := hb.size; omega))
    replace HTB := Lib.hid (tbl_keep (HTB.out) ((Below.refl w6.heap.size w6).drew))
    replace HSB := Lib.hid ((HSB.out).below ((Below.refl w6.heap.size w6).drew))
    have m1 : (convert 22 9 (.slice A6 s.length c6)).run Tryd.prog w6.drew = .ok (.string S) w6.drew := conv_byt (Byt.of_own HSB.out) HSE.out
    refine wp_region_noPanic ?_
    refine wp_region_held_drew (S := fun W => (convert 22 9 (.slice A6 s.length c6)).run Tryd.prog W = .ok (.string S) W) (by kernel_rfl) ?_ (fun hHeld => ?_)
    · exact m1
    replace hb : Below w.heap.size w w6.drew := hb.drew
    have hzd : w6.heap.size ≤ w6.drew.heap.size := Nat.le_refl _
    generalize w6.drew = k81 at *
    refine wpAnyH_take (i := 0) (oi := { dst := some 35, op := Op.move (Operand.tmp 10), type := 22, pos := "law.go:34", after := #[], guard := none }) (v := .slice A6 s.length c6) rfl (by kernel_rfl) (by kernel_rfl) (by kernel_rfl) (fun _ _ _ h => h) (Or.inl ⟨by rfl, fun w hSw => ?_⟩) (by assumption) ?_
    · (try dsimp only at hSw)
      go_simp
    try simp only [Act.put, List.setIfInBounds_toArray, List.set_cons_zero, List.set_cons_succ]
    refine wpAnyH_take (i := 1) (oi := { dst := some 36, op := Op.convert 22 9 (Operand.tmp 35), type := 9, pos := "law.go:34", after := #[{ on := 0, ground := Ground.data }], guard := none }) (v := .string S) rfl (by kernel_rfl) (by kernel_rfl) (by kernel_rfl) (fun _ _ _ h => h) (Or.inl ⟨by rfl, fun w hSw => ?_⟩) (by assumption) ?_
    · (try dsimp only at hSw)
      go_simp
    try simp only [Act.put, List.setIfInBounds_toArray, List.set_cons_zero, List.set_cons_succ]
    refine wpAnyH_take (i := 2) (oi := { dst := some 37, op := Op.move (Operand.tmp 0), type := 3, pos := "law.go:34", after := #[], guard := none }) (v := .int .i64 a0) rfl (by kernel_rfl) (by kernel_rfl) (by kernel_rfl) (fun _ _ _ h => h) (Or.inl ⟨by rfl, fun w hSw => ?_⟩) (by assumption) ?_
    · (try dsimp only at hSw)
      go_simp
    try simp only [Act.put, List.setIfInBounds_toArray, List.set_cons_zero, List.set_cons_succ]
    refine wpAnyH_take (i := 3) (oi := { dst := some 38, op := Op.move (Operand.tmp 1), type := 22, pos := "law.go:34", after := #[], guard := none }) (v := .slice Av l.length cv) rfl (by kernel_rfl) (by kernel_rfl) (by kernel_rfl) (fun _ _ _ h => h) (Or.inl ⟨by rfl, fun w hSw => ?_⟩) (by assumption) ?_
    · (try dsimp only at hSw)
      go_simp
    try simp only [Act.put, List.setIfInBounds_toArray, List.set_cons_zero, List.set_cons_succ]
    refine wpAnyH_ready (rs := [4]) (by kernel_rfl) (by simp) ?_
    refine AllReadyH.cons (o := { dst := some 39, op := Op.call { callee := Callee.value (Operand.func 12), args := #[Operand.tmp 37, Operand.tmp 38], argTypes := #[3, 22] }, type := 22, pos := "law.go:34", after := #[{ on := 2, ground := Ground.data }, { on := 3, ground := Ground.data }], guard := none }) rfl (fun K hK => ?_) (AllReadyH.nil)
    go_simp
    go_at_call 12
    refine (rseal_is a0 _ _ l s _ (Byt.of_own HOB.out) (Nat.le_refl _) (by omega) HSQ.out).mono ?_
    rintro e k82 ⟨v9, rfl, ho9, h⟩
    have hk : Below k81.heap.size k81 k82 := by
      refine Below.trans ?_ (h.mono (by first | (simp; done) | (simp; omega) | omega))
      repeat' (first | with_reducible exact Below.refl _ _ | (with_reducible refine Below.alloc ?_ ?_ _) | (with_reducible refine Below.setCell ?_ ?_ _) | exact (by first | (simp; done) | (simp; omega) | omega))
    have hz := h.size
    try simp at hz
    replace HOB := Lib.hid ((HOB.out).below hk)
    replace HRB := Lib.hid ((HRB.out).below hk (by have := hb.size; omega))
    replace HTB := Lib.hid (tbl_keep (HTB.out) hk)
    replace HSB := Lib.hid ((HSB.out).below hk)
    replace hb : Below w.heap.size w k82 := hb.trans (hk.mono hb.size)
    have m3 := conv_byt (Byt.of_own ho9) HSE.out
    clear ho9
    clear h hk
    have m1 : (convert 22 9 (.slice A6 s.length c6)).run Tryd.prog k82 = .ok (.string S) k82 := conv_byt (Byt.of_own HSB.out) HSE.out
    try dsimp only
    refine hK.out _ _ ?_ (fun hHeld => ?_)
    · exact m1
    clear hK K
    try simp only [Act.put, List.setIfInBounds_toArray, List.set_cons_zero, List.set_cons_succ]
    refine wpAnyH_ready (rs := [5]) (by kernel_rfl) (by simp) ?_
    refine AllReadyH.cons (o := { dst := some 40, op := Op.convert 22 9 (Operand.tmp 39), type := 9, pos := "law.go:34", after := #[{ on := 4, ground := Ground.data }], guard := none }) rfl (fun K hK => ?_) (AllReadyH.nil)
    go_simp
    refine hK.out _ _ ?_ (fun hHeld => ?_)
    · exact m1
    clear hK K
    try simp only [Act.put, List.setIfInBounds_toArray, List.set_cons_zero, List.set_cons_succ]
    refine wpAnyH_take (i := 6) (oi := { dst := some 41, op := Op.binOp BinOp.neq 9 (Operand.tmp 36) (Operand.tmp 40) 9, type := 4, pos := "law.go:34", after := #[{ on := 1, ground := Ground.data }, { on := 5, ground := Ground.data }], guard := none }) (v := .bool false) rfl (by kernel_rfl) (by kernel_rfl) (by kernel_rfl) (fun _ _ _ h => h) (Or.inl ⟨by rfl, fun w hSw => ?_⟩) (by assumption) ?_
    · (try dsimp only at hSw)
      go_simp
    try simp only [Act.put, List.setIfInBounds_toArray, List.set_cons_zero, List.set_cons_succ]
    refine wpAnyH_done (by kernel_rfl) ?_ _
    refine NoPanic.normal ?_
    try clear m1 m3
    by_cases h0 : s.length = 0
    · have h00 : (s.length : Int) = 0 := by omega
      have hcs : a0 < 1 ∨ (1 ≤ a0 ∧ 255 < a0) ∨ (1 ≤ a0 ∧ a0 ≤ 255 ∧ 4000 < (l.length : Int)) := by
        by_cases hgd : 1 ≤ a0 ∧ a0 ≤ 255 ∧ l.length ≤ 4000
        · have := sealB_len a0 l hgd.1 hgd.2.1 hgd.2.2
          rw [HSQ.out] at this
          omega
        · omega
      clear h0
      rcases hcs with h1 | ⟨h1, h2⟩ | ⟨h1, h2, h3⟩
      all_goals
        go_wp2
        go_ret
        exact ⟨rfl, hb⟩
    · have h00 : ((s.length : Int) == 0) = false := by rw [beq_eq_false_iff_ne]; omega
      obtain ⟨g1, g2, g3⟩ := HG.out (by omega)
      have hop := openB_seal a0 l r g1 g2 g3
      rw [HSQ.out] at hop
      have hka : ((a0.toNat : Nat) : Int) = a0 := by omega
      have HKA := Lib.hid hka
      have HOP := Lib.hid hop
      have hbs := Byt.of_own HSB.out
      have hsl1 : s.length ≤ 5000 := by omega
      clear hop h0 hka g3
      go_wp2_with (at_builtin; refine wpList_append_byt_at rfl _ _ rfl k82.heap.size _ _ _ _ _ rfl (ownB_nil k82.heap.size _) rfl hbs ?x1 (Nat.le_refl _) ?_)
      case x1 => simp; omega
      intro v7 w7 hown7 hb7 _
      have ho7 : OwnB k82.heap.size v7 s w7 := by simpa using hown7
      have hb7s := hb7.size
      have hbr := HRB.out.below hb7 hb.size
      clear hown7 hbs
      go_wp2_with (at_builtin; refine wpList_append_byt_at rfl _ _ rfl k82.heap.size _ _ _ _ _ rfl ho7 rfl hbr ?x2 hb7s ?_)
      case x2 => have := HR4.out; omega
      intro v8 w8 ho8 hb8 _
      have hb78 := hb7.trans hb8
      have HO8 := Lib.hid ho8; have HOC := Lib.hid (HOB.out.below hb78); have HTC := Lib.hid (tbl_keep HTB.out hb78)
      have hbv : Below w.heap.size w w8 := hb.trans (hb78.mono hb.size)
      clear ho7 hbr ho8 hb7 hb8 hb7s hb78 HOB HTB HRB HSB
      go_wp2_with fail
      refine (fopen_own _ _ (s ++ r) _ _ HO8.out (by have := HR4.out; simp; omega) HTC.out HOP.out).mono ?_
      rintro e w9 ⟨v9, rfl, ho9, hb9⟩
      have HOD := Lib.hid (HOC.out.below hb9)
      have hb : Below w.heap.size w w9 := hbv.trans (hb9.mono hbv.size)
      have HV9 := Lib.hid ho9
      obtain ⟨BS, hBS⟩ : ∃ BS, (⟨l.toArray⟩ : ByteArray) = BS := ⟨_, rfl⟩
      have m1 := conv_byt (Byt.of_own HV9.out) hBS
      have m2 := conv_byt (Byt.of_own HOD.out) hBS
      rw [HKA.out]
      clear hbv hb9 ho9 HOC HO8 HTC
      go_wp2
      go_ret
      exact ⟨rfl, hb⟩

set_option maxRecDepth 100000 in
theorem lifted (os : Os) (started : os.Started) (H : Type) (enc : TypeId × Value → H) :
    ReturnsInHanded {} Tryd.checked os 3 .any (fun w args => (Rows.frameBackSpec.pre enc Tryd.prog Tryd.f3 [] false w args ∧ laidMetH Tryd.prog laidS w) ∧ sizedMet enc Tryd.prog Tryd.f3 (OpenSpec.ofChange Rows.frameBackSpec) false w args) (Rows.frameBackSpec.post enc Tryd.prog Tryd.f3 false true false false) := by
  refine returnsInHanded_of_change_and (C := Tryd.checked) (X := fun w _ => laidMetH Tryd.prog laidS w) (fun _ _ _ hh h => h.of_heap hh) own started (by kernel_rfl) Tryd.func3
    (ChangeSpec.witness_at (enc := enc) (C := Tryd.checked) (os := os) (X := fun w _ => laidMetH Tryd.prog laidS w) false (laidWorld os) #[.int .i64 0, .slice none 0 0, .slice none 0 0, .int .i64 0] 8 rfl (by kernel_rfl) (by kernel_rfl) (by kernel_rfl) (by kernel_rfl) (by kernel_rfl) (laid_met os _)) ?_
  intro W base args ds gs before hval0 hW hcnd _ hL _
  have hT := tbl_of_laid hL
  have hval : ∀ (j : Nat) t v, Tryd.f3.params[j]? = some t → args[j]? = some v → Value.okWide Tryd.prog W .any base t v := hval0
  have hW' := hW
  obtain ⟨p, q, hA0, hV, rfl, hfz, hnd⟩ := hW
  have hA : DataW.TrodAll enc Tryd.prog W 0 (fun _ => true) true Tryd.f3.params.toList args.toList ds p := hA0
  have hA1 := hA
  rw [Tryd.params3] at hA hval
  obtain ⟨v0, vs0, d0, ds0, p0, q0, hargs, rfl, rfl, h0, r0⟩ := trodAll_cons hA
  obtain ⟨v1, vs1, d1, ds1, p1, q1, rfl, rfl, rfl, h1, r1⟩ := trodAll_cons r0
  obtain ⟨v2, vs2, d2, ds2, p2, q2, rfl, rfl, rfl, h2, r2⟩ := trodAll_cons r1
  obtain ⟨v3, vs3, d3, ds3, p3, q3, rfl, rfl, rfl, h3, r3⟩ := trodAll_cons r2
  obtain ⟨rfl, rfl, rfl⟩ := trodAll_nil r3
  obtain rfl : args = #[v0, v1, v2, v3] := by cases args; simp_all
  obtain ⟨rfl, rfl⟩ := trodVars_none hV
  obtain ⟨a0, rfl, rfl, rfl, w0⟩ := open_int Tryd.underlying3 (hval 0 3 v0 rfl rfl) h0
  obtain ⟨A1, c1, a1, rfl, w1, x1⟩ := open_bytes (hval 1 22 v1 rfl rfl) h1
  obtain ⟨A2, c2, a2, rfl, w2, x2⟩ := open_bytes (hval 2 22 v2 rfl rfl) h2
  obtain ⟨a3, rfl, rfl, rfl, w3⟩ := open_int Tryd.underlying3 (hval 3 3 v3 rfl rfl) h3
  clear hA0 hval0
  simp only [List.append_nil] at hW'
  try simp only [List.append_nil] at hA1
  refine (walk W a0 w0 A1 c1 a1 w1 x1 A2 c2 a2 w2 x2 a3 w3 hT).mono fun e W' ⟨he, hg⟩ => ?_
  subst he
  exact ⟨_, rfl, law_end Tryd.laidOut (by kernel_rfl) hW' hA1 hg rfl rfl rfl (trodAll_mk1 (shut_bool Tryd.underlying4 _))⟩

theorem over : Rows.frameBackRow.holds Tryd.pinned (OpenSpec.ofChange Rows.frameBackSpec) :=
  OpenClaim.holds_of_wide 3 Tryd.f3 rfl rfl rfl rfl rfl rfl rfl ⟨rfl, rfl, rfl, rfl, rfl⟩ rfl rfl rfl rfl rfl (by kernel_rfl) Tryd.func3 (by kernel_rfl)
    (of_decide_eq_true (by kernel_rfl)) (by unfold Func.isWrapper; first | (rw [if_pos (by decide +kernel)]; kernel_rfl) | (rw [if_neg (by decide +kernel)]; exact ⟨rfl, rfl⟩))
    (fun os started H enc _ => lifted os started H enc)


/-- the statement: the card, closed by the builder's one call -/
theorem proved : Rows.FrameBackCardSaid :=
  Claim7.holds_tied_plain_at .later [] [.data] true Rows.frameBackCard.stood.harness Rows.frameBackCard.stood.looks
    over (fun _ h => by cases h) (by kernel_rfl) (fun _ h => by cases h) frameBack_row_tie rfl ⟨rfl, rfl⟩ (by kernel_rfl) rfl
    (fun f fn hf hfn => by
      obtain rfl : f = 3 := Option.some.inj ((show Tryd.prog.funcNamed "packhorse/packhorselaw8.FrameBack" = some 3 by kernel_rfl).symm.trans hf) |>.symm
      obtain rfl : fn = Tryd.f3 := (Option.some.inj (Tryd.func3.symm.trans hfn)).symm
      refine ⟨by kernel_rfl, fun j t ht => ?_⟩
      have h := List.all_eq_true.1 (show (Tryd.f3.params.toList.all fun t => !Tryd.prog.wantsStandIn t) = true by kernel_rfl) t (List.mem_of_getElem? (by simpa using ht))
      exact (show Tryd.prog.wantsStandIn t = false by simpa using h))
    (by kernel_rfl)
#print axioms proved
end Go.Proofs.YtmpdjioclalifaaDoor.frameBack
