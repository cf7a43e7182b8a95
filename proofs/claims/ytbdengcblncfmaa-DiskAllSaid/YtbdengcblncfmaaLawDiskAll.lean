/-
  Files are appended to, synced, swapped; a crash keeps what lasts and a beginning of the rest.
-/
import Derived.Test.YtbdengcblncfmaaRows
import Derived.Test.YtbdengcblncfmaaD9Begun
import Derived.Test.YtbdengcblncfmaaL9Sam2
import Derived.Test.YtbdengcblncfmaaLawKit
import Derived.WalkKit
import Derived.ProofKit
import Derived.OpenShut
import Derived.ShutString
set_option linter.unusedSimpArgs false
set_option linter.unusedVariables false
namespace Go.Proofs.Ytbdengcblncfmaa.diskAll
open Go.ChangeShapes Go.WideShapes Go.ChangeAt Go.RowKit
open Go.ChangeMaps (open_string shut_string)
set_option linter.unusedVariables false

theorem own : ownKnob Try.prog.godebug = none := by kernel_rfl

set_option maxRecDepth 100000 in
set_option maxHeartbeats 8000000 in
theorem walk (w : World) (A0 : Option Addr) (c0 : Nat) (a0 : List Dop) (w0 : Dops w w.heap.size (.slice A0 a0.length c0) a0) (x0 : ∀ x ∈ a0, x.fit) :
    Calls Try.prog 3 #[.slice A0 a0.length c0] w fun e w' => e = .returned (.bool true) ∧ Below w.heap.size w w' := by
  have HF := Lib.hid x0
  have HO := Lib.hid w0
  obtain ⟨q, hq⟩ : ∃ q, a0.length = q := ⟨_, rfl⟩
  have HQ := Lib.hid hq
  rw [hq] at HO
  rw [hq]
  clear w0 x0 hq
  go_enter Try.func3, Try.ntmps3
  go_wp2_with fail
  refine (begun9_any w).mono ?_
  rintro e k1 ⟨rfl, hb⟩
  have HB1 := Lib.hid hb
  clear hb
  go_wp2_with fail
  refine (new9_any _).mono ?_
  rintro e k2 ⟨rfl, rfl⟩
  have hdu := duo_new k1
  have hxw := HB1.out.size
  have hb2 := (HB1.out.trans ((below_new k1 (.cells #[.map none, .int .i64 0] 57)).mono hxw)).trans ((below_new (k1.alloc (.cells #[.map none, .int .i64 0] 57)) (.cells #[.slice none 0 0, .int .i64 0] 29)).mono (Nat.le_trans hxw (below_new k1 _).size))
  have HD := Lib.hid hdu
  have HXW := Lib.hid hxw
  have HB2 := Lib.hid hb2
  clear hdu hxw hb2 HB1
  go_wp2_with fail
  obtain ⟨X, hX⟩ : ∃ X, k1.heap.size = X := ⟨_, rfl⟩
  rw [hX] at HD HXW
  try rw [hX]
  go_loopw [4, 5, 6] (fun d r i wr => ∃ (k gd gr c : Nat) (l : List Fil), i = .int .i64 k ∧ d = .pointer (some ⟨gd, 0, none⟩) ∧ r = .pointer (some ⟨gr, 0, none⟩) ∧ k ≤ q ∧ k ≤ 50 ∧ c ≤ k ∧ l.length ≤ k ∧ Duo X wr gd gr l c l c ∧ Below w.heap.size w wr) (fun _ _ i _ => q - (intOf i).toNat)
  case atStart => exact ⟨0, _, _, 0, [], rfl, rfl, rfl, Nat.zero_le _, Nat.zero_le _, Nat.le_refl _, Nat.le_refl _, HD.out, HB2.out⟩
  case round =>
    obtain ⟨k, gd, gr, c, l, rfl, rfl, rfl, hk, hk50, hck, hll, hd, hb⟩ := hrel
    have HDR := Lib.hid hd
    have HBR := Lib.hid hb
    clear hd hb HD HB2
    by_cases hlt : k < q ∧ k < 50
    · obtain ⟨hlt, hlt3⟩ := hlt
      have hki : (k : Int) < q := by omega
      have hk3 : (k : Int) < 50 := by omega
      have hor := HO.out.keep HBR.out (Nat.le_refl _)
      obtain ⟨go, og, Ak, ck, hA, hg, hrg, hby, hbc⟩ := hor.at_ k (by rw [HQ.out]; exact hlt)
      obtain ⟨o, ho⟩ : ∃ o, a0[k]'(by rw [HQ.out]; exact hlt) = o := ⟨_, rfl⟩
      have hfit := HF.out o (by rw [← ho]; exact List.getElem_mem _)
      rw [ho] at hrg hby hbc
      subst hA
      obtain ⟨kd, hkd⟩ : ∃ kd, o.kind = kd := ⟨_, rfl⟩
      obtain ⟨nn, hnn⟩ : ∃ nn, o.n = nn := ⟨_, rfl⟩
      obtain ⟨nm, hnm⟩ : ∃ nm, o.name = nm := ⟨_, rfl⟩
      obtain ⟨bs, hbs⟩ : ∃ bs, o.b = bs := ⟨_, rfl⟩
      obtain ⟨f1, f2, f3, f4⟩ := hfit
      rw [hkd, hnn, hnm, hbs] at hrg
      rw [hbs] at hby hbc f4
      rw [hkd] at f1
      rw [hnn] at f2
      rw [hnm] at f3
      have q0 : wr.cell? ⟨go, og + k * 4, none⟩ = some (.int .i64 kd) := hrg 0 _ rfl
      have q1 : wr.cell? ⟨go, og + k * 4 + 1, none⟩ = some (.int .i64 nn) := hrg 1 _ rfl
      have q2 : wr.cell? ⟨go, og + k * 4 + 2, none⟩ = some (.string nm) := hrg 2 _ rfl
      have q3 : wr.cell? ⟨go, og + k * 4 + 3, none⟩ = some (.slice Ak bs.length ck) := hrg 3 _ rfl
      obtain ⟨z, hz⟩ : ∃ z, bs.length = z := ⟨_, rfl⟩
      rw [hz] at q3 hby hbc
      have HBY := Lib.hid hby
      have HZB := Lib.hid hz
      have HN := Lib.hid f2
      have HNM := Lib.hid f3
      clear hor hg hrg hby hz hbs hnm hnn hkd ho f1 f2 f3 f4
      have hbx := Blk.new wr #[.int .i64 kd, .int .i64 nn, .string nm, .slice Ak z ck] 32
      have hal := below_new wr (.cells #[.int .i64 kd, .int .i64 nn, .string nm, .slice Ak z ck] 32)
      have hnl := heap_alloc_new wr (.cells #[.int .i64 kd, .int .i64 nn, .string nm, .slice Ak z ck] 32)
      obtain ⟨W0, hW0⟩ : ∃ W0, wr.alloc (.cells #[.int .i64 kd, .int .i64 nn, .string nm, .slice Ak z ck] 32) = W0 := ⟨_, rfl⟩
      rw [hW0] at hbx hal
      have y0 := hbx.cell (j := 0) rfl
      have y1 := hbx.cell (j := 1) rfl
      have y2 := hbx.cell (j := 2) rfl
      have y3 := hbx.cell (j := 3) rfl
      have HBX := Lib.hid hbx
      have HAL := Lib.hid hal
      clear hbx hal hnl
      go_upto_region 9 with fail
      obtain ⟨t, ht⟩ : ∃ t, cutS nm 14 = t := ⟨_, rfl⟩
      have htl : t.size ≤ 14 := by rw [← ht]; exact cutS_size _ _
      have HT := Lib.hid ht
      have HTL := Lib.hid htl
      clear ht htl
      have hbd : Blk W0.drew wr.heap.size #[.int .i64 kd, .int .i64 nn, .string nm, .slice Ak z ck] 32 := HBX.out
      have hald : Below wr.heap.size wr W0.drew := HAL.out.drew
      clear y0 y1 y2 y3 HBX HAL
      refine wp_region_noPanic ?_
      refine region_g 7 (fun W => W = W0.drew) (by kernel_rfl) ?_
      generalize W0.drew = W1 at *
      have hHeld : (fun W : World => W = W1) W1 := rfl
      have y2 := hbd.cell (j := 2) rfl
      have y3 := hbd.cell (j := 3) rfl
      have z2 := hbd.frz 2
      have z3 := hbd.frz 3
      have HBD := Lib.hid hbd
      have HAD := Lib.hid hald
      clear hbd hald
      refine tkL 0 (.pointer (some ⟨wr.heap.size, 2, none⟩)) rfl (fun w hSw => ?_) ?_
      · obtain rfl : w = W1 := hSw
        go_simp
      try simp only [Act.put, List.setIfInBounds_toArray, List.set_cons_zero, List.set_cons_succ]
      refine tkL 1 (.string nm) rfl (fun w hSw => ?_) ?_
      · obtain rfl : w = W1 := hSw
        go_simp
      try simp only [Act.put, List.setIfInBounds_toArray, List.set_cons_zero, List.set_cons_succ]
      refine tkL 3 (.pointer (some ⟨wr.heap.size, 3, none⟩)) rfl (fun w hSw => ?_) ?_
      · obtain rfl : w = W1 := hSw
        go_simp
      try simp only [Act.put, List.setIfInBounds_toArray, List.set_cons_zero, List.set_cons_succ]
      refine tkL 4 (.slice Ak z ck) rfl (fun w hSw => ?_) ?_
      · obtain rfl : w = W1 := hSw
        go_simp
      try simp only [Act.put, List.setIfInBounds_toArray, List.set_cons_zero, List.set_cons_succ]
      refine stM 2 rfl (fun K hK => ?_)
      go_simp
      go_at_call 12
      refine (lcut_to nm t 14 _ (by decide) HT.out).mono ?_
      rintro e w' ⟨rfl, rfl⟩
      try dsimp only
      refine hK.out _ _ (.inr rfl) ?_
      clear hK K
      try simp only [Act.put, List.setIfInBounds_toArray, List.set_cons_zero, List.set_cons_succ]
      refine tkL 6 (.pointer (some ⟨wr.heap.size, 2, none⟩)) rfl (fun w hSw => ?_) ?_
      · obtain rfl : w = W1 := hSw
        go_simp
      try simp only [Act.put, List.setIfInBounds_toArray, List.set_cons_zero, List.set_cons_succ]
      refine stM 5 rfl (fun K hK => ?_)
      go_simp
      go_at_call 13
      refine (short_any Ak z ck w.heap.size 100 bs _ ((HBY.out).below HAD.out HBR.out.size) (by decide)).mono ?_
      rintro e w' ⟨A2, c2, rfl, hby2, rfl⟩
      obtain ⟨s2, hs2⟩ : ∃ s, bs.take 100 = s := ⟨_, rfl⟩
      have hsl : s2.length ≤ 100 := by rw [← hs2, List.length_take]; omega
      rw [hs2] at hby2
      try rw [hs2]
      obtain ⟨m2, hm2⟩ : ∃ m, s2.length = m := ⟨_, rfl⟩
      rw [hm2] at hby2 hsl
      try rw [hm2]
      have HBY2 := Lib.hid hby2
      have HM2 := Lib.hid hm2
      have HSL := Lib.hid hsl
      clear hby2 hs2 hm2 hsl
      try dsimp only
      refine hK.out _ _ (.inr rfl) ?_
      clear hK K
      try simp only [Act.put, List.setIfInBounds_toArray, List.set_cons_zero, List.set_cons_succ]
      refine stM 7 rfl (fun K hK => ?_)
      go_simp
      refine hK.out _ _ (.inl (by decide)) ?_
      clear hK K hHeld
      try simp only [Act.put, List.setIfInBounds_toArray, List.set_cons_zero, List.set_cons_succ]
      refine stM 8 rfl (fun K hK => ?_)
      go_simp
      refine hK.out _ _ (.inl (by decide)) ?_
      clear hK K
      try simp only [Act.put, List.setIfInBounds_toArray, List.set_cons_zero, List.set_cons_succ]
      refine stM 9 rfl (fun K hK => ?_)
      go_simp
      refine hK.out _ _ (.inl (by decide)) ?_
      clear hK K
      try simp only [Act.put, List.setIfInBounds_toArray, List.set_cons_zero, List.set_cons_succ]
      refine anyG_done (by kernel_rfl) ?_ _
      refine NoPanic.normal ?_
      have hb2 := (HBD.out.set (j := 2) (.string t)).set (j := 3) (.slice A2 m2 c2)
      have hal2 : Below wr.heap.size wr ((W1.setCell ⟨wr.heap.size, 2, none⟩ (.string t)).setCell ⟨wr.heap.size, 3, none⟩ (.slice A2 m2 c2)) := (HAD.out.setCell (Nat.le_refl _) _).setCell (Nat.le_refl _) _
      have hby3 := (HBY2.out.below ((Below.refl w.heap.size W1).setCell (p := ⟨wr.heap.size, 2, none⟩) HBR.out.size (.string t)) (Nat.le_refl _)).below ((Below.refl w.heap.size _).setCell (p := ⟨wr.heap.size, 3, none⟩) HBR.out.size (.slice A2 m2 c2)) (Nat.le_refl _)
      obtain ⟨W2, hW2⟩ : ∃ W, (W1.setCell ⟨wr.heap.size, 2, none⟩ (.string t)).setCell ⟨wr.heap.size, 3, none⟩ (.slice A2 m2 c2) = W := ⟨_, rfl⟩
      rw [hW2] at hb2 hal2 hby3 ⊢
      have hdh : Duh X wr.heap.size W2 gd gr l c l c := HDR.out.duh hal2 (Nat.le_refl _) hb2.lt
      have hbw : Below w.heap.size w W2 := HBR.out.trans (hal2.mono HBR.out.size)
      obtain ⟨gb, hgb⟩ : ∃ gb, wr.heap.size = gb := ⟨_, rfl⟩
      rw [hgb] at hb2 hdh
      try rw [hgb]
      have HBL := Lib.hid (show Blk W2 gb #[.int .i64 kd, .int .i64 nn, .string t, .slice A2 m2 c2] 32 from hb2)
      have HDH := Lib.hid hdh
      have HBW := Lib.hid hbw
      have HB3 := Lib.hid (hby3.more HXW.out)
      have HTM : Hid (t.size ≤ maxLen) := Lib.hid (by have := HTL.out; unfold maxLen; omega)
      clear z2 z3 y2 y3 hb2 hal2 hby3 hdh hbw HBD HAD HBY HBY2 HDR HBR hW2 hgb
      have v0 := HBL.out.cell (j := 0) rfl
      have hkc : kd = 0 ∨ kd = 1 ∨ kd = 2 ∨ kd = 3 ∨ (¬ kd = 0 ∧ ¬ kd = 1 ∧ ¬ kd = 2 ∧ ¬ kd = 3) := by omega
      rcases hkc with rfl | rfl | rfl | rfl | ⟨h0, h1, h2, h3⟩
      · obtain ⟨⟨x, l2⟩, hr⟩ : ∃ r, app9 t s2 l = r := ⟨_, rfl⟩
        have hln := app9_len t s2 l
        rw [hr] at hln
        have HLN := Lib.hid (show l2.length ≤ l.length + 1 from hln)
        have HR := Lib.hid hr
        have hxx : (x == x) = true := beq_self_eq_true _
        clear hr hln
        go_upto_region 18 with fail
        have v2 := HBL.out.cell (j := 2) rfl
        have v3 := HBL.out.cell (j := 3) rfl
        replace HBL : Hid (Blk W2.drew gb #[.int .i64 0, .int .i64 nn, .string t, .slice A2 m2 c2] 32) := Lib.hid HBL.out
        replace HDH : Hid (Duh X gb W2.drew gd gr l c l c) := Lib.hid (HDH.out.below (Below.refl W2.heap.size W2).drew)
        replace HB3 : Hid (Byt W2.drew X (.slice A2 m2 c2) s2) := Lib.hid (HB3.out.below (Below.refl X W2).drew (Nat.le_refl _))
        have hb := HBW.out
        clear HBW
        replace v2 : W2.drew.cell? ⟨gb, 2, none⟩ = some (.string t) := v2
        replace v3 : W2.drew.cell? ⟨gb, 3, none⟩ = some (.slice A2 m2 c2) := v3
        refine wp_region_noPanic ?_
        refine wp_region_held_drew (S := fun W => W.cell? ⟨gb, 2, none⟩ = some (.string t) ∧ W.cell? ⟨gb, 3, none⟩ = some (.slice A2 m2 c2)) (by kernel_rfl) ?_ (fun hHeld => ?_)
        · exact ⟨v2, v3⟩
        replace hb : Below w.heap.size w W2.drew := hb.drew
        have hzd : W2.heap.size ≤ W2.drew.heap.size := Nat.le_refl _
        generalize W2.drew = k1 at *
        refine wpAnyH_take (i := 0) (oi := { dst := some 72, op := Op.move (Operand.tmp 4), type := 24, pos := "law.go:61", after := #[], guard := none }) (v := .pointer (some ⟨gd, 0, none⟩)) rfl (by kernel_rfl) (by kernel_rfl) (by kernel_rfl) (fun _ _ _ h => h) (Or.inl ⟨by rfl, fun w hSw => ?_⟩) (by assumption) ?_
        · (try dsimp only at hSw)
          go_simp
        try simp only [Act.put, List.setIfInBounds_toArray, List.set_cons_zero, List.set_cons_succ]
        refine wpAnyH_take (i := 1) (oi := { dst := some 73, op := Op.fieldAddr 32 (Operand.tmp 7) 2, type := 0, pos := "law.go:61", after := #[], guard := none }) (v := .pointer (some ⟨gb, 2, none⟩)) rfl (by kernel_rfl) (by kernel_rfl) (by kernel_rfl) (fun _ _ _ h => h) (Or.inl ⟨by rfl, fun w hSw => ?_⟩) (by assumption) ?_
        · (try dsimp only at hSw)
          go_simp
        try simp only [Act.put, List.setIfInBounds_toArray, List.set_cons_zero, List.set_cons_succ]
        refine wpAnyH_take (i := 2) (oi := { dst := some 74, op := Op.load 9 (Operand.tmp 73), type := 9, pos := "law.go:61", after := #[{ on := 1, ground := Ground.data }], guard := none }) (v := .string t) rfl (by kernel_rfl) (by kernel_rfl) (by kernel_rfl) (fun _ _ _ h => h) (Or.inl ⟨by rfl, fun w hSw => ?_⟩) (by assumption) ?_
        · (try dsimp only at hSw)
          go_simp
        try simp only [Act.put, List.setIfInBounds_toArray, List.set_cons_zero, List.set_cons_succ]
        refine wpAnyH_take (i := 3) (oi := { dst := some 75, op := Op.fieldAddr 32 (Operand.tmp 7) 3, type := 0, pos := "law.go:61", after := #[], guard := none }) (v := .pointer (some ⟨gb, 3, none⟩)) rfl (by kernel_rfl) (by kernel_rfl) (by kernel_rfl) (fun _ _ _ h => h) (Or.inl ⟨by rfl, fun w hSw => ?_⟩) (by assumption) ?_
        · (try dsimp only at hSw)
          go_simp
        try simp only [Act.put, List.setIfInBounds_toArray, List.set_cons_zero, List.set_cons_succ]
        refine wpAnyH_take (i := 4) (oi := { dst := some 76, op := Op.load 30 (Operand.tmp 75), type := 30, pos := "law.go:61", after := #[{ on := 3, ground := Ground.data }], guard := none }) (v := .slice A2 m2 c2) rfl (by kernel_rfl) (by kernel_rfl) (by kernel_rfl) (fun _ _ _ h => h) (Or.inl ⟨by rfl, fun w hSw => ?_⟩) (by assumption) ?_
        · (try dsimp only at hSw)
          go_simp
        try simp only [Act.put, List.setIfInBounds_toArray, List.set_cons_zero, List.set_cons_succ]
        refine wpAnyH_take (i := 6) (oi := { dst := some 78, op := Op.move (Operand.tmp 5), type := 26, pos := "law.go:61", after := #[], guard := none }) (v := .pointer (some ⟨gr, 0, none⟩)) rfl (by kernel_rfl) (by kernel_rfl) (by kernel_rfl) (fun _ _ _ h => h) (Or.inl ⟨by rfl, fun w hSw => ?_⟩) (by assumption) ?_
        · (try dsimp only at hSw)
          go_simp
        try simp only [Act.put, List.setIfInBounds_toArray, List.set_cons_zero, List.set_cons_succ]
        refine wpAnyH_take (i := 7) (oi := { dst := some 79, op := Op.fieldAddr 32 (Operand.tmp 7) 2, type := 0, pos := "law.go:61", after := #[], guard := none }) (v := .pointer (some ⟨gb, 2, none⟩)) rfl (by kernel_rfl) (by kernel_rfl) (by kernel_rfl) (fun _ _ _ h => h) (Or.inl ⟨by rfl, fun w hSw => ?_⟩) (by assumption) ?_
        · (try dsimp only at hSw)
          go_simp
        try simp only [Act.put, List.setIfInBounds_toArray, List.set_cons_zero, List.set_cons_succ]
        refine wpAnyH_take (i := 8) (oi := { dst := some 80, op := Op.load 9 (Operand.tmp 79), type := 9, pos := "law.go:61", after := #[{ on := 7, ground := Ground.data }], guard := none }) (v := .string t) rfl (by kernel_rfl) (by kernel_rfl) (by kernel_rfl) (fun _ _ _ h => h) (Or.inl ⟨by rfl, fun w hSw => ?_⟩) (by assumption) ?_
        · (try dsimp only at hSw)
          go_simp
        try simp only [Act.put, List.setIfInBounds_toArray, List.set_cons_zero, List.set_cons_succ]
        refine wpAnyH_take (i := 9) (oi := { dst := some 81, op := Op.fieldAddr 32 (Operand.tmp 7) 3, type := 0, pos := "law.go:61", after := #[], guard := none }) (v := .pointer (some ⟨gb, 3, none⟩)) rfl (by kernel_rfl) (by kernel_rfl) (by kernel_rfl) (fun _ _ _ h => h) (Or.inl ⟨by rfl, fun w hSw => ?_⟩) (by assumption) ?_
        · (try dsimp only at hSw)
          go_simp
        try simp only [Act.put, List.setIfInBounds_toArray, List.set_cons_zero, List.set_cons_succ]
        refine wpAnyH_take (i := 10) (oi := { dst := some 82, op := Op.load 30 (Operand.tmp 81), type := 30, pos := "law.go:61", after := #[{ on := 9, ground := Ground.data }], guard := none }) (v := .slice A2 m2 c2) rfl (by kernel_rfl) (by kernel_rfl) (by kernel_rfl) (fun _ _ _ h => h) (Or.inl ⟨by rfl, fun w hSw => ?_⟩) (by assumption) ?_
        · (try dsimp only at hSw)
          go_simp
        try simp only [Act.put, List.setIfInBounds_toArray, List.set_cons_zero, List.set_cons_succ]
        refine wpAnyH_ready (rs := [5]) (by kernel_rfl) (by simp) ?_
        refine AllReadyH.cons (o := { dst := some 77, op := Op.call { callee := Callee.value (Operand.func 14), args := #[Operand.tmp 72, Operand.tmp 74, Operand.tmp 76], argTypes := #[24, 9, 30] }, type := 35, pos := "law.go:61", after := #[{ on := 0, ground := Ground.data }, { on := 2, ground := Ground.data }, { on := 4, ground := Ground.data }], guard := none }) rfl (fun K hK => ?_) (AllReadyH.nil)
        go_simp
        go_at_call 14
        refine (app_duh HDH.out HTM.out (by omega) (by omega) HB3.out (by rw [HM2.out]; have := HSL.out; omega) (x, l2) HR.out).mono ?_
        rintro e k2 ⟨rfl, hd, hs, hbk⟩
        replace HBL := Lib.hid (blk_stays HBL.out hs)
        replace HDH := Lib.hid hd
        replace HB3 := Lib.hid (HB3.out.below hbk (Nat.le_refl _))
        replace hb := hb.trans (hbk.mono HXW.out)
        clear v2 v3 hs hbk hd
        have v2 := HBL.out.cell (j := 2) rfl
        have v3 := HBL.out.cell (j := 3) rfl
        try dsimp only
        refine hK.out _ _ ?_ (fun hHeld => ?_)
        · exact ⟨v2, v3⟩
        clear hK K
        try simp only [Act.put, List.setIfInBounds_toArray, List.set_cons_zero, List.set_cons_succ]
        refine wpAnyH_ready (rs := [11]) (by kernel_rfl) (by simp) ?_
        refine AllReadyH.cons (o := { dst := some 83, op := Op.call { callee := Callee.value (Operand.func 15), args := #[Operand.tmp 78, Operand.tmp 80, Operand.tmp 82], argTypes := #[26, 9, 30] }, type := 35, pos := "law.go:61", after := #[{ on := 6, ground := Ground.data }, { on := 8, ground := Ground.data }, { on := 10, ground := Ground.data }, { on := 5, ground := Ground.chain }], guard := none }) rfl (fun K hK => ?_) (AllReadyH.nil)
        go_simp
        go_at_call 15
        refine (rapp_duh HDH.out (by have := HTL.out; omega) (by omega) (by omega) HB3.out (by rw [HM2.out]; have := HSL.out; omega) (x, l2) HR.out).mono ?_
        rintro e k3 ⟨rfl, hd, hs, hbk⟩
        replace HBL := Lib.hid (blk_stays HBL.out hs)
        replace HDH := Lib.hid hd
        replace HB3 := Lib.hid (HB3.out.below hbk (Nat.le_refl _))
        replace hb := hb.trans (hbk.mono HXW.out)
        clear v2 v3 hs hbk hd
        have v2 := HBL.out.cell (j := 2) rfl
        have v3 := HBL.out.cell (j := 3) rfl
        try dsimp only
        refine hK.out _ _ ?_ (fun hHeld => ?_)
        · exact ⟨v2, v3⟩
        clear hK K
        try simp only [Act.put, List.setIfInBounds_toArray, List.set_cons_zero, List.set_cons_succ]
        refine wpAnyH_take (i := 12) (oi := { dst := some 8, op := Op.assign (Operand.tmp 77), type := 35, pos := "law.go:61", after := #[{ on := 5, ground := Ground.data }, { on := 11, ground := Ground.chain }, { on := 0, ground := Ground.phase }, { on := 1, ground := Ground.phase }, { on := 2, ground := Ground.phase }, { on := 3, ground := Ground.phase }, { on := 4, ground := Ground.phase }, { on := 5, ground := Ground.phase }, { on := 6, ground := Ground.textOnly Departure.lateStores }, { on := 7, ground := Ground.textOnly Departure.lateStores }, { on := 8, ground := Ground.textOnly Departure.lateStores }, { on := 9, ground := Ground.textOnly Departure.lateStores }, { on := 10, ground := Ground.textOnly Departure.lateStores }, { on := 11, ground := Ground.textOnly Departure.lateStoresUnsure }], guard := none }) (v := .int .i64 x) rfl (by kernel_rfl) (by kernel_rfl) (by kernel_rfl) (fun _ _ _ h => h) (Or.inl ⟨by rfl, fun w hSw => ?_⟩) (by assumption) ?_
        · (try dsimp only at hSw)
          go_simp
        try simp only [Act.put, List.setIfInBounds_toArray, List.set_cons_zero, List.set_cons_succ]
        refine wpAnyH_take (i := 13) (oi := { dst := some 9, op := Op.assign (Operand.tmp 83), type := 35, pos := "law.go:61", after := #[{ on := 11, ground := Ground.data }, { on := 12, ground := Ground.chain }, { on := 0, ground := Ground.phase }, { on := 1, ground := Ground.phase }, { on := 2, ground := Ground.phase }, { on := 3, ground := Ground.phase }, { on := 4, ground := Ground.phase }, { on := 5, ground := Ground.phase }, { on := 6, ground := Ground.phase }, { on := 7, ground := Ground.phase }, { on := 8, ground := Ground.phase }, { on := 9, ground := Ground.phase }, { on := 10, ground := Ground.phase }, { on := 11, ground := Ground.phase }, { on := 12, ground := Ground.phase }], guard := none }) (v := .int .i64 x) rfl (by kernel_rfl) (by kernel_rfl) (by kernel_rfl) (fun _ _ _ h => h) (Or.inl ⟨by rfl, fun w hSw => ?_⟩) (by assumption) ?_
        · (try dsimp only at hSw)
          go_simp
        try simp only [Act.put, List.setIfInBounds_toArray, List.set_cons_zero, List.set_cons_succ]
        refine wpAnyH_done (by kernel_rfl) ?_ _
        refine NoPanic.normal ?_
        have HDE := Lib.hid HDH.out.duo
        have HBE := Lib.hid hb
        clear HDH hb HBL HB3 v2 v3
        go_wp2_with fail
        refine (same_duo HDE.out (by omega) (by have := HLN.out; omega)).mono ?_
        rintro e k9 ⟨rfl, hb9⟩
        replace HDE := Lib.hid (HDE.out.below hb9)
        have HBF := Lib.hid (HBE.out.trans (hb9.mono HBE.out.size))
        clear hb9 HBE
        go_wp2
        go_roundw
        case rel => exact ⟨k + 1, gd, gr, c + 1, l2, by go_num, rfl, rfl, by omega, by omega, by omega, by have := HLN.out; omega, HDE.out, HBF.out⟩
        case measure => simp [intOf]; omega
      · obtain ⟨⟨x, l2⟩, hr⟩ : ∃ r, sync9 t l = r := ⟨_, rfl⟩
        have hln := sync9_len t l
        rw [hr] at hln
        have HLN := Lib.hid (show l2.length ≤ l.length + 1 from hln)
        have HR := Lib.hid hr
        have hxx : (x == x) = true := beq_self_eq_true _
        clear hr hln
        go_upto_region 20 with fail
        have v2 := HBL.out.cell (j := 2) rfl
        have v3 := HBL.out.cell (j := 3) rfl
        replace HBL : Hid (Blk W2.drew gb #[.int .i64 1, .int .i64 nn, .string t, .slice A2 m2 c2] 32) := Lib.hid HBL.out
        replace HDH : Hid (Duh X gb W2.drew gd gr l c l c) := Lib.hid (HDH.out.below (Below.refl W2.heap.size W2).drew)
        replace HB3 : Hid (Byt W2.drew X (.slice A2 m2 c2) s2) := Lib.hid (HB3.out.below (Below.refl X W2).drew (Nat.le_refl _))
        have hb := HBW.out
        clear HBW
        clear v3
        replace v2 : W2.drew.cell? ⟨gb, 2, none⟩ = some (.string t) := v2
        refine wp_region_noPanic ?_
        refine wp_region_held_drew (S := fun W => W.cell? ⟨gb, 2, none⟩ = some (.string t)) (by kernel_rfl) ?_ (fun hHeld => ?_)
        · exact v2
        replace hb : Below w.heap.size w W2.drew := hb.drew
        have hzd : W2.heap.size ≤ W2.drew.heap.size := Nat.le_refl _
        generalize W2.drew = k1 at *
        refine wpAnyH_take (i := 0) (oi := { dst := some 86, op := Op.move (Operand.tmp 4), type := 24, pos := "law.go:63", after := #[], guard := none }) (v := .pointer (some ⟨gd, 0, none⟩)) rfl (by kernel_rfl) (by kernel_rfl) (by kernel_rfl) (fun _ _ _ h => h) (Or.inl ⟨by rfl, fun w hSw => ?_⟩) (by assumption) ?_
        · (try dsimp only at hSw)
          go_simp
        try simp only [Act.put, List.setIfInBounds_toArray, List.set_cons_zero, List.set_cons_succ]
        refine wpAnyH_take (i := 1) (oi := { dst := some 87, op := Op.fieldAddr 32 (Operand.tmp 7) 2, type := 0, pos := "law.go:63", after := #[], guard := none }) (v := .pointer (some ⟨gb, 2, none⟩)) rfl (by kernel_rfl) (by kernel_rfl) (by kernel_rfl) (fun _ _ _ h => h) (Or.inl ⟨by rfl, fun w hSw => ?_⟩) (by assumption) ?_
        · (try dsimp only at hSw)
          go_simp
        try simp only [Act.put, List.setIfInBounds_toArray, List.set_cons_zero, List.set_cons_succ]
        refine wpAnyH_take (i := 2) (oi := { dst := some 88, op := Op.load 9 (Operand.tmp 87), type := 9, pos := "law.go:63", after := #[{ on := 1, ground := Ground.data }], guard := none }) (v := .string t) rfl (by kernel_rfl) (by kernel_rfl) (by kernel_rfl) (fun _ _ _ h => h) (Or.inl ⟨by rfl, fun w hSw => ?_⟩) (by assumption) ?_
        · (try dsimp only at hSw)
          go_simp
        try simp only [Act.put, List.setIfInBounds_toArray, List.set_cons_zero, List.set_cons_succ]
        refine wpAnyH_take (i := 4) (oi := { dst := some 90, op := Op.move (Operand.tmp 5), type := 26, pos := "law.go:63", after := #[], guard := none }) (v := .pointer (some ⟨gr, 0, none⟩)) rfl (by kernel_rfl) (by kernel_rfl) (by kernel_rfl) (fun _ _ _ h => h) (Or.inl ⟨by rfl, fun w hSw => ?_⟩) (by assumption) ?_
        · (try dsimp only at hSw)
          go_simp
        try simp only [Act.put, List.setIfInBounds_toArray, List.set_cons_zero, List.set_cons_succ]
        refine wpAnyH_take (i := 5) (oi := { dst := some 91, op := Op.fieldAddr 32 (Operand.tmp 7) 2, type := 0, pos := "law.go:63", after := #[], guard := none }) (v := .pointer (some ⟨gb, 2, none⟩)) rfl (by kernel_rfl) (by kernel_rfl) (by kernel_rfl) (fun _ _ _ h => h) (Or.inl ⟨by rfl, fun w hSw => ?_⟩) (by assumption) ?_
        · (try dsimp only at hSw)
          go_simp
        try simp only [Act.put, List.setIfInBounds_toArray, List.set_cons_zero, List.set_cons_succ]
        refine wpAnyH_take (i := 6) (oi := { dst := some 92, op := Op.load 9 (Operand.tmp 91), type := 9, pos := "law.go:63", after := #[{ on := 5, ground := Ground.data }], guard := none }) (v := .string t) rfl (by kernel_rfl) (by kernel_rfl) (by kernel_rfl) (fun _ _ _ h => h) (Or.inl ⟨by rfl, fun w hSw => ?_⟩) (by assumption) ?_
        · (try dsimp only at hSw)
          go_simp
        try simp only [Act.put, List.setIfInBounds_toArray, List.set_cons_zero, List.set_cons_succ]
        refine wpAnyH_ready (rs := [3]) (by kernel_rfl) (by simp) ?_
        refine AllReadyH.cons (o := { dst := some 89, op := Op.call { callee := Callee.value (Operand.func 16), args := #[Operand.tmp 86, Operand.tmp 88], argTypes := #[24, 9] }, type := 35, pos := "law.go:63", after := #[{ on := 0, ground := Ground.data }, { on := 2, ground := Ground.data }], guard := none }) rfl (fun K hK => ?_) (AllReadyH.nil)
        go_simp
        go_at_call 16
        refine (sync_duh HDH.out HTM.out (by omega) (by omega) (x, l2) HR.out).mono ?_
        rintro e k2 ⟨rfl, hd, hs, hbk⟩
        replace HBL := Lib.hid (blk_stays HBL.out hs)
        replace HDH := Lib.hid hd
        replace HB3 := Lib.hid (HB3.out.below hbk (Nat.le_refl _))
        replace hb := hb.trans (hbk.mono HXW.out)
        clear v2 hs hbk hd
        have v2 := HBL.out.cell (j := 2) rfl
        try dsimp only
        refine hK.out _ _ ?_ (fun hHeld => ?_)
        · exact v2
        clear hK K
        try simp only [Act.put, List.setIfInBounds_toArray, List.set_cons_zero, List.set_cons_succ]
        refine wpAnyH_ready (rs := [7]) (by kernel_rfl) (by simp) ?_
        refine AllReadyH.cons (o := { dst := some 93, op := Op.call { callee := Callee.value (Operand.func 17), args := #[Operand.tmp 90, Operand.tmp 92], argTypes := #[26, 9] }, type := 35, pos := "law.go:63", after := #[{ on := 4, ground := Ground.data }, { on := 6, ground := Ground.data }, { on := 3, ground := Ground.chain }], guard := none }) rfl (fun K hK => ?_) (AllReadyH.nil)
        go_simp
        go_at_call 17
        refine (rsync_duh HDH.out (by omega) (by omega) (x, l2) HR.out).mono ?_
        rintro e k3 ⟨rfl, hd, hs, hbk⟩
        replace HBL := Lib.hid (blk_stays HBL.out hs)
        replace HDH := Lib.hid hd
        replace HB3 := Lib.hid (HB3.out.below hbk (Nat.le_refl _))
        replace hb := hb.trans (hbk.mono HXW.out)
        clear v2 hs hbk hd
        have v2 := HBL.out.cell (j := 2) rfl
        try dsimp only
        refine hK.out _ _ ?_ (fun hHeld => ?_)
        · exact v2
        clear hK K
        try simp only [Act.put, List.setIfInBounds_toArray, List.set_cons_zero, List.set_cons_succ]
        refine wpAnyH_take (i := 8) (oi := { dst := some 8, op := Op.assign (Operand.tmp 89), type := 35, pos := "law.go:63", after := #[{ on := 3, ground := Ground.data }, { on := 7, ground := Ground.chain }, { on := 0, ground := Ground.phase }, { on := 1, ground := Ground.phase }, { on := 2, ground := Ground.phase }, { on := 3, ground := Ground.phase }, { on := 4, ground := Ground.textOnly Departure.lateStores }, { on := 5, ground := Ground.textOnly Departure.lateStores }, { on := 6, ground := Ground.textOnly Departure.lateStores }, { on := 7, ground := Ground.textOnly Departure.lateStoresUnsure }], guard := none }) (v := .int .i64 x) rfl (by kernel_rfl) (by kernel_rfl) (by kernel_rfl) (fun _ _ _ h => h) (Or.inl ⟨by rfl, fun w hSw => ?_⟩) (by assumption) ?_
        · (try dsimp only at hSw)
          go_simp
        try simp only [Act.put, List.setIfInBounds_toArray, List.set_cons_zero, List.set_cons_succ]
        refine wpAnyH_take (i := 9) (oi := { dst := some 9, op := Op.assign (Operand.tmp 93), type := 35, pos := "law.go:63", after := #[{ on := 7, ground := Ground.data }, { on := 8, ground := Ground.chain }, { on := 0, ground := Ground.phase }, { on := 1, ground := Ground.phase }, { on := 2, ground := Ground.phase }, { on := 3, ground := Ground.phase }, { on := 4, ground := Ground.phase }, { on := 5, ground := Ground.phase }, { on := 6, ground := Ground.phase }, { on := 7, ground := Ground.phase }, { on := 8, ground := Ground.phase }], guard := none }) (v := .int .i64 x) rfl (by kernel_rfl) (by kernel_rfl) (by kernel_rfl) (fun _ _ _ h => h) (Or.inl ⟨by rfl, fun w hSw => ?_⟩) (by assumption) ?_
        · (try dsimp only at hSw)
          go_simp
        try simp only [Act.put, List.setIfInBounds_toArray, List.set_cons_zero, List.set_cons_succ]
        refine wpAnyH_done (by kernel_rfl) ?_ _
        refine NoPanic.normal ?_
        have HDE := Lib.hid HDH.out.duo
        have HBE := Lib.hid hb
        clear HDH hb HBL HB3 v2
        go_wp2_with fail
        refine (same_duo HDE.out (by omega) (by have := HLN.out; omega)).mono ?_
        rintro e k9 ⟨rfl, hb9⟩
        replace HDE := Lib.hid (HDE.out.below hb9)
        have HBF := Lib.hid (HBE.out.trans (hb9.mono HBE.out.size))
        clear hb9 HBE
        go_wp2
        go_roundw
        case rel => exact ⟨k + 1, gd, gr, c + 1, l2, by go_num, rfl, rfl, by omega, by omega, by omega, by have := HLN.out; omega, HDE.out, HBF.out⟩
        case measure => simp [intOf]; omega
      · obtain ⟨⟨x, l2⟩, hr⟩ : ∃ r, swap9 t s2 l = r := ⟨_, rfl⟩
        have hln := swap9_len t s2 l
        rw [hr] at hln
        have HLN := Lib.hid (show l2.length ≤ l.length + 1 from hln)
        have HR := Lib.hid hr
        have hxx : (x == x) = true := beq_self_eq_true _
        clear hr hln
        go_upto_region 22 with fail
        have v2 := HBL.out.cell (j := 2) rfl
        have v3 := HBL.out.cell (j := 3) rfl
        replace HBL : Hid (Blk W2.drew gb #[.int .i64 2, .int .i64 nn, .string t, .slice A2 m2 c2] 32) := Lib.hid HBL.out
        replace HDH : Hid (Duh X gb W2.drew gd gr l c l c) := Lib.hid (HDH.out.below (Below.refl W2.heap.size W2).drew)
        replace HB3 : Hid (Byt W2.drew X (.slice A2 m2 c2) s2) := Lib.hid (HB3.out.below (Below.refl X W2).drew (Nat.le_refl _))
        have hb := HBW.out
        clear HBW
        replace v2 : W2.drew.cell? ⟨gb, 2, none⟩ = some (.string t) := v2
        replace v3 : W2.drew.cell? ⟨gb, 3, none⟩ = some (.slice A2 m2 c2) := v3
        refine wp_region_noPanic ?_
        refine wp_region_held_drew (S := fun W => W.cell? ⟨gb, 2, none⟩ = some (.string t) ∧ W.cell? ⟨gb, 3, none⟩ = some (.slice A2 m2 c2)) (by kernel_rfl) ?_ (fun hHeld => ?_)
        · exact ⟨v2, v3⟩
        replace hb : Below w.heap.size w W2.drew := hb.drew
        have hzd : W2.heap.size ≤ W2.drew.heap.size := Nat.le_refl _
        generalize W2.drew = k1 at *
        refine wpAnyH_take (i := 0) (oi := { dst := some 96, op := Op.move (Operand.tmp 4), type := 24, pos := "law.go:65", after := #[], guard := none }) (v := .pointer (some ⟨gd, 0, none⟩)) rfl (by kernel_rfl) (by kernel_rfl) (by kernel_rfl) (fun _ _ _ h => h) (Or.inl ⟨by rfl, fun w hSw => ?_⟩) (by assumption) ?_
        · (try dsimp only at hSw)
          go_simp
        try simp only [Act.put, List.setIfInBounds_toArray, List.set_cons_zero, List.set_cons_succ]
        refine wpAnyH_take (i := 1) (oi := { dst := some 97, op := Op.fieldAddr 32 (Operand.tmp 7) 2, type := 0, pos := "law.go:65", after := #[], guard := none }) (v := .pointer (some ⟨gb, 2, none⟩)) rfl (by kernel_rfl) (by kernel_rfl) (by kernel_rfl) (fun _ _ _ h => h) (Or.inl ⟨by rfl, fun w hSw => ?_⟩) (by assumption) ?_
        · (try dsimp only at hSw)
          go_simp
        try simp only [Act.put, List.setIfInBounds_toArray, List.set_cons_zero, List.set_cons_succ]
        refine wpAnyH_take (i := 2) (oi := { dst := some 98, op := Op.load 9 (Operand.tmp 97), type := 9, pos := "law.go:65", after := #[{ on := 1, ground := Ground.data }], guard := none }) (v := .string t) rfl (by kernel_rfl) (by kernel_rfl) (by kernel_rfl) (fun _ _ _ h => h) (Or.inl ⟨by rfl, fun w hSw => ?_⟩) (by assumption) ?_
        · (try dsimp only at hSw)
          go_simp
        try simp only [Act.put, List.setIfInBounds_toArray, List.set_cons_zero, List.set_cons_succ]
        refine wpAnyH_take (i := 3) (oi := { dst := some 99, op := Op.fieldAddr 32 (Operand.tmp 7) 3, type := 0, pos := "law.go:65", after := #[], guard := none }) (v := .pointer (some ⟨gb, 3, none⟩)) rfl (by kernel_rfl) (by kernel_rfl) (by kernel_rfl) (fun _ _ _ h => h) (Or.inl ⟨by rfl, fun w hSw => ?_⟩) (by assumption) ?_
        · (try dsimp only at hSw)
          go_simp
        try simp only [Act.put, List.setIfInBounds_toArray, List.set_cons_zero, List.set_cons_succ]
        refine wpAnyH_take (i := 4) (oi := { dst := some 100, op := Op.load 30 (Operand.tmp 99), type := 30, pos := "law.go:65", after := #[{ on := 3, ground := Ground.data }], guard := none }) (v := .slice A2 m2 c2) rfl (by kernel_rfl) (by kernel_rfl) (by kernel_rfl) (fun _ _ _ h => h) (Or.inl ⟨by rfl, fun w hSw => ?_⟩) (by assumption) ?_
        · (try dsimp only at hSw)
          go_simp
        try simp only [Act.put, List.setIfInBounds_toArray, List.set_cons_zero, List.set_cons_succ]
        refine wpAnyH_take (i := 6) (oi := { dst := some 102, op := Op.move (Operand.tmp 5), type := 26, pos := "law.go:65", after := #[], guard := none }) (v := .pointer (some ⟨gr, 0, none⟩)) rfl (by kernel_rfl) (by kernel_rfl) (by kernel_rfl) (fun _ _ _ h => h) (Or.inl ⟨by rfl, fun w hSw => ?_⟩) (by assumption) ?_
        · (try dsimp only at hSw)
          go_simp
        try simp only [Act.put, List.setIfInBounds_toArray, List.set_cons_zero, List.set_cons_succ]
        refine wpAnyH_take (i := 7) (oi := { dst := some 103, op := Op.fieldAddr 32 (Operand.tmp 7) 2, type := 0, pos := "law.go:65", after := #[], guard := none }) (v := .pointer (some ⟨gb, 2, none⟩)) rfl (by kernel_rfl) (by kernel_rfl) (by kernel_rfl) (fun _ _ _ h => h) (Or.inl ⟨by rfl, fun w hSw => ?_⟩) (by assumption) ?_
        · (try dsimp only at hSw)
          go_simp
        try simp only [Act.put, List.setIfInBounds_toArray, List.set_cons_zero, List.set_cons_succ]
        refine wpAnyH_take (i := 8) (oi := { dst := some 104, op := Op.load 9 (Operand.tmp 103), type := 9, pos := "law.go:65", after := #[{ on := 7, ground := Ground.data }], guard := none }) (v := .string t) rfl (by kernel_rfl) (by kernel_rfl) (by kernel_rfl) (fun _ _ _ h => h) (Or.inl ⟨by rfl, fun w hSw => ?_⟩) (by assumption) ?_
        · (try dsimp only at hSw)
          go_simp
        try simp only [Act.put, List.setIfInBounds_toArray, List.set_cons_zero, List.set_cons_succ]
        refine wpAnyH_take (i := 9) (oi := { dst := some 105, op := Op.fieldAddr 32 (Operand.tmp 7) 3, type := 0, pos := "law.go:65", after := #[], guard := none }) (v := .pointer (some ⟨gb, 3, none⟩)) rfl (by kernel_rfl) (by kernel_rfl) (by kernel_rfl) (fun _ _ _ h => h) (Or.inl ⟨by rfl, fun w hSw => ?_⟩) (by assumption) ?_
        · (try dsimp only at hSw)
          go_simp
        try simp only [Act.put, List.setIfInBounds_toArray, List.set_cons_zero, List.set_cons_succ]
        refine wpAnyH_take (i := 10) (oi := { dst := some 106, op := Op.load 30 (Operand.tmp 105), type := 30, pos := "law.go:65", after := #[{ on := 9, ground := Ground.data }], guard := none }) (v := .slice A2 m2 c2) rfl (by kernel_rfl) (by kernel_rfl) (by kernel_rfl) (fun _ _ _ h => h) (Or.inl ⟨by rfl, fun w hSw => ?_⟩) (by assumption) ?_
        · (try dsimp only at hSw)
          go_simp
        try simp only [Act.put, List.setIfInBounds_toArray, List.set_cons_zero, List.set_cons_succ]
        refine wpAnyH_ready (rs := [5]) (by kernel_rfl) (by simp) ?_
        refine AllReadyH.cons (o := { dst := some 101, op := Op.call { callee := Callee.value (Operand.func 18), args := #[Operand.tmp 96, Operand.tmp 98, Operand.tmp 100], argTypes := #[24, 9, 30] }, type := 35, pos := "law.go:65", after := #[{ on := 0, ground := Ground.data }, { on := 2, ground := Ground.data }, { on := 4, ground := Ground.data }], guard := none }) rfl (fun K hK => ?_) (AllReadyH.nil)
        go_simp
        go_at_call 18
        refine (swap_duh HDH.out HTM.out (by omega) (by omega) HB3.out (by rw [HM2.out]; have := HSL.out; omega) (x, l2) HR.out).mono ?_
        rintro e k2 ⟨rfl, hd, hs, hbk⟩
        replace HBL := Lib.hid (blk_stays HBL.out hs)
        replace HDH := Lib.hid hd
        replace HB3 := Lib.hid (HB3.out.below hbk (Nat.le_refl _))
        replace hb := hb.trans (hbk.mono HXW.out)
        clear v2 v3 hs hbk hd
        have v2 := HBL.out.cell (j := 2) rfl
        have v3 := HBL.out.cell (j := 3) rfl
        try dsimp only
        refine hK.out _ _ ?_ (fun hHeld => ?_)
        · exact ⟨v2, v3⟩
        clear hK K
        try simp only [Act.put, List.setIfInBounds_toArray, List.set_cons_zero, List.set_cons_succ]
        refine wpAnyH_ready (rs := [11]) (by kernel_rfl) (by simp) ?_
        refine AllReadyH.cons (o := { dst := some 107, op := Op.call { callee := Callee.value (Operand.func 19), args := #[Operand.tmp 102, Operand.tmp 104, Operand.tmp 106], argTypes := #[26, 9, 30] }, type := 35, pos := "law.go:65", after := #[{ on := 6, ground := Ground.data }, { on := 8, ground := Ground.data }, { on := 10, ground := Ground.data }, { on := 5, ground := Ground.chain }], guard := none }) rfl (fun K hK => ?_) (AllReadyH.nil)
        go_simp
        go_at_call 19
        refine (rswap_duh HDH.out (by have := HTL.out; omega) (by omega) (by omega) HB3.out (by rw [HM2.out]; have := HSL.out; omega) (x, l2) HR.out).mono ?_
        rintro e k3 ⟨rfl, hd, hs, hbk⟩
        replace HBL := Lib.hid (blk_stays HBL.out hs)
        replace HDH := Lib.hid hd
        replace HB3 := Lib.hid (HB3.out.below hbk (Nat.le_refl _))
        replace hb := hb.trans (hbk.mono HXW.out)
        clear v2 v3 hs hbk hd
        have v2 := HBL.out.cell (j := 2) rfl
        have v3 := HBL.out.cell (j := 3) rfl
        try dsimp only
        refine hK.out _ _ ?_ (fun hHeld => ?_)
        · exact ⟨v2, v3⟩
        clear hK K
        try simp only [Act.put, List.setIfInBounds_toArray, List.set_cons_zero, List.set_cons_succ]
        refine wpAnyH_take (i := 12) (oi := { dst := some 8, op := Op.assign (Operand.tmp 101), type := 35, pos := "law.go:65", after := #[{ on := 5, ground := Ground.data }, { on := 11, ground := Ground.chain }, { on := 0, ground := Ground.phase }, { on := 1, ground := Ground.phase }, { on := 2, ground := Ground.phase }, { on := 3, ground := Ground.phase }, { on := 4, ground := Ground.phase }, { on := 5, ground := Ground.phase }, { on := 6, ground := Ground.textOnly Departure.lateStores }, { on := 7, ground := Ground.textOnly Departure.lateStores }, { on := 8, ground := Ground.textOnly Departure.lateStores }, { on := 9, ground := Ground.textOnly Departure.lateStores }, { on := 10, ground := Ground.textOnly Departure.lateStores }, { on := 11, ground := Ground.textOnly Departure.lateStoresUnsure }], guard := none }) (v := .int .i64 x) rfl (by kernel_rfl) (by kernel_rfl) (by kernel_rfl) (fun _ _ _ h => h) (Or.inl ⟨by rfl, fun w hSw => ?_⟩) (by assumption) ?_
        · (try dsimp only at hSw)
          go_simp
        try simp only [Act.put, List.setIfInBounds_toArray, List.set_cons_zero, List.set_cons_succ]
        refine wpAnyH_take (i := 13) (oi := { dst := some 9, op := Op.assign (Operand.tmp 107), type := 35, pos := "law.go:65", after := #[{ on := 11, ground := Ground.data }, { on := 12, ground := Ground.chain }, { on := 0, ground := Ground.phase }, { on := 1, ground := Ground.phase }, { on := 2, ground := Ground.phase }, { on := 3, ground := Ground.phase }, { on := 4, ground := Ground.phase }, { on := 5, ground := Ground.phase }, { on := 6, ground := Ground.phase }, { on := 7, ground := Ground.phase }, { on := 8, ground := Ground.phase }, { on := 9, ground := Ground.phase }, { on := 10, ground := Ground.phase }, { on := 11, ground := Ground.phase }, { on := 12, ground := Ground.phase }], guard := none }) (v := .int .i64 x) rfl (by kernel_rfl) (by kernel_rfl) (by kernel_rfl) (fun _ _ _ h => h) (Or.inl ⟨by rfl, fun w hSw => ?_⟩) (by assumption) ?_
        · (try dsimp only at hSw)
          go_simp
        try simp only [Act.put, List.setIfInBounds_toArray, List.set_cons_zero, List.set_cons_succ]
        refine wpAnyH_done (by kernel_rfl) ?_ _
        refine NoPanic.normal ?_
        have HDE := Lib.hid HDH.out.duo
        have HBE := Lib.hid hb
        clear HDH hb HBL HB3 v2 v3
        go_wp2_with fail
        refine (same_duo HDE.out (by omega) (by have := HLN.out; omega)).mono ?_
        rintro e k9 ⟨rfl, hb9⟩
        replace HDE := Lib.hid (HDE.out.below hb9)
        have HBF := Lib.hid (HBE.out.trans (hb9.mono HBE.out.size))
        clear hb9 HBE
        go_wp2
        go_roundw
        case rel => exact ⟨k + 1, gd, gr, c + 1, l2, by go_num, rfl, rfl, by omega, by omega, by omega, by have := HLN.out; omega, HDE.out, HBF.out⟩
        case measure => simp [intOf]; omega
      · have HDU := Lib.hid HDH.out.duo
        have HLN : Hid (l.length ≤ l.length + 1) := Lib.hid (Nat.le_succ _)
        rcases hgf : getF t l with _ | f
        · have HGF := Lib.hid hgf
          clear hgf
          have v2 := HBL.out.cell (j := 2) rfl
          go_wp2_with fail
          refine (read_duo_no HDU.out HTM.out HGF.out).mono ?_
          rintro e k3 ⟨rfl, hb3⟩
          have hbl3 := HBL.out.below hb3
          have v2 := hbl3.cell (j := 2) rfl
          have HDE := Lib.hid (HDU.out.below hb3)
          have HBE := Lib.hid (HBW.out.trans (hb3.mono HBW.out.size))
          clear hb3 hbl3
          go_wp2_with fail
          refine (at_duo_no HDE.out (by omega) HGF.out).mono ?_
          rintro e k4 ⟨rfl, rfl⟩
          go_wp2_with fail
          refine (same_duo HDE.out (by omega) (by have := HLN.out; omega)).mono ?_
          rintro e k9 ⟨rfl, hb9⟩
          replace HDE := Lib.hid (HDE.out.below hb9)
          have HBF := Lib.hid (HBE.out.trans (hb9.mono HBE.out.size))
          clear hb9 HBE
          go_wp2
          go_roundw
          case rel => exact ⟨k + 1, gd, gr, c, l, by go_num, rfl, rfl, by omega, by omega, by omega, by have := HLN.out; omega, HDE.out, HBF.out⟩
          case measure => simp [intOf]; omega
        · have HGF := Lib.hid hgf
          clear hgf
          have v2 := HBL.out.cell (j := 2) rfl
          go_wp2_with fail
          refine (read_duo_yes HDU.out HTM.out f HGF.out).mono ?_
          rintro e k3 ⟨v3, rfl, hv3, hb3⟩
          have hbl3 := HBL.out.below hb3
          have v2 := hbl3.cell (j := 2) rfl
          have HDE := Lib.hid (HDU.out.below hb3)
          have HBE := Lib.hid (HBW.out.trans (hb3.mono HBW.out.size))
          clear hb3 hbl3 hv3
          go_wp2_with fail
          refine (at_duo_yes HDE.out (by omega) f HGF.out).mono ?_
          rintro e k4 ⟨a, rfl, rfl⟩
          go_wp2_with fail
          refine (same_duo HDE.out (by omega) (by have := HLN.out; omega)).mono ?_
          rintro e k9 ⟨rfl, hb9⟩
          replace HDE := Lib.hid (HDE.out.below hb9)
          have HBF := Lib.hid (HBE.out.trans (hb9.mono HBE.out.size))
          clear hb9 HBE
          go_wp2
          go_roundw
          case rel => exact ⟨k + 1, gd, gr, c, l, by go_num, rfl, rfl, by omega, by omega, by omega, by have := HLN.out; omega, HDE.out, HBF.out⟩
          case measure => simp [intOf]; omega
      · have hrn : -9223372036854775808 ≤ nn ∧ nn < 9223372036854775808 := by have h := HN.out; unfold I64 at h; omega
        have HRN := Lib.hid hrn
        have h0b : (kd == 0) = false := by simpa using h0
        have h1b : (kd == 1) = false := by simpa using h1
        have h2b : (kd == 2) = false := by simpa using h2
        have h3b : (kd == 3) = false := by simpa using h3
        have hcl := crash9_len nn l
        have HCL := Lib.hid hcl
        clear hrn hcl
        go_upto_region 12 with fail
        have v1 := HBL.out.cell (j := 1) rfl
        replace HBL : Hid (Blk W2.drew gb #[.int .i64 kd, .int .i64 nn, .string t, .slice A2 m2 c2] 32) := Lib.hid HBL.out
        have HDU : Hid (Duo X W2.drew gd gr l c l c) := Lib.hid (HDH.out.duo.below (Below.refl W2.heap.size W2).drew)
        have hb := HBW.out
        clear HBW HDH HB3
        replace v1 : W2.drew.cell? ⟨gb, 1, none⟩ = some (.int .i64 nn) := v1
        refine wp_region_noPanic ?_
        refine wp_region_held_drew (S := fun W => W.cell? ⟨gb, 1, none⟩ = some (.int .i64 nn)) (by kernel_rfl) ?_ (fun hHeld => ?_)
        · exact v1
        replace hb : Below w.heap.size w W2.drew := hb.drew
        have hzd : W2.heap.size ≤ W2.drew.heap.size := Nat.le_refl _
        generalize W2.drew = k1 at *
        refine wpAnyH_take (i := 0) (oi := { dst := some 46, op := Op.move (Operand.tmp 4), type := 24, pos := "law.go:73", after := #[], guard := none }) (v := .pointer (some ⟨gd, 0, none⟩)) rfl (by kernel_rfl) (by kernel_rfl) (by kernel_rfl) (fun _ _ _ h => h) (Or.inl ⟨by rfl, fun w hSw => ?_⟩) (by assumption) ?_
        · (try dsimp only at hSw)
          go_simp
        try simp only [Act.put, List.setIfInBounds_toArray, List.set_cons_zero, List.set_cons_succ]
        refine wpAnyH_take (i := 1) (oi := { dst := some 47, op := Op.fieldAddr 32 (Operand.tmp 7) 1, type := 0, pos := "law.go:73", after := #[], guard := none }) (v := .pointer (some ⟨gb, 1, none⟩)) rfl (by kernel_rfl) (by kernel_rfl) (by kernel_rfl) (fun _ _ _ h => h) (Or.inl ⟨by rfl, fun w hSw => ?_⟩) (by assumption) ?_
        · (try dsimp only at hSw)
          go_simp
        try simp only [Act.put, List.setIfInBounds_toArray, List.set_cons_zero, List.set_cons_succ]
        refine wpAnyH_take (i := 2) (oi := { dst := some 48, op := Op.load 3 (Operand.tmp 47), type := 3, pos := "law.go:73", after := #[{ on := 1, ground := Ground.data }], guard := none }) (v := .int .i64 nn) rfl (by kernel_rfl) (by kernel_rfl) (by kernel_rfl) (fun _ _ _ h => h) (Or.inl ⟨by rfl, fun w hSw => ?_⟩) (by assumption) ?_
        · (try dsimp only at hSw)
          go_simp
        try simp only [Act.put, List.setIfInBounds_toArray, List.set_cons_zero, List.set_cons_succ]
        refine wpAnyH_take (i := 4) (oi := { dst := some 50, op := Op.move (Operand.tmp 5), type := 26, pos := "law.go:73", after := #[], guard := none }) (v := .pointer (some ⟨gr, 0, none⟩)) rfl (by kernel_rfl) (by kernel_rfl) (by kernel_rfl) (fun _ _ _ h => h) (Or.inl ⟨by rfl, fun w hSw => ?_⟩) (by assumption) ?_
        · (try dsimp only at hSw)
          go_simp
        try simp only [Act.put, List.setIfInBounds_toArray, List.set_cons_zero, List.set_cons_succ]
        refine wpAnyH_take (i := 5) (oi := { dst := some 51, op := Op.fieldAddr 32 (Operand.tmp 7) 1, type := 0, pos := "law.go:73", after := #[], guard := none }) (v := .pointer (some ⟨gb, 1, none⟩)) rfl (by kernel_rfl) (by kernel_rfl) (by kernel_rfl) (fun _ _ _ h => h) (Or.inl ⟨by rfl, fun w hSw => ?_⟩) (by assumption) ?_
        · (try dsimp only at hSw)
          go_simp
        try simp only [Act.put, List.setIfInBounds_toArray, List.set_cons_zero, List.set_cons_succ]
        refine wpAnyH_take (i := 6) (oi := { dst := some 52, op := Op.load 3 (Operand.tmp 51), type := 3, pos := "law.go:73", after := #[{ on := 5, ground := Ground.data }], guard := none }) (v := .int .i64 nn) rfl (by kernel_rfl) (by kernel_rfl) (by kernel_rfl) (fun _ _ _ h => h) (Or.inl ⟨by rfl, fun w hSw => ?_⟩) (by assumption) ?_
        · (try dsimp only at hSw)
          go_simp
        try simp only [Act.put, List.setIfInBounds_toArray, List.set_cons_zero, List.set_cons_succ]
        refine wpAnyH_ready (rs := [3]) (by kernel_rfl) (by simp) ?_
        refine AllReadyH.cons (o := { dst := some 49, op := Op.call { callee := Callee.value (Operand.func 22), args := #[Operand.tmp 46, Operand.tmp 48], argTypes := #[24, 3] }, type := 24, pos := "law.go:73", after := #[{ on := 0, ground := Ground.data }, { on := 2, ground := Ground.data }], guard := none }) rfl (fun K hK => ?_) (AllReadyH.nil)
        go_simp
        go_at_call 22
        refine (crash_duo (m := nn) HDU.out (by omega) HRN.out).mono ?_
        rintro e k2 ⟨rfl, hp, hbk⟩
        have HP1 := Lib.hid hp
        have HK1 := Lib.hid hbk
        have HDV := Lib.hid (HDU.out.below hbk)
        replace HBL := Lib.hid (HBL.out.below hbk)
        replace hb := hb.trans (hbk.mono hb.size)
        obtain ⟨gc, hgc⟩ : ∃ gc, k1.heap.size = gc := ⟨_, rfl⟩
        try rw [hgc]
        have HGC := Lib.hid hgc
        clear v1 hp hbk hgc
        have v1 := HBL.out.cell (j := 1) rfl
        try dsimp only
        refine hK.out _ _ ?_ (fun hHeld => ?_)
        · exact v1
        clear hK K
        try simp only [Act.put, List.setIfInBounds_toArray, List.set_cons_zero, List.set_cons_succ]
        refine wpAnyH_ready (rs := [7]) (by kernel_rfl) (by simp) ?_
        refine AllReadyH.cons (o := { dst := some 53, op := Op.call { callee := Callee.value (Operand.func 23), args := #[Operand.tmp 50, Operand.tmp 52], argTypes := #[26, 3] }, type := 26, pos := "law.go:73", after := #[{ on := 4, ground := Ground.data }, { on := 6, ground := Ground.data }, { on := 3, ground := Ground.chain }], guard := none }) rfl (fun K hK => ?_) (AllReadyH.nil)
        go_simp
        go_at_call 23
        refine (rcrash_duo (m := nn) (fun k => k1.heap.size ≤ k ∧ k < k2.heap.size) HDV.out (by omega) HRN.out (fun _ hk => hk.2)).mono ?_
        rintro e k3 ⟨g2, vv2, rfl, hd, hbk⟩
        have hdc := HDU.out.crash1 HP1.out HK1.out hd hbk
        rw [HGC.out] at hdc
        have HDC := Lib.hid hdc
        replace HDV := Lib.hid (HDV.out.below hbk)
        replace HBL := Lib.hid (HBL.out.below hbk)
        replace hb := hb.trans (hbk.mono hb.size)
        clear v1 hd hbk hdc HP1 HK1
        have v1 := HBL.out.cell (j := 1) rfl
        try dsimp only
        refine hK.out _ _ ?_ (fun hHeld => ?_)
        · exact v1
        clear hK K
        try simp only [Act.put, List.setIfInBounds_toArray, List.set_cons_zero, List.set_cons_succ]
        refine wpAnyH_take (i := 8) (oi := { dst := some 13, op := Op.assign (Operand.tmp 49), type := 24, pos := "law.go:73", after := #[{ on := 3, ground := Ground.data }, { on := 7, ground := Ground.chain }, { on := 0, ground := Ground.phase }, { on := 1, ground := Ground.phase }, { on := 2, ground := Ground.phase }, { on := 3, ground := Ground.phase }, { on := 4, ground := Ground.textOnly Departure.lateStores }, { on := 5, ground := Ground.textOnly Departure.lateStores }, { on := 6, ground := Ground.textOnly Departure.lateStores }, { on := 7, ground := Ground.textOnly Departure.lateStoresUnsure }], guard := none }) (v := .pointer (some ⟨gc, 0, none⟩)) rfl (by kernel_rfl) (by kernel_rfl) (by kernel_rfl) (fun _ _ _ h => h) (Or.inl ⟨by rfl, fun w hSw => ?_⟩) (by assumption) ?_
        · (try dsimp only at hSw)
          go_simp
        try simp only [Act.put, List.setIfInBounds_toArray, List.set_cons_zero, List.set_cons_succ]
        refine wpAnyH_take (i := 9) (oi := { dst := some 14, op := Op.assign (Operand.tmp 53), type := 26, pos := "law.go:73", after := #[{ on := 7, ground := Ground.data }, { on := 8, ground := Ground.chain }, { on := 0, ground := Ground.phase }, { on := 1, ground := Ground.phase }, { on := 2, ground := Ground.phase }, { on := 3, ground := Ground.phase }, { on := 4, ground := Ground.phase }, { on := 5, ground := Ground.phase }, { on := 6, ground := Ground.phase }, { on := 7, ground := Ground.phase }, { on := 8, ground := Ground.phase }], guard := none }) (v := .pointer (some ⟨g2, 0, none⟩)) rfl (by kernel_rfl) (by kernel_rfl) (by kernel_rfl) (fun _ _ _ h => h) (Or.inl ⟨by rfl, fun w hSw => ?_⟩) (by assumption) ?_
        · (try dsimp only at hSw)
          go_simp
        try simp only [Act.put, List.setIfInBounds_toArray, List.set_cons_zero, List.set_cons_succ]
        refine wpAnyH_done (by kernel_rfl) ?_ _
        refine NoPanic.normal ?_
        have HBE := Lib.hid hb
        clear hb
        go_wp2_with fail
        refine (same_duo HDC.out (by omega) (by have := HCL.out; omega)).mono ?_
        rintro e k7 ⟨rfl, hb7⟩
        replace HDC := Lib.hid (HDC.out.below hb7)
        replace HDV := Lib.hid (HDV.out.below hb7)
        replace HBL := Lib.hid (HBL.out.below hb7)
        replace HBE := Lib.hid (HBE.out.trans (hb7.mono HBE.out.size))
        clear hb7 v1
        go_wp2_with fail
        refine (same_duo HDV.out (by omega) (by omega)).mono ?_
        rintro e k8 ⟨rfl, hb8⟩
        replace HDC := Lib.hid (HDC.out.below hb8)
        replace HDV := Lib.hid (HDV.out.below hb8)
        replace HBL := Lib.hid (HBL.out.below hb8)
        replace HBE := Lib.hid (HBE.out.trans (hb8.mono HBE.out.size))
        clear hb8
        have v1 := HBL.out.cell (j := 1) rfl
        by_cases hn2 : nn.tmod 2 = 0
        · have hn2b : (nn.tmod 2 == 0) = true := by rw [hn2]; rfl
          have HDE := Lib.hid HDC.out
          have HLN : Hid ((crash9 nn l).length ≤ l.length + 1) := Lib.hid (Nat.le_succ_of_le HCL.out)
          clear HDC HDV hn2
          go_wp2_with fail
          refine (same_duo HDE.out (by omega) (by have := HLN.out; omega)).mono ?_
          rintro e k9 ⟨rfl, hb9⟩
          replace HDE := Lib.hid (HDE.out.below hb9)
          have HBF := Lib.hid (HBE.out.trans (hb9.mono HBE.out.size))
          clear hb9 HBE
          go_wp2
          go_roundw
          case rel => exact ⟨k + 1, gc, g2, 0, _, by go_num, rfl, rfl, by omega, by omega, by omega, by have := HLN.out; omega, HDE.out, HBF.out⟩
          case measure => simp [intOf]; omega
        · have hn2b : (nn.tmod 2 == 0) = false := by simpa using hn2
          have HDE := Lib.hid HDV.out
          have HLN : Hid (l.length ≤ l.length + 1) := Lib.hid (Nat.le_succ _)
          clear HDC HDV
          go_wp2_with fail
          refine (same_duo HDE.out (by omega) (by have := HLN.out; omega)).mono ?_
          rintro e k9 ⟨rfl, hb9⟩
          replace HDE := Lib.hid (HDE.out.below hb9)
          have HBF := Lib.hid (HBE.out.trans (hb9.mono HBE.out.size))
          clear hb9 HBE
          go_wp2
          go_roundw
          case rel => exact ⟨k + 1, gd, gr, c, l, by go_num, rfl, rfl, by omega, by omega, by omega, by have := HLN.out; omega, HDE.out, HBF.out⟩
          case measure => simp [intOf]; omega
    · have hge : (q : Int) ≤ k ∨ ((k : Int) < q ∧ (50 : Int) ≤ k) := by omega
      clear hlt
      rcases hge with hge | ⟨hge, hge3⟩
      all_goals
        go_wp2
        go_ret
        exact ⟨rfl, HBR.out⟩

set_option maxRecDepth 100000 in
theorem lifted (os : Os) (started : os.Started) (H : Type) (enc : TypeId × Value → H) :
    ReturnsInHanded {} Try.checked os 3 .any (Rows.diskAllSpec.pre6 enc Try.prog Try.f3 Rows.diskAllRow.domain false) (Rows.diskAllSpec.post enc Try.prog Try.f3 false true false false) := by
  refine returnsInHanded_of_change (C := Try.checked) own started (by kernel_rfl) Try.func3
    (ChangeSpec.witness6 (enc := enc) (C := Try.checked) false ⟨#[], #[.slice none 0 0], []⟩ 8 (by kernel_rfl) (by kernel_rfl) (by kernel_rfl) (by kernel_rfl)) ?_
  intro W base args ds gs before hval0 hW hcnd _
  have hval : ∀ (j : Nat) t v, Try.f3.params[j]? = some t → args[j]? = some v → Value.okWide Try.prog W .any base t v := hval0
  have hW' := hW
  obtain ⟨p, q, hA0, hV, rfl, hfz, hnd⟩ := hW
  have hA : DataW.TrodAll enc Try.prog W 0 (fun _ => true) true Try.f3.params.toList args.toList ds p := hA0
  have hA1 := hA
  rw [Try.params3] at hA hval
  obtain ⟨v0, vs0, d0, ds0, p0, q0, hargs, rfl, rfl, h0, r0⟩ := trodAll_cons hA
  obtain ⟨rfl, rfl, rfl⟩ := trodAll_nil r0
  obtain rfl : args = #[v0] := by cases args; simp_all
  obtain ⟨rfl, rfl⟩ := trodVars_none hV
  obtain ⟨A0, c0, a0, rfl, w0, x0⟩ := open_dops (hval 0 22 v0 rfl rfl) h0
  clear hA0 hval0
  simp only [List.append_nil] at hW'
  try simp only [List.append_nil] at hA1
  refine (walk W A0 c0 a0 w0 x0).mono fun e W' ⟨he, hg⟩ => ?_
  subst he
  exact ⟨_, rfl, law_end Try.laidOut (by kernel_rfl) hW' hA1 hg rfl rfl rfl (trodAll_mk1 (shut_bool Try.underlying4 _))⟩

theorem over : Rows.diskAllRow.holds Try.pinned (OpenSpec.ofChange Rows.diskAllSpec) :=
  OpenClaim.holds_of_wide 3 Try.f3 rfl rfl rfl rfl rfl rfl rfl ⟨rfl, rfl, rfl, rfl, rfl⟩ rfl rfl rfl rfl rfl (by kernel_rfl) Try.func3 (by kernel_rfl)
    (of_decide_eq_true (by kernel_rfl)) (by unfold Func.isWrapper; first | (rw [if_pos (by decide +kernel)]; kernel_rfl) | (rw [if_neg (by decide +kernel)]; exact ⟨rfl, rfl⟩))
    (fun os started H enc _ => lifted os started H enc)

/-- the statement -/
theorem proved : Rows.DiskAllSaid := over
#print axioms proved
end Go.Proofs.Ytbdengcblncfmaa.diskAll
