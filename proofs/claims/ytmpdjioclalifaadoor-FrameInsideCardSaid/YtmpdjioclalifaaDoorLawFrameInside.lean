/-
  Frames within a frame are not told, as long as it is whole. There are no conditions; package crc's table is as the program's text lays it.
-/
import Derived.Test.YtmpdjioclalifaaDoorRows
import Derived.Test.YtmpdjioclalifaaDoorCards
import Derived.Test.YtmpdjioclalifaaDoorTie
import Derived.Test.YtmpdjioclalifaaDoorDoorKit
import Derived.SevenTiedAt
import Derived.Test.YtmpdjioclalifaaDoorL8Begun
import Derived.Test.YtmpdjioclalifaaDoorL8Set
import Derived.Test.YtmpdjioclalifaaDoorLawKit
import Derived.WalkKit
import Derived.ProofKit
import Derived.OpenShut
import Derived.ShutString
set_option linter.unusedSimpArgs false
set_option linter.unusedVariables false
namespace Go.Proofs.YtmpdjioclalifaaDoor.frameInside
open Go.ChangeShapes Go.WideShapes Go.ChangeAt Go.RowKit
open Go.ChangeMaps (open_string shut_string)
set_option linter.unusedVariables false

theorem own : ownKnob Tryd.prog.godebug = none := by kernel_rfl
/-- the frames within -/
def inL (n : Nat) : List (Nat × List UInt8) := (List.range n).map fun i => (1 + i, [i.toUInt8])
theorem inL_succ (n : Nat) : inL (n + 1) = inL n ++ [(1 + n, [n.toUInt8])] := by unfold inL; rw [List.range_succ, List.map_append]; rfl
theorem inL_len (n : Nat) : (inL n).length = n := by simp [inL]
theorem inL_ok {n : Nat} (h : n ≤ 50) : ∀ p ∈ inL n, 1 ≤ p.1 ∧ p.1 ≤ 255 ∧ p.2.length ≤ 4000 := by
  intro p hp
  obtain ⟨i, hi, rfl⟩ := List.mem_map.1 hp
  have := List.mem_range.1 hi
  simp only [List.length_singleton]
  omega
theorem inB_len : ∀ (n : Nat), n ≤ 50 → (catB (inL n)).length = 7 * n
  | 0, _ => rfl
  | n + 1, h => by
    rw [inL_succ, catB_snoc, List.length_append, inB_len n (by omega)]
    have h1 := sealB_len ((1 + n : Nat) : Int) [n.toUInt8] (by omega) (by omega) (by simp)
    have h2 := put_len12 1 (by omega)
    simp only [List.length_singleton] at h1
    rw [h1, h2]; simp; omega

set_option maxRecDepth 100000 in
set_option maxHeartbeats 8000000 in
theorem walk (w : World) (a0 : Int) (w0 : (Lit.int .i64 a0).wf = true) (hT : Tbl w) :
    Calls Tryd.prog 8 #[.int .i64 a0] w fun e w' => e = .returned (.bool true) ∧ Below w.heap.size w w' := by
  have HT := Lib.hid hT; clear hT
  go_enter Tryd.func8, Tryd.ntmps8
  go_wp2_with fail
  refine (begun8_any w HT.out).mono ?_
  rintro e w1 ⟨rfl, hb1⟩
  have HT1 := Lib.hid (tbl_keep HT.out hb1)
  clear HT
  have hw0 := bounds_i64 w0
  by_cases h0 : a0 < 1
  · go_wp2
    go_ret
    exact ⟨rfl, hb1⟩
  · by_cases h50 : 50 < a0
    · go_wp2
      go_ret
      exact ⟨rfl, hb1⟩
    · obtain ⟨n, rfl⟩ : ∃ n : Nat, a0 = (n : Int) := ⟨a0.toNat, by omega⟩
      have hn1 : 1 ≤ n := by omega
      have hn50 : n ≤ 50 := by omega
      have hn50' : (n : Int) ≤ 50 := by omega
      have HB1 := Lib.hid hb1
      clear hb1 w0 hw0 h0 h50
      go_wp2_with fail
      go_loopw [4, 5] (fun v i wr => ∃ k : Nat, i = .int .i64 k ∧ k ≤ n ∧ OwnB w1.heap.size v (catB (inL k)) wr ∧ Below w1.heap.size w1 wr) (fun _ i _ => n - (intOf i).toNat)
      case atStart => exact ⟨0, rfl, Nat.zero_le _, ownB_nil _ _, Below.refl _ _⟩
      case round =>
        obtain ⟨k, rfl, hk, hown, hb⟩ := hrel
        obtain ⟨A, c, hv⟩ := own_slice hown
        obtain ⟨m, hm⟩ : ∃ m, (catB (inL k)).length = m := ⟨_, rfl⟩
        rw [hm] at hv
        subst hv
        by_cases hkn : k < n
        · rw [inB_len k (by omega)] at hm
          have hk50 : (k : Int) ≤ 50 := by omega
          have hsum : (k : Int) < n := by omega
          have hwk : IntKind.u8.wrap (k : Int) = (k : Int) := by rw [IntKind.wrap_u8]; omega
          have hby := byt_new1 wr 5 (k : Int) k.toUInt8 (by rw [Nu.u8n _ (by omega)])
          have hbk : Below w1.heap.size w1 (wr.alloc (Obj.cells #[.int .u8 (k : Int)] 5)) := hb.alloc hb.size _
          have hown1 := OwnB.alloc hown (Obj.cells #[.int .u8 (k : Int)] 5)
          have hlen := inB_len k (by omega)
          obtain ⟨Lk, hLk⟩ : ∃ Lk, catB (inL k) = Lk := ⟨_, rfl⟩
          rw [hLk] at hown1 hlen
          have hT2 := tbl_keep HT1.out hbk
          have HLK := Lib.hid hLk; have HLEN := Lib.hid hlen; have HO := Lib.hid hown1; have HBY := Lib.hid hby; have HT2 := Lib.hid hT2
          clear hown hlen hLk hby hT2 hown1 hb
          go_wp2_with fail
          refine (fseal_is (1 + (k : Int)) _ _ [k.toUInt8] _ _ HBY.out (by simp) (by simp) HT2.out rfl).mono ?_
          rintro e w2 ⟨v2, rfl, ho2, hb2⟩
          have hown2 := HO.out.below hb2
          have hb2 : Below w1.heap.size w1 w2 := hbk.trans (hb2.mono hbk.size)
          have hby2 := Byt.of_own ho2
          clear hbk ho2
          go_wp2_with (at_builtin; refine wpList_append_byt_at rfl _ _ rfl w1.heap.size _ _ _ _ _ rfl hown2 rfl hby2 ?x1 hb2.size ?_)
          case x1 => have := sealB_short (1 + (k : Int)) [k.toUInt8]; have := HLEN.out; omega
          intro v3 w3 hown3 hb3 _
          have hb3 : Below w1.heap.size w1 w3 := hb2.trans hb3
          clear hown2 hby2 hb2
          go_wp2
          go_roundw
          case rel => exact ⟨k + 1, by go_num, by omega, by rw [inL_succ, catB_snoc, HLK.out]; simpa using hown3, hb3⟩
          case measure => first | (simp [intOf]; omega) | (simp [intOf]; done)
        · have hkk : k = n := by omega
          subst hkk
          rw [inB_len k hn50] at hm
          have hcat := AllR.cat (AllR.nil [] (by decide)) (inL k) (inL_ok hn50)
          have hlen := inB_len k hn50
          have hll := inL_len k
          rw [List.append_nil, List.append_nil, Nat.add_zero, hlen] at hcat
          obtain ⟨F, hF⟩ : ∃ F, inL k = F := ⟨_, rfl⟩
          rw [hF] at hll hcat hown hlen
          obtain ⟨b, hb9⟩ : ∃ b, catB F = b := ⟨_, rfl⟩
          rw [hb9] at hlen hcat hown
          have hbl : b.length ≤ 350 := by omega
          have h9 := AllR.cons _ _ _ _ [] 0 (openB_seal 9 b [] (by decide) (by decide) (by omega)) (AllR.nil _ (by rw [List.append_nil, List.drop_length]; decide))
          rw [List.append_nil, Nat.add_zero] at h9
          obtain ⟨s, hs⟩ : ∃ s, sealB 9 b = s := ⟨_, rfl⟩
          have hsl := sealB_short 9 b
          rw [hs] at h9 hsl
          have HS := Lib.hid hs; have H9 := Lib.hid h9; have HC := Lib.hid hcat; have HLL := Lib.hid hll; have HO := Lib.hid hown; have HLEN := Lib.hid hlen
          clear hs h9 hcat hll hown hlen hF hb9 hkn
          have hT2 := tbl_keep HT1.out hb
          have HT2 := Lib.hid hT2; clear hT2
          subst hm
          have hbW := HB1.out.trans (hb.mono HB1.out.size)
          go_wp2_with fail
          refine (fall_own _ _ b _ HO.out (by omega) HT2.out).mono ?_
          rintro e w2 ⟨fs, u, v2, har, rfl, hf2, hb2⟩
          obtain ⟨rfl, rfl⟩ := har.two HC.out
          obtain ⟨A2, c2, rfl⟩ := hf2.slice
          rw [HLL.out] at hf2 ⊢
          have HO2 := Lib.hid (HO.out.below hb2)
          have HT3 := Lib.hid (tbl_keep HT2.out hb2)
          have hbW2 := hbW.trans (hb2.mono hbW.size)
          clear har hf2 hb2 HO HT2 hbW
          go_wp2_with fail
          have hby2 := Byt.of_own HO2.out
          refine (fseal_is 9 _ _ b s _ hby2 (Nat.le_refl _) (by omega) HT3.out HS.out).mono ?_
          rintro e w3 ⟨v3, rfl, ho3, hb3⟩
          have HO3 := Lib.hid (HO2.out.below hb3)
          have HT4 := Lib.hid (tbl_keep HT3.out hb3)
          have hbW3 := hbW2.trans (hb3.mono hbW2.size)
          have HV3 := Lib.hid ho3
          clear ho3 hb3 HO2 HT3 hby2 hbW2
          go_wp2_with fail
          refine (fall_own _ _ s _ HV3.out (by omega) HT4.out).mono ?_
          rintro e w4 ⟨fs, u, v4, har, rfl, hf4, hb4⟩
          obtain ⟨rfl, rfl⟩ := har.two H9.out
          have HO4 := Lib.hid (HO3.out.below hb4)
          have HT5 := Lib.hid (tbl_keep HT4.out hb4)
          have hbW4 := hbW3.trans (hb4.mono hbW3.size)
          obtain ⟨A4, c4, rfl⟩ := hf4.slice
          obtain ⟨g, u4, rfl, hg, hr4, ho4⟩ := hf4.at_ 0 (by simp)
          have hc0 : w4.cell? ⟨g, 0, none⟩ = some (.int .i64 9) := hr4 0 _ rfl
          have hc1 : w4.cell? ⟨g, 1, none⟩ = some u4 := hr4 1 _ rfl
          obtain ⟨Au, cu, hu⟩ := own_slice ho4
          subst hu
          obtain ⟨S, hSe⟩ : ∃ S, (⟨b.toArray⟩ : ByteArray) = S := ⟨_, rfl⟩
          have HSE := Lib.hid hSe
          have hbu := Byt.of_own ho4
          have HU := Lib.hid hbu
          have hb : Below w.heap.size w w4 := hbW4
          clear har hf4 hb4 hr4 ho4 HO3 HT4 hbW3 HV3 hSe hbu hbW4
          go_upto_region 13 with fail
          replace hc0 : w4.drew.cell? ⟨g, 0, none⟩ = some (.int .i64 9) := hc0
          replace hc1 : w4.drew.cell? ⟨g, 1, none⟩ = some (.slice Au b.length cu) := hc1
          replace HU := Lib.hid ((HU.out).below ((Below.refl w4.heap.size w4).drew) (by have := hb.size; first | exact Nat.le_refl _ | omega))
          replace HO4 := Lib.hid ((HO4.out).below ((Below.refl w4.heap.size w4).drew))
          replace HT5 := Lib.hid (tbl_keep (HT5.out) ((Below.refl w4.heap.size w4).drew))
          have m1 : (convert 22 9 (.slice Au b.length cu)).run Tryd.prog w4.drew = .ok (.string S) w4.drew := conv_byt HU.out HSE.out
          have m2 : (convert 22 9 (.slice A (7 * k) c)).run Tryd.prog w4.drew = .ok (.string S) w4.drew := conv_byt (Byt.of_own HO4.out) HSE.out
          refine wp_region_noPanic ?_
          refine wp_region_held_drew (S := fun W => W.cell? ⟨g, 0, none⟩ = some (.int .i64 9) ∧ W.cell? ⟨g, 1, none⟩ = some (.slice Au b.length cu) ∧ (convert 22 9 (.slice Au b.length cu)).run Tryd.prog W = .ok (.string S) W ∧ (convert 22 9 (.slice A (7 * k) c)).run Tryd.prog W = .ok (.string S) W) (by kernel_rfl) ?_ (fun hHeld => ?_)
          · exact ⟨hc0, hc1, m1, m2⟩
          replace hb : Below w.heap.size w w4.drew := hb.drew
          replace hg : g < w4.drew.heap.size := hg
          have hzd : w4.heap.size ≤ w4.drew.heap.size := Nat.le_refl _
          generalize w4.drew = k61 at *
          refine wpAnyH_take (i := 0) (oi := { dst := some 43, op := Op.move (Operand.tmp 6), type := 34, pos := "wide.go:38", after := #[], guard := none }) (v := .slice A2 k c2) rfl (by kernel_rfl) (by kernel_rfl) (by kernel_rfl) (fun _ _ _ h => h) (Or.inl ⟨by rfl, fun w hSw => ?_⟩) (by assumption) ?_
          · (try dsimp only at hSw)
            go_simp
          try simp only [Act.put, List.setIfInBounds_toArray, List.set_cons_zero, List.set_cons_succ]
          refine wpAnyH_take (i := 1) (oi := { dst := some 44, op := Op.call { callee := Callee.builtin Builtin.len, args := #[Operand.tmp 43], argTypes := #[34] }, type := 3, pos := "wide.go:38", after := #[{ on := 0, ground := Ground.data }], guard := none }) (v := .int .i64 k) rfl (by kernel_rfl) (by kernel_rfl) (by kernel_rfl) (fun _ _ _ h => h) (Or.inl ⟨by rfl, fun w hSw => ?_⟩) (by assumption) ?_
          · (try dsimp only at hSw)
            go_simp
          try simp only [Act.put, List.setIfInBounds_toArray, List.set_cons_zero, List.set_cons_succ]
          refine wpAnyH_take (i := 2) (oi := { dst := some 45, op := Op.move (Operand.tmp 0), type := 3, pos := "wide.go:38", after := #[], guard := none }) (v := .int .i64 k) rfl (by kernel_rfl) (by kernel_rfl) (by kernel_rfl) (fun _ _ _ h => h) (Or.inl ⟨by rfl, fun w hSw => ?_⟩) (by assumption) ?_
          · (try dsimp only at hSw)
            go_simp
          try simp only [Act.put, List.setIfInBounds_toArray, List.set_cons_zero, List.set_cons_succ]
          refine wpAnyH_take (i := 3) (oi := { dst := some 46, op := Op.binOp BinOp.eql 3 (Operand.tmp 44) (Operand.tmp 45) 3, type := 4, pos := "wide.go:38", after := #[{ on := 1, ground := Ground.data }, { on := 2, ground := Ground.data }], guard := none }) (v := .bool true) rfl (by kernel_rfl) (by kernel_rfl) (by kernel_rfl) (fun _ _ _ h => h) (Or.inl ⟨by rfl, fun w hSw => ?_⟩) (by assumption) ?_
          · (try dsimp only at hSw)
            go_simp
          try simp only [Act.put, List.setIfInBounds_toArray, List.set_cons_zero, List.set_cons_succ]
          refine wpAnyH_take (i := 4) (oi := { dst := some 47, op := Op.move (Operand.tmp 46), type := 4, pos := "wide.go:38", after := #[{ on := 3, ground := Ground.data }], guard := none }) (v := .bool true) rfl (by kernel_rfl) (by kernel_rfl) (by kernel_rfl) (fun _ _ _ h => h) (Or.inl ⟨by rfl, fun w hSw => ?_⟩) (by assumption) ?_
          · (try dsimp only at hSw)
            go_simp
          try simp only [Act.put, List.setIfInBounds_toArray, List.set_cons_zero, List.set_cons_succ]
          refine wpAnyH_take (i := 5) (oi := { dst := some 48, op := Op.move (Operand.tmp 7), type := 3, pos := "wide.go:38", after := #[{ on := 4, ground := Ground.guard }], guard := some (4, true) }) (v := .int .i64 ((7 * k : Nat) : Int)) rfl (by kernel_rfl) (by kernel_rfl) (by kernel_rfl) (fun _ _ _ h => h) (Or.inl ⟨by rfl, fun w hSw => ?_⟩) (by assumption) ?_
          · (try dsimp only at hSw)
            go_simp
          try simp only [Act.put, List.setIfInBounds_toArray, List.set_cons_zero, List.set_cons_succ]
          refine wpAnyH_take (i := 6) (oi := { dst := some 49, op := Op.move (Operand.tmp 4), type := 22, pos := "wide.go:38", after := #[{ on := 4, ground := Ground.guard }], guard := some (4, true) }) (v := .slice A (7 * k) c) rfl (by kernel_rfl) (by kernel_rfl) (by kernel_rfl) (fun _ _ _ h => h) (Or.inl ⟨by rfl, fun w hSw => ?_⟩) (by assumption) ?_
          · (try dsimp only at hSw)
            go_simp
          try simp only [Act.put, List.setIfInBounds_toArray, List.set_cons_zero, List.set_cons_succ]
          refine wpAnyH_take (i := 7) (oi := { dst := some 50, op := Op.call { callee := Callee.builtin Builtin.len, args := #[Operand.tmp 49], argTypes := #[22] }, type := 3, pos := "wide.go:38", after := #[{ on := 6, ground := Ground.data }, { on := 4, ground := Ground.guard }], guard := some (4, true) }) (v := .int .i64 ((7 * k : Nat) : Int)) rfl (by kernel_rfl) (by kernel_rfl) (by kernel_rfl) (fun _ _ _ h => h) (Or.inl ⟨by rfl, fun w hSw => ?_⟩) (by assumption) ?_
          · (try dsimp only at hSw)
            go_simp
          try simp only [Act.put, List.setIfInBounds_toArray, List.set_cons_zero, List.set_cons_succ]
          refine wpAnyH_take (i := 8) (oi := { dst := some 51, op := Op.binOp BinOp.eql 3 (Operand.tmp 48) (Operand.tmp 50) 3, type := 4, pos := "wide.go:38", after := #[{ on := 5, ground := Ground.data }, { on := 7, ground := Ground.data }, { on := 4, ground := Ground.guard }], guard := some (4, true) }) (v := .bool true) rfl (by kernel_rfl) (by kernel_rfl) (by kernel_rfl) (fun _ _ _ h => h) (Or.inl ⟨by rfl, fun w hSw => ?_⟩) (by assumption) ?_
          · (try dsimp only at hSw)
            go_simp
          try simp only [Act.put, List.setIfInBounds_toArray, List.set_cons_zero, List.set_cons_succ]
          refine wpAnyH_take (i := 9) (oi := { dst := some 52, op := Op.pick (Operand.tmp 47) (Operand.tmp 51) (Operand.const (Value.bool false)), type := 4, pos := "wide.go:38", after := #[{ on := 4, ground := Ground.data }, { on := 8, ground := Ground.data }], guard := none }) (v := .bool true) rfl (by kernel_rfl) (by kernel_rfl) (by kernel_rfl) (fun _ _ _ h => h) (Or.inl ⟨by rfl, fun w hSw => ?_⟩) (by assumption) ?_
          · (try dsimp only at hSw)
            go_simp
          try simp only [Act.put, List.setIfInBounds_toArray, List.set_cons_zero, List.set_cons_succ]
          refine wpAnyH_take (i := 10) (oi := { dst := some 53, op := Op.move (Operand.tmp 52), type := 4, pos := "wide.go:38", after := #[{ on := 9, ground := Ground.data }, { on := 4, ground := Ground.chain }], guard := none }) (v := .bool true) rfl (by kernel_rfl) (by kernel_rfl) (by kernel_rfl) (fun _ _ _ h => h) (Or.inl ⟨by rfl, fun w hSw => ?_⟩) (by assumption) ?_
          · (try dsimp only at hSw)
            go_simp
          try simp only [Act.put, List.setIfInBounds_toArray, List.set_cons_zero, List.set_cons_succ]
          refine wpAnyH_take (i := 11) (oi := { dst := some 54, op := Op.move (Operand.tmp 8), type := 34, pos := "wide.go:38", after := #[{ on := 10, ground := Ground.guard }], guard := some (10, true) }) (v := .slice (some ⟨g, 0, none⟩) 1 c4) rfl (by kernel_rfl) (by kernel_rfl) (by kernel_rfl) (fun _ _ _ h => h) (Or.inl ⟨by rfl, fun w hSw => ?_⟩) (by assumption) ?_
          · (try dsimp only at hSw)
            go_simp
          try simp only [Act.put, List.setIfInBounds_toArray, List.set_cons_zero, List.set_cons_succ]
          refine wpAnyH_take (i := 12) (oi := { dst := some 55, op := Op.call { callee := Callee.builtin Builtin.len, args := #[Operand.tmp 54], argTypes := #[34] }, type := 3, pos := "wide.go:38", after := #[{ on := 11, ground := Ground.data }, { on := 10, ground := Ground.guard }], guard := some (10, true) }) (v := .int .i64 1) rfl (by kernel_rfl) (by kernel_rfl) (by kernel_rfl) (fun _ _ _ h => h) (Or.inl ⟨by rfl, fun w hSw => ?_⟩) (by assumption) ?_
          · (try dsimp only at hSw)
            go_simp
          try simp only [Act.put, List.setIfInBounds_toArray, List.set_cons_zero, List.set_cons_succ]
          refine wpAnyH_take (i := 13) (oi := { dst := some 56, op := Op.binOp BinOp.eql 3 (Operand.tmp 55) (Operand.const (Value.int IntKind.i64 1)) 3, type := 4, pos := "wide.go:38", after := #[{ on := 12, ground := Ground.data }, { on := 10, ground := Ground.guard }], guard := some (10, true) }) (v := .bool true) rfl (by kernel_rfl) (by kernel_rfl) (by kernel_rfl) (fun _ _ _ h => h) (Or.inl ⟨by rfl, fun w hSw => ?_⟩) (by assumption) ?_
          · (try dsimp only at hSw)
            go_simp
          try simp only [Act.put, List.setIfInBounds_toArray, List.set_cons_zero, List.set_cons_succ]
          refine wpAnyH_take (i := 14) (oi := { dst := some 57, op := Op.pick (Operand.tmp 53) (Operand.tmp 56) (Operand.const (Value.bool false)), type := 4, pos := "wide.go:38", after := #[{ on := 10, ground := Ground.data }, { on := 13, ground := Ground.data }], guard := none }) (v := .bool true) rfl (by kernel_rfl) (by kernel_rfl) (by kernel_rfl) (fun _ _ _ h => h) (Or.inl ⟨by rfl, fun w hSw => ?_⟩) (by assumption) ?_
          · (try dsimp only at hSw)
            go_simp
          try simp only [Act.put, List.setIfInBounds_toArray, List.set_cons_zero, List.set_cons_succ]
          refine wpAnyH_take (i := 15) (oi := { dst := some 58, op := Op.move (Operand.tmp 57), type := 4, pos := "wide.go:38", after := #[{ on := 14, ground := Ground.data }, { on := 10, ground := Ground.chain }], guard := none }) (v := .bool true) rfl (by kernel_rfl) (by kernel_rfl) (by kernel_rfl) (fun _ _ _ h => h) (Or.inl ⟨by rfl, fun w hSw => ?_⟩) (by assumption) ?_
          · (try dsimp only at hSw)
            go_simp
          try simp only [Act.put, List.setIfInBounds_toArray, List.set_cons_zero, List.set_cons_succ]
          refine wpAnyH_take (i := 16) (oi := { dst := some 59, op := Op.move (Operand.tmp 8), type := 34, pos := "wide.go:38", after := #[{ on := 15, ground := Ground.guard }], guard := some (15, true) }) (v := .slice (some ⟨g, 0, none⟩) 1 c4) rfl (by kernel_rfl) (by kernel_rfl) (by kernel_rfl) (fun _ _ _ h => h) (Or.inl ⟨by rfl, fun w hSw => ?_⟩) (by assumption) ?_
          · (try dsimp only at hSw)
            go_simp
          try simp only [Act.put, List.setIfInBounds_toArray, List.set_cons_zero, List.set_cons_succ]
          refine wpAnyH_take (i := 17) (oi := { dst := some 60, op := Op.indexAddr 34 (Operand.tmp 59) (Operand.const (Value.int IntKind.i64 0)), type := 0, pos := "wide.go:38", after := #[{ on := 16, ground := Ground.data }, { on := 15, ground := Ground.guard }], guard := some (15, true) }) (v := .pointer (some ⟨g, 0, none⟩)) rfl (by kernel_rfl) (by kernel_rfl) (by kernel_rfl) (fun _ _ _ h => h) (Or.inl ⟨by rfl, fun w hSw => ?_⟩) (by assumption) ?_
          · (try dsimp only at hSw)
            go_simp
          try simp only [Act.put, List.setIfInBounds_toArray, List.set_cons_zero, List.set_cons_succ]
          refine wpAnyH_take (i := 18) (oi := { dst := some 61, op := Op.fieldAddr 38 (Operand.tmp 60) 0, type := 0, pos := "wide.go:38", after := #[{ on := 17, ground := Ground.data }, { on := 15, ground := Ground.guard }], guard := some (15, true) }) (v := .pointer (some ⟨g, 0, none⟩)) rfl (by kernel_rfl) (by kernel_rfl) (by kernel_rfl) (fun _ _ _ h => h) (Or.inl ⟨by rfl, fun w hSw => ?_⟩) (by assumption) ?_
          · (try dsimp only at hSw)
            go_simp
          try simp only [Act.put, List.setIfInBounds_toArray, List.set_cons_zero, List.set_cons_succ]
          refine wpAnyH_take (i := 19) (oi := { dst := some 62, op := Op.load 3 (Operand.tmp 61), type := 3, pos := "wide.go:38", after := #[{ on := 18, ground := Ground.data }, { on := 15, ground := Ground.guard }], guard := some (15, true) }) (v := .int .i64 9) rfl (by kernel_rfl) (by kernel_rfl) (by kernel_rfl) (fun _ _ _ h => h) (Or.inl ⟨by rfl, fun w hSw => ?_⟩) (by assumption) ?_
          · (try dsimp only at hSw)
            go_simp
          try simp only [Act.put, List.setIfInBounds_toArray, List.set_cons_zero, List.set_cons_succ]
          refine wpAnyH_take (i := 20) (oi := { dst := some 63, op := Op.binOp BinOp.eql 3 (Operand.tmp 62) (Operand.const (Value.int IntKind.i64 9)) 3, type := 4, pos := "wide.go:38", after := #[{ on := 19, ground := Ground.data }, { on := 15, ground := Ground.guard }], guard := some (15, true) }) (v := .bool true) rfl (by kernel_rfl) (by kernel_rfl) (by kernel_rfl) (fun _ _ _ h => h) (Or.inl ⟨by rfl, fun w hSw => ?_⟩) (by assumption) ?_
          · (try dsimp only at hSw)
            go_simp
          try simp only [Act.put, List.setIfInBounds_toArray, List.set_cons_zero, List.set_cons_succ]
          refine wpAnyH_take (i := 21) (oi := { dst := some 64, op := Op.pick (Operand.tmp 58) (Operand.tmp 63) (Operand.const (Value.bool false)), type := 4, pos := "wide.go:38", after := #[{ on := 15, ground := Ground.data }, { on := 20, ground := Ground.data }], guard := none }) (v := .bool true) rfl (by kernel_rfl) (by kernel_rfl) (by kernel_rfl) (fun _ _ _ h => h) (Or.inl ⟨by rfl, fun w hSw => ?_⟩) (by assumption) ?_
          · (try dsimp only at hSw)
            go_simp
          try simp only [Act.put, List.setIfInBounds_toArray, List.set_cons_zero, List.set_cons_succ]
          refine wpAnyH_take (i := 22) (oi := { dst := some 65, op := Op.move (Operand.tmp 64), type := 4, pos := "wide.go:38", after := #[{ on := 21, ground := Ground.data }, { on := 15, ground := Ground.chain }], guard := none }) (v := .bool true) rfl (by kernel_rfl) (by kernel_rfl) (by kernel_rfl) (fun _ _ _ h => h) (Or.inl ⟨by rfl, fun w hSw => ?_⟩) (by assumption) ?_
          · (try dsimp only at hSw)
            go_simp
          try simp only [Act.put, List.setIfInBounds_toArray, List.set_cons_zero, List.set_cons_succ]
          refine wpAnyH_take (i := 23) (oi := { dst := some 66, op := Op.move (Operand.tmp 8), type := 34, pos := "wide.go:38", after := #[{ on := 22, ground := Ground.guard }], guard := some (22, true) }) (v := .slice (some ⟨g, 0, none⟩) 1 c4) rfl (by kernel_rfl) (by kernel_rfl) (by kernel_rfl) (fun _ _ _ h => h) (Or.inl ⟨by rfl, fun w hSw => ?_⟩) (by assumption) ?_
          · (try dsimp only at hSw)
            go_simp
          try simp only [Act.put, List.setIfInBounds_toArray, List.set_cons_zero, List.set_cons_succ]
          refine wpAnyH_take (i := 24) (oi := { dst := some 67, op := Op.indexAddr 34 (Operand.tmp 66) (Operand.const (Value.int IntKind.i64 0)), type := 0, pos := "wide.go:38", after := #[{ on := 23, ground := Ground.data }, { on := 22, ground := Ground.guard }], guard := some (22, true) }) (v := .pointer (some ⟨g, 0, none⟩)) rfl (by kernel_rfl) (by kernel_rfl) (by kernel_rfl) (fun _ _ _ h => h) (Or.inl ⟨by rfl, fun w hSw => ?_⟩) (by assumption) ?_
          · (try dsimp only at hSw)
            go_simp
          try simp only [Act.put, List.setIfInBounds_toArray, List.set_cons_zero, List.set_cons_succ]
          refine wpAnyH_take (i := 25) (oi := { dst := some 68, op := Op.fieldAddr 38 (Operand.tmp 67) 1, type := 0, pos := "wide.go:38", after := #[{ on := 24, ground := Ground.data }, { on := 22, ground := Ground.guard }], guard := some (22, true) }) (v := .pointer (some ⟨g, 1, none⟩)) rfl (by kernel_rfl) (by kernel_rfl) (by kernel_rfl) (fun _ _ _ h => h) (Or.inl ⟨by rfl, fun w hSw => ?_⟩) (by assumption) ?_
          · (try dsimp only at hSw)
            go_simp
          try simp only [Act.put, List.setIfInBounds_toArray, List.set_cons_zero, List.set_cons_succ]
          refine wpAnyH_take (i := 26) (oi := { dst := some 69, op := Op.load 22 (Operand.tmp 68), type := 22, pos := "wide.go:38", after := #[{ on := 25, ground := Ground.data }, { on := 22, ground := Ground.guard }], guard := some (22, true) }) (v := .slice Au b.length cu) rfl (by kernel_rfl) (by kernel_rfl) (by kernel_rfl) (fun _ _ _ h => h) (Or.inl ⟨by rfl, fun w hSw => ?_⟩) (by assumption) ?_
          · (try dsimp only at hSw)
            go_simp
          try simp only [Act.put, List.setIfInBounds_toArray, List.set_cons_zero, List.set_cons_succ]
          refine wpAnyH_take (i := 27) (oi := { dst := some 70, op := Op.convert 22 9 (Operand.tmp 69), type := 9, pos := "wide.go:38", after := #[{ on := 26, ground := Ground.data }, { on := 22, ground := Ground.guard }], guard := some (22, true) }) (v := .string S) rfl (by kernel_rfl) (by kernel_rfl) (by kernel_rfl) (fun _ _ _ h => h) (Or.inl ⟨by rfl, fun w hSw => ?_⟩) (by assumption) ?_
          · (try dsimp only at hSw)
            go_simp
          try simp only [Act.put, List.setIfInBounds_toArray, List.set_cons_zero, List.set_cons_succ]
          refine wpAnyH_take (i := 28) (oi := { dst := some 71, op := Op.move (Operand.tmp 4), type := 22, pos := "wide.go:38", after := #[{ on := 22, ground := Ground.guard }], guard := some (22, true) }) (v := .slice A (7 * k) c) rfl (by kernel_rfl) (by kernel_rfl) (by kernel_rfl) (fun _ _ _ h => h) (Or.inl ⟨by rfl, fun w hSw => ?_⟩) (by assumption) ?_
          · (try dsimp only at hSw)
            go_simp
          try simp only [Act.put, List.setIfInBounds_toArray, List.set_cons_zero, List.set_cons_succ]
          refine wpAnyH_take (i := 29) (oi := { dst := some 72, op := Op.convert 22 9 (Operand.tmp 71), type := 9, pos := "wide.go:38", after := #[{ on := 28, ground := Ground.data }, { on := 22, ground := Ground.guard }], guard := some (22, true) }) (v := .string S) rfl (by kernel_rfl) (by kernel_rfl) (by kernel_rfl) (fun _ _ _ h => h) (Or.inl ⟨by rfl, fun w hSw => ?_⟩) (by assumption) ?_
          · (try dsimp only at hSw)
            go_simp
          try simp only [Act.put, List.setIfInBounds_toArray, List.set_cons_zero, List.set_cons_succ]
          refine wpAnyH_take (i := 30) (oi := { dst := some 73, op := Op.binOp BinOp.eql 9 (Operand.tmp 70) (Operand.tmp 72) 9, type := 4, pos := "wide.go:38", after := #[{ on := 27, ground := Ground.data }, { on := 29, ground := Ground.data }, { on := 22, ground := Ground.guard }], guard := some (22, true) }) (v := .bool true) rfl (by kernel_rfl) (by kernel_rfl) (by kernel_rfl) (fun _ _ _ h => h) (Or.inl ⟨by rfl, fun w hSw => ?_⟩) (by assumption) ?_
          · (try dsimp only at hSw)
            go_simp
          try simp only [Act.put, List.setIfInBounds_toArray, List.set_cons_zero, List.set_cons_succ]
          refine wpAnyH_take (i := 31) (oi := { dst := some 74, op := Op.pick (Operand.tmp 65) (Operand.tmp 73) (Operand.const (Value.bool false)), type := 4, pos := "wide.go:38", after := #[{ on := 22, ground := Ground.data }, { on := 30, ground := Ground.data }], guard := none }) (v := .bool true) rfl (by kernel_rfl) (by kernel_rfl) (by kernel_rfl) (fun _ _ _ h => h) (Or.inl ⟨by rfl, fun w hSw => ?_⟩) (by assumption) ?_
          · (try dsimp only at hSw)
            go_simp
          try simp only [Act.put, List.setIfInBounds_toArray, List.set_cons_zero, List.set_cons_succ]
          refine wpAnyH_take (i := 32) (oi := { dst := some 75, op := Op.move (Operand.tmp 74), type := 4, pos := "wide.go:38", after := #[{ on := 31, ground := Ground.data }, { on := 22, ground := Ground.chain }], guard := none }) (v := .bool true) rfl (by kernel_rfl) (by kernel_rfl) (by kernel_rfl) (fun _ _ _ h => h) (Or.inl ⟨by rfl, fun w hSw => ?_⟩) (by assumption) ?_
          · (try dsimp only at hSw)
            go_simp
          try simp only [Act.put, List.setIfInBounds_toArray, List.set_cons_zero, List.set_cons_succ]
          refine wpAnyH_take (i := 33) (oi := { dst := some 76, op := Op.move (Operand.tmp 9), type := 3, pos := "wide.go:38", after := #[{ on := 32, ground := Ground.guard }], guard := some (32, true) }) (v := .int .i64 ((s.length : Nat) : Int)) rfl (by kernel_rfl) (by kernel_rfl) (by kernel_rfl) (fun _ _ _ h => h) (Or.inl ⟨by rfl, fun w hSw => ?_⟩) (by assumption) ?_
          · (try dsimp only at hSw)
            go_simp
          try simp only [Act.put, List.setIfInBounds_toArray, List.set_cons_zero, List.set_cons_succ]
          refine wpAnyH_take (i := 34) (oi := { dst := some 77, op := Op.move (Operand.tmp 4), type := 22, pos := "wide.go:38", after := #[{ on := 32, ground := Ground.guard }], guard := some (32, true) }) (v := .slice A (7 * k) c) rfl (by kernel_rfl) (by kernel_rfl) (by kernel_rfl) (fun _ _ _ h => h) (Or.inl ⟨by rfl, fun w hSw => ?_⟩) (by assumption) ?_
          · (try dsimp only at hSw)
            go_simp
          try simp only [Act.put, List.setIfInBounds_toArray, List.set_cons_zero, List.set_cons_succ]
          refine wpAnyH_ready (rs := [35]) (by kernel_rfl) (by simp) ?_
          refine AllReadyH.cons (o := { dst := some 78, op := Op.call { callee := Callee.value (Operand.func 11), args := #[Operand.const (Value.int IntKind.i64 9), Operand.tmp 77], argTypes := #[3, 22] }, type := 22, pos := "wide.go:38", after := #[{ on := 34, ground := Ground.data }, { on := 32, ground := Ground.chain }, { on := 32, ground := Ground.guard }], guard := some (32, true) }) rfl (fun K hK => ?_) (AllReadyH.nil)
          go_simp
          go_at_call 11
          refine (fseal_is 9 _ _ b s _ (Byt.of_own HO4.out) (Nat.le_refl _) (by have := HLEN.out; omega) HT5.out HS.out).mono ?_
          rintro e k62 ⟨v9, rfl, ho9, h⟩
          have hk : Below k61.heap.size k61 k62 := by
            refine Below.trans ?_ (h.mono (by first | (simp; done) | (simp; omega) | omega))
            repeat' (first | with_reducible exact Below.refl _ _ | (with_reducible refine Below.alloc ?_ ?_ _) | (with_reducible refine Below.setCell ?_ ?_ _) | exact (by first | (simp; done) | (simp; omega) | omega))
          have hz := h.size
          try simp at hz
          replace hc0 : k62.cell? ⟨g, 0, none⟩ = some (.int .i64 9) := (hk.cell (p := ⟨g, 0, none⟩) (by first | (simp; done) | (simp; omega) | omega)).trans hc0
          replace hc1 : k62.cell? ⟨g, 1, none⟩ = some (.slice Au b.length cu) := (hk.cell (p := ⟨g, 1, none⟩) (by first | (simp; done) | (simp; omega) | omega)).trans hc1
          replace HU := Lib.hid ((HU.out).below hk (by have := hb.size; first | exact Nat.le_refl _ | omega))
          replace HO4 := Lib.hid ((HO4.out).below hk)
          replace HT5 := Lib.hid (tbl_keep (HT5.out) hk)
          replace hb : Below w.heap.size w k62 := hb.trans (hk.mono hb.size)
          have hg : g < k62.heap.size := (by first | (simp; done) | (simp; omega) | omega)
          obtain ⟨A9, c9, hv9⟩ := own_slice ho9
          subst hv9
          clear ho9
          clear h hk
          have m1 : (convert 22 9 (.slice Au b.length cu)).run Tryd.prog k62 = .ok (.string S) k62 := conv_byt HU.out HSE.out
          have m2 : (convert 22 9 (.slice A (7 * k) c)).run Tryd.prog k62 = .ok (.string S) k62 := conv_byt (Byt.of_own HO4.out) HSE.out
          try dsimp only
          refine hK.out _ _ ?_ (fun hHeld => ?_)
          · exact ⟨hc0, hc1, m1, m2⟩
          clear hK K
          try simp only [Act.put, List.setIfInBounds_toArray, List.set_cons_zero, List.set_cons_succ]
          refine wpAnyH_take (i := 36) (oi := { dst := some 79, op := Op.call { callee := Callee.builtin Builtin.len, args := #[Operand.tmp 78], argTypes := #[22] }, type := 3, pos := "wide.go:38", after := #[{ on := 35, ground := Ground.data }, { on := 32, ground := Ground.guard }], guard := some (32, true) }) (v := .int .i64 ((s.length : Nat) : Int)) rfl (by kernel_rfl) (by kernel_rfl) (by kernel_rfl) (fun _ _ _ h => h) (Or.inl ⟨by rfl, fun w hSw => ?_⟩) (by assumption) ?_
          · (try dsimp only at hSw)
            go_simp
          try simp only [Act.put, List.setIfInBounds_toArray, List.set_cons_zero, List.set_cons_succ]
          refine wpAnyH_take (i := 37) (oi := { dst := some 80, op := Op.binOp BinOp.eql 3 (Operand.tmp 76) (Operand.tmp 79) 3, type := 4, pos := "wide.go:38", after := #[{ on := 33, ground := Ground.data }, { on := 36, ground := Ground.data }, { on := 32, ground := Ground.guard }], guard := some (32, true) }) (v := .bool true) rfl (by kernel_rfl) (by kernel_rfl) (by kernel_rfl) (fun _ _ _ h => h) (Or.inl ⟨by rfl, fun w hSw => ?_⟩) (by assumption) ?_
          · (try dsimp only at hSw)
            go_simp
          try simp only [Act.put, List.setIfInBounds_toArray, List.set_cons_zero, List.set_cons_succ]
          refine wpAnyH_take (i := 38) (oi := { dst := some 81, op := Op.pick (Operand.tmp 75) (Operand.tmp 80) (Operand.const (Value.bool false)), type := 4, pos := "wide.go:38", after := #[{ on := 32, ground := Ground.data }, { on := 37, ground := Ground.data }], guard := none }) (v := .bool true) rfl (by kernel_rfl) (by kernel_rfl) (by kernel_rfl) (fun _ _ _ h => h) (Or.inl ⟨by rfl, fun w hSw => ?_⟩) (by assumption) ?_
          · (try dsimp only at hSw)
            go_simp
          try simp only [Act.put, List.setIfInBounds_toArray, List.set_cons_zero, List.set_cons_succ]
          refine wpAnyH_ready (rs := [39]) (by kernel_rfl) (by simp) ?_
          refine AllReadyH.cons (o := _) rfl (fun K hK => ?_) (AllReadyH.nil)
          go_simp
          refine hK.out _ _ ?_ (fun hHeld => ?_)
          · exact ⟨hc0, hc1, m1, m2⟩
          clear hK K
          try simp only [Act.put, List.setIfInBounds_toArray, List.set_cons_zero, List.set_cons_succ]
          refine wpAnyH_done (by kernel_rfl) ?_ _
          refine NoPanic.normal ?_
          go_wp2
          go_ret
          exact ⟨rfl, hb⟩

set_option maxRecDepth 100000 in
theorem lifted (os : Os) (started : os.Started) (H : Type) (enc : TypeId × Value → H) :
    ReturnsInHanded {} Tryd.checked os 8 .any (fun w args => (Rows.frameInsideSpec.pre enc Tryd.prog Tryd.f8 [] false w args ∧ laidMetH Tryd.prog laidS w) ∧ sizedMet enc Tryd.prog Tryd.f8 (OpenSpec.ofChange Rows.frameInsideSpec) false w args) (Rows.frameInsideSpec.post enc Tryd.prog Tryd.f8 false true false false) := by
  refine returnsInHanded_of_change_and (C := Tryd.checked) (X := fun w _ => laidMetH Tryd.prog laidS w) (fun _ _ _ hh h => h.of_heap hh) own started (by kernel_rfl) Tryd.func8
    (ChangeSpec.witness_at (enc := enc) (C := Tryd.checked) (os := os) (X := fun w _ => laidMetH Tryd.prog laidS w) false (laidWorld os) #[.int .i64 0] 8 rfl (by kernel_rfl) (by kernel_rfl) (by kernel_rfl) (by kernel_rfl) (by kernel_rfl) (laid_met os _)) ?_
  intro W base args ds gs before hval0 hW hcnd _ hL _
  have hT := tbl_of_laid hL
  have hval : ∀ (j : Nat) t v, Tryd.f8.params[j]? = some t → args[j]? = some v → Value.okWide Tryd.prog W .any base t v := hval0
  have hW' := hW
  obtain ⟨p, q, hA0, hV, rfl, hfz, hnd⟩ := hW
  have hA : DataW.TrodAll enc Tryd.prog W 0 (fun _ => true) true Tryd.f8.params.toList args.toList ds p := hA0
  have hA1 := hA
  rw [Tryd.params8] at hA hval
  obtain ⟨v0, vs0, d0, ds0, p0, q0, hargs, rfl, rfl, h0, r0⟩ := trodAll_cons hA
  obtain ⟨rfl, rfl, rfl⟩ := trodAll_nil r0
  obtain rfl : args = #[v0] := by cases args; simp_all
  obtain ⟨rfl, rfl⟩ := trodVars_none hV
  obtain ⟨a0, rfl, rfl, rfl, w0⟩ := open_int Tryd.underlying3 (hval 0 3 v0 rfl rfl) h0
  clear hA0 hval0
  simp only [List.append_nil] at hW'
  try simp only [List.append_nil] at hA1
  refine (walk W a0 w0 hT).mono fun e W' ⟨he, hg⟩ => ?_
  subst he
  exact ⟨_, rfl, law_end Tryd.laidOut (by kernel_rfl) hW' hA1 hg rfl rfl rfl (trodAll_mk1 (shut_bool Tryd.underlying4 _))⟩

theorem over : Rows.frameInsideRow.holds Tryd.pinned (OpenSpec.ofChange Rows.frameInsideSpec) :=
  OpenClaim.holds_of_wide 8 Tryd.f8 rfl rfl rfl rfl rfl rfl rfl ⟨rfl, rfl, rfl, rfl, rfl⟩ rfl rfl rfl rfl rfl (by kernel_rfl) Tryd.func8 (by kernel_rfl)
    (of_decide_eq_true (by kernel_rfl)) (by unfold Func.isWrapper; first | (rw [if_pos (by decide +kernel)]; kernel_rfl) | (rw [if_neg (by decide +kernel)]; exact ⟨rfl, rfl⟩))
    (fun os started H enc _ => lifted os started H enc)


/-- the statement: the card, closed by the builder's one call -/
theorem proved : Rows.FrameInsideCardSaid :=
  Claim7.holds_tied_plain_at .later [] [.data] true Rows.frameInsideCard.stood.harness Rows.frameInsideCard.stood.looks
    over (fun _ h => by cases h) (by kernel_rfl) (fun _ h => by cases h) frameInside_row_tie rfl ⟨rfl, rfl⟩ (by kernel_rfl) rfl
    (fun f fn hf hfn => by
      obtain rfl : f = 8 := Option.some.inj ((show Tryd.prog.funcNamed "packhorse/packhorselaw8.FrameInside" = some 8 by kernel_rfl).symm.trans hf) |>.symm
      obtain rfl : fn = Tryd.f8 := (Option.some.inj (Tryd.func8.symm.trans hfn)).symm
      refine ⟨by kernel_rfl, fun j t ht => ?_⟩
      have h := List.all_eq_true.1 (show (Tryd.f8.params.toList.all fun t => !Tryd.prog.wantsStandIn t) = true by kernel_rfl) t (List.mem_of_getElem? (by simpa using ht))
      exact (show Tryd.prog.wantsStandIn t = false by simpa using h))
    (by kernel_rfl)
#print axioms proved
end Go.Proofs.YtmpdjioclalifaaDoor.frameInside
