/-
  A frame of which one byte was changed, but for its length, is none. There are no conditions; package crc's table is as the program's text lays it.
-/
import Derived.Test.YtmpdjioclalifaaDoorRows
import Derived.Test.YtmpdjioclalifaaDoorCards
import Derived.Test.YtmpdjioclalifaaDoorTie
import Derived.Test.YtmpdjioclalifaaDoorDoorKit
import Derived.SevenTiedAt
import Derived.Test.YtmpdjioclalifaaDoorL8Begun
import Derived.Test.YtmpdjioclalifaaDoorL4Cut
import Derived.Test.YtmpdjioclalifaaDoorReSeal
import Derived.Test.YtmpdjioclalifaaDoorL8Set
import Derived.Test.YtmpdjioclalifaaDoorL8Zer
import Derived.Test.YtmpdjioclalifaaDoorLawKit
import Derived.WalkKit
import Derived.ProofKit
import Derived.OpenShut
import Derived.ShutString
set_option linter.unusedSimpArgs false
set_option linter.unusedVariables false
namespace Go.Proofs.YtmpdjioclalifaaDoor.frameSpoilt
open Go.ChangeShapes Go.WideShapes Go.ChangeAt Go.RowKit
open Go.ChangeMaps (open_string shut_string)
set_option linter.unusedVariables false

theorem own : ownKnob Tryd.prog.godebug = none := by kernel_rfl

set_option maxRecDepth 100000 in
set_option maxHeartbeats 8000000 in
theorem walk (w : World) (a0 : Int) (w0 : (Lit.int .i64 a0).wf = true) (A1 : Option Addr) (c1 : Nat) (a1 : List UInt8) (w1 : Byt w w.heap.size (.slice A1 a1.length c1) a1) (x1 : a1.length ≤ maxLen) (a2 : Int) (w2 : (Lit.int .i64 a2).wf = true) (a3 : Int) (w3 : (Lit.int .u8 a3).wf = true) (hT : Tbl w) :
    Calls Tryd.prog 6 #[.int .i64 a0, .slice A1 a1.length c1, .int .i64 a2, .int .u8 a3] w fun e w' => e = .returned (.bool true) ∧ Below w.heap.size w w' := by
  have HA1 := Lib.hid w1; have HF1 := Lib.hid x1; clear w1 x1
  have HT := Lib.hid hT; clear hT
  go_enter Tryd.func6, Tryd.ntmps6
  go_wp2_with fail
  refine (begun8_any w HT.out).mono ?_
  rintro e w1 ⟨rfl, hb1⟩
  have HT1 := Lib.hid (tbl_keep HT.out hb1)
  clear HT
  have HA := Lib.hid (HA1.out.below hb1 (Nat.le_refl _))
  go_wp2_with fail
  refine (short_any A1 a1.length c1 w.heap.size 200 a1 w1 HA.out (by omega)).mono ?_
  rintro e w1' ⟨A2, c2, rfl, hby2, rfl⟩
  have hl2 : (a1.take 200).length ≤ 200 := by rw [List.length_take]; omega
  obtain ⟨l, hl⟩ : ∃ l, a1.take 200 = l := ⟨_, rfl⟩
  rw [hl] at hby2 hl2 ⊢
  clear hl HA
  go_wp2_with fail
  refine (rseal_any a0 _ _ l w1 hby2 hb1.size (by omega)).mono ?_
  rintro e w2 ⟨v, rfl, ho2, hb2⟩
  have HT2 := Lib.hid (tbl_keep HT1.out hb2)
  have hz12 := hb2.size
  have hb2 : Below w.heap.size w w2 := hb1.trans (hb2.mono hb1.size)
  have hsl := sealB_short a0 l
  have HG := Lib.hid (sealB_some (k := a0) (l := l))
  obtain ⟨s, hs⟩ : ∃ s, sealB a0 l = s := ⟨_, rfl⟩
  rw [hs] at ho2 hsl HG
  have HS := Lib.hid hs
  have HT1x := HT1
  clear hs hby2 HT1 hl2
  by_cases h0 : s.length = 0
  · have h00 : (s.length : Int) = 0 := by omega
    obtain ⟨A, c, rfl⟩ := own_slice ho2
    clear ho2
    go_wp2
    go_ret
    exact ⟨rfl, hb2⟩
  · have h00 : ¬ (s.length : Int) = 0 := by omega
    have h01 : ((s.length : Int) == 0) = false := by rw [beq_eq_false_iff_ne]; omega
    obtain ⟨g, c, rfl, hg, hfz, hcs⟩ := own_cells ho2 (by omega)
    have hg1 : w1.heap.size ≤ g := (ho2.lt g rfl).1
    have hbyt := Byt.of_own ho2
    have HBY := Lib.hid hbyt
    clear hbyt ho2 h0
    by_cases h1 : a2 < 0
    · go_wp2
      go_ret
      exact ⟨rfl, hb2⟩
    · by_cases h2 : a3 = 0
      · subst h2
        go_wp2
        go_ret
        exact ⟨rfl, hb2⟩
      · have h20 : (a3 == 0) = false := by rw [beq_eq_false_iff_ne]; exact h2
        obtain ⟨j, hj⟩ : ∃ j : Nat, a2 % (s.length : Int) = (j : Int) := ⟨(a2 % (s.length : Int)).toNat, by have := Int.emod_nonneg a2 h00; omega⟩
        have hjl : j < s.length := by have := Int.emod_lt_of_pos a2 (show 0 < (s.length : Int) by omega); omega
        by_cases hj1 : j = 1
        · have hj1' : ((j : Int) == 1) = true := by rw [hj1]; rfl
          clear hj1
          go_wp2
          go_ret
          exact ⟨rfl, hb2⟩
        · have hj1' : ((j : Int) == 1) = false := by rw [beq_eq_false_iff_ne]; omega
          by_cases hj2 : j = 2
          · have hj2' : ((j : Int) == 2) = true := by rw [hj2]; rfl
            clear hj1 hj2
            go_wp2
            go_ret
            exact ⟨rfl, hb2⟩
          · have hj2' : ((j : Int) == 2) = false := by rw [beq_eq_false_iff_ne]; omega
            have hx3 := bounds_u8 w3
            obtain ⟨X, rfl⟩ : ∃ X : UInt8, a3 = (X.toNat : Int) := ⟨a3.toNat.toUInt8, by rw [Nu.u8n _ (by omega)]; omega⟩
            have hX : X ≠ 0 := fun e => by rw [e] at h2; exact h2 rfl
            have hcj := hcs j hjl
            have hfj := hfz j
            obtain ⟨y, hy⟩ : ∃ y, s[j] ^^^ X = y := ⟨_, rfl⟩
            have hyj : y ≠ s[j] := fun e => by
              rw [← hy] at e
              apply hX
              have := congrArg (s[j] ^^^ ·) e
              simpa [← UInt8.xor_assoc] using this
            have hxor : bits BinOp.xor IntKind.u8 (s[j].toNat : Int) (X.toNat : Int) = (y.toNat : Int) := by rw [u8_xor, hy]
            have hop : openB (s.set j y) = (0, [], 0, 3) := by
              obtain ⟨g1, g2, g3⟩ := HG.out (by omega)
              have h := openB_spoilt a0 l j y g1 g2 g3
              rw [HS.out] at h
              exact h hjl hj1 hj2 hyj
            have hby := byt_set (y := y) HBY.out hjl
            have HBY2 := Lib.hid hby; have HOP := Lib.hid hop
            obtain ⟨cj, hcje⟩ : ∃ cj : Nat, s[j].toNat = cj := ⟨_, rfl⟩
            have hxor2 : bits BinOp.xor IntKind.u8 (cj : Int) (X.toNat : Int) = (y.toNat : Int) := by rw [← hcje]; exact hxor
            rw [hcje] at hcj
            have hT3 : Tbl (w2.setCell ⟨g, j, none⟩ (.int .u8 (y.toNat : Int))) := fun k hk => (World.cell?_setCell_other _ _ _ _ (fun e => by
              have e1 : g = 0 := congrArg Addr.block e
              have := cell_lt (HT1x.out k hk)
              omega)).trans (HT2.out k hk)
            have HT3 := Lib.hid hT3
            have hb3 : Below w.heap.size w (w2.setCell ⟨g, j, none⟩ (.int .u8 (y.toNat : Int))) := hb2.setCell (Nat.le_trans hb1.size hg1) _
            clear hop hby hxor hyj hX hy hj1 hj2 hcs hfz h2 hT3 hcje
            go_wp2_with fail
            refine (fopen_is _ _ _ _ _ _ _ HBY2.out (by simp) (by rw [List.length_set]; omega) HT3.out HOP.out).mono ?_
            rintro e w3 ⟨v3, rfl, ho3, hb4⟩
            have hb4 : Below w.heap.size w w3 := hb3.trans (hb4.mono hb3.size)
            clear ho3 hb3
            go_wp2
            go_ret
            exact ⟨rfl, hb4⟩

set_option maxRecDepth 100000 in
theorem lifted (os : Os) (started : os.Started) (H : Type) (enc : TypeId × Value → H) :
    ReturnsInHanded {} Tryd.checked os 6 .any (fun w args => (Rows.frameSpoiltSpec.pre enc Tryd.prog Tryd.f6 [] false w args ∧ laidMetH Tryd.prog laidS w) ∧ sizedMet enc Tryd.prog Tryd.f6 (OpenSpec.ofChange Rows.frameSpoiltSpec) false w args) (Rows.frameSpoiltSpec.post enc Tryd.prog Tryd.f6 false true false false) := by
  refine returnsInHanded_of_change_and (C := Tryd.checked) (X := fun w _ => laidMetH Tryd.prog laidS w) (fun _ _ _ hh h => h.of_heap hh) own started (by kernel_rfl) Tryd.func6
    (ChangeSpec.witness_at (enc := enc) (C := Tryd.checked) (os := os) (X := fun w _ => laidMetH Tryd.prog laidS w) false (laidWorld os) #[.int .i64 0, .slice none 0 0, .int .i64 0, .int .u8 0] 8 rfl (by kernel_rfl) (by kernel_rfl) (by kernel_rfl) (by kernel_rfl) (by kernel_rfl) (laid_met os _)) ?_
  intro W base args ds gs before hval0 hW hcnd _ hL _
  have hT := tbl_of_laid hL
  have hval : ∀ (j : Nat) t v, Tryd.f6.params[j]? = some t → args[j]? = some v → Value.okWide Tryd.prog W .any base t v := hval0
  have hW' := hW
  obtain ⟨p, q, hA0, hV, rfl, hfz, hnd⟩ := hW
  have hA : DataW.TrodAll enc Tryd.prog W 0 (fun _ => true) true Tryd.f6.params.toList args.toList ds p := hA0
  have hA1 := hA
  rw [Tryd.params6] at hA hval
  obtain ⟨v0, vs0, d0, ds0, p0, q0, hargs, rfl, rfl, h0, r0⟩ := trodAll_cons hA
  obtain ⟨v1, vs1, d1, ds1, p1, q1, rfl, rfl, rfl, h1, r1⟩ := trodAll_cons r0
  obtain ⟨v2, vs2, d2, ds2, p2, q2, rfl, rfl, rfl, h2, r2⟩ := trodAll_cons r1
  obtain ⟨v3, vs3, d3, ds3, p3, q3, rfl, rfl, rfl, h3, r3⟩ := trodAll_cons r2
  obtain ⟨rfl, rfl, rfl⟩ := trodAll_nil r3
  obtain rfl : args = #[v0, v1, v2, v3] := by cases args; simp_all
  obtain ⟨rfl, rfl⟩ := trodVars_none hV
  obtain ⟨a0, rfl, rfl, rfl, w0⟩ := open_int Tryd.underlying3 (hval 0 3 v0 rfl rfl) h0
  obtain ⟨A1, c1, a1, rfl, w1, x1⟩ := open_bytes (hval 1 22 v1 rfl rfl) h1
  obtain ⟨a2, rfl, rfl, rfl, w2⟩ := open_int Tryd.underlying3 (hval 2 3 v2 rfl rfl) h2
  obtain ⟨a3, rfl, rfl, rfl, w3⟩ := open_int Tryd.underlying5 (hval 3 5 v3 rfl rfl) h3
  clear hA0 hval0
  simp only [List.append_nil] at hW'
  try simp only [List.append_nil] at hA1
  refine (walk W a0 w0 A1 c1 a1 w1 x1 a2 w2 a3 w3 hT).mono fun e W' ⟨he, hg⟩ => ?_
  subst he
  exact ⟨_, rfl, law_end Tryd.laidOut (by kernel_rfl) hW' hA1 hg rfl rfl rfl (trodAll_mk1 (shut_bool Tryd.underlying4 _))⟩

theorem over : Rows.frameSpoiltRow.holds Tryd.pinned (OpenSpec.ofChange Rows.frameSpoiltSpec) :=
  OpenClaim.holds_of_wide 6 Tryd.f6 rfl rfl rfl rfl rfl rfl rfl ⟨rfl, rfl, rfl, rfl, rfl⟩ rfl rfl rfl rfl rfl (by kernel_rfl) Tryd.func6 (by kernel_rfl)
    (of_decide_eq_true (by kernel_rfl)) (by unfold Func.isWrapper; first | (rw [if_pos (by decide +kernel)]; kernel_rfl) | (rw [if_neg (by decide +kernel)]; exact ⟨rfl, rfl⟩))
    (fun os started H enc _ => lifted os started H enc)


/-- the statement: the card, closed by the builder's one call -/
theorem proved : Rows.FrameSpoiltCardSaid :=
  Claim7.holds_tied_plain_at .later [] [.data] true Rows.frameSpoiltCard.stood.harness Rows.frameSpoiltCard.stood.looks
    over (fun _ h => by cases h) (by kernel_rfl) (fun _ h => by cases h) frameSpoilt_row_tie rfl ⟨rfl, rfl⟩ (by kernel_rfl) rfl
    (fun f fn hf hfn => by
      obtain rfl : f = 6 := Option.some.inj ((show Tryd.prog.funcNamed "packhorse/packhorselaw8.FrameSpoilt" = some 6 by kernel_rfl).symm.trans hf) |>.symm
      obtain rfl : fn = Tryd.f6 := (Option.some.inj (Tryd.func6.symm.trans hfn)).symm
      refine ⟨by kernel_rfl, fun j t ht => ?_⟩
      have h := List.all_eq_true.1 (show (Tryd.f6.params.toList.all fun t => !Tryd.prog.wantsStandIn t) = true by kernel_rfl) t (List.mem_of_getElem? (by simpa using ht))
      exact (show Tryd.prog.wantsStandIn t = false by simpa using h))
    (by kernel_rfl)
#print axioms proved
end Go.Proofs.YtmpdjioclalifaaDoor.frameSpoilt
