/-
  A frame that is cut off anywhere is the beginning of one. There are no conditions; package crc's table is as the program's text lays it.
-/
import Derived.Test.YtmpdjioclalifaaDoorRows
import Derived.Test.YtmpdjioclalifaaDoorCards
import Derived.Test.YtmpdjioclalifaaDoorTie
import Derived.Test.YtmpdjioclalifaaDoorDoorKit
import Derived.SevenTiedAt
import Derived.Test.YtmpdjioclalifaaDoorL8Begun
import Derived.Test.YtmpdjioclalifaaDoorL4Cut
import Derived.Test.YtmpdjioclalifaaDoorLawKit
import Derived.WalkKit
import Derived.ProofKit
import Derived.OpenShut
import Derived.ShutString
set_option linter.unusedSimpArgs false
set_option linter.unusedVariables false
namespace Go.Proofs.YtmpdjioclalifaaDoor.frameCut
open Go.ChangeShapes Go.WideShapes Go.ChangeAt Go.RowKit
open Go.ChangeMaps (open_string shut_string)
set_option linter.unusedVariables false

theorem own : ownKnob Tryd.prog.godebug = none := by kernel_rfl

set_option maxRecDepth 100000 in
set_option maxHeartbeats 8000000 in
theorem walk (w : World) (a0 : Int) (w0 : (Lit.int .i64 a0).wf = true) (A1 : Option Addr) (c1 : Nat) (a1 : List UInt8) (w1 : Byt w w.heap.size (.slice A1 a1.length c1) a1) (x1 : a1.length ≤ maxLen) (a2 : Int) (w2 : (Lit.int .i64 a2).wf = true) (hT : Tbl w) :
    Calls Tryd.prog 7 #[.int .i64 a0, .slice A1 a1.length c1, .int .i64 a2] w fun e w' => e = .returned (.bool true) ∧ Below w.heap.size w w' := by
  have HA1 := Lib.hid w1; have HF1 := Lib.hid x1; clear w1 x1
  have HT := Lib.hid hT; clear hT
  go_enter Tryd.func7, Tryd.ntmps7
  go_wp2_with fail
  refine (begun8_any w HT.out).mono ?_
  rintro e w1 ⟨rfl, hb1⟩
  have HT1 := Lib.hid (tbl_keep HT.out hb1)
  clear HT
  have HA := Lib.hid (HA1.out.below hb1 (Nat.le_refl _))
  go_wp2_with fail
  refine (short_any A1 a1.length c1 w.heap.size 200 a1 w1 HA.out (by omega)).mono ?_
  rintro e w1' ⟨A2, c2, rfl, hby2, rfl⟩
  have hl2 : (a1.take 200).length ≤ 200 := by rw [List.length_take]; omega
  obtain ⟨l, hl⟩ : ∃ l, a1.take 200 = l := ⟨_, rfl⟩
  rw [hl] at hby2 hl2 ⊢
  clear hl HA
  go_wp2_with fail
  refine (fseal_any a0 _ _ l w1 hby2 hb1.size (by omega) HT1.out).mono ?_
  rintro e w2 ⟨v, rfl, ho2, hb2⟩
  have HT2 := Lib.hid (tbl_keep HT1.out hb2)
  have hb2 : Below w.heap.size w w2 := hb1.trans (hb2.mono hb1.size)
  have hsl := sealB_short a0 l
  have HG := Lib.hid (sealB_some (k := a0) (l := l))
  obtain ⟨s, hs⟩ : ∃ s, sealB a0 l = s := ⟨_, rfl⟩
  rw [hs] at ho2 hsl HG
  have HS := Lib.hid hs
  have hbyt := Byt.of_own ho2
  obtain ⟨A, c, rfl⟩ := own_slice ho2
  clear hs ho2 hby2 hb1 HT1 hl2
  by_cases h0 : s.length = 0
  · have h00 : (s.length : Int) = 0 := by omega
    clear hbyt
    go_wp2
    go_ret
    exact ⟨rfl, hb2⟩
  · have h00 : ¬ (s.length : Int) = 0 := by omega
    have h01 : ((s.length : Int) == 0) = false := by rw [beq_eq_false_iff_ne]; omega
    by_cases h1 : a2 < 1
    · clear hbyt h0
      go_wp2
      go_ret
      exact ⟨rfl, hb2⟩
    · by_cases h2 : (s.length : Int) < a2
      · clear hbyt h0
        go_wp2
        go_ret
        exact ⟨rfl, hb2⟩
      · obtain ⟨g1, g2, g3⟩ := HG.out (by omega)
        have hcut := openB_cut a0 l ((s.length : Int) - a2).toNat g1 g2 g3 (by rw [HS.out]; omega)
        rw [HS.out] at hcut
        have hbc := byt_take2 (n := ((s.length : Int) - a2).toNat) hbyt (by omega)
        have hcl := (byt_len hbyt).2
        have HC := Lib.hid hcut; have HBC := Lib.hid hbc
        have k0 : 0 ≤ (s.length : Int) - a2 := by omega
        have k1 : (s.length : Int) - a2 ≤ c := by omega
        clear hcut hbc hbyt h0 g1 g2 g3
        go_wp2_with fail
        refine (fopen_is _ _ _ _ _ _ _ HBC.out (Nat.le_refl _) (by rw [List.length_take]; omega) HT2.out HC.out).mono ?_
        rintro e w3 ⟨v3, rfl, ho3, hb3⟩
        have hb3 : Below w.heap.size w w3 := hb2.trans (hb3.mono hb2.size)
        obtain ⟨A3, c3, hv3⟩ := own_slice ho3
        subst hv3
        clear ho3 hb2
        go_wp2
        go_ret
        exact ⟨rfl, hb3⟩

set_option maxRecDepth 100000 in
theorem lifted (os : Os) (started : os.Started) (H : Type) (enc : TypeId × Value → H) :
    ReturnsInHanded {} Tryd.checked os 7 .any (fun w args => (Rows.frameCutSpec.pre enc Tryd.prog Tryd.f7 [] false w args ∧ laidMetH Tryd.prog laidS w) ∧ sizedMet enc Tryd.prog Tryd.f7 (OpenSpec.ofChange Rows.frameCutSpec) false w args) (Rows.frameCutSpec.post enc Tryd.prog Tryd.f7 false true false false) := by
  refine returnsInHanded_of_change_and (C := Tryd.checked) (X := fun w _ => laidMetH Tryd.prog laidS w) (fun _ _ _ hh h => h.of_heap hh) own started (by kernel_rfl) Tryd.func7
    (ChangeSpec.witness_at (enc := enc) (C := Tryd.checked) (os := os) (X := fun w _ => laidMetH Tryd.prog laidS w) false (laidWorld os) #[.int .i64 0, .slice none 0 0, .int .i64 0] 8 rfl (by kernel_rfl) (by kernel_rfl) (by kernel_rfl) (by kernel_rfl) (by kernel_rfl) (laid_met os _)) ?_
  intro W base args ds gs before hval0 hW hcnd _ hL _
  have hT := tbl_of_laid hL
  have hval : ∀ (j : Nat) t v, Tryd.f7.params[j]? = some t → args[j]? = some v → Value.okWide Tryd.prog W .any base t v := hval0
  have hW' := hW
  obtain ⟨p, q, hA0, hV, rfl, hfz, hnd⟩ := hW
  have hA : DataW.TrodAll enc Tryd.prog W 0 (fun _ => true) true Tryd.f7.params.toList args.toList ds p := hA0
  have hA1 := hA
  rw [Tryd.params7] at hA hval
  obtain ⟨v0, vs0, d0, ds0, p0, q0, hargs, rfl, rfl, h0, r0⟩ := trodAll_cons hA
  obtain ⟨v1, vs1, d1, ds1, p1, q1, rfl, rfl, rfl, h1, r1⟩ := trodAll_cons r0
  obtain ⟨v2, vs2, d2, ds2, p2, q2, rfl, rfl, rfl, h2, r2⟩ := trodAll_cons r1
  obtain ⟨rfl, rfl, rfl⟩ := trodAll_nil r2
  obtain rfl : args = #[v0, v1, v2] := by cases args; simp_all
  obtain ⟨rfl, rfl⟩ := trodVars_none hV
  obtain ⟨a0, rfl, rfl, rfl, w0⟩ := open_int Tryd.underlying3 (hval 0 3 v0 rfl rfl) h0
  obtain ⟨A1, c1, a1, rfl, w1, x1⟩ := open_bytes (hval 1 22 v1 rfl rfl) h1
  obtain ⟨a2, rfl, rfl, rfl, w2⟩ := open_int Tryd.underlying3 (hval 2 3 v2 rfl rfl) h2
  clear hA0 hval0
  simp only [List.append_nil] at hW'
  try simp only [List.append_nil] at hA1
  refine (walk W a0 w0 A1 c1 a1 w1 x1 a2 w2 hT).mono fun e W' ⟨he, hg⟩ => ?_
  subst he
  exact ⟨_, rfl, law_end Tryd.laidOut (by kernel_rfl) hW' hA1 hg rfl rfl rfl (trodAll_mk1 (shut_bool Tryd.underlying4 _))⟩

theorem over : Rows.frameCutRow.holds Tryd.pinned (OpenSpec.ofChange Rows.frameCutSpec) :=
  OpenClaim.holds_of_wide 7 Tryd.f7 rfl rfl rfl rfl rfl rfl rfl ⟨rfl, rfl, rfl, rfl, rfl⟩ rfl rfl rfl rfl rfl (by kernel_rfl) Tryd.func7 (by kernel_rfl)
    (of_decide_eq_true (by kernel_rfl)) (by unfold Func.isWrapper; first | (rw [if_pos (by decide +kernel)]; kernel_rfl) | (rw [if_neg (by decide +kernel)]; exact ⟨rfl, rfl⟩))
    (fun os started H enc _ => lifted os started H enc)


/-- the statement: the card, closed by the builder's one call -/
theorem proved : Rows.FrameCutCardSaid :=
  Claim7.holds_tied_plain_at .later [] [.data] true Rows.frameCutCard.stood.harness Rows.frameCutCard.stood.looks
    over (fun _ h => by cases h) (by kernel_rfl) (fun _ h => by cases h) frameCut_row_tie rfl ⟨rfl, rfl⟩ (by kernel_rfl) rfl
    (fun f fn hf hfn => by
      obtain rfl : f = 7 := Option.some.inj ((show Tryd.prog.funcNamed "packhorse/packhorselaw8.FrameCut" = some 7 by kernel_rfl).symm.trans hf) |>.symm
      obtain rfl : fn = Tryd.f7 := (Option.some.inj (Tryd.func7.symm.trans hfn)).symm
      refine ⟨by kernel_rfl, fun j t ht => ?_⟩
      have h := List.all_eq_true.1 (show (Tryd.f7.params.toList.all fun t => !Tryd.prog.wantsStandIn t) = true by kernel_rfl) t (List.mem_of_getElem? (by simpa using ht))
      exact (show Tryd.prog.wantsStandIn t = false by simpa using h))
    (by kernel_rfl)
#print axioms proved
end Go.Proofs.YtmpdjioclalifaaDoor.frameCut
