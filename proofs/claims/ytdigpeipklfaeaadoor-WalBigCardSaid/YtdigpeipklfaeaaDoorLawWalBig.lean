/-
  A snapshot of any size up to 200,000 bytes goes to bytes and back (WalBig).
  There are no conditions.
-/
import Derived.Test.YtdigpeipklfaeaaDoorRows
import Derived.Test.YtdigpeipklfaeaaDoorCards
import Derived.Test.YtdigpeipklfaeaaDoorTie
import Derived.Test.YtdigpeipklfaeaaDoorBun1
import Derived.Test.YtdigpeipklfaeaaDoorBun4
import Derived.Test.YtdigpeipklfaeaaDoorBun9
import Derived.Test.YtdigpeipklfaeaaDoorBun2
import Derived.SevenTiedAt
import Derived.WalkKit
import Derived.ProofKit
import Derived.OpenShut
import Derived.ShutString
namespace Go.Proofs.YtdigpeipklfaeaaDoor.walBig
open Go.ChangeShapes Go.WideShapes Go.ChangeAt Go.RowKit
open Go.ChangeMaps (open_string shut_string)
set_option linter.unusedVariables false

theorem own : ownKnob Tryd.prog.godebug = none := by kernel_rfl

set_option maxRecDepth 100000 in
set_option maxHeartbeats 8000000 in
theorem walk (w : World) (a0 : Int) (w0 : (Lit.int .i64 a0).wf = true) (hT : Tbl w) :
    Calls Tryd.prog 9 #[.int .i64 a0] w fun e w' => e = .returned (.bool true) ∧ Below w.heap.size w w' := by
  have HW0 := Lib.hid w0
  clear w0
  have hTT := fun (k : World) (h : Below w.heap.size w k) => tbl_keep hT h
  have HT := Lib.hid hT; clear hT
  go_enter Tryd.func9, Tryd.ntmps9
  go_wp2_with fail
  refine (begun10_any w HT.out).mono ?_
  rintro e w1 ⟨rfl, hb1⟩
  have HT1 := Lib.hid (tbl_keep HT.out hb1)
  have HB1 := Lib.hid hb1
  clear HT hb1
  go_wp2_with fail
  · go_ret
    exact ⟨rfl, HB1.out⟩
  · obtain ⟨n, rfl⟩ : ∃ n : Nat, a0 = (n : Int) := ⟨a0.toNat, by omega⟩
    have hmk := make_zer10 n (by omega) w1
    rw [hmk]
    have ho := own_zer10 n (by omega) w1
    have hb2 := HB1.out.trans ((below_new w1 (.cells (madeCells #[.int .u8 0] n) 5)).mono HB1.out.size)
    obtain ⟨g, hg⟩ : ∃ g, w1.heap.size = g := ⟨_, rfl⟩
    have hgw : w.heap.size ≤ g := by rw [← hg]; exact HB1.out.size
    rw [hg] at ho ⊢
    obtain ⟨W2, hW2⟩ : ∃ W2, w1.alloc (.cells (madeCells #[.int .u8 0] n) 5) = W2 := ⟨_, rfl⟩
    rw [hW2] at ho hb2 ⊢
    have hn : n ≤ 201000 := by omega
    have HO := Lib.hid ho
    have HB2 := Lib.hid hb2
    have HG := Lib.hid hgw
    clear hW2 hb2 ho hmk hg hgw
    go_wp2_with fail
    go_loopw [5] (fun i wr => ∃ (k : Nat) (M : List UInt8), i = .int .i64 k ∧ k ≤ n + 97 ∧ M.length = n ∧ OwnB g (.slice (some ⟨g, 0, none⟩) n n) M wr ∧ Below w.heap.size w wr) (fun i _ => n + 97 - (intOf i).toNat)
    case atStart => exact ⟨0, _, rfl, by omega, List.length_replicate, HO.out, HB2.out⟩
    case round =>
      obtain ⟨k, M, rfl, hk, hM, hv, hb⟩ := hrel
      have HVR := Lib.hid hv
      have HBR := Lib.hid hb
      have HMQ : Hid (M.length = n) := Lib.hid hM
      clear hv hb hM HO HB2
      by_cases hlt : k < n
      · have hki : (k : Int) < n := by omega
        obtain ⟨gb, hA, hlo, hhi, hfz, hcn⟩ := own_at10 HVR.out HMQ.out k hlt
        obtain rfl : g = gb := by injection hA with e; injection e
        have hfk := hfz k
        obtain ⟨x, hx⟩ : ∃ x, M[k]'(by rw [HMQ.out]; exact hlt) = x := ⟨_, rfl⟩
        rw [hx] at hcn
        have hwx := u8_of10 k
        have hset := own_set10 (y := UInt8.ofNat k) HVR.out HMQ.out (by rw [HMQ.out]; exact hlt)
        have HST := Lib.hid hset
        have HBS := Lib.hid (HBR.out.setCell (p := ⟨g, k, none⟩) HG.out (.int .u8 ((UInt8.ofNat k).toNat : Int)))
        clear hset hx hfz hA
        obtain ⟨y, hy⟩ : ∃ y : Int, ((UInt8.ofNat k).toNat : Int) = y := ⟨_, rfl⟩
        rw [hy] at hwx HST HBS
        clear hy
        go_wp2
        go_roundw
        case rel => exact ⟨k + 97, _, by go_num, by omega, by rw [List.length_set]; exact HMQ.out, HST.out, HBS.out⟩
        case measure => simp [intOf]; omega
      · have hge : (n : Int) ≤ k := by omega
        clear hlt
        obtain ⟨S, hS⟩ : ∃ S, (⟨M.toArray⟩ : ByteArray) = S := ⟨_, rfl⟩
        have hcv := conv_byt (Byt.of_own HVR.out) hS
        have hSs : S.size = n := by rw [← hS]; exact HMQ.out
        obtain ⟨m, hm⟩ : ∃ m, snapB10 ⟨3, 2, ⟨#[49]⟩, S⟩ = m := ⟨_, rfl⟩
        have E3 := Lib.hid hm
        have HSS := Lib.hid hSs
        clear hS hm hSs HVR HMQ
        go_wp2_with fail
        have HBR1 := Lib.hid HBR.out
        obtain ⟨G, hG⟩ : ∃ G, wr.heap.size = G := ⟨_, rfl⟩
        have r1 := Rt.new_at wr G 55 [.int .i64 3, .int .i64 2, .string ⟨#[49]⟩, .string S] hG
        have d1 := below_new wr (.cells #[.int .i64 3, .int .i64 2, .string ⟨#[49]⟩, .string S] 55)
        rw [hG] at ⊢
        obtain ⟨X1, hX1⟩ : ∃ X1, wr.alloc (.cells #[.int .i64 3, .int .i64 2, .string ⟨#[49]⟩, .string S] 55) = X1 := ⟨_, rfl⟩
        replace r1 : Rt X1 G 55 [.int .i64 3, .int .i64 2, .string ⟨#[49]⟩, .string S] := by rw [← hX1]; exact r1
        rw [hX1] at d1 ⊢
        have hb := HBR1.out.trans (d1.mono HBR1.out.size)
        clear hX1 d1 HBR HBR1 hcv hG
        refine (snap_v 3 2 ⟨#[49]⟩ S m _ (by decide) (by rw [HSS.out]; omega) (hTT _ hb) E3.out).mono ?_
        rintro e k4 ⟨v4, rfl, ho4, h4⟩
        replace r1 := r1.below h4
        replace hb := hb.trans (h4.mono hb.size)
        clear h4
        obtain ⟨A4, c4, rfl⟩ := byt_slice (Byt.of_own ho4)
        have HO4 := Lib.hid ho4
        have HB4 := Lib.hid hb
        have R4 := Lib.hid r1
        clear ho4 hb r1
        have hS0 : (0 : Int) ≤ 3 := by omega
        by_cases hbig : 200000 < n
        · have hz : m = [] := by
            rw [← E3.out]; unfold snapB10 maySnp10; rw [HSS.out]; simp [hbig]
          have hbi : (200000 : Int) < n := by omega
          subst hz
          go_wp2_with fail
          go_ret
          exact ⟨rfl, HB4.out⟩
        · have hbi : ¬ (200000 : Int) < n := by omega
          have hmay : maySnp10 ⟨3, 2, ⟨#[49]⟩, S⟩ = true := by
            unfold maySnp10; rw [HSS.out]
            have h1 : (⟨#[49]⟩ : ByteArray).size = 1 := rfl
            simp [h1]; omega
          have hget := getS10_put hmay []
          rw [List.append_nil, E3.out] at hget
          have hml := (snapB10_len hmay).2
          rw [E3.out] at hml
          have HML := Lib.hid hml
          have HGET := Lib.hid hget
          clear hml hget hmay
          go_wp2_with fail
          refine (wget_v _ _ m _ (Byt.of_own HO4.out) (Nat.le_refl _) (by have := HML.out; omega) (hTT _ HB4.out) 3 2 ⟨#[49]⟩ S m.length 0 HGET.out).mono ?_
          rintro e k5 ⟨rfl, h5⟩
          have R5 := Lib.hid (R4.out.below h5)
          have HB5 := Lib.hid (HB4.out.trans (h5.mono HB4.out.size))
          clear h5 R4 HB4 HO4
          have x0 := R5.out.cell (j := 0) rfl
          have x1 := R5.out.cell (j := 1) rfl
          have x2 := R5.out.cell (j := 2) rfl
          have x3 := R5.out.cell (j := 3) rfl
          have hGl := R5.out.lt
          go_wp2_with fail
          refine (reqSnap_any ⟨3, 2, ⟨#[49]⟩, S⟩ ⟨3, 2, ⟨#[49]⟩, S⟩ _).mono ?_
          rintro e k6 ⟨rfl, h6⟩
          have heq : eqSnp10 ⟨3, 2, ⟨#[49]⟩, S⟩ ⟨3, 2, ⟨#[49]⟩, S⟩ = true := by unfold eqSnp10; simp
          rw [heq]
          have hb6 := HB5.out.trans (((below_new k5 (.cells #[.int .i64 3, .int .i64 2, .string ⟨#[49]⟩, .string S] 55)).trans (h6.mono (below_new k5 (.cells #[.int .i64 3, .int .i64 2, .string ⟨#[49]⟩, .string S] 55)).size)).mono HB5.out.size)
          clear h6 x0 x1 x2 x3 hGl heq
          go_wp2_with fail
          go_ret
          exact ⟨rfl, hb6⟩
  · go_ret
    exact ⟨rfl, HB1.out⟩

set_option maxRecDepth 100000 in
theorem lifted (os : Os) (started : os.Started) (H : Type) (enc : TypeId × Value → H) :
    ReturnsInHanded {} Tryd.checked os 9 .any (fun w args => (Rows.walBigSpec.pre enc Tryd.prog Tryd.f9 [] false w args ∧ laidMetH Tryd.prog laidS w) ∧ sizedMet enc Tryd.prog Tryd.f9 (OpenSpec.ofChange Rows.walBigSpec) false w args) (Rows.walBigSpec.post enc Tryd.prog Tryd.f9 false true false false) := by
  refine returnsInHanded_of_change_and (C := Tryd.checked) (X := fun w _ => laidMetH Tryd.prog laidS w) (fun _ _ _ hh h => h.of_heap hh) own started (by kernel_rfl) Tryd.func9
    (ChangeSpec.witness_at (enc := enc) (C := Tryd.checked) (os := os) (X := fun w _ => laidMetH Tryd.prog laidS w) false (laidWorld os) #[.int .i64 0] 8 rfl (by kernel_rfl) (by kernel_rfl) (by kernel_rfl) (by kernel_rfl) (by kernel_rfl) (laid_met os _)) ?_
  intro W base args ds gs before hval0 hW hcnd _ hL _
  have hT := tbl_of_laid hL
  have hval : ∀ (j : Nat) t v, Tryd.f9.params[j]? = some t → args[j]? = some v → Value.okWide Tryd.prog W .any base t v := hval0
  have hW' := hW
  obtain ⟨p, q, hA0, hV, rfl, hfz, hnd⟩ := hW
  have hA : DataW.TrodAll enc Tryd.prog W 0 (fun _ => true) true Tryd.f9.params.toList args.toList ds p := hA0
  have hA1 := hA
  rw [Tryd.params9] at hA hval
  obtain ⟨v0, vs0, d0, ds0, p0, q0, hargs, rfl, rfl, h0, r0⟩ := trodAll_cons hA
  obtain ⟨rfl, rfl, rfl⟩ := trodAll_nil r0
  obtain rfl : args = #[v0] := by cases args; simp_all
  obtain ⟨rfl, rfl⟩ := trodVars_none hV
  obtain ⟨a0, rfl, rfl, rfl, w0⟩ := open_int Tryd.underlying3 (hval 0 3 v0 rfl rfl) h0
  clear hA0 hval0
  simp only [List.append_nil] at hW'
  try simp only [List.append_nil] at hA1
  refine (walk W a0 w0 hT).mono fun e W' ⟨he, hg⟩ => ?_
  subst he
  exact ⟨_, rfl, law_end Tryd.laidOut (by kernel_rfl) hW' hA1 hg rfl rfl rfl (trodAll_mk1 (shut_bool Tryd.underlying4 _))⟩

theorem over : Rows.walBigRow.holds Tryd.pinned (OpenSpec.ofChange Rows.walBigSpec) :=
  OpenClaim.holds_of_wide 9 Tryd.f9 rfl rfl rfl rfl rfl rfl rfl ⟨rfl, rfl, rfl, rfl, rfl⟩ rfl rfl rfl rfl rfl (by kernel_rfl) Tryd.func9 (by kernel_rfl)
    (of_decide_eq_true (by kernel_rfl)) (by unfold Func.isWrapper; first | (rw [if_pos (by decide +kernel)]; kernel_rfl) | (rw [if_neg (by decide +kernel)]; exact ⟨rfl, rfl⟩))
    (fun os started H enc _ => lifted os started H enc)


/-- the statement: the card, closed by the builder's one call -/
theorem proved : Rows.WalBigCardSaid :=
  Claim7.holds_tied_plain_at .later [] [.data] true Rows.walBigCard.stood.harness Rows.walBigCard.stood.looks
    over (fun _ h => by cases h) (by kernel_rfl) (fun _ h => by cases h) walBig_row_tie rfl ⟨rfl, rfl⟩ (by kernel_rfl) rfl
    (fun f fn hf hfn => by
      obtain rfl : f = 9 := Option.some.inj ((show Tryd.prog.funcNamed "packhorse/packhorselaw10.WalBig" = some 9 by kernel_rfl).symm.trans hf) |>.symm
      obtain rfl : fn = Tryd.f9 := (Option.some.inj (Tryd.func9.symm.trans hfn)).symm
      refine ⟨by kernel_rfl, fun j t ht => ?_⟩
      have h := List.all_eq_true.1 (show (Tryd.f9.params.toList.all fun t => !Tryd.prog.wantsStandIn t) = true by kernel_rfl) t (List.mem_of_getElem? (by simpa using ht))
      exact (show Tryd.prog.wantsStandIn t = false by simpa using h))
    (by kernel_rfl)
#print axioms proved
end Go.Proofs.YtdigpeipklfaeaaDoor.walBig
