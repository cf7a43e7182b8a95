/-
  What is handed in and told is nobody else's.
-/
import Derived.Test.YtbdengcblncfmaaRows
import Derived.Test.YtbdengcblncfmaaD9Begun
import Derived.Test.YtbdengcblncfmaaL9Set
import Derived.Test.YtbdengcblncfmaaL4Cut
import Derived.Test.YtbdengcblncfmaaLawKit
import Derived.WalkKit
import Derived.ProofKit
import Derived.OpenShut
import Derived.ShutString
set_option linter.unusedSimpArgs false
set_option linter.unusedVariables false
namespace Go.Proofs.Ytbdengcblncfmaa.diskOwn
open Go.ChangeShapes Go.WideShapes Go.ChangeAt Go.RowKit
open Go.ChangeMaps (open_string shut_string)
set_option linter.unusedVariables false

theorem own : ownKnob Try.prog.godebug = none := by kernel_rfl

set_option maxRecDepth 100000 in
set_option maxHeartbeats 8000000 in
theorem walk (w : World) (A0 : Option Addr) (c0 : Nat) (a0 : List UInt8) (w0 : Byt w w.heap.size (.slice A0 a0.length c0) a0) (x0 : a0.length ≤ maxLen) :
    Calls Try.prog 5 #[.slice A0 a0.length c0] w fun e w' => e = .returned (.bool true) ∧ Below w.heap.size w w' := by
  have HM1 := Lib.hid (show (⟨#[97]⟩ : ByteArray).size ≤ maxLen by decide)
  have HM2 := Lib.hid (show (⟨#[98]⟩ : ByteArray).size ≤ maxLen by decide)
  have HA := Lib.hid w0; clear w0 x0
  go_enter Try.func5, Try.ntmps5
  go_wp2_with fail
  refine (begun9_any w).mono ?_
  rintro e k1 ⟨rfl, hb⟩
  have HB1 := Lib.hid hb
  clear hb
  go_wp2_with fail
  refine (short_any A0 a0.length c0 w.heap.size 60 a0 _ (HA.out.below HB1.out (Nat.le_refl _)) (by omega)).mono ?_
  rintro e k1' ⟨A4, c4, rfl, hby4, rfl⟩
  have hl4 : (a0.take 60).length ≤ 60 := by rw [List.length_take]; omega
  obtain ⟨l, hl⟩ : ∃ l, a0.take 60 = l := ⟨_, rfl⟩
  rw [hl] at hby4 hl4
  try rw [hl]
  obtain ⟨q, hq⟩ : ∃ q, l.length = q := ⟨_, rfl⟩
  rw [hq] at hby4 hl4
  try rw [hq]
  have HQ : Hid (l.length = q) := Lib.hid hq
  clear hl HA hq
  go_wp2_with (at_builtin; refine wpList_append_byt rfl _ _ rfl w.heap.size _ _ _ _ _ rfl (ownB_nil w.heap.size _) rfl hby4 ?x1 HB1.out.size ?_)
  case x1 => rw [HQ.out, List.length_nil]; omega
  intro v k2 hv hb
  try rw [List.nil_append] at hv
  obtain ⟨A5, c5, hvv⟩ := own_slice hv
  rw [HQ.out] at hvv
  subst hvv
  have HV := Lib.hid hv
  have HB2 := Lib.hid (HB1.out.trans hb)
  obtain ⟨S, hS⟩ : ∃ S : ByteArray, (⟨l.toArray⟩ : ByteArray) = S := ⟨_, rfl⟩
  have HS := Lib.hid hS
  have hcv := conv9 (Byt.of_own hv) hS
  clear hv hb hby4 HB1 hS
  go_wp2_with fail
  refine (new_dk _).mono ?_
  rintro e k3 ⟨rfl, hd, hb⟩
  obtain ⟨X, hX⟩ : ∃ X, k2.heap.size = X := ⟨_, rfl⟩
  have HXV : Hid (∀ j, (Value.slice A5 q c5).ownBlock = some j → j < X) := Lib.hid fun j hj => by rw [← hX]; exact (HV.out.lt j hj).2
  have HXW : Hid (w.heap.size ≤ X) := Lib.hid (by rw [← hX]; exact HB2.out.size)
  have hbv := (Byt.of_own HV.out).below hb (Nat.le_refl _)
  have HV3 := Lib.hid (OwnB.below HV.out hb)
  have HB3 := Lib.hid (HB2.out.trans (hb.mono HB2.out.size))
  have HZ := Lib.hid hb.size
  rw [hX] at hd HZ hbv
  try rw [hX]
  have HD := Lib.hid hd
  have HBV := Lib.hid hbv
  clear hd hb HB2 hcv HV hX hbv
  obtain ⟨r1, hr1⟩ : ∃ r, app9 ⟨#[97]⟩ l [] = r := ⟨_, rfl⟩
  have hr1' : r1 = (0, [⟨⟨#[97]⟩, l, 0, false⟩]) := by
    rw [← hr1]
    unfold app9
    rw [if_neg (by decide), if_neg (by have := HQ.out; show ¬ 1048576 < 0 + l.length; omega)]
    rfl
  subst hr1'
  have HR1 := Lib.hid hr1
  clear hr1
  go_wp2_with fail
  refine (app_dk (n := ⟨#[97]⟩) (bs := l) HD.out HZ.out HM1.out (by omega) (Nat.zero_le _) HBV.out (by rw [HQ.out]; omega) _ HR1.out).mono ?_
  rintro e k4 ⟨rfl, hd, hb⟩
  have HD4 := Lib.hid hd
  have HBV4 := Lib.hid (HBV.out.below hb (Nat.le_refl _))
  have HV4 : Hid (OwnB w.heap.size (.slice A5 q c5) l k4) := Lib.hid (own_below9 HV3.out hb HXV.out)
  have HZ4 := Lib.hid (Nat.le_trans HZ.out hb.size)
  have HB4 := Lib.hid (HB3.out.trans (hb.mono HXW.out))
  clear hd hb HD HBV HV3 HZ HB3
  obtain ⟨r2, hr2⟩ : ∃ r, swap9 ⟨#[98]⟩ l [⟨⟨#[97]⟩, l, 0, false⟩] = r := ⟨_, rfl⟩
  have hr2' : r2 = (0, [⟨⟨#[97]⟩, l, 0, false⟩, ⟨⟨#[98]⟩, l, l.length, true⟩]) := by
    rw [← hr2]
    unfold swap9
    rw [if_neg (by decide), if_neg (by have := HQ.out; omega)]
    rfl
  subst hr2'
  have HR2 := Lib.hid hr2
  clear hr2
  go_wp2_with fail
  refine (swap_dk (n := ⟨#[98]⟩) (bs := l) HD4.out HZ4.out HM2.out (by omega) (by simp) HBV4.out (by rw [HQ.out]; omega) _ HR2.out).mono ?_
  rintro e k5 ⟨rfl, hd, hb⟩
  have HD5 := Lib.hid hd
  have HV5 : Hid (OwnB w.heap.size (.slice A5 q c5) l k5) := Lib.hid (own_below9 HV4.out hb HXV.out)
  have HB5 := Lib.hid (HB4.out.trans (hb.mono HXW.out))
  clear hd hb HD4 HBV4 HV4 HZ4 HB4
  go_wp2_with fail
  go_loopw [6] (fun i wr => ∃ (k : Nat) (M : List UInt8), i = .int .i64 k ∧ k ≤ q ∧ M.length = q ∧ OwnB w.heap.size (.slice A5 q c5) M wr ∧ DK X wr X [⟨⟨#[97]⟩, l, 0, false⟩, ⟨⟨#[98]⟩, l, l.length, true⟩] 2 ∧ Below w.heap.size w wr) (fun i _ => q - (intOf i).toNat)
  case atStart => exact ⟨0, l, rfl, Nat.zero_le _, HQ.out, HV5.out, HD5.out, HB5.out⟩
  case round =>
    obtain ⟨k, M, rfl, hk, hM, hv, hd, hb⟩ := hrel
    have HVR := Lib.hid hv
    have HDR := Lib.hid hd
    have HBR := Lib.hid hb
    have HMQ : Hid (M.length = q) := Lib.hid hM
    clear hv hd hb hM
    by_cases hlt : k < q
    · have hki : (k : Int) < q := by omega
      obtain ⟨gb, hA, hlo, hhi, hfz, hcn⟩ := own_at9 HVR.out HMQ.out k hlt
      have hgX := HXV.out gb (by rw [hA]; rfl)
      subst hA
      have hfk := hfz k
      obtain ⟨x, hx⟩ : ∃ x, M[k]'(by rw [HMQ.out]; exact hlt) = x := ⟨_, rfl⟩
      rw [hx] at hcn
      have hwx := u8_more x
      have hset := own_set9 (y := x + 1) HVR.out HMQ.out (by rw [HMQ.out]; exact hlt)
      have HST := Lib.hid hset
      have HDS := Lib.hid (HDR.out.set (j := k) (u := .int .u8 ((x + 1 : UInt8).toNat : Int)) hgX)
      have HBS := Lib.hid (HBR.out.setCell (p := ⟨gb, k, none⟩) hlo (.int .u8 ((x + 1 : UInt8).toNat : Int)))
      clear hset hx
      obtain ⟨y, hy⟩ : ∃ y : Int, ((x + 1 : UInt8).toNat : Int) = y := ⟨_, rfl⟩
      rw [hy] at hwx HST HDS HBS
      clear hy
      go_wp2
      go_roundw
      case rel => exact ⟨k + 1, _, by go_num, by omega, by rw [List.length_set]; exact HMQ.out, HST.out, HDS.out, HBS.out⟩
      case measure => simp [intOf]; omega
    · have hge : (q : Int) ≤ k := by omega
      clear hlt
      go_wp2_with fail
      refine (read_dx (n := ⟨#[97]⟩) (HDR.out.dx) HM1.out _ rfl).mono ?_
      rintro e k6 ⟨v6, rfl, hv, hb⟩
      obtain ⟨Y, hY⟩ : ∃ Y, wr.heap.size = Y := ⟨_, rfl⟩
      have hdx := (HDR.out.dx).below hb
      have hbb := HBR.out.trans (hb.mono HBR.out.size)
      have hwY := HBR.out.size
      rw [hY] at hv hdx hwY
      obtain ⟨A6, c6, hvv⟩ := own_slice hv
      have hvl : (⟨⟨#[97]⟩, l, 0, false⟩ : Fil).b.length = q := HQ.out
      rw [hvl] at hvv
      subst hvv
      have HV6 := Lib.hid hv
      have HDX := Lib.hid hdx
      have HB6 := Lib.hid hbb
      have HWY := Lib.hid hwY
      clear hv hdx hbb hwY hvl hb HVR HDR HBR HMQ hY
      go_wp2_with fail
      go_loopw [9] (fun i wr2 => ∃ (k : Nat) (M : List UInt8), i = .int .i64 k ∧ k ≤ q ∧ M.length = q ∧ OwnB Y (.slice A6 q c6) M wr2 ∧ DX Y wr2 X [⟨⟨#[97]⟩, l, 0, false⟩, ⟨⟨#[98]⟩, l, l.length, true⟩] 2 ∧ Below w.heap.size w wr2) (fun i _ => q - (intOf i).toNat)
      case atStart => exact ⟨0, l, rfl, Nat.zero_le _, HQ.out, HV6.out, HDX.out, HB6.out⟩
      case round =>
        obtain ⟨k7, M, rfl, hk7, hM, hv, hd, hb⟩ := hrel
        have HVR := Lib.hid hv
        have HDR := Lib.hid hd
        have HBR := Lib.hid hb
        have HMQ : Hid (M.length = q) := Lib.hid hM
        clear hv hd hb hM
        by_cases hlt : k7 < q
        · have hki : (k7 : Int) < q := by omega
          obtain ⟨gb, hA, hlo, hhi, hfz, hcn⟩ := own_at9 HVR.out HMQ.out k7 hlt
          subst hA
          have hfk := hfz k7
          obtain ⟨x, hx⟩ : ∃ x, M[k7]'(by rw [HMQ.out]; exact hlt) = x := ⟨_, rfl⟩
          rw [hx] at hcn
          have hwx := u8_more x
          have hset := own_set9 (y := x + 1) HVR.out HMQ.out (by rw [HMQ.out]; exact hlt)
          have HST := Lib.hid hset
          have HDS := Lib.hid (HDR.out.set (j := k7) (u := .int .u8 ((x + 1 : UInt8).toNat : Int)) hlo)
          have HBS := Lib.hid (HBR.out.setCell (p := ⟨gb, k7, none⟩) (Nat.le_trans HWY.out hlo) (.int .u8 ((x + 1 : UInt8).toNat : Int)))
          clear hset hx
          obtain ⟨y, hy⟩ : ∃ y : Int, ((x + 1 : UInt8).toNat : Int) = y := ⟨_, rfl⟩
          rw [hy] at hwx HST HDS HBS
          clear hy
          go_wp2
          go_roundw
          case rel => exact ⟨k7 + 1, _, by go_num, by omega, by rw [List.length_set]; exact HMQ.out, HST.out, HDS.out, HBS.out⟩
          case measure => simp [intOf]; omega
        · have hge7 : (q : Int) ≤ k7 := by omega
          clear hlt
          go_wp2_with fail
          refine (read_dx (n := ⟨#[97]⟩) HDR.out HM1.out _ rfl).mono ?_
          rintro e k8 ⟨v8, rfl, hv8, hb⟩
          have HDR8 := Lib.hid (HDR.out.below hb)
          have HB8 := Lib.hid (HBR.out.trans (hb.mono HBR.out.size))
          have HV8 := Lib.hid hv8
          clear hb HDR HBR hv8
          go_wp2_with fail
          refine (read_dx (n := ⟨#[98]⟩) HDR8.out HM2.out _ rfl).mono ?_
          rintro e k9 ⟨v9, rfl, hv9, hb⟩
          have HB9 := Lib.hid (HB8.out.trans (hb.mono HB8.out.size))
          have hcv8 := conv9 ((Byt.of_own HV8.out).below hb (Nat.le_refl _)) HS.out
          have hcv9 := conv9 (Byt.of_own hv9) HS.out
          have hss : (S.toList == S.toList) = true := beq_self_eq_true _
          clear hb HDR8 hv9 HB8 HV8
          go_wp2
          go_ret
          exact ⟨rfl, HB9.out⟩

set_option maxRecDepth 100000 in
theorem lifted (os : Os) (started : os.Started) (H : Type) (enc : TypeId × Value → H) :
    ReturnsInHanded {} Try.checked os 5 .any (Rows.diskOwnSpec.pre6 enc Try.prog Try.f5 Rows.diskOwnRow.domain false) (Rows.diskOwnSpec.post enc Try.prog Try.f5 false true false false) := by
  refine returnsInHanded_of_change (C := Try.checked) own started (by kernel_rfl) Try.func5
    (ChangeSpec.witness6 (enc := enc) (C := Try.checked) false ⟨#[], #[.slice none 0 0], []⟩ 8 (by kernel_rfl) (by kernel_rfl) (by kernel_rfl) (by kernel_rfl)) ?_
  intro W base args ds gs before hval0 hW hcnd _
  have hval : ∀ (j : Nat) t v, Try.f5.params[j]? = some t → args[j]? = some v → Value.okWide Try.prog W .any base t v := hval0
  have hW' := hW
  obtain ⟨p, q, hA0, hV, rfl, hfz, hnd⟩ := hW
  have hA : DataW.TrodAll enc Try.prog W 0 (fun _ => true) true Try.f5.params.toList args.toList ds p := hA0
  have hA1 := hA
  rw [Try.params5] at hA hval
  obtain ⟨v0, vs0, d0, ds0, p0, q0, hargs, rfl, rfl, h0, r0⟩ := trodAll_cons hA
  obtain ⟨rfl, rfl, rfl⟩ := trodAll_nil r0
  obtain rfl : args = #[v0] := by cases args; simp_all
  obtain ⟨rfl, rfl⟩ := trodVars_none hV
  obtain ⟨A0, c0, a0, rfl, w0, x0⟩ := open_bytes (hval 0 30 v0 rfl rfl) h0
  clear hA0 hval0
  simp only [List.append_nil] at hW'
  try simp only [List.append_nil] at hA1
  refine (walk W A0 c0 a0 w0 x0).mono fun e W' ⟨he, hg⟩ => ?_
  subst he
  exact ⟨_, rfl, law_end Try.laidOut (by kernel_rfl) hW' hA1 hg rfl rfl rfl (trodAll_mk1 (shut_bool Try.underlying4 _))⟩

theorem over : Rows.diskOwnRow.holds Try.pinned (OpenSpec.ofChange Rows.diskOwnSpec) :=
  OpenClaim.holds_of_wide 5 Try.f5 rfl rfl rfl rfl rfl rfl rfl ⟨rfl, rfl, rfl, rfl, rfl⟩ rfl rfl rfl rfl rfl (by kernel_rfl) Try.func5 (by kernel_rfl)
    (of_decide_eq_true (by kernel_rfl)) (by unfold Func.isWrapper; first | (rw [if_pos (by decide +kernel)]; kernel_rfl) | (rw [if_neg (by decide +kernel)]; exact ⟨rfl, rfl⟩))
    (fun os started H enc _ => lifted os started H enc)

/-- the statement -/
theorem proved : Rows.DiskOwnSaid := over
#print axioms proved
end Go.Proofs.Ytbdengcblncfmaa.diskOwn
