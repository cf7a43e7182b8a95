/-
  A file has at most 2^20 bytes, by whatever steps; what was refused is not there.
-/
import Derived.Test.YtbdengcblncfmaaRows
import Derived.Test.YtbdengcblncfmaaL9Full
import Derived.Test.YtbdengcblncfmaaL7Ints
import Derived.Test.YtbdengcblncfmaaLawKit
import Derived.WalkKit
import Derived.ProofKit
import Derived.OpenShut
import Derived.ShutString
set_option linter.unusedSimpArgs false
set_option linter.unusedVariables false
namespace Go.Proofs.Ytbdengcblncfmaa.diskFull
open Go.ChangeShapes Go.WideShapes Go.ChangeAt Go.RowKit
open Go.ChangeMaps (open_string shut_string)
set_option linter.unusedVariables false

theorem own : ownKnob Try.prog.godebug = none := by kernel_rfl

set_option maxRecDepth 100000 in
set_option maxHeartbeats 8000000 in
theorem walk (w : World) (A0 : Option Addr) (c0 : Nat) (a0 : List Int) (w0 : Ints w w.heap.size (.slice A0 a0.length c0) a0) (x0 : ∀ x ∈ a0, I64 x) :
    Calls Try.prog 4 #[.slice A0 a0.length c0] w fun e w' => e = .returned (.bool true) ∧ Below w.heap.size w w' := by
  have HML := Lib.hid nF_size
  have HI := Lib.hid w0
  have HX := Lib.hid x0
  obtain ⟨q, hq⟩ : ∃ q, a0.length = q := ⟨_, rfl⟩
  have HQ := Lib.hid hq
  rw [hq] at HI
  rw [hq]
  clear w0 x0 hq
  obtain ⟨N, hN⟩ : ∃ N : Nat, N = 300000 := ⟨_, rfl⟩
  have hNi : (300000 : Int) = (N : Int) := by omega
  obtain ⟨N2, hN2⟩ : ∃ N : Nat, N = 1048577 := ⟨_, rfl⟩
  have hN2i : (1048577 : Int) = (N2 : Int) := by omega
  have HN := Lib.hid hN
  have HNi := Lib.hid hNi
  have HN2 := Lib.hid hN2
  have HN2i := Lib.hid hN2i
  clear hN hNi hN2 hN2i
  go_enter Try.func4, Try.ntmps4
  go_wp2_with fail
  refine (begun9_any w).mono ?_
  rintro e k1 ⟨rfl, hb⟩
  have HB1 := Lib.hid hb
  clear hb
  go_wp2_with fail
  refine (new_dk _).mono ?_
  rintro e k2 ⟨rfl, hd, hb⟩
  obtain ⟨X, hX⟩ : ∃ X, k1.heap.size = X := ⟨_, rfl⟩
  have hxw := HB1.out.size
  have hb2 := HB1.out.trans (hb.mono HB1.out.size)
  have hz := hb.size
  rw [hX] at hd hxw hz
  try rw [hX]
  have HD := Lib.hid hd
  have HXW := Lib.hid hxw
  have HZ := Lib.hid hz
  have HB2 := Lib.hid hb2
  clear hd hb hb2 hxw hz HB1 hX
  go_wp2_with (at_make; refine wp_make9 _ rfl _ _ rfl N 300000 300000 rfl rfl HNi.out HNi.out ?x1 ?_)
  case x1 => have := HN.out; omega
  intro k3 hv hb
  obtain ⟨gb, hgb⟩ : ∃ gb, k2.heap.size = gb := ⟨_, rfl⟩
  have hdb := HD.out.db hb (Nat.le_of_eq hgb)
  have hb3 := HB2.out.trans (hb.mono HB2.out.size)
  have hz3 := Nat.le_trans HZ.out hb.size
  rw [hgb] at hv
  try rw [hgb]
  obtain ⟨Z, hZ⟩ : ∃ Z : List UInt8, List.replicate N 0 = Z := ⟨_, rfl⟩
  have HZL : Hid (Z.length = N) := Lib.hid (by rw [← hZ, List.length_replicate])
  rw [hZ] at hv
  have HV := Lib.hid hv
  have HDB := Lib.hid hdb
  have HB3 := Lib.hid hb3
  have HZ3 := Lib.hid hz3
  clear hv hb hdb hb3 hz3 HB2 HD HZ hZ hgb
  go_wp2_with fail
  go_loopw [5, 7] (fun n i wr => ∃ (k m : Nat) (l : List Fil), i = .int .i64 k ∧ n = .int .i64 m ∧ k ≤ q ∧ k ≤ 12 ∧ m ≤ 1048576 ∧ Grow9 l m k ∧ DB X gb wr X l k ∧ OwnB gb (.slice (some ⟨gb, 0, none⟩) N N) Z wr ∧ Below w.heap.size w wr ∧ X ≤ wr.heap.size) (fun _ i _ => q - (intOf i).toNat)
  case atStart => exact ⟨0, 0, [], rfl, rfl, Nat.zero_le _, Nat.zero_le _, Nat.zero_le _, .inl ⟨rfl, rfl, rfl⟩, HDB.out, HV.out, HB3.out, HZ3.out⟩
  case round =>
    obtain ⟨k, m, l, rfl, rfl, hk, hk12, hm, hg, hd, hv, hb, hz⟩ := hrel
    have HDR := Lib.hid hd
    have HVR := Lib.hid hv
    have HBR := Lib.hid hb
    have HZR := Lib.hid hz
    have HGR := Lib.hid hg
    have hll := grow_len hg
    clear hd hv hb hz hg HDB HV HB3 HZ3
    by_cases hlt : k < q ∧ k < 12
    · obtain ⟨hlt, hlt3⟩ := hlt
      have hki : (k : Int) < q := by omega
      have hk3 : (k : Int) < 12 := by omega
      obtain ⟨gi, oi, hA, hgi, hci⟩ := (HI.out.keep HBR.out (Nat.le_refl _)).at_ k (by rw [HQ.out]; exact hlt)
      subst hA
      obtain ⟨p, hp⟩ : ∃ p, a0[k]'(by rw [HQ.out]; exact hlt) = p := ⟨_, rfl⟩
      have hpi := HX.out p (by rw [← hp]; exact List.getElem_mem _)
      rw [hp] at hci
      unfold I64 at hpi
      obtain ⟨t1, ht1⟩ : ∃ t, p.tmod 300000 = t := ⟨_, rfl⟩
      have hb1 : -300000 < t1 ∧ t1 < 300000 := by
        rw [← ht1]
        have h1 := Int.tmod_lt_of_pos p (show (0 : Int) < 300000 by omega)
        have h2 := Int.tmod_lt_of_pos (-p) (show (0 : Int) < 300000 by omega)
        rw [Int.neg_tmod] at h2
        omega
      have hw1 : IntKind.i64.wrap t1 = t1 := by rw [IntKind.wrap_i64]; omega
      have hw2 : IntKind.i64.wrap (t1 + 300000) = t1 + 300000 := by rw [IntKind.wrap_i64]; omega
      obtain ⟨t2, ht2⟩ : ∃ t, t1 + 300000 = t := ⟨_, rfl⟩
      rw [ht2] at hw2
      obtain ⟨z, hz⟩ : ∃ z : Nat, t2.tmod 300000 = (z : Int) := ⟨(t2.tmod 300000).toNat, by have := Int.tmod_nonneg 300000 (show 0 ≤ t2 by omega); omega⟩
      have hzl : z < 300000 := by
        have h1 := Int.tmod_lt_of_pos t2 (show (0 : Int) < 300000 by omega)
        omega
      have hw3 : IntKind.i64.wrap (z : Int) = (z : Int) := by rw [IntKind.wrap_i64]; omega
      have hw4 : IntKind.i64.wrap ((1048576 : Int) - m) = (1048576 : Int) - m := by rw [IntKind.wrap_i64]; omega
      have hzN : (z : Int) ≤ N := by have := HN.out; omega
      have HZN : Hid (z ≤ N) := Lib.hid (by have := HN.out; omega)
      have HZT : Hid ((Z.take z).length = z) := Lib.hid (by rw [List.length_take, HZL.out]; have := HN.out; omega)
      clear hb1 hpi hp hgi
      by_cases hbig : 1048576 < m + z
      · have hno := grow_no HGR.out hbig (Z.take z) HZT.out
        have hcmp : (1048576 : Int) - m < z := by omega
        have hgm := grow_more HGR.out rfl (fun e => by
          rcases HGR.out with ⟨_, h0, _⟩ | ⟨bs, h0, _⟩
          · omega
          · rw [e] at h0; cases h0)
        have HGM := Lib.hid hgm
        have HNO := Lib.hid hno
        clear hno hgm
        go_wp2_with fail
        refine (app_db (nm := nF) (j := z) HDR.out HZR.out HML.out (by omega) (by omega) HVR.out HZL.out HZN.out (by have := HN.out; omega) _ HNO.out).mono ?_
        rintro e k4 ⟨rfl, hd, hv, hb⟩
        have HDE := Lib.hid hd
        have HVE := Lib.hid hv
        have HBE := Lib.hid (HBR.out.trans (hb.mono HXW.out))
        have HZE := Lib.hid (Nat.le_trans HZR.out hb.size)
        clear hd hv hb
        go_wp2
        go_roundw
        case rel => exact ⟨k + 1, m, l, by go_num, rfl, by omega, by omega, hm, HGM.out, HDE.out, HVE.out, HBE.out, HZE.out⟩
        case measure => simp [intOf]; omega
      · obtain ⟨l', hye, hgm⟩ := grow_yes HGR.out hbig (Z.take z) HZT.out
        have hcmp : ¬ (1048576 : Int) - m < z := by omega
        have HGM := Lib.hid hgm
        have HNO := Lib.hid hye
        have hw5 : IntKind.i64.wrap ((m : Int) + z) = ((m + z : Nat) : Int) := by rw [IntKind.wrap_i64]; omega
        rw [Int.natCast_add] at hw5
        clear hye hgm
        go_wp2_with fail
        refine (app_db (nm := nF) (j := z) HDR.out HZR.out HML.out (by omega) (by omega) HVR.out HZL.out HZN.out (by have := HN.out; omega) _ HNO.out).mono ?_
        rintro e k4 ⟨rfl, hd, hv, hb⟩
        have HDE := Lib.hid hd
        have HVE := Lib.hid hv
        have HBE := Lib.hid (HBR.out.trans (hb.mono HXW.out))
        have HZE := Lib.hid (Nat.le_trans HZR.out hb.size)
        clear hd hv hb
        go_wp2
        go_roundw
        case rel => exact ⟨k + 1, m + z, l', by go_num, by first | rfl | (congr 1; omega) | (simp; omega), by omega, by omega, by omega, HGM.out, HDE.out, HVE.out, HBE.out, HZE.out⟩
        case measure => simp [intOf]; omega
    · have hge : ((q : Int) ≤ k ∧ (q : Int) = 0) ∨ ((q : Int) ≤ k ∧ ¬ (q : Int) = 0) ∨ ((k : Int) < q ∧ (12 : Int) ≤ k) := by omega
      have hk1 : ¬ (q : Int) = 0 → 1 ≤ k := by omega
      clear hlt
      have hfin : 1 ≤ k → ∃ bs, l = [⟨nF, bs, 0, false⟩] ∧ bs.length = m := fun h1 => by
        rcases HGR.out with ⟨_, _, h0⟩ | h0
        · omega
        · exact h0
      rcases hge with ⟨hge, hq0⟩ | ⟨hge, hq0⟩ | ⟨hge, hge3⟩
      · have hqb : ((q : Int) == 0) = true := by simpa using hq0
        go_wp2
        go_ret
        exact ⟨rfl, HBR.out⟩
      · have hqb : ((q : Int) == 0) = false := by simpa using hq0
        obtain ⟨bs, hl, hbs⟩ := hfin (hk1 hq0)
        subst hl
        have HBSL := Lib.hid hbs
        clear hfin hk1 HGR hbs
        go_wp2_with fail
        refine (read_dk (n := nF) HDR.out.dk HML.out _ (one_get ⟨nF, bs, 0, false⟩)).mono ?_
        rintro e k5 ⟨v5, rfl, hv, hb⟩
        obtain ⟨A5, c5, hv5⟩ := own_slice hv
        have hbl : (⟨nF, bs, 0, false⟩ : Fil).b.length = m := HBSL.out
        rw [hbl] at hv5
        subst hv5
        have HD5 := Lib.hid (HDR.out.dk.below hb)
        have HB5 := Lib.hid (HBR.out.trans (hb.mono HBR.out.size))
        have HZ5 := Lib.hid (Nat.le_trans HZR.out hb.size)
        clear hv hb hbl HDR HVR HBR HZR
        have hmk := fun w => make_zer9 N2 (by have := HN2.out; omega) w
        rw [← HN2i.out] at hmk
        go_wp2_with fail
        have HV6 := Lib.hid (own_zer9 N2 (by have := HN2.out; omega) k5)
        have HH6 := Lib.hid (below_new k5 (.cells (madeCells #[.int .u8 0] N2) 5))
        have HB6 := Lib.hid (HB5.out.trans (HH6.out.mono HB5.out.size))
        clear hmk
        have hsw : swap9 nF (List.replicate N2 0) [⟨nF, bs, 0, false⟩] = (5, [⟨nF, bs, 0, false⟩]) := by
          unfold swap9
          rw [if_neg (by rw [nF_good]; simp), if_pos (by rw [List.length_replicate]; have := HN2.out; omega)]
        have HSW := Lib.hid hsw
        clear hsw
        refine (swap_new (n := nF) HD5.out HH6.out HZ5.out HML.out (by omega) (by simp) HV6.out (by rw [List.length_replicate]; have := HN2.out; omega) _ HSW.out).mono ?_
        rintro e k7 ⟨rfl, hd, hb⟩
        have HD7 := Lib.hid hd
        have HB7 := Lib.hid (HB6.out.trans (hb.mono HXW.out))
        clear hd hb HD5 HB5 HZ5 HB6 HV6 HH6
        go_wp2_with fail
        refine (loose_dk (n := nF) HD7.out HML.out (m : Int) (by rw [one_loose, HBSL.out]; simp)).mono ?_
        rintro e k8 ⟨rfl, hb⟩
        have HB8 := Lib.hid (HB7.out.trans (hb.mono HB7.out.size))
        clear hb HD7 HB7
        go_wp2
        go_ret
        exact ⟨rfl, HB8.out⟩
      · have hq0 : ¬ (q : Int) = 0 := by omega
        have hqb : ((q : Int) == 0) = false := by simpa using hq0
        obtain ⟨bs, hl, hbs⟩ := hfin (by omega)
        subst hl
        have HBSL := Lib.hid hbs
        clear hfin hk1 HGR hbs
        go_wp2_with fail
        refine (read_dk (n := nF) HDR.out.dk HML.out _ (one_get ⟨nF, bs, 0, false⟩)).mono ?_
        rintro e k5 ⟨v5, rfl, hv, hb⟩
        obtain ⟨A5, c5, hv5⟩ := own_slice hv
        have hbl : (⟨nF, bs, 0, false⟩ : Fil).b.length = m := HBSL.out
        rw [hbl] at hv5
        subst hv5
        have HD5 := Lib.hid (HDR.out.dk.below hb)
        have HB5 := Lib.hid (HBR.out.trans (hb.mono HBR.out.size))
        have HZ5 := Lib.hid (Nat.le_trans HZR.out hb.size)
        clear hv hb hbl HDR HVR HBR HZR
        have hmk := fun w => make_zer9 N2 (by have := HN2.out; omega) w
        rw [← HN2i.out] at hmk
        go_wp2_with fail
        have HV6 := Lib.hid (own_zer9 N2 (by have := HN2.out; omega) k5)
        have HH6 := Lib.hid (below_new k5 (.cells (madeCells #[.int .u8 0] N2) 5))
        have HB6 := Lib.hid (HB5.out.trans (HH6.out.mono HB5.out.size))
        clear hmk
        have hsw : swap9 nF (List.replicate N2 0) [⟨nF, bs, 0, false⟩] = (5, [⟨nF, bs, 0, false⟩]) := by
          unfold swap9
          rw [if_neg (by rw [nF_good]; simp), if_pos (by rw [List.length_replicate]; have := HN2.out; omega)]
        have HSW := Lib.hid hsw
        clear hsw
        refine (swap_new (n := nF) HD5.out HH6.out HZ5.out HML.out (by omega) (by simp) HV6.out (by rw [List.length_replicate]; have := HN2.out; omega) _ HSW.out).mono ?_
        rintro e k7 ⟨rfl, hd, hb⟩
        have HD7 := Lib.hid hd
        have HB7 := Lib.hid (HB6.out.trans (hb.mono HXW.out))
        clear hd hb HD5 HB5 HZ5 HB6 HV6 HH6
        go_wp2_with fail
        refine (loose_dk (n := nF) HD7.out HML.out (m : Int) (by rw [one_loose, HBSL.out]; simp)).mono ?_
        rintro e k8 ⟨rfl, hb⟩
        have HB8 := Lib.hid (HB7.out.trans (hb.mono HB7.out.size))
        clear hb HD7 HB7
        go_wp2
        go_ret
        exact ⟨rfl, HB8.out⟩

set_option maxRecDepth 100000 in
theorem lifted (os : Os) (started : os.Started) (H : Type) (enc : TypeId × Value → H) :
    ReturnsInHanded {} Try.checked os 4 .any (Rows.diskFullSpec.pre6 enc Try.prog Try.f4 Rows.diskFullRow.domain false) (Rows.diskFullSpec.post enc Try.prog Try.f4 false true false false) := by
  refine returnsInHanded_of_change (C := Try.checked) own started (by kernel_rfl) Try.func4
    (ChangeSpec.witness6 (enc := enc) (C := Try.checked) false ⟨#[], #[.slice none 0 0], []⟩ 8 (by kernel_rfl) (by kernel_rfl) (by kernel_rfl) (by kernel_rfl)) ?_
  intro W base args ds gs before hval0 hW hcnd _
  have hval : ∀ (j : Nat) t v, Try.f4.params[j]? = some t → args[j]? = some v → Value.okWide Try.prog W .any base t v := hval0
  have hW' := hW
  obtain ⟨p, q, hA0, hV, rfl, hfz, hnd⟩ := hW
  have hA : DataW.TrodAll enc Try.prog W 0 (fun _ => true) true Try.f4.params.toList args.toList ds p := hA0
  have hA1 := hA
  rw [Try.params4] at hA hval
  obtain ⟨v0, vs0, d0, ds0, p0, q0, hargs, rfl, rfl, h0, r0⟩ := trodAll_cons hA
  obtain ⟨rfl, rfl, rfl⟩ := trodAll_nil r0
  obtain rfl : args = #[v0] := by cases args; simp_all
  obtain ⟨rfl, rfl⟩ := trodVars_none hV
  obtain ⟨A0, c0, a0, rfl, w0, x0⟩ := open_ints7 (hval 0 46 v0 rfl rfl) h0
  clear hA0 hval0
  simp only [List.append_nil] at hW'
  try simp only [List.append_nil] at hA1
  refine (walk W A0 c0 a0 w0 x0).mono fun e W' ⟨he, hg⟩ => ?_
  subst he
  exact ⟨_, rfl, law_end Try.laidOut (by kernel_rfl) hW' hA1 hg rfl rfl rfl (trodAll_mk1 (shut_bool Try.underlying4 _))⟩

theorem over : Rows.diskFullRow.holds Try.pinned (OpenSpec.ofChange Rows.diskFullSpec) :=
  OpenClaim.holds_of_wide 4 Try.f4 rfl rfl rfl rfl rfl rfl rfl ⟨rfl, rfl, rfl, rfl, rfl⟩ rfl rfl rfl rfl rfl (by kernel_rfl) Try.func4 (by kernel_rfl)
    (of_decide_eq_true (by kernel_rfl)) (by unfold Func.isWrapper; first | (rw [if_pos (by decide +kernel)]; kernel_rfl) | (rw [if_neg (by decide +kernel)]; exact ⟨rfl, rfl⟩))
    (fun os started H enc _ => lifted os started H enc)

/-- the statement -/
theorem proved : Rows.DiskFullSaid := over
#print axioms proved
end Go.Proofs.Ytbdengcblncfmaa.diskFull
