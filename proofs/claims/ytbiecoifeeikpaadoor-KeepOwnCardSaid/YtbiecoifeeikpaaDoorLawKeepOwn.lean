/-
  What is told is a copy (KeepOwn).
  There are no conditions.
-/
import Derived.Test.YtbiecoifeeikpaaDoorRows
import Derived.Test.YtbiecoifeeikpaaDoorCards
import Derived.Test.YtbiecoifeeikpaaDoorTie
import Derived.Test.YtbiecoifeeikpaaDoorBun1
import Derived.SevenTiedAt
import Derived.Test.YtbiecoifeeikpaaDoorBun5
import Derived.Test.YtbiecoifeeikpaaDoorBun6
import Derived.Test.YtbiecoifeeikpaaDoorBun7
import Derived.WalkKit
import Derived.ProofKit
import Derived.OpenShut
import Derived.ShutString
namespace Go.Proofs.YtbiecoifeeikpaaDoor.keepOwn
open Go.ChangeShapes Go.WideShapes Go.ChangeAt Go.RowKit
open Go.ChangeMaps (open_string shut_string)
set_option linter.unusedVariables false

theorem own : ownKnob Tryd.prog.godebug = none := by kernel_rfl
theorem write_head {l : List Ent} {r : Int} {k : Kst} (h : write11 zKst l = (r, k)) : ∃ lg, k = ⟨0, 0, zSnp, lg⟩ := by
  cases l with
  | nil => injection h with _ h; exact ⟨[], h.symm⟩
  | cons e t =>
    unfold write11 at h
    simp only at h
    split at h
    · split at h
      · injection h with _ h; exact ⟨[], h.symm⟩
      · injection h with _ h; exact ⟨_, h.symm⟩
    · injection h with _ h; exact ⟨[], h.symm⟩

set_option maxRecDepth 100000 in
set_option maxHeartbeats 8000000 in
theorem walk (w : World) (A0 : Option Addr) (c0 : Nat) (a0 : List Ent) (w0 : Ens (fun j => j < w.heap.size) w (.slice A0 a0.length c0) a0) (x0 : ∀ x ∈ a0, x.fit) (hT : Tbl w) :
    Calls Tryd.prog 4 #[.slice A0 a0.length c0] w fun e w' => e = .returned (.bool true) ∧ Below w.heap.size w w' := by
  have HT0 := Lib.hid hT
  have X0 := Lib.hid x0
  have W0 := Lib.hid w0
  clear x0 w0
  have HT := Lib.hid hT; clear hT
  go_enter Tryd.func4, Tryd.ntmps4
  go_wp2_with fail
  refine (begun11_any w HT.out).mono ?_
  rintro e w1 ⟨rfl, hb1⟩
  have HT1 := Lib.hid (tbl_keep HT.out hb1)
  have HB1 := Lib.hid hb1
  clear HT hb1
  have hE1 := W0.out.below HB1.out
  have HC := Lib.hid (lcut11_any _ 0 0 0 0 0 0 ByteArray.empty ByteArray.empty A0 a0.length c0 a0 w1 hE1)
  clear hE1
  go_wp2_with fail
  refine HC.out.mono ?_
  rintro e w2 ⟨v, rfl, hv, hb2⟩
  obtain ⟨A1, c1, rfl⟩ := hv.slice
  obtain ⟨l, hl⟩ : ∃ l, cut11 a0 = l := ⟨_, rfl⟩
  have hl10 : l.length ≤ 10 := by rw [← hl, cut11_len]; omega
  have hld : ∀ e ∈ l, e.data.size ≤ 1050000 := fun e he => by
    rw [← hl] at he
    obtain ⟨y, _, rfl⟩ := List.mem_map.1 he
    have := cutS_size y.data 100
    show (cutS y.data 100).size ≤ _
    omega
  have hib : ∀ e ∈ l, -9223372036854775808 ≤ e.ix ∧ e.ix ≤ 9223372036854775807 := fun e he => by
    rw [← hl] at he
    obtain ⟨y, hy, rfl⟩ := List.mem_map.1 he
    have := (X0.out y (List.mem_of_mem_take hy)).1
    unfold I64b at this
    show -9223372036854775808 ≤ y.ix ∧ y.ix ≤ 9223372036854775807
    omega
  rw [hl] at hv ⊢
  obtain ⟨m, hm⟩ : ∃ m, l.length = m := ⟨_, rfl⟩
  obtain ⟨s1, hs1⟩ : ∃ s, cutS ByteArray.empty 60 = s := ⟨_, rfl⟩
  obtain ⟨s2, hs2⟩ : ∃ s, cutS ByteArray.empty 200 = s := ⟨_, rfl⟩
  rw [hm] at hv ⊢
  rw [hs1, hs2]
  have HM := Lib.hid hm
  have HLD := Lib.hid hld
  have HIB := Lib.hid hib
  have hT2 := tbl_keep HT1.out hb2
  have HV2 := Lib.hid hv
  have HB2 := Lib.hid (HB1.out.trans (hb2.mono HB1.out.size))
  have HT2 := Lib.hid hT2
  rw [hm] at hl10
  clear HC hs1 hs2 hm hl hld hib hT2 hv hb2 HB1 HT1 X0 W0
  go_wp2_with fail
  obtain ⟨w3, hw3⟩ : ∃ W, w2.alloc (.cells #[.int .i64 0, .int .i64 0, .int .i64 0, .int .i64 0, .slice A1 m c1, .int .i64 0, .int .i64 0, .string s1, .string s2] 35) = W := ⟨_, rfl⟩
  obtain ⟨ob, hob⟩ : ∃ ob, w2.heap.size = ob := ⟨_, rfl⟩
  rw [hw3, hob]
  have h3 : Below w2.heap.size w2 w3 := by rw [← hw3]; exact below_new _ _
  have ro : Rt w3 ob 35 [.int .i64 0, .int .i64 0, .int .i64 0, .int .i64 0, .slice A1 m c1, .int .i64 0, .int .i64 0, .string s1, .string s2] := by rw [← hw3]; exact Rt.new_at _ _ _ _ hob
  have hv3 := HV2.out.below h3
  have hT3 := tbl_keep HT2.out h3
  have hB3 := HB2.out.trans (h3.mono HB2.out.size)
  obtain ⟨B, hB⟩ : ∃ B, w3.heap.size = B := ⟨_, rfl⟩
  have HBW := Lib.hid hB
  have hst : 0 < w3.heap.size := cell_lt (hT3 0 (by omega))
  have hnw := new_kd w3 (fun j => j < B) (fun j hj => by omega) (by omega) hT3
  rw [hB] at hnw hst
  have HN := Lib.hid hnw
  have HST := Lib.hid hst
  have HRO := Lib.hid ro
  have HV3 := Lib.hid hv3
  have HB3 := Lib.hid hB3
  have hobB : ob < B := by rw [← hB]; exact ro.lt
  have HAL := Lib.hid (show ∀ k, (Value.slice A1 m c1).ownBlock = some k → k < B from fun k hk => by rw [← hB]; exact (hv3.lt k hk).2)
  have HWB := Lib.hid (show w.heap.size ≤ B by rw [← hB]; exact hB3.size)
  clear hw3 hob h3 ro hv3 hT3 hB3 hB hnw hst HV2 HT2 HB2
  refine HN.out.mono ?_
  rintro e k1 ⟨rfl, hd1, hb4⟩
  have HD1 := Lib.hid hd1
  have HB4 := Lib.hid hb4
  clear hd1 hb4 HN
  go_wp2_with fail
  refine (open_none_kk HD1.out).mono ?_
  rintro e k2 ⟨g, rfl, hk2, hs2⟩
  have h5 : Below B w3 k2 := HB4.out.trans (hs2.below (by rw [← HBW.out]; exact HB4.out.size) (fun j hj => hj))
  have hro := HRO.out.under h5 hobB
  have x4 := hro.cell (j := 4) rfl
  have hobk := hro.lt
  have HK2 := Lib.hid hk2
  have HV4 := Lib.hid (HV3.out.below (by rw [HBW.out]; exact h5))
  have HRO2 := Lib.hid hro
  have HB5 := Lib.hid (HB3.out.trans (h5.mono (by rw [← HBW.out]; exact HB3.out.size)))
  have HBK := Lib.hid (show B ≤ k2.heap.size by rw [← HBW.out]; exact h5.size)
  clear hk2 hs2 h5 hro HD1 HB4 HRO HV3 HB3
  go_wp2_with fail
  obtain ⟨k3, hk3⟩ : ∃ W, k2.alloc (.cells #[.int .i64 0, .int .i64 0, .int .i64 0, .int .i64 0, .string ⟨#[]⟩, .string ⟨#[]⟩, .slice none 0 0] 38) = W := ⟨_, rfl⟩
  have h6 : Below k2.heap.size k2 k3 := by rw [← hk3]; exact below_new _ _
  obtain ⟨sb, hsb⟩ : ∃ sb, k2.heap.size = sb := ⟨_, rfl⟩
  have HSB := Lib.hid hsb
  obtain ⟨⟨r, kw⟩, hr⟩ : ∃ p, write11 zKst l = p := ⟨_, rfl⟩
  obtain ⟨lg, rfl⟩ : ∃ lg, kw = ⟨0, 0, zSnp, lg⟩ := write_head hr
  have hlv := (HV4.out.below h6)
  have hwr := rwriteS_any 0 0 0 0 ByteArray.empty ByteArray.empty [] (fun _ => False) _ none 0 0 A1 m c1 l k3 (Ens.nil _ _) (Ens.of_own hlv) (by decide) (by decide) (by decide) (by omega) HLD.out
  have hwr2 : Calls Tryd.prog 9 #[.agg #[.int .i64 0, .int .i64 0, .int .i64 0, .int .i64 0, .string ⟨#[]⟩, .string ⟨#[]⟩, .slice none 0 0], .slice A1 m c1] k3 (WrS (fun _ => False) zKst (write11 zKst l) k3.heap.size k3) := hwr
  rw [hr] at hwr2
  have HWR := Lib.hid hwr2
  have HR := Lib.hid hr
  have HV5 := Lib.hid hlv
  have HRO3 := Lib.hid (HRO2.out.below h6)
  have HB6 := Lib.hid (HB5.out.trans (h6.mono HB5.out.size))
  have H6 := Lib.hid h6
  have z3 : k3.heap.size = sb + 1 := by rw [← hk3, World.size_alloc, hsb]
  have HZ3 := Lib.hid z3
  rw [hk3]
  clear h6 hr hlv hwr hwr2 HV4 HRO2 HB5 z3 hk3 hsb
  refine HWR.out.mono ?_
  intro e k4 hW
  unfold WrS at hW
  simp only [zKst, base11, zSnp, show ByteArray.empty = (⟨#[]⟩ : ByteArray) from rfl] at hW
  obtain ⟨vx, rfl, hx, hb6⟩ := hW
  obtain ⟨Ax, cx, rfl, hcx⟩ := hx.slice
  obtain ⟨nx, hnx⟩ : ∃ nx, lg.length = nx := ⟨_, rfl⟩
  rw [hnx] at hx hcx ⊢
  have HNX := Lib.hid hnx
  have hro4 := HRO3.out.below hb6
  have x4 := hro4.cell (j := 4) rfl
  have hobk4 := hro4.lt
  have HX4 := Lib.hid hx
  have HRO4 := Lib.hid hro4
  have HV6 := Lib.hid (HV5.out.below hb6)
  have HB7 := Lib.hid (HB6.out.trans (hb6.mono HB6.out.size))
  have H7 := Lib.hid (H6.out.trans (hb6.mono H6.out.size))
  have H74 := Lib.hid hb6.size
  clear hx hro4 hb6 hnx HWR HV5 HRO3 HB6 H6
  go_wp2_with fail
  obtain ⟨k5, hk5⟩ : ∃ W, k4.alloc (.cells #[.int .i64 0, .int .i64 0, .int .i64 0, .int .i64 0, .string ⟨#[]⟩, .string ⟨#[]⟩, .slice Ax nx cx] 38) = W := ⟨_, rfl⟩
  obtain ⟨xb, hxb⟩ : ∃ xb, k4.heap.size = xb := ⟨_, rfl⟩
  have h8 : Below k4.heap.size k4 k5 := by rw [← hk5]; exact below_new _ _
  have rx : Rt k5 xb 38 [.int .i64 0, .int .i64 0, .int .i64 0, .int .i64 0, .string ⟨#[]⟩, .string ⟨#[]⟩, .slice Ax nx cx] := by rw [← hk5]; exact Rt.new_at _ _ _ _ hxb
  rw [hk5, hxb]
  have h25 : Below k2.heap.size k2 k5 := H7.out.trans (h8.mono H7.out.size)
  have hk := HK2.out.others h25
  have hv7 := HV6.out.below h8
  have hx7 := HX4.out.below h8
  obtain ⟨N2, hN2⟩ : ∃ N : Nat → Prop, (fun j => j < B ∨ (k2.heap.size ≤ j ∧ j < k5.heap.size)) = N := ⟨_, rfl⟩
  have hN2i : ∀ j, j < B → N2 j := fun j hj => by rw [← hN2]; exact .inl hj
  have hN2k : ∀ j, k2.heap.size ≤ j → j < k5.heap.size → N2 j := fun j h1 h2 => by rw [← hN2]; exact .inr ⟨h1, h2⟩
  rw [hN2] at hk
  have hN2x : N2 xb := hN2k xb (by rw [← hxb]; exact H7.out.size) rx.lt
  have hEl : Ens N2 k5 (.slice A1 m c1) l := (Ens.of_own hv7).mono fun j hj _ => hN2i j (HAL.out j hj)
  have hExl : Ens N2 k5 (.slice Ax nx cx) lg := hx7.mono fun j hj hjl => hN2k j (by
    rcases hj with hj | hj
    · exact hj.elim
    · have e1 := HZ3.out; have e2 := HSB.out; omega) hjl
  have hwr := write_kk hk (by decide) A1 m c1 l hEl (by rw [HM.out]; omega) HLD.out HIB.out _ _ HR.out
  have hB8 := HB7.out.trans (h8.mono HB7.out.size)
  obtain ⟨x6, hx6⟩ : ∃ x, writeF zKst none l = x := ⟨_, rfl⟩
  rw [hx6] at hwr
  have HW := Lib.hid hwr
  have HRX := Lib.hid rx
  have HEX := Lib.hid hExl
  have HB8 := Lib.hid hB8
  have HBK5 := Lib.hid (show B ≤ k5.heap.size from Nat.le_trans HBK.out h25.size)
  have HN2 := Lib.hid hN2i
  clear hk5 hxb h8 rx h25 hk hv7 hx7 hN2 hN2i hN2k hEl hExl hwr hB8 hx6 HK2 HV6 HX4 HRO4 HB7 H7 x4 HAL HLD HIB HR hobk4
  refine HW.out.mono ?_
  rintro e k6 ⟨rfl, hk6, hs6⟩
  have HK6 := Lib.hid hk6
  have HRX6 := Lib.hid (hs6.rt HRX.out hN2x)
  have HEX6 := Lib.hid (hs6.ens HEX.out)
  have HB9 := Lib.hid (HB8.out.trans (hs6.below HB8.out.size (fun j hj => HN2.out j (Nat.lt_of_lt_of_le hj HWB.out))))
  have HBQ := Lib.hid (show B ≤ k6.heap.size from Nat.le_trans HBK5.out (Std.size hs6))
  clear hk6 hs6 HW HRX HEX HB8
  go_wp2_with fail
  have hst6 := state_kk HK6.out
  simp only [zSnp, show ByteArray.empty = (⟨#[]⟩ : ByteArray) from rfl] at hst6
  have HST6 := Lib.hid hst6
  clear hst6
  refine HST6.out.mono ?_
  rintro e k7 ⟨v9, rfl, hv9, hb9⟩
  obtain ⟨At, ct, rfl⟩ := hv9.slice
  rw [HNX.out] at hv9 ⊢
  have HV9 := Lib.hid hv9
  have HB10 := Lib.hid hb9
  clear hv9 hb9 HST6
  go_wp2_with fail
  obtain ⟨k8, hk8⟩ : ∃ W, k7.alloc (.cells #[.int .i64 0, .int .i64 0, .int .i64 0, .int .i64 0, .string ⟨#[]⟩, .string ⟨#[]⟩, .slice At nx ct] 52) = W := ⟨_, rfl⟩
  obtain ⟨tb, htb⟩ : ∃ tb, k7.heap.size = tb := ⟨_, rfl⟩
  rw [hk8, htb]
  have h8 : Below k7.heap.size k7 k8 := by rw [← hk8]; exact below_new _ _
  have rt : Rt k8 tb 52 [.int .i64 0, .int .i64 0, .int .i64 0, .int .i64 0, .string ⟨#[]⟩, .string ⟨#[]⟩, .slice At nx ct] := by rw [← hk8]; exact Rt.new_at _ _ _ _ htb
  obtain ⟨q, hq⟩ : ∃ q, k6.heap.size = q := ⟨_, rfl⟩
  have h68 : Below k6.heap.size k6 k8 := HB10.out.trans (h8.mono HB10.out.size)
  have hk := HK6.out.others h68
  have hv := HV9.out.below h8
  have hlt9 : ∀ j, (Value.slice At nx ct).ownBlock = some j → q ≤ j ∧ j < tb := fun j hj => by rw [← hq, ← htb]; exact HV9.out.lt j hj
  have hBq : B ≤ q := by rw [← hq]; exact HBQ.out
  rw [hq] at hk hv h68
  obtain ⟨N3, hN3⟩ : ∃ N : Nat → Prop, (fun j => N2 j ∨ (q ≤ j ∧ j < k8.heap.size)) = N := ⟨_, rfl⟩
  have hN3k : ∀ j, q ≤ j → j < k8.heap.size → N3 j := fun j h1 h2 => by rw [← hN3]; exact .inr ⟨h1, h2⟩
  rw [hN3] at hk
  have hn200 : nx ≤ 200 := by have := HK6.out.ok.few; rw [← HNX.out]; exact this
  have HQ := Lib.hid hq
  have HLT := Lib.hid hlt9
  have HT8 := Lib.hid rt.lt
  have HN3 := Lib.hid hN3k
  have HKA := Lib.hid hk
  have HVA := Lib.hid hv
  have HRA := Lib.hid rt
  have H68 := Lib.hid h68
  clear hk8 htb h8 rt hq h68 hk hv hlt9 hN3 hN3k HK6 HV9 HB10
  go_loopw [10] (fun i wr => ∃ (j : Nat) (Lx : List Ent), i = .int .i64 (j : Int) ∧ j ≤ nx ∧ Lx.length = nx ∧ OwnEn q (.slice At nx ct) Lx wr ∧ Rt wr tb 52 [.int .i64 0, .int .i64 0, .int .i64 0, .int .i64 0, .string ⟨#[]⟩, .string ⟨#[]⟩, .slice At nx ct] ∧ KK N3 wr g B ⟨0, 0, zSnp, lg⟩ x6 (0 + 2) ∧ Below q k6 wr) (fun i _ => nx - (intOf i).toNat)
  case atStart => exact ⟨0, lg, rfl, Nat.zero_le _, HNX.out, HVA.out, HRA.out, HKA.out, H68.out⟩
  case round =>
    obtain ⟨j, Lx, rfl, hj, hlx, hv, hr, hk, hb⟩ := hrel
    have y6 := hr.cell (j := 6) rfl
    have HV := Lib.hid hv
    have HRT := Lib.hid hr
    have HK := Lib.hid hk
    have HB := Lib.hid hb
    have HLX := Lib.hid hlx
    clear hv hr hk hb hlx HVA HRA HKA H68
    by_cases hlt : j < nx
    · have hji : (j : Int) < nx := by omega
      obtain ⟨ga, rfl, hga, hgw, _, hcc⟩ := HV.out.addr (by rw [HLX.out]; omega)
      rw [HLX.out] at hcc
      have hjl : j < Lx.length := by rw [HLX.out]; exact hlt
      have hst := HV.out.set_term hjl (-7)
      have hgt := HLT.out ga rfl
      have hset := HK.out.set (p := ⟨ga, j * 4 + 1, none⟩) (.int .i64 (-7)) (HN3.out ga hgt.1 (Nat.lt_trans hgt.2 HT8.out)) (by intro e; have h9 := HST.out; simp only at e; omega) rfl
      have hbs := HB.out.setCell (p := ⟨ga, j * 4 + 1, none⟩) hgt.1 (.int .i64 (-7))
      have hro := HRT.out.other (j * 4 + 1) (.int .i64 (-7)) (g' := ga) (by omega)
      have hcl := (HV.out.cells).1 (j * 4 + 1) (by omega)
      have hfz := (HV.out.cells).2 (j * 4 + 1)
      obtain ⟨v1, hv1⟩ := Option.isSome_iff_exists.1 hcl
      have HSE := Lib.hid hst
      have HKE := Lib.hid hset
      have HBE := Lib.hid hbs
      have HRE := Lib.hid hro
      have HLE := Lib.hid (show (Lx.set j ((Lx[j]'hjl).term (-7))).length = nx by rw [List.length_set]; exact HLX.out)
      clear hst hset hbs hro hcl hgt
      go_wp2_with fail
      go_roundw
      case rel => exact ⟨j + 1, _, by go_num, by omega, HLE.out, HSE.out, HRE.out, HKE.out, HBE.out⟩
      case measure => simp [intOf]; omega
    · have hjn : ¬ (j : Int) < nx := by omega
      have hrx := HRX6.out.under (show Below q k6 wr from HB.out) (by rw [← HQ.out]; exact HRX6.out.lt)
      have hex := HEX6.out.below (by rw [HQ.out]; exact HB.out)
      have hqz : q ≤ wr.heap.size := by rw [← HQ.out]; exact HB.out.size
      have hxl := hrx.lt
      obtain ⟨zs, hzs⟩ : ∃ zs, wr.heap.size = zs := ⟨_, rfl⟩
      rw [hzs] at hxl hqz
      have HZS := Lib.hid hzs
      have HEX := Lib.hid hex
      have z0 := hrx.cell (j := 0) rfl
      have z1 := hrx.cell (j := 1) rfl
      have z2 := hrx.cell (j := 2) rfl
      have z3 := hrx.cell (j := 3) rfl
      have z4 := hrx.cell (j := 4) rfl
      have z5 := hrx.cell (j := 5) rfl
      have z16 := hrx.cell (j := 6) rfl
      clear hex hzs hrx
      go_wp2_with fail
      clear HV HRT
      have hS0 : Below zs wr wr.drew := (Below.refl _ _).drew
      refine wp_region_noPanic ?_
      refine wp_region_held_drew (S := fun W => Below zs wr W) (by kernel_rfl) ?_ (fun hHeld => ?_)
      · exact hS0
      generalize wr.drew = wa at *
      refine wpAnyH_take (i := 0) (oi := { dst := some 51, op := Op.move (Operand.tmp 5), type := 28, pos := "wide.go:127", after := #[], guard := none }) (v := .pointer (some ⟨g, 0, none⟩)) rfl (by kernel_rfl) (by kernel_rfl) (by kernel_rfl) (fun _ _ _ h => h) (Or.inl ⟨by rfl, fun w hSw => ?_⟩) (by assumption) ?_
      · (try dsimp only at hSw)
        go_simp
      try simp only [Act.put, List.setIfInBounds_toArray, List.set_cons_zero, List.set_cons_succ]
      refine wpAnyH_take (i := 3) (oi := { dst := some 54, op := Op.load 38 (Operand.tmp 8), type := 38, pos := "wide.go:127", after := #[], guard := none }) (v := .agg #[.int .i64 0, .int .i64 0, .int .i64 0, .int .i64 0, .string ⟨#[]⟩, .string ⟨#[]⟩, .slice Ax nx cx]) rfl (by kernel_rfl) (by kernel_rfl) (by kernel_rfl) (fun _ _ _ h => h) (Or.inl ⟨by rfl, fun w hSw => ?_⟩) (by assumption) ?_
      · (try dsimp only at hSw)
        have q0 := (hSw.cell (p := ⟨xb, 0, none⟩) hxl).trans z0
        have q1 := (hSw.cell (p := ⟨xb, 1, none⟩) hxl).trans z1
        have q2 := (hSw.cell (p := ⟨xb, 2, none⟩) hxl).trans z2
        have q3 := (hSw.cell (p := ⟨xb, 3, none⟩) hxl).trans z3
        have q4 := (hSw.cell (p := ⟨xb, 4, none⟩) hxl).trans z4
        have q5 := (hSw.cell (p := ⟨xb, 5, none⟩) hxl).trans z5
        have q6 := (hSw.cell (p := ⟨xb, 6, none⟩) hxl).trans z16
        go_simp
      try simp only [Act.put, List.setIfInBounds_toArray, List.set_cons_zero, List.set_cons_succ]
      refine wpAnyH_ready (rs := [1]) (by kernel_rfl) (by simp) ?_
      refine AllReadyH.cons (o := { dst := some 52, op := Op.call { callee := Callee.value (Operand.func 16), args := #[Operand.tmp 51], argTypes := #[28] }, type := 52, pos := "wide.go:127", after := #[{ on := 0, ground := Ground.data }], guard := none }) rfl (fun K hK => ?_) AllReadyH.nil
      go_simp
      have hst6 := state_kk (HK.out.others (show Below wr.heap.size wr wa by rw [HZS.out]; exact hHeld))
      simp only [zSnp, show ByteArray.empty = (⟨#[]⟩ : ByteArray) from rfl] at hst6
      go_at_call 16
      refine hst6.mono ?_
      rintro e wb ⟨v7, rfl, hv, hb⟩
      obtain ⟨Av, cv, rfl⟩ := hv.slice
      rw [HNX.out] at hv ⊢
      have hSb : Below zs wr wb := hHeld.trans (hb.mono (by rw [← HZS.out]; exact hHeld.size))
      have HVB := Lib.hid hv
      clear hv hb hst6
      refine hK.out _ _ ?_ (fun hHeld => ?_)
      · exact hSb
      clear hK K
      try simp only [Act.put, List.setIfInBounds_toArray, List.set_cons_zero, List.set_cons_succ]
      refine wpAnyH_ready (rs := [2]) (by kernel_rfl) (by simp) ?_
      refine AllReadyH.cons (o := { dst := some 53, op := Op.call { callee := Callee.value (Operand.func 15), args := #[Operand.tmp 52], argTypes := #[52] }, type := 38, pos := "wide.go:127", after := #[{ on := 1, ground := Ground.data }, { on := 1, ground := Ground.chain }], guard := none }) rfl (fun K hK => ?_) AllReadyH.nil
      go_simp
      go_at_call 15
      refine (back_any 0 0 0 0 ⟨#[]⟩ ⟨#[]⟩ Av nx cv _).mono ?_
      rintro e wc ⟨rfl, h⟩
      have hSc : Below zs wr wc := hSb.trans (h.mono (by rw [← HZS.out]; exact hSb.size))
      have HVC := Lib.hid (HVB.out.below h)
      clear h HVB
      refine hK.out _ _ ?_ (fun hHeld => ?_)
      · exact hSc
      clear hK K
      try simp only [Act.put, List.setIfInBounds_toArray, List.set_cons_zero, List.set_cons_succ]
      refine wpAnyH_ready (rs := [4]) (by kernel_rfl) (by simp) ?_
      refine AllReadyH.cons (o := { dst := some 55, op := Op.call { callee := Callee.value (Operand.func 14), args := #[Operand.tmp 53, Operand.tmp 54], argTypes := #[38, 38] }, type := 4, pos := "wide.go:127", after := #[{ on := 2, ground := Ground.data }, { on := 3, ground := Ground.data }, { on := 2, ground := Ground.chain }], guard := none }) rfl (fun K hK => ?_) AllReadyH.nil
      go_simp
      have heq := reqState_any _ _ Av Ax nx cv nx cx 0 0 0 0 ⟨#[]⟩ ⟨#[]⟩ lg 0 0 0 0 ⟨#[]⟩ ⟨#[]⟩ lg wc (Ens.of_own HVC.out) (HEX.out.below (by rw [HZS.out]; exact hSc)) (by omega)
      rw [eqSt11_self] at heq
      go_at_call 14
      refine heq.mono ?_
      rintro e wd ⟨rfl, h⟩
      have hSd : Below zs wr wd := hSc.trans (h.mono (by rw [← HZS.out]; exact hSc.size))
      clear h HVC heq
      refine hK.out _ _ ?_ (fun hHeld => ?_)
      · exact hSd
      clear hK K
      try simp only [Act.put, List.setIfInBounds_toArray, List.set_cons_zero, List.set_cons_succ]
      refine wpAnyH_ready (rs := [5]) (by kernel_rfl) (by simp) ?_
      refine AllReadyH.cons (o := { dst := some 2, op := Op.assign (Operand.tmp 55), type := 4, pos := "wide.go:127", after := #[{ on := 4, ground := Ground.data }, { on := 4, ground := Ground.chain }, { on := 0, ground := Ground.phase }, { on := 1, ground := Ground.phase }, { on := 2, ground := Ground.phase }, { on := 3, ground := Ground.phase }, { on := 4, ground := Ground.phase }], guard := none }) rfl (fun K hK => ?_) AllReadyH.nil
      go_simp
      refine hK.out _ _ ?_ (fun hHeld => ?_)
      · exact hSd
      clear hK K
      try simp only [Act.put, List.setIfInBounds_toArray, List.set_cons_zero, List.set_cons_succ]
      refine wpAnyH_done (by kernel_rfl) ?_ _
      refine NoPanic.normal ?_
      go_wp2_with fail
      go_ret
      exact ⟨rfl, HB9.out.trans ((HB.out.trans (hSd.mono hqz)).mono (by rw [← HQ.out]; exact HB9.out.size))⟩

set_option maxRecDepth 100000 in
theorem lifted (os : Os) (started : os.Started) (H : Type) (enc : TypeId × Value → H) :
    ReturnsInHanded {} Tryd.checked os 4 .any (fun w args => (Rows.keepOwnSpec.pre enc Tryd.prog Tryd.f4 [] false w args ∧ laidMetH Tryd.prog laidS w) ∧ sizedMet enc Tryd.prog Tryd.f4 (OpenSpec.ofChange Rows.keepOwnSpec) false w args) (Rows.keepOwnSpec.post enc Tryd.prog Tryd.f4 false true false false) := by
  refine returnsInHanded_of_change_and (C := Tryd.checked) (X := fun w _ => laidMetH Tryd.prog laidS w) (fun _ _ _ hh h => h.of_heap hh) own started (by kernel_rfl) Tryd.func4
    (ChangeSpec.witness_at (enc := enc) (C := Tryd.checked) (os := os) (X := fun w _ => laidMetH Tryd.prog laidS w) false (laidWorld os) #[.slice none 0 0] 8 rfl (by kernel_rfl) (by kernel_rfl) (by kernel_rfl) (by kernel_rfl) (by kernel_rfl) (laid_met os _)) ?_
  intro W base args ds gs before hval0 hW hcnd _ hL _
  have hT := tbl_of_laid hL
  have hval : ∀ (j : Nat) t v, Tryd.f4.params[j]? = some t → args[j]? = some v → Value.okWide Tryd.prog W .any base t v := hval0
  have hW' := hW
  obtain ⟨p, q, hA0, hV, rfl, hfz, hnd⟩ := hW
  have hA : DataW.TrodAll enc Tryd.prog W 0 (fun _ => true) true Tryd.f4.params.toList args.toList ds p := hA0
  have hA1 := hA
  rw [Tryd.params4] at hA hval
  obtain ⟨v0, vs0, d0, ds0, p0, q0, hargs, rfl, rfl, h0, r0⟩ := trodAll_cons hA
  obtain ⟨rfl, rfl, rfl⟩ := trodAll_nil r0
  obtain rfl : args = #[v0] := by cases args; simp_all
  obtain ⟨rfl, rfl⟩ := trodVars_none hV
  obtain ⟨A0, c0, a0, rfl, w0, x0⟩ := open_ents (hval 0 22 v0 rfl rfl) h0
  clear hA0 hval0
  simp only [List.append_nil] at hW'
  try simp only [List.append_nil] at hA1
  refine (walk W A0 c0 a0 w0 x0 hT).mono fun e W' ⟨he, hg⟩ => ?_
  subst he
  exact ⟨_, rfl, law_end Tryd.laidOut (by kernel_rfl) hW' hA1 hg rfl rfl rfl (trodAll_mk1 (shut_bool Tryd.underlying4 _))⟩

theorem over : Rows.keepOwnRow.holds Tryd.pinned (OpenSpec.ofChange Rows.keepOwnSpec) :=
  OpenClaim.holds_of_wide 4 Tryd.f4 rfl rfl rfl rfl rfl rfl rfl ⟨rfl, rfl, rfl, rfl, rfl⟩ rfl rfl rfl rfl rfl (by kernel_rfl) Tryd.func4 (by kernel_rfl)
    (of_decide_eq_true (by kernel_rfl)) (by unfold Func.isWrapper; first | (rw [if_pos (by decide +kernel)]; kernel_rfl) | (rw [if_neg (by decide +kernel)]; exact ⟨rfl, rfl⟩))
    (fun os started H enc _ => lifted os started H enc)


/-- the statement: the card, closed by the builder's one call -/
theorem proved : Rows.KeepOwnCardSaid :=
  Claim7.holds_tied_plain_at .later [] [.data] true Rows.keepOwnCard.stood.harness Rows.keepOwnCard.stood.looks
    over (fun _ h => by cases h) (by kernel_rfl) (fun _ h => by cases h) keepOwn_row_tie rfl ⟨rfl, rfl⟩ (by kernel_rfl) rfl
    (fun f fn hf hfn => by
      obtain rfl : f = 4 := Option.some.inj ((show Tryd.prog.funcNamed "packhorse/packhorselaw11.KeepOwn" = some 4 by kernel_rfl).symm.trans hf) |>.symm
      obtain rfl : fn = Tryd.f4 := (Option.some.inj (Tryd.func4.symm.trans hfn)).symm
      refine ⟨by kernel_rfl, fun j t ht => ?_⟩
      have h := List.all_eq_true.1 (show (Tryd.f4.params.toList.all fun t => !Tryd.prog.wantsStandIn t) = true by kernel_rfl) t (List.mem_of_getElem? (by simpa using ht))
      exact (show Tryd.prog.wantsStandIn t = false by simpa using h))
    (by kernel_rfl)
#print axioms proved
end Go.Proofs.YtbiecoifeeikpaaDoor.keepOwn
