/-
  Contracts of the program's functions, of the reference's, and plain lemmas on what they answer (part 7 of 7).
  Each lemma names its conditions.
-/
import Derived.Test.YtbiecoifeeikpaaDoorBun5
import Derived.Test.YtbiecoifeeikpaaDoorBun1
import Derived.Test.YtbiecoifeeikpaaDoorBun3
import Derived.Test.YtbiecoifeeikpaaDoorBun4
/-
  The laws' Cut of an operation of stage 11.
  The conditions: the row of entries is no longer than a slice may be.
-/
namespace Go.Proofs.YtbiecoifeeikpaaDoor
open Go.RowKit Go.Deep
set_option maxRecDepth 100000

def cutE11 (e : Ent) : Ent := ⟨e.ix, e.et, e.kd, cutS e.data 100⟩
def cut11 (L : List Ent) : List Ent := (L.take 10).map cutE11
theorem cut11_len (L : List Ent) : (cut11 L).length = min 10 L.length := by simp [cut11]
set_option maxHeartbeats 2000000 in
theorem lcut11_any (N : Nat → Prop) (kd on ht hv ix st : Int) (cf dt : ByteArray) (A : Option Addr) (n c : Nat) (L : List Ent) (w : World) (hE : Ens N w (.slice A n c) L) :
    Calls Tryd.prog 8 #[.agg #[.int .i64 kd, .int .i64 on, .int .i64 ht, .int .i64 hv, .slice A n c, .int .i64 ix, .int .i64 st, .string cf, .string dt]] w
      (fun e w' => ∃ v, e = .returned (.agg #[.int .i64 kd, .int .i64 on, .int .i64 ht, .int .i64 hv, v, .int .i64 ix, .int .i64 st, .string (cutS cf 60), .string (cutS dt 200)]) ∧ OwnEn w.heap.size v (cut11 L) w' ∧ Below w.heap.size w w') := by
  have hnc : n ≤ c := hE.len.2
  have HNL := Lib.hid hE.len.1
  have HE := Lib.hid hE
  clear hE
  obtain ⟨b, hb⟩ : ∃ b, w.heap.size = b := ⟨_, rfl⟩
  have HB := Lib.hid hb
  go_enter Tryd.func8, Tryd.ntmps8
  rw [hb]
  go_wp2_with fail
  obtain ⟨W1, hW1⟩ : ∃ W, w.alloc (.cells #[.int .i64 kd, .int .i64 on, .int .i64 ht, .int .i64 hv, .slice A n c, .int .i64 ix, .int .i64 st, .string cf, .string dt] 35) = W := ⟨_, rfl⟩
  rw [hW1]
  obtain ⟨W, hW⟩ : ∃ W, W1.alloc (.cells #[.int .i64 0, .int .i64 0, .int .i64 0, .int .i64 0, .slice none 0 0, .int .i64 0, .int .i64 0, .string ⟨#[]⟩, .string ⟨#[]⟩] 35) = W := ⟨_, rfl⟩
  rw [hW]
  have z1 : W1.heap.size = b + 1 := by rw [← hW1, World.size_alloc, hb]
  have b1 : Below b w W1 := by rw [← hW1, ← hb]; exact below_new _ _
  have b2 : Below (b + 1) W1 W := by rw [← hW, ← z1]; exact below_new _ _
  have rs : Rt W b 35 [.int .i64 kd, .int .i64 on, .int .i64 ht, .int .i64 hv, .slice A n c, .int .i64 ix, .int .i64 st, .string cf, .string dt] := (show Rt W1 b _ _ by rw [← hW1]; exact Rt.new_at w b _ _ hb).under b2 (by omega)
  have rr : Rt W (b + 1) 35 [.int .i64 0, .int .i64 0, .int .i64 0, .int .i64 0, .slice none 0 0, .int .i64 0, .int .i64 0, .string ⟨#[]⟩, .string ⟨#[]⟩] := by rw [← hW]; exact Rt.new_at W1 (b + 1) _ _ z1
  have hBW : Below b w W := b1.trans (b2.mono (by omega))
  have HRS := Lib.hid rs
  have HRR := Lib.hid rr
  have HBW := Lib.hid hBW
  clear rs rr hBW b1 b2 z1 hW1 hW hb
  go_loopw [3, 4] (fun v i wr => ∃ k : Nat, k ≤ 10 ∧ k ≤ L.length ∧ i = .int .i64 (k : Int) ∧ OwnEn (b + 2) v ((L.take k).map cutE11) wr ∧ Rt wr b 35 [.int .i64 kd, .int .i64 on, .int .i64 ht, .int .i64 hv, .slice A n c, .int .i64 ix, .int .i64 st, .string cf, .string dt] ∧ Rt wr (b + 1) 35 [.int .i64 0, .int .i64 0, .int .i64 0, .int .i64 0, .slice none 0 0, .int .i64 0, .int .i64 0, .string ⟨#[]⟩, .string ⟨#[]⟩] ∧ Below b w wr) (fun _ i _ => 10 - (intOf i).toNat)
  case atStart => exact ⟨0, by decide, Nat.zero_le _, rfl, OwnEn.nil _ _, HRS.out, HRR.out, HBW.out⟩
  case round =>
    obtain ⟨k, hk, hkl, rfl, hv, hs, hr, hBw⟩ := hrel
    obtain ⟨Al, cl, rfl⟩ := hv.slice
    have x4 := hs.cell (j := 4) rfl
    have x4f := hs.frz 4
    have HV := Lib.hid hv
    have HS := Lib.hid hs
    have HR := Lib.hid hr
    have HBw := Lib.hid hBw
    clear hv hs hr hBw HRS HRR HBW
    obtain ⟨m, hm⟩ : ∃ m, ((L.take k).map cutE11).length = m := ⟨_, rfl⟩
    rw [hm]
    have HM := Lib.hid hm
    clear hm
    by_cases hlt : k < n
    · by_cases h10 : k < 10
      · have hki : (k : Int) < n := by omega
        have hk10 : (k : Int) < 10 := by omega
        have hkL : k < L.length := by rw [← HNL.out]; exact hlt
        obtain ⟨⟨ex, et, ek, ed⟩, hej⟩ : ∃ e, L[k] = e := ⟨_, rfl⟩
        obtain ⟨g, o, rfl, hg, c0, c1, c2, c3⟩ := (HE.out.below (by rw [HB.out]; exact HBw.out)).four k hkL hej
        have HEJ := Lib.hid hej
        clear hej
        go_wp2_with fail
        refine (lcut_to ed (cutS ed 100) 100 _ (by decide) rfl).mono ?_
        rintro e wz ⟨rfl, hwz⟩
        subst hwz
        obtain ⟨cs, hcs⟩ : ∃ cs, cutS ed 100 = cs := ⟨_, rfl⟩
        rw [hcs]
        rw [HM.out] at HV
        have hb2 := below_two wr (.cells #[.int .i64 ex, .int .i64 et, .int .i64 ek, .string cs] 41) (.cells #[.int .i64 ex, .int .i64 et, .int .i64 ek, .string cs] 41)
        have hown := HV.out.below hb2
        have hone : Ens (fun j => j = wr.heap.size + 1) ((wr.alloc (.cells #[.int .i64 ex, .int .i64 et, .int .i64 ek, .string cs] 41)).alloc (.cells #[.int .i64 ex, .int .i64 et, .int .i64 ek, .string cs] 41)) (.slice (some ⟨wr.heap.size + 1, 0, none⟩) 1 1) [⟨ex, et, ek, cs⟩] := en_one (Rt.new_at _ _ _ _ (World.size_alloc _ _)) rfl
        have HS2 := Lib.hid (HS.out.below hb2)
        have HR2 := Lib.hid (HR.out.below hb2)
        have HOW := Lib.hid hown
        have HON := Lib.hid hone
        have HB2 := Lib.hid (HBw.out.trans (hb2.mono (by rw [← HB.out]; exact HBw.out.size)))
        have hsz : b + 2 ≤ ((wr.alloc (.cells #[.int .i64 ex, .int .i64 et, .int .i64 ek, .string cs] 41)).alloc (.cells #[.int .i64 ex, .int .i64 et, .int .i64 ek, .string cs] 41)).heap.size := Nat.le_trans (by have := HR.out.lt; omega) hb2.size
        have HSZ := Lib.hid hsz
        have HCS := Lib.hid hcs
        clear hb2 hown hone hsz hcs HS HR HBw HV c0 c1 c2 c3
        go_wp2_with (at_builtin; refine wpList_append_en rfl _ _ rfl (b + 2) _ _ _ ((L.take k).map cutE11) [⟨ex, et, ek, cs⟩] rfl HOW.out rfl HON.out ?x1 HSZ.out ?_)
        case x1 => rw [HM.out]; have := HM.out; rw [List.length_map, List.length_take] at this; show m + 1 ≤ _; omega
        intro v2 w2 hv2 hb2 _
        have HS3 := Lib.hid (HS2.out.under hb2 (by omega))
        have HR3 := Lib.hid (HR2.out.under hb2 (by omega))
        have HV3 := Lib.hid (show OwnEn (b + 2) v2 ((L.take (k + 1)).map cutE11) w2 by
          rw [List.take_succ_eq_append_getElem hkL, List.map_append, HEJ.out]
          simp only [List.map_cons, List.map_nil, cutE11, HCS.out]
          rw [← List.map_take] at hv2; exact hv2)
        have HB3 := Lib.hid (HB2.out.trans (hb2.mono (by omega)))
        clear hv2 hb2 HS2 HR2 HOW HON HB2
        go_wp2
        go_roundw
        case rel => exact ⟨k + 1, by omega, by omega, by go_num, HV3.out, HS3.out, HR3.out, HB3.out⟩
        case measure => simp [intOf]; omega
      · have hk10 : ¬ (k : Int) < 10 := by omega
        have hki : (k : Int) < n := by omega
        have hcut : cut11 L = (L.take k).map cutE11 := by unfold cut11; rw [show k = 10 by omega]
        go_wp2_with fail
        rw [HM.out] at HV
        rw [← hcut] at HV
        clear hcut
        obtain ⟨w1, hw1⟩ : ∃ w1, wr.setCell ⟨b, 4, none⟩ (.slice Al m cl) = w1 := ⟨_, rfl⟩
        rw [hw1]
        have rs1 : Rt w1 b 35 [.int .i64 kd, .int .i64 on, .int .i64 ht, .int .i64 hv, .slice Al m cl, .int .i64 ix, .int .i64 st, .string cf, .string dt] := by rw [← hw1]; exact HS.out.set 4 (.slice Al m cl)
        have rr1 : Rt w1 (b + 1) 35 [.int .i64 0, .int .i64 0, .int .i64 0, .int .i64 0, .slice none 0 0, .int .i64 0, .int .i64 0, .string ⟨#[]⟩, .string ⟨#[]⟩] := by rw [← hw1]; exact HR.out.other 4 _ (by omega)
        have hb1 : Below b w w1 := by rw [← hw1]; exact HBw.out.setCell (p := ⟨b, 4, none⟩) (Nat.le_refl b) _
        have hv1 : OwnEn (b + 2) (.slice Al m cl) (cut11 L) w1 := by rw [← hw1]; exact HV.out.off (S := fun i => i = b) ((Off.refl _ wr).set (.inl rfl)) (fun i hi e => by have := (HV.out.lt i hi).1; omega)
        have hd0 : Below w1.heap.size w1 w1.drew := (Below.refl _ _).drew
        obtain ⟨wd, hwd⟩ : ∃ wd, w1.drew = wd := ⟨_, rfl⟩
        rw [hwd] at hd0
        have HS1 := Lib.hid (rs1.below hd0)
        have HR1 := Lib.hid (rr1.below hd0)
        have HV1 := Lib.hid (hv1.below hd0)
        have HB1 := Lib.hid (hb1.trans (hd0.mono (by rw [← HB.out]; exact hb1.size)))
        clear rs1 rr1 hb1 hv1 hd0 HS HR HBw HV hw1
        obtain ⟨cf2, hcf⟩ : ∃ x, cutS cf 60 = x := ⟨_, rfl⟩
        obtain ⟨dt2, hdt⟩ : ∃ x, cutS dt 200 = x := ⟨_, rfl⟩
        have HC := Lib.hid hcf
        have HD := Lib.hid hdt
        clear hcf hdt
        have y7 := HS1.out.cell (j := 7) rfl
        have y8 := HS1.out.cell (j := 8) rfl
        have f7 := HS1.out.frz 7
        have f8 := HS1.out.frz 8
        have s8 := (HS1.out.set 7 (.string cf2)).frz 8
        refine wp_region_noPanic ?_
        refine region_g 10 (fun W => W = wd) (by kernel_rfl) ?_
        rw [hwd]
        have hHeld : (fun W : World => W = wd) wd := rfl
        refine tkL 0 (.pointer (some ⟨b, 5, none⟩)) rfl (fun w hSw => ?_) ?_
        · (try dsimp only at hSw)
          obtain rfl : w = wd := hSw
          go_simp
        try simp only [Act.put, List.setIfInBounds_toArray, List.set_cons_zero, List.set_cons_succ]
        refine tkL 1 (.pointer (some ⟨b, 7, none⟩)) rfl (fun w hSw => ?_) ?_
        · (try dsimp only at hSw)
          obtain rfl : w = wd := hSw
          go_simp
        try simp only [Act.put, List.setIfInBounds_toArray, List.set_cons_zero, List.set_cons_succ]
        refine tkL 2 (.string cf) rfl (fun w hSw => ?_) ?_
        · (try dsimp only at hSw)
          obtain rfl : w = wd := hSw
          go_simp
        try simp only [Act.put, List.setIfInBounds_toArray, List.set_cons_zero, List.set_cons_succ]
        refine tkL 4 (.pointer (some ⟨b, 5, none⟩)) rfl (fun w hSw => ?_) ?_
        · (try dsimp only at hSw)
          obtain rfl : w = wd := hSw
          go_simp
        try simp only [Act.put, List.setIfInBounds_toArray, List.set_cons_zero, List.set_cons_succ]
        refine tkL 5 (.pointer (some ⟨b, 8, none⟩)) rfl (fun w hSw => ?_) ?_
        · (try dsimp only at hSw)
          obtain rfl : w = wd := hSw
          go_simp
        try simp only [Act.put, List.setIfInBounds_toArray, List.set_cons_zero, List.set_cons_succ]
        refine tkL 6 (.string dt) rfl (fun w hSw => ?_) ?_
        · (try dsimp only at hSw)
          obtain rfl : w = wd := hSw
          go_simp
        try simp only [Act.put, List.setIfInBounds_toArray, List.set_cons_zero, List.set_cons_succ]
        refine stM 3 rfl (fun K hK => ?_)
        go_simp
        go_at_call 21
        refine (lcut_to cf cf2 60 _ (by decide) HC.out).mono ?_
        rintro e wz ⟨rfl, rfl⟩
        clear hHeld
        have hHeld : (fun W : World => W = wd) _ := rfl
        refine hK.out _ _ (.inr hHeld) ?_
        clear hK K
        try simp only [Act.put, List.setIfInBounds_toArray, List.set_cons_zero, List.set_cons_succ]
        refine stM2 7 8 rfl rfl (fun K hK => ?_) (fun K hK => ?_)
        · go_simp
          go_at_call 21
          refine (lcut_to dt dt2 200 _ (by decide) HD.out).mono ?_
          rintro e wz ⟨rfl, rfl⟩
          clear hHeld
          have hHeld : (fun W : World => W = wd) _ := rfl
          refine hK.out _ _ (.inr hHeld) ?_
          clear hK K
          try simp only [Act.put, List.setIfInBounds_toArray, List.set_cons_zero, List.set_cons_succ]
          refine stM 8 rfl (fun K hK => ?_)
          go_simp
          refine hK.out _ _ (.inr hHeld) ?_
          clear hK K
          try simp only [Act.put, List.setIfInBounds_toArray, List.set_cons_zero, List.set_cons_succ]
          refine stM 9 rfl (fun K hK => ?_)
          go_simp
          refine hK.out _ _ (.inr hHeld) ?_
          clear hK K
          try simp only [Act.put, List.setIfInBounds_toArray, List.set_cons_zero, List.set_cons_succ]
          refine stM 10 rfl (fun K hK => ?_)
          go_simp
          refine hK.out _ _ (.inl (by decide)) ?_
          clear hK K
          try simp only [Act.put, List.setIfInBounds_toArray, List.set_cons_zero, List.set_cons_succ]
          refine stM 11 rfl (fun K hK => ?_)
          go_simp
          refine hK.out _ _ (.inl (by decide)) ?_
          clear hK K
          try simp only [Act.put, List.setIfInBounds_toArray, List.set_cons_zero, List.set_cons_succ]
          refine stM 12 rfl (fun K hK => ?_)
          go_simp
          refine hK.out _ _ (.inl (by decide)) ?_
          clear hK K
          try simp only [Act.put, List.setIfInBounds_toArray, List.set_cons_zero, List.set_cons_succ]
          refine stM 13 rfl (fun K hK => ?_)
          go_simp
          refine hK.out _ _ (.inl (by decide)) ?_
          clear hK K
          try simp only [Act.put, List.setIfInBounds_toArray, List.set_cons_zero, List.set_cons_succ]
          refine anyG_done (by kernel_rfl) ?_ _
          refine NoPanic.normal ?_
          have rs2 := (HS1.out.set 7 (.string cf2)).set 8 (.string dt2)
          have rr2 := (HR1.out.other 7 (.string cf2) (g' := b) (by omega)).other 8 (.string dt2) (g' := b) (by omega)
          have hb2 := (HB1.out.setCell (p := ⟨b, 7, none⟩) (Nat.le_refl b) (.string cf2)).setCell (p := ⟨b, 8, none⟩) (Nat.le_refl b) (.string dt2)
          have hv2 : OwnEn (b + 2) (.slice Al m cl) (cut11 L) ((wd.setCell ⟨b, 7, none⟩ (.string cf2)).setCell ⟨b, 8, none⟩ (.string dt2)) := HV1.out.off (S := fun i => i = b) (((Off.refl (fun i => i = b) wd).set (g := b) (j := 7) (.inl rfl)).set (g := b) (j := 8) (.inl rfl)) (fun i hi e => by have := (HV1.out.lt i hi).1; omega)
          obtain ⟨w2, hw2⟩ : ∃ w2, (wd.setCell ⟨b, 7, none⟩ (.string cf2)).setCell ⟨b, 8, none⟩ (.string dt2) = w2 := ⟨_, rfl⟩
          rw [hw2] at rs2 rr2 hb2 hv2 ⊢
          simp only [List.set_cons_zero, List.set_cons_succ] at rs2
          clear y7 y8 f7 f8 s8 HS1 HR1 HB1 HV1 hw2 hwd
          have u0 := rs2.cell (j := 0) rfl
          have d0 := rr2.cell (j := 0) rfl
          have e0 := rr2.frz 0
          have u1 := rs2.cell (j := 1) rfl
          have d1 := rr2.cell (j := 1) rfl
          have e1 := rr2.frz 1
          have u2 := rs2.cell (j := 2) rfl
          have d2 := rr2.cell (j := 2) rfl
          have e2 := rr2.frz 2
          have u3 := rs2.cell (j := 3) rfl
          have d3 := rr2.cell (j := 3) rfl
          have e3 := rr2.frz 3
          have u4 := rs2.cell (j := 4) rfl
          have d4 := rr2.cell (j := 4) rfl
          have e4 := rr2.frz 4
          have u5 := rs2.cell (j := 5) rfl
          have d5 := rr2.cell (j := 5) rfl
          have e5 := rr2.frz 5
          have u6 := rs2.cell (j := 6) rfl
          have d6 := rr2.cell (j := 6) rfl
          have e6 := rr2.frz 6
          have u7 := rs2.cell (j := 7) rfl
          have d7 := rr2.cell (j := 7) rfl
          have e7 := rr2.frz 7
          have u8 := rs2.cell (j := 8) rfl
          have d8 := rr2.cell (j := 8) rfl
          have e8 := rr2.frz 8
          have hy9 := (((((((((rr2.set 0 (.int .i64 kd)).set 1 (.int .i64 on)).set 2 (.int .i64 ht)).set 3 (.int .i64 hv)).set 4 (.slice Al m cl)).set 5 (.int .i64 ix)).set 6 (.int .i64 st)).set 7 (.string cf2)).set 8 (.string dt2))
          have hB9 := (((((((((hb2.setCell (p := ⟨(b + 1), 0, none⟩) (Nat.le_add_right b 1) (.int .i64 kd)).setCell (p := ⟨(b + 1), 1, none⟩) (Nat.le_add_right b 1) (.int .i64 on)).setCell (p := ⟨(b + 1), 2, none⟩) (Nat.le_add_right b 1) (.int .i64 ht)).setCell (p := ⟨(b + 1), 3, none⟩) (Nat.le_add_right b 1) (.int .i64 hv)).setCell (p := ⟨(b + 1), 4, none⟩) (Nat.le_add_right b 1) (.slice Al m cl)).setCell (p := ⟨(b + 1), 5, none⟩) (Nat.le_add_right b 1) (.int .i64 ix)).setCell (p := ⟨(b + 1), 6, none⟩) (Nat.le_add_right b 1) (.int .i64 st)).setCell (p := ⟨(b + 1), 7, none⟩) (Nat.le_add_right b 1) (.string cf2)).setCell (p := ⟨(b + 1), 8, none⟩) (Nat.le_add_right b 1) (.string dt2))
          have hV9 : OwnEn (b + 2) (.slice Al m cl) (cut11 L) (((((((((w2.setCell ⟨(b + 1), 0, none⟩ (.int .i64 kd)).setCell ⟨(b + 1), 1, none⟩ (.int .i64 on)).setCell ⟨(b + 1), 2, none⟩ (.int .i64 ht)).setCell ⟨(b + 1), 3, none⟩ (.int .i64 hv)).setCell ⟨(b + 1), 4, none⟩ (.slice Al m cl)).setCell ⟨(b + 1), 5, none⟩ (.int .i64 ix)).setCell ⟨(b + 1), 6, none⟩ (.int .i64 st)).setCell ⟨(b + 1), 7, none⟩ (.string cf2)).setCell ⟨(b + 1), 8, none⟩ (.string dt2)) := hv2.off (S := fun i => i = b + 1) (((((((((((Off.refl (fun i => i = b + 1) w2).set (g := b + 1) (j := 0) (.inl rfl)).set (g := b + 1) (j := 1) (.inl rfl)).set (g := b + 1) (j := 2) (.inl rfl)).set (g := b + 1) (j := 3) (.inl rfl)).set (g := b + 1) (j := 4) (.inl rfl)).set (g := b + 1) (j := 5) (.inl rfl)).set (g := b + 1) (j := 6) (.inl rfl)).set (g := b + 1) (j := 7) (.inl rfl)).set (g := b + 1) (j := 8) (.inl rfl))) (fun i hi e => by have := (hv2.lt i hi).1; omega)
          obtain ⟨k9, hk9⟩ : ∃ k9, (((((((((w2.setCell ⟨(b + 1), 0, none⟩ (.int .i64 kd)).setCell ⟨(b + 1), 1, none⟩ (.int .i64 on)).setCell ⟨(b + 1), 2, none⟩ (.int .i64 ht)).setCell ⟨(b + 1), 3, none⟩ (.int .i64 hv)).setCell ⟨(b + 1), 4, none⟩ (.slice Al m cl)).setCell ⟨(b + 1), 5, none⟩ (.int .i64 ix)).setCell ⟨(b + 1), 6, none⟩ (.int .i64 st)).setCell ⟨(b + 1), 7, none⟩ (.string cf2)).setCell ⟨(b + 1), 8, none⟩ (.string dt2)) = k9 := ⟨_, rfl⟩
          rw [hk9] at hy9 hB9 hV9
          simp only [List.set_cons_zero, List.set_cons_succ] at hy9
          have HY9 := Lib.hid hy9
          have HB9 := Lib.hid hB9
          have HV9 := Lib.hid hV9
          clear hy9 hB9 hV9
          go_wp2_with fail
          have hy9 := HY9.out
          have g0 := hy9.cell (j := 0) rfl
          have g1 := hy9.cell (j := 1) rfl
          have g2 := hy9.cell (j := 2) rfl
          have g3 := hy9.cell (j := 3) rfl
          have g4 := hy9.cell (j := 4) rfl
          have g5 := hy9.cell (j := 5) rfl
          have g6 := hy9.cell (j := 6) rfl
          have g7 := hy9.cell (j := 7) rfl
          have g8 := hy9.cell (j := 8) rfl
          refine bodyPost_ret (v := .agg #[.int .i64 kd, .int .i64 on, .int .i64 ht, .int .i64 hv, .slice Al m cl, .int .i64 ix, .int .i64 st, .string cf2, .string dt2]) (by simp [results, Tryd.results8, go_sem, g0, g1, g2, g3, g4, g5, g6, g7, g8]) rfl ⟨_, by rw [HC.out, HD.out], HV9.out.down (by omega), HB9.out⟩
        · go_simp
          refine hK.out _ _ (.inr hHeld) ?_
          clear hK K
          try simp only [Act.put, List.setIfInBounds_toArray, List.set_cons_zero, List.set_cons_succ]
          refine tkL 9 (.pointer (some ⟨b, 7, none⟩)) rfl (fun w hSw => ?_) ?_
          · (try dsimp only at hSw)
            obtain rfl : w = wd := hSw
            go_simp
          try simp only [Act.put, List.setIfInBounds_toArray, List.set_cons_zero, List.set_cons_succ]
          refine stM 7 rfl (fun K hK => ?_)
          go_simp
          go_at_call 21
          refine (lcut_to dt dt2 200 _ (by decide) HD.out).mono ?_
          rintro e wz ⟨rfl, rfl⟩
          clear hHeld
          have hHeld : (fun W : World => W = wd) _ := rfl
          refine hK.out _ _ (.inr hHeld) ?_
          clear hK K
          try simp only [Act.put, List.setIfInBounds_toArray, List.set_cons_zero, List.set_cons_succ]
          refine stM 10 rfl (fun K hK => ?_)
          go_simp
          refine hK.out _ _ (.inl (by decide)) ?_
          clear hK K
          try simp only [Act.put, List.setIfInBounds_toArray, List.set_cons_zero, List.set_cons_succ]
          refine stM 11 rfl (fun K hK => ?_)
          go_simp
          refine hK.out _ _ (.inl (by decide)) ?_
          clear hK K
          try simp only [Act.put, List.setIfInBounds_toArray, List.set_cons_zero, List.set_cons_succ]
          refine stM 12 rfl (fun K hK => ?_)
          go_simp
          refine hK.out _ _ (.inl (by decide)) ?_
          clear hK K
          try simp only [Act.put, List.setIfInBounds_toArray, List.set_cons_zero, List.set_cons_succ]
          refine stM 13 rfl (fun K hK => ?_)
          go_simp
          refine hK.out _ _ (.inl (by decide)) ?_
          clear hK K
          try simp only [Act.put, List.setIfInBounds_toArray, List.set_cons_zero, List.set_cons_succ]
          refine anyG_done (by kernel_rfl) ?_ _
          refine NoPanic.normal ?_
          have rs2 := (HS1.out.set 7 (.string cf2)).set 8 (.string dt2)
          have rr2 := (HR1.out.other 7 (.string cf2) (g' := b) (by omega)).other 8 (.string dt2) (g' := b) (by omega)
          have hb2 := (HB1.out.setCell (p := ⟨b, 7, none⟩) (Nat.le_refl b) (.string cf2)).setCell (p := ⟨b, 8, none⟩) (Nat.le_refl b) (.string dt2)
          have hv2 : OwnEn (b + 2) (.slice Al m cl) (cut11 L) ((wd.setCell ⟨b, 7, none⟩ (.string cf2)).setCell ⟨b, 8, none⟩ (.string dt2)) := HV1.out.off (S := fun i => i = b) (((Off.refl (fun i => i = b) wd).set (g := b) (j := 7) (.inl rfl)).set (g := b) (j := 8) (.inl rfl)) (fun i hi e => by have := (HV1.out.lt i hi).1; omega)
          obtain ⟨w2, hw2⟩ : ∃ w2, (wd.setCell ⟨b, 7, none⟩ (.string cf2)).setCell ⟨b, 8, none⟩ (.string dt2) = w2 := ⟨_, rfl⟩
          rw [hw2] at rs2 rr2 hb2 hv2 ⊢
          simp only [List.set_cons_zero, List.set_cons_succ] at rs2
          clear y7 y8 f7 f8 s8 HS1 HR1 HB1 HV1 hw2 hwd
          have u0 := rs2.cell (j := 0) rfl
          have d0 := rr2.cell (j := 0) rfl
          have e0 := rr2.frz 0
          have u1 := rs2.cell (j := 1) rfl
          have d1 := rr2.cell (j := 1) rfl
          have e1 := rr2.frz 1
          have u2 := rs2.cell (j := 2) rfl
          have d2 := rr2.cell (j := 2) rfl
          have e2 := rr2.frz 2
          have u3 := rs2.cell (j := 3) rfl
          have d3 := rr2.cell (j := 3) rfl
          have e3 := rr2.frz 3
          have u4 := rs2.cell (j := 4) rfl
          have d4 := rr2.cell (j := 4) rfl
          have e4 := rr2.frz 4
          have u5 := rs2.cell (j := 5) rfl
          have d5 := rr2.cell (j := 5) rfl
          have e5 := rr2.frz 5
          have u6 := rs2.cell (j := 6) rfl
          have d6 := rr2.cell (j := 6) rfl
          have e6 := rr2.frz 6
          have u7 := rs2.cell (j := 7) rfl
          have d7 := rr2.cell (j := 7) rfl
          have e7 := rr2.frz 7
          have u8 := rs2.cell (j := 8) rfl
          have d8 := rr2.cell (j := 8) rfl
          have e8 := rr2.frz 8
          have hy9 := (((((((((rr2.set 0 (.int .i64 kd)).set 1 (.int .i64 on)).set 2 (.int .i64 ht)).set 3 (.int .i64 hv)).set 4 (.slice Al m cl)).set 5 (.int .i64 ix)).set 6 (.int .i64 st)).set 7 (.string cf2)).set 8 (.string dt2))
          have hB9 := (((((((((hb2.setCell (p := ⟨(b + 1), 0, none⟩) (Nat.le_add_right b 1) (.int .i64 kd)).setCell (p := ⟨(b + 1), 1, none⟩) (Nat.le_add_right b 1) (.int .i64 on)).setCell (p := ⟨(b + 1), 2, none⟩) (Nat.le_add_right b 1) (.int .i64 ht)).setCell (p := ⟨(b + 1), 3, none⟩) (Nat.le_add_right b 1) (.int .i64 hv)).setCell (p := ⟨(b + 1), 4, none⟩) (Nat.le_add_right b 1) (.slice Al m cl)).setCell (p := ⟨(b + 1), 5, none⟩) (Nat.le_add_right b 1) (.int .i64 ix)).setCell (p := ⟨(b + 1), 6, none⟩) (Nat.le_add_right b 1) (.int .i64 st)).setCell (p := ⟨(b + 1), 7, none⟩) (Nat.le_add_right b 1) (.string cf2)).setCell (p := ⟨(b + 1), 8, none⟩) (Nat.le_add_right b 1) (.string dt2))
          have hV9 : OwnEn (b + 2) (.slice Al m cl) (cut11 L) (((((((((w2.setCell ⟨(b + 1), 0, none⟩ (.int .i64 kd)).setCell ⟨(b + 1), 1, none⟩ (.int .i64 on)).setCell ⟨(b + 1), 2, none⟩ (.int .i64 ht)).setCell ⟨(b + 1), 3, none⟩ (.int .i64 hv)).setCell ⟨(b + 1), 4, none⟩ (.slice Al m cl)).setCell ⟨(b + 1), 5, none⟩ (.int .i64 ix)).setCell ⟨(b + 1), 6, none⟩ (.int .i64 st)).setCell ⟨(b + 1), 7, none⟩ (.string cf2)).setCell ⟨(b + 1), 8, none⟩ (.string dt2)) := hv2.off (S := fun i => i = b + 1) (((((((((((Off.refl (fun i => i = b + 1) w2).set (g := b + 1) (j := 0) (.inl rfl)).set (g := b + 1) (j := 1) (.inl rfl)).set (g := b + 1) (j := 2) (.inl rfl)).set (g := b + 1) (j := 3) (.inl rfl)).set (g := b + 1) (j := 4) (.inl rfl)).set (g := b + 1) (j := 5) (.inl rfl)).set (g := b + 1) (j := 6) (.inl rfl)).set (g := b + 1) (j := 7) (.inl rfl)).set (g := b + 1) (j := 8) (.inl rfl))) (fun i hi e => by have := (hv2.lt i hi).1; omega)
          obtain ⟨k9, hk9⟩ : ∃ k9, (((((((((w2.setCell ⟨(b + 1), 0, none⟩ (.int .i64 kd)).setCell ⟨(b + 1), 1, none⟩ (.int .i64 on)).setCell ⟨(b + 1), 2, none⟩ (.int .i64 ht)).setCell ⟨(b + 1), 3, none⟩ (.int .i64 hv)).setCell ⟨(b + 1), 4, none⟩ (.slice Al m cl)).setCell ⟨(b + 1), 5, none⟩ (.int .i64 ix)).setCell ⟨(b + 1), 6, none⟩ (.int .i64 st)).setCell ⟨(b + 1), 7, none⟩ (.string cf2)).setCell ⟨(b + 1), 8, none⟩ (.string dt2)) = k9 := ⟨_, rfl⟩
          rw [hk9] at hy9 hB9 hV9
          simp only [List.set_cons_zero, List.set_cons_succ] at hy9
          have HY9 := Lib.hid hy9
          have HB9 := Lib.hid hB9
          have HV9 := Lib.hid hV9
          clear hy9 hB9 hV9
          go_wp2_with fail
          have hy9 := HY9.out
          have g0 := hy9.cell (j := 0) rfl
          have g1 := hy9.cell (j := 1) rfl
          have g2 := hy9.cell (j := 2) rfl
          have g3 := hy9.cell (j := 3) rfl
          have g4 := hy9.cell (j := 4) rfl
          have g5 := hy9.cell (j := 5) rfl
          have g6 := hy9.cell (j := 6) rfl
          have g7 := hy9.cell (j := 7) rfl
          have g8 := hy9.cell (j := 8) rfl
          refine bodyPost_ret (v := .agg #[.int .i64 kd, .int .i64 on, .int .i64 ht, .int .i64 hv, .slice Al m cl, .int .i64 ix, .int .i64 st, .string cf2, .string dt2]) (by simp [results, Tryd.results8, go_sem, g0, g1, g2, g3, g4, g5, g6, g7, g8]) rfl ⟨_, by rw [HC.out, HD.out], HV9.out.down (by omega), HB9.out⟩
    · have hki : ¬ (k : Int) < n := by omega
      have hcut : cut11 L = (L.take k).map cutE11 := by
        have := HNL.out
        unfold cut11; rw [List.take_of_length_le (by omega), List.take_of_length_le (by omega)]
      go_wp2_with fail
      rw [HM.out] at HV
      rw [← hcut] at HV
      clear hcut
      obtain ⟨w1, hw1⟩ : ∃ w1, wr.setCell ⟨b, 4, none⟩ (.slice Al m cl) = w1 := ⟨_, rfl⟩
      rw [hw1]
      have rs1 : Rt w1 b 35 [.int .i64 kd, .int .i64 on, .int .i64 ht, .int .i64 hv, .slice Al m cl, .int .i64 ix, .int .i64 st, .string cf, .string dt] := by rw [← hw1]; exact HS.out.set 4 (.slice Al m cl)
      have rr1 : Rt w1 (b + 1) 35 [.int .i64 0, .int .i64 0, .int .i64 0, .int .i64 0, .slice none 0 0, .int .i64 0, .int .i64 0, .string ⟨#[]⟩, .string ⟨#[]⟩] := by rw [← hw1]; exact HR.out.other 4 _ (by omega)
      have hb1 : Below b w w1 := by rw [← hw1]; exact HBw.out.setCell (p := ⟨b, 4, none⟩) (Nat.le_refl b) _
      have hv1 : OwnEn (b + 2) (.slice Al m cl) (cut11 L) w1 := by rw [← hw1]; exact HV.out.off (S := fun i => i = b) ((Off.refl _ wr).set (.inl rfl)) (fun i hi e => by have := (HV.out.lt i hi).1; omega)
      have hd0 : Below w1.heap.size w1 w1.drew := (Below.refl _ _).drew
      obtain ⟨wd, hwd⟩ : ∃ wd, w1.drew = wd := ⟨_, rfl⟩
      rw [hwd] at hd0
      have HS1 := Lib.hid (rs1.below hd0)
      have HR1 := Lib.hid (rr1.below hd0)
      have HV1 := Lib.hid (hv1.below hd0)
      have HB1 := Lib.hid (hb1.trans (hd0.mono (by rw [← HB.out]; exact hb1.size)))
      clear rs1 rr1 hb1 hv1 hd0 HS HR HBw HV hw1
      obtain ⟨cf2, hcf⟩ : ∃ x, cutS cf 60 = x := ⟨_, rfl⟩
      obtain ⟨dt2, hdt⟩ : ∃ x, cutS dt 200 = x := ⟨_, rfl⟩
      have HC := Lib.hid hcf
      have HD := Lib.hid hdt
      clear hcf hdt
      have y7 := HS1.out.cell (j := 7) rfl
      have y8 := HS1.out.cell (j := 8) rfl
      have f7 := HS1.out.frz 7
      have f8 := HS1.out.frz 8
      have s8 := (HS1.out.set 7 (.string cf2)).frz 8
      refine wp_region_noPanic ?_
      refine region_g 10 (fun W => W = wd) (by kernel_rfl) ?_
      rw [hwd]
      have hHeld : (fun W : World => W = wd) wd := rfl
      refine tkL 0 (.pointer (some ⟨b, 5, none⟩)) rfl (fun w hSw => ?_) ?_
      · (try dsimp only at hSw)
        obtain rfl : w = wd := hSw
        go_simp
      try simp only [Act.put, List.setIfInBounds_toArray, List.set_cons_zero, List.set_cons_succ]
      refine tkL 1 (.pointer (some ⟨b, 7, none⟩)) rfl (fun w hSw => ?_) ?_
      · (try dsimp only at hSw)
        obtain rfl : w = wd := hSw
        go_simp
      try simp only [Act.put, List.setIfInBounds_toArray, List.set_cons_zero, List.set_cons_succ]
      refine tkL 2 (.string cf) rfl (fun w hSw => ?_) ?_
      · (try dsimp only at hSw)
        obtain rfl : w = wd := hSw
        go_simp
      try simp only [Act.put, List.setIfInBounds_toArray, List.set_cons_zero, List.set_cons_succ]
      refine tkL 4 (.pointer (some ⟨b, 5, none⟩)) rfl (fun w hSw => ?_) ?_
      · (try dsimp only at hSw)
        obtain rfl : w = wd := hSw
        go_simp
      try simp only [Act.put, List.setIfInBounds_toArray, List.set_cons_zero, List.set_cons_succ]
      refine tkL 5 (.pointer (some ⟨b, 8, none⟩)) rfl (fun w hSw => ?_) ?_
      · (try dsimp only at hSw)
        obtain rfl : w = wd := hSw
        go_simp
      try simp only [Act.put, List.setIfInBounds_toArray, List.set_cons_zero, List.set_cons_succ]
      refine tkL 6 (.string dt) rfl (fun w hSw => ?_) ?_
      · (try dsimp only at hSw)
        obtain rfl : w = wd := hSw
        go_simp
      try simp only [Act.put, List.setIfInBounds_toArray, List.set_cons_zero, List.set_cons_succ]
      refine stM 3 rfl (fun K hK => ?_)
      go_simp
      go_at_call 21
      refine (lcut_to cf cf2 60 _ (by decide) HC.out).mono ?_
      rintro e wz ⟨rfl, rfl⟩
      clear hHeld
      have hHeld : (fun W : World => W = wd) _ := rfl
      refine hK.out _ _ (.inr hHeld) ?_
      clear hK K
      try simp only [Act.put, List.setIfInBounds_toArray, List.set_cons_zero, List.set_cons_succ]
      refine stM2 7 8 rfl rfl (fun K hK => ?_) (fun K hK => ?_)
      · go_simp
        go_at_call 21
        refine (lcut_to dt dt2 200 _ (by decide) HD.out).mono ?_
        rintro e wz ⟨rfl, rfl⟩
        clear hHeld
        have hHeld : (fun W : World => W = wd) _ := rfl
        refine hK.out _ _ (.inr hHeld) ?_
        clear hK K
        try simp only [Act.put, List.setIfInBounds_toArray, List.set_cons_zero, List.set_cons_succ]
        refine stM 8 rfl (fun K hK => ?_)
        go_simp
        refine hK.out _ _ (.inr hHeld) ?_
        clear hK K
        try simp only [Act.put, List.setIfInBounds_toArray, List.set_cons_zero, List.set_cons_succ]
        refine stM 9 rfl (fun K hK => ?_)
        go_simp
        refine hK.out _ _ (.inr hHeld) ?_
        clear hK K
        try simp only [Act.put, List.setIfInBounds_toArray, List.set_cons_zero, List.set_cons_succ]
        refine stM 10 rfl (fun K hK => ?_)
        go_simp
        refine hK.out _ _ (.inl (by decide)) ?_
        clear hK K
        try simp only [Act.put, List.setIfInBounds_toArray, List.set_cons_zero, List.set_cons_succ]
        refine stM 11 rfl (fun K hK => ?_)
        go_simp
        refine hK.out _ _ (.inl (by decide)) ?_
        clear hK K
        try simp only [Act.put, List.setIfInBounds_toArray, List.set_cons_zero, List.set_cons_succ]
        refine stM 12 rfl (fun K hK => ?_)
        go_simp
        refine hK.out _ _ (.inl (by decide)) ?_
        clear hK K
        try simp only [Act.put, List.setIfInBounds_toArray, List.set_cons_zero, List.set_cons_succ]
        refine stM 13 rfl (fun K hK => ?_)
        go_simp
        refine hK.out _ _ (.inl (by decide)) ?_
        clear hK K
        try simp only [Act.put, List.setIfInBounds_toArray, List.set_cons_zero, List.set_cons_succ]
        refine anyG_done (by kernel_rfl) ?_ _
        refine NoPanic.normal ?_
        have rs2 := (HS1.out.set 7 (.string cf2)).set 8 (.string dt2)
        have rr2 := (HR1.out.other 7 (.string cf2) (g' := b) (by omega)).other 8 (.string dt2) (g' := b) (by omega)
        have hb2 := (HB1.out.setCell (p := ⟨b, 7, none⟩) (Nat.le_refl b) (.string cf2)).setCell (p := ⟨b, 8, none⟩) (Nat.le_refl b) (.string dt2)
        have hv2 : OwnEn (b + 2) (.slice Al m cl) (cut11 L) ((wd.setCell ⟨b, 7, none⟩ (.string cf2)).setCell ⟨b, 8, none⟩ (.string dt2)) := HV1.out.off (S := fun i => i = b) (((Off.refl (fun i => i = b) wd).set (g := b) (j := 7) (.inl rfl)).set (g := b) (j := 8) (.inl rfl)) (fun i hi e => by have := (HV1.out.lt i hi).1; omega)
        obtain ⟨w2, hw2⟩ : ∃ w2, (wd.setCell ⟨b, 7, none⟩ (.string cf2)).setCell ⟨b, 8, none⟩ (.string dt2) = w2 := ⟨_, rfl⟩
        rw [hw2] at rs2 rr2 hb2 hv2 ⊢
        simp only [List.set_cons_zero, List.set_cons_succ] at rs2
        clear y7 y8 f7 f8 s8 HS1 HR1 HB1 HV1 hw2 hwd
        have u0 := rs2.cell (j := 0) rfl
        have d0 := rr2.cell (j := 0) rfl
        have e0 := rr2.frz 0
        have u1 := rs2.cell (j := 1) rfl
        have d1 := rr2.cell (j := 1) rfl
        have e1 := rr2.frz 1
        have u2 := rs2.cell (j := 2) rfl
        have d2 := rr2.cell (j := 2) rfl
        have e2 := rr2.frz 2
        have u3 := rs2.cell (j := 3) rfl
        have d3 := rr2.cell (j := 3) rfl
        have e3 := rr2.frz 3
        have u4 := rs2.cell (j := 4) rfl
        have d4 := rr2.cell (j := 4) rfl
        have e4 := rr2.frz 4
        have u5 := rs2.cell (j := 5) rfl
        have d5 := rr2.cell (j := 5) rfl
        have e5 := rr2.frz 5
        have u6 := rs2.cell (j := 6) rfl
        have d6 := rr2.cell (j := 6) rfl
        have e6 := rr2.frz 6
        have u7 := rs2.cell (j := 7) rfl
        have d7 := rr2.cell (j := 7) rfl
        have e7 := rr2.frz 7
        have u8 := rs2.cell (j := 8) rfl
        have d8 := rr2.cell (j := 8) rfl
        have e8 := rr2.frz 8
        have hy9 := (((((((((rr2.set 0 (.int .i64 kd)).set 1 (.int .i64 on)).set 2 (.int .i64 ht)).set 3 (.int .i64 hv)).set 4 (.slice Al m cl)).set 5 (.int .i64 ix)).set 6 (.int .i64 st)).set 7 (.string cf2)).set 8 (.string dt2))
        have hB9 := (((((((((hb2.setCell (p := ⟨(b + 1), 0, none⟩) (Nat.le_add_right b 1) (.int .i64 kd)).setCell (p := ⟨(b + 1), 1, none⟩) (Nat.le_add_right b 1) (.int .i64 on)).setCell (p := ⟨(b + 1), 2, none⟩) (Nat.le_add_right b 1) (.int .i64 ht)).setCell (p := ⟨(b + 1), 3, none⟩) (Nat.le_add_right b 1) (.int .i64 hv)).setCell (p := ⟨(b + 1), 4, none⟩) (Nat.le_add_right b 1) (.slice Al m cl)).setCell (p := ⟨(b + 1), 5, none⟩) (Nat.le_add_right b 1) (.int .i64 ix)).setCell (p := ⟨(b + 1), 6, none⟩) (Nat.le_add_right b 1) (.int .i64 st)).setCell (p := ⟨(b + 1), 7, none⟩) (Nat.le_add_right b 1) (.string cf2)).setCell (p := ⟨(b + 1), 8, none⟩) (Nat.le_add_right b 1) (.string dt2))
        have hV9 : OwnEn (b + 2) (.slice Al m cl) (cut11 L) (((((((((w2.setCell ⟨(b + 1), 0, none⟩ (.int .i64 kd)).setCell ⟨(b + 1), 1, none⟩ (.int .i64 on)).setCell ⟨(b + 1), 2, none⟩ (.int .i64 ht)).setCell ⟨(b + 1), 3, none⟩ (.int .i64 hv)).setCell ⟨(b + 1), 4, none⟩ (.slice Al m cl)).setCell ⟨(b + 1), 5, none⟩ (.int .i64 ix)).setCell ⟨(b + 1), 6, none⟩ (.int .i64 st)).setCell ⟨(b + 1), 7, none⟩ (.string cf2)).setCell ⟨(b + 1), 8, none⟩ (.string dt2)) := hv2.off (S := fun i => i = b + 1) (((((((((((Off.refl (fun i => i = b + 1) w2).set (g := b + 1) (j := 0) (.inl rfl)).set (g := b + 1) (j := 1) (.inl rfl)).set (g := b + 1) (j := 2) (.inl rfl)).set (g := b + 1) (j := 3) (.inl rfl)).set (g := b + 1) (j := 4) (.inl rfl)).set (g := b + 1) (j := 5) (.inl rfl)).set (g := b + 1) (j := 6) (.inl rfl)).set (g := b + 1) (j := 7) (.inl rfl)).set (g := b + 1) (j := 8) (.inl rfl))) (fun i hi e => by have := (hv2.lt i hi).1; omega)
        obtain ⟨k9, hk9⟩ : ∃ k9, (((((((((w2.setCell ⟨(b + 1), 0, none⟩ (.int .i64 kd)).setCell ⟨(b + 1), 1, none⟩ (.int .i64 on)).setCell ⟨(b + 1), 2, none⟩ (.int .i64 ht)).setCell ⟨(b + 1), 3, none⟩ (.int .i64 hv)).setCell ⟨(b + 1), 4, none⟩ (.slice Al m cl)).setCell ⟨(b + 1), 5, none⟩ (.int .i64 ix)).setCell ⟨(b + 1), 6, none⟩ (.int .i64 st)).setCell ⟨(b + 1), 7, none⟩ (.string cf2)).setCell ⟨(b + 1), 8, none⟩ (.string dt2)) = k9 := ⟨_, rfl⟩
        rw [hk9] at hy9 hB9 hV9
        simp only [List.set_cons_zero, List.set_cons_succ] at hy9
        have HY9 := Lib.hid hy9
        have HB9 := Lib.hid hB9
        have HV9 := Lib.hid hV9
        clear hy9 hB9 hV9
        go_wp2_with fail
        have hy9 := HY9.out
        have g0 := hy9.cell (j := 0) rfl
        have g1 := hy9.cell (j := 1) rfl
        have g2 := hy9.cell (j := 2) rfl
        have g3 := hy9.cell (j := 3) rfl
        have g4 := hy9.cell (j := 4) rfl
        have g5 := hy9.cell (j := 5) rfl
        have g6 := hy9.cell (j := 6) rfl
        have g7 := hy9.cell (j := 7) rfl
        have g8 := hy9.cell (j := 8) rfl
        refine bodyPost_ret (v := .agg #[.int .i64 kd, .int .i64 on, .int .i64 ht, .int .i64 hv, .slice Al m cl, .int .i64 ix, .int .i64 st, .string cf2, .string dt2]) (by simp [results, Tryd.results8, go_sem, g0, g1, g2, g3, g4, g5, g6, g7, g8]) rfl ⟨_, by rw [HC.out, HD.out], HV9.out.down (by omega), HB9.out⟩
      · go_simp
        refine hK.out _ _ (.inr hHeld) ?_
        clear hK K
        try simp only [Act.put, List.setIfInBounds_toArray, List.set_cons_zero, List.set_cons_succ]
        refine tkL 9 (.pointer (some ⟨b, 7, none⟩)) rfl (fun w hSw => ?_) ?_
        · (try dsimp only at hSw)
          obtain rfl : w = wd := hSw
          go_simp
        try simp only [Act.put, List.setIfInBounds_toArray, List.set_cons_zero, List.set_cons_succ]
        refine stM 7 rfl (fun K hK => ?_)
        go_simp
        go_at_call 21
        refine (lcut_to dt dt2 200 _ (by decide) HD.out).mono ?_
        rintro e wz ⟨rfl, rfl⟩
        clear hHeld
        have hHeld : (fun W : World => W = wd) _ := rfl
        refine hK.out _ _ (.inr hHeld) ?_
        clear hK K
        try simp only [Act.put, List.setIfInBounds_toArray, List.set_cons_zero, List.set_cons_succ]
        refine stM 10 rfl (fun K hK => ?_)
        go_simp
        refine hK.out _ _ (.inl (by decide)) ?_
        clear hK K
        try simp only [Act.put, List.setIfInBounds_toArray, List.set_cons_zero, List.set_cons_succ]
        refine stM 11 rfl (fun K hK => ?_)
        go_simp
        refine hK.out _ _ (.inl (by decide)) ?_
        clear hK K
        try simp only [Act.put, List.setIfInBounds_toArray, List.set_cons_zero, List.set_cons_succ]
        refine stM 12 rfl (fun K hK => ?_)
        go_simp
        refine hK.out _ _ (.inl (by decide)) ?_
        clear hK K
        try simp only [Act.put, List.setIfInBounds_toArray, List.set_cons_zero, List.set_cons_succ]
        refine stM 13 rfl (fun K hK => ?_)
        go_simp
        refine hK.out _ _ (.inl (by decide)) ?_
        clear hK K
        try simp only [Act.put, List.setIfInBounds_toArray, List.set_cons_zero, List.set_cons_succ]
        refine anyG_done (by kernel_rfl) ?_ _
        refine NoPanic.normal ?_
        have rs2 := (HS1.out.set 7 (.string cf2)).set 8 (.string dt2)
        have rr2 := (HR1.out.other 7 (.string cf2) (g' := b) (by omega)).other 8 (.string dt2) (g' := b) (by omega)
        have hb2 := (HB1.out.setCell (p := ⟨b, 7, none⟩) (Nat.le_refl b) (.string cf2)).setCell (p := ⟨b, 8, none⟩) (Nat.le_refl b) (.string dt2)
        have hv2 : OwnEn (b + 2) (.slice Al m cl) (cut11 L) ((wd.setCell ⟨b, 7, none⟩ (.string cf2)).setCell ⟨b, 8, none⟩ (.string dt2)) := HV1.out.off (S := fun i => i = b) (((Off.refl (fun i => i = b) wd).set (g := b) (j := 7) (.inl rfl)).set (g := b) (j := 8) (.inl rfl)) (fun i hi e => by have := (HV1.out.lt i hi).1; omega)
        obtain ⟨w2, hw2⟩ : ∃ w2, (wd.setCell ⟨b, 7, none⟩ (.string cf2)).setCell ⟨b, 8, none⟩ (.string dt2) = w2 := ⟨_, rfl⟩
        rw [hw2] at rs2 rr2 hb2 hv2 ⊢
        simp only [List.set_cons_zero, List.set_cons_succ] at rs2
        clear y7 y8 f7 f8 s8 HS1 HR1 HB1 HV1 hw2 hwd
        have u0 := rs2.cell (j := 0) rfl
        have d0 := rr2.cell (j := 0) rfl
        have e0 := rr2.frz 0
        have u1 := rs2.cell (j := 1) rfl
        have d1 := rr2.cell (j := 1) rfl
        have e1 := rr2.frz 1
        have u2 := rs2.cell (j := 2) rfl
        have d2 := rr2.cell (j := 2) rfl
        have e2 := rr2.frz 2
        have u3 := rs2.cell (j := 3) rfl
        have d3 := rr2.cell (j := 3) rfl
        have e3 := rr2.frz 3
        have u4 := rs2.cell (j := 4) rfl
        have d4 := rr2.cell (j := 4) rfl
        have e4 := rr2.frz 4
        have u5 := rs2.cell (j := 5) rfl
        have d5 := rr2.cell (j := 5) rfl
        have e5 := rr2.frz 5
        have u6 := rs2.cell (j := 6) rfl
        have d6 := rr2.cell (j := 6) rfl
        have e6 := rr2.frz 6
        have u7 := rs2.cell (j := 7) rfl
        have d7 := rr2.cell (j := 7) rfl
        have e7 := rr2.frz 7
        have u8 := rs2.cell (j := 8) rfl
        have d8 := rr2.cell (j := 8) rfl
        have e8 := rr2.frz 8
        have hy9 := (((((((((rr2.set 0 (.int .i64 kd)).set 1 (.int .i64 on)).set 2 (.int .i64 ht)).set 3 (.int .i64 hv)).set 4 (.slice Al m cl)).set 5 (.int .i64 ix)).set 6 (.int .i64 st)).set 7 (.string cf2)).set 8 (.string dt2))
        have hB9 := (((((((((hb2.setCell (p := ⟨(b + 1), 0, none⟩) (Nat.le_add_right b 1) (.int .i64 kd)).setCell (p := ⟨(b + 1), 1, none⟩) (Nat.le_add_right b 1) (.int .i64 on)).setCell (p := ⟨(b + 1), 2, none⟩) (Nat.le_add_right b 1) (.int .i64 ht)).setCell (p := ⟨(b + 1), 3, none⟩) (Nat.le_add_right b 1) (.int .i64 hv)).setCell (p := ⟨(b + 1), 4, none⟩) (Nat.le_add_right b 1) (.slice Al m cl)).setCell (p := ⟨(b + 1), 5, none⟩) (Nat.le_add_right b 1) (.int .i64 ix)).setCell (p := ⟨(b + 1), 6, none⟩) (Nat.le_add_right b 1) (.int .i64 st)).setCell (p := ⟨(b + 1), 7, none⟩) (Nat.le_add_right b 1) (.string cf2)).setCell (p := ⟨(b + 1), 8, none⟩) (Nat.le_add_right b 1) (.string dt2))
        have hV9 : OwnEn (b + 2) (.slice Al m cl) (cut11 L) (((((((((w2.setCell ⟨(b + 1), 0, none⟩ (.int .i64 kd)).setCell ⟨(b + 1), 1, none⟩ (.int .i64 on)).setCell ⟨(b + 1), 2, none⟩ (.int .i64 ht)).setCell ⟨(b + 1), 3, none⟩ (.int .i64 hv)).setCell ⟨(b + 1), 4, none⟩ (.slice Al m cl)).setCell ⟨(b + 1), 5, none⟩ (.int .i64 ix)).setCell ⟨(b + 1), 6, none⟩ (.int .i64 st)).setCell ⟨(b + 1), 7, none⟩ (.string cf2)).setCell ⟨(b + 1), 8, none⟩ (.string dt2)) := hv2.off (S := fun i => i = b + 1) (((((((((((Off.refl (fun i => i = b + 1) w2).set (g := b + 1) (j := 0) (.inl rfl)).set (g := b + 1) (j := 1) (.inl rfl)).set (g := b + 1) (j := 2) (.inl rfl)).set (g := b + 1) (j := 3) (.inl rfl)).set (g := b + 1) (j := 4) (.inl rfl)).set (g := b + 1) (j := 5) (.inl rfl)).set (g := b + 1) (j := 6) (.inl rfl)).set (g := b + 1) (j := 7) (.inl rfl)).set (g := b + 1) (j := 8) (.inl rfl))) (fun i hi e => by have := (hv2.lt i hi).1; omega)
        obtain ⟨k9, hk9⟩ : ∃ k9, (((((((((w2.setCell ⟨(b + 1), 0, none⟩ (.int .i64 kd)).setCell ⟨(b + 1), 1, none⟩ (.int .i64 on)).setCell ⟨(b + 1), 2, none⟩ (.int .i64 ht)).setCell ⟨(b + 1), 3, none⟩ (.int .i64 hv)).setCell ⟨(b + 1), 4, none⟩ (.slice Al m cl)).setCell ⟨(b + 1), 5, none⟩ (.int .i64 ix)).setCell ⟨(b + 1), 6, none⟩ (.int .i64 st)).setCell ⟨(b + 1), 7, none⟩ (.string cf2)).setCell ⟨(b + 1), 8, none⟩ (.string dt2)) = k9 := ⟨_, rfl⟩
        rw [hk9] at hy9 hB9 hV9
        simp only [List.set_cons_zero, List.set_cons_succ] at hy9
        have HY9 := Lib.hid hy9
        have HB9 := Lib.hid hB9
        have HV9 := Lib.hid hV9
        clear hy9 hB9 hV9
        go_wp2_with fail
        have hy9 := HY9.out
        have g0 := hy9.cell (j := 0) rfl
        have g1 := hy9.cell (j := 1) rfl
        have g2 := hy9.cell (j := 2) rfl
        have g3 := hy9.cell (j := 3) rfl
        have g4 := hy9.cell (j := 4) rfl
        have g5 := hy9.cell (j := 5) rfl
        have g6 := hy9.cell (j := 6) rfl
        have g7 := hy9.cell (j := 7) rfl
        have g8 := hy9.cell (j := 8) rfl
        refine bodyPost_ret (v := .agg #[.int .i64 kd, .int .i64 on, .int .i64 ht, .int .i64 hv, .slice Al m cl, .int .i64 ix, .int .i64 st, .string cf2, .string dt2]) (by simp [results, Tryd.results8, go_sem, g0, g1, g2, g3, g4, g5, g6, g7, g8]) rfl ⟨_, by rw [HC.out, HD.out], HV9.out.down (by omega), HB9.out⟩
end Go.Proofs.YtbiecoifeeikpaaDoor
/-
  The reference's EqState, and a state's equality.
  The conditions: the logs are no longer than 1000.
-/
namespace Go.Proofs.YtbiecoifeeikpaaDoor
open Go.RowKit Go.Deep
set_option maxRecDepth 100000

def eqSt11 (a b : Kst) : Bool := a.ht == b.ht && a.hv == b.hv && eqSnp10 a.s b.s && eqEs11 a.log b.log
theorem eqSt11_self (a : Kst) : eqSt11 a a = true := by simp [eqSt11, eqEs11_self, eqSnp10]
set_option maxHeartbeats 1000000 in
theorem reqState_any (N M : Nat → Prop) (A C : Option Addr) (n c m d : Nat) (ht hv ix st : Int) (cf dt : ByteArray) (lg : List Ent) (ht2 hv2 ix2 st2 : Int) (cf2 dt2 : ByteArray) (lg2 : List Ent) (w : World) (ha : Ens N w (.slice A n c) lg) (hb : Ens M w (.slice C m d) lg2) (hl : n ≤ 1000) :
    Calls Tryd.prog 14 #[.agg #[.int .i64 ht, .int .i64 hv, .int .i64 ix, .int .i64 st, .string cf, .string dt, .slice A n c], .agg #[.int .i64 ht2, .int .i64 hv2, .int .i64 ix2, .int .i64 st2, .string cf2, .string dt2, .slice C m d]] w (Bl (eqSt11 ⟨ht, hv, ⟨ix, st, cf, dt⟩, lg⟩ ⟨ht2, hv2, ⟨ix2, st2, cf2, dt2⟩, lg2⟩) w) := by
  obtain rfl : n = lg.length := ha.len.1
  obtain rfl : m = lg2.length := hb.len.1
  obtain ⟨q, hq⟩ : ∃ q, eqSnp10 ⟨ix, st, cf, dt⟩ ⟨ix2, st2, cf2, dt2⟩ = q := ⟨_, rfl⟩
  obtain ⟨r, hr⟩ : ∃ r, eqEs11 lg lg2 = r := ⟨_, rfl⟩
  have hS : ∀ W, Calls Tryd.prog 35 #[.agg #[.int .i64 ix, .int .i64 st, .string cf, .string dt], .agg #[.int .i64 ix2, .int .i64 st2, .string cf2, .string dt2]] W (Bl q W) := fun W => by rw [← hq]; exact reqSnap_any ⟨ix, st, cf, dt⟩ ⟨ix2, st2, cf2, dt2⟩ W
  have hE : ∀ W, Below w.heap.size w W → Calls Tryd.prog 36 #[.slice A lg.length c, .slice C lg2.length d] W (Bl r W) := fun W hB => by rw [← hr]; exact reqEnts_any N M A C c d lg lg2 W (ha.below hB) (hb.below hB) hl
  have hU : eqSt11 ⟨ht, hv, ⟨ix, st, cf, dt⟩, lg⟩ ⟨ht2, hv2, ⟨ix2, st2, cf2, dt2⟩, lg2⟩ = (ht == ht2 && hv == hv2 && q && r) := by simp only [eqSt11, hq, hr]
  rw [hU]
  have HS := Lib.hid hS
  have HE := Lib.hid hE
  clear hU hS hE ha hb hq hr
  by_cases h1 : ht = ht2
  · subst h1
    by_cases h2 : hv = hv2
    · subst h2
      go_enter Tryd.func14, Tryd.ntmps14
      go_wp2_with fail
      obtain ⟨x, hx⟩ : ∃ x, w.heap.size = x := ⟨_, rfl⟩
      obtain ⟨W, hW⟩ : ∃ W, (w.alloc (.cells #[.int .i64 ht, .int .i64 hv, .int .i64 ix, .int .i64 st, .string cf, .string dt, .slice A lg.length c] 38)).alloc (.cells #[.int .i64 ht, .int .i64 hv, .int .i64 ix2, .int .i64 st2, .string cf2, .string dt2, .slice C lg2.length d] 38) = W := ⟨_, rfl⟩
      have r1 : Rt W x 38 [.int .i64 ht, .int .i64 hv, .int .i64 ix, .int .i64 st, .string cf, .string dt, .slice A lg.length c] := by rw [← hW, ← hx]; exact (Rt.new w _ _).below (below_new _ _)
      have r2 : Rt W (x + 1) 38 [.int .i64 ht, .int .i64 hv, .int .i64 ix2, .int .i64 st2, .string cf2, .string dt2, .slice C lg2.length d] := by rw [← hW, ← hx]; exact Rt.new_at _ _ _ _ (World.size_alloc _ _)
      have hB : Below w.heap.size w W := by rw [← hW]; exact below_two _ _ _
      rw [hW, hx]
      have HX := Lib.hid hx
      clear hx hW
      refine (HS.out _).mono ?_
      rintro e w1 ⟨rfl, h⟩
      have c1 := (r1.below h).cell (j := 6) rfl
      have c2 := (r2.below h).cell (j := 6) rfl
      have HB := Lib.hid (hB.trans (h.mono hB.size))
      clear h hB r1 r2 HS
      cases q with
      | false =>
        go_wp2_with fail
        go_ret
        exact ⟨ret_bool (by simp), HB.out⟩
      | true =>
        have HE2 := Lib.hid (HE.out w1 HB.out)
        clear HE
        go_wp2_with fail
        refine HE2.out.mono ?_
        rintro e w2 ⟨rfl, h⟩
        have HB2 := Lib.hid (HB.out.trans (h.mono HB.out.size))
        clear h
        cases r
        all_goals
          go_wp2_with fail
          go_ret
          exact ⟨ret_bool (by simp), HB2.out⟩
    · have hq : (hv == hv2) = false := by simpa using h2
      go_enter Tryd.func14, Tryd.ntmps14
      go_wp2_with fail
      go_ret
      exact ⟨ret_bool (by simp [h2]), below_two _ _ _⟩
  · have hq : (ht == ht2) = false := by simpa using h1
    go_enter Tryd.func14, Tryd.ntmps14
    go_wp2_with fail
    go_ret
    exact ⟨ret_bool (by simp [h1]), below_two _ _ _⟩
end Go.Proofs.YtbiecoifeeikpaaDoor
/-
  The laws' back: a keep's state as the document has it.
  There are no conditions.
-/
namespace Go.Proofs.YtbiecoifeeikpaaDoor
open Go.RowKit Go.Deep
set_option maxRecDepth 100000

theorem back_any (ht hv ix st : Int) (cf dt : ByteArray) (A : Option Addr) (n c : Nat) (w : World) :
    Calls Tryd.prog 15 #[.agg #[.int .i64 ht, .int .i64 hv, .int .i64 ix, .int .i64 st, .string cf, .string dt, .slice A n c]] w (fun e w' => e = .returned (.agg #[.int .i64 ht, .int .i64 hv, .int .i64 ix, .int .i64 st, .string cf, .string dt, .slice A n c]) ∧ Below w.heap.size w w') := by
  go_enter Tryd.func15, Tryd.ntmps15
  go_wp2_with fail
  refine bodyPost_ret (v := .agg #[.int .i64 ht, .int .i64 hv, .int .i64 ix, .int .i64 st, .string cf, .string dt, .slice A n c]) (by simp [results, Tryd.results15, go_sem]) rfl ⟨rfl, below_two _ _ _⟩
end Go.Proofs.YtbiecoifeeikpaaDoor
/-
  The Term of an entry of a row of one's own is written.
  There are no conditions beyond those that each lemma names.
-/
set_option linter.unusedSimpArgs false
set_option linter.unusedVariables false
namespace Go.Proofs.YtbiecoifeeikpaaDoor
open Go.RowKit Go.Deep
set_option maxRecDepth 100000

def Ent.term (e : Ent) (t : Int) : Ent := ⟨e.ix, t, e.kd, e.data⟩
theorem eflat_term (t : Int) : ∀ (L : List Ent) (k : Nat) (hk : k < L.length), (L.set k ((L[k]'hk).term t)).flatMap Ent.cs = (L.flatMap Ent.cs).set (k * 4 + 1) (.int .i64 t)
  | [], k, hk => absurd hk (by simp)
  | e :: L, 0, hk => rfl
  | e :: L, k + 1, hk => by
    have ih := eflat_term t L k (by simpa using hk)
    rw [List.getElem_cons_succ, List.set_cons_succ, List.flatMap_cons, List.flatMap_cons, ih]
    rw [List.set_append_right _ _ (by show 4 ≤ _; omega)]
    show _ ++ _ = _ ++ List.set _ ((k + 1) * 4 + 1 - 4) _
    rw [show (k + 1) * 4 + 1 - 4 = k * 4 + 1 by omega]
theorem OwnEn.set_term {B n c k : Nat} {g : Nat} {L : List Ent} {w : World} (h : OwnEn B (.slice (some ⟨g, 0, none⟩) n c) L w) (hk : k < L.length) (t : Int) : OwnEn B (.slice (some ⟨g, 0, none⟩) n c) (L.set k ((L[k]'hk).term t)) (w.setCell ⟨g, k * 4 + 1, none⟩ (.int .i64 t)) := by
  unfold OwnEn at *
  rw [List.length_set, eflat_term]
  refine ⟨by rw [List.length_set]; exact h.1, ?_⟩
  rcases h.2 with ⟨hv, _⟩ | ⟨g2, c2, cur, hv, hB, hg2, h1, h2, h3, h4⟩
  · cases hv
  · injection hv with e1 e2 e3
    injection e1 with e1
    injection e1 with e1 _
    subst e1; subst e3; subst e2
    refine .inr ⟨g, c, cur.setIfInBounds (k * 4 + 1) (.int .i64 t), rfl, hB, heap_setCell_same w g (k * 4 + 1) cur _ _ hg2, h1, h2, by simpa using h3, ?_⟩
    rw [Array.toList_setIfInBounds, List.take_set, h4]
theorem OwnEn.addr {B n c : Nat} {A : Option Addr} {L : List Ent} {w : World} (h : OwnEn B (.slice A n c) L w) (hn : 0 < L.length) : ∃ g, A = some ⟨g, 0, none⟩ ∧ B ≤ g ∧ g < w.heap.size ∧ n = L.length ∧ L.length ≤ c := by
  have hlt := h.lt
  rcases h.2 with ⟨hv, _⟩ | ⟨g, c2, cur, hv, hB, hg, h1, h2, _⟩
  · injection hv with _ e2 _
    omega
  · injection hv with e1 e2 e3
    subst e1; subst e2; subst e3
    exact ⟨g, rfl, hB, (hlt g rfl).2, rfl, h1⟩
end Go.Proofs.YtbiecoifeeikpaaDoor
