/-
  Snapshots go to bytes and back; cut off, or with a byte changed, they are not told (WalSnap).
  There are no conditions.
-/
import Derived.Test.YtmoaacaopphgbaaDoorRows
import Derived.Test.YtmoaacaopphgbaaDoorCards
import Derived.Test.YtmoaacaopphgbaaDoorTie
import Derived.Test.YtmoaacaopphgbaaDoorBun1
import Derived.Test.YtmoaacaopphgbaaDoorBun8
import Derived.Test.YtmoaacaopphgbaaDoorBun5
import Derived.Test.YtmoaacaopphgbaaDoorBun3
import Derived.Test.YtmoaacaopphgbaaDoorBun4
import Derived.Test.YtmoaacaopphgbaaDoorBun2
import Derived.SevenTiedAt
import Derived.WalkKit
import Derived.ProofKit
import Derived.OpenShut
import Derived.ShutString
namespace Go.Proofs.YtmoaacaopphgbaaDoor.walSnap
open Go.ChangeShapes Go.WideShapes Go.ChangeAt Go.RowKit
open Go.ChangeMaps (open_string shut_string)
set_option linter.unusedVariables false

theorem own : ownKnob Tryd.prog.godebug = none := by kernel_rfl
theorem byt_take10 {w : World} {B n c : Nat} {A : Option Addr} {l : List UInt8} (h : Byt w B (.slice A l.length c) l) (hn : n ≤ l.length) : Byt w B (.slice A n c) (l.take n) := by
  obtain ⟨A', c', hv, hc, hcell⟩ := h
  injection hv with e1 _ e2; subst e1; subst e2
  have e : (l.take n).length = n := by rw [List.length_take]; omega
  refine ⟨A, c, by rw [e], by rw [e]; omega, fun h0 => ?_⟩
  rw [e] at h0
  obtain ⟨g, o, rfl, hg, hcs⟩ := hcell (by omega)
  refine ⟨g, o, rfl, hg, fun k hk => ?_⟩
  rw [e] at hk
  rw [hcs k (by omega)]; simp
def MeetS10 (R : Act → World → Prop) : Exit → Act → World → Prop
  | .normal, a, W => R a W
  | _, _, _ => False
theorem wp_meet10s {P : Program} {c : Code} {Q : Exit → Act → World → Prop} {a : Act} {w : World} (R : Act → Act → World → Prop) (h1 : c.wp P (MeetS10 (R a)) a w) (h2 : ∀ b W, R a b W → Q .normal b W) : c.wp P Q a w :=
  Code.wp_mono (fun e b W h => by
    cases e with
    | normal => exact h2 b W h
    | _ => exact h.elim) h1

set_option maxRecDepth 100000 in
set_option maxHeartbeats 8000000 in
theorem walk (w : World) (a0 : Snp) (w0 : a0.fit) (a1 : Int) (w1 : (Lit.int .i64 a1).wf = true) (a2 : Int) (w2 : (Lit.int .i64 a2).wf = true) (a3 : Int) (w3 : (Lit.int .i64 a3).wf = true) (a4 : Int) (w4 : (Lit.int .u8 a4).wf = true) (A5 : Option Addr) (c5 : Nat) (a5 : List UInt8) (w5 : Byt w w.heap.size (.slice A5 a5.length c5) a5) (x5 : a5.length ≤ maxLen) (hT : Tbl w) :
    Calls Tryd.prog 9 #[a0.val, .int .i64 a1, .int .i64 a2, .int .i64 a3, .int .u8 a4, .slice A5 a5.length c5] w fun e w' => e = .returned (.bool true) ∧ Below w.heap.size w w' := by
  obtain ⟨ix, st, cf0, dt0⟩ := a0
  unfold Snp.val
  simp only
  have HW0 := Lib.hid w0; have HW1 := Lib.hid w1; have HW2 := Lib.hid w2; have HW3 := Lib.hid w3; have hw4 := bounds_u8 w4
  have HA5 := Lib.hid w5; have HF5 := Lib.hid x5
  clear w0 w1 w2 w3 w4 w5 x5
  obtain ⟨X, rfl⟩ : ∃ X : UInt8, a4 = (X.toNat : Int) := ⟨a4.toNat.toUInt8, by rw [Nu.u8n _ (by omega)]; omega⟩
  have hTT := fun (k : World) (h : Below w.heap.size w k) => tbl_keep hT h
  obtain ⟨W0, hW0⟩ : ∃ W0, w.alloc (.cells #[.int .i64 ix, .int .i64 st, .string cf0, .string dt0] 33) = W0 := ⟨_, rfl⟩
  have hb0 : Below w.heap.size w W0 := by rw [← hW0]; exact below_new _ _
  have r0 : Rt W0 w.heap.size 33 [.int .i64 ix, .int .i64 st, .string cf0, .string dt0] := by rw [← hW0]; exact Rt.new w _ _
  have HB0 := Lib.hid hb0
  have HR0 := Lib.hid r0
  have HE := Lib.hid hW0
  clear hT hb0 r0 hW0 hw4
  go_enter Tryd.func9, Tryd.ntmps9
  go_wp2_with fail
  rw [HE.out]
  refine (begun10_any W0 (hTT _ HB0.out)).mono ?_
  rintro e k1 ⟨rfl, h1⟩
  have hr1 := HR0.out.below h1
  have HB1 := Lib.hid (HB0.out.trans (h1.mono HB0.out.size))
  have HR1 := Lib.hid hr1
  have x0 := hr1.cell (j := 0) rfl
  have y0 := hr1.frz 0
  have x1 := hr1.cell (j := 1) rfl
  have y1 := hr1.frz 1
  have x2 := hr1.cell (j := 2) rfl
  have y2 := hr1.frz 2
  have x3 := hr1.cell (j := 3) rfl
  have y3 := hr1.frz 3
  clear hr1 h1 HR0 HB0 HE
  obtain ⟨cf, hcf⟩ : ∃ q, cutS cf0 60 = q := ⟨_, rfl⟩
  obtain ⟨dt, hdt⟩ : ∃ q, cutS dt0 200 = q := ⟨_, rfl⟩
  have hcs : cf.size ≤ 60 := by rw [← hcf]; exact cutS_size _ _
  have hds : dt.size ≤ 200 := by rw [← hdt]; exact cutS_size _ _
  have hlc := fun W => lcut_to cf0 cf 60 W (by omega) hcf
  have hld := fun W => lcut_to dt0 dt 200 W (by omega) hdt
  clear hcf hdt
  go_wp2_with fail
  have hx : Rt k1.drew w.heap.size 33 [.int .i64 ix, .int .i64 st, .string cf0, .string dt0] := HR1.out
  have hb : Below w.heap.size w k1.drew := HB1.out.drew
  have z0 := x0; have z1 := x1; have z2 := x2; have z3 := x3; have v0 := y0; have v1 := y1; have v2 := y2; have v3 := y3
  clear x0 x1 x2 x3 y0 y1 y2 y3
  have x0 := hx.cell (j := 0) rfl
  have y0 := hx.frz 0
  have x1 := hx.cell (j := 1) rfl
  have y1 := hx.frz 1
  have x2 := hx.cell (j := 2) rfl
  have y2 := hx.frz 2
  have x3 := hx.cell (j := 3) rfl
  have y3 := hx.frz 3
  refine wp_meet10s (fun a b W => ∃ wo, W = wo ∧ b = (((((((a.put (some 22) (.pointer (some ⟨w.heap.size, 2, none⟩))).put (some 23) (.string cf0)).put (some 24) (.string cf)).put (some 25) (.pointer (some ⟨w.heap.size, 3, none⟩))).put (some 26) (.string dt0)).put (some 27) (.string dt)).put (some 28) (.pointer (some ⟨w.heap.size, 2, none⟩))).put (some 29) (.pointer (some ⟨w.heap.size, 3, none⟩)) ∧ Rt wo w.heap.size 33 [.int .i64 ix, .int .i64 st, .string cf, .string dt] ∧ Below w.heap.size w wo) ?_ ?_
  · go_region_with (first | (go_at_call_of 27 (Value.string cf0); refine (hlc _).mono ?_; rintro e wz ⟨rfl, rfl⟩) | (go_at_call_of 27 (Value.string dt0); refine (hld _).mono ?_; rintro e wz ⟨rfl, rfl⟩))
    all_goals
      refine ⟨_, rfl, ?_, ?_, ?_⟩
      · simp only [Act.put, List.setIfInBounds_toArray, List.set_cons_zero, List.set_cons_succ]
      · exact (HR1.out.set 2 (.string cf)).set 3 (.string dt)
      · exact (below_set10 (below_set10 HB1.out 2 (g := w.heap.size) (.string cf) (Nat.le_refl _)) 3 (g := w.heap.size) (.string dt) (Nat.le_refl _)).drew
  rintro b k2 ⟨wo, rfl, rfl, hx2, hb2⟩
  have HR2 := Lib.hid hx2
  have HB2 := Lib.hid hb2
  clear HR1 HB1 x0 x1 x2 x3 y0 y1 y2 y3 z0 z1 z2 z3 v0 v1 v2 v3 hlc hld
  have x0 := hx2.cell (j := 0) rfl
  have y0 := hx2.frz 0
  have x1 := hx2.cell (j := 1) rfl
  have y1 := hx2.frz 1
  have x2 := hx2.cell (j := 2) rfl
  have y2 := hx2.frz 2
  have x3 := hx2.cell (j := 3) rfl
  have y3 := hx2.frz 3
  clear hx2 hb2
  go_wp2_with fail
  · obtain ⟨n, rfl⟩ : ∃ n : Nat, a1 = (n : Int) := ⟨a1.toNat, by omega⟩
    have hmk := make_zer10 n (by omega) k2
    rw [hmk]
    have hcv : (convert 46 9 (.slice (some ⟨k2.heap.size, 0, none⟩) n n)).run Tryd.prog (k2.alloc (.cells (madeCells #[.int .u8 0] n) 5)) = .ok (.string (zerS n)) (k2.alloc (.cells (madeCells #[.int .u8 0] n) 5)) := conv_zer10 n (by omega) (by omega) k2
    have hzs := zerS_size n
    obtain ⟨dx, hdx⟩ : ∃ dx, zerS n = dx := ⟨_, rfl⟩
    rw [hdx] at hzs hcv
    have hxs : dx.size ≤ 10000 := by omega
    clear hdx hmk
    have hr9 := HR2.out.below (below_new k2 (.cells (madeCells #[.int .u8 0] n) 5))
    have hb9 := HB2.out.trans ((below_new k2 (.cells (madeCells #[.int .u8 0] n) 5)).mono HB2.out.size)
    obtain ⟨W4, hW4⟩ : ∃ W4, k2.alloc (.cells (madeCells #[.int .u8 0] n) 5) = W4 := ⟨_, rfl⟩
    rw [hW4] at hcv hr9 hb9 ⊢
    clear hW4 x0 x1 x2 x3 y0 y1 y2 y3
    have y3 := hr9.frz 3
    have x0 := hr9.cell (j := 0) rfl
    have x1 := hr9.cell (j := 1) rfl
    have x2 := hr9.cell (j := 2) rfl
    have x3 := hr9.cell (j := 3) rfl
    have HR9 := Lib.hid hr9
    have HB9 := Lib.hid hb9
    clear hr9 hb9 HR2 HB2
    go_wp2_with fail
    obtain ⟨W5, hW5⟩ : ∃ W5, (W4.setCell ⟨w.heap.size, 3, none⟩ (.string dx)) = W5 := ⟨_, rfl⟩
    have hr3 : Rt W5 w.heap.size 33 [.int .i64 ix, .int .i64 st, .string cf, .string dx] := by rw [← hW5]; exact HR9.out.set 3 (.string dx)
    have hb3 : Below w.heap.size w W5 := by rw [← hW5]; exact below_set10 HB9.out 3 (g := w.heap.size) (.string dx) (Nat.le_refl _)
    rw [hW5]
    clear hW5 HR9 HB9 hcv y3 x0 x1 x2 x3
    obtain ⟨m, hm⟩ : ∃ m, snapB10 ⟨ix, st, cf, dx⟩ = m := ⟨_, rfl⟩
    obtain ⟨S, hS⟩ : ∃ S, (⟨m.toArray⟩ : ByteArray) = S := ⟨_, rfl⟩
    have HM := Lib.hid hm
    have HS := Lib.hid hS
    clear hm hS
    refine (snap_v ix st cf dx m _ (by omega) (by omega) (hTT _ hb3) HM.out).mono ?_
    rintro e k4 ⟨v4, rfl, ho, h4⟩
    obtain ⟨Bo, hBo⟩ : ∃ B, OwnB B v4 m k4 := ⟨_, ho⟩
    clear ho
    have ho := hBo
    clear hBo
    have HR4 := Lib.hid (hr3.below h4)
    have HB4 := Lib.hid (hb3.trans (h4.mono hb3.size))
    have HO4 := Lib.hid ho
    clear hr3 hb3 h4 ho
    go_wp2_with fail
    have hx : Rt k4.drew w.heap.size 33 [.int .i64 ix, .int .i64 st, .string cf, .string dx] := HR4.out
    have ho : OwnB Bo v4 m k4.drew := HO4.out
    have hb : Below w.heap.size w k4.drew := HB4.out.drew
    clear HR4 HO4 HB4
    refine wp_region_noPanic ?_
    refine wp_region_held_drew (S := fun W => Rt W w.heap.size 33 [.int .i64 ix, .int .i64 st, .string cf, .string dx] ∧ (convert 46 9 v4).run Tryd.prog W = .ok (.string S) W) (by kernel_rfl) ?_ (fun hHeld => ?_)
    · exact ⟨hx, conv_byt (Byt.of_own ho) HS.out⟩
    generalize k4.drew = k7 at *
    refine wpAnyH_take (i := 0) (oi := { dst := some 42, op := Op.move (Operand.tmp 14), type := 46, pos := "law.go:110", after := #[], guard := none }) (v := v4) rfl (by kernel_rfl) (by kernel_rfl) (by kernel_rfl) (fun _ _ _ h => h) (Or.inl ⟨by rfl, fun w hSw => ?_⟩) (by assumption) ?_
    · (try dsimp only at hSw)
      go_simp
    try simp only [Act.put, List.setIfInBounds_toArray, List.set_cons_zero, List.set_cons_succ]
    refine wpAnyH_take (i := 1) (oi := { dst := some 43, op := Op.convert 46 9 (Operand.tmp 42), type := 9, pos := "law.go:110", after := #[{ on := 0, ground := Ground.data }], guard := none }) (v := .string S) rfl (by kernel_rfl) (by kernel_rfl) (by kernel_rfl) (fun _ _ _ h => h) (Or.inl ⟨by rfl, fun w hSw => ?_⟩) (by assumption) ?_
    · (try dsimp only at hSw)
      have qc := hSw.2
      clear hSw
      go_simp
    try simp only [Act.put, List.setIfInBounds_toArray, List.set_cons_zero, List.set_cons_succ]
    refine wpAnyH_take (i := 2) (oi := { dst := some 44, op := Op.load 33 (Operand.tmp 6), type := 33, pos := "law.go:110", after := #[], guard := none }) (v := .agg #[.int .i64 ix, .int .i64 st, .string cf, .string dx]) rfl (by kernel_rfl) (by kernel_rfl) (by kernel_rfl) (fun _ _ _ h => h) (Or.inl ⟨by rfl, fun w hSw => ?_⟩) (by assumption) ?_
    · (try dsimp only at hSw)
      have q0 := hSw.1.cell (j := 0) rfl
      have q1 := hSw.1.cell (j := 1) rfl
      have q2 := hSw.1.cell (j := 2) rfl
      have q3 := hSw.1.cell (j := 3) rfl
      clear hSw
      go_simp
    try simp only [Act.put, List.setIfInBounds_toArray, List.set_cons_zero, List.set_cons_succ]
    refine wpAnyH_ready (rs := [3]) (by kernel_rfl) (by simp) ?_
    refine AllReadyH.cons (o := { dst := some 45, op := Op.call { callee := Callee.value (Operand.func 29), args := #[Operand.tmp 44], argTypes := #[33] }, type := 46, pos := "law.go:110", after := #[{ on := 2, ground := Ground.data }], guard := none }) rfl (fun K hK => ?_) AllReadyH.nil
    go_simp
    go_at_call 29
    refine (rsnap_v ix st cf dx m _ (by omega) (by omega) HM.out).mono ?_
    rintro e kq ⟨v9, rfl, ho9, hq⟩
    have m3 := conv_byt (Byt.of_own ho9) HS.out
    replace hx := hx.below hq
    replace ho := ho.below hq
    replace hb := hb.trans (hq.mono hb.size)
    clear hq ho9
    refine hK.out _ _ ?_ (fun hHeld => ?_)
    · exact ⟨hx, conv_byt (Byt.of_own ho) HS.out⟩
    clear hK K
    try simp only [Act.put, List.setIfInBounds_toArray, List.set_cons_zero, List.set_cons_succ]
    refine wpAnyH_ready (rs := [4]) (by kernel_rfl) (by simp) ?_
    refine AllReadyH.cons (o := { dst := some 46, op := Op.convert 46 9 (Operand.tmp 45), type := 9, pos := "law.go:110", after := #[{ on := 3, ground := Ground.data }], guard := none }) rfl (fun K hK => ?_) AllReadyH.nil
    go_simp
    clear m3
    refine hK.out _ _ ?_ (fun hHeld => ?_)
    · exact ⟨hx, conv_byt (Byt.of_own ho) HS.out⟩
    clear hK K
    try simp only [Act.put, List.setIfInBounds_toArray, List.set_cons_zero, List.set_cons_succ]
    refine wpAnyH_take (i := 5) (oi := { dst := some 47, op := Op.binOp BinOp.neq 9 (Operand.tmp 43) (Operand.tmp 46) 9, type := 4, pos := "law.go:110", after := #[{ on := 1, ground := Ground.data }, { on := 4, ground := Ground.data }], guard := none }) (v := .bool false) rfl (by kernel_rfl) (by kernel_rfl) (by kernel_rfl) (fun _ _ _ h => h) (Or.inl ⟨by rfl, fun w hSw => ?_⟩) (by assumption) ?_
    · (try dsimp only at hSw)
      go_simp
    try simp only [Act.put, List.setIfInBounds_toArray, List.set_cons_zero, List.set_cons_succ]
    refine wpAnyH_done (by kernel_rfl) ?_ _
    refine NoPanic.normal ?_
    obtain ⟨y, hy⟩ : ∃ y, maySnp10 ⟨ix, st, cf, dx⟩ = y := ⟨_, rfl⟩
    have HY := Lib.hid hy
    clear hy
    have x0 := hx.cell (j := 0) rfl
    have x1 := hx.cell (j := 1) rfl
    have x2 := hx.cell (j := 2) rfl
    have x3 := hx.cell (j := 3) rfl
    cases y
    · have hm0 : m = [] := by rw [← HM.out]; unfold snapB10; rw [if_pos HY.out]
      subst hm0
      rcases own_nz ho rfl with rfl | ⟨g, o, c, rfl⟩
      all_goals
        have HB := Lib.hid hb
        clear hb ho hx
        go_wp2_with fail
        refine (rmaySnap_any ⟨ix, st, cf, dx⟩ _ (show cf.size ≤ 1050000 by omega) (show dx.size ≤ 1050000 by omega)).mono ?_
        rintro e kq ⟨rfl, hq⟩
        rw [HY.out]
        have hb9 := HB.out.trans (hq.mono HB.out.size)
        clear hq
        go_wp2
        go_ret
        exact ⟨rfl, hb9⟩
    · have hml := snapB10_len HY.out
      rw [HM.out] at hml
      obtain ⟨hm6, hm3⟩ := hml
      have hz6 : ¬ ((m.length : Int) = 0) := by omega
      obtain ⟨A4, c4, rfl⟩ := byt_slice (Byt.of_own ho)
      have hby4 := Byt.of_own ho
      have HO := Lib.hid ho; have HB := Lib.hid hb; have HX := Lib.hid hx
      clear ho hb hx x0 x1 x2 x3
      go_wp2_with (at_builtin; refine wpList_append_byt_at rfl _ _ rfl kq.heap.size _ _ _ _ _ rfl (ownB_nil kq.heap.size _) rfl hby4 ?x1 (Nat.le_refl _) ?_)
      case x1 => simp; omega
      intro v8 w8 hown8 hb8 _
      have HO8 := Lib.hid hown8
      have HB8 := Lib.hid (HB.out.trans (hb8.mono HB.out.size))
      have HX8 := Lib.hid (HX.out.below hb8)
      have HK8 := Lib.hid hb8.size
      have HZ8 := Lib.hid hb8
      clear hown8 hb8 hby4
      go_wp2_with fail
      refine (short_any A5 a5.length c5 w.heap.size 20 a5 w8 (HA5.out.below HB8.out (Nat.le_refl _)) (by omega)).mono ?_
      rintro e wr' ⟨A9, c9, rfl, hby9, rfl⟩
      have hl9 : (a5.take 20).length ≤ 20 := by rw [List.length_take]; omega
      obtain ⟨z, hz⟩ : ∃ z, a5.take 20 = z := ⟨_, rfl⟩
      rw [hz] at hby9 hl9 ⊢
      clear hz
      have hown8 := HO8.out
      have hbs : kq.heap.size ≤ w8.heap.size := HK8.out
      go_wp2_with (at_builtin; refine wpList_append_byt_at rfl _ _ rfl kq.heap.size _ _ _ _ _ rfl hown8 rfl hby9 ?x1 hbs ?_)
      case x1 => omega
      intro v10 w10 hown10 hb10 _
      have hl10 : (m ++ z).length ≤ 1050000 := by rw [List.length_append]; omega
      have hgp := getS10_put HY.out z
      rw [HM.out] at hgp
      have hkk := HZ8.out.trans hb10
      have HB10 := Lib.hid (HB.out.trans (hkk.mono HB.out.size))
      have HX10 := Lib.hid (HX.out.below hkk)
      have HM10 := Lib.hid (HO.out.below hkk)
      have hgs := wget_v v10 w10.heap.size (m ++ z) w10 (Byt.of_own hown10) (Nat.le_refl _) hl10 (hTT _ HB10.out) ix st cf dx m.length 0 hgp
      have HGS := Lib.hid hgs
      clear hgs hgp hown10 hb10 hby9 hown8 HO8 HB8 HX8 HZ8 hkk HO HB HX
      go_wp2_with fail
      refine HGS.out.mono ?_
      rintro e w11 ⟨rfl, hb11⟩
      have hx11 := HX10.out.below hb11
      have hlx := hx11.lt
      have x0 := hx11.cell (j := 0) rfl
      have x1 := hx11.cell (j := 1) rfl
      have x2 := hx11.cell (j := 2) rfl
      have x3 := hx11.cell (j := 3) rfl
      have HB11 := Lib.hid (HB10.out.trans (hb11.mono HB10.out.size))
      have HM11 := Lib.hid (HM10.out.below hb11)
      clear HGS HB10 HX10 HM10 hb11 hx11
      go_wp2_with fail
      refine (reqSnap_any ⟨ix, st, cf, dx⟩ ⟨ix, st, cf, dx⟩ _).mono ?_
      rintro e w12 ⟨rfl, hb12⟩
      have heq : eqSnp10 ⟨ix, st, cf, dx⟩ ⟨ix, st, cf, dx⟩ = true := by simp [eqSnp10]
      rw [heq]
      have hbn := below_new w11 (.cells #[.int .i64 ix, .int .i64 st, .string cf, .string dx] 33)
      have hbb := hbn.trans (hb12.mono hbn.size)
      have HB12 := Lib.hid (HB11.out.trans (hbb.mono HB11.out.size))
      have HM12 := Lib.hid (HM11.out.below hbb)
      have hsp : ∀ (j : Nat) (hj : j < m.length) (y : UInt8), y ≠ m[j]'hj → ∃ e, e ≠ 0 ∧ getS10 (m.set j y) = (zSnp, 0, e) := by
        have e := HM.out
        subst e
        exact fun j hj y hy => getS10_spoilt HY.out hj hy
      have hcu : ∀ j, j < m.length → getS10 (m.take j) = (zSnp, 0, 2) := by
        have e := HM.out
        subst e
        exact fun j hj => getS10_cut HY.out hj
      have HSP := Lib.hid hsp
      have HCU := Lib.hid hcu
      have hmc : m.length ≤ c4 := (byt_len (Byt.of_own HM12.out)).2
      clear hb12 hbn hbb HB11 HM11 x0 x1 x2 x3 hlx hsp hcu heq
      by_cases hcu : 0 < a2 ∧ a2 ≤ m.length
      · obtain ⟨x, rfl⟩ : ∃ x : Nat, a2 = (x : Int) := ⟨a2.toNat, by omega⟩
        obtain ⟨hc1, hc2⟩ := hcu
        obtain ⟨p, hp⟩ : ∃ p, m.length - x = p := ⟨_, rfl⟩
        have hp2 : (m.length : Int) - x = (p : Int) := by omega
        have hp4 : p ≤ c4 := by omega
        have hp5 : p < m.length := by omega
        have hgc := HCU.out p hp5
        have hgs := fun (W : World) (hW : Below w12.heap.size w12 W) => wget_v (.slice A4 p c4) W.heap.size (m.take p) W (byt_take10 (n := p) (Byt.of_own (HM12.out.below hW)) (by omega)) (Nat.le_refl _) (by rw [List.length_take]; omega) (hTT _ (HB12.out.trans (hW.mono HB12.out.size))) 0 0 ⟨#[]⟩ ⟨#[]⟩ 0 2 hgc
        have HGS := Lib.hid hgs
        clear hgs hgc hp
        go_wp2_with fail
        refine (HGS.out _ (Below.refl _ _)).mono ?_
        rintro e w13 ⟨rfl, hb13⟩
        have HB := Lib.hid (HB12.out.trans (hb13.mono HB12.out.size))
        have HO := Lib.hid (HM12.out.below hb13)
        clear HGS hb13 HB12 HM12 HCU
        by_cases h3 : a3 < 0
        · go_wp2_with fail
          go_ret
          exact ⟨rfl, HB.out⟩
        · by_cases hX : X = 0
          · subst hX
            have hX0 : ((0 : UInt8).toNat : Int) = 0 := rfl
            rw [hX0]
            go_wp2_with fail
            go_ret
            exact ⟨rfl, HB.out⟩
          · have hX1 : ¬ ((X.toNat : Int) = 0) := fun e => hX (UInt8.toNat.inj (by have : (0 : UInt8).toNat = 0 := rfl; omega))
            have hX2 : ((X.toNat : Int) == 0) = false := by simpa using hX1
            have hby := Byt.of_own HO.out
            go_wp2_with (at_builtin; refine wpList_append_byt_at rfl _ _ rfl w.heap.size _ _ _ _ _ rfl (ownB_nil w.heap.size _) rfl hby ?y1 HB.out.size ?_)
            case y1 => first | omega | (simp; omega)
            intro v20 w20 hown20 hb20 _
            have hb21 := HB.out.trans hb20
            obtain ⟨A20, c20, hv20⟩ := own_slice hown20
            subst hv20
            have hmp : (0 : Int) < m.length := by omega
            obtain ⟨j, hj⟩ : ∃ j : Nat, a3 % (m.length : Int) = (j : Int) := ⟨(a3 % (m.length : Int)).toNat, by have := Int.emod_nonneg a3 (show (m.length : Int) ≠ 0 by omega); omega⟩
            have hjl : j < m.length := by have := Int.emod_lt_of_pos a3 hmp; omega
            obtain ⟨g, hA, hlo, hhi, hfz, hcn⟩ := own_at10 hown20 rfl j hjl
            subst hA
            have hfj := hfz j
            obtain ⟨y0, hy0⟩ : ∃ y, m[j]'hjl = y := ⟨_, rfl⟩
            obtain ⟨y, hy⟩ : ∃ y, y0 ^^^ X = y := ⟨_, rfl⟩
            have hne : y ≠ m[j]'hjl := by
              rw [hy0, ← hy]
              intro e
              have h := congrArg (fun z => y0 ^^^ z) e
              simp only [← UInt8.xor_assoc, UInt8.xor_self, UInt8.zero_xor] at h
              exact hX h
            obtain ⟨e, he, hge⟩ := HSP.out j hjl y hne
            rw [hy0] at hcn
            have hxor : bits BinOp.xor IntKind.u8 (y0.toNat : Int) (X.toNat : Int) = (y.toNat : Int) := by rw [u8_xor, hy]
            have hset := own_set10 (y := y) hown20 rfl hjl
            have hbs := hb21.setCell (p := ⟨g, j, none⟩) hlo (.int .u8 (y.toNat : Int))
            obtain ⟨W21, hW21⟩ : ∃ W, w20.setCell ⟨g, j, none⟩ (.int .u8 (y.toNat : Int)) = W := ⟨_, rfl⟩
            rw [hW21] at hset hbs
            have hgs := wget_v _ W21.heap.size (m.set j y) W21 (Byt.of_own hset) (Nat.le_refl _) (by rw [List.length_set]; omega) (hTT _ hbs) 0 0 ⟨#[]⟩ ⟨#[]⟩ 0 e hge
            have HGS := Lib.hid hgs
            have HBS := Lib.hid hbs
            have he1 : ¬ ((e : Int) = 0) := by omega
            have he2 : ((e : Int) == 0) = false := by simpa using he1
            have he3 : ((e : Int) != 0) = true := by rw [bne, he2]; rfl
            clear hgs hbs hset hge hne hy hy0 hfz hown20 hb20 hb21 hby HSP
            go_wp2_with fail
            refine HGS.out.mono ?_
            rintro e' w22 ⟨rfl, hb22⟩
            have HB22 := Lib.hid (HBS.out.trans (hb22.mono HBS.out.size))
            clear hb22 HGS
            go_wp2_with fail
            go_ret
            exact ⟨by first | rfl | exact congrArg (fun b => Ending.returned (Value.bool b)) he3 | simp [he1] | simp [go_sem, he1, he2, he3], HB22.out⟩
      · have hcv : a2 ≤ 0 ∨ (0 < a2 ∧ (m.length : Int) < a2) := by omega
        have HB := HB12
        have HO := HM12
        clear HB12 HM12 HCU
        rcases hcv with hc1 | ⟨hc1, hc2⟩
        · by_cases h3 : a3 < 0
          · go_wp2_with fail
            go_ret
            exact ⟨rfl, HB.out⟩
          · by_cases hX : X = 0
            · subst hX
              have hX0 : ((0 : UInt8).toNat : Int) = 0 := rfl
              rw [hX0]
              go_wp2_with fail
              go_ret
              exact ⟨rfl, HB.out⟩
            · have hX1 : ¬ ((X.toNat : Int) = 0) := fun e => hX (UInt8.toNat.inj (by have : (0 : UInt8).toNat = 0 := rfl; omega))
              have hX2 : ((X.toNat : Int) == 0) = false := by simpa using hX1
              have hby := Byt.of_own HO.out
              go_wp2_with (at_builtin; refine wpList_append_byt_at rfl _ _ rfl w.heap.size _ _ _ _ _ rfl (ownB_nil w.heap.size _) rfl hby ?y1 HB.out.size ?_)
              case y1 => first | omega | (simp; omega)
              intro v20 w20 hown20 hb20 _
              have hb21 := HB.out.trans hb20
              obtain ⟨A20, c20, hv20⟩ := own_slice hown20
              subst hv20
              have hmp : (0 : Int) < m.length := by omega
              obtain ⟨j, hj⟩ : ∃ j : Nat, a3 % (m.length : Int) = (j : Int) := ⟨(a3 % (m.length : Int)).toNat, by have := Int.emod_nonneg a3 (show (m.length : Int) ≠ 0 by omega); omega⟩
              have hjl : j < m.length := by have := Int.emod_lt_of_pos a3 hmp; omega
              obtain ⟨g, hA, hlo, hhi, hfz, hcn⟩ := own_at10 hown20 rfl j hjl
              subst hA
              have hfj := hfz j
              obtain ⟨y0, hy0⟩ : ∃ y, m[j]'hjl = y := ⟨_, rfl⟩
              obtain ⟨y, hy⟩ : ∃ y, y0 ^^^ X = y := ⟨_, rfl⟩
              have hne : y ≠ m[j]'hjl := by
                rw [hy0, ← hy]
                intro e
                have h := congrArg (fun z => y0 ^^^ z) e
                simp only [← UInt8.xor_assoc, UInt8.xor_self, UInt8.zero_xor] at h
                exact hX h
              obtain ⟨e, he, hge⟩ := HSP.out j hjl y hne
              rw [hy0] at hcn
              have hxor : bits BinOp.xor IntKind.u8 (y0.toNat : Int) (X.toNat : Int) = (y.toNat : Int) := by rw [u8_xor, hy]
              have hset := own_set10 (y := y) hown20 rfl hjl
              have hbs := hb21.setCell (p := ⟨g, j, none⟩) hlo (.int .u8 (y.toNat : Int))
              obtain ⟨W21, hW21⟩ : ∃ W, w20.setCell ⟨g, j, none⟩ (.int .u8 (y.toNat : Int)) = W := ⟨_, rfl⟩
              rw [hW21] at hset hbs
              have hgs := wget_v _ W21.heap.size (m.set j y) W21 (Byt.of_own hset) (Nat.le_refl _) (by rw [List.length_set]; omega) (hTT _ hbs) 0 0 ⟨#[]⟩ ⟨#[]⟩ 0 e hge
              have HGS := Lib.hid hgs
              have HBS := Lib.hid hbs
              have he1 : ¬ ((e : Int) = 0) := by omega
              have he2 : ((e : Int) == 0) = false := by simpa using he1
              have he3 : ((e : Int) != 0) = true := by rw [bne, he2]; rfl
              clear hgs hbs hset hge hne hy hy0 hfz hown20 hb20 hb21 hby HSP
              go_wp2_with fail
              refine HGS.out.mono ?_
              rintro e' w22 ⟨rfl, hb22⟩
              have HB22 := Lib.hid (HBS.out.trans (hb22.mono HBS.out.size))
              clear hb22 HGS
              go_wp2_with fail
              go_ret
              exact ⟨by first | rfl | exact congrArg (fun b => Ending.returned (Value.bool b)) he3 | simp [he1] | simp [go_sem, he1, he2, he3], HB22.out⟩
        · by_cases h3 : a3 < 0
          · go_wp2_with fail
            go_ret
            exact ⟨rfl, HB.out⟩
          · by_cases hX : X = 0
            · subst hX
              have hX0 : ((0 : UInt8).toNat : Int) = 0 := rfl
              rw [hX0]
              go_wp2_with fail
              go_ret
              exact ⟨rfl, HB.out⟩
            · have hX1 : ¬ ((X.toNat : Int) = 0) := fun e => hX (UInt8.toNat.inj (by have : (0 : UInt8).toNat = 0 := rfl; omega))
              have hX2 : ((X.toNat : Int) == 0) = false := by simpa using hX1
              have hby := Byt.of_own HO.out
              go_wp2_with (at_builtin; refine wpList_append_byt_at rfl _ _ rfl w.heap.size _ _ _ _ _ rfl (ownB_nil w.heap.size _) rfl hby ?y1 HB.out.size ?_)
              case y1 => first | omega | (simp; omega)
              intro v20 w20 hown20 hb20 _
              have hb21 := HB.out.trans hb20
              obtain ⟨A20, c20, hv20⟩ := own_slice hown20
              subst hv20
              have hmp : (0 : Int) < m.length := by omega
              obtain ⟨j, hj⟩ : ∃ j : Nat, a3 % (m.length : Int) = (j : Int) := ⟨(a3 % (m.length : Int)).toNat, by have := Int.emod_nonneg a3 (show (m.length : Int) ≠ 0 by omega); omega⟩
              have hjl : j < m.length := by have := Int.emod_lt_of_pos a3 hmp; omega
              obtain ⟨g, hA, hlo, hhi, hfz, hcn⟩ := own_at10 hown20 rfl j hjl
              subst hA
              have hfj := hfz j
              obtain ⟨y0, hy0⟩ : ∃ y, m[j]'hjl = y := ⟨_, rfl⟩
              obtain ⟨y, hy⟩ : ∃ y, y0 ^^^ X = y := ⟨_, rfl⟩
              have hne : y ≠ m[j]'hjl := by
                rw [hy0, ← hy]
                intro e
                have h := congrArg (fun z => y0 ^^^ z) e
                simp only [← UInt8.xor_assoc, UInt8.xor_self, UInt8.zero_xor] at h
                exact hX h
              obtain ⟨e, he, hge⟩ := HSP.out j hjl y hne
              rw [hy0] at hcn
              have hxor : bits BinOp.xor IntKind.u8 (y0.toNat : Int) (X.toNat : Int) = (y.toNat : Int) := by rw [u8_xor, hy]
              have hset := own_set10 (y := y) hown20 rfl hjl
              have hbs := hb21.setCell (p := ⟨g, j, none⟩) hlo (.int .u8 (y.toNat : Int))
              obtain ⟨W21, hW21⟩ : ∃ W, w20.setCell ⟨g, j, none⟩ (.int .u8 (y.toNat : Int)) = W := ⟨_, rfl⟩
              rw [hW21] at hset hbs
              have hgs := wget_v _ W21.heap.size (m.set j y) W21 (Byt.of_own hset) (Nat.le_refl _) (by rw [List.length_set]; omega) (hTT _ hbs) 0 0 ⟨#[]⟩ ⟨#[]⟩ 0 e hge
              have HGS := Lib.hid hgs
              have HBS := Lib.hid hbs
              have he1 : ¬ ((e : Int) = 0) := by omega
              have he2 : ((e : Int) == 0) = false := by simpa using he1
              have he3 : ((e : Int) != 0) = true := by rw [bne, he2]; rfl
              clear hgs hbs hset hge hne hy hy0 hfz hown20 hb20 hb21 hby HSP
              go_wp2_with fail
              refine HGS.out.mono ?_
              rintro e' w22 ⟨rfl, hb22⟩
              have HB22 := Lib.hid (HBS.out.trans (hb22.mono HBS.out.size))
              clear hb22 HGS
              go_wp2_with fail
              go_ret
              exact ⟨by first | rfl | exact congrArg (fun b => Ending.returned (Value.bool b)) he3 | simp [he1] | simp [go_sem, he1, he2, he3], HB22.out⟩
  · have hr3 := HR2.out
    have hb3 := HB2.out
    have hxs : dt.size ≤ 10000 := by omega
    clear HR2 HB2 x0 x1 x2 x3 y0 y1 y2 y3
    obtain ⟨m, hm⟩ : ∃ m, snapB10 ⟨ix, st, cf, dt⟩ = m := ⟨_, rfl⟩
    obtain ⟨S, hS⟩ : ∃ S, (⟨m.toArray⟩ : ByteArray) = S := ⟨_, rfl⟩
    have HM := Lib.hid hm
    have HS := Lib.hid hS
    clear hm hS
    refine (snap_v ix st cf dt m _ (by omega) (by omega) (hTT _ hb3) HM.out).mono ?_
    rintro e k4 ⟨v4, rfl, ho, h4⟩
    obtain ⟨Bo, hBo⟩ : ∃ B, OwnB B v4 m k4 := ⟨_, ho⟩
    clear ho
    have ho := hBo
    clear hBo
    have HR4 := Lib.hid (hr3.below h4)
    have HB4 := Lib.hid (hb3.trans (h4.mono hb3.size))
    have HO4 := Lib.hid ho
    clear hr3 hb3 h4 ho
    go_wp2_with fail
    have hx : Rt k4.drew w.heap.size 33 [.int .i64 ix, .int .i64 st, .string cf, .string dt] := HR4.out
    have ho : OwnB Bo v4 m k4.drew := HO4.out
    have hb : Below w.heap.size w k4.drew := HB4.out.drew
    clear HR4 HO4 HB4
    refine wp_region_noPanic ?_
    refine wp_region_held_drew (S := fun W => Rt W w.heap.size 33 [.int .i64 ix, .int .i64 st, .string cf, .string dt] ∧ (convert 46 9 v4).run Tryd.prog W = .ok (.string S) W) (by kernel_rfl) ?_ (fun hHeld => ?_)
    · exact ⟨hx, conv_byt (Byt.of_own ho) HS.out⟩
    generalize k4.drew = k7 at *
    refine wpAnyH_take (i := 0) (oi := { dst := some 42, op := Op.move (Operand.tmp 14), type := 46, pos := "law.go:110", after := #[], guard := none }) (v := v4) rfl (by kernel_rfl) (by kernel_rfl) (by kernel_rfl) (fun _ _ _ h => h) (Or.inl ⟨by rfl, fun w hSw => ?_⟩) (by assumption) ?_
    · (try dsimp only at hSw)
      go_simp
    try simp only [Act.put, List.setIfInBounds_toArray, List.set_cons_zero, List.set_cons_succ]
    refine wpAnyH_take (i := 1) (oi := { dst := some 43, op := Op.convert 46 9 (Operand.tmp 42), type := 9, pos := "law.go:110", after := #[{ on := 0, ground := Ground.data }], guard := none }) (v := .string S) rfl (by kernel_rfl) (by kernel_rfl) (by kernel_rfl) (fun _ _ _ h => h) (Or.inl ⟨by rfl, fun w hSw => ?_⟩) (by assumption) ?_
    · (try dsimp only at hSw)
      have qc := hSw.2
      clear hSw
      go_simp
    try simp only [Act.put, List.setIfInBounds_toArray, List.set_cons_zero, List.set_cons_succ]
    refine wpAnyH_take (i := 2) (oi := { dst := some 44, op := Op.load 33 (Operand.tmp 6), type := 33, pos := "law.go:110", after := #[], guard := none }) (v := .agg #[.int .i64 ix, .int .i64 st, .string cf, .string dt]) rfl (by kernel_rfl) (by kernel_rfl) (by kernel_rfl) (fun _ _ _ h => h) (Or.inl ⟨by rfl, fun w hSw => ?_⟩) (by assumption) ?_
    · (try dsimp only at hSw)
      have q0 := hSw.1.cell (j := 0) rfl
      have q1 := hSw.1.cell (j := 1) rfl
      have q2 := hSw.1.cell (j := 2) rfl
      have q3 := hSw.1.cell (j := 3) rfl
      clear hSw
      go_simp
    try simp only [Act.put, List.setIfInBounds_toArray, List.set_cons_zero, List.set_cons_succ]
    refine wpAnyH_ready (rs := [3]) (by kernel_rfl) (by simp) ?_
    refine AllReadyH.cons (o := { dst := some 45, op := Op.call { callee := Callee.value (Operand.func 29), args := #[Operand.tmp 44], argTypes := #[33] }, type := 46, pos := "law.go:110", after := #[{ on := 2, ground := Ground.data }], guard := none }) rfl (fun K hK => ?_) AllReadyH.nil
    go_simp
    go_at_call 29
    refine (rsnap_v ix st cf dt m _ (by omega) (by omega) HM.out).mono ?_
    rintro e kq ⟨v9, rfl, ho9, hq⟩
    have m3 := conv_byt (Byt.of_own ho9) HS.out
    replace hx := hx.below hq
    replace ho := ho.below hq
    replace hb := hb.trans (hq.mono hb.size)
    clear hq ho9
    refine hK.out _ _ ?_ (fun hHeld => ?_)
    · exact ⟨hx, conv_byt (Byt.of_own ho) HS.out⟩
    clear hK K
    try simp only [Act.put, List.setIfInBounds_toArray, List.set_cons_zero, List.set_cons_succ]
    refine wpAnyH_ready (rs := [4]) (by kernel_rfl) (by simp) ?_
    refine AllReadyH.cons (o := { dst := some 46, op := Op.convert 46 9 (Operand.tmp 45), type := 9, pos := "law.go:110", after := #[{ on := 3, ground := Ground.data }], guard := none }) rfl (fun K hK => ?_) AllReadyH.nil
    go_simp
    clear m3
    refine hK.out _ _ ?_ (fun hHeld => ?_)
    · exact ⟨hx, conv_byt (Byt.of_own ho) HS.out⟩
    clear hK K
    try simp only [Act.put, List.setIfInBounds_toArray, List.set_cons_zero, List.set_cons_succ]
    refine wpAnyH_take (i := 5) (oi := { dst := some 47, op := Op.binOp BinOp.neq 9 (Operand.tmp 43) (Operand.tmp 46) 9, type := 4, pos := "law.go:110", after := #[{ on := 1, ground := Ground.data }, { on := 4, ground := Ground.data }], guard := none }) (v := .bool false) rfl (by kernel_rfl) (by kernel_rfl) (by kernel_rfl) (fun _ _ _ h => h) (Or.inl ⟨by rfl, fun w hSw => ?_⟩) (by assumption) ?_
    · (try dsimp only at hSw)
      go_simp
    try simp only [Act.put, List.setIfInBounds_toArray, List.set_cons_zero, List.set_cons_succ]
    refine wpAnyH_done (by kernel_rfl) ?_ _
    refine NoPanic.normal ?_
    obtain ⟨y, hy⟩ : ∃ y, maySnp10 ⟨ix, st, cf, dt⟩ = y := ⟨_, rfl⟩
    have HY := Lib.hid hy
    clear hy
    have x0 := hx.cell (j := 0) rfl
    have x1 := hx.cell (j := 1) rfl
    have x2 := hx.cell (j := 2) rfl
    have x3 := hx.cell (j := 3) rfl
    cases y
    · have hm0 : m = [] := by rw [← HM.out]; unfold snapB10; rw [if_pos HY.out]
      subst hm0
      rcases own_nz ho rfl with rfl | ⟨g, o, c, rfl⟩
      all_goals
        have HB := Lib.hid hb
        clear hb ho hx
        go_wp2_with fail
        refine (rmaySnap_any ⟨ix, st, cf, dt⟩ _ (show cf.size ≤ 1050000 by omega) (show dt.size ≤ 1050000 by omega)).mono ?_
        rintro e kq ⟨rfl, hq⟩
        rw [HY.out]
        have hb9 := HB.out.trans (hq.mono HB.out.size)
        clear hq
        go_wp2
        go_ret
        exact ⟨rfl, hb9⟩
    · have hml := snapB10_len HY.out
      rw [HM.out] at hml
      obtain ⟨hm6, hm3⟩ := hml
      have hz6 : ¬ ((m.length : Int) = 0) := by omega
      obtain ⟨A4, c4, rfl⟩ := byt_slice (Byt.of_own ho)
      have hby4 := Byt.of_own ho
      have HO := Lib.hid ho; have HB := Lib.hid hb; have HX := Lib.hid hx
      clear ho hb hx x0 x1 x2 x3
      go_wp2_with (at_builtin; refine wpList_append_byt_at rfl _ _ rfl kq.heap.size _ _ _ _ _ rfl (ownB_nil kq.heap.size _) rfl hby4 ?x1 (Nat.le_refl _) ?_)
      case x1 => simp; omega
      intro v8 w8 hown8 hb8 _
      have HO8 := Lib.hid hown8
      have HB8 := Lib.hid (HB.out.trans (hb8.mono HB.out.size))
      have HX8 := Lib.hid (HX.out.below hb8)
      have HK8 := Lib.hid hb8.size
      have HZ8 := Lib.hid hb8
      clear hown8 hb8 hby4
      go_wp2_with fail
      refine (short_any A5 a5.length c5 w.heap.size 20 a5 w8 (HA5.out.below HB8.out (Nat.le_refl _)) (by omega)).mono ?_
      rintro e wr' ⟨A9, c9, rfl, hby9, rfl⟩
      have hl9 : (a5.take 20).length ≤ 20 := by rw [List.length_take]; omega
      obtain ⟨z, hz⟩ : ∃ z, a5.take 20 = z := ⟨_, rfl⟩
      rw [hz] at hby9 hl9 ⊢
      clear hz
      have hown8 := HO8.out
      have hbs : kq.heap.size ≤ w8.heap.size := HK8.out
      go_wp2_with (at_builtin; refine wpList_append_byt_at rfl _ _ rfl kq.heap.size _ _ _ _ _ rfl hown8 rfl hby9 ?x1 hbs ?_)
      case x1 => omega
      intro v10 w10 hown10 hb10 _
      have hl10 : (m ++ z).length ≤ 1050000 := by rw [List.length_append]; omega
      have hgp := getS10_put HY.out z
      rw [HM.out] at hgp
      have hkk := HZ8.out.trans hb10
      have HB10 := Lib.hid (HB.out.trans (hkk.mono HB.out.size))
      have HX10 := Lib.hid (HX.out.below hkk)
      have HM10 := Lib.hid (HO.out.below hkk)
      have hgs := wget_v v10 w10.heap.size (m ++ z) w10 (Byt.of_own hown10) (Nat.le_refl _) hl10 (hTT _ HB10.out) ix st cf dt m.length 0 hgp
      have HGS := Lib.hid hgs
      clear hgs hgp hown10 hb10 hby9 hown8 HO8 HB8 HX8 HZ8 hkk HO HB HX
      go_wp2_with fail
      refine HGS.out.mono ?_
      rintro e w11 ⟨rfl, hb11⟩
      have hx11 := HX10.out.below hb11
      have hlx := hx11.lt
      have x0 := hx11.cell (j := 0) rfl
      have x1 := hx11.cell (j := 1) rfl
      have x2 := hx11.cell (j := 2) rfl
      have x3 := hx11.cell (j := 3) rfl
      have HB11 := Lib.hid (HB10.out.trans (hb11.mono HB10.out.size))
      have HM11 := Lib.hid (HM10.out.below hb11)
      clear HGS HB10 HX10 HM10 hb11 hx11
      go_wp2_with fail
      refine (reqSnap_any ⟨ix, st, cf, dt⟩ ⟨ix, st, cf, dt⟩ _).mono ?_
      rintro e w12 ⟨rfl, hb12⟩
      have heq : eqSnp10 ⟨ix, st, cf, dt⟩ ⟨ix, st, cf, dt⟩ = true := by simp [eqSnp10]
      rw [heq]
      have hbn := below_new w11 (.cells #[.int .i64 ix, .int .i64 st, .string cf, .string dt] 33)
      have hbb := hbn.trans (hb12.mono hbn.size)
      have HB12 := Lib.hid (HB11.out.trans (hbb.mono HB11.out.size))
      have HM12 := Lib.hid (HM11.out.below hbb)
      have hsp : ∀ (j : Nat) (hj : j < m.length) (y : UInt8), y ≠ m[j]'hj → ∃ e, e ≠ 0 ∧ getS10 (m.set j y) = (zSnp, 0, e) := by
        have e := HM.out
        subst e
        exact fun j hj y hy => getS10_spoilt HY.out hj hy
      have hcu : ∀ j, j < m.length → getS10 (m.take j) = (zSnp, 0, 2) := by
        have e := HM.out
        subst e
        exact fun j hj => getS10_cut HY.out hj
      have HSP := Lib.hid hsp
      have HCU := Lib.hid hcu
      have hmc : m.length ≤ c4 := (byt_len (Byt.of_own HM12.out)).2
      clear hb12 hbn hbb HB11 HM11 x0 x1 x2 x3 hlx hsp hcu heq
      by_cases hcu : 0 < a2 ∧ a2 ≤ m.length
      · obtain ⟨x, rfl⟩ : ∃ x : Nat, a2 = (x : Int) := ⟨a2.toNat, by omega⟩
        obtain ⟨hc1, hc2⟩ := hcu
        obtain ⟨p, hp⟩ : ∃ p, m.length - x = p := ⟨_, rfl⟩
        have hp2 : (m.length : Int) - x = (p : Int) := by omega
        have hp4 : p ≤ c4 := by omega
        have hp5 : p < m.length := by omega
        have hgc := HCU.out p hp5
        have hgs := fun (W : World) (hW : Below w12.heap.size w12 W) => wget_v (.slice A4 p c4) W.heap.size (m.take p) W (byt_take10 (n := p) (Byt.of_own (HM12.out.below hW)) (by omega)) (Nat.le_refl _) (by rw [List.length_take]; omega) (hTT _ (HB12.out.trans (hW.mono HB12.out.size))) 0 0 ⟨#[]⟩ ⟨#[]⟩ 0 2 hgc
        have HGS := Lib.hid hgs
        clear hgs hgc hp
        go_wp2_with fail
        refine (HGS.out _ (Below.refl _ _)).mono ?_
        rintro e w13 ⟨rfl, hb13⟩
        have HB := Lib.hid (HB12.out.trans (hb13.mono HB12.out.size))
        have HO := Lib.hid (HM12.out.below hb13)
        clear HGS hb13 HB12 HM12 HCU
        by_cases h3 : a3 < 0
        · go_wp2_with fail
          go_ret
          exact ⟨rfl, HB.out⟩
        · by_cases hX : X = 0
          · subst hX
            have hX0 : ((0 : UInt8).toNat : Int) = 0 := rfl
            rw [hX0]
            go_wp2_with fail
            go_ret
            exact ⟨rfl, HB.out⟩
          · have hX1 : ¬ ((X.toNat : Int) = 0) := fun e => hX (UInt8.toNat.inj (by have : (0 : UInt8).toNat = 0 := rfl; omega))
            have hX2 : ((X.toNat : Int) == 0) = false := by simpa using hX1
            have hby := Byt.of_own HO.out
            go_wp2_with (at_builtin; refine wpList_append_byt_at rfl _ _ rfl w.heap.size _ _ _ _ _ rfl (ownB_nil w.heap.size _) rfl hby ?y1 HB.out.size ?_)
            case y1 => first | omega | (simp; omega)
            intro v20 w20 hown20 hb20 _
            have hb21 := HB.out.trans hb20
            obtain ⟨A20, c20, hv20⟩ := own_slice hown20
            subst hv20
            have hmp : (0 : Int) < m.length := by omega
            obtain ⟨j, hj⟩ : ∃ j : Nat, a3 % (m.length : Int) = (j : Int) := ⟨(a3 % (m.length : Int)).toNat, by have := Int.emod_nonneg a3 (show (m.length : Int) ≠ 0 by omega); omega⟩
            have hjl : j < m.length := by have := Int.emod_lt_of_pos a3 hmp; omega
            obtain ⟨g, hA, hlo, hhi, hfz, hcn⟩ := own_at10 hown20 rfl j hjl
            subst hA
            have hfj := hfz j
            obtain ⟨y0, hy0⟩ : ∃ y, m[j]'hjl = y := ⟨_, rfl⟩
            obtain ⟨y, hy⟩ : ∃ y, y0 ^^^ X = y := ⟨_, rfl⟩
            have hne : y ≠ m[j]'hjl := by
              rw [hy0, ← hy]
              intro e
              have h := congrArg (fun z => y0 ^^^ z) e
              simp only [← UInt8.xor_assoc, UInt8.xor_self, UInt8.zero_xor] at h
              exact hX h
            obtain ⟨e, he, hge⟩ := HSP.out j hjl y hne
            rw [hy0] at hcn
            have hxor : bits BinOp.xor IntKind.u8 (y0.toNat : Int) (X.toNat : Int) = (y.toNat : Int) := by rw [u8_xor, hy]
            have hset := own_set10 (y := y) hown20 rfl hjl
            have hbs := hb21.setCell (p := ⟨g, j, none⟩) hlo (.int .u8 (y.toNat : Int))
            obtain ⟨W21, hW21⟩ : ∃ W, w20.setCell ⟨g, j, none⟩ (.int .u8 (y.toNat : Int)) = W := ⟨_, rfl⟩
            rw [hW21] at hset hbs
            have hgs := wget_v _ W21.heap.size (m.set j y) W21 (Byt.of_own hset) (Nat.le_refl _) (by rw [List.length_set]; omega) (hTT _ hbs) 0 0 ⟨#[]⟩ ⟨#[]⟩ 0 e hge
            have HGS := Lib.hid hgs
            have HBS := Lib.hid hbs
            have he1 : ¬ ((e : Int) = 0) := by omega
            have he2 : ((e : Int) == 0) = false := by simpa using he1
            have he3 : ((e : Int) != 0) = true := by rw [bne, he2]; rfl
            clear hgs hbs hset hge hne hy hy0 hfz hown20 hb20 hb21 hby HSP
            go_wp2_with fail
            refine HGS.out.mono ?_
            rintro e' w22 ⟨rfl, hb22⟩
            have HB22 := Lib.hid (HBS.out.trans (hb22.mono HBS.out.size))
            clear hb22 HGS
            go_wp2_with fail
            go_ret
            exact ⟨by first | rfl | exact congrArg (fun b => Ending.returned (Value.bool b)) he3 | simp [he1] | simp [go_sem, he1, he2, he3], HB22.out⟩
      · have hcv : a2 ≤ 0 ∨ (0 < a2 ∧ (m.length : Int) < a2) := by omega
        have HB := HB12
        have HO := HM12
        clear HB12 HM12 HCU
        rcases hcv with hc1 | ⟨hc1, hc2⟩
        · by_cases h3 : a3 < 0
          · go_wp2_with fail
            go_ret
            exact ⟨rfl, HB.out⟩
          · by_cases hX : X = 0
            · subst hX
              have hX0 : ((0 : UInt8).toNat : Int) = 0 := rfl
              rw [hX0]
              go_wp2_with fail
              go_ret
              exact ⟨rfl, HB.out⟩
            · have hX1 : ¬ ((X.toNat : Int) = 0) := fun e => hX (UInt8.toNat.inj (by have : (0 : UInt8).toNat = 0 := rfl; omega))
              have hX2 : ((X.toNat : Int) == 0) = false := by simpa using hX1
              have hby := Byt.of_own HO.out
              go_wp2_with (at_builtin; refine wpList_append_byt_at rfl _ _ rfl w.heap.size _ _ _ _ _ rfl (ownB_nil w.heap.size _) rfl hby ?y1 HB.out.size ?_)
              case y1 => first | omega | (simp; omega)
              intro v20 w20 hown20 hb20 _
              have hb21 := HB.out.trans hb20
              obtain ⟨A20, c20, hv20⟩ := own_slice hown20
              subst hv20
              have hmp : (0 : Int) < m.length := by omega
              obtain ⟨j, hj⟩ : ∃ j : Nat, a3 % (m.length : Int) = (j : Int) := ⟨(a3 % (m.length : Int)).toNat, by have := Int.emod_nonneg a3 (show (m.length : Int) ≠ 0 by omega); omega⟩
              have hjl : j < m.length := by have := Int.emod_lt_of_pos a3 hmp; omega
              obtain ⟨g, hA, hlo, hhi, hfz, hcn⟩ := own_at10 hown20 rfl j hjl
              subst hA
              have hfj := hfz j
              obtain ⟨y0, hy0⟩ : ∃ y, m[j]'hjl = y := ⟨_, rfl⟩
              obtain ⟨y, hy⟩ : ∃ y, y0 ^^^ X = y := ⟨_, rfl⟩
              have hne : y ≠ m[j]'hjl := by
                rw [hy0, ← hy]
                intro e
                have h := congrArg (fun z => y0 ^^^ z) e
                simp only [← UInt8.xor_assoc, UInt8.xor_self, UInt8.zero_xor] at h
                exact hX h
              obtain ⟨e, he, hge⟩ := HSP.out j hjl y hne
              rw [hy0] at hcn
              have hxor : bits BinOp.xor IntKind.u8 (y0.toNat : Int) (X.toNat : Int) = (y.toNat : Int) := by rw [u8_xor, hy]
              have hset := own_set10 (y := y) hown20 rfl hjl
              have hbs := hb21.setCell (p := ⟨g, j, none⟩) hlo (.int .u8 (y.toNat : Int))
              obtain ⟨W21, hW21⟩ : ∃ W, w20.setCell ⟨g, j, none⟩ (.int .u8 (y.toNat : Int)) = W := ⟨_, rfl⟩
              rw [hW21] at hset hbs
              have hgs := wget_v _ W21.heap.size (m.set j y) W21 (Byt.of_own hset) (Nat.le_refl _) (by rw [List.length_set]; omega) (hTT _ hbs) 0 0 ⟨#[]⟩ ⟨#[]⟩ 0 e hge
              have HGS := Lib.hid hgs
              have HBS := Lib.hid hbs
              have he1 : ¬ ((e : Int) = 0) := by omega
              have he2 : ((e : Int) == 0) = false := by simpa using he1
              have he3 : ((e : Int) != 0) = true := by rw [bne, he2]; rfl
              clear hgs hbs hset hge hne hy hy0 hfz hown20 hb20 hb21 hby HSP
              go_wp2_with fail
              refine HGS.out.mono ?_
              rintro e' w22 ⟨rfl, hb22⟩
              have HB22 := Lib.hid (HBS.out.trans (hb22.mono HBS.out.size))
              clear hb22 HGS
              go_wp2_with fail
              go_ret
              exact ⟨by first | rfl | exact congrArg (fun b => Ending.returned (Value.bool b)) he3 | simp [he1] | simp [go_sem, he1, he2, he3], HB22.out⟩
        · by_cases h3 : a3 < 0
          · go_wp2_with fail
            go_ret
            exact ⟨rfl, HB.out⟩
          · by_cases hX : X = 0
            · subst hX
              have hX0 : ((0 : UInt8).toNat : Int) = 0 := rfl
              rw [hX0]
              go_wp2_with fail
              go_ret
              exact ⟨rfl, HB.out⟩
            · have hX1 : ¬ ((X.toNat : Int) = 0) := fun e => hX (UInt8.toNat.inj (by have : (0 : UInt8).toNat = 0 := rfl; omega))
              have hX2 : ((X.toNat : Int) == 0) = false := by simpa using hX1
              have hby := Byt.of_own HO.out
              go_wp2_with (at_builtin; refine wpList_append_byt_at rfl _ _ rfl w.heap.size _ _ _ _ _ rfl (ownB_nil w.heap.size _) rfl hby ?y1 HB.out.size ?_)
              case y1 => first | omega | (simp; omega)
              intro v20 w20 hown20 hb20 _
              have hb21 := HB.out.trans hb20
              obtain ⟨A20, c20, hv20⟩ := own_slice hown20
              subst hv20
              have hmp : (0 : Int) < m.length := by omega
              obtain ⟨j, hj⟩ : ∃ j : Nat, a3 % (m.length : Int) = (j : Int) := ⟨(a3 % (m.length : Int)).toNat, by have := Int.emod_nonneg a3 (show (m.length : Int) ≠ 0 by omega); omega⟩
              have hjl : j < m.length := by have := Int.emod_lt_of_pos a3 hmp; omega
              obtain ⟨g, hA, hlo, hhi, hfz, hcn⟩ := own_at10 hown20 rfl j hjl
              subst hA
              have hfj := hfz j
              obtain ⟨y0, hy0⟩ : ∃ y, m[j]'hjl = y := ⟨_, rfl⟩
              obtain ⟨y, hy⟩ : ∃ y, y0 ^^^ X = y := ⟨_, rfl⟩
              have hne : y ≠ m[j]'hjl := by
                rw [hy0, ← hy]
                intro e
                have h := congrArg (fun z => y0 ^^^ z) e
                simp only [← UInt8.xor_assoc, UInt8.xor_self, UInt8.zero_xor] at h
                exact hX h
              obtain ⟨e, he, hge⟩ := HSP.out j hjl y hne
              rw [hy0] at hcn
              have hxor : bits BinOp.xor IntKind.u8 (y0.toNat : Int) (X.toNat : Int) = (y.toNat : Int) := by rw [u8_xor, hy]
              have hset := own_set10 (y := y) hown20 rfl hjl
              have hbs := hb21.setCell (p := ⟨g, j, none⟩) hlo (.int .u8 (y.toNat : Int))
              obtain ⟨W21, hW21⟩ : ∃ W, w20.setCell ⟨g, j, none⟩ (.int .u8 (y.toNat : Int)) = W := ⟨_, rfl⟩
              rw [hW21] at hset hbs
              have hgs := wget_v _ W21.heap.size (m.set j y) W21 (Byt.of_own hset) (Nat.le_refl _) (by rw [List.length_set]; omega) (hTT _ hbs) 0 0 ⟨#[]⟩ ⟨#[]⟩ 0 e hge
              have HGS := Lib.hid hgs
              have HBS := Lib.hid hbs
              have he1 : ¬ ((e : Int) = 0) := by omega
              have he2 : ((e : Int) == 0) = false := by simpa using he1
              have he3 : ((e : Int) != 0) = true := by rw [bne, he2]; rfl
              clear hgs hbs hset hge hne hy hy0 hfz hown20 hb20 hb21 hby HSP
              go_wp2_with fail
              refine HGS.out.mono ?_
              rintro e' w22 ⟨rfl, hb22⟩
              have HB22 := Lib.hid (HBS.out.trans (hb22.mono HBS.out.size))
              clear hb22 HGS
              go_wp2_with fail
              go_ret
              exact ⟨by first | rfl | exact congrArg (fun b => Ending.returned (Value.bool b)) he3 | simp [he1] | simp [go_sem, he1, he2, he3], HB22.out⟩
  · have hr3 := HR2.out
    have hb3 := HB2.out
    have hxs : dt.size ≤ 10000 := by omega
    clear HR2 HB2 x0 x1 x2 x3 y0 y1 y2 y3
    obtain ⟨m, hm⟩ : ∃ m, snapB10 ⟨ix, st, cf, dt⟩ = m := ⟨_, rfl⟩
    obtain ⟨S, hS⟩ : ∃ S, (⟨m.toArray⟩ : ByteArray) = S := ⟨_, rfl⟩
    have HM := Lib.hid hm
    have HS := Lib.hid hS
    clear hm hS
    refine (snap_v ix st cf dt m _ (by omega) (by omega) (hTT _ hb3) HM.out).mono ?_
    rintro e k4 ⟨v4, rfl, ho, h4⟩
    obtain ⟨Bo, hBo⟩ : ∃ B, OwnB B v4 m k4 := ⟨_, ho⟩
    clear ho
    have ho := hBo
    clear hBo
    have HR4 := Lib.hid (hr3.below h4)
    have HB4 := Lib.hid (hb3.trans (h4.mono hb3.size))
    have HO4 := Lib.hid ho
    clear hr3 hb3 h4 ho
    go_wp2_with fail
    have hx : Rt k4.drew w.heap.size 33 [.int .i64 ix, .int .i64 st, .string cf, .string dt] := HR4.out
    have ho : OwnB Bo v4 m k4.drew := HO4.out
    have hb : Below w.heap.size w k4.drew := HB4.out.drew
    clear HR4 HO4 HB4
    refine wp_region_noPanic ?_
    refine wp_region_held_drew (S := fun W => Rt W w.heap.size 33 [.int .i64 ix, .int .i64 st, .string cf, .string dt] ∧ (convert 46 9 v4).run Tryd.prog W = .ok (.string S) W) (by kernel_rfl) ?_ (fun hHeld => ?_)
    · exact ⟨hx, conv_byt (Byt.of_own ho) HS.out⟩
    generalize k4.drew = k7 at *
    refine wpAnyH_take (i := 0) (oi := { dst := some 42, op := Op.move (Operand.tmp 14), type := 46, pos := "law.go:110", after := #[], guard := none }) (v := v4) rfl (by kernel_rfl) (by kernel_rfl) (by kernel_rfl) (fun _ _ _ h => h) (Or.inl ⟨by rfl, fun w hSw => ?_⟩) (by assumption) ?_
    · (try dsimp only at hSw)
      go_simp
    try simp only [Act.put, List.setIfInBounds_toArray, List.set_cons_zero, List.set_cons_succ]
    refine wpAnyH_take (i := 1) (oi := { dst := some 43, op := Op.convert 46 9 (Operand.tmp 42), type := 9, pos := "law.go:110", after := #[{ on := 0, ground := Ground.data }], guard := none }) (v := .string S) rfl (by kernel_rfl) (by kernel_rfl) (by kernel_rfl) (fun _ _ _ h => h) (Or.inl ⟨by rfl, fun w hSw => ?_⟩) (by assumption) ?_
    · (try dsimp only at hSw)
      have qc := hSw.2
      clear hSw
      go_simp
    try simp only [Act.put, List.setIfInBounds_toArray, List.set_cons_zero, List.set_cons_succ]
    refine wpAnyH_take (i := 2) (oi := { dst := some 44, op := Op.load 33 (Operand.tmp 6), type := 33, pos := "law.go:110", after := #[], guard := none }) (v := .agg #[.int .i64 ix, .int .i64 st, .string cf, .string dt]) rfl (by kernel_rfl) (by kernel_rfl) (by kernel_rfl) (fun _ _ _ h => h) (Or.inl ⟨by rfl, fun w hSw => ?_⟩) (by assumption) ?_
    · (try dsimp only at hSw)
      have q0 := hSw.1.cell (j := 0) rfl
      have q1 := hSw.1.cell (j := 1) rfl
      have q2 := hSw.1.cell (j := 2) rfl
      have q3 := hSw.1.cell (j := 3) rfl
      clear hSw
      go_simp
    try simp only [Act.put, List.setIfInBounds_toArray, List.set_cons_zero, List.set_cons_succ]
    refine wpAnyH_ready (rs := [3]) (by kernel_rfl) (by simp) ?_
    refine AllReadyH.cons (o := { dst := some 45, op := Op.call { callee := Callee.value (Operand.func 29), args := #[Operand.tmp 44], argTypes := #[33] }, type := 46, pos := "law.go:110", after := #[{ on := 2, ground := Ground.data }], guard := none }) rfl (fun K hK => ?_) AllReadyH.nil
    go_simp
    go_at_call 29
    refine (rsnap_v ix st cf dt m _ (by omega) (by omega) HM.out).mono ?_
    rintro e kq ⟨v9, rfl, ho9, hq⟩
    have m3 := conv_byt (Byt.of_own ho9) HS.out
    replace hx := hx.below hq
    replace ho := ho.below hq
    replace hb := hb.trans (hq.mono hb.size)
    clear hq ho9
    refine hK.out _ _ ?_ (fun hHeld => ?_)
    · exact ⟨hx, conv_byt (Byt.of_own ho) HS.out⟩
    clear hK K
    try simp only [Act.put, List.setIfInBounds_toArray, List.set_cons_zero, List.set_cons_succ]
    refine wpAnyH_ready (rs := [4]) (by kernel_rfl) (by simp) ?_
    refine AllReadyH.cons (o := { dst := some 46, op := Op.convert 46 9 (Operand.tmp 45), type := 9, pos := "law.go:110", after := #[{ on := 3, ground := Ground.data }], guard := none }) rfl (fun K hK => ?_) AllReadyH.nil
    go_simp
    clear m3
    refine hK.out _ _ ?_ (fun hHeld => ?_)
    · exact ⟨hx, conv_byt (Byt.of_own ho) HS.out⟩
    clear hK K
    try simp only [Act.put, List.setIfInBounds_toArray, List.set_cons_zero, List.set_cons_succ]
    refine wpAnyH_take (i := 5) (oi := { dst := some 47, op := Op.binOp BinOp.neq 9 (Operand.tmp 43) (Operand.tmp 46) 9, type := 4, pos := "law.go:110", after := #[{ on := 1, ground := Ground.data }, { on := 4, ground := Ground.data }], guard := none }) (v := .bool false) rfl (by kernel_rfl) (by kernel_rfl) (by kernel_rfl) (fun _ _ _ h => h) (Or.inl ⟨by rfl, fun w hSw => ?_⟩) (by assumption) ?_
    · (try dsimp only at hSw)
      go_simp
    try simp only [Act.put, List.setIfInBounds_toArray, List.set_cons_zero, List.set_cons_succ]
    refine wpAnyH_done (by kernel_rfl) ?_ _
    refine NoPanic.normal ?_
    obtain ⟨y, hy⟩ : ∃ y, maySnp10 ⟨ix, st, cf, dt⟩ = y := ⟨_, rfl⟩
    have HY := Lib.hid hy
    clear hy
    have x0 := hx.cell (j := 0) rfl
    have x1 := hx.cell (j := 1) rfl
    have x2 := hx.cell (j := 2) rfl
    have x3 := hx.cell (j := 3) rfl
    cases y
    · have hm0 : m = [] := by rw [← HM.out]; unfold snapB10; rw [if_pos HY.out]
      subst hm0
      rcases own_nz ho rfl with rfl | ⟨g, o, c, rfl⟩
      all_goals
        have HB := Lib.hid hb
        clear hb ho hx
        go_wp2_with fail
        refine (rmaySnap_any ⟨ix, st, cf, dt⟩ _ (show cf.size ≤ 1050000 by omega) (show dt.size ≤ 1050000 by omega)).mono ?_
        rintro e kq ⟨rfl, hq⟩
        rw [HY.out]
        have hb9 := HB.out.trans (hq.mono HB.out.size)
        clear hq
        go_wp2
        go_ret
        exact ⟨rfl, hb9⟩
    · have hml := snapB10_len HY.out
      rw [HM.out] at hml
      obtain ⟨hm6, hm3⟩ := hml
      have hz6 : ¬ ((m.length : Int) = 0) := by omega
      obtain ⟨A4, c4, rfl⟩ := byt_slice (Byt.of_own ho)
      have hby4 := Byt.of_own ho
      have HO := Lib.hid ho; have HB := Lib.hid hb; have HX := Lib.hid hx
      clear ho hb hx x0 x1 x2 x3
      go_wp2_with (at_builtin; refine wpList_append_byt_at rfl _ _ rfl kq.heap.size _ _ _ _ _ rfl (ownB_nil kq.heap.size _) rfl hby4 ?x1 (Nat.le_refl _) ?_)
      case x1 => simp; omega
      intro v8 w8 hown8 hb8 _
      have HO8 := Lib.hid hown8
      have HB8 := Lib.hid (HB.out.trans (hb8.mono HB.out.size))
      have HX8 := Lib.hid (HX.out.below hb8)
      have HK8 := Lib.hid hb8.size
      have HZ8 := Lib.hid hb8
      clear hown8 hb8 hby4
      go_wp2_with fail
      refine (short_any A5 a5.length c5 w.heap.size 20 a5 w8 (HA5.out.below HB8.out (Nat.le_refl _)) (by omega)).mono ?_
      rintro e wr' ⟨A9, c9, rfl, hby9, rfl⟩
      have hl9 : (a5.take 20).length ≤ 20 := by rw [List.length_take]; omega
      obtain ⟨z, hz⟩ : ∃ z, a5.take 20 = z := ⟨_, rfl⟩
      rw [hz] at hby9 hl9 ⊢
      clear hz
      have hown8 := HO8.out
      have hbs : kq.heap.size ≤ w8.heap.size := HK8.out
      go_wp2_with (at_builtin; refine wpList_append_byt_at rfl _ _ rfl kq.heap.size _ _ _ _ _ rfl hown8 rfl hby9 ?x1 hbs ?_)
      case x1 => omega
      intro v10 w10 hown10 hb10 _
      have hl10 : (m ++ z).length ≤ 1050000 := by rw [List.length_append]; omega
      have hgp := getS10_put HY.out z
      rw [HM.out] at hgp
      have hkk := HZ8.out.trans hb10
      have HB10 := Lib.hid (HB.out.trans (hkk.mono HB.out.size))
      have HX10 := Lib.hid (HX.out.below hkk)
      have HM10 := Lib.hid (HO.out.below hkk)
      have hgs := wget_v v10 w10.heap.size (m ++ z) w10 (Byt.of_own hown10) (Nat.le_refl _) hl10 (hTT _ HB10.out) ix st cf dt m.length 0 hgp
      have HGS := Lib.hid hgs
      clear hgs hgp hown10 hb10 hby9 hown8 HO8 HB8 HX8 HZ8 hkk HO HB HX
      go_wp2_with fail
      refine HGS.out.mono ?_
      rintro e w11 ⟨rfl, hb11⟩
      have hx11 := HX10.out.below hb11
      have hlx := hx11.lt
      have x0 := hx11.cell (j := 0) rfl
      have x1 := hx11.cell (j := 1) rfl
      have x2 := hx11.cell (j := 2) rfl
      have x3 := hx11.cell (j := 3) rfl
      have HB11 := Lib.hid (HB10.out.trans (hb11.mono HB10.out.size))
      have HM11 := Lib.hid (HM10.out.below hb11)
      clear HGS HB10 HX10 HM10 hb11 hx11
      go_wp2_with fail
      refine (reqSnap_any ⟨ix, st, cf, dt⟩ ⟨ix, st, cf, dt⟩ _).mono ?_
      rintro e w12 ⟨rfl, hb12⟩
      have heq : eqSnp10 ⟨ix, st, cf, dt⟩ ⟨ix, st, cf, dt⟩ = true := by simp [eqSnp10]
      rw [heq]
      have hbn := below_new w11 (.cells #[.int .i64 ix, .int .i64 st, .string cf, .string dt] 33)
      have hbb := hbn.trans (hb12.mono hbn.size)
      have HB12 := Lib.hid (HB11.out.trans (hbb.mono HB11.out.size))
      have HM12 := Lib.hid (HM11.out.below hbb)
      have hsp : ∀ (j : Nat) (hj : j < m.length) (y : UInt8), y ≠ m[j]'hj → ∃ e, e ≠ 0 ∧ getS10 (m.set j y) = (zSnp, 0, e) := by
        have e := HM.out
        subst e
        exact fun j hj y hy => getS10_spoilt HY.out hj hy
      have hcu : ∀ j, j < m.length → getS10 (m.take j) = (zSnp, 0, 2) := by
        have e := HM.out
        subst e
        exact fun j hj => getS10_cut HY.out hj
      have HSP := Lib.hid hsp
      have HCU := Lib.hid hcu
      have hmc : m.length ≤ c4 := (byt_len (Byt.of_own HM12.out)).2
      clear hb12 hbn hbb HB11 HM11 x0 x1 x2 x3 hlx hsp hcu heq
      by_cases hcu : 0 < a2 ∧ a2 ≤ m.length
      · obtain ⟨x, rfl⟩ : ∃ x : Nat, a2 = (x : Int) := ⟨a2.toNat, by omega⟩
        obtain ⟨hc1, hc2⟩ := hcu
        obtain ⟨p, hp⟩ : ∃ p, m.length - x = p := ⟨_, rfl⟩
        have hp2 : (m.length : Int) - x = (p : Int) := by omega
        have hp4 : p ≤ c4 := by omega
        have hp5 : p < m.length := by omega
        have hgc := HCU.out p hp5
        have hgs := fun (W : World) (hW : Below w12.heap.size w12 W) => wget_v (.slice A4 p c4) W.heap.size (m.take p) W (byt_take10 (n := p) (Byt.of_own (HM12.out.below hW)) (by omega)) (Nat.le_refl _) (by rw [List.length_take]; omega) (hTT _ (HB12.out.trans (hW.mono HB12.out.size))) 0 0 ⟨#[]⟩ ⟨#[]⟩ 0 2 hgc
        have HGS := Lib.hid hgs
        clear hgs hgc hp
        go_wp2_with fail
        refine (HGS.out _ (Below.refl _ _)).mono ?_
        rintro e w13 ⟨rfl, hb13⟩
        have HB := Lib.hid (HB12.out.trans (hb13.mono HB12.out.size))
        have HO := Lib.hid (HM12.out.below hb13)
        clear HGS hb13 HB12 HM12 HCU
        by_cases h3 : a3 < 0
        · go_wp2_with fail
          go_ret
          exact ⟨rfl, HB.out⟩
        · by_cases hX : X = 0
          · subst hX
            have hX0 : ((0 : UInt8).toNat : Int) = 0 := rfl
            rw [hX0]
            go_wp2_with fail
            go_ret
            exact ⟨rfl, HB.out⟩
          · have hX1 : ¬ ((X.toNat : Int) = 0) := fun e => hX (UInt8.toNat.inj (by have : (0 : UInt8).toNat = 0 := rfl; omega))
            have hX2 : ((X.toNat : Int) == 0) = false := by simpa using hX1
            have hby := Byt.of_own HO.out
            go_wp2_with (at_builtin; refine wpList_append_byt_at rfl _ _ rfl w.heap.size _ _ _ _ _ rfl (ownB_nil w.heap.size _) rfl hby ?y1 HB.out.size ?_)
            case y1 => first | omega | (simp; omega)
            intro v20 w20 hown20 hb20 _
            have hb21 := HB.out.trans hb20
            obtain ⟨A20, c20, hv20⟩ := own_slice hown20
            subst hv20
            have hmp : (0 : Int) < m.length := by omega
            obtain ⟨j, hj⟩ : ∃ j : Nat, a3 % (m.length : Int) = (j : Int) := ⟨(a3 % (m.length : Int)).toNat, by have := Int.emod_nonneg a3 (show (m.length : Int) ≠ 0 by omega); omega⟩
            have hjl : j < m.length := by have := Int.emod_lt_of_pos a3 hmp; omega
            obtain ⟨g, hA, hlo, hhi, hfz, hcn⟩ := own_at10 hown20 rfl j hjl
            subst hA
            have hfj := hfz j
            obtain ⟨y0, hy0⟩ : ∃ y, m[j]'hjl = y := ⟨_, rfl⟩
            obtain ⟨y, hy⟩ : ∃ y, y0 ^^^ X = y := ⟨_, rfl⟩
            have hne : y ≠ m[j]'hjl := by
              rw [hy0, ← hy]
              intro e
              have h := congrArg (fun z => y0 ^^^ z) e
              simp only [← UInt8.xor_assoc, UInt8.xor_self, UInt8.zero_xor] at h
              exact hX h
            obtain ⟨e, he, hge⟩ := HSP.out j hjl y hne
            rw [hy0] at hcn
            have hxor : bits BinOp.xor IntKind.u8 (y0.toNat : Int) (X.toNat : Int) = (y.toNat : Int) := by rw [u8_xor, hy]
            have hset := own_set10 (y := y) hown20 rfl hjl
            have hbs := hb21.setCell (p := ⟨g, j, none⟩) hlo (.int .u8 (y.toNat : Int))
            obtain ⟨W21, hW21⟩ : ∃ W, w20.setCell ⟨g, j, none⟩ (.int .u8 (y.toNat : Int)) = W := ⟨_, rfl⟩
            rw [hW21] at hset hbs
            have hgs := wget_v _ W21.heap.size (m.set j y) W21 (Byt.of_own hset) (Nat.le_refl _) (by rw [List.length_set]; omega) (hTT _ hbs) 0 0 ⟨#[]⟩ ⟨#[]⟩ 0 e hge
            have HGS := Lib.hid hgs
            have HBS := Lib.hid hbs
            have he1 : ¬ ((e : Int) = 0) := by omega
            have he2 : ((e : Int) == 0) = false := by simpa using he1
            have he3 : ((e : Int) != 0) = true := by rw [bne, he2]; rfl
            clear hgs hbs hset hge hne hy hy0 hfz hown20 hb20 hb21 hby HSP
            go_wp2_with fail
            refine HGS.out.mono ?_
            rintro e' w22 ⟨rfl, hb22⟩
            have HB22 := Lib.hid (HBS.out.trans (hb22.mono HBS.out.size))
            clear hb22 HGS
            go_wp2_with fail
            go_ret
            exact ⟨by first | rfl | exact congrArg (fun b => Ending.returned (Value.bool b)) he3 | simp [he1] | simp [go_sem, he1, he2, he3], HB22.out⟩
      · have hcv : a2 ≤ 0 ∨ (0 < a2 ∧ (m.length : Int) < a2) := by omega
        have HB := HB12
        have HO := HM12
        clear HB12 HM12 HCU
        rcases hcv with hc1 | ⟨hc1, hc2⟩
        · by_cases h3 : a3 < 0
          · go_wp2_with fail
            go_ret
            exact ⟨rfl, HB.out⟩
          · by_cases hX : X = 0
            · subst hX
              have hX0 : ((0 : UInt8).toNat : Int) = 0 := rfl
              rw [hX0]
              go_wp2_with fail
              go_ret
              exact ⟨rfl, HB.out⟩
            · have hX1 : ¬ ((X.toNat : Int) = 0) := fun e => hX (UInt8.toNat.inj (by have : (0 : UInt8).toNat = 0 := rfl; omega))
              have hX2 : ((X.toNat : Int) == 0) = false := by simpa using hX1
              have hby := Byt.of_own HO.out
              go_wp2_with (at_builtin; refine wpList_append_byt_at rfl _ _ rfl w.heap.size _ _ _ _ _ rfl (ownB_nil w.heap.size _) rfl hby ?y1 HB.out.size ?_)
              case y1 => first | omega | (simp; omega)
              intro v20 w20 hown20 hb20 _
              have hb21 := HB.out.trans hb20
              obtain ⟨A20, c20, hv20⟩ := own_slice hown20
              subst hv20
              have hmp : (0 : Int) < m.length := by omega
              obtain ⟨j, hj⟩ : ∃ j : Nat, a3 % (m.length : Int) = (j : Int) := ⟨(a3 % (m.length : Int)).toNat, by have := Int.emod_nonneg a3 (show (m.length : Int) ≠ 0 by omega); omega⟩
              have hjl : j < m.length := by have := Int.emod_lt_of_pos a3 hmp; omega
              obtain ⟨g, hA, hlo, hhi, hfz, hcn⟩ := own_at10 hown20 rfl j hjl
              subst hA
              have hfj := hfz j
              obtain ⟨y0, hy0⟩ : ∃ y, m[j]'hjl = y := ⟨_, rfl⟩
              obtain ⟨y, hy⟩ : ∃ y, y0 ^^^ X = y := ⟨_, rfl⟩
              have hne : y ≠ m[j]'hjl := by
                rw [hy0, ← hy]
                intro e
                have h := congrArg (fun z => y0 ^^^ z) e
                simp only [← UInt8.xor_assoc, UInt8.xor_self, UInt8.zero_xor] at h
                exact hX h
              obtain ⟨e, he, hge⟩ := HSP.out j hjl y hne
              rw [hy0] at hcn
              have hxor : bits BinOp.xor IntKind.u8 (y0.toNat : Int) (X.toNat : Int) = (y.toNat : Int) := by rw [u8_xor, hy]
              have hset := own_set10 (y := y) hown20 rfl hjl
              have hbs := hb21.setCell (p := ⟨g, j, none⟩) hlo (.int .u8 (y.toNat : Int))
              obtain ⟨W21, hW21⟩ : ∃ W, w20.setCell ⟨g, j, none⟩ (.int .u8 (y.toNat : Int)) = W := ⟨_, rfl⟩
              rw [hW21] at hset hbs
              have hgs := wget_v _ W21.heap.size (m.set j y) W21 (Byt.of_own hset) (Nat.le_refl _) (by rw [List.length_set]; omega) (hTT _ hbs) 0 0 ⟨#[]⟩ ⟨#[]⟩ 0 e hge
              have HGS := Lib.hid hgs
              have HBS := Lib.hid hbs
              have he1 : ¬ ((e : Int) = 0) := by omega
              have he2 : ((e : Int) == 0) = false := by simpa using he1
              have he3 : ((e : Int) != 0) = true := by rw [bne, he2]; rfl
              clear hgs hbs hset hge hne hy hy0 hfz hown20 hb20 hb21 hby HSP
              go_wp2_with fail
              refine HGS.out.mono ?_
              rintro e' w22 ⟨rfl, hb22⟩
              have HB22 := Lib.hid (HBS.out.trans (hb22.mono HBS.out.size))
              clear hb22 HGS
              go_wp2_with fail
              go_ret
              exact ⟨by first | rfl | exact congrArg (fun b => Ending.returned (Value.bool b)) he3 | simp [he1] | simp [go_sem, he1, he2, he3], HB22.out⟩
        · by_cases h3 : a3 < 0
          · go_wp2_with fail
            go_ret
            exact ⟨rfl, HB.out⟩
          · by_cases hX : X = 0
            · subst hX
              have hX0 : ((0 : UInt8).toNat : Int) = 0 := rfl
              rw [hX0]
              go_wp2_with fail
              go_ret
              exact ⟨rfl, HB.out⟩
            · have hX1 : ¬ ((X.toNat : Int) = 0) := fun e => hX (UInt8.toNat.inj (by have : (0 : UInt8).toNat = 0 := rfl; omega))
              have hX2 : ((X.toNat : Int) == 0) = false := by simpa using hX1
              have hby := Byt.of_own HO.out
              go_wp2_with (at_builtin; refine wpList_append_byt_at rfl _ _ rfl w.heap.size _ _ _ _ _ rfl (ownB_nil w.heap.size _) rfl hby ?y1 HB.out.size ?_)
              case y1 => first | omega | (simp; omega)
              intro v20 w20 hown20 hb20 _
              have hb21 := HB.out.trans hb20
              obtain ⟨A20, c20, hv20⟩ := own_slice hown20
              subst hv20
              have hmp : (0 : Int) < m.length := by omega
              obtain ⟨j, hj⟩ : ∃ j : Nat, a3 % (m.length : Int) = (j : Int) := ⟨(a3 % (m.length : Int)).toNat, by have := Int.emod_nonneg a3 (show (m.length : Int) ≠ 0 by omega); omega⟩
              have hjl : j < m.length := by have := Int.emod_lt_of_pos a3 hmp; omega
              obtain ⟨g, hA, hlo, hhi, hfz, hcn⟩ := own_at10 hown20 rfl j hjl
              subst hA
              have hfj := hfz j
              obtain ⟨y0, hy0⟩ : ∃ y, m[j]'hjl = y := ⟨_, rfl⟩
              obtain ⟨y, hy⟩ : ∃ y, y0 ^^^ X = y := ⟨_, rfl⟩
              have hne : y ≠ m[j]'hjl := by
                rw [hy0, ← hy]
                intro e
                have h := congrArg (fun z => y0 ^^^ z) e
                simp only [← UInt8.xor_assoc, UInt8.xor_self, UInt8.zero_xor] at h
                exact hX h
              obtain ⟨e, he, hge⟩ := HSP.out j hjl y hne
              rw [hy0] at hcn
              have hxor : bits BinOp.xor IntKind.u8 (y0.toNat : Int) (X.toNat : Int) = (y.toNat : Int) := by rw [u8_xor, hy]
              have hset := own_set10 (y := y) hown20 rfl hjl
              have hbs := hb21.setCell (p := ⟨g, j, none⟩) hlo (.int .u8 (y.toNat : Int))
              obtain ⟨W21, hW21⟩ : ∃ W, w20.setCell ⟨g, j, none⟩ (.int .u8 (y.toNat : Int)) = W := ⟨_, rfl⟩
              rw [hW21] at hset hbs
              have hgs := wget_v _ W21.heap.size (m.set j y) W21 (Byt.of_own hset) (Nat.le_refl _) (by rw [List.length_set]; omega) (hTT _ hbs) 0 0 ⟨#[]⟩ ⟨#[]⟩ 0 e hge
              have HGS := Lib.hid hgs
              have HBS := Lib.hid hbs
              have he1 : ¬ ((e : Int) = 0) := by omega
              have he2 : ((e : Int) == 0) = false := by simpa using he1
              have he3 : ((e : Int) != 0) = true := by rw [bne, he2]; rfl
              clear hgs hbs hset hge hne hy hy0 hfz hown20 hb20 hb21 hby HSP
              go_wp2_with fail
              refine HGS.out.mono ?_
              rintro e' w22 ⟨rfl, hb22⟩
              have HB22 := Lib.hid (HBS.out.trans (hb22.mono HBS.out.size))
              clear hb22 HGS
              go_wp2_with fail
              go_ret
              exact ⟨by first | rfl | exact congrArg (fun b => Ending.returned (Value.bool b)) he3 | simp [he1] | simp [go_sem, he1, he2, he3], HB22.out⟩

set_option maxRecDepth 100000 in
theorem lifted (os : Os) (started : os.Started) (H : Type) (enc : TypeId × Value → H) :
    ReturnsInHanded {} Tryd.checked os 9 .any (fun w args => (Rows.walSnapSpec.pre enc Tryd.prog Tryd.f9 [] false w args ∧ laidMetH Tryd.prog laidS w) ∧ sizedMet enc Tryd.prog Tryd.f9 (OpenSpec.ofChange Rows.walSnapSpec) false w args) (Rows.walSnapSpec.post enc Tryd.prog Tryd.f9 false true false false) := by
  refine returnsInHanded_of_change_and (C := Tryd.checked) (X := fun w _ => laidMetH Tryd.prog laidS w) (fun _ _ _ hh h => h.of_heap hh) own started (by kernel_rfl) Tryd.func9
    (ChangeSpec.witness_at (enc := enc) (C := Tryd.checked) (os := os) (X := fun w _ => laidMetH Tryd.prog laidS w) false (laidWorld os) #[.agg #[.int .i64 0, .int .i64 0, .string ByteArray.empty, .string ByteArray.empty], .int .i64 0, .int .i64 0, .int .i64 0, .int .u8 0, .slice none 0 0] 8 rfl (by kernel_rfl) (by kernel_rfl) (by kernel_rfl) (by kernel_rfl) (by kernel_rfl) (laid_met os _)) ?_
  intro W base args ds gs before hval0 hW hcnd _ hL _
  have hT := tbl_of_laid hL
  have hval : ∀ (j : Nat) t v, Tryd.f9.params[j]? = some t → args[j]? = some v → Value.okWide Tryd.prog W .any base t v := hval0
  have hW' := hW
  obtain ⟨p, q, hA0, hV, rfl, hfz, hnd⟩ := hW
  have hA : DataW.TrodAll enc Tryd.prog W 0 (fun _ => true) true Tryd.f9.params.toList args.toList ds p := hA0
  have hA1 := hA
  rw [Tryd.params9] at hA hval
  obtain ⟨v0, vs0, d0, ds0, p0, q0, hargs, rfl, rfl, h0, r0⟩ := trodAll_cons hA
  obtain ⟨v1, vs1, d1, ds1, p1, q1, rfl, rfl, rfl, h1, r1⟩ := trodAll_cons r0
  obtain ⟨v2, vs2, d2, ds2, p2, q2, rfl, rfl, rfl, h2, r2⟩ := trodAll_cons r1
  obtain ⟨v3, vs3, d3, ds3, p3, q3, rfl, rfl, rfl, h3, r3⟩ := trodAll_cons r2
  obtain ⟨v4, vs4, d4, ds4, p4, q4, rfl, rfl, rfl, h4, r4⟩ := trodAll_cons r3
  obtain ⟨v5, vs5, d5, ds5, p5, q5, rfl, rfl, rfl, h5, r5⟩ := trodAll_cons r4
  obtain ⟨rfl, rfl, rfl⟩ := trodAll_nil r5
  obtain rfl : args = #[v0, v1, v2, v3, v4, v5] := by cases args; simp_all
  obtain ⟨rfl, rfl⟩ := trodVars_none hV
  obtain ⟨a0, rfl, w0⟩ := open_snp (hval 0 33 v0 rfl rfl) h0
  obtain ⟨a1, rfl, rfl, rfl, w1⟩ := open_int Tryd.underlying3 (hval 1 3 v1 rfl rfl) h1
  obtain ⟨a2, rfl, rfl, rfl, w2⟩ := open_int Tryd.underlying3 (hval 2 3 v2 rfl rfl) h2
  obtain ⟨a3, rfl, rfl, rfl, w3⟩ := open_int Tryd.underlying3 (hval 3 3 v3 rfl rfl) h3
  obtain ⟨a4, rfl, rfl, rfl, w4⟩ := open_int Tryd.underlying5 (hval 4 5 v4 rfl rfl) h4
  obtain ⟨A5, c5, a5, rfl, w5, x5⟩ := open_bytes (hval 5 46 v5 rfl rfl) h5
  clear hA0 hval0
  simp only [List.append_nil] at hW'
  try simp only [List.append_nil] at hA1
  refine (walk W a0 w0 a1 w1 a2 w2 a3 w3 a4 w4 A5 c5 a5 w5 x5 hT).mono fun e W' ⟨he, hg⟩ => ?_
  subst he
  exact ⟨_, rfl, law_end Tryd.laidOut (by kernel_rfl) hW' hA1 hg rfl rfl rfl (trodAll_mk1 (shut_bool Tryd.underlying4 _))⟩

theorem over : Rows.walSnapRow.holds Tryd.pinned (OpenSpec.ofChange Rows.walSnapSpec) :=
  OpenClaim.holds_of_wide 9 Tryd.f9 rfl rfl rfl rfl rfl rfl rfl ⟨rfl, rfl, rfl, rfl, rfl⟩ rfl rfl rfl rfl rfl (by kernel_rfl) Tryd.func9 (by kernel_rfl)
    (of_decide_eq_true (by kernel_rfl)) (by unfold Func.isWrapper; first | (rw [if_pos (by decide +kernel)]; kernel_rfl) | (rw [if_neg (by decide +kernel)]; exact ⟨rfl, rfl⟩))
    (fun os started H enc _ => lifted os started H enc)


/-- the statement: the card, closed by the builder's one call -/
theorem proved : Rows.WalSnapCardSaid :=
  Claim7.holds_tied_plain_at .later [] [.data] true Rows.walSnapCard.stood.harness Rows.walSnapCard.stood.looks
    over (fun _ h => by cases h) (by kernel_rfl) (fun _ h => by cases h) walSnap_row_tie rfl ⟨rfl, rfl⟩ (by kernel_rfl) rfl
    (fun f fn hf hfn => by
      obtain rfl : f = 9 := Option.some.inj ((show Tryd.prog.funcNamed "packhorse/packhorselaw10.WalSnap" = some 9 by kernel_rfl).symm.trans hf) |>.symm
      obtain rfl : fn = Tryd.f9 := (Option.some.inj (Tryd.func9.symm.trans hfn)).symm
      refine ⟨by kernel_rfl, fun j t ht => ?_⟩
      have h := List.all_eq_true.1 (show (Tryd.f9.params.toList.all fun t => !Tryd.prog.wantsStandIn t) = true by kernel_rfl) t (List.mem_of_getElem? (by simpa using ht))
      exact (show Tryd.prog.wantsStandIn t = false by simpa using h))
    (by kernel_rfl)
#print axioms proved
end Go.Proofs.YtmoaacaopphgbaaDoor.walSnap
