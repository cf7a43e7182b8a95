/-
  Contracts of the program's functions, of the reference's, and plain lemmas on what they answer (last part).
  Each lemma names its conditions.
-/
import Derived.Test.YtmoaacaopphgbaaDoorBun3
import Derived.Test.YtmoaacaopphgbaaDoorBun1
import Derived.Test.YtmoaacaopphgbaaDoorBun2
/-
  The beginning of stage 10's statements: one record and one snapshot go to bytes and back, and are told in a row.
  Package crc's table lies as it was laid.
-/
set_option linter.unusedSimpArgs false
set_option linter.unusedVariables false
namespace Go.Proofs.YtmoaacaopphgbaaDoor
open Go.RowKit
set_option maxRecDepth 100000

set_option maxHeartbeats 1050000 in
theorem begun10_any (w : World) (hT : Tbl w) : Calls Tryd.prog 26 #[] w fun e w' => e = .returned (.bool true) ∧ Below w.heap.size w w' := by
  have HT := Lib.hid hT; clear hT
  have hm : may10 ⟨true, 3, 2, ⟨0, 0, 0, ⟨#[]⟩⟩⟩ = true := by decide
  have hl := enc10_len hm
  have hdec := decR10_enc hm []
  have hdec1 := decR10_enc hm ((encR10 ⟨true, 3, 2, ⟨0, 0, 0, ⟨#[]⟩⟩⟩).take 1)
  have hcut := decR10_cut hm (m := 1) (by omega)
  rw [List.append_nil] at hdec
  obtain ⟨s, hs⟩ : ∃ s, encR10 ⟨true, 3, 2, ⟨0, 0, 0, ⟨#[]⟩⟩⟩ = s := ⟨_, rfl⟩
  rw [hs] at hl hdec hdec1 hcut
  have hscan : ScR (s ++ s.take 1) [⟨true, 3, 2, ⟨0, 0, 0, ⟨#[]⟩⟩⟩] s.length 2 := ScR.cons _ _ s.length [] 0 2 hdec1 (ScR.nil _ 2 (by rw [List.drop_left]; exact hcut) (by decide))
  have hms : maySnp10 ⟨4, 2, ⟨#[49, 50]⟩, ⟨#[100]⟩⟩ = true := by decide
  have hget := getS10_put hms []
  have hgl := snapB10_len hms
  rw [List.append_nil] at hget
  obtain ⟨q, hq⟩ : ∃ q, snapB10 ⟨4, 2, ⟨#[49, 50]⟩, ⟨#[100]⟩⟩ = q := ⟨_, rfl⟩
  rw [hq] at hget hgl
  obtain ⟨n, hn⟩ : ∃ n, s.length = n := ⟨_, rfl⟩
  obtain ⟨m, hmm⟩ : ∃ m, q.length = m := ⟨_, rfl⟩
  rw [hn] at hl hdec hscan
  rw [hmm] at hget hgl
  have HS := Lib.hid hs
  have HN := Lib.hid hn
  have HM := Lib.hid hmm
  have HQ := Lib.hid hq
  clear hs hn hmm hq hm hms hcut hdec1
  go_enter Tryd.func26, Tryd.ntmps26
  go_wp2_with fail
  refine (wenc_v true 3 2 0 0 0 ⟨#[]⟩ s w (by decide) HT.out HS.out).mono ?_
  rintro e w1 ⟨v1, rfl, ho1, hb1⟩
  obtain ⟨g1, c1, hv1, hg1, hcs⟩ := ho1.at_ (by rw [HN.out]; omega)
  subst hv1
  have hby1 := Byt.of_own ho1
  have hT1 := tbl_keep HT.out hb1
  obtain ⟨x0, t0, hst⟩ : ∃ x t, s = x :: t := by cases s with | nil => simp at HN; have := HN.out; omega | cons x t => exact ⟨x, t, rfl⟩
  rw [HN.out] at ho1 hby1 ⊢
  have HO1 := Lib.hid ho1
  have HBY1 := Lib.hid hby1
  have HT1 := Lib.hid hT1
  have hcx : w1.cell? ⟨g1, 0, none⟩ = some (.int .u8 (x0.toNat : Int)) := by
    have := HO1.out.at_ (by rw [HN.out]; omega)
    obtain ⟨g', c', e1, _, hcs'⟩ := this
    injection e1 with e2
    injection e2 with e3
    injection e3 with e4
    subst e4
    have := hcs' 0 (.int .u8 (x0.toNat : Int)) (by rw [hst]; rfl)
    simpa [Addr.add] using this
  have HST := Lib.hid hst
  clear ho1 hby1 hT1 hcs hst
  go_wp2_with fail
  refine (wdec_v _ _ s w1 HBY1.out (Nat.le_refl _) (by rw [HN.out]; omega) HT1.out _ _ _ _ _ _ _ _ _ hdec).mono ?_
  rintro e w2 ⟨rfl, hb2⟩
  have hb12 := hb2.size
  have hcx2 := (hb2.cell (p := ⟨g1, 0, none⟩) (cell_lt hcx)).trans hcx
  have HO2 := Lib.hid (HO1.out.below hb2)
  have HBY2 := Lib.hid (HBY1.out.below hb2 (Nat.le_refl _))
  have HB2 := Lib.hid (hb1.trans (hb2.mono hb1.size))
  clear hcx hb1 hb2 HO1 HBY1
  go_wp2_with fail
  obtain ⟨wx, hwx⟩ : ∃ wx, w2.alloc (.cells #[.bool true, .int .i64 3, .int .i64 2, .int .i64 0, .int .i64 0, .int .i64 0, .string ⟨#[]⟩] 88) = wx := ⟨_, rfl⟩
  have hbx : Below w2.heap.size w2 wx := by rw [← hwx]; exact below_new _ _
  obtain ⟨rb, hrb⟩ : ∃ rb, w2.heap.size = rb := ⟨_, rfl⟩
  have hrv : wx.cell? ⟨rb, 2, none⟩ = some (.int .i64 2) := by rw [← hwx, ← hrb]; exact new_cell10 rfl
  rw [hwx, hrb]
  have hcxx := (hbx.cell (p := ⟨g1, 0, none⟩) (cell_lt hcx2)).trans hcx2
  have HB2x := Lib.hid (HB2.out.trans (hbx.mono HB2.out.size))
  have HBY2x := Lib.hid (HBY2.out.below hbx hb12)
  have hw1x : w1.heap.size ≤ wx.heap.size := Nat.le_trans hb12 hbx.size
  have hn0 : ¬ n = 0 := by omega
  have hn1 : 0 < n := by omega
  clear hcx2 HB2 HBY2 hbx hwx hrb
  have hrv3 : wx.drew.cell? ⟨rb, 2, none⟩ = some (.int .i64 2) := hrv
  have hcx3 : wx.drew.cell? ⟨g1, 0, none⟩ = some (.int .u8 (x0.toNat : Int)) := hcxx
  have HB3 : Hid (Below w.heap.size w wx.drew) := Lib.hid HB2x.out.drew
  have HBY3 : Hid (Byt wx.drew w1.heap.size (.slice (some ⟨g1, 0, none⟩) n c1) s) := Lib.hid HBY2x.out
  have hg1b : g1 < wx.drew.heap.size := cell_lt hcx3
  have hw1k : w1.heap.size ≤ wx.drew.heap.size := hw1x
  refine wp_region_noPanic ?_
  refine wp_region_held_drew (S := fun W => W.cell? ⟨g1, 0, none⟩ = some (.int .u8 (x0.toNat : Int)) ∧ W.cell? ⟨rb, 2, none⟩ = some (.int .i64 2)) (by kernel_rfl) ?_ (fun hHeld => ?_)
  · exact ⟨hcx3, hrv3⟩
  have hrbl : rb < wx.drew.heap.size := cell_lt hrv3
  generalize wx.drew = k0 at *
  clear HB2x HBY2x hcxx hrv
  refine wpAnyH_take (i := 0) (oi := { dst := some 24, op := Op.move (Operand.tmp 1), type := 46, pos := "law.go:30", after := #[], guard := none }) (v := .slice (some ⟨g1, 0, none⟩) n c1) rfl (by kernel_rfl) (by kernel_rfl) (by kernel_rfl) (fun _ _ _ h => h) (Or.inl ⟨by rfl, fun w hSw => ?_⟩) (by assumption) ?_
  · (try dsimp only at hSw)
    go_simp
  try simp only [Act.put, List.setIfInBounds_toArray, List.set_cons_zero, List.set_cons_succ]
  refine wpAnyH_take (i := 2) (oi := { dst := some 26, op := Op.move (Operand.tmp 1), type := 46, pos := "law.go:30", after := #[], guard := none }) (v := .slice (some ⟨g1, 0, none⟩) n c1) rfl (by kernel_rfl) (by kernel_rfl) (by kernel_rfl) (fun _ _ _ h => h) (Or.inl ⟨by rfl, fun w hSw => ?_⟩) (by assumption) ?_
  · (try dsimp only at hSw)
    go_simp
  try simp only [Act.put, List.setIfInBounds_toArray, List.set_cons_zero, List.set_cons_succ]
  refine wpAnyH_take (i := 3) (oi := { dst := some 27, op := Op.indexAddr 46 (Operand.tmp 26) (Operand.const (Value.int IntKind.i64 0)), type := 0, pos := "law.go:30", after := #[{ on := 2, ground := Ground.data }], guard := none }) (v := .pointer (some ⟨g1, 0, none⟩)) rfl (by kernel_rfl) (by kernel_rfl) (by kernel_rfl) (fun _ _ _ h => h) (Or.inl ⟨by rfl, fun w hSw => ?_⟩) (by assumption) ?_
  · (try dsimp only at hSw)
    go_simp
  try simp only [Act.put, List.setIfInBounds_toArray, List.set_cons_zero, List.set_cons_succ]
  refine wpAnyH_take (i := 4) (oi := { dst := some 28, op := Op.load 5 (Operand.tmp 27), type := 5, pos := "law.go:30", after := #[{ on := 3, ground := Ground.data }], guard := none }) (v := .int .u8 (x0.toNat : Int)) rfl (by kernel_rfl) (by kernel_rfl) (by kernel_rfl) (fun _ _ _ h => h) (Or.inl ⟨by rfl, fun w hSw => ?_⟩) (by assumption) ?_
  · (try dsimp only at hSw)
    go_simp
  try simp only [Act.put, List.setIfInBounds_toArray, List.set_cons_zero, List.set_cons_succ]
  refine wpAnyH_ready (rs := [1, 5]) (by kernel_rfl) (by simp) ?_
  refine AllReadyH.cons (o := { dst := some 25, op := Op.call { callee := Callee.builtin Builtin.append, args := #[Operand.const (Value.slice none 0 0), Operand.tmp 24], argTypes := #[46, 46] }, type := 46, pos := "law.go:30", after := #[{ on := 0, ground := Ground.data }], guard := none }) rfl (fun K hK => ?_) (AllReadyH.cons (o := { dst := some 29, op := Op.buildSlice 46 1 #[(0, Operand.tmp 28)], type := 46, pos := "law.go:30", after := #[{ on := 4, ground := Ground.data }], guard := none }) rfl (fun K hK => ?_) AllReadyH.nil)
  · rw [if_pos (by rfl)]
    refine wp_append_byt_at _ _ rfl k0.heap.size _ _ _ _ _ rfl (ownB_nil _ _) rfl HBY3.out (by have := HN.out; simp; omega) (Nat.le_refl _) ?_
    intro va ka howa hba hga
    rw [List.nil_append] at howa
    obtain ⟨Aa, ca, hva⟩ := own_slice howa
    rw [HN.out] at hva
    subst hva
    have hcxa : ka.cell? ⟨g1, 0, none⟩ = some (.int .u8 (x0.toNat : Int)) := (hba.cell (p := ⟨g1, 0, none⟩) hg1b).trans hcx3
    have hrva : ka.cell? ⟨rb, 2, none⟩ = some (.int .i64 2) := (hba.cell (p := ⟨rb, 2, none⟩) hrbl).trans hrv3
    refine hK.out _ _ ?_ (fun hHeld => ?_)
    · exact ⟨hcxa, hrva⟩
    clear hK K
    try simp only [Act.put, List.setIfInBounds_toArray, List.set_cons_zero, List.set_cons_succ]
    refine wpAnyH_ready (rs := [5]) (by kernel_rfl) (by simp) ?_
    refine AllReadyH.cons (o := { dst := some 29, op := Op.buildSlice 46 1 #[(0, Operand.tmp 28)], type := 46, pos := "law.go:30", after := #[{ on := 4, ground := Ground.data }], guard := none }) rfl (fun K hK => ?_) AllReadyH.nil
    go_simp
    have hbn := byt_new1 ka 5 (x0.toNat : Int) x0 rfl
    have hown6 := howa.below (below_new ka (.cells #[.int .u8 (x0.toNat : Int)] 5))
    have hb5 : Below k0.heap.size k0 (ka.alloc (.cells #[.int .u8 (x0.toNat : Int)] 5)) := hba.alloc hba.size _
    refine hK.out _ _ ?_ (fun hHeld => ?_)
    · exact ⟨((below_new ka _).cell (p := ⟨g1, 0, none⟩) (cell_lt hcxa)).trans hcxa, ((below_new ka _).cell (p := ⟨rb, 2, none⟩) (cell_lt hrva)).trans hrva⟩
    clear hK K
    try simp only [Act.put, List.setIfInBounds_toArray, List.set_cons_zero, List.set_cons_succ]
    refine wpAnyH_ready (rs := [6]) (by kernel_rfl) (by simp) ?_
    refine AllReadyH.cons (o := { dst := some 30, op := Op.call { callee := Callee.builtin Builtin.append, args := #[Operand.tmp 25, Operand.tmp 29], argTypes := #[46, 46] }, type := 46, pos := "law.go:30", after := #[{ on := 1, ground := Ground.data }, { on := 5, ground := Ground.data }, { on := 1, ground := Ground.chain }], guard := none }) rfl (fun K hK => ?_) AllReadyH.nil
    rw [if_pos (by rfl)]
    refine wp_append_byt_at _ _ rfl k0.heap.size _ _ _ _ _ rfl hown6 rfl hbn (by have := HN.out; simp; omega) hb5.size ?_
    intro vb kb howb hbb hgb
    have hB6 := HB3.out.trans ((hb5.trans hbb).mono HB3.out.size)
    have hcxb : kb.cell? ⟨g1, 0, none⟩ = some (.int .u8 (x0.toNat : Int)) := ((hb5.trans hbb).cell (p := ⟨g1, 0, none⟩) hg1b).trans hcx3
    have hrvb : kb.cell? ⟨rb, 2, none⟩ = some (.int .i64 2) := ((hb5.trans hbb).cell (p := ⟨rb, 2, none⟩) hrbl).trans hrv3
    obtain ⟨Ab, cb, hvb⟩ := own_slice howb
    have hlb : (s ++ [x0]).length = n + 1 := by rw [List.length_append, HN.out]; rfl
    rw [hlb] at hvb
    subst hvb
    have hsx : s ++ [x0] = s ++ s.take 1 := by rw [show s.take 1 = [x0] by rw [HST.out]; rfl]
    rw [hsx] at howb
    have HOB := Lib.hid howb
    have HB6 := Lib.hid hB6
    clear hsx howb hbb hgb hB6
    refine hK.out _ _ ?_ (fun hHeld => ?_)
    · exact ⟨hcxb, hrvb⟩
    clear hK K
    try simp only [Act.put, List.setIfInBounds_toArray, List.set_cons_zero, List.set_cons_succ]
    refine wpAnyH_ready (rs := [7]) (by kernel_rfl) (by simp) ?_
    refine AllReadyH.cons (o := { dst := some 31, op := Op.call { callee := Callee.value (Operand.func 58), args := #[Operand.tmp 30], argTypes := #[46] }, type := 106, pos := "law.go:30", after := #[{ on := 6, ground := Ground.data }, { on := 6, ground := Ground.chain }], guard := none }) rfl (fun K hK => ?_) AllReadyH.nil
    go_simp
    go_at_call 58
    refine (wscan_v _ _ _ kb HOB.out (by rw [List.length_append, List.length_take, HN.out]; omega) (tbl_keep HT.out HB6.out) _ n 2 hscan).mono ?_
    rintro e kc ⟨As, cs, rfl, hos, hbc⟩
    have hcxc : kc.cell? ⟨g1, 0, none⟩ = some (.int .u8 (x0.toNat : Int)) := (hbc.cell (p := ⟨g1, 0, none⟩) (cell_lt hcxb)).trans hcxb
    have hrvc : kc.cell? ⟨rb, 2, none⟩ = some (.int .i64 2) := (hbc.cell (p := ⟨rb, 2, none⟩) (cell_lt hrvb)).trans hrvb
    have HB7 := Lib.hid (HB6.out.trans (hbc.mono HB6.out.size))
    clear hos hbc
    try dsimp only
    refine hK.out _ _ ?_ (fun hHeld => ?_)
    · exact ⟨hcxc, hrvc⟩
    clear hK K
    try simp only [Act.put, List.setIfInBounds_toArray, List.set_cons_zero, List.set_cons_succ]
    refine wpAnyH_take (i := 8) (oi := { dst := some 23, op := Op.move (Operand.tmp 31), type := 106, pos := "law.go:30", after := #[{ on := 7, ground := Ground.data }], guard := none }) (v := .tuple #[.slice As 1 cs, .int .i64 n, .bool true]) rfl (by kernel_rfl) (by kernel_rfl) (by kernel_rfl) (fun _ _ _ h => h) (Or.inl ⟨by rfl, fun w hSw => ?_⟩) (by assumption) ?_
    · (try dsimp only at hSw)
      go_simp
    try simp only [Act.put, List.setIfInBounds_toArray, List.set_cons_zero, List.set_cons_succ]
    refine wpAnyH_take (i := 9) (oi := { dst := some 32, op := Op.extract (Operand.tmp 23) 0, type := 105, pos := "law.go:30", after := #[{ on := 8, ground := Ground.data }], guard := none }) (v := .slice As 1 cs) rfl (by kernel_rfl) (by kernel_rfl) (by kernel_rfl) (fun _ _ _ h => h) (Or.inl ⟨by rfl, fun w hSw => ?_⟩) (by assumption) ?_
    · (try dsimp only at hSw)
      go_simp
    try simp only [Act.put, List.setIfInBounds_toArray, List.set_cons_zero, List.set_cons_succ]
    refine wpAnyH_take (i := 10) (oi := { dst := some 33, op := Op.extract (Operand.tmp 23) 1, type := 3, pos := "law.go:30", after := #[{ on := 8, ground := Ground.data }, { on := 12, ground := Ground.gcOnly Departure.lateStores }], guard := none }) (v := .int .i64 n) rfl (by kernel_rfl) (by kernel_rfl) (by kernel_rfl) (fun _ _ _ h => h) (Or.inl ⟨by rfl, fun w hSw => ?_⟩) (by assumption) ?_
    · (try dsimp only at hSw)
      go_simp
    try simp only [Act.put, List.setIfInBounds_toArray, List.set_cons_zero, List.set_cons_succ]
    refine wpAnyH_take (i := 11) (oi := { dst := some 34, op := Op.extract (Operand.tmp 23) 2, type := 4, pos := "law.go:30", after := #[{ on := 8, ground := Ground.data }, { on := 13, ground := Ground.gcOnly Departure.lateStores }], guard := none }) (v := .bool true) rfl (by kernel_rfl) (by kernel_rfl) (by kernel_rfl) (fun _ _ _ h => h) (Or.inl ⟨by rfl, fun w hSw => ?_⟩) (by assumption) ?_
    · (try dsimp only at hSw)
      go_simp
    try simp only [Act.put, List.setIfInBounds_toArray, List.set_cons_zero, List.set_cons_succ]
    refine wpAnyH_ready (rs := [12]) (by kernel_rfl) (by simp) ?_
    refine AllReadyH.cons (o := { dst := some 5, op := Op.assign (Operand.tmp 32), type := 105, pos := "law.go:30", after := #[{ on := 9, ground := Ground.data }, { on := 7, ground := Ground.chain }, { on := 0, ground := Ground.phase }, { on := 1, ground := Ground.phase }, { on := 2, ground := Ground.phase }, { on := 3, ground := Ground.phase }, { on := 4, ground := Ground.phase }, { on := 5, ground := Ground.phase }, { on := 6, ground := Ground.phase }, { on := 7, ground := Ground.phase }, { on := 8, ground := Ground.phase }, { on := 9, ground := Ground.phase }, { on := 10, ground := Ground.textOnly Departure.lateStores }, { on := 11, ground := Ground.textOnly Departure.lateStores }], guard := none }) rfl (fun K hK => ?_) AllReadyH.nil
    go_simp
    refine hK.out _ _ ?_ (fun hHeld => ?_)
    · exact ⟨hcxc, hrvc⟩
    clear hK K
    try simp only [Act.put, List.setIfInBounds_toArray, List.set_cons_zero, List.set_cons_succ]
    refine wpAnyH_ready (rs := [13]) (by kernel_rfl) (by simp) ?_
    refine AllReadyH.cons (o := { dst := some 6, op := Op.assign (Operand.tmp 33), type := 3, pos := "law.go:30", after := #[{ on := 10, ground := Ground.data }, { on := 12, ground := Ground.chain }, { on := 0, ground := Ground.phase }, { on := 1, ground := Ground.phase }, { on := 2, ground := Ground.phase }, { on := 3, ground := Ground.phase }, { on := 4, ground := Ground.phase }, { on := 5, ground := Ground.phase }, { on := 6, ground := Ground.phase }, { on := 7, ground := Ground.phase }, { on := 8, ground := Ground.phase }, { on := 9, ground := Ground.phase }, { on := 10, ground := Ground.phase }, { on := 11, ground := Ground.textOnly Departure.lateStores }, { on := 12, ground := Ground.phase }], guard := none }) rfl (fun K hK => ?_) AllReadyH.nil
    go_simp
    refine hK.out _ _ ?_ (fun hHeld => ?_)
    · exact ⟨hcxc, hrvc⟩
    clear hK K
    try simp only [Act.put, List.setIfInBounds_toArray, List.set_cons_zero, List.set_cons_succ]
    refine wpAnyH_ready (rs := [14]) (by kernel_rfl) (by simp) ?_
    refine AllReadyH.cons (o := { dst := some 7, op := Op.assign (Operand.tmp 34), type := 4, pos := "law.go:30", after := #[{ on := 11, ground := Ground.data }, { on := 13, ground := Ground.chain }, { on := 0, ground := Ground.phase }, { on := 1, ground := Ground.phase }, { on := 2, ground := Ground.phase }, { on := 3, ground := Ground.phase }, { on := 4, ground := Ground.phase }, { on := 5, ground := Ground.phase }, { on := 6, ground := Ground.phase }, { on := 7, ground := Ground.phase }, { on := 8, ground := Ground.phase }, { on := 9, ground := Ground.phase }, { on := 10, ground := Ground.phase }, { on := 11, ground := Ground.phase }, { on := 12, ground := Ground.phase }, { on := 13, ground := Ground.phase }], guard := none }) rfl (fun K hK => ?_) AllReadyH.nil
    go_simp
    refine hK.out _ _ ?_ (fun hHeld => ?_)
    · exact ⟨hcxc, hrvc⟩
    clear hK K
    try simp only [Act.put, List.setIfInBounds_toArray, List.set_cons_zero, List.set_cons_succ]
    refine wpAnyH_done (by kernel_rfl) ?_ _
    refine NoPanic.normal ?_
    clear hcxc hcxb hcx3 hrv3
    go_wp2_with fail
    refine (snap_v 4 2 ⟨#[49, 50]⟩ ⟨#[100]⟩ q kc (by decide) (by decide) (tbl_keep HT.out HB7.out) HQ.out).mono ?_
    rintro e kd ⟨vd, rfl, hod, hbd⟩
    have HB8 := Lib.hid (HB7.out.trans (hbd.mono HB7.out.size))
    have HOD := Lib.hid hod
    have hrvd : kd.cell? ⟨rb, 2, none⟩ = some (.int .i64 2) := (hbd.cell (p := ⟨rb, 2, none⟩) (cell_lt hrvc)).trans hrvc
    clear hod hbd
    go_wp2_with fail
    refine (wget_v vd _ q kd (Byt.of_own HOD.out) (Nat.le_refl _) (by rw [HM.out]; omega) (tbl_keep HT.out HB8.out) _ _ _ _ _ _ hget).mono ?_
    rintro e ke ⟨rfl, hbe⟩
    have HB9 := Lib.hid (HB8.out.trans (hbe.mono HB8.out.size))
    have hrve : ke.cell? ⟨rb, 2, none⟩ = some (.int .i64 2) := (hbe.cell (p := ⟨rb, 2, none⟩) (cell_lt hrvd)).trans hrvd
    have hrbe := cell_lt hrve
    clear hbe
    have hm1 : (0 : Int) < m := by omega
    go_wp2
    go_ret
    exact ⟨rfl, by first | exact HB9.out | exact HB9.out.alloc HB9.out.size _ | exact (HB9.out.alloc HB9.out.size _).alloc (by simp; have := HB9.out.size; omega) _⟩
  · go_simp
    have hbn := byt_new1 k0 5 (x0.toNat : Int) x0 rfl
    have hcxn : (k0.alloc (.cells #[.int .u8 (x0.toNat : Int)] 5)).cell? ⟨g1, 0, none⟩ = some (.int .u8 (x0.toNat : Int)) := ((below_new k0 _).cell (p := ⟨g1, 0, none⟩) hg1b).trans hcx3
    have hrvn : (k0.alloc (.cells #[.int .u8 (x0.toNat : Int)] 5)).cell? ⟨rb, 2, none⟩ = some (.int .i64 2) := ((below_new k0 _).cell (p := ⟨rb, 2, none⟩) hrbl).trans hrv3
    have hbyn := HBY3.out.below (below_new k0 (.cells #[.int .u8 (x0.toNat : Int)] 5)) hw1k
    refine hK.out _ _ ?_ (fun hHeld => ?_)
    · exact ⟨hcxn, hrvn⟩
    clear hK K
    try simp only [Act.put, List.setIfInBounds_toArray, List.set_cons_zero, List.set_cons_succ]
    refine wpAnyH_ready (rs := [1]) (by kernel_rfl) (by simp) ?_
    refine AllReadyH.cons (o := { dst := some 25, op := Op.call { callee := Callee.builtin Builtin.append, args := #[Operand.const (Value.slice none 0 0), Operand.tmp 24], argTypes := #[46, 46] }, type := 46, pos := "law.go:30", after := #[{ on := 0, ground := Ground.data }], guard := none }) rfl (fun K hK => ?_) AllReadyH.nil
    rw [if_pos (by rfl)]
    refine wp_append_byt_at _ _ rfl (k0.alloc (.cells #[.int .u8 (x0.toNat : Int)] 5)).heap.size _ _ _ _ _ rfl (ownB_nil _ _) rfl hbyn (by have := HN.out; simp; omega) (Nat.le_refl _) ?_
    intro va ka howa hba hga
    rw [List.nil_append] at howa
    obtain ⟨Aa, ca, hva⟩ := own_slice howa
    rw [HN.out] at hva
    subst hva
    have hcxa : ka.cell? ⟨g1, 0, none⟩ = some (.int .u8 (x0.toNat : Int)) := (hba.cell (p := ⟨g1, 0, none⟩) (by simp; omega)).trans hcxn
    have hrva : ka.cell? ⟨rb, 2, none⟩ = some (.int .i64 2) := (hba.cell (p := ⟨rb, 2, none⟩) (by simp; omega)).trans hrvn
    have hbn2 := hbn.below hba (by simp)
    have hown6 := howa.down (B := k0.heap.size) (by simp)
    have hb5 : Below k0.heap.size k0 ka := (below_new k0 (.cells #[.int .u8 (x0.toNat : Int)] 5)).trans (hba.mono (by simp))
    refine hK.out _ _ ?_ (fun hHeld => ?_)
    · exact ⟨hcxa, hrva⟩
    clear hK K
    try simp only [Act.put, List.setIfInBounds_toArray, List.set_cons_zero, List.set_cons_succ]
    refine wpAnyH_ready (rs := [6]) (by kernel_rfl) (by simp) ?_
    refine AllReadyH.cons (o := { dst := some 30, op := Op.call { callee := Callee.builtin Builtin.append, args := #[Operand.tmp 25, Operand.tmp 29], argTypes := #[46, 46] }, type := 46, pos := "law.go:30", after := #[{ on := 1, ground := Ground.data }, { on := 5, ground := Ground.data }, { on := 1, ground := Ground.chain }], guard := none }) rfl (fun K hK => ?_) AllReadyH.nil
    rw [if_pos (by rfl)]
    refine wp_append_byt_at _ _ rfl k0.heap.size _ _ _ _ _ rfl hown6 rfl hbn2 (by have := HN.out; simp; omega) hb5.size ?_
    intro vb kb howb hbb hgb
    have hB6 := HB3.out.trans ((hb5.trans hbb).mono HB3.out.size)
    have hcxb : kb.cell? ⟨g1, 0, none⟩ = some (.int .u8 (x0.toNat : Int)) := ((hb5.trans hbb).cell (p := ⟨g1, 0, none⟩) hg1b).trans hcx3
    have hrvb : kb.cell? ⟨rb, 2, none⟩ = some (.int .i64 2) := ((hb5.trans hbb).cell (p := ⟨rb, 2, none⟩) hrbl).trans hrv3
    obtain ⟨Ab, cb, hvb⟩ := own_slice howb
    have hlb : (s ++ [x0]).length = n + 1 := by rw [List.length_append, HN.out]; rfl
    rw [hlb] at hvb
    subst hvb
    have hsx : s ++ [x0] = s ++ s.take 1 := by rw [show s.take 1 = [x0] by rw [HST.out]; rfl]
    rw [hsx] at howb
    have HOB := Lib.hid howb
    have HB6 := Lib.hid hB6
    clear hsx howb hbb hgb hB6
    refine hK.out _ _ ?_ (fun hHeld => ?_)
    · exact ⟨hcxb, hrvb⟩
    clear hK K
    try simp only [Act.put, List.setIfInBounds_toArray, List.set_cons_zero, List.set_cons_succ]
    refine wpAnyH_ready (rs := [7]) (by kernel_rfl) (by simp) ?_
    refine AllReadyH.cons (o := { dst := some 31, op := Op.call { callee := Callee.value (Operand.func 58), args := #[Operand.tmp 30], argTypes := #[46] }, type := 106, pos := "law.go:30", after := #[{ on := 6, ground := Ground.data }, { on := 6, ground := Ground.chain }], guard := none }) rfl (fun K hK => ?_) AllReadyH.nil
    go_simp
    go_at_call 58
    refine (wscan_v _ _ _ kb HOB.out (by rw [List.length_append, List.length_take, HN.out]; omega) (tbl_keep HT.out HB6.out) _ n 2 hscan).mono ?_
    rintro e kc ⟨As, cs, rfl, hos, hbc⟩
    have hcxc : kc.cell? ⟨g1, 0, none⟩ = some (.int .u8 (x0.toNat : Int)) := (hbc.cell (p := ⟨g1, 0, none⟩) (cell_lt hcxb)).trans hcxb
    have hrvc : kc.cell? ⟨rb, 2, none⟩ = some (.int .i64 2) := (hbc.cell (p := ⟨rb, 2, none⟩) (cell_lt hrvb)).trans hrvb
    have HB7 := Lib.hid (HB6.out.trans (hbc.mono HB6.out.size))
    clear hos hbc
    try dsimp only
    refine hK.out _ _ ?_ (fun hHeld => ?_)
    · exact ⟨hcxc, hrvc⟩
    clear hK K
    try simp only [Act.put, List.setIfInBounds_toArray, List.set_cons_zero, List.set_cons_succ]
    refine wpAnyH_take (i := 8) (oi := { dst := some 23, op := Op.move (Operand.tmp 31), type := 106, pos := "law.go:30", after := #[{ on := 7, ground := Ground.data }], guard := none }) (v := .tuple #[.slice As 1 cs, .int .i64 n, .bool true]) rfl (by kernel_rfl) (by kernel_rfl) (by kernel_rfl) (fun _ _ _ h => h) (Or.inl ⟨by rfl, fun w hSw => ?_⟩) (by assumption) ?_
    · (try dsimp only at hSw)
      go_simp
    try simp only [Act.put, List.setIfInBounds_toArray, List.set_cons_zero, List.set_cons_succ]
    refine wpAnyH_take (i := 9) (oi := { dst := some 32, op := Op.extract (Operand.tmp 23) 0, type := 105, pos := "law.go:30", after := #[{ on := 8, ground := Ground.data }], guard := none }) (v := .slice As 1 cs) rfl (by kernel_rfl) (by kernel_rfl) (by kernel_rfl) (fun _ _ _ h => h) (Or.inl ⟨by rfl, fun w hSw => ?_⟩) (by assumption) ?_
    · (try dsimp only at hSw)
      go_simp
    try simp only [Act.put, List.setIfInBounds_toArray, List.set_cons_zero, List.set_cons_succ]
    refine wpAnyH_take (i := 10) (oi := { dst := some 33, op := Op.extract (Operand.tmp 23) 1, type := 3, pos := "law.go:30", after := #[{ on := 8, ground := Ground.data }, { on := 12, ground := Ground.gcOnly Departure.lateStores }], guard := none }) (v := .int .i64 n) rfl (by kernel_rfl) (by kernel_rfl) (by kernel_rfl) (fun _ _ _ h => h) (Or.inl ⟨by rfl, fun w hSw => ?_⟩) (by assumption) ?_
    · (try dsimp only at hSw)
      go_simp
    try simp only [Act.put, List.setIfInBounds_toArray, List.set_cons_zero, List.set_cons_succ]
    refine wpAnyH_take (i := 11) (oi := { dst := some 34, op := Op.extract (Operand.tmp 23) 2, type := 4, pos := "law.go:30", after := #[{ on := 8, ground := Ground.data }, { on := 13, ground := Ground.gcOnly Departure.lateStores }], guard := none }) (v := .bool true) rfl (by kernel_rfl) (by kernel_rfl) (by kernel_rfl) (fun _ _ _ h => h) (Or.inl ⟨by rfl, fun w hSw => ?_⟩) (by assumption) ?_
    · (try dsimp only at hSw)
      go_simp
    try simp only [Act.put, List.setIfInBounds_toArray, List.set_cons_zero, List.set_cons_succ]
    refine wpAnyH_ready (rs := [12]) (by kernel_rfl) (by simp) ?_
    refine AllReadyH.cons (o := { dst := some 5, op := Op.assign (Operand.tmp 32), type := 105, pos := "law.go:30", after := #[{ on := 9, ground := Ground.data }, { on := 7, ground := Ground.chain }, { on := 0, ground := Ground.phase }, { on := 1, ground := Ground.phase }, { on := 2, ground := Ground.phase }, { on := 3, ground := Ground.phase }, { on := 4, ground := Ground.phase }, { on := 5, ground := Ground.phase }, { on := 6, ground := Ground.phase }, { on := 7, ground := Ground.phase }, { on := 8, ground := Ground.phase }, { on := 9, ground := Ground.phase }, { on := 10, ground := Ground.textOnly Departure.lateStores }, { on := 11, ground := Ground.textOnly Departure.lateStores }], guard := none }) rfl (fun K hK => ?_) AllReadyH.nil
    go_simp
    refine hK.out _ _ ?_ (fun hHeld => ?_)
    · exact ⟨hcxc, hrvc⟩
    clear hK K
    try simp only [Act.put, List.setIfInBounds_toArray, List.set_cons_zero, List.set_cons_succ]
    refine wpAnyH_ready (rs := [13]) (by kernel_rfl) (by simp) ?_
    refine AllReadyH.cons (o := { dst := some 6, op := Op.assign (Operand.tmp 33), type := 3, pos := "law.go:30", after := #[{ on := 10, ground := Ground.data }, { on := 12, ground := Ground.chain }, { on := 0, ground := Ground.phase }, { on := 1, ground := Ground.phase }, { on := 2, ground := Ground.phase }, { on := 3, ground := Ground.phase }, { on := 4, ground := Ground.phase }, { on := 5, ground := Ground.phase }, { on := 6, ground := Ground.phase }, { on := 7, ground := Ground.phase }, { on := 8, ground := Ground.phase }, { on := 9, ground := Ground.phase }, { on := 10, ground := Ground.phase }, { on := 11, ground := Ground.textOnly Departure.lateStores }, { on := 12, ground := Ground.phase }], guard := none }) rfl (fun K hK => ?_) AllReadyH.nil
    go_simp
    refine hK.out _ _ ?_ (fun hHeld => ?_)
    · exact ⟨hcxc, hrvc⟩
    clear hK K
    try simp only [Act.put, List.setIfInBounds_toArray, List.set_cons_zero, List.set_cons_succ]
    refine wpAnyH_ready (rs := [14]) (by kernel_rfl) (by simp) ?_
    refine AllReadyH.cons (o := { dst := some 7, op := Op.assign (Operand.tmp 34), type := 4, pos := "law.go:30", after := #[{ on := 11, ground := Ground.data }, { on := 13, ground := Ground.chain }, { on := 0, ground := Ground.phase }, { on := 1, ground := Ground.phase }, { on := 2, ground := Ground.phase }, { on := 3, ground := Ground.phase }, { on := 4, ground := Ground.phase }, { on := 5, ground := Ground.phase }, { on := 6, ground := Ground.phase }, { on := 7, ground := Ground.phase }, { on := 8, ground := Ground.phase }, { on := 9, ground := Ground.phase }, { on := 10, ground := Ground.phase }, { on := 11, ground := Ground.phase }, { on := 12, ground := Ground.phase }, { on := 13, ground := Ground.phase }], guard := none }) rfl (fun K hK => ?_) AllReadyH.nil
    go_simp
    refine hK.out _ _ ?_ (fun hHeld => ?_)
    · exact ⟨hcxc, hrvc⟩
    clear hK K
    try simp only [Act.put, List.setIfInBounds_toArray, List.set_cons_zero, List.set_cons_succ]
    refine wpAnyH_done (by kernel_rfl) ?_ _
    refine NoPanic.normal ?_
    clear hcxc hcxb hcx3 hrv3
    go_wp2_with fail
    refine (snap_v 4 2 ⟨#[49, 50]⟩ ⟨#[100]⟩ q kc (by decide) (by decide) (tbl_keep HT.out HB7.out) HQ.out).mono ?_
    rintro e kd ⟨vd, rfl, hod, hbd⟩
    have HB8 := Lib.hid (HB7.out.trans (hbd.mono HB7.out.size))
    have HOD := Lib.hid hod
    have hrvd : kd.cell? ⟨rb, 2, none⟩ = some (.int .i64 2) := (hbd.cell (p := ⟨rb, 2, none⟩) (cell_lt hrvc)).trans hrvc
    clear hod hbd
    go_wp2_with fail
    refine (wget_v vd _ q kd (Byt.of_own HOD.out) (Nat.le_refl _) (by rw [HM.out]; omega) (tbl_keep HT.out HB8.out) _ _ _ _ _ _ hget).mono ?_
    rintro e ke ⟨rfl, hbe⟩
    have HB9 := Lib.hid (HB8.out.trans (hbe.mono HB8.out.size))
    have hrve : ke.cell? ⟨rb, 2, none⟩ = some (.int .i64 2) := (hbe.cell (p := ⟨rb, 2, none⟩) (cell_lt hrvd)).trans hrvd
    have hrbe := cell_lt hrve
    clear hbe
    have hm1 : (0 : Int) < m := by omega
    go_wp2
    go_ret
    exact ⟨rfl, by first | exact HB9.out | exact HB9.out.alloc HB9.out.size _ | exact (HB9.out.alloc HB9.out.size _).alloc (by simp; have := HB9.out.size; omega) _⟩
end Go.Proofs.YtmoaacaopphgbaaDoor
/-
  Stage 10's laws cut a record's text, and turn records to the program's and back.
  There are no conditions.
-/
set_option linter.unusedSimpArgs false
set_option linter.unusedVariables false
namespace Go.Proofs.YtmoaacaopphgbaaDoor
open Go.RowKit
set_option maxRecDepth 100000

theorem eqEnt10_self (e : Ent) : eqEnt10 e e = true := by unfold eqEnt10; simp
theorem eq10_self (r : Rcd) : eq10 r r = true := by unfold eq10; rw [eqEnt10_self]; simp
end Go.Proofs.YtmoaacaopphgbaaDoor
/-
  How a law's arguments that are records, a row of them, or a snapshot are opened.
  There are no conditions.
-/
set_option linter.unusedSimpArgs false
set_option linter.unusedVariables false
namespace Go.Proofs.YtmoaacaopphgbaaDoor
open Go.RowKit Go.WideShapes Go.ChangeShapes Go.Joins Go.Deep
set_option maxRecDepth 100000

def I64b (a : Int) : Prop := -9223372036854775808 ≤ a ∧ a ≤ 9223372036854775807
theorem i64b_wf {a : Int} (h : (Lit.int .i64 a).wf = true) : I64b a := by
  have := bounds_i64 h; unfold I64b; omega
def Rcd.fit (r : Rcd) : Prop := I64b r.ht ∧ I64b r.hv ∧ I64b r.e.ix ∧ I64b r.e.et ∧ I64b r.e.kd ∧ r.e.data.size ≤ maxLen
def Snp.fit (s : Snp) : Prop := I64b s.ix ∧ I64b s.st ∧ s.conf.size ≤ maxLen ∧ s.data.size ≤ maxLen
/-- a slice value of records; its cells lie below block B -/
def Rcds (w : World) (B : Nat) (v : Value) (L : List Rcd) : Prop :=
  ∃ A c, v = .slice A L.length c ∧ L.length ≤ c ∧ (0 < L.length → ∃ g o, A = some ⟨g, o, Option.none⟩ ∧ g < B ∧ ∀ k (h : k < L.length), w.rangeAt g (o + k * 7) L[k].cs)
theorem Tryd.cellsHard10 : Tryd.prog.cellsOf 24 = 2 := by kernel_rfl
theorem Tryd.cellsEntry10 : Tryd.prog.cellsOf 41 = 4 := by kernel_rfl
theorem Tryd.cellsSnap10 : Tryd.prog.cellsOf 33 = 4 := by kernel_rfl
theorem Tryd.cellsInt10 : Tryd.prog.cellsOf 3 = 1 := by kernel_rfl
theorem Tryd.cellsInt6410 : Tryd.prog.cellsOf 2 = 1 := by kernel_rfl
theorem Tryd.cellsString10 : Tryd.prog.cellsOf 9 = 1 := by kernel_rfl
theorem Tryd.cellsBool10 : Tryd.prog.cellsOf 4 = 1 := by kernel_rfl
theorem cell_in10 {w : World} {a : Addr} {v : Value} (h : w.cell? a = some v) : a.block < w.heap.size := cell_lt h
section
variable {H : Type} {enc : TypeId × Value → H} {w : World} {base : Nat} {spare : Nat → Bool} {held : Bool}
theorem trod_struct4_10 {P : Program} {t : TypeId} {f0 f1 f2 f3 : Field} {fuel : Nat} {cs : List Value} {x : DataW H × List MemPlace} (ht : P.underlying t = some (.struct #[f0, f1, f2, f3])) (h : DataW.trod enc P w base spare held fuel t cs = some x) :
    ∃ y0 y1 y2 y3 n, cs.length = P.cellsOf t ∧ DataW.trod enc P w base spare held n f0.type ((cs.drop f0.offset).take (P.cellsOf f0.type)) = some y0 ∧
      DataW.trod enc P w base spare held n f1.type ((cs.drop f1.offset).take (P.cellsOf f1.type)) = some y1 ∧ DataW.trod enc P w base spare held n f2.type ((cs.drop f2.offset).take (P.cellsOf f2.type)) = some y2 ∧
      DataW.trod enc P w base spare held n f3.type ((cs.drop f3.offset).take (P.cellsOf f3.type)) = some y3 := by
  obtain ⟨xs, n, _, rfl, hl, hlen, hf⟩ := DataW.trod_struct ht h
  match xs, hlen with
  | [y0, y1, y2, y3], _ => exact ⟨y0, y1, y2, y3, n, hl, by simpa using hf 0 f0 rfl, by simpa using hf 1 f1 rfl, by simpa using hf 2 f2 rfl, by simpa using hf 3 f3 rfl⟩
theorem trod_struct2_10 {P : Program} {t : TypeId} {f0 f1 : Field} {fuel : Nat} {cs : List Value} {x : DataW H × List MemPlace} (ht : P.underlying t = some (.struct #[f0, f1])) (h : DataW.trod enc P w base spare held fuel t cs = some x) :
    ∃ y0 y1 n, cs.length = P.cellsOf t ∧ DataW.trod enc P w base spare held n f0.type ((cs.drop f0.offset).take (P.cellsOf f0.type)) = some y0 ∧
      DataW.trod enc P w base spare held n f1.type ((cs.drop f1.offset).take (P.cellsOf f1.type)) = some y1 := by
  obtain ⟨xs, n, _, rfl, hl, hlen, hf⟩ := DataW.trod_struct ht h
  match xs, hlen with
  | [y0, y1], _ => exact ⟨y0, y1, n, hl, by simpa using hf 0 f0 rfl, by simpa using hf 1 f1 rfl⟩
theorem trod_struct3_10 {P : Program} {t : TypeId} {f0 f1 f2 : Field} {fuel : Nat} {cs : List Value} {x : DataW H × List MemPlace} (ht : P.underlying t = some (.struct #[f0, f1, f2])) (h : DataW.trod enc P w base spare held fuel t cs = some x) :
    ∃ y0 y1 y2 n, cs.length = P.cellsOf t ∧ DataW.trod enc P w base spare held n f0.type ((cs.drop f0.offset).take (P.cellsOf f0.type)) = some y0 ∧
      DataW.trod enc P w base spare held n f1.type ((cs.drop f1.offset).take (P.cellsOf f1.type)) = some y1 ∧ DataW.trod enc P w base spare held n f2.type ((cs.drop f2.offset).take (P.cellsOf f2.type)) = some y2 := by
  obtain ⟨xs, n, _, rfl, hl, hlen, hf⟩ := DataW.trod_struct ht h
  match xs, hlen with
  | [y0, y1, y2], _ => exact ⟨y0, y1, y2, n, hl, by simpa using hf 0 f0 rfl, by simpa using hf 1 f1 rfl, by simpa using hf 2 f2 rfl⟩
theorem hard_cells {fuel : Nat} {cs : List Value} {x : DataW H × List MemPlace} (h : DataW.trod enc Tryd.prog w base spare held fuel 24 cs = some x) : ∃ a b, cs = [.int .i64 a, .int .i64 b] ∧ I64b a ∧ I64b b := by
  obtain ⟨y0, y1, n, hl, h0, h1⟩ := trod_struct2_10 Tryd.underlying24 h
  rw [Tryd.cellsHard10] at hl
  match cs, hl with
  | [c0, c1], _ =>
    simp only [Tryd.cellsInt10, Tryd.cellsInt6410, List.drop_zero, List.drop_succ_cons, List.take_succ_cons, List.take_zero] at h0 h1
    obtain ⟨a, e0, _, wa⟩ := DataW.trod_int Tryd.underlying2 h0
    obtain ⟨b, e1, _, wb⟩ := DataW.trod_int Tryd.underlying3 h1
    simp only [List.cons.injEq, and_true] at e0 e1
    subst e0; subst e1
    exact ⟨a, b, rfl, i64b_wf wa, i64b_wf wb⟩
theorem entry_cells {fuel : Nat} {cs : List Value} {x : DataW H × List MemPlace} (h : DataW.trod enc Tryd.prog w base spare held fuel 41 cs = some x) : ∃ a b c s, cs = [.int .i64 a, .int .i64 b, .int .i64 c, .string s] ∧ I64b a ∧ I64b b ∧ I64b c ∧ s.size ≤ maxLen := by
  obtain ⟨y0, y1, y2, y3, n, hl, h0, h1, h2, h3⟩ := trod_struct4_10 Tryd.underlying41 h
  rw [Tryd.cellsEntry10] at hl
  match cs, hl with
  | [c0, c1, c2, c3], _ =>
    simp only [Tryd.cellsInt10, Tryd.cellsInt6410, Tryd.cellsString10, List.drop_zero, List.drop_succ_cons, List.take_succ_cons, List.take_zero] at h0 h1 h2 h3
    obtain ⟨a, e0, _, wa⟩ := DataW.trod_int Tryd.underlying2 h0
    obtain ⟨b, e1, _, wb⟩ := DataW.trod_int Tryd.underlying2 h1
    obtain ⟨c, e2, _, wc⟩ := DataW.trod_int Tryd.underlying3 h2
    obtain ⟨s, e3, _, ws⟩ := DataW.trod_string Tryd.underlying9 h3
    simp only [List.cons.injEq, and_true] at e0 e1 e2 e3
    subst e0; subst e1; subst e2; subst e3
    exact ⟨a, b, c, s, rfl, i64b_wf wa, i64b_wf wb, i64b_wf wc, ws⟩
theorem snp_cells {fuel : Nat} {cs : List Value} {x : DataW H × List MemPlace} (h : DataW.trod enc Tryd.prog w base spare held fuel 33 cs = some x) : ∃ s : Snp, cs = [.int .i64 s.ix, .int .i64 s.st, .string s.conf, .string s.data] ∧ s.fit := by
  obtain ⟨y0, y1, y2, y3, n, hl, h0, h1, h2, h3⟩ := trod_struct4_10 Tryd.underlying33 h
  rw [Tryd.cellsSnap10] at hl
  match cs, hl with
  | [c0, c1, c2, c3], _ =>
    simp only [Tryd.cellsInt6410, Tryd.cellsString10, List.drop_zero, List.drop_succ_cons, List.take_succ_cons, List.take_zero] at h0 h1 h2 h3
    obtain ⟨a, e0, _, wa⟩ := DataW.trod_int Tryd.underlying2 h0
    obtain ⟨b, e1, _, wb⟩ := DataW.trod_int Tryd.underlying2 h1
    obtain ⟨c, e2, _, wc⟩ := DataW.trod_string Tryd.underlying9 h2
    obtain ⟨s, e3, _, ws⟩ := DataW.trod_string Tryd.underlying9 h3
    simp only [List.cons.injEq, and_true] at e0 e1 e2 e3
    subst e0; subst e1; subst e2; subst e3
    exact ⟨⟨a, b, c, s⟩, rfl, i64b_wf wa, i64b_wf wb, wc, ws⟩
end
section
variable {H : Type} {enc : TypeId × Value → H} {W : World} {base b0 : Nat} {sp : Nat → Bool} {hd : Bool} {r : Reach} {v : Value} {d : DataW H} {p : List MemPlace}
theorem open_snp (hv : Value.okWide Tryd.prog W r b0 33 v) (h : DataW.Trod enc Tryd.prog W base sp hd 33 v d p) : ∃ x : Snp, v = x.val ∧ x.fit := by
  obtain ⟨cs, rfl, hsz⟩ := okWide_struct Tryd.underlying33 hv
  obtain ⟨fuel, hf⟩ := h
  obtain ⟨x, hx, hfit⟩ := snp_cells hf
  have hx2 : cs.toList = [.int .i64 x.ix, .int .i64 x.st, .string x.conf, .string x.data] := by simpa [Value.cells] using hx
  exact ⟨x, by unfold Snp.val; congr 1; apply Array.toList_inj.1; rw [hx2], hfit⟩
end
theorem Rcds.below {w w' : World} {B C : Nat} {v : Value} {L : List Rcd} (h : Rcds w B v L) (hb : Below C w w') (hC : B ≤ C) : Rcds w' B v L := by
  obtain ⟨A, c, hv, hc, h⟩ := h
  refine ⟨A, c, hv, hc, fun hn => ?_⟩
  obtain ⟨g, o, hA, hg, hcs⟩ := h hn
  exact ⟨g, o, hA, hg, fun k hk j z hj => (hb.cell (p := ⟨g, o + k * 7 + j, Option.none⟩) (Nat.lt_of_lt_of_le hg hC)).trans (hcs k hk j z hj)⟩
theorem Rcds.at_ {w : World} {B n c : Nat} {A : Option Addr} {L : List Rcd} (h : Rcds w B (.slice A n c) L) (k : Nat) (hk : k < L.length) : ∃ g o, A = some ⟨g, o, Option.none⟩ ∧ g < B ∧ w.rangeAt g (o + k * 7) L[k].cs := by
  obtain ⟨A', c', hv, _, h⟩ := h
  injection hv with e1 e2 e3
  subst e1
  obtain ⟨g, o, rfl, hg, hcs⟩ := h (by omega)
  exact ⟨g, o, rfl, hg, hcs k hk⟩
end Go.Proofs.YtmoaacaopphgbaaDoor
