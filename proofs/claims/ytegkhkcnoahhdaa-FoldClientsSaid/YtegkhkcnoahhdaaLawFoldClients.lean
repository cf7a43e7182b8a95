/-
  Each client's batches count in its own order, whatever the others do. There are no conditions.
-/
import Derived.Test.YtegkhkcnoahhdaaRows
import Derived.Test.YtegkhkcnoahhdaaL7Begun
import Derived.Test.YtegkhkcnoahhdaaL7Walk
import Derived.Test.YtegkhkcnoahhdaaL7Ints
import Derived.Test.YtegkhkcnoahhdaaL7Cli
import Derived.Test.YtegkhkcnoahhdaaLawKit
import Derived.WalkKit
import Derived.ProofKit
import Derived.OpenShut
import Derived.ShutString
set_option linter.unusedSimpArgs false
set_option linter.unusedVariables false
namespace Go.Proofs.Ytegkhkcnoahhdaa.foldClients
open Go.ChangeShapes Go.WideShapes Go.ChangeAt Go.RowKit
open Go.ChangeMaps (open_string shut_string)
set_option linter.unusedVariables false

theorem own : ownKnob Try.prog.godebug = none := by kernel_rfl

set_option maxRecDepth 100000 in
set_option maxHeartbeats 8000000 in
theorem walk (w : World) (A0 : Option Addr) (c0 : Nat) (a0 : List Int) (w0 : Ints w w.heap.size (.slice A0 a0.length c0) a0) (x0 : ∀ x ∈ a0, I64 x) :
    Calls Try.prog 5 #[.slice A0 a0.length c0] w fun e w' => e = .returned (.bool true) ∧ Below w.heap.size w w' := by
  have HA := Lib.hid w0; clear w0
  have HF := Lib.hid x0; clear x0
  have hb := Below.refl w.heap.size w
  go_enter Try.func5, Try.ntmps5
  go_wp2_with fail
  refine (begun7_any _).mono ?_
  rintro e k1 ⟨rfl, h⟩
  have hk : Below w.heap.size w k1 := HK9 h
  have hz := h.size
  try simp at hz
  replace hb : Below w.heap.size w k1 := hb.trans (hk.mono hb.size)
  clear h hk
  go_wp2_with fail
  refine (fnew_is w.heap.size _ (by have := hb.size; first | omega | exact Nat.le_refl _ | (simp; omega))).mono ?_
  rintro e k2 ⟨rfl, hd9, h⟩
  have hk : Below k1.heap.size k1 k2 := HK9 h
  have hz := h.size
  try simp at hz
  replace hb : Below w.heap.size w k2 := hb.trans (hk.mono hb.size)
  clear h hk
  have HD := Lib.hid hd9; clear hd9
  have hltHD : k1.heap.size < k2.heap.size := HD.out.lt
  obtain ⟨gd, hgd9⟩ : ∃ g, k1.heap.size = g := ⟨_, rfl⟩
  rw [hgd9] at HD ⊢
  have hwd : w.heap.size ≤ gd := HD.out.lo
  have hltd := HD.out.lt
  clear hgd9
  go_wp2_with fail
  refine wp_world (fun W => Rb W k2.heap.size 47 (lasC fo0) ∧ Below k2.heap.size k2 W) ⟨by exact Rb.new _ _ _, by exact below_one _ _⟩ ?_
  rintro k3 ⟨hr9, hk⟩
  replace HD := Lib.hid (Fd.below HD.out hk)
  replace hb : Below w.heap.size w k3 := hb.trans (hk.mono (by first | exact hb.size | omega))
  have hkz9 := hk.size
  clear hk
  obtain ⟨gHL, hg9⟩ : ∃ g, k2.heap.size = g := ⟨_, rfl⟩
  rw [hg9] at hr9 ⊢
  have hlowHL : k2.heap.size ≤ gHL := by omega
  have HL := Lib.hid hr9; clear hr9 hg9
  have hltHL := Rb.lt HL.out
  have hgl : gd < gHL := by omega
  go_loopw [6] (fun i wr => ∃ (k : Nat) (f : Fo), i = .int .i64 k ∧ k ≤ a0.length ∧ k ≤ 60 ∧ CliI f k ∧ Fd wr w.heap.size gd f ∧ Rb wr gHL 47 (lasC f) ∧ Below w.heap.size w wr) (fun i _ => 60 - (intOf i).toNat)
  case atStart => exact ⟨0, fo0, rfl, Nat.zero_le _, Nat.zero_le _, CliI.zero, HD.out, HL.out, hb⟩
  case round =>
    clear HD HL hb hltd hltHL
    obtain ⟨k, f, rfl, hk, hk6, hci, hd, hl, hb⟩ := hrel
    have HC := Lib.hid hci; clear hci
    have HD := Lib.hid hd; clear hd
    have HL := Lib.hid hl; clear hl
    have hltD := HD.out.lt
    have hltL := HL.out.lt
    by_cases hkl : k < a0.length
    · by_cases hk60 : k < 60
      · have hki : (k : Int) < (a0.length : Int) := by omega
        have hk6i : (k : Int) < 60 := by omega
        obtain ⟨g, o, rfl, hga, hcl⟩ := (HA.out.keep hb (Nat.le_refl _)).at_ k hkl
        have hx6 := HF.out _ (List.getElem_mem hkl)
        obtain ⟨x, hx⟩ : ∃ x, a0[k] = x := ⟨_, rfl⟩
        rw [hx] at hcl hx6
        clear hx
        obtain ⟨c, hc1, hc5, hcq, hq1, hq2⟩ := tmod5 x
        have hx1 := hx6.1
        have hx2 := hx6.2
        go_upto_region 10 with fail
        clear hcq hq1 hq2 hx1 hx2 hcl hga hx6
        obtain ⟨L, hL⟩ : ∃ L, f.last c = L := ⟨_, rfl⟩
        have hL0 := HC.out.last c
        rw [hL] at hL0
        have hL1 := hL0.1
        have hL2 := hL0.2
        have hLc : wr.cell? ⟨gHL, c, none⟩ = some (.int .i64 L) := HL.out.cell (lasC_at hc5 hL)
        have HLL := Lib.hid hL; clear hL
        have hcI1 : 1 ≤ (c : Int) := by omega
        have hcI5 : (c : Int) ≤ 5 := by omega
        go_upto_region 11 with fail
        refine wp_world (fun W => Rb W wr.heap.size 38 oN1.cs ∧ Rb W (wr.heap.size + 1) 29 [.int .i64 (c : Int), .int .i64 (L + 1), .slice (some ⟨wr.heap.size, 0, none⟩) 1 1] ∧ Below wr.heap.size wr W) ⟨(Rb.new _ _ _).below (below_one _ _), by rw [show wr.heap.size + 1 = (wr.alloc (.cells oN1.cs.toArray 38)).heap.size from by simp]; exact Rb.new _ _ _, (below_one _ _).trans ((below_one _ _).mono (by simp))⟩ ?_
        rintro k21 ⟨ho9, hb9, hk⟩
        have hltq := hb9.lt
        replace HD := Lib.hid (Fd.below HD.out hk)
        replace HL := Lib.hid (Rb.below HL.out hk)
        replace hb : Below w.heap.size w k21 := hb.trans (hk.mono hb.size)
        clear hk
        obtain ⟨gO, hgO⟩ : ∃ g, wr.heap.size = g := ⟨_, rfl⟩
        obtain ⟨gB, hgB⟩ : ∃ g, wr.heap.size + 1 = g := ⟨_, rfl⟩
        rw [hgB, hgO] at hb9
        rw [hgO] at ho9
        rw [hgB] at hltq
        try rw [hgB]
        try rw [hgO]
        have hOB : gO + 1 = gB := by omega
        have hdO : gd < gO := by omega
        have hlO : gHL < gO := by omega
        have HO := Lib.hid ho9; clear ho9
        have HB := Lib.hid hb9; clear hb9
        clear hgO hgB hLc
        have hi3 : (Try.prog.info? 29).map (·.size) = some 3 := by kernel_rfl
        refine wp_meetx (fun a b W => ∃ gA gS, b = ((((a.put (some 50) (.agg #[.int .i64 (c : Int), .int .i64 (L + 1), .slice (some ⟨gO, 0, none⟩) 1 1])).put (some 51) (.agg #[.int .i64 (c : Int), .int .i64 (L + 1), .slice (some ⟨gO, 0, none⟩) 1 1])).put (some 9) (.pointer (some ⟨gA, 0, none⟩))).put (some 10) (.pointer (some ⟨gS, 0, none⟩))) ∧ Fd W w.heap.size gd f ∧ Rb W gHL 47 (lasC f) ∧ Rb W gO 38 oN1.cs ∧ Rb W gB 29 [.int .i64 (c : Int), .int .i64 (L + 1), .slice (some ⟨gO, 0, none⟩) 1 1] ∧ Rb W gA 29 [.int .i64 (c : Int), .int .i64 (L + 1), .slice (some ⟨gO, 0, none⟩) 1 1] ∧ Rb W gS 29 [.int .i64 (c : Int), .int .i64 (L + 1), .slice (some ⟨gO, 0, none⟩) 1 1] ∧ gB < gA ∧ gB < gS ∧ gA ≠ gS ∧ Below w.heap.size w W ∧ k21.heap.size ≤ W.heap.size) ?_ ?_
        · replace HD := Lib.hid (Fd.below HD.out ((Below.refl k21.heap.size k21).drew))
          replace HL := Lib.hid (Rb.below HL.out ((Below.refl k21.heap.size k21).drew))
          replace HO := Lib.hid (Rb.below HO.out ((Below.refl k21.heap.size k21).drew))
          replace HB := Lib.hid (Rb.below HB.out ((Below.refl k21.heap.size k21).drew))
          have m1 : Rb k21.drew gB 29 [.int .i64 (c : Int), .int .i64 (L + 1), .slice (some ⟨gO, 0, none⟩) 1 1] := HB.out
          refine wp_region_noPanic ?_
          refine wp_region_held_drew (S := fun W => Rb W gB 29 [.int .i64 (c : Int), .int .i64 (L + 1), .slice (some ⟨gO, 0, none⟩) 1 1]) (by kernel_rfl) ?_ (fun hHeld => ?_)
          · exact m1
          replace hb : Below w.heap.size w k21.drew := hb.drew
          have hzd : k21.heap.size ≤ k21.drew.heap.size := Nat.le_refl _
          generalize k21.drew = k22 at *
          refine wpAnyH_take (i := 0) (oi := { dst := some 50, op := Op.load 29 (Operand.tmp 8), type := 29, pos := "wide.go:20", after := #[], guard := none }) (v := .agg #[.int .i64 (c : Int), .int .i64 (L + 1), .slice (some ⟨gO, 0, none⟩) 1 1]) rfl (by kernel_rfl) (by kernel_rfl) (by kernel_rfl) (fun _ _ _ h => h) (yieldsIf_load_mid (by rfl) 29 _ rfl gB 0 rfl [.int .i64 (c : Int), .int .i64 (L + 1), .slice (some ⟨gO, 0, none⟩) 1 1] _ (fun w h => h.range) Try.underlying29 rfl hi3) (by assumption) ?_
          try simp only [Act.put, List.setIfInBounds_toArray, List.set_cons_zero, List.set_cons_succ]
          refine wpAnyH_take (i := 1) (oi := { dst := some 51, op := Op.load 29 (Operand.tmp 8), type := 29, pos := "wide.go:20", after := #[{ on := 4, ground := Ground.gcOnly Departure.lateStores }], guard := none }) (v := .agg #[.int .i64 (c : Int), .int .i64 (L + 1), .slice (some ⟨gO, 0, none⟩) 1 1]) rfl (by kernel_rfl) (by kernel_rfl) (by kernel_rfl) (fun _ _ _ h => h) (yieldsIf_load_mid (by rfl) 29 _ rfl gB 0 rfl [.int .i64 (c : Int), .int .i64 (L + 1), .slice (some ⟨gO, 0, none⟩) 1 1] _ (fun w h => h.range) Try.underlying29 rfl hi3) (by assumption) ?_
          try simp only [Act.put, List.setIfInBounds_toArray, List.set_cons_zero, List.set_cons_succ]
          refine wpAnyH_ready (rs := [2, 3]) (by kernel_rfl) (by simp) ?_
          refine AllReadyH.cons (o := { dst := some 9, op := Op.alloc 29, type := 0, pos := "wide.go:20", after := #[], guard := none }) rfl (fun K hK => ?_) (AllReadyH.cons (o := { dst := some 10, op := Op.alloc 29, type := 0, pos := "wide.go:20", after := #[], guard := none }) rfl (fun K hK => ?_) (AllReadyH.nil))
          · rw [if_pos (by rfl)]
            refine wp_alloc7 29 zB (by kernel_rfl) ?_
            obtain ⟨k23, hk9⟩ : ∃ x, k22.alloc (.cells (zB).toArray 29) = x := ⟨_, rfl⟩
            have hnew9 : Rb k23 k22.heap.size 29 zB := by rw [← hk9]; exact Rb.new _ _ _
            have hk : Below k22.heap.size k22 k23 := by rw [← hk9]; exact below_one _ _
            have hzk23 : k22.heap.size < k23.heap.size := by rw [← hk9]; simp
            rw [hk9]
            clear hk9
            replace HD := Lib.hid (Fd.below HD.out hk)
            replace HL := Lib.hid (Rb.below HL.out hk)
            replace HO := Lib.hid (Rb.below HO.out hk)
            replace HB := Lib.hid (Rb.below HB.out hk)
            replace hb : Below w.heap.size w k23 := hb.trans (hk.mono (by first | exact hb.size | omega | (simp; omega)))
            have HBA := Lib.hid hnew9; clear hnew9 hk
            have hltHBA : k22.heap.size < k23.heap.size := Rb.lt HBA.out
            have m1 : Rb k23 gB 29 [.int .i64 (c : Int), .int .i64 (L + 1), .slice (some ⟨gO, 0, none⟩) 1 1] := HB.out
            try dsimp only
            refine hK.out _ _ ?_ (fun hHeld => ?_)
            · exact m1
            clear hK K
            try simp only [Act.put, List.setIfInBounds_toArray, List.set_cons_zero, List.set_cons_succ]
            refine wpAnyH_ready (rs := [3]) (by kernel_rfl) (by simp) ?_
            refine AllReadyH.cons (o := { dst := some 10, op := Op.alloc 29, type := 0, pos := "wide.go:20", after := #[], guard := none }) rfl (fun K hK => ?_) (AllReadyH.nil)
            rw [if_pos (by rfl)]
            refine wp_alloc7 29 zB (by kernel_rfl) ?_
            obtain ⟨k24, hk9⟩ : ∃ x, k23.alloc (.cells (zB).toArray 29) = x := ⟨_, rfl⟩
            have hnew9 : Rb k24 k23.heap.size 29 zB := by rw [← hk9]; exact Rb.new _ _ _
            have hk : Below k23.heap.size k23 k24 := by rw [← hk9]; exact below_one _ _
            have hzk24 : k23.heap.size < k24.heap.size := by rw [← hk9]; simp
            rw [hk9]
            clear hk9
            replace HD := Lib.hid (Fd.below HD.out hk)
            replace HL := Lib.hid (Rb.below HL.out hk)
            replace HO := Lib.hid (Rb.below HO.out hk)
            replace HB := Lib.hid (Rb.below HB.out hk)
            replace HBA := Lib.hid (Rb.below HBA.out hk)
            replace hb : Below w.heap.size w k24 := hb.trans (hk.mono (by first | exact hb.size | omega | (simp; omega)))
            have HBS := Lib.hid hnew9; clear hnew9 hk
            have hltHBS : k23.heap.size < k24.heap.size := Rb.lt HBS.out
            have m1 : Rb k24 gB 29 [.int .i64 (c : Int), .int .i64 (L + 1), .slice (some ⟨gO, 0, none⟩) 1 1] := HB.out
            try dsimp only
            refine hK.out _ _ ?_ (fun hHeld => ?_)
            · exact m1
            clear hK K
            try simp only [Act.put, List.setIfInBounds_toArray, List.set_cons_zero, List.set_cons_succ]
            refine wpAnyH_ready (rs := [4]) (by kernel_rfl) (by simp) ?_
            refine AllReadyH.cons (o := { dst := none, op := Op.store 29 (Operand.tmp 9) (Operand.tmp 50), type := 0, pos := "wide.go:20", after := #[{ on := 2, ground := Ground.data }, { on := 0, ground := Ground.data }, { on := 0, ground := Ground.phase }, { on := 1, ground := Ground.textOnly Departure.lateStores }, { on := 2, ground := Ground.phase }, { on := 3, ground := Ground.phase }], guard := none }) rfl (fun K hK => ?_) (AllReadyH.nil)
            rw [if_pos (by rfl)]
            refine wp_store_mid 29 _ _ rfl (k22.heap.size) 0 #[.int .i64 (c : Int), .int .i64 (L + 1), .slice (some ⟨gO, 0, none⟩) 1 1] rfl rfl (HBA.out.there (by first | (simp [z38_len, z5_len, zB_len]; done) | (simp [z38_len, z5_len, zB_len]; omega))) hi3 (all_oneCell_toArray (b3_one _ _ _ _ _)) ?_
            obtain ⟨k25, hk9⟩ : ∃ x, k24.setCells (k22.heap.size) 0 ([.int .i64 (c : Int), .int .i64 (L + 1), .slice (some ⟨gO, 0, none⟩) 1 1]) = x := ⟨_, rfl⟩
            show K _ (k24.setCells (k22.heap.size) 0 ([.int .i64 (c : Int), .int .i64 (L + 1), .slice (some ⟨gO, 0, none⟩) 1 1]))
            replace HD := Lib.hid (fd_row HD.out HBA.out (by decide) (by omega) ([.int .i64 (c : Int), .int .i64 (L + 1), .slice (some ⟨gO, 0, none⟩) 1 1]) 0)
            replace HL := Lib.hid (Rb.others (g' := k22.heap.size) (by omega) ([.int .i64 (c : Int), .int .i64 (L + 1), .slice (some ⟨gO, 0, none⟩) 1 1]) 0 _ HL.out)
            replace HO := Lib.hid (Rb.others (g' := k22.heap.size) (by omega) ([.int .i64 (c : Int), .int .i64 (L + 1), .slice (some ⟨gO, 0, none⟩) 1 1]) 0 _ HO.out)
            replace HB := Lib.hid (Rb.others (g' := k22.heap.size) (by omega) ([.int .i64 (c : Int), .int .i64 (L + 1), .slice (some ⟨gO, 0, none⟩) 1 1]) 0 _ HB.out)
            replace HBS := Lib.hid (Rb.others (g' := k22.heap.size) (by omega) ([.int .i64 (c : Int), .int .i64 (L + 1), .slice (some ⟨gO, 0, none⟩) 1 1]) 0 _ HBS.out)
            replace HBA := Lib.hid (Rb.whole (vs := [.int .i64 (c : Int), .int .i64 (L + 1), .slice (some ⟨gO, 0, none⟩) 1 1]) HBA.out (by simp [z38_len, z5_len, zB_len]))
            have hz9 : k24.heap.size ≤ (k24.setCells (k22.heap.size) 0 ([.int .i64 (c : Int), .int .i64 (L + 1), .slice (some ⟨gO, 0, none⟩) 1 1])).heap.size := Nat.le_of_eq (sets_size _ _ _ _).symm
            have hy9 : (k24.setCells (k22.heap.size) 0 ([.int .i64 (c : Int), .int .i64 (L + 1), .slice (some ⟨gO, 0, none⟩) 1 1])).heap.size ≤ k24.heap.size := Nat.le_of_eq (sets_size _ _ _ _)
            replace hb : Below w.heap.size w (k24.setCells (k22.heap.size) 0 ([.int .i64 (c : Int), .int .i64 (L + 1), .slice (some ⟨gO, 0, none⟩) 1 1])) := below_sets (by omega) _ _ _ hb
            rw [hk9] at hz9 hy9 hb HD HL HO HB HBA HBS
            have hltqk25 : k22.heap.size < k25.heap.size := Rb.lt HBA.out
            rw [hk9]
            clear hk9
            have m1 : Rb k25 gB 29 [.int .i64 (c : Int), .int .i64 (L + 1), .slice (some ⟨gO, 0, none⟩) 1 1] := HB.out
            try dsimp only
            refine hK.out _ _ ?_ (fun hHeld => ?_)
            · exact m1
            clear hK K
            try simp only [Act.put, List.setIfInBounds_toArray, List.set_cons_zero, List.set_cons_succ]
            refine wpAnyH_ready (rs := [5]) (by kernel_rfl) (by simp) ?_
            refine AllReadyH.cons (o := { dst := none, op := Op.store 29 (Operand.tmp 10) (Operand.tmp 51), type := 0, pos := "wide.go:20", after := #[{ on := 3, ground := Ground.data }, { on := 1, ground := Ground.data }, { on := 4, ground := Ground.chain }, { on := 0, ground := Ground.phase }, { on := 1, ground := Ground.phase }, { on := 2, ground := Ground.phase }, { on := 3, ground := Ground.phase }, { on := 4, ground := Ground.phase }], guard := none }) rfl (fun K hK => ?_) (AllReadyH.nil)
            rw [if_pos (by rfl)]
            refine wp_store_mid 29 _ _ rfl (k23.heap.size) 0 #[.int .i64 (c : Int), .int .i64 (L + 1), .slice (some ⟨gO, 0, none⟩) 1 1] rfl rfl (HBS.out.there (by first | (simp [z38_len, z5_len, zB_len]; done) | (simp [z38_len, z5_len, zB_len]; omega))) hi3 (all_oneCell_toArray (b3_one _ _ _ _ _)) ?_
            obtain ⟨k26, hk9⟩ : ∃ x, k25.setCells (k23.heap.size) 0 ([.int .i64 (c : Int), .int .i64 (L + 1), .slice (some ⟨gO, 0, none⟩) 1 1]) = x := ⟨_, rfl⟩
            show K _ (k25.setCells (k23.heap.size) 0 ([.int .i64 (c : Int), .int .i64 (L + 1), .slice (some ⟨gO, 0, none⟩) 1 1]))
            replace HD := Lib.hid (fd_row HD.out HBS.out (by decide) (by omega) ([.int .i64 (c : Int), .int .i64 (L + 1), .slice (some ⟨gO, 0, none⟩) 1 1]) 0)
            replace HL := Lib.hid (Rb.others (g' := k23.heap.size) (by omega) ([.int .i64 (c : Int), .int .i64 (L + 1), .slice (some ⟨gO, 0, none⟩) 1 1]) 0 _ HL.out)
            replace HO := Lib.hid (Rb.others (g' := k23.heap.size) (by omega) ([.int .i64 (c : Int), .int .i64 (L + 1), .slice (some ⟨gO, 0, none⟩) 1 1]) 0 _ HO.out)
            replace HB := Lib.hid (Rb.others (g' := k23.heap.size) (by omega) ([.int .i64 (c : Int), .int .i64 (L + 1), .slice (some ⟨gO, 0, none⟩) 1 1]) 0 _ HB.out)
            replace HBA := Lib.hid (Rb.others (g' := k23.heap.size) (by omega) ([.int .i64 (c : Int), .int .i64 (L + 1), .slice (some ⟨gO, 0, none⟩) 1 1]) 0 _ HBA.out)
            replace HBS := Lib.hid (Rb.whole (vs := [.int .i64 (c : Int), .int .i64 (L + 1), .slice (some ⟨gO, 0, none⟩) 1 1]) HBS.out (by simp [z38_len, z5_len, zB_len]))
            have hz9 : k25.heap.size ≤ (k25.setCells (k23.heap.size) 0 ([.int .i64 (c : Int), .int .i64 (L + 1), .slice (some ⟨gO, 0, none⟩) 1 1])).heap.size := Nat.le_of_eq (sets_size _ _ _ _).symm
            have hy9 : (k25.setCells (k23.heap.size) 0 ([.int .i64 (c : Int), .int .i64 (L + 1), .slice (some ⟨gO, 0, none⟩) 1 1])).heap.size ≤ k25.heap.size := Nat.le_of_eq (sets_size _ _ _ _)
            replace hb : Below w.heap.size w (k25.setCells (k23.heap.size) 0 ([.int .i64 (c : Int), .int .i64 (L + 1), .slice (some ⟨gO, 0, none⟩) 1 1])) := below_sets (by omega) _ _ _ hb
            rw [hk9] at hz9 hy9 hb HD HL HO HB HBS HBA
            have hltqk26 : k23.heap.size < k26.heap.size := Rb.lt HBS.out
            rw [hk9]
            clear hk9
            have m1 : Rb k26 gB 29 [.int .i64 (c : Int), .int .i64 (L + 1), .slice (some ⟨gO, 0, none⟩) 1 1] := HB.out
            try dsimp only
            refine hK.out _ _ ?_ (fun hHeld => ?_)
            · exact m1
            clear hK K
            try simp only [Act.put, List.setIfInBounds_toArray, List.set_cons_zero, List.set_cons_succ]
            refine wpAnyH_done (by kernel_rfl) ?_ _
            refine NoPanic.normal ?_
            refine ⟨k22.heap.size, k23.heap.size, rfl, HD.out, HL.out, HO.out, HB.out, HBA.out, HBS.out, by omega, by omega, by omega, hb, by omega⟩
          · rw [if_pos (by rfl)]
            refine wp_alloc7 29 zB (by kernel_rfl) ?_
            obtain ⟨k23, hk9⟩ : ∃ x, k22.alloc (.cells (zB).toArray 29) = x := ⟨_, rfl⟩
            have hnew9 : Rb k23 k22.heap.size 29 zB := by rw [← hk9]; exact Rb.new _ _ _
            have hk : Below k22.heap.size k22 k23 := by rw [← hk9]; exact below_one _ _
            have hzk23 : k22.heap.size < k23.heap.size := by rw [← hk9]; simp
            rw [hk9]
            clear hk9
            replace HD := Lib.hid (Fd.below HD.out hk)
            replace HL := Lib.hid (Rb.below HL.out hk)
            replace HO := Lib.hid (Rb.below HO.out hk)
            replace HB := Lib.hid (Rb.below HB.out hk)
            replace hb : Below w.heap.size w k23 := hb.trans (hk.mono (by first | exact hb.size | omega | (simp; omega)))
            have HBS := Lib.hid hnew9; clear hnew9 hk
            have hltHBS : k22.heap.size < k23.heap.size := Rb.lt HBS.out
            have m1 : Rb k23 gB 29 [.int .i64 (c : Int), .int .i64 (L + 1), .slice (some ⟨gO, 0, none⟩) 1 1] := HB.out
            try dsimp only
            refine hK.out _ _ ?_ (fun hHeld => ?_)
            · exact m1
            clear hK K
            try simp only [Act.put, List.setIfInBounds_toArray, List.set_cons_zero, List.set_cons_succ]
            refine wpAnyH_ready (rs := [2]) (by kernel_rfl) (by simp) ?_
            refine AllReadyH.cons (o := { dst := some 9, op := Op.alloc 29, type := 0, pos := "wide.go:20", after := #[], guard := none }) rfl (fun K hK => ?_) (AllReadyH.nil)
            rw [if_pos (by rfl)]
            refine wp_alloc7 29 zB (by kernel_rfl) ?_
            obtain ⟨k24, hk9⟩ : ∃ x, k23.alloc (.cells (zB).toArray 29) = x := ⟨_, rfl⟩
            have hnew9 : Rb k24 k23.heap.size 29 zB := by rw [← hk9]; exact Rb.new _ _ _
            have hk : Below k23.heap.size k23 k24 := by rw [← hk9]; exact below_one _ _
            have hzk24 : k23.heap.size < k24.heap.size := by rw [← hk9]; simp
            rw [hk9]
            clear hk9
            replace HD := Lib.hid (Fd.below HD.out hk)
            replace HL := Lib.hid (Rb.below HL.out hk)
            replace HO := Lib.hid (Rb.below HO.out hk)
            replace HB := Lib.hid (Rb.below HB.out hk)
            replace HBS := Lib.hid (Rb.below HBS.out hk)
            replace hb : Below w.heap.size w k24 := hb.trans (hk.mono (by first | exact hb.size | omega | (simp; omega)))
            have HBA := Lib.hid hnew9; clear hnew9 hk
            have hltHBA : k23.heap.size < k24.heap.size := Rb.lt HBA.out
            have m1 : Rb k24 gB 29 [.int .i64 (c : Int), .int .i64 (L + 1), .slice (some ⟨gO, 0, none⟩) 1 1] := HB.out
            try dsimp only
            refine hK.out _ _ ?_ (fun hHeld => ?_)
            · exact m1
            clear hK K
            try simp only [Act.put, List.setIfInBounds_toArray, List.set_cons_zero, List.set_cons_succ]
            refine wpAnyH_ready (rs := [4]) (by kernel_rfl) (by simp) ?_
            refine AllReadyH.cons (o := { dst := none, op := Op.store 29 (Operand.tmp 9) (Operand.tmp 50), type := 0, pos := "wide.go:20", after := #[{ on := 2, ground := Ground.data }, { on := 0, ground := Ground.data }, { on := 0, ground := Ground.phase }, { on := 1, ground := Ground.textOnly Departure.lateStores }, { on := 2, ground := Ground.phase }, { on := 3, ground := Ground.phase }], guard := none }) rfl (fun K hK => ?_) (AllReadyH.nil)
            rw [if_pos (by rfl)]
            refine wp_store_mid 29 _ _ rfl (k23.heap.size) 0 #[.int .i64 (c : Int), .int .i64 (L + 1), .slice (some ⟨gO, 0, none⟩) 1 1] rfl rfl (HBA.out.there (by first | (simp [z38_len, z5_len, zB_len]; done) | (simp [z38_len, z5_len, zB_len]; omega))) hi3 (all_oneCell_toArray (b3_one _ _ _ _ _)) ?_
            obtain ⟨k25, hk9⟩ : ∃ x, k24.setCells (k23.heap.size) 0 ([.int .i64 (c : Int), .int .i64 (L + 1), .slice (some ⟨gO, 0, none⟩) 1 1]) = x := ⟨_, rfl⟩
            show K _ (k24.setCells (k23.heap.size) 0 ([.int .i64 (c : Int), .int .i64 (L + 1), .slice (some ⟨gO, 0, none⟩) 1 1]))
            replace HD := Lib.hid (fd_row HD.out HBA.out (by decide) (by omega) ([.int .i64 (c : Int), .int .i64 (L + 1), .slice (some ⟨gO, 0, none⟩) 1 1]) 0)
            replace HL := Lib.hid (Rb.others (g' := k23.heap.size) (by omega) ([.int .i64 (c : Int), .int .i64 (L + 1), .slice (some ⟨gO, 0, none⟩) 1 1]) 0 _ HL.out)
            replace HO := Lib.hid (Rb.others (g' := k23.heap.size) (by omega) ([.int .i64 (c : Int), .int .i64 (L + 1), .slice (some ⟨gO, 0, none⟩) 1 1]) 0 _ HO.out)
            replace HB := Lib.hid (Rb.others (g' := k23.heap.size) (by omega) ([.int .i64 (c : Int), .int .i64 (L + 1), .slice (some ⟨gO, 0, none⟩) 1 1]) 0 _ HB.out)
            replace HBS := Lib.hid (Rb.others (g' := k23.heap.size) (by omega) ([.int .i64 (c : Int), .int .i64 (L + 1), .slice (some ⟨gO, 0, none⟩) 1 1]) 0 _ HBS.out)
            replace HBA := Lib.hid (Rb.whole (vs := [.int .i64 (c : Int), .int .i64 (L + 1), .slice (some ⟨gO, 0, none⟩) 1 1]) HBA.out (by simp [z38_len, z5_len, zB_len]))
            have hz9 : k24.heap.size ≤ (k24.setCells (k23.heap.size) 0 ([.int .i64 (c : Int), .int .i64 (L + 1), .slice (some ⟨gO, 0, none⟩) 1 1])).heap.size := Nat.le_of_eq (sets_size _ _ _ _).symm
            have hy9 : (k24.setCells (k23.heap.size) 0 ([.int .i64 (c : Int), .int .i64 (L + 1), .slice (some ⟨gO, 0, none⟩) 1 1])).heap.size ≤ k24.heap.size := Nat.le_of_eq (sets_size _ _ _ _)
            replace hb : Below w.heap.size w (k24.setCells (k23.heap.size) 0 ([.int .i64 (c : Int), .int .i64 (L + 1), .slice (some ⟨gO, 0, none⟩) 1 1])) := below_sets (by omega) _ _ _ hb
            rw [hk9] at hz9 hy9 hb HD HL HO HB HBS HBA
            have hltqk25 : k23.heap.size < k25.heap.size := Rb.lt HBA.out
            rw [hk9]
            clear hk9
            have m1 : Rb k25 gB 29 [.int .i64 (c : Int), .int .i64 (L + 1), .slice (some ⟨gO, 0, none⟩) 1 1] := HB.out
            try dsimp only
            refine hK.out _ _ ?_ (fun hHeld => ?_)
            · exact m1
            clear hK K
            try simp only [Act.put, List.setIfInBounds_toArray, List.set_cons_zero, List.set_cons_succ]
            refine wpAnyH_ready (rs := [5]) (by kernel_rfl) (by simp) ?_
            refine AllReadyH.cons (o := { dst := none, op := Op.store 29 (Operand.tmp 10) (Operand.tmp 51), type := 0, pos := "wide.go:20", after := #[{ on := 3, ground := Ground.data }, { on := 1, ground := Ground.data }, { on := 4, ground := Ground.chain }, { on := 0, ground := Ground.phase }, { on := 1, ground := Ground.phase }, { on := 2, ground := Ground.phase }, { on := 3, ground := Ground.phase }, { on := 4, ground := Ground.phase }], guard := none }) rfl (fun K hK => ?_) (AllReadyH.nil)
            rw [if_pos (by rfl)]
            refine wp_store_mid 29 _ _ rfl (k22.heap.size) 0 #[.int .i64 (c : Int), .int .i64 (L + 1), .slice (some ⟨gO, 0, none⟩) 1 1] rfl rfl (HBS.out.there (by first | (simp [z38_len, z5_len, zB_len]; done) | (simp [z38_len, z5_len, zB_len]; omega))) hi3 (all_oneCell_toArray (b3_one _ _ _ _ _)) ?_
            obtain ⟨k26, hk9⟩ : ∃ x, k25.setCells (k22.heap.size) 0 ([.int .i64 (c : Int), .int .i64 (L + 1), .slice (some ⟨gO, 0, none⟩) 1 1]) = x := ⟨_, rfl⟩
            show K _ (k25.setCells (k22.heap.size) 0 ([.int .i64 (c : Int), .int .i64 (L + 1), .slice (some ⟨gO, 0, none⟩) 1 1]))
            replace HD := Lib.hid (fd_row HD.out HBS.out (by decide) (by omega) ([.int .i64 (c : Int), .int .i64 (L + 1), .slice (some ⟨gO, 0, none⟩) 1 1]) 0)
            replace HL := Lib.hid (Rb.others (g' := k22.heap.size) (by omega) ([.int .i64 (c : Int), .int .i64 (L + 1), .slice (some ⟨gO, 0, none⟩) 1 1]) 0 _ HL.out)
            replace HO := Lib.hid (Rb.others (g' := k22.heap.size) (by omega) ([.int .i64 (c : Int), .int .i64 (L + 1), .slice (some ⟨gO, 0, none⟩) 1 1]) 0 _ HO.out)
            replace HB := Lib.hid (Rb.others (g' := k22.heap.size) (by omega) ([.int .i64 (c : Int), .int .i64 (L + 1), .slice (some ⟨gO, 0, none⟩) 1 1]) 0 _ HB.out)
            replace HBA := Lib.hid (Rb.others (g' := k22.heap.size) (by omega) ([.int .i64 (c : Int), .int .i64 (L + 1), .slice (some ⟨gO, 0, none⟩) 1 1]) 0 _ HBA.out)
            replace HBS := Lib.hid (Rb.whole (vs := [.int .i64 (c : Int), .int .i64 (L + 1), .slice (some ⟨gO, 0, none⟩) 1 1]) HBS.out (by simp [z38_len, z5_len, zB_len]))
            have hz9 : k25.heap.size ≤ (k25.setCells (k22.heap.size) 0 ([.int .i64 (c : Int), .int .i64 (L + 1), .slice (some ⟨gO, 0, none⟩) 1 1])).heap.size := Nat.le_of_eq (sets_size _ _ _ _).symm
            have hy9 : (k25.setCells (k22.heap.size) 0 ([.int .i64 (c : Int), .int .i64 (L + 1), .slice (some ⟨gO, 0, none⟩) 1 1])).heap.size ≤ k25.heap.size := Nat.le_of_eq (sets_size _ _ _ _)
            replace hb : Below w.heap.size w (k25.setCells (k22.heap.size) 0 ([.int .i64 (c : Int), .int .i64 (L + 1), .slice (some ⟨gO, 0, none⟩) 1 1])) := below_sets (by omega) _ _ _ hb
            rw [hk9] at hz9 hy9 hb HD HL HO HB HBS HBA
            have hltqk26 : k22.heap.size < k26.heap.size := Rb.lt HBS.out
            rw [hk9]
            clear hk9
            have m1 : Rb k26 gB 29 [.int .i64 (c : Int), .int .i64 (L + 1), .slice (some ⟨gO, 0, none⟩) 1 1] := HB.out
            try dsimp only
            refine hK.out _ _ ?_ (fun hHeld => ?_)
            · exact m1
            clear hK K
            try simp only [Act.put, List.setIfInBounds_toArray, List.set_cons_zero, List.set_cons_succ]
            refine wpAnyH_done (by kernel_rfl) ?_ _
            refine NoPanic.normal ?_
            refine ⟨k23.heap.size, k22.heap.size, rfl, HD.out, HL.out, HO.out, HB.out, HBA.out, HBS.out, by omega, by omega, by omega, hb, by omega⟩
        · rintro a k60 ⟨gA, gS, rfl, hHD9, hHL9, hHO9, hHB9, ha9, hs9, hBA, hBS, hAS, hb, hkz⟩
          simp only [Act.put, List.setIfInBounds_toArray, List.set_cons_zero, List.set_cons_succ]
          replace HD := Lib.hid hHD9; clear hHD9
          replace HL := Lib.hid hHL9; clear hHL9
          replace HO := Lib.hid hHO9; clear hHO9
          replace HB := Lib.hid hHB9; clear hHB9
          have HA3 := Lib.hid ha9; clear ha9
          have HS3 := Lib.hid hs9; clear hs9
          have hltA := HA3.out.lt
          have hltS := HS3.out.lt
          have p1 : k60.cell? ⟨gS, 1, none⟩ = some (.int .i64 (L + 1)) := HS3.out.cell (j := 1) rfl
          have p2 := HS3.out.frz 1
          go_upto_region 13 with fail
          clear p1 p2
          refine wp_world (fun W => Fd W w.heap.size gd f ∧ Rb W gHL 47 (lasC f) ∧ Rb W gO 38 oN1.cs ∧ Rb W gB 29 [.int .i64 (c : Int), .int .i64 (L + 1), .slice (some ⟨gO, 0, none⟩) 1 1] ∧ Rb W gA 29 [.int .i64 (c : Int), .int .i64 (L + 1), .slice (some ⟨gO, 0, none⟩) 1 1] ∧ Rb W gS 29 [.int .i64 (c : Int), .int .i64 (L + 1 + 1), .slice (some ⟨gO, 0, none⟩) 1 1] ∧ Below w.heap.size w W ∧ k60.heap.size ≤ W.heap.size) ⟨fd_row HD.out HS3.out (by decide) (by omega) [.int .i64 (L + 1 + 1)] 1, HL.out.other 1 _ (by omega), HO.out.other 1 _ (by omega), HB.out.other 1 _ (by omega), HA3.out.other 1 _ (by omega), HS3.out.set 1 _, hb.setCell (p := ⟨gS, 1, none⟩) (by show w.heap.size ≤ gS; omega) _, by simp⟩ ?_
          clear hb
          rintro k61 ⟨hHD9, hHL9, hHO9, hHB9, hHA39, hHS39, hb, hkz9⟩
          replace HD := Lib.hid hHD9; clear hHD9
          replace HL := Lib.hid hHL9; clear hHL9
          replace HO := Lib.hid hHO9; clear hHO9
          replace HB := Lib.hid hHB9; clear hHB9
          replace HA3 := Lib.hid hHA39; clear hHA39
          replace HS3 := Lib.hid hHS39; clear hHS39
          obtain ⟨f2, hf2⟩ : ∃ f2, nextFo f ⟨c, L + 1, [oN1]⟩ = f2 := ⟨_, rfl⟩
          have hpl := HC.out.place
          have hn1 := CliI.skip HLL.out
          have hn2 := HC.out.next hk60 hc1 hc5 HLL.out
          have hs2 := HC.out.step hk60 hc1 hc5 HLL.out
          have hr2 := HC.out.row hk60 hc1 hc5 HLL.out
          have hc2 := HC.out.to hk60 HLL.out
          have hl2 : (nextFo f ⟨c, L + 1, [oN1]⟩).last c = L + 1 := last_to
          have hn3 : nextB (nextFo f ⟨c, L + 1, [oN1]⟩) ⟨c, L + 1, [oN1]⟩ = false := CliI.again
          have hla : (lasC f).set c (.int .i64 (L + 1)) = lasC (nextFo f ⟨c, L + 1, [oN1]⟩) := lasC_to hc5
          rw [hf2] at hs2 hc2 hl2 hn3 hla
          clear hf2
          have hpl2 := hc2.place
          have N1 := Lib.hid hn1; clear hn1
          have N2 := Lib.hid hn2; clear hn2
          have N3 := Lib.hid hn3; clear hn3
          have S2 := Lib.hid hs2; clear hs2
          have R2 := Lib.hid hr2; clear hr2
          have C2 := Lib.hid hc2; clear hc2
          have L2 := Lib.hid hl2; clear hl2
          have LA := Lib.hid hla; clear hla
          have hrg9 := HS3.out.range
          go_wp2_with (refine wpList_load_mid rfl 29 _ rfl gS 0 rfl [.int .i64 (c : Int), .int .i64 (L + 1 + 1), .slice (some ⟨gO, 0, none⟩) 1 1] _ hrg9 Try.underlying29 rfl hi3 ?_)
          clear hrg9
          refine (fnext_to w.heap.size gd _ _ f f (c : Int) (L + 1 + 1) [oN1] false 0 0 0 0 [] _ (Fd.below HD.out BL9) (ops_oN1 (Rb.below HO.out BL9)) (Nat.le_refl _) (batN_ok hc5 (by omega) (by omega)) (by omega) N1.out (step_no N1.out) (row_no N1.out)).mono ?_
          rintro e k62 ⟨A1, c1, rfl, ⟨ho9, hd9⟩, hgr⟩
          have hz9 := hgr.size
          try simp at hz9
          replace hb : Below w.heap.size w k62 := Fd.frame (w0 := w) (hb := hgr) (h := Fd.below HD.out BL9) (h0 := (BB9 hb)) (hB := by have := hb.size; first | omega | (simp; omega))
          replace HL := Lib.hid (rb_turn (hb := hgr) (h := Rb.below HL.out BL9) (hd := Fd.below HD.out BL9) (hne := (by omega)))
          replace HO := Lib.hid (rb_turn (hb := hgr) (h := Rb.below HO.out BL9) (hd := Fd.below HD.out BL9) (hne := (by omega)))
          replace HB := Lib.hid (rb_turn (hb := hgr) (h := Rb.below HB.out BL9) (hd := Fd.below HD.out BL9) (hne := (by omega)))
          replace HA3 := Lib.hid (rb_turn (hb := hgr) (h := Rb.below HA3.out BL9) (hd := Fd.below HD.out BL9) (hne := (by omega)))
          replace HS3 := Lib.hid (rb_turn (hb := hgr) (h := Rb.below HS3.out BL9) (hd := Fd.below HD.out BL9) (hne := (by omega)))
          replace HD := Lib.hid hd9
          clear hd9
          clear ho9
          clear hgr
          go_upto_region 14 with fail
          refine wp_world (fun W => Rb W k62.heap.size 32 [.int .i64 0, .int .i64 0, .int .i64 0, .slice A1 0 c1, .int .i64 0] ∧ Below k62.heap.size k62 W) ⟨by exact Rb.new _ _ _, by exact below_one _ _⟩ ?_
          rintro k63 ⟨hr9, hk⟩
          replace HD := Lib.hid (Fd.below HD.out hk)
          replace HL := Lib.hid (Rb.below HL.out hk)
          replace HO := Lib.hid (Rb.below HO.out hk)
          replace HB := Lib.hid (Rb.below HB.out hk)
          replace HA3 := Lib.hid (Rb.below HA3.out hk)
          replace HS3 := Lib.hid (Rb.below HS3.out hk)
          replace hb : Below w.heap.size w k63 := hb.trans (hk.mono (by first | exact hb.size | omega))
          have hkz9 := hk.size
          clear hk
          obtain ⟨gHR1, hg9⟩ : ∃ g, k62.heap.size = g := ⟨_, rfl⟩
          rw [hg9] at hr9 ⊢
          have hlowHR1 : k62.heap.size ≤ gHR1 := by omega
          have HR1 := Lib.hid hr9; clear hr9 hg9
          have hltHR1 := Rb.lt HR1.out
          have hrg9 := HB.out.range
          go_wp2_with (refine wpList_load_mid rfl 29 _ rfl gB 0 rfl [.int .i64 (c : Int), .int .i64 (L + 1), .slice (some ⟨gO, 0, none⟩) 1 1] _ hrg9 Try.underlying29 rfl hi3 ?_)
          clear hrg9
          refine (fnext_to w.heap.size gd _ _ f f2 (c : Int) (L + 1) [oN1] true ((k : Int) + 1) (c : Int) (L + 1) 0 [oN1] _ (Fd.below HD.out BL9) (ops_oN1 (Rb.below HO.out BL9)) (Nat.le_refl _) (batN_ok hc5 (by omega) (by omega)) (by omega) N2.out S2.out R2.out).mono ?_
          rintro e k64 ⟨A2, c2, rfl, ⟨ho9, hd9⟩, hgr⟩
          have hz9 := hgr.size
          try simp at hz9
          replace hb : Below w.heap.size w k64 := Fd.frame (w0 := w) (hb := hgr) (h := Fd.below HD.out BL9) (h0 := (BB9 hb)) (hB := by have := hb.size; first | omega | (simp; omega))
          replace HL := Lib.hid (rb_turn (hb := hgr) (h := Rb.below HL.out BL9) (hd := Fd.below HD.out BL9) (hne := (by omega)))
          replace HO := Lib.hid (rb_turn (hb := hgr) (h := Rb.below HO.out BL9) (hd := Fd.below HD.out BL9) (hne := (by omega)))
          replace HB := Lib.hid (rb_turn (hb := hgr) (h := Rb.below HB.out BL9) (hd := Fd.below HD.out BL9) (hne := (by omega)))
          replace HA3 := Lib.hid (rb_turn (hb := hgr) (h := Rb.below HA3.out BL9) (hd := Fd.below HD.out BL9) (hne := (by omega)))
          replace HS3 := Lib.hid (rb_turn (hb := hgr) (h := Rb.below HS3.out BL9) (hd := Fd.below HD.out BL9) (hne := (by omega)))
          replace HD := Lib.hid hd9
          clear hd9
          clear ho9
          clear hgr
          go_upto_region 15 with fail
          refine wp_world (fun W => Rb W k64.heap.size 32 [.int .i64 ((k : Int) + 1), .int .i64 (c : Int), .int .i64 (L + 1), .slice A2 1 c2, .int .i64 0] ∧ Below k64.heap.size k64 W) ⟨by exact Rb.new _ _ _, by exact below_one _ _⟩ ?_
          rintro k65 ⟨hr9, hk⟩
          replace HD := Lib.hid (Fd.below HD.out hk)
          replace HL := Lib.hid (Rb.below HL.out hk)
          replace HO := Lib.hid (Rb.below HO.out hk)
          replace HB := Lib.hid (Rb.below HB.out hk)
          replace HA3 := Lib.hid (Rb.below HA3.out hk)
          replace HS3 := Lib.hid (Rb.below HS3.out hk)
          replace hb : Below w.heap.size w k65 := hb.trans (hk.mono (by first | exact hb.size | omega))
          have hkz9 := hk.size
          clear hk
          obtain ⟨gHR2, hg9⟩ : ∃ g, k64.heap.size = g := ⟨_, rfl⟩
          rw [hg9] at hr9 ⊢
          have hlowHR2 : k64.heap.size ≤ gHR2 := by omega
          have HR2 := Lib.hid hr9; clear hr9 hg9
          have hltHR2 := Rb.lt HR2.out
          have hrg9 := HA3.out.range
          go_wp2_with (refine wpList_load_mid rfl 29 _ rfl gA 0 rfl [.int .i64 (c : Int), .int .i64 (L + 1), .slice (some ⟨gO, 0, none⟩) 1 1] _ hrg9 Try.underlying29 rfl hi3 ?_)
          clear hrg9
          refine (fnext_to w.heap.size gd _ _ f2 f2 (c : Int) (L + 1) [oN1] false 0 0 0 0 [] _ (Fd.below HD.out BL9) (ops_oN1 (Rb.below HO.out BL9)) (Nat.le_refl _) (batN_ok hc5 (by omega) (by omega)) (by omega) N3.out (step_no N3.out) (row_no N3.out)).mono ?_
          rintro e k66 ⟨A3, c3, rfl, ⟨ho9, hd9⟩, hgr⟩
          have hz9 := hgr.size
          try simp at hz9
          replace hb : Below w.heap.size w k66 := Fd.frame (w0 := w) (hb := hgr) (h := Fd.below HD.out BL9) (h0 := (BB9 hb)) (hB := by have := hb.size; first | omega | (simp; omega))
          replace HL := Lib.hid (rb_turn (hb := hgr) (h := Rb.below HL.out BL9) (hd := Fd.below HD.out BL9) (hne := (by omega)))
          replace HO := Lib.hid (rb_turn (hb := hgr) (h := Rb.below HO.out BL9) (hd := Fd.below HD.out BL9) (hne := (by omega)))
          replace HB := Lib.hid (rb_turn (hb := hgr) (h := Rb.below HB.out BL9) (hd := Fd.below HD.out BL9) (hne := (by omega)))
          replace HA3 := Lib.hid (rb_turn (hb := hgr) (h := Rb.below HA3.out BL9) (hd := Fd.below HD.out BL9) (hne := (by omega)))
          replace HS3 := Lib.hid (rb_turn (hb := hgr) (h := Rb.below HS3.out BL9) (hd := Fd.below HD.out BL9) (hne := (by omega)))
          replace HR2 := Lib.hid (rb_turn (hb := hgr) (h := Rb.below HR2.out BL9) (hd := Fd.below HD.out BL9) (hne := (by omega)))
          replace HD := Lib.hid hd9
          clear hd9
          clear ho9
          clear hgr
          go_upto_region 16 with fail
          refine wp_world (fun W => Rb W k66.heap.size 32 [.int .i64 0, .int .i64 0, .int .i64 0, .slice A3 0 c3, .int .i64 0] ∧ Below k66.heap.size k66 W) ⟨by exact Rb.new _ _ _, by exact below_one _ _⟩ ?_
          rintro k67 ⟨hr9, hk⟩
          replace HD := Lib.hid (Fd.below HD.out hk)
          replace HL := Lib.hid (Rb.below HL.out hk)
          replace HO := Lib.hid (Rb.below HO.out hk)
          replace HB := Lib.hid (Rb.below HB.out hk)
          replace HA3 := Lib.hid (Rb.below HA3.out hk)
          replace HS3 := Lib.hid (Rb.below HS3.out hk)
          replace HR2 := Lib.hid (Rb.below HR2.out hk)
          replace hb : Below w.heap.size w k67 := hb.trans (hk.mono (by first | exact hb.size | omega))
          have hkz9 := hk.size
          clear hk
          obtain ⟨gHR3, hg9⟩ : ∃ g, k66.heap.size = g := ⟨_, rfl⟩
          rw [hg9] at hr9 ⊢
          have hlowHR3 : k66.heap.size ≤ gHR3 := by omega
          have HR3 := Lib.hid hr9; clear hr9 hg9
          have hltHR3 := Rb.lt HR3.out
          have p1 : k67.cell? ⟨gHL, c, none⟩ = some (.int .i64 L) := HL.out.cell (lasC_at hc5 HLL.out)
          have p2 := HL.out.frz c
          go_upto_region 17 with fail
          clear p1 p2
          refine wp_world (fun W => Fd W w.heap.size gd f2 ∧ Rb W gHL 47 ((lasC f).set c (.int .i64 (L + 1))) ∧ Rb W gO 38 oN1.cs ∧ Rb W gB 29 [.int .i64 (c : Int), .int .i64 (L + 1), .slice (some ⟨gO, 0, none⟩) 1 1] ∧ Rb W gA 29 [.int .i64 (c : Int), .int .i64 (L + 1), .slice (some ⟨gO, 0, none⟩) 1 1] ∧ Rb W gS 29 [.int .i64 (c : Int), .int .i64 (L + 1 + 1), .slice (some ⟨gO, 0, none⟩) 1 1] ∧ Rb W gHR2 32 [.int .i64 ((k : Int) + 1), .int .i64 (c : Int), .int .i64 (L + 1), .slice A2 1 c2, .int .i64 0] ∧ Below w.heap.size w W ∧ k67.heap.size ≤ W.heap.size) ⟨fd_row HD.out HL.out (by decide) (by omega) [.int .i64 (L + 1)] c, HL.out.set c _, HO.out.other c _ (by omega), HB.out.other c _ (by omega), HA3.out.other c _ (by omega), HS3.out.other c _ (by omega), HR2.out.other c _ (by omega), hb.setCell (p := ⟨gHL, c, none⟩) (by show w.heap.size ≤ gHL; omega) _, by simp⟩ ?_
          clear hb
          rintro k68 ⟨hHD9, hHL9, hHO9, hHB9, hHA39, hHS39, hHR29, hb, hkz9⟩
          replace HD := Lib.hid hHD9; clear hHD9
          replace HL := Lib.hid hHL9; clear hHL9
          replace HO := Lib.hid hHO9; clear hHO9
          replace HB := Lib.hid hHB9; clear hHB9
          replace HA3 := Lib.hid hHA39; clear hHA39
          replace HS3 := Lib.hid hHS39; clear hHS39
          replace HR2 := Lib.hid hHR29; clear hHR29
          have hl9 := HL.out
          rw [LA.out] at hl9
          replace HL := Lib.hid hl9; clear hl9
          have r0 : k68.cell? ⟨gHR2, 0, none⟩ = some (.int .i64 ((k : Int) + 1)) := HR2.out.cell (j := 0) rfl
          have l0 : k68.cell? ⟨gHL, c, none⟩ = some (.int .i64 (L + 1)) := HL.out.cell (lasC_at hc5 L2.out)
          have lt0 : gHR2 < k68.heap.size := LT9
          have lt1 : gHL < k68.heap.size := LT9
          replace r0 : k68.drew.cell? ⟨gHR2, 0, none⟩ = some (.int .i64 ((k : Int) + 1)) := r0
          replace l0 : k68.drew.cell? ⟨gHL, c, none⟩ = some (.int .i64 (L + 1)) := l0
          replace HD := Lib.hid (Fd.below HD.out ((Below.refl k68.heap.size k68).drew))
          replace HL := Lib.hid (Rb.below HL.out ((Below.refl k68.heap.size k68).drew))
          refine wp_region_noPanic ?_
          refine wp_region_held_drew (S := fun W => W.cell? ⟨gHR2, 0, none⟩ = some (.int .i64 ((k : Int) + 1)) ∧ W.cell? ⟨gHL, c, none⟩ = some (.int .i64 (L + 1))) (by kernel_rfl) ?_ (fun hHeld => ?_)
          · exact ⟨r0, l0⟩
          replace hb : Below w.heap.size w k68.drew := hb.drew
          replace lt0 : gHR2 < k68.drew.heap.size := lt0
          replace lt1 : gHL < k68.drew.heap.size := lt1
          have hzd : k68.heap.size ≤ k68.drew.heap.size := Nat.le_refl _
          generalize k68.drew = k69 at *
          refine wpAnyH_take (i := 0) (oi := { dst := some 79, op := Op.move (Operand.tmp 12), type := 4, pos := "wide.go:26", after := #[], guard := none }) (v := .bool false) rfl (by kernel_rfl) (by kernel_rfl) (by kernel_rfl) (fun _ _ _ h => h) (Or.inl ⟨by rfl, fun w hSw => ?_⟩) (by assumption) ?_
          · (try dsimp only at hSw)
            go_simp
          try simp only [Act.put, List.setIfInBounds_toArray, List.set_cons_zero, List.set_cons_succ]
          refine wpAnyH_take (i := 1) (oi := { dst := some 80, op := Op.move (Operand.tmp 79), type := 4, pos := "wide.go:26", after := #[{ on := 0, ground := Ground.data }], guard := none }) (v := .bool false) rfl (by kernel_rfl) (by kernel_rfl) (by kernel_rfl) (fun _ _ _ h => h) (Or.inl ⟨by rfl, fun w hSw => ?_⟩) (by assumption) ?_
          · (try dsimp only at hSw)
            go_simp
          try simp only [Act.put, List.setIfInBounds_toArray, List.set_cons_zero, List.set_cons_succ]
          refine wpAnyH_take (i := 2) (oi := { dst := some 81, op := Op.move (Operand.tmp 14), type := 4, pos := "wide.go:26", after := #[{ on := 1, ground := Ground.guard }], guard := some (1, false) }) (v := .bool true) rfl (by kernel_rfl) (by kernel_rfl) (by kernel_rfl) (fun _ _ _ h => h) (Or.inl ⟨by rfl, fun w hSw => ?_⟩) (by assumption) ?_
          · (try dsimp only at hSw)
            go_simp
          try simp only [Act.put, List.setIfInBounds_toArray, List.set_cons_zero, List.set_cons_succ]
          refine wpAnyH_take (i := 3) (oi := { dst := some 82, op := Op.unOp UnOp.not 4 (Operand.tmp 81), type := 4, pos := "wide.go:26", after := #[{ on := 2, ground := Ground.data }, { on := 1, ground := Ground.guard }], guard := some (1, false) }) (v := .bool false) rfl (by kernel_rfl) (by kernel_rfl) (by kernel_rfl) (fun _ _ _ h => h) (Or.inl ⟨by rfl, fun w hSw => ?_⟩) (by assumption) ?_
          · (try dsimp only at hSw)
            go_simp
          try simp only [Act.put, List.setIfInBounds_toArray, List.set_cons_zero, List.set_cons_succ]
          refine wpAnyH_take (i := 4) (oi := { dst := some 83, op := Op.pick (Operand.tmp 80) (Operand.const (Value.bool true)) (Operand.tmp 82), type := 4, pos := "wide.go:26", after := #[{ on := 1, ground := Ground.data }, { on := 3, ground := Ground.data }], guard := none }) (v := .bool false) rfl (by kernel_rfl) (by kernel_rfl) (by kernel_rfl) (fun _ _ _ h => h) (Or.inl ⟨by rfl, fun w hSw => ?_⟩) (by assumption) ?_
          · (try dsimp only at hSw)
            go_simp
          try simp only [Act.put, List.setIfInBounds_toArray, List.set_cons_zero, List.set_cons_succ]
          refine wpAnyH_take (i := 5) (oi := { dst := some 84, op := Op.move (Operand.tmp 83), type := 4, pos := "wide.go:26", after := #[{ on := 4, ground := Ground.data }, { on := 1, ground := Ground.chain }], guard := none }) (v := .bool false) rfl (by kernel_rfl) (by kernel_rfl) (by kernel_rfl) (fun _ _ _ h => h) (Or.inl ⟨by rfl, fun w hSw => ?_⟩) (by assumption) ?_
          · (try dsimp only at hSw)
            go_simp
          try simp only [Act.put, List.setIfInBounds_toArray, List.set_cons_zero, List.set_cons_succ]
          refine wpAnyH_take (i := 6) (oi := { dst := some 85, op := Op.move (Operand.tmp 16), type := 4, pos := "wide.go:26", after := #[{ on := 5, ground := Ground.guard }], guard := some (5, false) }) (v := .bool false) rfl (by kernel_rfl) (by kernel_rfl) (by kernel_rfl) (fun _ _ _ h => h) (Or.inl ⟨by rfl, fun w hSw => ?_⟩) (by assumption) ?_
          · (try dsimp only at hSw)
            go_simp
          try simp only [Act.put, List.setIfInBounds_toArray, List.set_cons_zero, List.set_cons_succ]
          refine wpAnyH_take (i := 7) (oi := { dst := some 86, op := Op.pick (Operand.tmp 84) (Operand.const (Value.bool true)) (Operand.tmp 85), type := 4, pos := "wide.go:26", after := #[{ on := 5, ground := Ground.data }, { on := 6, ground := Ground.data }], guard := none }) (v := .bool false) rfl (by kernel_rfl) (by kernel_rfl) (by kernel_rfl) (fun _ _ _ h => h) (Or.inl ⟨by rfl, fun w hSw => ?_⟩) (by assumption) ?_
          · (try dsimp only at hSw)
            go_simp
          try simp only [Act.put, List.setIfInBounds_toArray, List.set_cons_zero, List.set_cons_succ]
          refine wpAnyH_take (i := 8) (oi := { dst := some 87, op := Op.move (Operand.tmp 86), type := 4, pos := "wide.go:26", after := #[{ on := 7, ground := Ground.data }, { on := 5, ground := Ground.chain }], guard := none }) (v := .bool false) rfl (by kernel_rfl) (by kernel_rfl) (by kernel_rfl) (fun _ _ _ h => h) (Or.inl ⟨by rfl, fun w hSw => ?_⟩) (by assumption) ?_
          · (try dsimp only at hSw)
            go_simp
          try simp only [Act.put, List.setIfInBounds_toArray, List.set_cons_zero, List.set_cons_succ]
          refine wpAnyH_take (i := 9) (oi := { dst := some 88, op := Op.fieldAddr 32 (Operand.tmp 13) 0, type := 0, pos := "wide.go:26", after := #[{ on := 8, ground := Ground.guard }], guard := some (8, false) }) (v := .pointer (some ⟨gHR2, 0, none⟩)) rfl (by kernel_rfl) (by kernel_rfl) (by kernel_rfl) (fun _ _ _ h => h) (Or.inl ⟨by rfl, fun w hSw => ?_⟩) (by assumption) ?_
          · (try dsimp only at hSw)
            go_simp
          try simp only [Act.put, List.setIfInBounds_toArray, List.set_cons_zero, List.set_cons_succ]
          refine wpAnyH_take (i := 10) (oi := { dst := some 89, op := Op.load 2 (Operand.tmp 88), type := 2, pos := "wide.go:26", after := #[{ on := 9, ground := Ground.data }, { on := 8, ground := Ground.guard }], guard := some (8, false) }) (v := .int .i64 ((k : Int) + 1)) rfl (by kernel_rfl) (by kernel_rfl) (by kernel_rfl) (fun _ _ _ h => h) (Or.inl ⟨by rfl, fun w hSw => ?_⟩) (by assumption) ?_
          · (try dsimp only at hSw)
            go_simp
          try simp only [Act.put, List.setIfInBounds_toArray, List.set_cons_zero, List.set_cons_succ]
          refine wpAnyH_take (i := 11) (oi := { dst := some 90, op := Op.move (Operand.tmp 6), type := 3, pos := "wide.go:26", after := #[{ on := 8, ground := Ground.guard }], guard := some (8, false) }) (v := .int .i64 (k : Int)) rfl (by kernel_rfl) (by kernel_rfl) (by kernel_rfl) (fun _ _ _ h => h) (Or.inl ⟨by rfl, fun w hSw => ?_⟩) (by assumption) ?_
          · (try dsimp only at hSw)
            go_simp
          try simp only [Act.put, List.setIfInBounds_toArray, List.set_cons_zero, List.set_cons_succ]
          refine wpAnyH_take (i := 12) (oi := { dst := some 91, op := Op.binOp BinOp.add 3 (Operand.tmp 90) (Operand.const (Value.int IntKind.i64 1)) 3, type := 3, pos := "wide.go:26", after := #[{ on := 11, ground := Ground.data }, { on := 8, ground := Ground.guard }], guard := some (8, false) }) (v := .int .i64 ((k : Int) + 1)) rfl (by kernel_rfl) (by kernel_rfl) (by kernel_rfl) (fun _ _ _ h => h) (.inl ⟨by rfl, fun W h => (by go_simp; rw [IntKind.wrap_i64]; omega)⟩) (by assumption) ?_
          try simp only [Act.put, List.setIfInBounds_toArray, List.set_cons_zero, List.set_cons_succ]
          refine wpAnyH_take (i := 13) (oi := { dst := some 92, op := Op.binOp BinOp.neq 2 (Operand.tmp 89) (Operand.tmp 91) 2, type := 4, pos := "wide.go:26", after := #[{ on := 10, ground := Ground.data }, { on := 12, ground := Ground.data }, { on := 8, ground := Ground.guard }], guard := some (8, false) }) (v := .bool false) rfl (by kernel_rfl) (by kernel_rfl) (by kernel_rfl) (fun _ _ _ h => h) (Or.inl ⟨by rfl, fun w hSw => ?_⟩) (by assumption) ?_
          · (try dsimp only at hSw)
            go_simp
          try simp only [Act.put, List.setIfInBounds_toArray, List.set_cons_zero, List.set_cons_succ]
          refine wpAnyH_take (i := 14) (oi := { dst := some 93, op := Op.pick (Operand.tmp 87) (Operand.const (Value.bool true)) (Operand.tmp 92), type := 4, pos := "wide.go:26", after := #[{ on := 8, ground := Ground.data }, { on := 13, ground := Ground.data }], guard := none }) (v := .bool false) rfl (by kernel_rfl) (by kernel_rfl) (by kernel_rfl) (fun _ _ _ h => h) (Or.inl ⟨by rfl, fun w hSw => ?_⟩) (by assumption) ?_
          · (try dsimp only at hSw)
            go_simp
          try simp only [Act.put, List.setIfInBounds_toArray, List.set_cons_zero, List.set_cons_succ]
          refine wpAnyH_take (i := 15) (oi := { dst := some 94, op := Op.move (Operand.tmp 93), type := 4, pos := "wide.go:26", after := #[{ on := 14, ground := Ground.data }, { on := 8, ground := Ground.chain }], guard := none }) (v := .bool false) rfl (by kernel_rfl) (by kernel_rfl) (by kernel_rfl) (fun _ _ _ h => h) (Or.inl ⟨by rfl, fun w hSw => ?_⟩) (by assumption) ?_
          · (try dsimp only at hSw)
            go_simp
          try simp only [Act.put, List.setIfInBounds_toArray, List.set_cons_zero, List.set_cons_succ]
          refine wpAnyH_take (i := 16) (oi := { dst := some 95, op := Op.move (Operand.tmp 4), type := 26, pos := "wide.go:26", after := #[{ on := 15, ground := Ground.guard }], guard := some (15, false) }) (v := .pointer (some ⟨gd, 0, none⟩)) rfl (by kernel_rfl) (by kernel_rfl) (by kernel_rfl) (fun _ _ _ h => h) (Or.inl ⟨by rfl, fun w hSw => ?_⟩) (by assumption) ?_
          · (try dsimp only at hSw)
            go_simp
          try simp only [Act.put, List.setIfInBounds_toArray, List.set_cons_zero, List.set_cons_succ]
          refine wpAnyH_take (i := 17) (oi := { dst := some 96, op := Op.move (Operand.tmp 7), type := 3, pos := "wide.go:26", after := #[{ on := 15, ground := Ground.guard }], guard := some (15, false) }) (v := .int .i64 (c : Int)) rfl (by kernel_rfl) (by kernel_rfl) (by kernel_rfl) (fun _ _ _ h => h) (Or.inl ⟨by rfl, fun w hSw => ?_⟩) (by assumption) ?_
          · (try dsimp only at hSw)
            go_simp
          try simp only [Act.put, List.setIfInBounds_toArray, List.set_cons_zero, List.set_cons_succ]
          refine wpAnyH_take (i := 19) (oi := { dst := some 98, op := Op.move (Operand.tmp 7), type := 3, pos := "wide.go:26", after := #[{ on := 15, ground := Ground.guard }], guard := some (15, false) }) (v := .int .i64 (c : Int)) rfl (by kernel_rfl) (by kernel_rfl) (by kernel_rfl) (fun _ _ _ h => h) (Or.inl ⟨by rfl, fun w hSw => ?_⟩) (by assumption) ?_
          · (try dsimp only at hSw)
            go_simp
          try simp only [Act.put, List.setIfInBounds_toArray, List.set_cons_zero, List.set_cons_succ]
          refine wpAnyH_take (i := 20) (oi := { dst := some 99, op := Op.indexAddr 47 (Operand.tmp 5) (Operand.tmp 98), type := 0, pos := "wide.go:26", after := #[{ on := 19, ground := Ground.data }, { on := 15, ground := Ground.guard }], guard := some (15, false) }) (v := .pointer (some ⟨gHL, c, none⟩)) rfl (by kernel_rfl) (by kernel_rfl) (by kernel_rfl) (fun _ _ _ h => h) (.inl ⟨by rfl, fun W h => (by go_simp; intro h6; exfalso; omega)⟩) (by assumption) ?_
          try simp only [Act.put, List.setIfInBounds_toArray, List.set_cons_zero, List.set_cons_succ]
          refine wpAnyH_take (i := 21) (oi := { dst := some 100, op := Op.load 2 (Operand.tmp 99), type := 2, pos := "wide.go:26", after := #[{ on := 20, ground := Ground.data }, { on := 15, ground := Ground.guard }], guard := some (15, false) }) (v := .int .i64 (L + 1)) rfl (by kernel_rfl) (by kernel_rfl) (by kernel_rfl) (fun _ _ _ h => h) (Or.inl ⟨by rfl, fun w hSw => ?_⟩) (by assumption) ?_
          · (try dsimp only at hSw)
            go_simp
          try simp only [Act.put, List.setIfInBounds_toArray, List.set_cons_zero, List.set_cons_succ]
          refine wpAnyH_ready (rs := [18]) (by kernel_rfl) (by simp) ?_
          refine AllReadyH.cons (o := { dst := some 97, op := Op.call { callee := Callee.value (Operand.func 13), args := #[Operand.tmp 95, Operand.tmp 96], argTypes := #[26, 3] }, type := 2, pos := "wide.go:26", after := #[{ on := 16, ground := Ground.data }, { on := 17, ground := Ground.data }, { on := 15, ground := Ground.chain }, { on := 15, ground := Ground.guard }], guard := some (15, false) }) rfl (fun K hK => ?_) (AllReadyH.nil)
          go_simp
          go_at_call 13
          refine (fLast_is w.heap.size gd f2 (c : Int) (L + 1) _ (Fd.below HD.out BL9) (by rw [Int.toNat_natCast]; exact L2.out)).mono ?_
          rintro e k70 ⟨rfl, h⟩
          have hk : Below k69.heap.size k69 k70 := HK9 h
          have hz := h.size
          try simp at hz
          replace r0 : k70.cell? ⟨gHR2, 0, none⟩ = some (.int .i64 ((k : Int) + 1)) := (hk.cell (p := ⟨gHR2, 0, none⟩) LT9).trans r0
          replace l0 : k70.cell? ⟨gHL, c, none⟩ = some (.int .i64 (L + 1)) := (hk.cell (p := ⟨gHL, c, none⟩) LT9).trans l0
          replace HD := Lib.hid (Fd.below HD.out hk)
          replace HL := Lib.hid (Rb.below HL.out hk)
          replace hb : Below w.heap.size w k70 := hb.trans (hk.mono hb.size)
          have lt0 : gHR2 < k70.heap.size := LT9
          have lt1 : gHL < k70.heap.size := LT9
          clear h hk
          try dsimp only
          refine hK.out _ _ ?_ (fun hHeld => ?_)
          · exact ⟨r0, l0⟩
          clear hK K
          try simp only [Act.put, List.setIfInBounds_toArray, List.set_cons_zero, List.set_cons_succ]
          refine wpAnyH_take (i := 22) (oi := { dst := some 101, op := Op.binOp BinOp.neq 2 (Operand.tmp 97) (Operand.tmp 100) 2, type := 4, pos := "wide.go:26", after := #[{ on := 18, ground := Ground.data }, { on := 21, ground := Ground.data }, { on := 15, ground := Ground.guard }], guard := some (15, false) }) (v := .bool false) rfl (by kernel_rfl) (by kernel_rfl) (by kernel_rfl) (fun _ _ _ h => h) (Or.inl ⟨by rfl, fun w hSw => ?_⟩) (by assumption) ?_
          · (try dsimp only at hSw)
            go_simp
          try simp only [Act.put, List.setIfInBounds_toArray, List.set_cons_zero, List.set_cons_succ]
          refine wpAnyH_take (i := 23) (oi := { dst := some 102, op := Op.pick (Operand.tmp 94) (Operand.const (Value.bool true)) (Operand.tmp 101), type := 4, pos := "wide.go:26", after := #[{ on := 15, ground := Ground.data }, { on := 22, ground := Ground.data }], guard := none }) (v := .bool false) rfl (by kernel_rfl) (by kernel_rfl) (by kernel_rfl) (fun _ _ _ h => h) (Or.inl ⟨by rfl, fun w hSw => ?_⟩) (by assumption) ?_
          · (try dsimp only at hSw)
            go_simp
          try simp only [Act.put, List.setIfInBounds_toArray, List.set_cons_zero, List.set_cons_succ]
          refine wpAnyH_done (by kernel_rfl) ?_ _
          refine NoPanic.normal ?_
          go_wp2
          go_roundw
          case rel => exact ⟨k + 1, f2, by go_num, by omega, by omega, C2.out, (Fd.below HD.out BL9), (Rb.below HL.out BL9), (BB9 hb)⟩
          case measure => first | (simp [intOf]; done) | (simp [intOf]; omega)
      · have hkk : k = 60 := by omega
        subst hkk
        have hdd := HC.out.d
        clear HC HL hltL
        go_wp2_with fail
        refine (fdoc_is w.heap.size gd f _ (Fd.below HD.out BL9) (by have := hb.size; first | exact hb.size | omega | (simp; omega))).mono ?_
        rintro e k81 ⟨g4, rfl, ⟨hd4, hl4⟩, h⟩
        have hk : Below wr.heap.size wr k81 := HK9 h
        have hz := h.size
        try simp at hz
        replace HD := Lib.hid (Fd.below HD.out hk)
        replace hb : Below w.heap.size w k81 := hb.trans (hk.mono hb.size)
        rw [hdd] at hd4
        have HD4 := Lib.hid hd4; clear hd4 hdd
        clear h hk
        have hltD4 := HD4.out.lt
        go_wp2_with fail
        refine (lget_is w.heap.size g4 (dNn 60) kN 1 60 ⟨#[]⟩ true _ (Dc.below HD4.out BL9) (by decide) (by rw [getN]; rfl)).mono ?_
        rintro e k82 ⟨rfl, h⟩
        have hk : Below k81.heap.size k81 k82 := HK9 h
        have hz := h.size
        try simp at hz
        replace HD := Lib.hid (Fd.below HD.out hk)
        replace HD4 := Lib.hid (Dc.below HD4.out hk)
        replace hb : Below w.heap.size w k82 := hb.trans (hk.mono hb.size)
        clear h hk
        have hm : min (a0.length : Int) 60 = 60 := by omega
        go_wp2
        go_ret
        exact ⟨by first | rfl | simp [hm], by first | exact hb | exact hb.alloc hb.size _⟩
    · have hkk : k = a0.length := by omega
      subst hkk
      have hdd := HC.out.d
      clear HC HL hltL
      go_wp2_with fail
      refine (fdoc_is w.heap.size gd f _ (Fd.below HD.out BL9) (by have := hb.size; first | exact hb.size | omega | (simp; omega))).mono ?_
      rintro e k81 ⟨g4, rfl, ⟨hd4, hl4⟩, h⟩
      have hk : Below wr.heap.size wr k81 := HK9 h
      have hz := h.size
      try simp at hz
      replace HD := Lib.hid (Fd.below HD.out hk)
      replace hb : Below w.heap.size w k81 := hb.trans (hk.mono hb.size)
      rw [hdd] at hd4
      have HD4 := Lib.hid hd4; clear hd4 hdd
      clear h hk
      have hltD4 := HD4.out.lt
      by_cases hn0 : a0.length = 0
      ·skip
       have hg0 := getN a0.length
       rw [if_pos hn0] at hg0
       go_wp2_with fail
       refine (lget_is w.heap.size g4 (dNn a0.length) kN 0 0 ⟨#[]⟩ false _ (Dc.below HD4.out BL9) (by decide) hg0).mono ?_
       rintro e k82 ⟨rfl, h⟩
       have hk : Below k81.heap.size k81 k82 := HK9 h
       have hz := h.size
       try simp at hz
       replace HD := Lib.hid (Fd.below HD.out hk)
       replace HD4 := Lib.hid (Dc.below HD4.out hk)
       replace hb : Below w.heap.size w k82 := hb.trans (hk.mono hb.size)
       clear h hk
       have hz0 : (a0.length : Int) = 0 := by omega
       have hm : min (a0.length : Int) 60 = 0 := by omega
       go_wp2
       go_ret
       exact ⟨by first | rfl | simp [hm, hz0], by first | exact hb | exact hb.alloc hb.size _⟩
      ·skip
       have hg0 := getN a0.length
       rw [if_neg hn0] at hg0
       go_wp2_with fail
       refine (lget_is w.heap.size g4 (dNn a0.length) kN 1 a0.length ⟨#[]⟩ true _ (Dc.below HD4.out BL9) (by decide) hg0).mono ?_
       rintro e k87 ⟨rfl, h⟩
       have hk : Below k81.heap.size k81 k87 := HK9 h
       have hz := h.size
       try simp at hz
       replace HD := Lib.hid (Fd.below HD.out hk)
       replace HD4 := Lib.hid (Dc.below HD4.out hk)
       replace hb : Below w.heap.size w k87 := hb.trans (hk.mono hb.size)
       clear h hk
       have hz0 : 0 < (a0.length : Int) := by omega
       have hz6 : (a0.length : Int) ≤ 60 := by omega
       have hm : min (a0.length : Int) 60 = (a0.length : Int) := by omega
       go_wp2
       go_ret
       exact ⟨by first | rfl | simp [hm], by first | exact hb | exact hb.alloc hb.size _⟩


set_option maxRecDepth 100000 in
theorem lifted (os : Os) (started : os.Started) (H : Type) (enc : TypeId × Value → H) :
    ReturnsInHanded {} Try.checked os 5 .any (Rows.foldClientsSpec.pre6 enc Try.prog Try.f5 Rows.foldClientsRow.domain false) (Rows.foldClientsSpec.post enc Try.prog Try.f5 false true false false) := by
  refine returnsInHanded_of_change (C := Try.checked) own started (by kernel_rfl) Try.func5
    (ChangeSpec.witness6 (enc := enc) (C := Try.checked) false ⟨#[], #[.slice none 0 0], []⟩ 8 (by kernel_rfl) (by kernel_rfl) (by kernel_rfl) (by kernel_rfl)) ?_
  intro W base args ds gs before hval0 hW hcnd _
  have hval : ∀ (j : Nat) t v, Try.f5.params[j]? = some t → args[j]? = some v → Value.okWide Try.prog W .any base t v := hval0
  have hW' := hW
  obtain ⟨p, q, hA0, hV, rfl, hfz, hnd⟩ := hW
  have hA : DataW.TrodAll enc Try.prog W 0 (fun _ => true) true Try.f5.params.toList args.toList ds p := hA0
  have hA1 := hA
  rw [Try.params5] at hA hval
  obtain ⟨v0, vs0, d0, ds0, p0, q0, hargs, rfl, rfl, h0, r0⟩ := trodAll_cons hA
  obtain ⟨rfl, rfl, rfl⟩ := trodAll_nil r0
  obtain rfl : args = #[v0] := by cases args; simp_all
  obtain ⟨rfl, rfl⟩ := trodVars_none hV
  obtain ⟨A0, c0, a0, rfl, w0, x0⟩ := open_ints7 (hval 0 46 v0 rfl rfl) h0
  clear hA0 hval0
  simp only [List.append_nil] at hW'
  try simp only [List.append_nil] at hA1
  refine (walk W A0 c0 a0 w0 x0).mono fun e W' ⟨he, hg⟩ => ?_
  subst he
  exact ⟨_, rfl, law_end Try.laidOut (by kernel_rfl) hW' hA1 hg rfl rfl rfl (trodAll_mk1 (shut_bool Try.underlying4 _))⟩

theorem over : Rows.foldClientsRow.holds Try.pinned (OpenSpec.ofChange Rows.foldClientsSpec) :=
  OpenClaim.holds_of_wide 5 Try.f5 rfl rfl rfl rfl rfl rfl rfl ⟨rfl, rfl, rfl, rfl, rfl⟩ rfl rfl rfl rfl rfl (by kernel_rfl) Try.func5 (by kernel_rfl)
    (of_decide_eq_true (by kernel_rfl)) (by unfold Func.isWrapper; first | (rw [if_pos (by decide +kernel)]; kernel_rfl) | (rw [if_neg (by decide +kernel)]; exact ⟨rfl, rfl⟩))
    (fun os started H enc _ => lifted os started H enc)

/-- the statement -/
theorem proved : Rows.FoldClientsSaid := over
#print axioms proved
end Go.Proofs.Ytegkhkcnoahhdaa.foldClients
