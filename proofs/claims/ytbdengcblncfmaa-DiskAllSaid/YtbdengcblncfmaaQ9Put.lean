/-
  The reference's put: a new file is put in its place.
  The disk has at most 1,000 files.
-/
import Derived.Test.YtbdengcblncfmaaQ9Grow
import Derived.Test.YtbdengcblncfmaaQ9Frm
import Derived.Deep.AppendSrc
import Derived.Deep.RegionHeld3
import Derived.Deep.Cut
import Derived.Great.Walk
import Derived.Test.YtbdengcblncfmaaRegF
set_option linter.unusedSimpArgs false
set_option linter.unusedVariables false
namespace Go.Proofs.Ytbdengcblncfmaa
open Go.RowKit
set_option maxRecDepth 100000

/-- is a text ahead of another one? -/
def ltN (a b : ByteArray) : Bool := Op.bytesLess a.toList b.toList
theorem cells_new9 (w : World) (t : TypeId) (cs : List Value) : (w.alloc (.cells cs.toArray t)).rangeAt w.heap.size 0 cs := fun j v hj => by
  have hh : (w.alloc (.cells cs.toArray t)).heap[w.heap.size]? = some (.cells cs.toArray t (0, 0)) := heap_alloc_new _ _
  unfold World.cell?
  rw [hh]
  simpa using hj
/-- k is where a new name's place is -/
def stop9 (n : ByteArray) (l : List Fil) (k : Nat) : Prop := k ≤ l.length ∧ (∀ f ∈ l.take k, ltN f.name n = true) ∧ ∀ h : k < l.length, ltN l[k].name n = false
set_option maxHeartbeats 4000000 in
theorem rput_disk {N : Nat → Prop} (B g : Nat) (v : Value) (l : List Fil) (c : Nat) (n : ByteArray) (w : World) (h : Dsk N w B g v l c) (hl : l.length ≤ 1000) (hw : B ≤ w.heap.size) (hN : ∀ k, N k → k < w.heap.size) :
    Calls Try.prog 31 #[.pointer (some ⟨g, 0, none⟩), .agg #[.string n, .slice none 0 0, .int .i64 0, .bool false]] w fun e w' => ∃ v' k, stop9 n l k ∧ e = .returned (.tuple #[]) ∧ Dsk N w' B g v' (insAt k (newF n) l) c ∧ Below B w w' ∧ Frm w w' g none ∧ ∀ b, v'.ownBlock = some b → w.heap.size ≤ b := by
  have H := Lib.hid h
  have HNN := Lib.hid hN
  clear hN
  have hc0 := h.cell0
  obtain ⟨A, ca, hv⟩ := h.own.slice
  obtain ⟨m, hm⟩ : ∃ m, l.length = m := ⟨_, rfl⟩
  rw [hm] at hv hl
  subst hv
  clear h
  have hbx : (w.alloc (Obj.cells #[.string n, .slice none 0 0, .int .i64 0, .bool false] 64)).rangeAt w.heap.size 0 [.string n, .slice none 0 0, .int .i64 0, .bool false] := cells_new9 _ _ _
  have hb0 : Below w.heap.size w (w.alloc (Obj.cells #[.string n, .slice none 0 0, .int .i64 0, .bool false] 64)) := below_new w _
  have hz0 : w.heap.size < (w.alloc (Obj.cells #[.string n, .slice none 0 0, .int .i64 0, .bool false] 64)).heap.size := by simp
  obtain ⟨W0, hW0⟩ : ∃ W0, w.alloc (Obj.cells #[.string n, .slice none 0 0, .int .i64 0, .bool false] 64) = W0 := ⟨_, rfl⟩
  rw [hW0] at hbx hb0 hz0
  have HD0 := Lib.hid (H.out.below hb0)
  have HBX := Lib.hid hbx
  obtain ⟨gb, hgb⟩ : ∃ gb, w.heap.size = gb := ⟨_, rfl⟩
  have HB0 := Lib.hid hb0
  clear hbx hb0
  go_enter Try.func31, Try.ntmps31
  go_wp2_with fail
  rw [hgb] at HBX hz0
  go_loopw [4] (fun i wr => ∃ k : Nat, i = .int .i64 k ∧ k ≤ m ∧ (∀ f ∈ l.take k, ltN f.name n = true) ∧ Below W0.heap.size W0 wr) (fun i _ => m - (intOf i).toNat)
  case atStart => exact ⟨0, rfl, Nat.zero_le _, fun f hf => by simp at hf, Below.refl _ _⟩
  case round =>
    obtain ⟨k, rfl, hk, hlo, hb⟩ := hrel
    have HLO := Lib.hid hlo; clear hlo
    have hD := HD0.out.below hb
    have hc0 := hD.cell0
    have hcb : wr.cell? ⟨gb, 0, none⟩ = some (.string n) := (hb.cell (p := ⟨gb, 0, none⟩) hz0).trans (HBX.out 0 _ rfl)
    have HD := Lib.hid hD; clear hD
    by_cases hlt : k < m
    · obtain ⟨gr, u, hA, hB, hgr, hrg, _, _⟩ := HD.out.own.at_ k (by omega)
      subst hA
      have hki : (k : Int) < m := by omega
      obtain ⟨nm, hnm⟩ : ∃ nm, (l[k]'(by omega)).name = nm := ⟨_, rfl⟩
      have hcn : wr.cell? ⟨gr, k * 4, none⟩ = some (.string nm) := by rw [← hnm]; exact hrg 0 _ rfl
      clear hrg
      go_wp2_with fail
      go_region_held3 (fun W => W.cell? ⟨g, 0, none⟩ = some (.slice (some ⟨gr, 0, none⟩) m ca) ∧ W.cell? ⟨gr, k * 4, none⟩ = some (.string nm) ∧ W.cell? ⟨gb, 0, none⟩ = some (.string n)) (first | exact ⟨hc0, hcn, hcb⟩ | go_keep) (fail)
      obtain ⟨y, hy⟩ : ∃ y, Op.bytesLess nm.toList n.toList = y := ⟨_, rfl⟩
      rw [hy]
      have HDd := Lib.hid (HD.out.below (Below.refl _ _).drew)
      have hbd : Below W0.heap.size W0 wr.drew := hb.drew
      cases y with
      | true =>
        have hnx : ∀ f ∈ l.take (k + 1), ltN f.name n = true := by
          intro f hf
          rw [List.take_succ_eq_append_getElem (by omega)] at hf
          rcases List.mem_append.1 hf with hf | hf
          · exact HLO.out f hf
          · obtain rfl : f = l[k]'(by omega) := by simpa using hf
            rw [hnm]; exact hy
        have HNX := Lib.hid hnx
        clear hnx hnm hy
        go_wp2
        go_roundw
        case rel => exact ⟨k + 1, by go_num, by omega, HNX.out, hbd⟩
        case measure => first | (simp [intOf]; omega) | (simp [intOf]; done)
      | false =>
        have hst : stop9 n l k := ⟨by omega, HLO.out, fun h => by rw [hnm]; exact hy⟩
        have HST := Lib.hid hst
        clear hst hnm hy
        obtain ⟨ps, hps, ⟨hrow, -⟩, hbs⟩ := HDd.out.own
        have hpm : ps.length = m := by rw [← hm, ← hps, List.length_map]
        have HROW := Lib.hid hrow; have HPS := Lib.hid hps
        have HBS : Hid (∀ p ∈ ps, OwnQ N p.2 p.1.b wr.drew) := Lib.hid hbs
        obtain ⟨xs, hxs⟩ : ∃ xs, ps.flatMap flc = xs := ⟨_, rfl⟩
        rw [hm, hxs] at HROW
        have HXS := Lib.hid hxs
        have hxl : xs.length = m * 4 := by rw [← hxs, flc_len, hpm]
        have HXL := Lib.hid hxl
        have hnos : ∀ u ∈ xs, u.oneCell' = true := by
          intro u hu
          rw [← hxs] at hu
          obtain ⟨p, hp, hu⟩ := List.mem_flatMap.1 hu
          exact flc_one (own_slice (hbs p hp).1) u hu
        have HNOS := Lib.hid hnos
        have hmc := (row_cap9 HROW.out).2
        have hca1 : ¬ ca < k := by omega
        have hca2 : ¬ ca = k := by omega
        have HM := Lib.hid hm
        have hc0 := HDd.out.cell0
        have hbx1 := rng_below9 HBX.out hbd hz0
        have hgW : g < wr.drew.heap.size := HDd.out.lt
        have HBW := Lib.hid hbx1
        have hb : Below w.heap.size w wr.drew := HB0.out.trans (hbd.mono HB0.out.size)
        have hgbW : gb < wr.drew.heap.size := Nat.lt_of_lt_of_le hz0 hbd.size
        have hggb : g ≠ gb := by have := H.out.lt; omega
        clear hrow hbs hps hxs hxl hnos hbx1 hbd
        generalize wr.drew = W1 at *
        go_upto_region 4 with fail
        replace hc0 : W1.drew.cell? ⟨g, 0, none⟩ = some (.slice (some ⟨gr, 0, none⟩) m ca) := hc0
        replace HDd := Lib.hid ((HDd.out).below ((Below.refl W1.heap.size W1).drew))
        replace HROW := Lib.hid (ownsRow_below (HROW.out) ((Below.refl W1.heap.size W1).drew))
        replace HBS := Lib.hid (fun p hp => ((HBS.out) p hp).below ((Below.refl W1.heap.size W1).drew))
        replace HBW := Lib.hid (rng_below9 (HBW.out) ((Below.refl W1.heap.size W1).drew) (by omega))

        refine wp_region_noPanic ?_
        refine region_f 20 (fun W => W.cell? ⟨g, 0, none⟩ = some (.slice (some ⟨gr, 0, none⟩) m ca) ∧ W.rangeAt gb 0 [.string n, .slice none 0 0, .int .i64 0, .bool false]) (by kernel_rfl) ?_
        replace hb : Below w.heap.size w W1.drew := hb.drew
        replace hgW : g < W1.drew.heap.size := hgW
        replace hgbW : gb < W1.drew.heap.size := hgbW
        generalize W1.drew = k101 at *
        have hHeld : (fun W : World => W.cell? ⟨g, 0, none⟩ = some (.slice (some ⟨gr, 0, none⟩) m ca) ∧ W.rangeAt gb 0 [.string n, .slice none 0 0, .int .i64 0, .bool false]) k101 := ⟨hc0, HBW.out⟩
        refine tkF 0 (.pointer (some ⟨g, 0, none⟩)) rfl (fun w hSw => ?_) ?_
        · (try dsimp only at hSw)
          go_simp
        try simp only [Act.put, List.setIfInBounds_toArray, List.set_cons_zero, List.set_cons_succ]
        refine tkF 1 (.pointer (some ⟨g, 0, none⟩)) rfl (fun w hSw => ?_) ?_
        · (try dsimp only at hSw)
          go_simp
        try simp only [Act.put, List.setIfInBounds_toArray, List.set_cons_zero, List.set_cons_succ]
        refine tkF 2 (.pointer (some ⟨g, 0, none⟩)) rfl (fun w hSw => ?_) ?_
        · (try dsimp only at hSw)
          go_simp
        try simp only [Act.put, List.setIfInBounds_toArray, List.set_cons_zero, List.set_cons_succ]
        refine tkF 3 (.pointer (some ⟨g, 0, none⟩)) rfl (fun w hSw => ?_) ?_
        · (try dsimp only at hSw)
          go_simp
        try simp only [Act.put, List.setIfInBounds_toArray, List.set_cons_zero, List.set_cons_succ]
        refine tkF 4 (.slice (some ⟨gr, 0, none⟩) m ca) rfl (fun w hSw => ?_) ?_
        · (try dsimp only at hSw)
          go_simp
        try simp only [Act.put, List.setIfInBounds_toArray, List.set_cons_zero, List.set_cons_succ]
        refine tkF 5 (.int .i64 k) rfl (fun w hSw => ?_) ?_
        · (try dsimp only at hSw)
          go_simp
        try simp only [Act.put, List.setIfInBounds_toArray, List.set_cons_zero, List.set_cons_succ]
        refine tkF 6 (.int .i64 k) rfl (fun w hSw => ?_) ?_
        · (try dsimp only at hSw)
          go_simp
        try simp only [Act.put, List.setIfInBounds_toArray, List.set_cons_zero, List.set_cons_succ]
        refine tkF 7 (.slice (some ⟨gr, 0, none⟩) k k) rfl (fun w hSw => ?_) ?_
        · (try dsimp only at hSw)
          go_simp
        try simp only [Act.put, List.setIfInBounds_toArray, List.set_cons_zero, List.set_cons_succ]
        refine tkG 8 (.agg #[.string n, .slice none 0 0, .int .i64 0, .bool false]) rfl (yieldsIf_load_mid (by rfl) 64 _ rfl gb 0 rfl [.string n, .slice none 0 0, .int .i64 0, .bool false] _ (fun w h => h.2) Try.underlying64 rfl (by kernel_rfl)) ?_
        try simp only [Act.put, List.setIfInBounds_toArray, List.set_cons_zero, List.set_cons_succ]
        refine tkF 10 (.pointer (some ⟨g, 0, none⟩)) rfl (fun w hSw => ?_) ?_
        · (try dsimp only at hSw)
          go_simp
        try simp only [Act.put, List.setIfInBounds_toArray, List.set_cons_zero, List.set_cons_succ]
        refine tkF 11 (.pointer (some ⟨g, 0, none⟩)) rfl (fun w hSw => ?_) ?_
        · (try dsimp only at hSw)
          go_simp
        try simp only [Act.put, List.setIfInBounds_toArray, List.set_cons_zero, List.set_cons_succ]
        refine tkF 12 (.pointer (some ⟨g, 0, none⟩)) rfl (fun w hSw => ?_) ?_
        · (try dsimp only at hSw)
          go_simp
        try simp only [Act.put, List.setIfInBounds_toArray, List.set_cons_zero, List.set_cons_succ]
        refine tkF 13 (.slice (some ⟨gr, 0, none⟩) m ca) rfl (fun w hSw => ?_) ?_
        · (try dsimp only at hSw)
          go_simp
        try simp only [Act.put, List.setIfInBounds_toArray, List.set_cons_zero, List.set_cons_succ]
        refine tkF 14 (.int .i64 k) rfl (fun w hSw => ?_) ?_
        · (try dsimp only at hSw)
          go_simp
        try simp only [Act.put, List.setIfInBounds_toArray, List.set_cons_zero, List.set_cons_succ]
        refine tkF 15 (.slice (some ⟨gr, k * 4, none⟩) (m - k) (ca - k)) rfl (fun w hSw => ?_) ?_
        · (try dsimp only at hSw)
          go_simp
        try simp only [Act.put, List.setIfInBounds_toArray, List.set_cons_zero, List.set_cons_succ]
        refine stF 9 rfl (fun K hK => ?_)
        go_simp
        have hk : Below k101.heap.size k101 (k101.alloc (Obj.cells #[.string n, .slice none 0 0, .int .i64 0, .bool false] 64)) := below_new k101 _
        have hnw : (k101.alloc (Obj.cells #[.string n, .slice none 0 0, .int .i64 0, .bool false] 64)).rangeAt k101.heap.size 0 [.string n, .slice none 0 0, .int .i64 0, .bool false] := cells_new9 _ _ _
        have how : (k101.alloc (Obj.cells #[.string n, .slice none 0 0, .int .i64 0, .bool false] 64)).ownsRow k101.heap.size 64 4 (.slice (some ⟨k101.heap.size, 0, none⟩) 1 1) 1 [.string n, .slice none 0 0, .int .i64 0, .bool false] := own_one9 k101 [.string n, .slice none 0 0, .int .i64 0, .bool false] rfl
        obtain ⟨b1, hb1⟩ : ∃ b1, k101.heap.size = b1 := ⟨_, rfl⟩
        have hb1z : b1 < (k101.alloc (Obj.cells #[.string n, .slice none 0 0, .int .i64 0, .bool false] 64)).heap.size := by rw [← hb1]; simp
        generalize k101.alloc (Obj.cells #[.string n, .slice none 0 0, .int .i64 0, .bool false] 64) = k102 at *
        have HNW := Lib.hid hnw; clear hnw
        have HOW := Lib.hid (ownsRow_down how (Nat.zero_le _)); clear how
        replace hc0 : k102.cell? ⟨g, 0, none⟩ = some (.slice (some ⟨gr, 0, none⟩) m ca) := (hk.cell (p := ⟨g, 0, none⟩) (by first | (simp; done) | (simp; omega) | omega)).trans hc0
        replace HDd := Lib.hid ((HDd.out).below hk)
        replace HROW := Lib.hid (ownsRow_below (HROW.out) hk)
        replace HBS := Lib.hid (fun p hp => ((HBS.out) p hp).below hk)
        replace HBW := Lib.hid (rng_below9 (HBW.out) hk (by omega))
        replace hb : Below w.heap.size w k102 := hb.trans (hk.mono hb.size)
        have hkz := hk.size
        replace hgbW : gb < k102.heap.size := by omega
        replace hgW : g < k102.heap.size := by omega
        clear hk hkz
        rw [hb1] at HNW HOW
        try rw [hb1]
        clear hb1
        clear hHeld
        have hHeld : (fun W : World => W.cell? ⟨g, 0, none⟩ = some (.slice (some ⟨gr, 0, none⟩) m ca) ∧ W.rangeAt gb 0 [.string n, .slice none 0 0, .int .i64 0, .bool false]) k102 := ⟨hc0, HBW.out⟩
        refine hK.out _ _ (.inr hHeld) ?_
        clear hK K
        try simp only [Act.put, List.setIfInBounds_toArray, List.set_cons_zero, List.set_cons_succ]
        refine stF 16 rfl (fun K hK => ?_)
        obtain ⟨v16, k103, hr, ho16, hk⟩ := run_grow9 k102 27 (some ⟨b1, 0, none⟩) 1 1 (m - k) _ _ (xs.drop (k * 4)) rfl (run_firstCells_some k102.drew 4 1 ⟨b1, 0, none⟩ 1 1 [.string n, .slice none 0 0, .int .i64 0, .bool false] rfl (fun j u hj => by rw [Addr.add_mid]; exact HNW.out j u hj)) (Src.ofSlice k102 Try.underlying27 ⟨gr, k * 4, none⟩ (m - k) (ca - k) (xs.drop (k * 4)) (by rw [List.length_drop, HXL.out]; omega) (row_part HROW.out) (fun u hu => HNOS.out u (List.mem_of_mem_drop hu))) (by omega) (by omega)
        refine wp_append9 _ _ rfl _ _ rfl rfl v16 k103 hr ?_
        have HV16 := Lib.hid (ownsRow_down ho16 (Nat.zero_le _)); clear ho16 hr
        replace hc0 : k103.cell? ⟨g, 0, none⟩ = some (.slice (some ⟨gr, 0, none⟩) m ca) := (hk.cell (p := ⟨g, 0, none⟩) (by first | (simp; done) | (simp; omega) | omega)).trans hc0
        replace HDd := Lib.hid ((HDd.out).below hk)
        replace HROW := Lib.hid (ownsRow_below (HROW.out) hk)
        replace HBS := Lib.hid (fun p hp => ((HBS.out) p hp).below hk)
        replace HBW := Lib.hid (rng_below9 (HBW.out) hk (by omega))
        replace HNW := Lib.hid (rng_below9 (HNW.out) hk (by omega))
        replace HOW := Lib.hid (ownsRow_below (HOW.out) hk)
        replace hb : Below w.heap.size w k103 := hb.trans (hk.mono hb.size)
        have hkz := hk.size
        replace hgbW : gb < k103.heap.size := by omega
        replace hgW : g < k103.heap.size := by omega
        replace hb1z : b1 < k103.heap.size := by omega
        clear hk hkz
        clear hHeld
        have hHeld : (fun W : World => W.cell? ⟨g, 0, none⟩ = some (.slice (some ⟨gr, 0, none⟩) m ca) ∧ W.rangeAt gb 0 [.string n, .slice none 0 0, .int .i64 0, .bool false]) k103 := ⟨hc0, HBW.out⟩
        refine hK.out _ _ (.inr hHeld) ?_
        clear hK K
        try simp only [Act.put, List.setIfInBounds_toArray, List.set_cons_zero, List.set_cons_succ]
        refine stF 17 rfl (fun K hK => ?_)
        obtain ⟨A16, c16, hv16⟩ := own_slice HV16.out
        subst hv16
        obtain ⟨g16, hA16⟩ := row_some9 HV16.out (by omega)
        subst hA16
        obtain ⟨v17, k104, hr, ho17, hk⟩ := run_grow9 k103 27 (some ⟨gr, 0, none⟩) k k (1 + (m - k)) _ (xs.take (k * 4)) _ (by rw [List.length_take, HXL.out]; omega) (row_olds HROW.out (by omega)) (Src.ofSlice k103 Try.underlying27 ⟨g16, 0, none⟩ _ c16 _ HV16.out.1 (HV16.out.cells (g := g16) rfl) (by
          intro u hu
          rcases List.mem_append.1 hu with hu | hu
          · exact newc_one u hu
          · exact HNOS.out u (List.mem_of_mem_drop hu))) (by omega) (by omega)
        obtain ⟨A17, c17, hv17⟩ := own_slice ho17
        subst hv17
        refine wp_append9 _ _ rfl _ _ rfl rfl _ k104 hr ?_
        have HOB : Hid (∀ b, Value.ownBlock (.slice A17 (k + (1 + (m - k))) c17) = some b → w.heap.size ≤ b) := Lib.hid (fun b e => Nat.le_trans hb.size (World.ownsRow.lt ho17 b e).1)
        have HV17 := Lib.hid (ownsRow_down (B := B) ho17 (Nat.le_trans hw hb.size)); clear ho17 hr
        replace hc0 : k104.cell? ⟨g, 0, none⟩ = some (.slice (some ⟨gr, 0, none⟩) m ca) := (hk.cell (p := ⟨g, 0, none⟩) (by first | (simp; done) | (simp; omega) | omega)).trans hc0
        replace HDd := Lib.hid ((HDd.out).below hk)
        replace HROW := Lib.hid (ownsRow_below (HROW.out) hk)
        replace HBS := Lib.hid (fun p hp => ((HBS.out) p hp).below hk)
        replace HBW := Lib.hid (rng_below9 (HBW.out) hk (by omega))
        replace HNW := Lib.hid (rng_below9 (HNW.out) hk (by omega))
        replace HOW := Lib.hid (ownsRow_below (HOW.out) hk)
        replace HV16 := Lib.hid (ownsRow_below (HV16.out) hk)
        replace hb : Below w.heap.size w k104 := hb.trans (hk.mono hb.size)
        have hkz := hk.size
        replace hgbW : gb < k104.heap.size := by omega
        replace hgW : g < k104.heap.size := by omega
        replace hb1z : b1 < k104.heap.size := by omega
        clear hk hkz
        clear hHeld
        have hHeld : (fun W : World => W.cell? ⟨g, 0, none⟩ = some (.slice (some ⟨gr, 0, none⟩) m ca) ∧ W.rangeAt gb 0 [.string n, .slice none 0 0, .int .i64 0, .bool false]) k104 := ⟨hc0, HBW.out⟩
        refine hK.out _ _ (.inr hHeld) ?_
        clear hK K
        try simp only [Act.put, List.setIfInBounds_toArray, List.set_cons_zero, List.set_cons_succ]
        refine stF 18 rfl (fun K hK => ?_)
        go_simp
        clear hHeld
        have hHeld : (fun W : World => W.cell? ⟨g, 0, none⟩ = some (.slice (some ⟨gr, 0, none⟩) m ca) ∧ W.rangeAt gb 0 [.string n, .slice none 0 0, .int .i64 0, .bool false]) k104 := ⟨hc0, HBW.out⟩
        refine hK.out _ _ (.inr hHeld) ?_
        clear hK K
        try simp only [Act.put, List.setIfInBounds_toArray, List.set_cons_zero, List.set_cons_succ]
        refine stF 19 rfl (fun K hK => ?_)
        go_simp
        clear hHeld
        have hHeld : (fun W : World => W.cell? ⟨g, 0, none⟩ = some (.slice (some ⟨gr, 0, none⟩) m ca) ∧ W.rangeAt gb 0 [.string n, .slice none 0 0, .int .i64 0, .bool false]) k104 := ⟨hc0, HBW.out⟩
        refine hK.out _ _ (.inr hHeld) ?_
        clear hK K
        try simp only [Act.put, List.setIfInBounds_toArray, List.set_cons_zero, List.set_cons_succ]
        refine stF 20 rfl (fun K hK => ?_)
        have hfz := HDd.out.frz 0
        go_simp
        refine hK.out _ _ (.inl rfl) ?_
        clear hK K hHeld
        try simp only [Act.put, List.setIfInBounds_toArray, List.set_cons_zero, List.set_cons_succ]
        refine anyF_done (by kernel_rfl) ?_ _
        refine NoPanic.normal ?_
        have hown := own_ins9 (N := N) (n := n) (k := k) HPS.out HM.out HXS.out HBS.out (by omega) rfl rfl HV17.out (Av.new HOB.out HNN.out)
        go_wp2
        exact Go.Great.bodyPost_end0 rfl rfl ⟨_, k, HST.out, rfl, HDd.out.row hown, (hb.mono hw).setCell H.out.lo _, (Frm.of_below g none hb).seta _, HOB.out⟩
    · have hkm : k = m := by omega
      have hge : (m : Int) ≤ k := by omega
      go_wp2_with fail
      have HBZ := Lib.hid hb
      replace hb : Below w.heap.size w wr := HB0.out.trans (hb.mono HB0.out.size)
      have hgW : g < wr.heap.size := HD.out.lt
      have hd0 : decide ((k : Int) < m) = false := decide_eq_false (by omega)
      clear hcb
      go_upto_region 2 with fail
      replace hc0 : wr.drew.cell? ⟨g, 0, none⟩ = some (.slice A m ca) := hc0
      replace HD := Lib.hid ((HD.out).below ((Below.refl wr.heap.size wr).drew))
      replace HBZ := Lib.hid ((HBZ.out).trans ((((Below.refl wr.heap.size wr).drew)).mono (HBZ.out).size))
      refine wp_region_noPanic ?_
      refine wp_region_held_drew (S := fun W => W.cell? ⟨g, 0, none⟩ = some (.slice A m ca)) (by kernel_rfl) ?_ (fun hHeld => ?_)
      · exact hc0
      replace hb : Below w.heap.size w wr.drew := hb.drew
      replace hgW : g < wr.drew.heap.size := hgW
      have hzd : wr.heap.size ≤ wr.drew.heap.size := Nat.le_refl _
      generalize wr.drew = k301 at *
      refine wpAnyH_take (i := 0) (oi := { dst := some 5, op := Op.move (Operand.tmp 4), type := 3, pos := "ref.go:46", after := #[], guard := none }) (v := .int .i64 k) rfl (by kernel_rfl) (by kernel_rfl) (by kernel_rfl) (fun _ _ _ h => h) (Or.inl ⟨by rfl, fun w hSw => ?_⟩) (by assumption) ?_
      · (try dsimp only at hSw)
        go_simp
      try simp only [Act.put, List.setIfInBounds_toArray, List.set_cons_zero, List.set_cons_succ]
      refine wpAnyH_take (i := 1) (oi := { dst := some 6, op := Op.move (Operand.tmp 0), type := 26, pos := "ref.go:46", after := #[], guard := none }) (v := .pointer (some ⟨g, 0, none⟩)) rfl (by kernel_rfl) (by kernel_rfl) (by kernel_rfl) (fun _ _ _ h => h) (Or.inl ⟨by rfl, fun w hSw => ?_⟩) (by assumption) ?_
      · (try dsimp only at hSw)
        go_simp
      try simp only [Act.put, List.setIfInBounds_toArray, List.set_cons_zero, List.set_cons_succ]
      refine wpAnyH_take (i := 2) (oi := { dst := some 7, op := Op.nilCheck (Operand.tmp 6), type := 0, pos := "ref.go:46", after := #[{ on := 1, ground := Ground.data }], guard := none }) (v := .pointer (some ⟨g, 0, none⟩)) rfl (by kernel_rfl) (by kernel_rfl) (by kernel_rfl) (fun _ _ _ h => h) (Or.inl ⟨by rfl, fun w hSw => ?_⟩) (by assumption) ?_
      · (try dsimp only at hSw)
        go_simp
      try simp only [Act.put, List.setIfInBounds_toArray, List.set_cons_zero, List.set_cons_succ]
      refine wpAnyH_take (i := 3) (oi := { dst := some 8, op := Op.fieldAddr 29 (Operand.tmp 7) 0, type := 0, pos := "ref.go:46", after := #[{ on := 2, ground := Ground.data }], guard := none }) (v := .pointer (some ⟨g, 0, none⟩)) rfl (by kernel_rfl) (by kernel_rfl) (by kernel_rfl) (fun _ _ _ h => h) (Or.inl ⟨by rfl, fun w hSw => ?_⟩) (by assumption) ?_
      · (try dsimp only at hSw)
        go_simp
      try simp only [Act.put, List.setIfInBounds_toArray, List.set_cons_zero, List.set_cons_succ]
      refine wpAnyH_take (i := 4) (oi := { dst := some 9, op := Op.load 27 (Operand.tmp 8), type := 27, pos := "ref.go:46", after := #[{ on := 3, ground := Ground.data }], guard := none }) (v := .slice A m ca) rfl (by kernel_rfl) (by kernel_rfl) (by kernel_rfl) (fun _ _ _ h => h) (Or.inl ⟨by rfl, fun w hSw => ?_⟩) (by assumption) ?_
      · (try dsimp only at hSw)
        go_simp
      try simp only [Act.put, List.setIfInBounds_toArray, List.set_cons_zero, List.set_cons_succ]
      refine wpAnyH_take (i := 5) (oi := { dst := some 10, op := Op.call { callee := Callee.builtin Builtin.len, args := #[Operand.tmp 9], argTypes := #[27] }, type := 3, pos := "ref.go:46", after := #[{ on := 4, ground := Ground.data }], guard := none }) (v := .int .i64 m) rfl (by kernel_rfl) (by kernel_rfl) (by kernel_rfl) (fun _ _ _ h => h) (Or.inl ⟨by rfl, fun w hSw => ?_⟩) (by assumption) ?_
      · (try dsimp only at hSw)
        go_simp
      try simp only [Act.put, List.setIfInBounds_toArray, List.set_cons_zero, List.set_cons_succ]
      refine wpAnyH_take (i := 6) (oi := { dst := some 11, op := Op.binOp BinOp.lss 3 (Operand.tmp 5) (Operand.tmp 10) 3, type := 4, pos := "ref.go:46", after := #[{ on := 0, ground := Ground.data }, { on := 5, ground := Ground.data }], guard := none }) (v := .bool false) rfl (by kernel_rfl) (by kernel_rfl) (by kernel_rfl) (fun _ _ _ h => h) (Or.inl ⟨by rfl, fun w hSw => ?_⟩) (by assumption) ?_
      · (try dsimp only at hSw)
        go_simp
      try simp only [Act.put, List.setIfInBounds_toArray, List.set_cons_zero, List.set_cons_succ]
      refine wpAnyH_take (i := 7) (oi := { dst := some 12, op := Op.move (Operand.tmp 11), type := 4, pos := "ref.go:46", after := #[{ on := 6, ground := Ground.data }], guard := none }) (v := .bool false) rfl (by kernel_rfl) (by kernel_rfl) (by kernel_rfl) (fun _ _ _ h => h) (Or.inl ⟨by rfl, fun w hSw => ?_⟩) (by assumption) ?_
      · (try dsimp only at hSw)
        go_simp
      try simp only [Act.put, List.setIfInBounds_toArray, List.set_cons_zero, List.set_cons_succ]
      refine wpAnyH_take (i := 8) (oi := { dst := some 13, op := Op.move (Operand.tmp 0), type := 26, pos := "ref.go:46", after := #[{ on := 7, ground := Ground.guard }], guard := some (7, true) }) (v := undef) rfl (by kernel_rfl) (by kernel_rfl) (by kernel_rfl) (fun _ _ _ h => h) (Or.inr ⟨by rfl, rfl⟩) (by assumption) ?_
      try simp only [Act.put, List.setIfInBounds_toArray, List.set_cons_zero, List.set_cons_succ]
      refine wpAnyH_take (i := 9) (oi := { dst := some 14, op := Op.nilCheck (Operand.tmp 13), type := 0, pos := "ref.go:46", after := #[{ on := 8, ground := Ground.data }, { on := 7, ground := Ground.guard }], guard := some (7, true) }) (v := undef) rfl (by kernel_rfl) (by kernel_rfl) (by kernel_rfl) (fun _ _ _ h => h) (Or.inr ⟨by rfl, rfl⟩) (by assumption) ?_
      try simp only [Act.put, List.setIfInBounds_toArray, List.set_cons_zero, List.set_cons_succ]
      refine wpAnyH_take (i := 10) (oi := { dst := some 15, op := Op.fieldAddr 29 (Operand.tmp 14) 0, type := 0, pos := "ref.go:46", after := #[{ on := 9, ground := Ground.data }, { on := 7, ground := Ground.guard }], guard := some (7, true) }) (v := undef) rfl (by kernel_rfl) (by kernel_rfl) (by kernel_rfl) (fun _ _ _ h => h) (Or.inr ⟨by rfl, rfl⟩) (by assumption) ?_
      try simp only [Act.put, List.setIfInBounds_toArray, List.set_cons_zero, List.set_cons_succ]
      refine wpAnyH_take (i := 11) (oi := { dst := some 16, op := Op.load 27 (Operand.tmp 15), type := 27, pos := "ref.go:46", after := #[{ on := 10, ground := Ground.data }, { on := 7, ground := Ground.guard }], guard := some (7, true) }) (v := undef) rfl (by kernel_rfl) (by kernel_rfl) (by kernel_rfl) (fun _ _ _ h => h) (Or.inr ⟨by rfl, rfl⟩) (by assumption) ?_
      try simp only [Act.put, List.setIfInBounds_toArray, List.set_cons_zero, List.set_cons_succ]
      refine wpAnyH_take (i := 12) (oi := { dst := some 17, op := Op.move (Operand.tmp 4), type := 3, pos := "ref.go:46", after := #[{ on := 7, ground := Ground.guard }], guard := some (7, true) }) (v := undef) rfl (by kernel_rfl) (by kernel_rfl) (by kernel_rfl) (fun _ _ _ h => h) (Or.inr ⟨by rfl, rfl⟩) (by assumption) ?_
      try simp only [Act.put, List.setIfInBounds_toArray, List.set_cons_zero, List.set_cons_succ]
      refine wpAnyH_take (i := 13) (oi := { dst := some 18, op := Op.indexAddr 27 (Operand.tmp 16) (Operand.tmp 17), type := 0, pos := "ref.go:46", after := #[{ on := 11, ground := Ground.data }, { on := 12, ground := Ground.data }, { on := 7, ground := Ground.guard }], guard := some (7, true) }) (v := undef) rfl (by kernel_rfl) (by kernel_rfl) (by kernel_rfl) (fun _ _ _ h => h) (Or.inr ⟨by rfl, rfl⟩) (by assumption) ?_
      try simp only [Act.put, List.setIfInBounds_toArray, List.set_cons_zero, List.set_cons_succ]
      refine wpAnyH_take (i := 14) (oi := { dst := some 19, op := Op.fieldAddr 64 (Operand.tmp 18) 0, type := 0, pos := "ref.go:46", after := #[{ on := 13, ground := Ground.data }, { on := 7, ground := Ground.guard }], guard := some (7, true) }) (v := undef) rfl (by kernel_rfl) (by kernel_rfl) (by kernel_rfl) (fun _ _ _ h => h) (Or.inr ⟨by rfl, rfl⟩) (by assumption) ?_
      try simp only [Act.put, List.setIfInBounds_toArray, List.set_cons_zero, List.set_cons_succ]
      refine wpAnyH_take (i := 15) (oi := { dst := some 20, op := Op.load 9 (Operand.tmp 19), type := 9, pos := "ref.go:46", after := #[{ on := 14, ground := Ground.data }, { on := 7, ground := Ground.guard }], guard := some (7, true) }) (v := undef) rfl (by kernel_rfl) (by kernel_rfl) (by kernel_rfl) (fun _ _ _ h => h) (Or.inr ⟨by rfl, rfl⟩) (by assumption) ?_
      try simp only [Act.put, List.setIfInBounds_toArray, List.set_cons_zero, List.set_cons_succ]
      refine wpAnyH_take (i := 16) (oi := { dst := some 21, op := Op.fieldAddr 64 (Operand.tmp 3) 0, type := 0, pos := "ref.go:46", after := #[{ on := 7, ground := Ground.guard }], guard := some (7, true) }) (v := undef) rfl (by kernel_rfl) (by kernel_rfl) (by kernel_rfl) (fun _ _ _ h => h) (Or.inr ⟨by rfl, rfl⟩) (by assumption) ?_
      try simp only [Act.put, List.setIfInBounds_toArray, List.set_cons_zero, List.set_cons_succ]
      refine wpAnyH_take (i := 17) (oi := { dst := some 22, op := Op.load 9 (Operand.tmp 21), type := 9, pos := "ref.go:46", after := #[{ on := 16, ground := Ground.data }, { on := 7, ground := Ground.guard }], guard := some (7, true) }) (v := undef) rfl (by kernel_rfl) (by kernel_rfl) (by kernel_rfl) (fun _ _ _ h => h) (Or.inr ⟨by rfl, rfl⟩) (by assumption) ?_
      try simp only [Act.put, List.setIfInBounds_toArray, List.set_cons_zero, List.set_cons_succ]
      refine wpAnyH_take (i := 18) (oi := { dst := some 23, op := Op.binOp BinOp.lss 9 (Operand.tmp 20) (Operand.tmp 22) 9, type := 4, pos := "ref.go:46", after := #[{ on := 15, ground := Ground.data }, { on := 17, ground := Ground.data }, { on := 7, ground := Ground.guard }], guard := some (7, true) }) (v := undef) rfl (by kernel_rfl) (by kernel_rfl) (by kernel_rfl) (fun _ _ _ h => h) (Or.inr ⟨by rfl, rfl⟩) (by assumption) ?_
      try simp only [Act.put, List.setIfInBounds_toArray, List.set_cons_zero, List.set_cons_succ]
      refine wpAnyH_take (i := 19) (oi := { dst := some 24, op := Op.pick (Operand.tmp 12) (Operand.tmp 23) (Operand.const (Value.bool false)), type := 4, pos := "ref.go:46", after := #[{ on := 7, ground := Ground.data }, { on := 18, ground := Ground.data }], guard := none }) (v := .bool false) rfl (by kernel_rfl) (by kernel_rfl) (by kernel_rfl) (fun _ _ _ h => h) (Or.inl ⟨by rfl, fun w hSw => ?_⟩) (by assumption) ?_
      · (try dsimp only at hSw)
        go_simp
      try simp only [Act.put, List.setIfInBounds_toArray, List.set_cons_zero, List.set_cons_succ]
      refine wpAnyH_done (by kernel_rfl) ?_ _
      refine NoPanic.normal ?_
      have HDd := HD
      have hbd := HBZ.out
      have hst : stop9 n l k := ⟨by omega, HLO.out, fun h => by omega⟩
      have HST := Lib.hid hst
      clear hst hd0 hc0 hgW hzd hb HBZ hlt hge hk
      try clear hHeld
      subst hkm
      rcases HDd.out.own.slice9 with ⟨rfl, rfl, hk0⟩ | ⟨gr, rfl⟩
      · subst hk0
        go_wp2_with fail
        obtain ⟨ps, hps, ⟨hrow, -⟩, hbs⟩ := HDd.out.own
        have hpm : ps.length = 0 := by rw [← hm, ← hps, List.length_map]
        have HROW := Lib.hid hrow; have HPS := Lib.hid hps
        have HBS : Hid (∀ p ∈ ps, OwnQ N p.2 p.1.b k301) := Lib.hid hbs
        obtain ⟨xs, hxs⟩ : ∃ xs, ps.flatMap flc = xs := ⟨_, rfl⟩
        rw [hm, hxs] at HROW
        have HXS := Lib.hid hxs
        have hxl : xs.length = 0 * 4 := by rw [← hxs, flc_len, hpm]
        have HXL := Lib.hid hxl
        have hnos : ∀ u ∈ xs, u.oneCell' = true := by
          intro u hu
          rw [← hxs] at hu
          obtain ⟨p, hp, hu⟩ := List.mem_flatMap.1 hu
          exact flc_one (own_slice (hbs p hp).1) u hu
        have HNOS := Lib.hid hnos
        have hmc := (row_cap9 HROW.out).2


        have HM := Lib.hid hm
        have hc0 := HDd.out.cell0
        have hbx1 := rng_below9 HBX.out hbd hz0
        have hgW : g < k301.heap.size := HDd.out.lt
        have HBW := Lib.hid hbx1
        have hb : Below w.heap.size w k301 := HB0.out.trans (hbd.mono HB0.out.size)
        have hgbW : gb < k301.heap.size := Nat.lt_of_lt_of_le hz0 hbd.size
        have hggb : g ≠ gb := by have := H.out.lt; omega
        clear hrow hbs hps hxs hxl hnos hbx1 hbd

        go_upto_region 4 with fail
        replace hc0 : k301.drew.cell? ⟨g, 0, none⟩ = some (.slice none 0 0) := hc0
        replace HDd := Lib.hid ((HDd.out).below ((Below.refl k301.heap.size k301).drew))
        replace HROW := Lib.hid (ownsRow_below (HROW.out) ((Below.refl k301.heap.size k301).drew))
        replace HBS := Lib.hid (fun p hp => ((HBS.out) p hp).below ((Below.refl k301.heap.size k301).drew))
        replace HBW := Lib.hid (rng_below9 (HBW.out) ((Below.refl k301.heap.size k301).drew) (by omega))

        refine wp_region_noPanic ?_
        refine region_f 20 (fun W => W.cell? ⟨g, 0, none⟩ = some (.slice none 0 0) ∧ W.rangeAt gb 0 [.string n, .slice none 0 0, .int .i64 0, .bool false]) (by kernel_rfl) ?_
        replace hb : Below w.heap.size w k301.drew := hb.drew
        replace hgW : g < k301.drew.heap.size := hgW
        replace hgbW : gb < k301.drew.heap.size := hgbW
        generalize k301.drew = k101 at *
        have hHeld : (fun W : World => W.cell? ⟨g, 0, none⟩ = some (.slice none 0 0) ∧ W.rangeAt gb 0 [.string n, .slice none 0 0, .int .i64 0, .bool false]) k101 := ⟨hc0, HBW.out⟩
        refine tkF 0 (.pointer (some ⟨g, 0, none⟩)) rfl (fun w hSw => ?_) ?_
        · (try dsimp only at hSw)
          go_simp
        try simp only [Act.put, List.setIfInBounds_toArray, List.set_cons_zero, List.set_cons_succ]
        refine tkF 1 (.pointer (some ⟨g, 0, none⟩)) rfl (fun w hSw => ?_) ?_
        · (try dsimp only at hSw)
          go_simp
        try simp only [Act.put, List.setIfInBounds_toArray, List.set_cons_zero, List.set_cons_succ]
        refine tkF 2 (.pointer (some ⟨g, 0, none⟩)) rfl (fun w hSw => ?_) ?_
        · (try dsimp only at hSw)
          go_simp
        try simp only [Act.put, List.setIfInBounds_toArray, List.set_cons_zero, List.set_cons_succ]
        refine tkF 3 (.pointer (some ⟨g, 0, none⟩)) rfl (fun w hSw => ?_) ?_
        · (try dsimp only at hSw)
          go_simp
        try simp only [Act.put, List.setIfInBounds_toArray, List.set_cons_zero, List.set_cons_succ]
        refine tkF 4 (.slice none 0 0) rfl (fun w hSw => ?_) ?_
        · (try dsimp only at hSw)
          go_simp
        try simp only [Act.put, List.setIfInBounds_toArray, List.set_cons_zero, List.set_cons_succ]
        refine tkF 5 (.int .i64 0) rfl (fun w hSw => ?_) ?_
        · (try dsimp only at hSw)
          go_simp
        try simp only [Act.put, List.setIfInBounds_toArray, List.set_cons_zero, List.set_cons_succ]
        refine tkF 6 (.int .i64 0) rfl (fun w hSw => ?_) ?_
        · (try dsimp only at hSw)
          go_simp
        try simp only [Act.put, List.setIfInBounds_toArray, List.set_cons_zero, List.set_cons_succ]
        refine tkF 7 (.slice none 0 0) rfl (fun w hSw => ?_) ?_
        · (try dsimp only at hSw)
          go_simp
        try simp only [Act.put, List.setIfInBounds_toArray, List.set_cons_zero, List.set_cons_succ]
        refine tkG 8 (.agg #[.string n, .slice none 0 0, .int .i64 0, .bool false]) rfl (yieldsIf_load_mid (by rfl) 64 _ rfl gb 0 rfl [.string n, .slice none 0 0, .int .i64 0, .bool false] _ (fun w h => h.2) Try.underlying64 rfl (by kernel_rfl)) ?_
        try simp only [Act.put, List.setIfInBounds_toArray, List.set_cons_zero, List.set_cons_succ]
        refine tkF 10 (.pointer (some ⟨g, 0, none⟩)) rfl (fun w hSw => ?_) ?_
        · (try dsimp only at hSw)
          go_simp
        try simp only [Act.put, List.setIfInBounds_toArray, List.set_cons_zero, List.set_cons_succ]
        refine tkF 11 (.pointer (some ⟨g, 0, none⟩)) rfl (fun w hSw => ?_) ?_
        · (try dsimp only at hSw)
          go_simp
        try simp only [Act.put, List.setIfInBounds_toArray, List.set_cons_zero, List.set_cons_succ]
        refine tkF 12 (.pointer (some ⟨g, 0, none⟩)) rfl (fun w hSw => ?_) ?_
        · (try dsimp only at hSw)
          go_simp
        try simp only [Act.put, List.setIfInBounds_toArray, List.set_cons_zero, List.set_cons_succ]
        refine tkF 13 (.slice none 0 0) rfl (fun w hSw => ?_) ?_
        · (try dsimp only at hSw)
          go_simp
        try simp only [Act.put, List.setIfInBounds_toArray, List.set_cons_zero, List.set_cons_succ]
        refine tkF 14 (.int .i64 0) rfl (fun w hSw => ?_) ?_
        · (try dsimp only at hSw)
          go_simp
        try simp only [Act.put, List.setIfInBounds_toArray, List.set_cons_zero, List.set_cons_succ]
        refine tkF 15 (.slice none 0 0) rfl (fun w hSw => ?_) ?_
        · (try dsimp only at hSw)
          go_simp
        try simp only [Act.put, List.setIfInBounds_toArray, List.set_cons_zero, List.set_cons_succ]
        refine stF 9 rfl (fun K hK => ?_)
        go_simp
        have hk : Below k101.heap.size k101 (k101.alloc (Obj.cells #[.string n, .slice none 0 0, .int .i64 0, .bool false] 64)) := below_new k101 _
        have hnw : (k101.alloc (Obj.cells #[.string n, .slice none 0 0, .int .i64 0, .bool false] 64)).rangeAt k101.heap.size 0 [.string n, .slice none 0 0, .int .i64 0, .bool false] := cells_new9 _ _ _
        have how : (k101.alloc (Obj.cells #[.string n, .slice none 0 0, .int .i64 0, .bool false] 64)).ownsRow k101.heap.size 64 4 (.slice (some ⟨k101.heap.size, 0, none⟩) 1 1) 1 [.string n, .slice none 0 0, .int .i64 0, .bool false] := own_one9 k101 [.string n, .slice none 0 0, .int .i64 0, .bool false] rfl
        obtain ⟨b1, hb1⟩ : ∃ b1, k101.heap.size = b1 := ⟨_, rfl⟩
        have hb1z : b1 < (k101.alloc (Obj.cells #[.string n, .slice none 0 0, .int .i64 0, .bool false] 64)).heap.size := by rw [← hb1]; simp
        generalize k101.alloc (Obj.cells #[.string n, .slice none 0 0, .int .i64 0, .bool false] 64) = k102 at *
        have HNW := Lib.hid hnw; clear hnw
        have HOW := Lib.hid (ownsRow_down how (Nat.zero_le _)); clear how
        replace hc0 : k102.cell? ⟨g, 0, none⟩ = some (.slice none 0 0) := (hk.cell (p := ⟨g, 0, none⟩) (by first | (simp; done) | (simp; omega) | omega)).trans hc0
        replace HDd := Lib.hid ((HDd.out).below hk)
        replace HROW := Lib.hid (ownsRow_below (HROW.out) hk)
        replace HBS := Lib.hid (fun p hp => ((HBS.out) p hp).below hk)
        replace HBW := Lib.hid (rng_below9 (HBW.out) hk (by omega))
        replace hb : Below w.heap.size w k102 := hb.trans (hk.mono hb.size)
        have hkz := hk.size
        replace hgbW : gb < k102.heap.size := by omega
        replace hgW : g < k102.heap.size := by omega
        clear hk hkz
        rw [hb1] at HNW HOW
        try rw [hb1]
        clear hb1
        clear hHeld
        have hHeld : (fun W : World => W.cell? ⟨g, 0, none⟩ = some (.slice none 0 0) ∧ W.rangeAt gb 0 [.string n, .slice none 0 0, .int .i64 0, .bool false]) k102 := ⟨hc0, HBW.out⟩
        refine hK.out _ _ (.inr hHeld) ?_
        clear hK K
        try simp only [Act.put, List.setIfInBounds_toArray, List.set_cons_zero, List.set_cons_succ]
        refine stF 16 rfl (fun K hK => ?_)
        refine wp_append9 _ _ rfl _ _ rfl rfl _ _ (run_stay9 k102 _ b1 1 1 _ (src_none9 k102 _ _) (Nat.le_refl _)) ?_
        have HV16 := HOW
        clear hHeld
        have hHeld : (fun W : World => W.cell? ⟨g, 0, none⟩ = some (.slice none 0 0) ∧ W.rangeAt gb 0 [.string n, .slice none 0 0, .int .i64 0, .bool false]) k102 := ⟨hc0, HBW.out⟩
        refine hK.out _ _ (.inr hHeld) ?_
        clear hK K
        try simp only [Act.put, List.setIfInBounds_toArray, List.set_cons_zero, List.set_cons_succ]
        refine stF 17 rfl (fun K hK => ?_)
        obtain ⟨v17, k103, hr, ho17, hk⟩ := run_grow9 k102 27 none 0 0 1 _ [] _ rfl (run_firstCells_none (P := Try.prog) (w := k102.drew) 4 0 0 0) (Src.ofSlice k102 Try.underlying27 ⟨b1, 0, none⟩ _ 1 _ HV16.out.1 (HV16.out.cells (g := b1) rfl) (fun u hu => newc_one u hu)) (by omega) (by omega)
        obtain ⟨A17, c17, hv17⟩ := own_slice ho17
        subst hv17
        refine wp_append9 _ _ rfl _ _ rfl rfl _ k103 hr ?_
        have HOB : Hid (∀ b, Value.ownBlock (.slice A17 (0 + 1) c17) = some b → w.heap.size ≤ b) := Lib.hid (fun b e => Nat.le_trans hb.size (World.ownsRow.lt ho17 b e).1)
        have HV17 := Lib.hid (ownsRow_down (B := B) ho17 (Nat.le_trans hw hb.size)); clear ho17 hr
        replace hc0 : k103.cell? ⟨g, 0, none⟩ = some (.slice none 0 0) := (hk.cell (p := ⟨g, 0, none⟩) (by first | (simp; done) | (simp; omega) | omega)).trans hc0
        replace HDd := Lib.hid ((HDd.out).below hk)
        replace HROW := Lib.hid (ownsRow_below (HROW.out) hk)
        replace HBS := Lib.hid (fun p hp => ((HBS.out) p hp).below hk)
        replace HBW := Lib.hid (rng_below9 (HBW.out) hk (by omega))
        replace HNW := Lib.hid (rng_below9 (HNW.out) hk (by omega))
        replace HOW := Lib.hid (ownsRow_below (HOW.out) hk)
        replace HV16 := Lib.hid (ownsRow_below (HV16.out) hk)
        replace hb : Below w.heap.size w k103 := hb.trans (hk.mono hb.size)
        have hkz := hk.size
        replace hgbW : gb < k103.heap.size := by omega
        replace hgW : g < k103.heap.size := by omega
        replace hb1z : b1 < k103.heap.size := by omega
        clear hk hkz
        clear hHeld
        have hHeld : (fun W : World => W.cell? ⟨g, 0, none⟩ = some (.slice none 0 0) ∧ W.rangeAt gb 0 [.string n, .slice none 0 0, .int .i64 0, .bool false]) k103 := ⟨hc0, HBW.out⟩
        refine hK.out _ _ (.inr hHeld) ?_
        clear hK K
        try simp only [Act.put, List.setIfInBounds_toArray, List.set_cons_zero, List.set_cons_succ]
        refine stF 18 rfl (fun K hK => ?_)
        go_simp
        clear hHeld
        have hHeld : (fun W : World => W.cell? ⟨g, 0, none⟩ = some (.slice none 0 0) ∧ W.rangeAt gb 0 [.string n, .slice none 0 0, .int .i64 0, .bool false]) k103 := ⟨hc0, HBW.out⟩
        refine hK.out _ _ (.inr hHeld) ?_
        clear hK K
        try simp only [Act.put, List.setIfInBounds_toArray, List.set_cons_zero, List.set_cons_succ]
        refine stF 19 rfl (fun K hK => ?_)
        go_simp
        clear hHeld
        have hHeld : (fun W : World => W.cell? ⟨g, 0, none⟩ = some (.slice none 0 0) ∧ W.rangeAt gb 0 [.string n, .slice none 0 0, .int .i64 0, .bool false]) k103 := ⟨hc0, HBW.out⟩
        refine hK.out _ _ (.inr hHeld) ?_
        clear hK K
        try simp only [Act.put, List.setIfInBounds_toArray, List.set_cons_zero, List.set_cons_succ]
        refine stF 20 rfl (fun K hK => ?_)
        have hfz := HDd.out.frz 0
        go_simp
        refine hK.out _ _ (.inl rfl) ?_
        clear hK K hHeld
        try simp only [Act.put, List.setIfInBounds_toArray, List.set_cons_zero, List.set_cons_succ]
        refine anyF_done (by kernel_rfl) ?_ _
        refine NoPanic.normal ?_
        have hown := own_ins9 (N := N) (n := n) (k := 0) HPS.out HM.out HXS.out HBS.out (by omega) (by omega) (by rw [List.eq_nil_of_length_eq_zero HXL.out]; rfl) HV17.out (Av.new HOB.out HNN.out)
        go_wp2
        exact Go.Great.bodyPost_end0 rfl rfl ⟨_, 0, HST.out, rfl, HDd.out.row hown, (hb.mono hw).setCell H.out.lo _, (Frm.of_below g none hb).seta _, HOB.out⟩
      · by_cases hck : ca = k
        · replace hck := hck.symm
          subst hck
          go_wp2_with fail
          obtain ⟨ps, hps, ⟨hrow, -⟩, hbs⟩ := HDd.out.own
          have hpm : ps.length = k := by rw [← hm, ← hps, List.length_map]
          have HROW := Lib.hid hrow; have HPS := Lib.hid hps
          have HBS : Hid (∀ p ∈ ps, OwnQ N p.2 p.1.b k301) := Lib.hid hbs
          obtain ⟨xs, hxs⟩ : ∃ xs, ps.flatMap flc = xs := ⟨_, rfl⟩
          rw [hm, hxs] at HROW
          have HXS := Lib.hid hxs
          have hxl : xs.length = k * 4 := by rw [← hxs, flc_len, hpm]
          have HXL := Lib.hid hxl
          have hnos : ∀ u ∈ xs, u.oneCell' = true := by
            intro u hu
            rw [← hxs] at hu
            obtain ⟨p, hp, hu⟩ := List.mem_flatMap.1 hu
            exact flc_one (own_slice (hbs p hp).1) u hu
          have HNOS := Lib.hid hnos
          have hmc := (row_cap9 HROW.out).2


          have HM := Lib.hid hm
          have hc0 := HDd.out.cell0
          have hbx1 := rng_below9 HBX.out hbd hz0
          have hgW : g < k301.heap.size := HDd.out.lt
          have HBW := Lib.hid hbx1
          have hb : Below w.heap.size w k301 := HB0.out.trans (hbd.mono HB0.out.size)
          have hgbW : gb < k301.heap.size := Nat.lt_of_lt_of_le hz0 hbd.size
          have hggb : g ≠ gb := by have := H.out.lt; omega
          clear hrow hbs hps hxs hxl hnos hbx1 hbd

          go_upto_region 4 with fail
          replace hc0 : k301.drew.cell? ⟨g, 0, none⟩ = some (.slice (some ⟨gr, 0, none⟩) k k) := hc0
          replace HDd := Lib.hid ((HDd.out).below ((Below.refl k301.heap.size k301).drew))
          replace HROW := Lib.hid (ownsRow_below (HROW.out) ((Below.refl k301.heap.size k301).drew))
          replace HBS := Lib.hid (fun p hp => ((HBS.out) p hp).below ((Below.refl k301.heap.size k301).drew))
          replace HBW := Lib.hid (rng_below9 (HBW.out) ((Below.refl k301.heap.size k301).drew) (by omega))

          refine wp_region_noPanic ?_
          refine region_f 20 (fun W => W.cell? ⟨g, 0, none⟩ = some (.slice (some ⟨gr, 0, none⟩) k k) ∧ W.rangeAt gb 0 [.string n, .slice none 0 0, .int .i64 0, .bool false]) (by kernel_rfl) ?_
          replace hb : Below w.heap.size w k301.drew := hb.drew
          replace hgW : g < k301.drew.heap.size := hgW
          replace hgbW : gb < k301.drew.heap.size := hgbW
          generalize k301.drew = k101 at *
          have hHeld : (fun W : World => W.cell? ⟨g, 0, none⟩ = some (.slice (some ⟨gr, 0, none⟩) k k) ∧ W.rangeAt gb 0 [.string n, .slice none 0 0, .int .i64 0, .bool false]) k101 := ⟨hc0, HBW.out⟩
          refine tkF 0 (.pointer (some ⟨g, 0, none⟩)) rfl (fun w hSw => ?_) ?_
          · (try dsimp only at hSw)
            go_simp
          try simp only [Act.put, List.setIfInBounds_toArray, List.set_cons_zero, List.set_cons_succ]
          refine tkF 1 (.pointer (some ⟨g, 0, none⟩)) rfl (fun w hSw => ?_) ?_
          · (try dsimp only at hSw)
            go_simp
          try simp only [Act.put, List.setIfInBounds_toArray, List.set_cons_zero, List.set_cons_succ]
          refine tkF 2 (.pointer (some ⟨g, 0, none⟩)) rfl (fun w hSw => ?_) ?_
          · (try dsimp only at hSw)
            go_simp
          try simp only [Act.put, List.setIfInBounds_toArray, List.set_cons_zero, List.set_cons_succ]
          refine tkF 3 (.pointer (some ⟨g, 0, none⟩)) rfl (fun w hSw => ?_) ?_
          · (try dsimp only at hSw)
            go_simp
          try simp only [Act.put, List.setIfInBounds_toArray, List.set_cons_zero, List.set_cons_succ]
          refine tkF 4 (.slice (some ⟨gr, 0, none⟩) k k) rfl (fun w hSw => ?_) ?_
          · (try dsimp only at hSw)
            go_simp
          try simp only [Act.put, List.setIfInBounds_toArray, List.set_cons_zero, List.set_cons_succ]
          refine tkF 5 (.int .i64 k) rfl (fun w hSw => ?_) ?_
          · (try dsimp only at hSw)
            go_simp
          try simp only [Act.put, List.setIfInBounds_toArray, List.set_cons_zero, List.set_cons_succ]
          refine tkF 6 (.int .i64 k) rfl (fun w hSw => ?_) ?_
          · (try dsimp only at hSw)
            go_simp
          try simp only [Act.put, List.setIfInBounds_toArray, List.set_cons_zero, List.set_cons_succ]
          refine tkF 7 (.slice (some ⟨gr, 0, none⟩) k k) rfl (fun w hSw => ?_) ?_
          · (try dsimp only at hSw)
            go_simp
          try simp only [Act.put, List.setIfInBounds_toArray, List.set_cons_zero, List.set_cons_succ]
          refine tkG 8 (.agg #[.string n, .slice none 0 0, .int .i64 0, .bool false]) rfl (yieldsIf_load_mid (by rfl) 64 _ rfl gb 0 rfl [.string n, .slice none 0 0, .int .i64 0, .bool false] _ (fun w h => h.2) Try.underlying64 rfl (by kernel_rfl)) ?_
          try simp only [Act.put, List.setIfInBounds_toArray, List.set_cons_zero, List.set_cons_succ]
          refine tkF 10 (.pointer (some ⟨g, 0, none⟩)) rfl (fun w hSw => ?_) ?_
          · (try dsimp only at hSw)
            go_simp
          try simp only [Act.put, List.setIfInBounds_toArray, List.set_cons_zero, List.set_cons_succ]
          refine tkF 11 (.pointer (some ⟨g, 0, none⟩)) rfl (fun w hSw => ?_) ?_
          · (try dsimp only at hSw)
            go_simp
          try simp only [Act.put, List.setIfInBounds_toArray, List.set_cons_zero, List.set_cons_succ]
          refine tkF 12 (.pointer (some ⟨g, 0, none⟩)) rfl (fun w hSw => ?_) ?_
          · (try dsimp only at hSw)
            go_simp
          try simp only [Act.put, List.setIfInBounds_toArray, List.set_cons_zero, List.set_cons_succ]
          refine tkF 13 (.slice (some ⟨gr, 0, none⟩) k k) rfl (fun w hSw => ?_) ?_
          · (try dsimp only at hSw)
            go_simp
          try simp only [Act.put, List.setIfInBounds_toArray, List.set_cons_zero, List.set_cons_succ]
          refine tkF 14 (.int .i64 k) rfl (fun w hSw => ?_) ?_
          · (try dsimp only at hSw)
            go_simp
          try simp only [Act.put, List.setIfInBounds_toArray, List.set_cons_zero, List.set_cons_succ]
          refine tkF 15 (.slice (some ⟨gr, 0, none⟩) 0 0) rfl (fun w hSw => ?_) ?_
          · (try dsimp only at hSw)
            go_simp
          try simp only [Act.put, List.setIfInBounds_toArray, List.set_cons_zero, List.set_cons_succ]
          refine stF 9 rfl (fun K hK => ?_)
          go_simp
          have hk : Below k101.heap.size k101 (k101.alloc (Obj.cells #[.string n, .slice none 0 0, .int .i64 0, .bool false] 64)) := below_new k101 _
          have hnw : (k101.alloc (Obj.cells #[.string n, .slice none 0 0, .int .i64 0, .bool false] 64)).rangeAt k101.heap.size 0 [.string n, .slice none 0 0, .int .i64 0, .bool false] := cells_new9 _ _ _
          have how : (k101.alloc (Obj.cells #[.string n, .slice none 0 0, .int .i64 0, .bool false] 64)).ownsRow k101.heap.size 64 4 (.slice (some ⟨k101.heap.size, 0, none⟩) 1 1) 1 [.string n, .slice none 0 0, .int .i64 0, .bool false] := own_one9 k101 [.string n, .slice none 0 0, .int .i64 0, .bool false] rfl
          obtain ⟨b1, hb1⟩ : ∃ b1, k101.heap.size = b1 := ⟨_, rfl⟩
          have hb1z : b1 < (k101.alloc (Obj.cells #[.string n, .slice none 0 0, .int .i64 0, .bool false] 64)).heap.size := by rw [← hb1]; simp
          generalize k101.alloc (Obj.cells #[.string n, .slice none 0 0, .int .i64 0, .bool false] 64) = k102 at *
          have HNW := Lib.hid hnw; clear hnw
          have HOW := Lib.hid (ownsRow_down how (Nat.zero_le _)); clear how
          replace hc0 : k102.cell? ⟨g, 0, none⟩ = some (.slice (some ⟨gr, 0, none⟩) k k) := (hk.cell (p := ⟨g, 0, none⟩) (by first | (simp; done) | (simp; omega) | omega)).trans hc0
          replace HDd := Lib.hid ((HDd.out).below hk)
          replace HROW := Lib.hid (ownsRow_below (HROW.out) hk)
          replace HBS := Lib.hid (fun p hp => ((HBS.out) p hp).below hk)
          replace HBW := Lib.hid (rng_below9 (HBW.out) hk (by omega))
          replace hb : Below w.heap.size w k102 := hb.trans (hk.mono hb.size)
          have hkz := hk.size
          replace hgbW : gb < k102.heap.size := by omega
          replace hgW : g < k102.heap.size := by omega
          clear hk hkz
          rw [hb1] at HNW HOW
          try rw [hb1]
          clear hb1
          clear hHeld
          have hHeld : (fun W : World => W.cell? ⟨g, 0, none⟩ = some (.slice (some ⟨gr, 0, none⟩) k k) ∧ W.rangeAt gb 0 [.string n, .slice none 0 0, .int .i64 0, .bool false]) k102 := ⟨hc0, HBW.out⟩
          refine hK.out _ _ (.inr hHeld) ?_
          clear hK K
          try simp only [Act.put, List.setIfInBounds_toArray, List.set_cons_zero, List.set_cons_succ]
          refine stF 16 rfl (fun K hK => ?_)
          refine wp_append9 _ _ rfl _ _ rfl rfl _ _ (run_stay9 k102 _ b1 1 1 _ (src_none9 k102 _ _) (Nat.le_refl _)) ?_
          have HV16 := HOW
          clear hHeld
          have hHeld : (fun W : World => W.cell? ⟨g, 0, none⟩ = some (.slice (some ⟨gr, 0, none⟩) k k) ∧ W.rangeAt gb 0 [.string n, .slice none 0 0, .int .i64 0, .bool false]) k102 := ⟨hc0, HBW.out⟩
          refine hK.out _ _ (.inr hHeld) ?_
          clear hK K
          try simp only [Act.put, List.setIfInBounds_toArray, List.set_cons_zero, List.set_cons_succ]
          refine stF 17 rfl (fun K hK => ?_)
          obtain ⟨v17, k103, hr, ho17, hk⟩ := run_grow9 k102 27 (some ⟨gr, 0, none⟩) k k 1 _ (xs.take (k * 4)) _ (by rw [List.length_take, HXL.out]; omega) (row_olds HROW.out (by omega)) (Src.ofSlice k102 Try.underlying27 ⟨b1, 0, none⟩ _ 1 _ HV16.out.1 (HV16.out.cells (g := b1) rfl) (fun u hu => newc_one u hu)) (by omega) (by omega)
          obtain ⟨A17, c17, hv17⟩ := own_slice ho17
          subst hv17
          refine wp_append9 _ _ rfl _ _ rfl rfl _ k103 hr ?_
          have HOB : Hid (∀ b, Value.ownBlock (.slice A17 (k + 1) c17) = some b → w.heap.size ≤ b) := Lib.hid (fun b e => Nat.le_trans hb.size (World.ownsRow.lt ho17 b e).1)
          have HV17 := Lib.hid (ownsRow_down (B := B) ho17 (Nat.le_trans hw hb.size)); clear ho17 hr
          replace hc0 : k103.cell? ⟨g, 0, none⟩ = some (.slice (some ⟨gr, 0, none⟩) k k) := (hk.cell (p := ⟨g, 0, none⟩) (by first | (simp; done) | (simp; omega) | omega)).trans hc0
          replace HDd := Lib.hid ((HDd.out).below hk)
          replace HROW := Lib.hid (ownsRow_below (HROW.out) hk)
          replace HBS := Lib.hid (fun p hp => ((HBS.out) p hp).below hk)
          replace HBW := Lib.hid (rng_below9 (HBW.out) hk (by omega))
          replace HNW := Lib.hid (rng_below9 (HNW.out) hk (by omega))
          replace HOW := Lib.hid (ownsRow_below (HOW.out) hk)
          replace HV16 := Lib.hid (ownsRow_below (HV16.out) hk)
          replace hb : Below w.heap.size w k103 := hb.trans (hk.mono hb.size)
          have hkz := hk.size
          replace hgbW : gb < k103.heap.size := by omega
          replace hgW : g < k103.heap.size := by omega
          replace hb1z : b1 < k103.heap.size := by omega
          clear hk hkz
          clear hHeld
          have hHeld : (fun W : World => W.cell? ⟨g, 0, none⟩ = some (.slice (some ⟨gr, 0, none⟩) k k) ∧ W.rangeAt gb 0 [.string n, .slice none 0 0, .int .i64 0, .bool false]) k103 := ⟨hc0, HBW.out⟩
          refine hK.out _ _ (.inr hHeld) ?_
          clear hK K
          try simp only [Act.put, List.setIfInBounds_toArray, List.set_cons_zero, List.set_cons_succ]
          refine stF 18 rfl (fun K hK => ?_)
          go_simp
          clear hHeld
          have hHeld : (fun W : World => W.cell? ⟨g, 0, none⟩ = some (.slice (some ⟨gr, 0, none⟩) k k) ∧ W.rangeAt gb 0 [.string n, .slice none 0 0, .int .i64 0, .bool false]) k103 := ⟨hc0, HBW.out⟩
          refine hK.out _ _ (.inr hHeld) ?_
          clear hK K
          try simp only [Act.put, List.setIfInBounds_toArray, List.set_cons_zero, List.set_cons_succ]
          refine stF 19 rfl (fun K hK => ?_)
          go_simp
          clear hHeld
          have hHeld : (fun W : World => W.cell? ⟨g, 0, none⟩ = some (.slice (some ⟨gr, 0, none⟩) k k) ∧ W.rangeAt gb 0 [.string n, .slice none 0 0, .int .i64 0, .bool false]) k103 := ⟨hc0, HBW.out⟩
          refine hK.out _ _ (.inr hHeld) ?_
          clear hK K
          try simp only [Act.put, List.setIfInBounds_toArray, List.set_cons_zero, List.set_cons_succ]
          refine stF 20 rfl (fun K hK => ?_)
          have hfz := HDd.out.frz 0
          go_simp
          refine hK.out _ _ (.inl rfl) ?_
          clear hK K hHeld
          try simp only [Act.put, List.setIfInBounds_toArray, List.set_cons_zero, List.set_cons_succ]
          refine anyF_done (by kernel_rfl) ?_ _
          refine NoPanic.normal ?_
          have hown := own_ins9 (N := N) (n := n) (k := k) HPS.out HM.out HXS.out HBS.out (by omega) (by omega) (by rw [List.drop_of_length_le (by rw [HXL.out]; exact Nat.le_refl _), List.append_nil]) HV17.out (Av.new HOB.out HNN.out)
          go_wp2
          exact Go.Great.bodyPost_end0 rfl rfl ⟨_, k, HST.out, rfl, HDd.out.row hown, (hb.mono hw).setCell H.out.lo _, (Frm.of_below g none hb).seta _, HOB.out⟩
        · go_wp2_with fail
          obtain ⟨ps, hps, ⟨hrow, -⟩, hbs⟩ := HDd.out.own
          have hpm : ps.length = k := by rw [← hm, ← hps, List.length_map]
          have HROW := Lib.hid hrow; have HPS := Lib.hid hps
          have HBS : Hid (∀ p ∈ ps, OwnQ N p.2 p.1.b k301) := Lib.hid hbs
          obtain ⟨xs, hxs⟩ : ∃ xs, ps.flatMap flc = xs := ⟨_, rfl⟩
          rw [hm, hxs] at HROW
          have HXS := Lib.hid hxs
          have hxl : xs.length = k * 4 := by rw [← hxs, flc_len, hpm]
          have HXL := Lib.hid hxl
          have hnos : ∀ u ∈ xs, u.oneCell' = true := by
            intro u hu
            rw [← hxs] at hu
            obtain ⟨p, hp, hu⟩ := List.mem_flatMap.1 hu
            exact flc_one (own_slice (hbs p hp).1) u hu
          have HNOS := Lib.hid hnos
          have hmc := (row_cap9 HROW.out).2
          have hca1 : ¬ ca < k := by omega

          have HM := Lib.hid hm
          have hc0 := HDd.out.cell0
          have hbx1 := rng_below9 HBX.out hbd hz0
          have hgW : g < k301.heap.size := HDd.out.lt
          have HBW := Lib.hid hbx1
          have hb : Below w.heap.size w k301 := HB0.out.trans (hbd.mono HB0.out.size)
          have hgbW : gb < k301.heap.size := Nat.lt_of_lt_of_le hz0 hbd.size
          have hggb : g ≠ gb := by have := H.out.lt; omega
          clear hrow hbs hps hxs hxl hnos hbx1 hbd

          go_upto_region 4 with fail
          replace hc0 : k301.drew.cell? ⟨g, 0, none⟩ = some (.slice (some ⟨gr, 0, none⟩) k ca) := hc0
          replace HDd := Lib.hid ((HDd.out).below ((Below.refl k301.heap.size k301).drew))
          replace HROW := Lib.hid (ownsRow_below (HROW.out) ((Below.refl k301.heap.size k301).drew))
          replace HBS := Lib.hid (fun p hp => ((HBS.out) p hp).below ((Below.refl k301.heap.size k301).drew))
          replace HBW := Lib.hid (rng_below9 (HBW.out) ((Below.refl k301.heap.size k301).drew) (by omega))

          refine wp_region_noPanic ?_
          refine region_f 20 (fun W => W.cell? ⟨g, 0, none⟩ = some (.slice (some ⟨gr, 0, none⟩) k ca) ∧ W.rangeAt gb 0 [.string n, .slice none 0 0, .int .i64 0, .bool false]) (by kernel_rfl) ?_
          replace hb : Below w.heap.size w k301.drew := hb.drew
          replace hgW : g < k301.drew.heap.size := hgW
          replace hgbW : gb < k301.drew.heap.size := hgbW
          generalize k301.drew = k101 at *
          have hHeld : (fun W : World => W.cell? ⟨g, 0, none⟩ = some (.slice (some ⟨gr, 0, none⟩) k ca) ∧ W.rangeAt gb 0 [.string n, .slice none 0 0, .int .i64 0, .bool false]) k101 := ⟨hc0, HBW.out⟩
          refine tkF 0 (.pointer (some ⟨g, 0, none⟩)) rfl (fun w hSw => ?_) ?_
          · (try dsimp only at hSw)
            go_simp
          try simp only [Act.put, List.setIfInBounds_toArray, List.set_cons_zero, List.set_cons_succ]
          refine tkF 1 (.pointer (some ⟨g, 0, none⟩)) rfl (fun w hSw => ?_) ?_
          · (try dsimp only at hSw)
            go_simp
          try simp only [Act.put, List.setIfInBounds_toArray, List.set_cons_zero, List.set_cons_succ]
          refine tkF 2 (.pointer (some ⟨g, 0, none⟩)) rfl (fun w hSw => ?_) ?_
          · (try dsimp only at hSw)
            go_simp
          try simp only [Act.put, List.setIfInBounds_toArray, List.set_cons_zero, List.set_cons_succ]
          refine tkF 3 (.pointer (some ⟨g, 0, none⟩)) rfl (fun w hSw => ?_) ?_
          · (try dsimp only at hSw)
            go_simp
          try simp only [Act.put, List.setIfInBounds_toArray, List.set_cons_zero, List.set_cons_succ]
          refine tkF 4 (.slice (some ⟨gr, 0, none⟩) k ca) rfl (fun w hSw => ?_) ?_
          · (try dsimp only at hSw)
            go_simp
          try simp only [Act.put, List.setIfInBounds_toArray, List.set_cons_zero, List.set_cons_succ]
          refine tkF 5 (.int .i64 k) rfl (fun w hSw => ?_) ?_
          · (try dsimp only at hSw)
            go_simp
          try simp only [Act.put, List.setIfInBounds_toArray, List.set_cons_zero, List.set_cons_succ]
          refine tkF 6 (.int .i64 k) rfl (fun w hSw => ?_) ?_
          · (try dsimp only at hSw)
            go_simp
          try simp only [Act.put, List.setIfInBounds_toArray, List.set_cons_zero, List.set_cons_succ]
          refine tkF 7 (.slice (some ⟨gr, 0, none⟩) k k) rfl (fun w hSw => ?_) ?_
          · (try dsimp only at hSw)
            go_simp
          try simp only [Act.put, List.setIfInBounds_toArray, List.set_cons_zero, List.set_cons_succ]
          refine tkG 8 (.agg #[.string n, .slice none 0 0, .int .i64 0, .bool false]) rfl (yieldsIf_load_mid (by rfl) 64 _ rfl gb 0 rfl [.string n, .slice none 0 0, .int .i64 0, .bool false] _ (fun w h => h.2) Try.underlying64 rfl (by kernel_rfl)) ?_
          try simp only [Act.put, List.setIfInBounds_toArray, List.set_cons_zero, List.set_cons_succ]
          refine tkF 10 (.pointer (some ⟨g, 0, none⟩)) rfl (fun w hSw => ?_) ?_
          · (try dsimp only at hSw)
            go_simp
          try simp only [Act.put, List.setIfInBounds_toArray, List.set_cons_zero, List.set_cons_succ]
          refine tkF 11 (.pointer (some ⟨g, 0, none⟩)) rfl (fun w hSw => ?_) ?_
          · (try dsimp only at hSw)
            go_simp
          try simp only [Act.put, List.setIfInBounds_toArray, List.set_cons_zero, List.set_cons_succ]
          refine tkF 12 (.pointer (some ⟨g, 0, none⟩)) rfl (fun w hSw => ?_) ?_
          · (try dsimp only at hSw)
            go_simp
          try simp only [Act.put, List.setIfInBounds_toArray, List.set_cons_zero, List.set_cons_succ]
          refine tkF 13 (.slice (some ⟨gr, 0, none⟩) k ca) rfl (fun w hSw => ?_) ?_
          · (try dsimp only at hSw)
            go_simp
          try simp only [Act.put, List.setIfInBounds_toArray, List.set_cons_zero, List.set_cons_succ]
          refine tkF 14 (.int .i64 k) rfl (fun w hSw => ?_) ?_
          · (try dsimp only at hSw)
            go_simp
          try simp only [Act.put, List.setIfInBounds_toArray, List.set_cons_zero, List.set_cons_succ]
          refine tkF 15 (.slice (some ⟨gr, k * 4, none⟩) 0 (ca - k)) rfl (fun w hSw => ?_) ?_
          · (try dsimp only at hSw)
            go_simp
          try simp only [Act.put, List.setIfInBounds_toArray, List.set_cons_zero, List.set_cons_succ]
          refine stF 9 rfl (fun K hK => ?_)
          go_simp
          have hk : Below k101.heap.size k101 (k101.alloc (Obj.cells #[.string n, .slice none 0 0, .int .i64 0, .bool false] 64)) := below_new k101 _
          have hnw : (k101.alloc (Obj.cells #[.string n, .slice none 0 0, .int .i64 0, .bool false] 64)).rangeAt k101.heap.size 0 [.string n, .slice none 0 0, .int .i64 0, .bool false] := cells_new9 _ _ _
          have how : (k101.alloc (Obj.cells #[.string n, .slice none 0 0, .int .i64 0, .bool false] 64)).ownsRow k101.heap.size 64 4 (.slice (some ⟨k101.heap.size, 0, none⟩) 1 1) 1 [.string n, .slice none 0 0, .int .i64 0, .bool false] := own_one9 k101 [.string n, .slice none 0 0, .int .i64 0, .bool false] rfl
          obtain ⟨b1, hb1⟩ : ∃ b1, k101.heap.size = b1 := ⟨_, rfl⟩
          have hb1z : b1 < (k101.alloc (Obj.cells #[.string n, .slice none 0 0, .int .i64 0, .bool false] 64)).heap.size := by rw [← hb1]; simp
          generalize k101.alloc (Obj.cells #[.string n, .slice none 0 0, .int .i64 0, .bool false] 64) = k102 at *
          have HNW := Lib.hid hnw; clear hnw
          have HOW := Lib.hid (ownsRow_down how (Nat.zero_le _)); clear how
          replace hc0 : k102.cell? ⟨g, 0, none⟩ = some (.slice (some ⟨gr, 0, none⟩) k ca) := (hk.cell (p := ⟨g, 0, none⟩) (by first | (simp; done) | (simp; omega) | omega)).trans hc0
          replace HDd := Lib.hid ((HDd.out).below hk)
          replace HROW := Lib.hid (ownsRow_below (HROW.out) hk)
          replace HBS := Lib.hid (fun p hp => ((HBS.out) p hp).below hk)
          replace HBW := Lib.hid (rng_below9 (HBW.out) hk (by omega))
          replace hb : Below w.heap.size w k102 := hb.trans (hk.mono hb.size)
          have hkz := hk.size
          replace hgbW : gb < k102.heap.size := by omega
          replace hgW : g < k102.heap.size := by omega
          clear hk hkz
          rw [hb1] at HNW HOW
          try rw [hb1]
          clear hb1
          clear hHeld
          have hHeld : (fun W : World => W.cell? ⟨g, 0, none⟩ = some (.slice (some ⟨gr, 0, none⟩) k ca) ∧ W.rangeAt gb 0 [.string n, .slice none 0 0, .int .i64 0, .bool false]) k102 := ⟨hc0, HBW.out⟩
          refine hK.out _ _ (.inr hHeld) ?_
          clear hK K
          try simp only [Act.put, List.setIfInBounds_toArray, List.set_cons_zero, List.set_cons_succ]
          refine stF 16 rfl (fun K hK => ?_)
          refine wp_append9 _ _ rfl _ _ rfl rfl _ _ (run_stay9 k102 _ b1 1 1 _ (src_none9 k102 _ _) (Nat.le_refl _)) ?_
          have HV16 := HOW
          clear hHeld
          have hHeld : (fun W : World => W.cell? ⟨g, 0, none⟩ = some (.slice (some ⟨gr, 0, none⟩) k ca) ∧ W.rangeAt gb 0 [.string n, .slice none 0 0, .int .i64 0, .bool false]) k102 := ⟨hc0, HBW.out⟩
          refine hK.out _ _ (.inr hHeld) ?_
          clear hK K
          try simp only [Act.put, List.setIfInBounds_toArray, List.set_cons_zero, List.set_cons_succ]
          refine stF 17 rfl (fun K hK => ?_)
          obtain ⟨v17, k103, hr, ho17, hk⟩ := run_grow9 k102 27 (some ⟨gr, 0, none⟩) k k 1 _ (xs.take (k * 4)) _ (by rw [List.length_take, HXL.out]; omega) (row_olds HROW.out (by omega)) (Src.ofSlice k102 Try.underlying27 ⟨b1, 0, none⟩ _ 1 _ HV16.out.1 (HV16.out.cells (g := b1) rfl) (fun u hu => newc_one u hu)) (by omega) (by omega)
          obtain ⟨A17, c17, hv17⟩ := own_slice ho17
          subst hv17
          refine wp_append9 _ _ rfl _ _ rfl rfl _ k103 hr ?_
          have HOB : Hid (∀ b, Value.ownBlock (.slice A17 (k + 1) c17) = some b → w.heap.size ≤ b) := Lib.hid (fun b e => Nat.le_trans hb.size (World.ownsRow.lt ho17 b e).1)
          have HV17 := Lib.hid (ownsRow_down (B := B) ho17 (Nat.le_trans hw hb.size)); clear ho17 hr
          replace hc0 : k103.cell? ⟨g, 0, none⟩ = some (.slice (some ⟨gr, 0, none⟩) k ca) := (hk.cell (p := ⟨g, 0, none⟩) (by first | (simp; done) | (simp; omega) | omega)).trans hc0
          replace HDd := Lib.hid ((HDd.out).below hk)
          replace HROW := Lib.hid (ownsRow_below (HROW.out) hk)
          replace HBS := Lib.hid (fun p hp => ((HBS.out) p hp).below hk)
          replace HBW := Lib.hid (rng_below9 (HBW.out) hk (by omega))
          replace HNW := Lib.hid (rng_below9 (HNW.out) hk (by omega))
          replace HOW := Lib.hid (ownsRow_below (HOW.out) hk)
          replace HV16 := Lib.hid (ownsRow_below (HV16.out) hk)
          replace hb : Below w.heap.size w k103 := hb.trans (hk.mono hb.size)
          have hkz := hk.size
          replace hgbW : gb < k103.heap.size := by omega
          replace hgW : g < k103.heap.size := by omega
          replace hb1z : b1 < k103.heap.size := by omega
          clear hk hkz
          clear hHeld
          have hHeld : (fun W : World => W.cell? ⟨g, 0, none⟩ = some (.slice (some ⟨gr, 0, none⟩) k ca) ∧ W.rangeAt gb 0 [.string n, .slice none 0 0, .int .i64 0, .bool false]) k103 := ⟨hc0, HBW.out⟩
          refine hK.out _ _ (.inr hHeld) ?_
          clear hK K
          try simp only [Act.put, List.setIfInBounds_toArray, List.set_cons_zero, List.set_cons_succ]
          refine stF 18 rfl (fun K hK => ?_)
          go_simp
          clear hHeld
          have hHeld : (fun W : World => W.cell? ⟨g, 0, none⟩ = some (.slice (some ⟨gr, 0, none⟩) k ca) ∧ W.rangeAt gb 0 [.string n, .slice none 0 0, .int .i64 0, .bool false]) k103 := ⟨hc0, HBW.out⟩
          refine hK.out _ _ (.inr hHeld) ?_
          clear hK K
          try simp only [Act.put, List.setIfInBounds_toArray, List.set_cons_zero, List.set_cons_succ]
          refine stF 19 rfl (fun K hK => ?_)
          go_simp
          clear hHeld
          have hHeld : (fun W : World => W.cell? ⟨g, 0, none⟩ = some (.slice (some ⟨gr, 0, none⟩) k ca) ∧ W.rangeAt gb 0 [.string n, .slice none 0 0, .int .i64 0, .bool false]) k103 := ⟨hc0, HBW.out⟩
          refine hK.out _ _ (.inr hHeld) ?_
          clear hK K
          try simp only [Act.put, List.setIfInBounds_toArray, List.set_cons_zero, List.set_cons_succ]
          refine stF 20 rfl (fun K hK => ?_)
          have hfz := HDd.out.frz 0
          go_simp
          refine hK.out _ _ (.inl rfl) ?_
          clear hK K hHeld
          try simp only [Act.put, List.setIfInBounds_toArray, List.set_cons_zero, List.set_cons_succ]
          refine anyF_done (by kernel_rfl) ?_ _
          refine NoPanic.normal ?_
          have hown := own_ins9 (N := N) (n := n) (k := k) HPS.out HM.out HXS.out HBS.out (by omega) (by omega) (by rw [List.drop_of_length_le (by rw [HXL.out]; exact Nat.le_refl _), List.append_nil]) HV17.out (Av.new HOB.out HNN.out)
          go_wp2
          exact Go.Great.bodyPost_end0 rfl rfl ⟨_, k, HST.out, rfl, HDd.out.row hown, (hb.mono hw).setCell H.out.lo _, (Frm.of_below g none hb).seta _, HOB.out⟩
end Go.Proofs.Ytbdengcblncfmaa
