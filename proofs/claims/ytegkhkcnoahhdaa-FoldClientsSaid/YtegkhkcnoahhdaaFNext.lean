/-
  Package fold's Next: plays a batch as the plain function says, or answers false.
  The fold is as it should be, its place at most 10^15; the operations' integers are in their ranges.
-/
import Derived.Test.YtegkhkcnoahhdaaFTold
import Derived.Test.YtegkhkcnoahhdaaL6Ops
set_option linter.unusedSimpArgs false
set_option linter.unusedVariables false
namespace Go.Proofs.Ytegkhkcnoahhdaa
open Go.RowKit
set_option maxRecDepth 100000

set_option maxHeartbeats 1000000 in
theorem fnext_a (B g Bo : Nat) (s : Value) (f : Fo) (b : Bat) (w : World) (h : Fd w B g f) (hs : Ops w Bo s b.ops) (hne : ¬ b.seq = f.last b.client.toNat + 1) (hi : i64 b.client ∧ i64 b.seq) :
    Calls Try.prog 9 #[.pointer (some ⟨g, 0, none⟩), .agg #[.int .i64 b.client, .int .i64 b.seq, s]] w fun e w' => e = .returned (.tuple #[.agg #[.int .i64 0, .int .i64 0, .int .i64 0, .slice none 0 0, .int .i64 0], .bool false]) ∧ Below w.heap.size w w' := by
  obtain ⟨bc, bq, bo⟩ := b
  obtain ⟨x, hx⟩ : ∃ x, f.last bc.toNat = x := ⟨_, rfl⟩
  have hL := fun W (hW : Below w.heap.size w W) => fLast_is B g f bc x W (h.below hW) hx
  have hxl := h.good.last_le bc.toNat
  simp only at hne hi
  rw [hx] at hne hxl
  have hr64 : IntKind.i64.wrap (x + 1) = x + 1 := by rw [IntKind.wrap_i64]; omega
  have HL := Lib.hid hL; clear hL
  have hneb : (bq != x + 1) = true := by rw [bne_iff_ne]; exact hne
  clear h hx hs
  go_enter Try.func9, Try.ntmps9
  go_wp2_with fail
  refine wp_world (fun W => Rb W w.heap.size 29 [.int .i64 bc, .int .i64 bq, s] ∧ Rb W (w.heap.size + 1) 32 [.int .i64 0, .int .i64 0, .int .i64 0, .slice none 0 0, .int .i64 0] ∧ Below w.heap.size w W ∧ w.heap.size + 2 ≤ W.heap.size) ⟨(Rb.new w _ _).below (below_one _ _), Rb.new_at _ _ _ _ (by simp), below_two _ _ _, by simp⟩ ?_
  rintro k1 ⟨hr0, hr1, hb, hz⟩
  have b0 : k1.drew.cell? ⟨w.heap.size, 0, none⟩ = some (.int .i64 bc) := hr0.cell rfl
  have b1 : k1.drew.cell? ⟨w.heap.size, 1, none⟩ = some (.int .i64 bq) := hr0.cell rfl
  have hr0d : Rb k1.drew w.heap.size 29 [.int .i64 bc, .int .i64 bq, s] := hr0
  have hr1d : Rb k1.drew (w.heap.size + 1) 32 [.int .i64 0, .int .i64 0, .int .i64 0, .slice none 0 0, .int .i64 0] := hr1
  have hbd : Below w.heap.size w k1.drew := hb.drew
  have hzd : w.heap.size + 2 ≤ k1.drew.heap.size := hz
  clear hr0 hr1 hb
  go_region_held3 (fun W => W.cell? ⟨w.heap.size, 0, none⟩ = some (.int .i64 bc) ∧ W.cell? ⟨w.heap.size, 1, none⟩ = some (.int .i64 bq)) (first | exact ⟨b0, b1⟩ | assumption) (first | (go_at_call 13; refine (HL.out _ hbd).mono ?_; rintro e k2 ⟨rfl, h⟩; have b0n := (h.cell (p := ⟨w.heap.size, 0, none⟩) (by simp; omega)).trans b0; have b1n := (h.cell (p := ⟨w.heap.size, 1, none⟩) (by simp; omega)).trans b1; replace b0 := b0n; replace b1 := b1n; replace hr0d := hr0d.below h; replace hr1d := hr1d.below h; replace hbd : Below w.heap.size w k2 := hbd.trans (h.mono (by omega)); replace hzd : w.heap.size + 2 ≤ k2.heap.size := Nat.le_trans hzd h.size; clear h b0n b1n))
  have r0 := hr1d.cell (j := 0) rfl
  have r1 := hr1d.cell (j := 1) rfl
  have r2 := hr1d.cell (j := 2) rfl
  have r3 := hr1d.cell (j := 3) rfl
  have r4 := hr1d.cell (j := 4) rfl
  have f0 := hr1d.frz 0
  have f1 := hr1d.frz 1
  have f2 := hr1d.frz 2
  have f3 := hr1d.frz 3
  have f4 := hr1d.frz 4
  have hlt := hr1d.lt
  go_wp2
  refine body_world7 (fun W => Rb W (w.heap.size + 1) 32 [.int .i64 0, .int .i64 0, .int .i64 0, .slice none 0 0, .int .i64 0] ∧ Below w.heap.size w W) ⟨((((hr1d.set 0 _).set 1 _).set 2 _).set 3 _).set 4 _, BW9 hbd⟩ ?_
  rintro W ⟨h3, hbW⟩
  refine bodyPost_ret (v := .tuple #[.agg #[.int .i64 0, .int .i64 0, .int .i64 0, .slice none 0 0, .int .i64 0], .bool false]) ?_ rfl ⟨rfl, hbW⟩
  exact results_ct (a := 4) (t := 5) Try.results9 rfl rfl (run_loadVar_mid W (w.heap.size + 1) 0 _ [.int .i64 0, .int .i64 0, .int .i64 0, .slice none 0 0, .int .i64 0] _ h3.range Try.underlying32 rfl Try.infoRow7)
set_option maxHeartbeats 1000000 in
theorem fnext_b (B g Bo : Nat) (s : Value) (f : Fo) (b : Bat) (w : World) (h : Fd w B g f) (hs : Ops w Bo s b.ops) (hBo : Bo ≤ w.heap.size) (hne : b.seq = f.last b.client.toNat + 1) (hok : b.ok) (hm : mayB b = false) :
    Calls Try.prog 9 #[.pointer (some ⟨g, 0, none⟩), .agg #[.int .i64 b.client, .int .i64 b.seq, s]] w fun e w' => e = .returned (.tuple #[.agg #[.int .i64 0, .int .i64 0, .int .i64 0, .slice none 0 0, .int .i64 0], .bool false]) ∧ Below w.heap.size w w' := by
  have hi : i64 b.client ∧ i64 b.seq := ⟨hok.1, hok.2.1⟩
  have hE := fun W (hW : Below w.heap.size w W) => oenc_any w.heap.size (.agg #[.int .i64 b.client, .int .i64 b.seq, s]) b W ⟨s, rfl, Ops.more (hs.keep hW hBo) hBo⟩ hW.size hok
  have hem : encB b = [] := by unfold encB; rw [hm]; rfl
  unfold EncR at hE
  rw [hem] at hE
  have HE := Lib.hid hE; clear hE
  obtain ⟨bc, bq, bo⟩ := b
  obtain ⟨x, hx⟩ : ∃ x, f.last bc.toNat = x := ⟨_, rfl⟩
  have hL := fun W (hW : Below w.heap.size w W) => fLast_is B g f bc x W (h.below hW) hx
  have hxl := h.good.last_le bc.toNat
  simp only at hne hi
  rw [hx] at hne hxl
  have hr64 : IntKind.i64.wrap (x + 1) = x + 1 := by rw [IntKind.wrap_i64]; omega
  have HL := Lib.hid hL; clear hL
  subst hne
  have hneb : (x + 1 != x + 1) = false := by simp
  simp only at HE
  clear h hx hs hem hok
  go_enter Try.func9, Try.ntmps9
  go_wp2_with fail
  refine wp_world (fun W => Rb W w.heap.size 29 [.int .i64 bc, .int .i64 (x + 1), s] ∧ Rb W (w.heap.size + 1) 32 [.int .i64 0, .int .i64 0, .int .i64 0, .slice none 0 0, .int .i64 0] ∧ Below w.heap.size w W ∧ w.heap.size + 2 ≤ W.heap.size) ⟨(Rb.new w _ _).below (below_one _ _), Rb.new_at _ _ _ _ (by simp), below_two _ _ _, by simp⟩ ?_
  rintro k1 ⟨hr0, hr1, hb, hz⟩
  have b0 : k1.drew.cell? ⟨w.heap.size, 0, none⟩ = some (.int .i64 bc) := hr0.cell rfl
  have b1 : k1.drew.cell? ⟨w.heap.size, 1, none⟩ = some (.int .i64 (x + 1)) := hr0.cell rfl
  have hr0d : Rb k1.drew w.heap.size 29 [.int .i64 bc, .int .i64 (x + 1), s] := hr0
  have hr1d : Rb k1.drew (w.heap.size + 1) 32 [.int .i64 0, .int .i64 0, .int .i64 0, .slice none 0 0, .int .i64 0] := hr1
  have hbd : Below w.heap.size w k1.drew := hb.drew
  have hzd : w.heap.size + 2 ≤ k1.drew.heap.size := hz
  clear hr0 hr1 hb
  go_region_held3 (fun W => W.cell? ⟨w.heap.size, 0, none⟩ = some (.int .i64 bc) ∧ W.cell? ⟨w.heap.size, 1, none⟩ = some (.int .i64 (x + 1))) (first | exact ⟨b0, b1⟩ | assumption) (first | (go_at_call 13; refine (HL.out _ hbd).mono ?_; rintro e k2 ⟨rfl, h⟩; have b0n := (h.cell (p := ⟨w.heap.size, 0, none⟩) (by simp; omega)).trans b0; have b1n := (h.cell (p := ⟨w.heap.size, 1, none⟩) (by simp; omega)).trans b1; replace b0 := b0n; replace b1 := b1n; replace hr0d := hr0d.below h; replace hr1d := hr1d.below h; replace hbd : Below w.heap.size w k2 := hbd.trans (h.mono (by omega)); replace hzd : w.heap.size + 2 ≤ k2.heap.size := Nat.le_trans hzd h.size; clear h b0n b1n))
  have b2 := hr0d.cell (j := 2) rfl
  have hlt0 := hr0d.lt
  have ng := nil_guard
  have ne := nil_eql
  go_wp2_with fail
  refine (HE.out _ hbd).mono ?_
  rintro e k3 ⟨A2, c2, rfl, _, hnil, h⟩
  obtain ⟨rfl, rfl⟩ := hnil hm
  replace hr1d := hr1d.below h
  replace hbd := hbd.trans (h.mono hbd.size)
  clear h
  have r0 := hr1d.cell (j := 0) rfl
  have r1 := hr1d.cell (j := 1) rfl
  have r2 := hr1d.cell (j := 2) rfl
  have r3 := hr1d.cell (j := 3) rfl
  have r4 := hr1d.cell (j := 4) rfl
  have f0 := hr1d.frz 0
  have f1 := hr1d.frz 1
  have f2 := hr1d.frz 2
  have f3 := hr1d.frz 3
  have f4 := hr1d.frz 4
  have hlt := hr1d.lt
  go_wp2
  refine body_world7 (fun W => Rb W (w.heap.size + 1) 32 [.int .i64 0, .int .i64 0, .int .i64 0, .slice none 0 0, .int .i64 0] ∧ Below w.heap.size w W) ⟨((((hr1d.set 0 _).set 1 _).set 2 _).set 3 _).set 4 _, BW9 hbd⟩ ?_
  rintro W ⟨h3, hbW⟩
  refine bodyPost_ret (v := .tuple #[.agg #[.int .i64 0, .int .i64 0, .int .i64 0, .slice none 0 0, .int .i64 0], .bool false]) ?_ rfl ⟨rfl, hbW⟩
  exact results_ct (a := 4) (t := 5) Try.results9 rfl rfl (run_loadVar_mid W (w.heap.size + 1) 0 _ [.int .i64 0, .int .i64 0, .int .i64 0, .slice none 0 0, .int .i64 0] _ h3.range Try.underlying32 rfl Try.infoRow7)
theorem laOf_next {f : Fo} {b : Bat} {n : Nat} (hb : b.client = (n : Int) + 1) (hq : b.seq ≠ 0) : (fun c => laOf (nextFo f b) (c + 1)) = upd (fun c => laOf f (c + 1)) n ⟨b.seq, f.place + 1, ⟨(bytesB b).toArray⟩, ((dApply f.d b.ops).2 : Nat)⟩ := by
  funext c
  have hn : b.client.toNat = n + 1 := by omega
  unfold upd laOf nextFo rowOfB upd
  simp only [hn]
  by_cases hc : c = n
  · subst hc; simp [hq]
  · simp [hc]
set_option maxHeartbeats 2000000 in
theorem fnext_c (B g Bo : Nat) (s : Value) (f : Fo) (bc bq : Int) (bo : List Opn) (w : World) (h : Fd w B g f) (hs : Ops w Bo s bo) (hBo : Bo ≤ w.heap.size) (hne : bq = f.last bc.toNat + 1) (hok : Bat.ok ⟨bc, bq, bo⟩) (hm : mayB ⟨bc, bq, bo⟩ = true) (hp : f.place ≤ 1000000000000000) :
    Calls Try.prog 9 #[.pointer (some ⟨g, 0, none⟩), .agg #[.int .i64 bc, .int .i64 bq, s]] w fun e w' => ∃ r, e = .returned (.tuple #[r, .bool true]) ∧ RowV w' w'.heap.size r (rowOfB f ⟨bc, bq, bo⟩) ∧ Fd w' B g (nextFo f ⟨bc, bq, bo⟩) ∧ w.grownBy w' (some g) := by
  have hi : i64 bc ∧ i64 bq := ⟨hok.1, hok.2.1⟩
  have hE := fun W (hW : Below w.heap.size w W) => oenc_to w.heap.size (.agg #[.int .i64 bc, .int .i64 bq, s]) ⟨bc, bq, bo⟩ (bytesB ⟨bc, bq, bo⟩) W ⟨s, rfl, Ops.more (hs.keep hW hBo) hBo⟩ hW.size hok (by unfold encB; rw [if_pos hm]) hm
  have HE := Lib.hid hE; clear hE
  obtain ⟨x, hx⟩ : ∃ x, f.last bc.toNat = x := ⟨_, rfl⟩
  have hL := fun W (hW : Below w.heap.size w W) => fLast_is B g f bc x W (h.below hW) hx
  have hxl := h.good.last_le bc.toNat
  rw [hx] at hne hxl
  have hr64 : IntKind.i64.wrap (x + 1) = x + 1 := by rw [IntKind.wrap_i64]; omega
  have HL := Lib.hid hL; clear hL
  have hnum := mayB_nums hm
  simp only at hnum
  have hnext : nextB f ⟨bc, bq, bo⟩ = true := by unfold nextB; rw [hm, hx, hne]; simp
  have hgn := h.good.next hok hnext hp
  have hNX := fun W C (hW : Fd W C g (nextFo f ⟨bc, bq, bo⟩)) => ftold_is C g (nextFo f ⟨bc, bq, bo⟩) bc (rowOfB f ⟨bc, bq, bo⟩) true W hW (by unfold nextFo upd; simp) (by unfold nextFo upd; simp; omega)
  have HNX := Lib.hid hNX; clear hNX
  have HGN := Lib.hid hgn; clear hgn
  subst hne
  have hneb : (x + 1 != x + 1) = false := by simp
  obtain ⟨n, hn, hbc⟩ : ∃ n : Nat, n < 5 ∧ bc = (n : Int) + 1 := ⟨(bc - 1).toNat, by omega, by omega⟩
  have HBC := Lib.hid hbc; clear hbc
  have hp0 := h.good.place.1
  have hpw : IntKind.i64.wrap (f.place + 1) = f.place + 1 := by rw [IntKind.wrap_i64]; omega
  have hpm : (f.place == 9223372036854775807) = false := by rw [beq_eq_false_iff_ne]; omega
  have HFD := Lib.hid h; clear h
  have HOPS := Lib.hid hs; clear hs
  obtain ⟨l, hl⟩ : ∃ l, bytesB ⟨bc, x + 1, bo⟩ = l := ⟨_, rfl⟩
  rw [hl] at HE
  obtain ⟨p, hpp⟩ : ∃ p, f.place = p := ⟨_, rfl⟩
  rw [hpp] at hp hp0 hpw hpm
  clear hi hm hx
  go_enter Try.func9, Try.ntmps9
  go_wp2_with fail
  refine wp_world (fun W => Rb W w.heap.size 29 [.int .i64 bc, .int .i64 (x + 1), s] ∧ Rb W (w.heap.size + 1) 32 [.int .i64 0, .int .i64 0, .int .i64 0, .slice none 0 0, .int .i64 0] ∧ Below w.heap.size w W ∧ w.heap.size + 2 ≤ W.heap.size) ⟨(Rb.new w _ _).below (below_one _ _), Rb.new_at _ _ _ _ (by simp), below_two _ _ _, by simp⟩ ?_
  rintro k1 ⟨hr0, hr1, hb, hz⟩
  have b0 : k1.drew.cell? ⟨w.heap.size, 0, none⟩ = some (.int .i64 bc) := hr0.cell rfl
  have b1 : k1.drew.cell? ⟨w.heap.size, 1, none⟩ = some (.int .i64 (x + 1)) := hr0.cell rfl
  have hr0d : Rb k1.drew w.heap.size 29 [.int .i64 bc, .int .i64 (x + 1), s] := hr0
  have hr1d : Rb k1.drew (w.heap.size + 1) 32 [.int .i64 0, .int .i64 0, .int .i64 0, .slice none 0 0, .int .i64 0] := hr1
  have hbd : Below w.heap.size w k1.drew := hb.drew
  have hzd : w.heap.size + 2 ≤ k1.drew.heap.size := hz
  clear hr0 hr1 hb
  go_region_held3 (fun W => W.cell? ⟨w.heap.size, 0, none⟩ = some (.int .i64 bc) ∧ W.cell? ⟨w.heap.size, 1, none⟩ = some (.int .i64 (x + 1))) (first | exact ⟨b0, b1⟩ | assumption) (first | (go_at_call 13; refine (HL.out _ hbd).mono ?_; rintro e k2 ⟨rfl, h⟩; have b0n := (h.cell (p := ⟨w.heap.size, 0, none⟩) (by simp; omega)).trans b0; have b1n := (h.cell (p := ⟨w.heap.size, 1, none⟩) (by simp; omega)).trans b1; replace b0 := b0n; replace b1 := b1n; replace hr0d := hr0d.below h; replace hr1d := hr1d.below h; replace hbd : Below w.heap.size w k2 := hbd.trans (h.mono (by omega)); replace hzd : w.heap.size + 2 ≤ k2.heap.size := Nat.le_trans hzd h.size; clear h b0n b1n))
  have b2 := hr0d.cell (j := 2) rfl
  have hlt0 := hr0d.lt
  have sg := some_guard
  have se := some_eql
  go_wp2_with fail
  refine (HE.out _ hbd).mono ?_
  rintro e k3 ⟨gb, c2, rfl, hown, h⟩
  replace hr0d := hr0d.below h
  replace hr1d := hr1d.below h
  replace hbd := hbd.trans (h.mono hbd.size)
  have hz3 := h.size
  have hfd := HFD.out.below hbd
  have hglt := hfd.lt
  have hgw := HFD.out.lt
  obtain ⟨_, hBg, dv, hfr, hdo⟩ := hfd
  rw [hpp] at hfr
  have c0 : k3.cell? ⟨g, 0, none⟩ = some (.int .i64 p) := Rb.cell hfr rfl
  have fz0 : k3.frozen? ⟨g, 0, none⟩ = false := Rb.frz hfr 0
  have b2 := hr0d.cell (j := 2) rfl
  have hlt0 := hr0d.lt
  have HO := Lib.hid hown
  have HDO := Lib.hid hdo
  have HFR := Lib.hid hfr
  clear h b0 b1 hown hdo hfr
  go_wp2_with fail
  refine wp_world (fun W => Fr W g (p + 1) dv (fun c => laOf f (c + 1)) ∧ OwnR B dv f.d W ∧ OwnB (w.heap.size + 2) (.slice (some ⟨gb, 0, none⟩) l.length c2) l W ∧ Rb W w.heap.size 29 [.int .i64 bc, .int .i64 (x + 1), s] ∧ Rb W (w.heap.size + 1) 32 [.int .i64 0, .int .i64 0, .int .i64 0, .slice none 0 0, .int .i64 0] ∧ w.grownBy W (some g) ∧ w.heap.size + 2 ≤ W.heap.size) ⟨by have := Rb.set HFR.out 0 (.int .i64 (p + 1)); rwa [fcs_place] at this, rb_own HDO.out HFR.out row_ne_fold, rb_own (HO.out.down hzd) HFR.out (by decide), hr0d.other 0 _ (by omega), hr1d.other 0 _ (by omega), grownBy_trans (Below.by_ hbd) (setCell_grown _ _ _), by simp; omega⟩ ?_
  rintro k4 ⟨hfr4, hdo4, hown4, hr04, hr14, hgr4, hz4⟩
  have hops4 := ops_turn HOPS.out HFD.out hgr4
  have hAP := fun W (hW : Below k4.heap.size k4 W) => fapplyD_any B g Bo 64 (fcs (p + 1) dv (fun c => laOf f (c + 1))) dv s f.d bo W (Rb.below hfr4 hW) rfl (ownsRow_below hdo4 hW) hBg row_ne_fold HFD.out.good.d (hops4.keep hW (Nat.le_trans hBo (by omega))) (Nat.le_trans hBo (Nat.le_trans (by omega) hW.size)) hok.2.2
  obtain ⟨⟨d3, e3⟩, hda⟩ : ∃ r, dApply f.d bo = r := ⟨_, rfl⟩
  unfold ApF at hAP
  rw [hda] at hAP
  simp only at hAP
  have HAP := Lib.hid hAP; clear hAP
  have b2 : k4.drew.cell? ⟨w.heap.size, 2, none⟩ = some s := hr04.cell rfl
  have hz5 := hz4
  have hr0d : Rb k4.drew w.heap.size 29 [.int .i64 bc, .int .i64 (x + 1), s] := hr04
  have hr1d : Rb k4.drew (w.heap.size + 1) 32 [.int .i64 0, .int .i64 0, .int .i64 0, .slice none 0 0, .int .i64 0] := hr14
  have hown : OwnB (w.heap.size + 2) (.slice (some ⟨gb, 0, none⟩) l.length c2) l k4.drew := hown4
  have hgr : w.grownBy k4.drew (some g) := ⟨hgr4.os, hgr4.tape, hgr4.output, hgr4.size, hgr4.block⟩
  have hzd : w.heap.size + 2 ≤ k4.drew.heap.size := hz4
  have hb4 : Below k4.heap.size k4 k4.drew := (Below.refl _ _).drew
  have HOPS4 := Lib.hid hops4
  have HF4 := Lib.hid hfr4
  clear hfr4 hdo4 hown4 hr04 hr14 hgr4 hops4 hz3 hlt0 hz c0 fz0 hglt
  go_region_held3 (fun W => W.cell? ⟨w.heap.size, 2, none⟩ = some s) (first | exact b2 | assumption) (first | (go_at_call 21; refine (HAP.out _ hb4).mono ?_; rintro e k5 ⟨rfl, ⟨v5, hrb5, hdo5, h1c5, A5, m5, c5, rfl⟩, h4⟩; have b2n := (h4.cell_far ⟨w.heap.size, 2, none⟩ (by simp; omega) (fun e => by injection e with e; simp only at e; omega)).trans b2; replace b2 := b2n; replace hr0d : Rb k5 w.heap.size 29 [.int .i64 bc, .int .i64 (x + 1), s] := (h4.block w.heap.size hr0d.lt (fun e => by injection e with e; omega)).trans hr0d; replace hr1d : Rb k5 (w.heap.size + 1) 32 [.int .i64 0, .int .i64 0, .int .i64 0, .slice none 0 0, .int .i64 0] := (h4.block (w.heap.size + 1) hr1d.lt (fun e => by injection e with e; omega)).trans hr1d; replace hown : OwnB (w.heap.size + 2) (.slice (some ⟨gb, 0, none⟩) l.length c2) l k5 := World.ownsRow.kept hown h4 (.inr (own_ne_fr hown HF4.out (by decide))); replace hgr : w.grownBy k5 (some g) := grownBy_trans hgr h4; replace hzd : w.heap.size + 2 ≤ k5.heap.size := Nat.le_trans hzd h4.size; clear h4 b2n))
  have hrb6 : Fr k5 g (p + 1) (.slice A5 m5 c5) (fun c => laOf f (c + 1)) := hrb5
  have b1 := hr0d.cell (j := 1) rfl
  have b0 := hr0d.cell (j := 0) rfl
  have c0 : k5.cell? ⟨g, 0, none⟩ = some (.int .i64 (p + 1)) := Rb.cell hrb6 rfl
  have hgl := hrb6.lt
  have hlt0 := hr0d.lt
  clear hb4 hrb5
  have hbc := HBC.out
  obtain ⟨T, hT⟩ : ∃ T : ByteArray, (⟨l.toArray⟩ : ByteArray) = T := ⟨_, rfl⟩
  have hcv := fun W (h : Byt W W.heap.size (.slice (some ⟨gb, 0, none⟩) l.length c2) l) => conv6 h hT
  have HCV := Lib.hid hcv; clear hcv
  have HT := Lib.hid hT; clear hT
  have hl2 : bytesB ⟨bc, x + 1, bo⟩ = l := hl
  have HL2 := Lib.hid hl2; clear hl2 hl
  have HDA := Lib.hid hda; clear hda
  have hw1 : IntKind.i64.wrap (n : Int) = (n : Int) := by rw [IntKind.wrap_i64]; omega
  have hw2 : ¬ (5 : Int) ≤ (n : Int) := by omega
  have hpp2 := Lib.hid hpp; clear hpp
  subst hbc
  clear c0 b0 b1 b2
  go_upto_region 8 with fail
  refine wp_region_noPanic ?_
  refine wp_region_held_drew (S := fun W => W.cell? ⟨w.heap.size, 0, none⟩ = some (.int .i64 ((n : Int) + 1)) ∧ W.cell? ⟨w.heap.size, 1, none⟩ = some (.int .i64 (x + 1)) ∧ W.cell? ⟨g, 0, none⟩ = some (.int .i64 (p + 1)) ∧ (convert 22 9 (.slice (some ⟨gb, 0, none⟩) l.length c2)).run Try.prog W = .ok (.string T) W) (by kernel_rfl) ?_ (fun hHeld => ?_)
  · exact ⟨hr0d.cell rfl, hr0d.cell rfl, Rb.cell hrb6 rfl, HCV.out _ (Byt.of_own (hown.below (Below.refl _ _).drew))⟩
  have dr0 : Rb k5.drew w.heap.size 29 [.int .i64 ((n : Int) + 1), .int .i64 (x + 1), s] := hr0d
  have dr1 : Rb k5.drew (w.heap.size + 1) 32 [.int .i64 0, .int .i64 0, .int .i64 0, .slice none 0 0, .int .i64 0] := hr1d
  have dfr : Fr k5.drew g (p + 1) (.slice A5 m5 c5) (fun c => laOf f (c + 1)) := hrb6
  have ddo : OwnR B (.slice A5 m5 c5) d3 k5.drew := ownsRow_below hdo5 (Below.refl _ _).drew
  have dow : OwnB (w.heap.size + 2) (.slice (some ⟨gb, 0, none⟩) l.length c2) l k5.drew := hown.below (Below.refl _ _).drew
  have dgr : w.grownBy k5.drew (some g) := ⟨hgr.os, hgr.tape, hgr.output, hgr.size, hgr.block⟩
  have dz : w.heap.size + 2 ≤ k5.drew.heap.size := hzd
  clear hr0d hr1d hrb6 hdo5 hown hgr hgl hlt0
  generalize k5.drew = k6 at *
  refine wpAnyH_take (i := 0) (oi := { dst := some 46, op := Op.move (Operand.tmp 0), type := 26, pos := "fold.go:45", after := #[], guard := none }) (v := .pointer (some ⟨g, 0, none⟩)) rfl (by kernel_rfl) (by kernel_rfl) (by kernel_rfl) (fun _ _ _ h => h) (Or.inl ⟨by rfl, fun w hSw => ?_⟩) (by assumption) ?_
  · (try dsimp only at hSw)
    go_simp
  try simp only [Act.put, List.setIfInBounds_toArray, List.set_cons_zero, List.set_cons_succ]
  refine wpAnyH_take (i := 1) (oi := { dst := some 47, op := Op.fieldAddr 29 (Operand.tmp 3) 0, type := 0, pos := "fold.go:45", after := #[], guard := none }) (v := .pointer (some ⟨w.heap.size, 0, none⟩)) rfl (by kernel_rfl) (by kernel_rfl) (by kernel_rfl) (fun _ _ _ h => h) (Or.inl ⟨by rfl, fun w hSw => ?_⟩) (by assumption) ?_
  · (try dsimp only at hSw)
    go_simp
  try simp only [Act.put, List.setIfInBounds_toArray, List.set_cons_zero, List.set_cons_succ]
  refine wpAnyH_take (i := 2) (oi := { dst := some 48, op := Op.load 3 (Operand.tmp 47), type := 3, pos := "fold.go:45", after := #[{ on := 1, ground := Ground.data }], guard := none }) (v := .int .i64 ((n : Int) + 1)) rfl (by kernel_rfl) (by kernel_rfl) (by kernel_rfl) (fun _ _ _ h => h) (Or.inl ⟨by rfl, fun w hSw => ?_⟩) (by assumption) ?_
  · (try dsimp only at hSw)
    go_simp
  try simp only [Act.put, List.setIfInBounds_toArray, List.set_cons_zero, List.set_cons_succ]
  refine wpAnyH_take (i := 3) (oi := { dst := some 49, op := Op.binOp BinOp.sub 3 (Operand.tmp 48) (Operand.const (Value.int IntKind.i64 1)) 3, type := 3, pos := "fold.go:45", after := #[{ on := 2, ground := Ground.data }], guard := none }) (v := .int .i64 (n : Int)) rfl (by kernel_rfl) (by kernel_rfl) (by kernel_rfl) (fun _ _ _ h => h) (Or.inl ⟨by rfl, fun w hSw => ?_⟩) (by assumption) ?_
  · (try dsimp only at hSw)
    go_simp
  try simp only [Act.put, List.setIfInBounds_toArray, List.set_cons_zero, List.set_cons_succ]
  refine wpAnyH_take (i := 4) (oi := { dst := some 50, op := Op.fieldAddr 29 (Operand.tmp 3) 1, type := 0, pos := "fold.go:45", after := #[], guard := none }) (v := .pointer (some ⟨w.heap.size, 1, none⟩)) rfl (by kernel_rfl) (by kernel_rfl) (by kernel_rfl) (fun _ _ _ h => h) (Or.inl ⟨by rfl, fun w hSw => ?_⟩) (by assumption) ?_
  · (try dsimp only at hSw)
    go_simp
  try simp only [Act.put, List.setIfInBounds_toArray, List.set_cons_zero, List.set_cons_succ]
  refine wpAnyH_take (i := 5) (oi := { dst := some 51, op := Op.load 2 (Operand.tmp 50), type := 2, pos := "fold.go:45", after := #[{ on := 4, ground := Ground.data }], guard := none }) (v := .int .i64 (x + 1)) rfl (by kernel_rfl) (by kernel_rfl) (by kernel_rfl) (fun _ _ _ h => h) (Or.inl ⟨by rfl, fun w hSw => ?_⟩) (by assumption) ?_
  · (try dsimp only at hSw)
    go_simp
  try simp only [Act.put, List.setIfInBounds_toArray, List.set_cons_zero, List.set_cons_succ]
  refine wpAnyH_take (i := 6) (oi := { dst := some 52, op := Op.move (Operand.tmp 0), type := 26, pos := "fold.go:45", after := #[], guard := none }) (v := .pointer (some ⟨g, 0, none⟩)) rfl (by kernel_rfl) (by kernel_rfl) (by kernel_rfl) (fun _ _ _ h => h) (Or.inl ⟨by rfl, fun w hSw => ?_⟩) (by assumption) ?_
  · (try dsimp only at hSw)
    go_simp
  try simp only [Act.put, List.setIfInBounds_toArray, List.set_cons_zero, List.set_cons_succ]
  refine wpAnyH_take (i := 7) (oi := { dst := some 53, op := Op.nilCheck (Operand.tmp 52), type := 0, pos := "fold.go:45", after := #[{ on := 6, ground := Ground.data }], guard := none }) (v := .pointer (some ⟨g, 0, none⟩)) rfl (by kernel_rfl) (by kernel_rfl) (by kernel_rfl) (fun _ _ _ h => h) (Or.inl ⟨by rfl, fun w hSw => ?_⟩) (by assumption) ?_
  · (try dsimp only at hSw)
    go_simp
  try simp only [Act.put, List.setIfInBounds_toArray, List.set_cons_zero, List.set_cons_succ]
  refine wpAnyH_take (i := 8) (oi := { dst := some 54, op := Op.fieldAddr 64 (Operand.tmp 53) 0, type := 0, pos := "fold.go:45", after := #[{ on := 7, ground := Ground.data }], guard := none }) (v := .pointer (some ⟨g, 0, none⟩)) rfl (by kernel_rfl) (by kernel_rfl) (by kernel_rfl) (fun _ _ _ h => h) (Or.inl ⟨by rfl, fun w hSw => ?_⟩) (by assumption) ?_
  · (try dsimp only at hSw)
    go_simp
  try simp only [Act.put, List.setIfInBounds_toArray, List.set_cons_zero, List.set_cons_succ]
  refine wpAnyH_take (i := 9) (oi := { dst := some 55, op := Op.load 2 (Operand.tmp 54), type := 2, pos := "fold.go:45", after := #[{ on := 8, ground := Ground.data }], guard := none }) (v := .int .i64 (p + 1)) rfl (by kernel_rfl) (by kernel_rfl) (by kernel_rfl) (fun _ _ _ h => h) (Or.inl ⟨by rfl, fun w hSw => ?_⟩) (by assumption) ?_
  · (try dsimp only at hSw)
    go_simp
  try simp only [Act.put, List.setIfInBounds_toArray, List.set_cons_zero, List.set_cons_succ]
  refine wpAnyH_take (i := 10) (oi := { dst := some 56, op := Op.move (Operand.tmp 6), type := 22, pos := "fold.go:45", after := #[], guard := none }) (v := .slice (some ⟨gb, 0, none⟩) l.length c2) rfl (by kernel_rfl) (by kernel_rfl) (by kernel_rfl) (fun _ _ _ h => h) (Or.inl ⟨by rfl, fun w hSw => ?_⟩) (by assumption) ?_
  · (try dsimp only at hSw)
    go_simp
  try simp only [Act.put, List.setIfInBounds_toArray, List.set_cons_zero, List.set_cons_succ]
  refine wpAnyH_take (i := 11) (oi := { dst := some 57, op := Op.convert 22 9 (Operand.tmp 56), type := 9, pos := "fold.go:45", after := #[{ on := 10, ground := Ground.data }], guard := none }) (v := .string T) rfl (by kernel_rfl) (by kernel_rfl) (by kernel_rfl) (fun _ _ _ h => h) (Or.inl ⟨by rfl, fun w hSw => ?_⟩) (by assumption) ?_
  · (try dsimp only at hSw)
    go_simp
  try simp only [Act.put, List.setIfInBounds_toArray, List.set_cons_zero, List.set_cons_succ]
  refine wpAnyH_take (i := 12) (oi := { dst := some 58, op := Op.move (Operand.tmp 7), type := 30, pos := "fold.go:45", after := #[], guard := none }) (v := .int .i64 (e3 : Int)) rfl (by kernel_rfl) (by kernel_rfl) (by kernel_rfl) (fun _ _ _ h => h) (Or.inl ⟨by rfl, fun w hSw => ?_⟩) (by assumption) ?_
  · (try dsimp only at hSw)
    go_simp
  try simp only [Act.put, List.setIfInBounds_toArray, List.set_cons_zero, List.set_cons_succ]
  refine wpAnyH_take (i := 13) (oi := { dst := some 59, op := Op.build 61 #[(0, Operand.tmp 51), (1, Operand.tmp 55), (2, Operand.tmp 57), (3, Operand.tmp 58)], type := 61, pos := "fold.go:45", after := #[{ on := 5, ground := Ground.data }, { on := 9, ground := Ground.data }, { on := 11, ground := Ground.data }, { on := 12, ground := Ground.data }], guard := none }) (v := .agg #[.int .i64 (x + 1), .int .i64 (p + 1), .string T, .int .i64 (e3 : Int)]) rfl (by kernel_rfl) (by kernel_rfl) (by kernel_rfl) (fun _ _ _ h => h) (Or.inl ⟨by rfl, fun w hSw => ?_⟩) (by assumption) ?_
  · (try dsimp only at hSw)
    go_simp
  try simp only [Act.put, List.setIfInBounds_toArray, List.set_cons_zero, List.set_cons_succ]
  refine wpAnyH_take (i := 14) (oi := { dst := some 60, op := Op.nilCheck (Operand.tmp 46), type := 0, pos := "fold.go:45", after := #[{ on := 0, ground := Ground.data }], guard := none }) (v := .pointer (some ⟨g, 0, none⟩)) rfl (by kernel_rfl) (by kernel_rfl) (by kernel_rfl) (fun _ _ _ h => h) (Or.inl ⟨by rfl, fun w hSw => ?_⟩) (by assumption) ?_
  · (try dsimp only at hSw)
    go_simp
  try simp only [Act.put, List.setIfInBounds_toArray, List.set_cons_zero, List.set_cons_succ]
  refine wpAnyH_take (i := 15) (oi := { dst := some 61, op := Op.fieldAddr 64 (Operand.tmp 60) 2, type := 0, pos := "fold.go:45", after := #[{ on := 14, ground := Ground.data }], guard := none }) (v := .pointer (some ⟨g, 2, none⟩)) rfl (by kernel_rfl) (by kernel_rfl) (by kernel_rfl) (fun _ _ _ h => h) (Or.inl ⟨by rfl, fun w hSw => ?_⟩) (by assumption) ?_
  · (try dsimp only at hSw)
    go_simp
  try simp only [Act.put, List.setIfInBounds_toArray, List.set_cons_zero, List.set_cons_succ]
  refine wpAnyH_take (i := 16) (oi := { dst := some 62, op := Op.indexAddr 62 (Operand.tmp 61) (Operand.tmp 49), type := 0, pos := "fold.go:45", after := #[{ on := 15, ground := Ground.data }, { on := 3, ground := Ground.data }, { on := 0, ground := Ground.phase }, { on := 1, ground := Ground.phase }, { on := 2, ground := Ground.phase }, { on := 3, ground := Ground.phase }, { on := 4, ground := Ground.phase }, { on := 5, ground := Ground.phase }, { on := 6, ground := Ground.phase }, { on := 7, ground := Ground.phase }, { on := 8, ground := Ground.phase }, { on := 9, ground := Ground.phase }, { on := 10, ground := Ground.phase }, { on := 11, ground := Ground.phase }, { on := 12, ground := Ground.phase }, { on := 13, ground := Ground.phase }], guard := none }) (v := .pointer (some ⟨g, 2 + n * 4, none⟩)) rfl (by kernel_rfl) (by kernel_rfl) (by kernel_rfl) (fun _ _ _ h => h) (Or.inl ⟨by rfl, fun w hSw => ?_⟩) (by assumption) ?_
  · (try dsimp only at hSw)
    go_simp
  try simp only [Act.put, List.setIfInBounds_toArray, List.set_cons_zero, List.set_cons_succ]
  refine wpAnyH_ready (rs := [17]) (by kernel_rfl) (by simp) ?_
  refine AllReadyH.cons (o := { dst := none, op := Op.store 61 (Operand.tmp 62) (Operand.tmp 59), type := 0, pos := "fold.go:45", after := #[{ on := 16, ground := Ground.data }, { on := 13, ground := Ground.data }, { on := 0, ground := Ground.phase }, { on := 1, ground := Ground.phase }, { on := 2, ground := Ground.phase }, { on := 3, ground := Ground.phase }, { on := 4, ground := Ground.phase }, { on := 5, ground := Ground.phase }, { on := 6, ground := Ground.phase }, { on := 7, ground := Ground.phase }, { on := 8, ground := Ground.phase }, { on := 9, ground := Ground.phase }, { on := 10, ground := Ground.phase }, { on := 11, ground := Ground.phase }, { on := 12, ground := Ground.phase }, { on := 13, ground := Ground.phase }], guard := none }) rfl (fun K hK => ?_) AllReadyH.nil
  rw [if_pos (by rfl)]
  refine wp_store_mid 61 _ _ rfl g (2 + n * 4) #[.int .i64 (x + 1), .int .i64 (p + 1), .string T, .int .i64 (e3 : Int)] rfl rfl (Rb.there dfr (by rw [fcs_len]; simp; omega)) Try.infoLast (all_oneCell_toArray (cs := [.int .i64 (x + 1), .int .i64 (p + 1), .string T, .int .i64 (e3 : Int)]) (by simp [Value.oneCell'])) ?_
  obtain ⟨k7, hk9⟩ : ∃ WW, k6.setCells g (2 + n * 4) [.int .i64 (x + 1), .int .i64 (p + 1), .string T, .int .i64 (e3 : Int)] = WW := ⟨_, rfl⟩
  have dz7 : w.heap.size + 2 ≤ k7.heap.size := by rw [← hk9]; exact Nat.le_trans dz (below_sets (B := g) (w0 := k6) (g := g) (Nat.le_refl _) _ _ _ (Below.refl _ _)).size
  have dfr7 : Fr k7 g (p + 1) (.slice A5 m5 c5) (upd (fun c => laOf f (c + 1)) n ⟨x + 1, p + 1, T, (e3 : Int)⟩) := by
    rw [← hk9]
    have h := Rb.sets [.int .i64 (x + 1), .int .i64 (p + 1), .string T, .int .i64 (e3 : Int)] (2 + n * 4) _ _ dfr
    rw [show [.int .i64 (x + 1), .int .i64 (p + 1), .string T, .int .i64 (e3 : Int)] = laV ⟨x + 1, p + 1, T, (e3 : Int)⟩ from rfl, fcs_last _ _ _ _ _ hn] at h
    exact h
  have dr07 : Rb k7 w.heap.size 29 [.int .i64 ((n : Int) + 1), .int .i64 (x + 1), s] := by rw [← hk9]; exact Rb.others (by omega) _ _ _ dr0
  have dr17 : Rb k7 (w.heap.size + 1) 32 [.int .i64 0, .int .i64 0, .int .i64 0, .slice none 0 0, .int .i64 0] := by rw [← hk9]; exact Rb.others (by omega) _ _ _ dr1
  have ddo7 : OwnR B (.slice A5 m5 c5) d3 k7 := by rw [← hk9]; exact rb_owns row_ne_fold _ _ _ _ ddo dfr
  have dow7 : OwnB (w.heap.size + 2) (.slice (some ⟨gb, 0, none⟩) l.length c2) l k7 := by rw [← hk9]; exact rb_owns (by decide) _ _ _ _ dow dfr
  have dgr7 : w.grownBy k7 (some g) := by rw [← hk9]; exact grownBy_trans dgr (sets_grown _ _ _)
  show K _ (k6.setCells g (2 + n * 4) [.int .i64 (x + 1), .int .i64 (p + 1), .string T, .int .i64 (e3 : Int)])
  rw [hk9]
  clear hk9 dr0 dr1 dfr ddo dow dgr dz
  try dsimp only
  refine hK.out _ _ ?_ (fun hHeld => ?_)
  · exact ⟨dr07.cell rfl, dr07.cell rfl, Rb.cell dfr7 rfl, HCV.out _ (Byt.of_own (dow7.below (Below.refl _ _)))⟩
  clear hK K
  try simp only [Act.put, List.setIfInBounds_toArray, List.set_cons_zero, List.set_cons_succ]
  refine wpAnyH_done (by kernel_rfl) ?_ _
  refine NoPanic.normal ?_
  have hfd7 : Fd k7 B g (nextFo f ⟨(n : Int) + 1, x + 1, bo⟩) := by
    refine ⟨HGN.out, hBg, .slice A5 m5 c5, ?_, ?_⟩
    · rw [laOf_next rfl (by simp only; omega)]
      simp only
      rw [HL2.out, HT.out, HDA.out, hpp2.out]
      have e : (nextFo f ⟨(n : Int) + 1, x + 1, bo⟩).place = p + 1 := by unfold nextFo; simp only; rw [hpp2.out]
      rw [e]; exact dfr7
    · have e : (nextFo f ⟨(n : Int) + 1, x + 1, bo⟩).d = d3 := by unfold nextFo; simp only; rw [HDA.out]
      rw [e]; exact ddo7
  have HF7 := Lib.hid hfd7; clear hfd7
  have b0 := dr07.cell (j := 0) rfl
  have hlt7 := dr07.lt
  clear ddo7 dow7
  go_wp2_with fail
  refine (ftold_is B g (nextFo f ⟨(n : Int) + 1, x + 1, bo⟩) _ ⟨p + 1, ⟨(n : Int) + 1, x + 1, bo⟩, (e3 : Int)⟩ true _ HF7.out ?_ ?_).mono ?_
  · unfold nextFo upd rowOfB
    simp only
    rw [HDA.out, hpp2.out, if_pos trivial]
  · unfold nextFo upd
    simp only
    rw [if_pos trivial, decide_eq_true (by omega)]
  rintro e k8 ⟨s8, rfl, ho8, h8⟩
  obtain ⟨A8, c8, rfl, hv8⟩ := id ho8
  clear hv8
  have hfd8 := HF7.out.below h8
  replace dr17 := dr17.below h8
  have dgr8 : w.grownBy k8 (some g) := grown_then dgr7 (h8.mono dgr7.size)
  have HF8 := Lib.hid hfd8
  have HO8 := Lib.hid ho8
  have dz8 : w.heap.size + 2 ≤ k8.heap.size := Nat.le_trans dz7 h8.size
  clear h8 hfd8 ho8 dgr7 b0 hlt7 dr07 dfr7
  have r0 := dr17.cell (j := 0) rfl
  have r1 := dr17.cell (j := 1) rfl
  have r2 := dr17.cell (j := 2) rfl
  have r3 := dr17.cell (j := 3) rfl
  have r4 := dr17.cell (j := 4) rfl
  have f0 := dr17.frz 0
  have f1 := dr17.frz 1
  have f2 := dr17.frz 2
  have f3 := dr17.frz 3
  have f4 := dr17.frz 4
  have hlt := dr17.lt
  simp only
  go_wp2
  refine body_world7 (fun W => Rb W (w.heap.size + 1) 32 [.int .i64 (p + 1), .int .i64 ((n : Int) + 1), .int .i64 (x + 1), (.slice A8 bo.length c8), .int .i64 (e3 : Int)] ∧ Fd W B g (nextFo f ⟨(n : Int) + 1, x + 1, bo⟩) ∧ Ops W W.heap.size (.slice A8 bo.length c8) bo ∧ w.grownBy W (some g)) ⟨((((dr17.set 0 _).set 1 _).set 2 _).set 3 _).set 4 _, ?_, ?_, ?_⟩ ?_
  · exact fd_row HF8.out dr17 (by decide) (by omega) [.int .i64 (p + 1), .int .i64 ((n : Int) + 1), .int .i64 (x + 1), (.slice A8 bo.length c8), .int .i64 (e3 : Int)] 0
  · have h := ops_zrow (vs := [.int .i64 (p + 1), .int .i64 ((n : Int) + 1), .int .i64 (x + 1), (.slice A8 bo.length c8), .int .i64 (e3 : Int)]) HO8.out dr17
    exact Ops.more h (Nat.le_refl _)
  · exact sets_from dgr8 [.int .i64 (p + 1), .int .i64 ((n : Int) + 1), .int .i64 (x + 1), (.slice A8 bo.length c8), .int .i64 (e3 : Int)] 0 (by omega)
  rintro W ⟨h3, hF, hO, hbW⟩
  refine bodyPost_ret (v := .tuple #[.agg #[.int .i64 (p + 1), .int .i64 ((n : Int) + 1), .int .i64 (x + 1), (.slice A8 bo.length c8), .int .i64 (e3 : Int)], .bool true]) ?_ rfl ⟨_, rfl, ⟨(.slice A8 bo.length c8), ?_, hO⟩, hF, hbW⟩
  · exact results_ct (a := 4) (t := 5) Try.results9 rfl rfl (run_loadVar_mid W (w.heap.size + 1) 0 _ [.int .i64 (p + 1), .int .i64 ((n : Int) + 1), .int .i64 (x + 1), (.slice A8 bo.length c8), .int .i64 (e3 : Int)] _ h3.range Try.underlying32 rfl Try.infoRow7)
  · unfold rowOfB
    simp only
    rw [HDA.out, hpp2.out]
/-- what Next leaves, and its row: as the plain functions say, whether or not b comes next -/
def stepF (f : Fo) (b : Bat) : Fo := if nextB f b = true then nextFo f b else f
def rowF (f : Fo) (b : Bat) : Rw := if nextB f b = true then rowOfB f b else zRw
theorem fnext_is (B g Bo : Nat) (s : Value) (f : Fo) (b : Bat) (y : Bool) (w : World) (h : Fd w B g f) (hs : Ops w Bo s b.ops) (hBo : Bo ≤ w.heap.size) (hok : b.ok) (hp : f.place ≤ 1000000000000000) (hy : nextB f b = y) :
    Calls Try.prog 9 #[.pointer (some ⟨g, 0, none⟩), .agg #[.int .i64 b.client, .int .i64 b.seq, s]] w fun e w' => ∃ r, e = .returned (.tuple #[r, .bool y]) ∧ (RowV w' w'.heap.size r (rowF f b) ∧ Fd w' B g (stepF f b)) ∧ w.grownBy w' (some g) := by
  cases y with
  | true =>
    have e1 : rowF f b = rowOfB f b := by unfold rowF; rw [if_pos hy]
    have e2 : stepF f b = nextFo f b := by unfold stepF; rw [if_pos hy]
    rw [e1, e2]
    have hy2 := hy
    unfold nextB at hy2
    rw [Bool.and_eq_true, beq_iff_eq] at hy2
    obtain ⟨bc, bq, bo⟩ := b
    refine (fnext_c B g Bo s f bc bq bo w h hs hBo hy2.2 hok hy2.1 hp).mono ?_
    rintro e w' ⟨r, he, h1, h2, h3⟩
    exact ⟨r, he, ⟨h1, h2⟩, h3⟩
  | false =>
    have e1 : rowF f b = zRw := by unfold rowF; rw [if_neg (by rw [hy]; decide)]
    have e2 : stepF f b = f := by unfold stepF; rw [if_neg (by rw [hy]; decide)]
    rw [e1, e2]
    have hz : Calls Try.prog 9 #[.pointer (some ⟨g, 0, none⟩), .agg #[.int .i64 b.client, .int .i64 b.seq, s]] w fun e w' => e = .returned (.tuple #[.agg #[.int .i64 0, .int .i64 0, .int .i64 0, .slice none 0 0, .int .i64 0], .bool false]) ∧ Below w.heap.size w w' := by
      by_cases hq : b.seq = f.last b.client.toNat + 1
      · refine fnext_b B g Bo s f b w h hs hBo hq hok ?_
        cases hm : mayB b with
        | false => rfl
        | true => unfold nextB at hy; rw [hm, hq, beq_self_eq_true] at hy; cases hy
      · exact fnext_a B g Bo s f b w h hs hq ⟨hok.1, hok.2.1⟩
    refine hz.mono ?_
    rintro e w' ⟨rfl, hb⟩
    exact ⟨_, rfl, ⟨⟨.slice none 0 0, rfl, ⟨none, 0, rfl, Nat.le_refl _, fun h0 => absurd h0 (by decide)⟩⟩, h.below hb⟩, Below.by_ hb⟩
end Go.Proofs.Ytegkhkcnoahhdaa
