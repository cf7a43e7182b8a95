/-
  Package fold's New, last, Last and Place at a fold that is as it should be.
  There are no conditions beyond those that each lemma names.
-/
import Derived.Test.YtegkhkcnoahhdaaFBase
import Derived.Deep.MidRow
import Derived.Test.YtegkhkcnoahhdaaL5Begun
import Derived.Lib.ConvBytes
set_option linter.unusedSimpArgs false
set_option linter.unusedVariables false
namespace Go.Proofs.Ytegkhkcnoahhdaa
open Go.RowKit
set_option maxRecDepth 100000

theorem fcs_zero : fcs 0 (.slice none 0 0) (fun c => laOf fo0 (c + 1)) = [.int .i64 0, .slice none 0 0, .int .i64 0, .int .i64 0, .string ⟨#[]⟩, .int .i64 0, .int .i64 0, .int .i64 0, .string ⟨#[]⟩, .int .i64 0, .int .i64 0, .int .i64 0, .string ⟨#[]⟩, .int .i64 0, .int .i64 0, .int .i64 0, .string ⟨#[]⟩, .int .i64 0, .int .i64 0, .int .i64 0, .string ⟨#[]⟩, .int .i64 0] := rfl
theorem Try.infoLast : (Try.prog.info? 61).map (·.size) = some 4 := by kernel_rfl
theorem Try.infoFoldD : (Try.prog.info? 64).map (·.size) = some 22 := by kernel_rfl
theorem fnew_is (B : Nat) (w : World) (hB : B ≤ w.heap.size) : Calls Try.prog 14 #[] w fun e w' => e = .returned (.pointer (some ⟨w.heap.size, 0, none⟩)) ∧ Fd w' B w.heap.size fo0 ∧ Below w.heap.size w w' := by
  go_enter Try.func14, Try.ntmps14
  go_wp2
  go_ret
  refine ⟨rfl, ⟨foG_0, hB, .slice none 0 0, ?_, World.ownsRow_nil _ _ _ _⟩, below_one _ _⟩
  unfold Fr
  show Rb _ _ _ (fcs 0 (.slice none 0 0) (fun c => laOf fo0 (c + 1)))
  rw [fcs_zero]
  exact heap_alloc_new _ _
theorem fplace_is (B g : Nat) (f : Fo) (w : World) (h : Fd w B g f) : Calls Try.prog 12 #[.pointer (some ⟨g, 0, none⟩)] w fun e w' => e = .returned (.int .i64 f.place) ∧ w' = w := by
  obtain ⟨_, _, dv, hr, _⟩ := h
  have c0 : w.cell? ⟨g, 0, none⟩ = some (.int .i64 f.place) := Rb.cell hr rfl
  clear hr
  go_enter Try.func12, Try.ntmps12
  go_wp2
  go_ret
  exact ⟨rfl, rfl⟩
theorem fplace_nil (w : World) : Calls Try.prog 12 #[.pointer none] w fun e w' => e = .returned (.int .i64 0) ∧ w' = w := by
  go_enter Try.func12, Try.ntmps12
  go_wp2
  go_ret
  exact ⟨rfl, rfl⟩
/-- what last answers for client c -/
def lastC (las : Nat → La) (c : Int) : La := if 1 ≤ c ∧ c ≤ 5 then las (c - 1).toNat else zLa
theorem flast_in (g n : Nat) (p : Int) (dv : Value) (las : Nat → La) (w : World) (h : Fr w g p dv las) (hn : n < 5) (s pl er : Int) (t : ByteArray) (hl : las n = ⟨s, pl, t, er⟩) :
    Calls Try.prog 22 #[.pointer (some ⟨g, 0, none⟩), .int .i64 ((n : Int) + 1)] w fun e w' => e = .returned (.agg #[.int .i64 s, .int .i64 pl, .string t, .int .i64 er]) ∧ Below w.heap.size w w' := by
  have a0 : w.cell? ⟨g, 2 + n * 4, none⟩ = some (.int .i64 s) := h.at_ n 0 _ hn (by rw [hl]; rfl)
  have a1 : w.cell? ⟨g, 2 + n * 4 + 1, none⟩ = some (.int .i64 pl) := h.at_ n 1 _ hn (by rw [hl]; rfl)
  have a2 : w.cell? ⟨g, 2 + n * 4 + 2, none⟩ = some (.string t) := h.at_ n 2 _ hn (by rw [hl]; rfl)
  have a3 : w.cell? ⟨g, 2 + n * 4 + 3, none⟩ = some (.int .i64 er) := h.at_ n 3 _ hn (by rw [hl]; rfl)
  have hlt := h.lt
  clear h hl
  go_enter Try.func22, Try.ntmps22
  go_wp2
  refine bodyPost_ret (v := .agg #[.int .i64 s, .int .i64 pl, .string t, .int .i64 er]) (by simp [results, Try.results22, go_sem]) rfl ⟨rfl, BL9⟩
theorem flast_out (a : Option Addr) (c : Int) (w : World) (hc : a = none ∨ c < 1 ∨ 5 < c) :
    Calls Try.prog 22 #[.pointer a, .int .i64 c] w fun e w' => e = .returned (.agg #[.int .i64 0, .int .i64 0, .string ⟨#[]⟩, .int .i64 0]) ∧ Below w.heap.size w w' := by
  cases a with
  | none =>
    clear hc
    go_enter Try.func22, Try.ntmps22
    go_wp2
    refine bodyPost_ret (v := .agg #[.int .i64 0, .int .i64 0, .string ⟨#[]⟩, .int .i64 0]) (by simp [results, Try.results22, go_sem]) rfl ⟨rfl, BL9⟩
  | some a =>
    have hc2 : c < 1 ∨ 5 < c := by
      rcases hc with h | h
      · cases h
      · exact h
    clear hc
    by_cases h1 : c < 1
    · clear hc2
      go_enter Try.func22, Try.ntmps22
      go_wp2
      refine bodyPost_ret (v := .agg #[.int .i64 0, .int .i64 0, .string ⟨#[]⟩, .int .i64 0]) (by simp [results, Try.results22, go_sem]) rfl ⟨rfl, BL9⟩
    · have h5 : 5 < c := by omega
      clear hc2
      go_enter Try.func22, Try.ntmps22
      go_wp2
      refine bodyPost_ret (v := .agg #[.int .i64 0, .int .i64 0, .string ⟨#[]⟩, .int .i64 0]) (by simp [results, Try.results22, go_sem]) rfl ⟨rfl, BL9⟩
theorem flast_is (B g : Nat) (f : Fo) (c : Int) (s pl er : Int) (t : ByteArray) (w : World) (h : Fd w B g f) (hl : laOf f c.toNat = ⟨s, pl, t, er⟩) :
    Calls Try.prog 22 #[.pointer (some ⟨g, 0, none⟩), .int .i64 c] w fun e w' => e = .returned (.agg #[.int .i64 s, .int .i64 pl, .string t, .int .i64 er]) ∧ Below w.heap.size w w' := by
  by_cases hc : 1 ≤ c ∧ c ≤ 5
  · obtain ⟨_, _, dv, hr, _⟩ := h
    obtain ⟨n, hn, rfl⟩ : ∃ n : Nat, n < 5 ∧ c = (n : Int) + 1 := ⟨(c - 1).toNat, by omega, by omega⟩
    exact flast_in g n _ dv _ w hr hn s pl er t (by have : ((n : Int) + 1).toNat = n + 1 := by omega
                                                    rw [this] at hl; exact hl)
  · have h0 : laOf f c.toNat = zLa := laOf_no (h.good.out _ (by omega))
    rw [h0] at hl
    injection hl with e1 e2 e3 e4
    subst e1; subst e2; subst e3; subst e4
    exact flast_out _ c w (.inr (by omega))
theorem Try.fld_seq (a b c d : Value) (W : World) : (Instr.field 61 (.agg #[a, b, c, d]) 0).run Try.prog W = .ok a W := by kernel_rfl
theorem fLast_is (B g : Nat) (f : Fo) (c x : Int) (w : World) (h : Fd w B g f) (hx : f.last c.toNat = x) :
    Calls Try.prog 13 #[.pointer (some ⟨g, 0, none⟩), .int .i64 c] w fun e w' => e = .returned (.int .i64 x) ∧ Below w.heap.size w w' := by
  obtain ⟨⟨s, pl, t, er⟩, hl⟩ : ∃ l, laOf f c.toNat = l := ⟨_, rfl⟩
  have hs : s = x := by have := laOf_seq f c.toNat; rw [hl, hx] at this; exact this
  subst hs
  have HL := Lib.hid (fun W hW => flast_is B g f c s pl er t W (h.below hW) hl)
  clear h hl hx
  go_enter Try.func13, Try.ntmps13
  go_wp2_with fail
  refine (HL.out _ (Below.refl _ _)).mono ?_
  rintro e k1 ⟨rfl, hb⟩
  have hfl := Try.fld_seq
  go_wp2
  go_ret
  exact ⟨rfl, BB9 hb⟩
theorem fLast_nil (c : Int) (w : World) : Calls Try.prog 13 #[.pointer none, .int .i64 c] w fun e w' => e = .returned (.int .i64 0) ∧ Below w.heap.size w w' := by
  have HL := Lib.hid (flast_out none c w (.inl rfl))
  go_enter Try.func13, Try.ntmps13
  go_wp2_with fail
  refine HL.out.mono ?_
  rintro e k1 ⟨rfl, hb⟩
  have hfl := Try.fld_seq
  go_wp2
  go_ret
  exact ⟨rfl, BB9 hb⟩
end Go.Proofs.Ytegkhkcnoahhdaa
/-
  Package fold's Told: the row of a client's last batch, its operations in new memory.
  The fold is as it should be.
-/
namespace Go.Proofs.Ytegkhkcnoahhdaa
open Go.RowKit
set_option maxRecDepth 100000

theorem results_ct {P : Program} {fn : Func} {tmps : Array Value} {a t : Nat} {ta : TypeId} {pa : Addr} {va vt : Value} {w : World} (hf : fn.results = #[.cell a ta, .tmp t]) (ha : tmps[a]?.getD undef = .pointer (some pa)) (ht : tmps[t]?.getD undef = vt) (h1 : (loadVar ta pa).run P w = .ok va w) : (results fn tmps).run P w = .ok (.tuple #[va, vt]) w := by
  unfold results
  rw [hf]
  simp [ha, ht, h1, asAddr, Array.mapM_eq_mapM_toList, Sem.run_bind]
theorem BW9 {w k l : World} (hb : Below w.heap.size w k) (h : Below w.heap.size w l := by repeat' (first | with_reducible assumption | (with_reducible refine Below.alloc ?_ ?_ _) | (with_reducible refine Below.setCell ?_ ?_ _) | exact (by first | (simp; done) | (simp; omega) | omega))) : Below w.heap.size w l := h
theorem conv_text (W : World) (s : ByteArray) : ∃ c W', (convert 9 22 (.string s)).run Try.prog W = .ok (.slice (some ⟨W.heap.size, 0, none⟩) s.size c) W' ∧ Byt W' W'.heap.size (.slice (some ⟨W.heap.size, 0, none⟩) s.size c) s.data.toList ∧ Below W.heap.size W W' ∧ W'.heap.size = W.heap.size + 1 := by
  refine ⟨_, _, Go.Lib.run_convert_string_bytes W _ _ _ s Try.underlying9 Try.underlying22 Try.underlying5, ?_, ?_, Go.Lib.bytesWorld_size _ _ _⟩
  · refine ⟨_, _, by rw [size_list], ?_, fun _ => ⟨W.heap.size, 0, rfl, by rw [Go.Lib.bytesWorld_size]; omega, fun j hj => ?_⟩⟩
    · exact grownCap_ge _ _ _ _
    · have h := Go.Lib.bytesWorld_cell W 5 s j (by rw [← size_list]; exact hj)
      rw [Nat.zero_add, h]
      simp only [List.getD_eq_getElem?_getD, List.getElem?_eq_getElem hj, Option.getD_some]
  · exact ⟨rfl, rfl, rfl, by rw [Go.Lib.bytesWorld_size]; omega, fun k hk => Go.Lib.bytesWorld_at_old W _ s k hk⟩
set_option maxHeartbeats 1000000 in
theorem ftold_no (B g : Nat) (f : Fo) (c : Int) (w : World) (h : Fd w B g f) (hl : f.last c.toNat = 0) :
    Calls Try.prog 10 #[.pointer (some ⟨g, 0, none⟩), .int .i64 c] w fun e w' => e = .returned (.tuple #[.agg #[.int .i64 0, .int .i64 0, .int .i64 0, .slice none 0 0, .int .i64 0], .bool false]) ∧ Below w.heap.size w w' := by
  have HL := Lib.hid (fun W hW => flast_is B g f c 0 0 0 ⟨#[]⟩ W (h.below hW) (laOf_no hl))
  clear h hl
  go_enter Try.func10, Try.ntmps10
  go_wp2_with fail
  refine (HL.out _ (below_one w _)).mono ?_
  rintro e k1 ⟨rfl, h⟩
  have hb : Below w.heap.size w k1 := (below_one w _).trans (h.mono (by simp))
  have hr : Rb k1 w.heap.size 32 [.int .i64 0, .int .i64 0, .int .i64 0, .slice none 0 0, .int .i64 0] := (Rb.new w _ _).below h
  have r0 := hr.cell (j := 0) rfl
  have r1 := hr.cell (j := 1) rfl
  have r2 := hr.cell (j := 2) rfl
  have r3 := hr.cell (j := 3) rfl
  have r4 := hr.cell (j := 4) rfl
  have f0 := hr.frz 0
  have f1 := hr.frz 1
  have f2 := hr.frz 2
  have f3 := hr.frz 3
  have f4 := hr.frz 4
  have hlt := hr.lt
  have hfl := Try.fld_seq
  have HR := Lib.hid hr
  clear hr h
  go_wp2
  refine body_world7 (fun W => Rb W w.heap.size 32 [.int .i64 0, .int .i64 0, .int .i64 0, .slice none 0 0, .int .i64 0] ∧ Below w.heap.size w W) ⟨(((((HR.out.set 0 _).set 1 _).set 2 _).set 3 _).set 4 _).below (below_one _ _), (by repeat' (first | with_reducible exact hb | (with_reducible refine Below.alloc ?_ ?_ _) | (with_reducible refine Below.setCell ?_ ?_ _) | exact (by first | (simp; done) | (simp; omega) | omega)))⟩ ?_
  rintro W ⟨h3, hbW⟩
  refine bodyPost_ret (v := .tuple #[.agg #[.int .i64 0, .int .i64 0, .int .i64 0, .slice none 0 0, .int .i64 0], .bool false]) ?_ rfl ⟨rfl, hbW⟩
  exact results_ct (a := 4) (t := 5) Try.results10 rfl rfl (run_loadVar_mid W w.heap.size 0 _ [.int .i64 0, .int .i64 0, .int .i64 0, .slice none 0 0, .int .i64 0] _ h3.range Try.underlying32 rfl Try.infoRow7)
set_option maxHeartbeats 1000000 in
theorem ftold_yes (B g : Nat) (f : Fo) (c : Int) (w : World) (h : Fd w B g f) (hl : f.last c.toNat ≠ 0) :
    Calls Try.prog 10 #[.pointer (some ⟨g, 0, none⟩), .int .i64 c] w fun e w' => ∃ r, e = .returned (.tuple #[r, .bool true]) ∧ RowV w' w'.heap.size r (f.told c.toNat) ∧ Below w.heap.size w w' := by
  obtain ⟨hm, hok, hcl, hsq, _, _, _⟩ := h.good.yes _ hl
  have hnum := mayB_nums hm
  obtain ⟨⟨rp, ⟨bc, bq, bo⟩, re⟩, hrw⟩ : ∃ r, f.told c.toNat = r := ⟨_, rfl⟩
  obtain ⟨x, hx⟩ : ∃ x, f.last c.toNat = x := ⟨_, rfl⟩
  obtain ⟨t, ht⟩ : ∃ t : ByteArray, (⟨(bytesB (f.told c.toNat).b).toArray⟩ : ByteArray) = t := ⟨_, rfl⟩
  have HL := Lib.hid (fun W hW => flast_is B g f c x rp re t W (h.below hW) (by rw [laOf_yes hl, hx, hrw, ← ht, hrw]))
  have hdec := (okB_bytes _ hm hok).2
  rw [hrw] at hm hok hnum hdec ht ⊢
  simp only at hm hok hnum hdec ht ⊢
  have htl : t.data.toList = bytesB ⟨bc, bq, bo⟩ := by rw [← ht]
  have htn : t.data.toList.length ≤ 1000000 := by rw [htl]; omega
  rw [← htl] at hdec
  rw [hx] at hl
  have hx2 : ¬ x = 0 := hl
  have HD := Lib.hid (fun (W : World) (A : Option Addr) (n c B : Nat) (hby : Byt W B (.slice A n c) t.data.toList) (hB : B ≤ W.heap.size) => decode_to A n c B t.data.toList bc bq bo 0 W hby hB htn hdec)
  have HCV := Lib.hid (fun W => conv_text W t)
  clear h hrw hx ht htl htn hdec hcl hsq hm hok hnum
  go_enter Try.func10, Try.ntmps10
  go_wp2_with fail
  refine (HL.out _ (below_one w _)).mono ?_
  rintro e k1 ⟨rfl, h⟩
  have hb : Below w.heap.size w k1 := (below_one w _).trans (h.mono (by simp))
  have hr : Rb k1 w.heap.size 32 [.int .i64 0, .int .i64 0, .int .i64 0, .slice none 0 0, .int .i64 0] := (Rb.new w _ _).below h
  have hlt := hr.lt
  have hfl := Try.fld_seq
  have HR := Lib.hid hr
  clear h
  go_wp2_with fail
  obtain ⟨cv, k2, hcv, hby, hbk, hz2⟩ := HCV.out (k1.alloc (.cells #[.int .i64 x, .int .i64 rp, .string t, .int .i64 re] 61))
  rw [hcv]
  clear hcv
  go_wp2_with fail
  have hb1 : Below w.heap.size w (k1.alloc (.cells #[.int .i64 x, .int .i64 rp, .string t, .int .i64 re] 61)) := hb.alloc hb.size _
  have hz1 : k1.heap.size + 1 = (k1.alloc (.cells #[.int .i64 x, .int .i64 rp, .string t, .int .i64 re] 61)).heap.size := by simp
  have hbs := hb.size
  rw [← hz1] at hby hbk hz2
  have hb2 : Below w.heap.size w k2 := hb1.trans (hbk.mono (by omega))
  have hk12 : Below k1.heap.size k1 k2 := (below_one k1 _).trans (hbk.mono (by omega))
  replace hr := HR.out.below hk12
  have hlt2 := hr.lt
  refine (HD.out k2 _ _ _ _ hby (Nat.le_refl _)).mono ?_
  rintro e k3 ⟨A2, c2, rfl, hown, hb3⟩
  have hl1 : Rb k3 k1.heap.size 61 [.int .i64 x, .int .i64 rp, .string t, .int .i64 re] := ((Rb.new k1 _ _).below (by rw [← hz1]; exact hbk)).below hb3
  replace hr := hr.below hb3
  have l1 := hl1.cell (j := 1) rfl
  have l3 := hl1.cell (j := 3) rfl
  have hl1t := hl1.lt
  have hlt3 := hr.lt
  replace hb2 := hb2.trans (hb3.mono hb2.size)
  have r0 := hr.cell (j := 0) rfl
  have r1 := hr.cell (j := 1) rfl
  have r2 := hr.cell (j := 2) rfl
  have r3 := hr.cell (j := 3) rfl
  have r4 := hr.cell (j := 4) rfl
  have f0 := hr.frz 0
  have f1 := hr.frz 1
  have f2 := hr.frz 2
  have f3 := hr.frz 3
  have f4 := hr.frz 4
  have HO := Lib.hid hown
  clear hl1 hb3 hk12 hb1 hz1 hby hbk hown hb
  go_wp2
  refine body_world7 (fun W => Rb W w.heap.size 32 [.int .i64 rp, .int .i64 bc, .int .i64 bq, .slice A2 bo.length c2, .int .i64 re] ∧ Ops W W.heap.size (.slice A2 bo.length c2) bo ∧ Below w.heap.size w W) ⟨?_, ?_, ?_⟩ ?_
  · exact (((((hr.set 0 _).set 1 _).set 2 _).set 3 _).set 4 _).below (below_one _ _)
  · refine Ops.of_own (ownsRow_below (rb_owns (G := w.heap.size) (t := 32) (by decide) [.int .i64 rp, .int .i64 bc, .int .i64 bq, .slice A2 bo.length c2, .int .i64 re] 0 k3 _ HO.out hr) (below_one _ _))
  · exact BW9 hb2
  rintro W ⟨h3, hO, hbW⟩
  refine bodyPost_ret (v := .tuple #[.agg #[.int .i64 rp, .int .i64 bc, .int .i64 bq, .slice A2 bo.length c2, .int .i64 re], .bool true]) ?_ rfl ⟨_, rfl, ⟨_, rfl, hO⟩, hbW⟩
  exact results_ct (a := 4) (t := 5) Try.results10 rfl rfl (run_loadVar_mid W w.heap.size 0 _ [.int .i64 rp, .int .i64 bc, .int .i64 bq, .slice A2 bo.length c2, .int .i64 re] _ h3.range Try.underlying32 rfl Try.infoRow7)
/-- Told: the row of client c's last batch, and whether there is one -/
theorem ftold_is (B g : Nat) (f : Fo) (c : Int) (rw : Rw) (y : Bool) (w : World) (h : Fd w B g f) (hr : f.told c.toNat = rw) (hy : (decide (f.last c.toNat ≠ 0)) = y) :
    Calls Try.prog 10 #[.pointer (some ⟨g, 0, none⟩), .int .i64 c] w fun e w' => ∃ s, e = .returned (.tuple #[.agg #[.int .i64 rw.place, .int .i64 rw.b.client, .int .i64 rw.b.seq, s, .int .i64 rw.err], .bool y]) ∧ Ops w' w'.heap.size s rw.b.ops ∧ Below w.heap.size w w' := by
  subst hr; subst hy
  by_cases hl : f.last c.toNat = 0
  · refine (ftold_no B g f c w h hl).mono ?_
    rintro e w' ⟨rfl, hb⟩
    rw [h.good.no _ hl]
    exact ⟨.slice none 0 0, by simp [hl, zRw], ⟨none, 0, rfl, Nat.le_refl _, fun h0 => absurd h0 (by decide)⟩, hb⟩
  · refine (ftold_yes B g f c w h hl).mono ?_
    rintro e w' ⟨r, rfl, ⟨s, rfl, hO⟩, hb⟩
    exact ⟨s, by simp [hl], hO, hb⟩
theorem ftold_nil (c : Int) (w : World) : Calls Try.prog 10 #[.pointer none, .int .i64 c] w fun e w' => ∃ r, e = .returned (.tuple #[r, .bool false]) ∧ Below w.heap.size w w' := by
  have HL := Lib.hid (fun W => flast_out none c W (.inl rfl))
  go_enter Try.func10, Try.ntmps10
  go_wp2_with fail
  refine (HL.out _).mono ?_
  rintro e k1 ⟨rfl, h⟩
  have hb : Below w.heap.size w k1 := (below_one w _).trans (h.mono (by simp))
  have hr : Rb k1 w.heap.size 32 [.int .i64 0, .int .i64 0, .int .i64 0, .slice none 0 0, .int .i64 0] := (Rb.new w _ _).below h
  have r0 := hr.cell (j := 0) rfl
  have r1 := hr.cell (j := 1) rfl
  have r2 := hr.cell (j := 2) rfl
  have r3 := hr.cell (j := 3) rfl
  have r4 := hr.cell (j := 4) rfl
  have f0 := hr.frz 0
  have f1 := hr.frz 1
  have f2 := hr.frz 2
  have f3 := hr.frz 3
  have f4 := hr.frz 4
  have hlt := hr.lt
  have hfl := Try.fld_seq
  have HR := Lib.hid hr
  clear hr h
  go_wp2
  refine body_world7 (fun W => Rb W w.heap.size 32 [.int .i64 0, .int .i64 0, .int .i64 0, .slice none 0 0, .int .i64 0] ∧ Below w.heap.size w W) ⟨(((((HR.out.set 0 _).set 1 _).set 2 _).set 3 _).set 4 _).below (below_one _ _), BW9 hb⟩ ?_
  rintro W ⟨h3, hbW⟩
  refine bodyPost_ret (v := .tuple #[.agg #[.int .i64 0, .int .i64 0, .int .i64 0, .slice none 0 0, .int .i64 0], .bool false]) ?_ rfl ⟨_, rfl, hbW⟩
  exact results_ct (a := 4) (t := 5) Try.results10 rfl rfl (run_loadVar_mid W w.heap.size 0 _ [.int .i64 0, .int .i64 0, .int .i64 0, .slice none 0 0, .int .i64 0] _ h3.range Try.underlying32 rfl Try.infoRow7)
end Go.Proofs.Ytegkhkcnoahhdaa
