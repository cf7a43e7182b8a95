/-
  The reference's Cut, Key, Less and Fold return what the plain functions say.
  The texts have at most 1,000,000 bytes.
-/
import Derived.Test.YtplogecejioolaaRunesRefRunes
namespace Go.Proofs.Ytplogecejioolaa
open Go.RowKit

theorem own_read {w : World} {B e n : Nat} {v : Value} {xs : List Value} (h : w.ownsRow B e 1 v n xs) :
    ∃ A c, v = .slice A n c ∧ (0 < n → ∃ g, A = some ⟨g, 0, Option.none⟩ ∧ g < w.heap.size ∧ ∀ k u, xs[k]? = some u → w.cell? ⟨g, k, Option.none⟩ = some u) := by
  have hc := fun (g : Nat) (hg : v.ownBlock = some g) => h.cells hg
  rcases h.2 with ⟨rfl, rfl⟩ | ⟨g, c, cur, rfl, _⟩
  · exact ⟨Option.none, 0, rfl, fun h => absurd h (by omega)⟩
  · refine ⟨_, c, rfl, fun _ => ⟨g, rfl, (h.lt g rfl).2, fun k u hu => ?_⟩⟩
    have h2 := hc g rfl k u hu
    have e1 : (⟨g, 0, Option.none⟩ : Addr).add k = ⟨g, k, Option.none⟩ := by unfold Addr.add; split <;> simp_all
    rw [e1] at h2; exact h2

theorem runeVals_at (R : List (Nat × Nat)) (k : Nat) (h : k < R.length) : (runeVals R)[k]? = some (.int .i32 (R[k].1 : Nat)) := by
  simp [runeVals, h]

theorem okr_none (R : List (Nat × Nat)) (h : R.all Ru.fine = false) : R.all Ru.okr = false := by
  obtain ⟨x, hx, hf⟩ := List.all_eq_false.1 h
  exact List.all_eq_false.2 ⟨x, hx, by rw [okr_bad x (by simpa using hf)]; simp⟩
set_option maxRecDepth 100000 in
set_option maxHeartbeats 4000000 in
theorem rkey_any (s : ByteArray) (w : World) (hs : s.size ≤ 1000000) : Calls Try.prog 22 #[.string s] w fun e w' => e = .returned (.bool (Ru.key s.data.toList)) ∧ Below w.heap.size w w' := by
  go_enter Try.func22, Try.ntmps22
  go_wp2_with fail
  refine (runes_any s _ hs).mono ?_
  rintro e w1 ⟨vl, va, rfl, hl, ha, hb⟩
  have hcn : Ru.cnt s.data.toList = (Ru.rns s.data.toList).length := rfl
  have hk : Ru.key s.data.toList = (decide (1 ≤ (Ru.rns s.data.toList).length) && decide ((Ru.rns s.data.toList).length ≤ 40) && (Ru.rns s.data.toList).all Ru.okr) := rfl
  have hv : Ru.vld s.data.toList = (Ru.rns s.data.toList).all Ru.fine := rfl
  obtain ⟨R, hR⟩ : ∃ R, Ru.rns s.data.toList = R := ⟨_, rfl⟩
  rw [hcn, hR] at hl
  rw [hR] at hk hv
  obtain ⟨A, c, rfl, hA⟩ := own_read hl
  clear hl ha hcn hR
  have HK := Lib.hid hk; clear hk
  have HV := Lib.hid hv; clear hv
  generalize Ru.vld s.data.toList = good at *
  by_cases h0 : R.length < 1
  · clear hA
    go_wp2
    go_ret
    refine ⟨ret_bool ?_, hb⟩
    rw [HK.out, decide_eq_false (by omega)]; rfl
  · obtain ⟨g, rfl, hgl, hcell⟩ := hA (by omega)
    clear hA
    by_cases h40 : 40 < R.length
    · clear hcell
      go_wp2
      go_ret
      refine ⟨ret_bool ?_, hb⟩
      rw [HK.out, decide_eq_false (show ¬ R.length ≤ 40 by omega), Bool.and_false]; rfl
    · cases good
      · clear hcell
        go_wp2
        go_ret
        refine ⟨ret_bool ?_, hb⟩
        rw [HK.out, okr_none _ HV.out.symm, Bool.and_false]
      · go_wp2
        go_loop [6] (fun v => ∃ k : Nat, v = .int .i64 k ∧ k ≤ R.length ∧ (R.take k).all Ru.okr = true) (fun v => R.length - (intOf v).toNat)
        case atStart => exact ⟨0, rfl, Nat.zero_le _, rfl⟩
        case round =>
          obtain ⟨k, rfl, hkl, hok⟩ := hrel
          have HO := Lib.hid hok; clear hok
          by_cases hlt : k < R.length
          · have hc := hcell k _ (runeVals_at R k hlt)
            have hf : Ru.fine R[k] = true := List.all_eq_true.1 HV.out.symm _ (List.getElem_mem hlt)
            have HF := Lib.hid hf; clear hf
            clear hcell
            generalize hx : R[k] = x at *
            have HX := Lib.hid hx; clear hx
            have hbad : Ru.okr x = false → Ru.key s.data.toList = false := fun hb => by
              rw [HK.out, List.all_eq_false.2 ⟨x, by rw [← HX.out]; exact List.getElem_mem hlt, by rw [hb]; simp⟩, Bool.and_false]
            have HB := Lib.hid hbad; clear hbad
            by_cases h32 : x.1 < 32
            · go_wp2
              go_ret
              exact ⟨ret_bool (HB.out (okr_low x h32)).symm, hb⟩
            · by_cases h127 : x.1 = 127
              · have h2 : ((x.1 : Int) == 127) = true := by rw [h127]; rfl
                have H1 := Lib.hid h127; clear h127
                go_wp2
                go_ret
                exact ⟨ret_bool (HB.out (okr_del x H1.out)).symm, hb⟩
              · have h2 : ((x.1 : Int) == 127) = false := by rw [beq_eq_false_iff_ne]; omega
                have H1 := Lib.hid h127; clear h127
                have H3 := Lib.hid h32
                go_wp2
                go_round
                case rel =>
                  refine ⟨k + 1, by go_num, by omega, ?_⟩
                  rw [List.take_succ_eq_append_getElem hlt, List.all_append, HO.out, HX.out]
                  simp [okr_ok x HF.out H3.out H1.out]
                case measure => simp [intOf]; omega
          · go_wp2
            go_ret
            obtain rfl : k = R.length := by omega
            refine ⟨ret_bool ?_, hb⟩
            have := HO.out
            rw [List.take_length] at this
            rw [HK.out, this, decide_eq_true (by omega), decide_eq_true (by omega)]; rfl

/-! ### Cut -/
theorem atVals_at (R : List (Nat × Nat)) (k : Nat) (h : k < R.length) : (atVals R)[k]? = some (.int .i64 (Ru.wsum (R.take k) : Nat)) := by
  have key : ∀ (R : List (Nat × Nat)) (p k : Nat), k < R.length → (ats p R)[k]? = some (p + Ru.wsum (R.take k)) := by
    intro R; induction R with
    | nil => intro p k h; simp at h
    | cons x R ih =>
      intro p k h
      cases k with
      | zero => simp [ats]
      | succ k => simp only [ats, List.getElem?_cons_succ, List.take_succ_cons, Ru.wsum_cons]; rw [ih _ k (by simpa using h), Nat.add_assoc]
  unfold atVals; rw [List.getElem?_map, key R 0 k h]; simp

set_option maxRecDepth 100000 in
set_option maxHeartbeats 4000000 in
theorem rcut_any (s : ByteArray) (n : Int) (w : World) (hs : s.size ≤ 1000000) (hn1 : -9223372036854775808 ≤ n) (hn2 : n ≤ 9223372036854775807) :
    Calls Try.prog 20 #[.string s, .int .i64 n] w (Str (cutB s n) w) := by
  go_enter Try.func20, Try.ntmps20
  go_wp2_with fail
  refine (runes_any s _ hs).mono ?_
  rintro e w1 ⟨vl, va, rfl, hl, ha, hb⟩
  have hcn : Ru.cnt s.data.toList = (Ru.rns s.data.toList).length := rfl
  have hlen := Ru.rns_len s.data.toList
  have hsl : s.data.toList.length = s.size := by rw [Array.length_toList]; rfl
  rw [hsl] at hlen
  obtain ⟨R, hR⟩ : ∃ R, Ru.rns s.data.toList = R := ⟨_, rfl⟩
  rw [hcn, hR] at ha
  rw [hR] at hlen
  have hcut : ∀ k, Ru.cutP k s.data.toList = Ru.wsum (R.take k) := fun k => by unfold Ru.cutP; rw [hR]
  have hall : Ru.wsum R = s.size := by rw [← hR, Ru.wsum_rns, hsl]
  have HC := Lib.hid hcut; clear hcut
  have HA := Lib.hid hall; clear hall
  obtain ⟨A, c, rfl, hA⟩ := own_read ha
  clear hl ha hcn hR hsl
  by_cases h1 : n < 1
  · clear hA
    go_wp2
    go_ret
    refine str_ret ?_ hb
    unfold cutB; rw [show n.toNat = 0 by omega, Ru.cutP_zero]; simp; rfl
  · obtain ⟨k, rfl⟩ := Int.eq_ofNat_of_zero_le (show 0 ≤ n by omega)
    by_cases h2 : R.length ≤ k
    · clear hA
      go_wp2
      go_ret
      refine str_ret ?_ hb
      unfold cutB; rw [Int.toNat_natCast, HC.out, List.take_of_length_le h2, HA.out, ByteArray.extract_zero_size]
    · obtain ⟨g, rfl, hgl, hcell⟩ := hA (by omega)
      clear hA
      have hc := hcell k _ (atVals_at R k (by omega))
      clear hcell
      have hle : Ru.wsum (R.take k) ≤ s.size := by
        have e : R = R.take k ++ R.drop k := (List.take_append_drop _ _).symm
        have := HA.out; rw [e, Ru.wsum_append] at this; omega
      have hcut2 := HC.out k
      have HC2 := Lib.hid hcut2; clear hcut2 HC
      generalize Ru.wsum (R.take k) = p at *
      go_wp2
      go_ret
      refine str_ret ?_ hb
      unfold cutB; rw [Int.toNat_natCast, HC2.out]

/-! ### Less -/
theorem cmp_drop (P Q : List Nat) (t : Bool) (k : Nat) (h1 : k < P.length) (h2 : k < Q.length) : Ru.cmpR (P.drop k) (Q.drop k) t = if P[k] = Q[k] then Ru.cmpR (P.drop (k + 1)) (Q.drop (k + 1)) t else decide (P[k] < Q[k]) := by
  rw [List.drop_eq_getElem_cons h1, List.drop_eq_getElem_cons h2]; rfl
theorem runeVals_runs (R : List (Nat × Nat)) (k : Nat) (h : k < (R.map (·.1)).length) : (runeVals R)[k]? = some (.int .i32 ((R.map (·.1))[k] : Nat)) := by
  rw [List.length_map] at h
  rw [runeVals_at R k h]; simp

set_option maxRecDepth 100000 in
set_option maxHeartbeats 4000000 in
theorem rless_any (a b : ByteArray) (w : World) (ha : a.size ≤ 1000000) (hb : b.size ≤ 1000000) :
    Calls Try.prog 30 #[.string a, .string b] w fun e w' => e = .returned (.bool (lesB a b)) ∧ Below w.heap.size w w' := by
  go_enter Try.func30, Try.ntmps30
  go_wp2_with fail
  refine (runes_any a _ ha).mono ?_
  rintro e w1 ⟨vl, va, rfl, hl, hq, hb1⟩
  clear hq
  go_wp2_with fail
  refine (runes_any b _ hb).mono ?_
  rintro e w2 ⟨vm, vc, rfl, hm, hq, hb2⟩
  clear hq
  have hcl : Ru.cnt a.data.toList = (runs a).length := by unfold runs Ru.runs; rw [List.length_map]; rfl
  have hcm : Ru.cnt b.data.toList = (runs b).length := by unfold runs Ru.runs; rw [List.length_map]; rfl
  have hll := Ru.rns_len a.data.toList
  have hml := Ru.rns_len b.data.toList
  rw [Array.length_toList] at hll hml
  have hl1 : (runs a).length ≤ 1000000 := by rw [← hcl]; exact Nat.le_trans hll ha
  have hm1 : (runs b).length ≤ 1000000 := by rw [← hcm]; exact Nat.le_trans hml hb
  rw [hcl] at hl
  rw [hcm] at hm
  obtain ⟨A, c, rfl, hA⟩ := own_read hl
  obtain ⟨M, d, rfl, hM⟩ := own_read hm
  have hval : ∀ k (h : k < (runs a).length), (runeVals (Ru.rns a.data.toList))[k]? = some (.int .i32 ((runs a)[k] : Nat)) := fun k h => runeVals_runs _ k h
  have hvbl : ∀ k (h : k < (runs b).length), (runeVals (Ru.rns b.data.toList))[k]? = some (.int .i32 ((runs b)[k] : Nat)) := fun k h => runeVals_runs _ k h
  have hles : lesB a b = Ru.cmpR (runs a) (runs b) (Op.bytesLess a.toList b.toList) := by rw [ByteArray.toList_eq, ByteArray.toList_eq]; rfl
  have HL := Lib.hid hles; clear hles
  clear hl hm hcl hcm hll hml
  have hbw := hb1.trans (hb2.mono hb1.size)
  generalize runs a = P at *
  generalize runs b = Q at *
  have HV := Lib.hid hval; clear hval
  have HW := Lib.hid hvbl; clear hvbl
  have HA := Lib.hid hA; clear hA
  have HM := Lib.hid hM; clear hM
  have h12 := hb2.size
  go_wp2
  go_loopw [11] (fun v wr => ∃ k : Nat, v = .int .i64 k ∧ k ≤ P.length ∧ k ≤ Q.length ∧ Below w2.heap.size w2 wr ∧ Ru.cmpR (P.drop k) (Q.drop k) (Op.bytesLess a.toList b.toList) = lesB a b) (fun v _ => P.length - (intOf v).toNat)
  case atStart => exact ⟨0, rfl, Nat.zero_le _, Nat.zero_le _, Below.refl _ _, HL.out.symm⟩
  case round =>
    obtain ⟨k, rfl, hkp, hkq, hwr, hcm⟩ := hrel
    have HC := Lib.hid hcm; clear hcm
    by_cases h1 : k < P.length
    · by_cases h2 : k < Q.length
      · obtain ⟨g, rfl, hg, hcell⟩ := HA.out (by omega)
        obtain ⟨g', rfl, hg', hcell'⟩ := HM.out (by omega)
        have hc1 := hcell k _ (HV.out k h1)
        have hc2 := hcell' k _ (HW.out k h2)
        have c1 := (hwr.cell (p := ⟨g, k, none⟩) (by show g < _; omega)).trans ((hb2.cell (p := ⟨g, k, none⟩) hg).trans hc1)
        have c2 := (hwr.cell (p := ⟨g', k, none⟩) hg').trans hc2
        clear hcell hcell' hc1 hc2 HA HM
        have hcd := cmp_drop P Q (Op.bytesLess a.toList b.toList) k h1 h2
        have HD := Lib.hid hcd; clear hcd
        clear HV HW
        generalize hx : P[k] = x at *
        generalize hy : Q[k] = y at *
        have HX := Lib.hid hx; clear hx
        have HY := Lib.hid hy; clear hy
        by_cases he : x = y
        · have hne := neq_not he
          have HE := Lib.hid he; clear he
          go_wp2_with fail
          go_quiet (fail)
          go_wp2
          go_roundw
          case rel =>
            refine ⟨k + 1, by go_num, by omega, by omega, below_drewN hwr _, ?_⟩
            rw [← HC.out, HD.out, if_pos HE.out]
          case measure => simp [intOf]; omega
        · have hne := neq_of he
          have HE := Lib.hid he; clear he
          go_wp2_with fail
          go_quiet (fail)
          go_wp2_with fail
          go_quiet (fail)
          go_wp2
          go_ret
          refine ⟨ret_bool ?_, hbw.trans ((below_drewN (below_drewN hwr _) _).mono hbw.size)⟩
          rw [← HC.out, HD.out, if_neg HE.out]
      · go_wp2
        go_ret
        refine ⟨ret_bool ?_, hbw.trans (hwr.mono hbw.size)⟩
        rw [← HC.out, List.drop_of_length_le (show Q.length ≤ k by omega), cmp_end _ _ (by intro e; have := congrArg List.length e; simp at this; omega)]
        simp; omega
    · by_cases h2 : k < Q.length
      · go_wp2
        go_ret
        refine ⟨ret_bool ?_, hbw.trans (hwr.mono hbw.size)⟩
        rw [← HC.out, List.drop_of_length_le (show P.length ≤ k by omega), cmp_nil _ _ (by intro e; have := congrArg List.length e; simp at this; omega)]
        simp; omega
      · have hpq : P.length = Q.length := by omega
        have hnn := neq_not hpq
        have HPQ := Lib.hid hpq; clear hpq
        go_wp2
        go_ret
        refine ⟨ret_bool ?_, hbw.trans (hwr.mono hbw.size)⟩
        rw [← HC.out, List.drop_of_length_le (show P.length ≤ k by omega), List.drop_of_length_le (show Q.length ≤ k by omega)]; rfl

/-! ### Fold -/
theorem fld_drop (R : List (Nat × Nat)) (k : Nat) (h : k < R.length) : Ru.encs ((R.drop k).map fun x => Ru.low x.1) = Ru.enc (Ru.low R[k].1) ++ Ru.encs ((R.drop (k + 1)).map fun x => Ru.low x.1) := by
  rw [List.drop_eq_getElem_cons h]; rfl
set_option maxRecDepth 100000 in
set_option maxHeartbeats 4000000 in
theorem rfold_any (s : ByteArray) (w : World) (hs : s.size ≤ 1000000) : Calls Try.prog 24 #[.string s] w (Str (foldB s) w) := by
  go_enter Try.func24, Try.ntmps24
  go_wp2_with fail
  refine (runes_any s _ hs).mono ?_
  rintro e w1 ⟨vl, va, rfl, hl, hq, hb1⟩
  clear hq
  have hcl : Ru.cnt s.data.toList = (Ru.rns s.data.toList).length := rfl
  have hll := Ru.rns_len s.data.toList
  rw [Array.length_toList] at hll
  have hfl : Ru.fld s.data.toList = Ru.encs ((Ru.rns s.data.toList).map fun x => Ru.low x.1) := rfl
  have hvl := Ru.rns_valid s.data.toList
  obtain ⟨R, hR⟩ : ∃ R, Ru.rns s.data.toList = R := ⟨_, rfl⟩
  rw [hcl, hR] at hl
  rw [hR] at hll hfl hvl
  have hl1 : R.length ≤ 1000000 := Nat.le_trans hll hs
  obtain ⟨A, c, rfl, hA⟩ := own_read hl
  clear hl hcl hll hR
  have HA := Lib.hid hA; clear hA
  have HF := Lib.hid hfl; clear hfl
  have HV := Lib.hid hvl; clear hvl
  go_wp2
  go_loopw [6, 7] (fun o v wr => ∃ (k : Nat) (acc : List UInt8), v = .int .i64 k ∧ o = .string ⟨acc.toArray⟩ ∧ k ≤ R.length ∧ Below w1.heap.size w1 wr ∧ acc.length ≤ 4 * k ∧ acc ++ Ru.encs ((R.drop k).map fun x => Ru.low x.1) = Ru.fld s.data.toList) (fun _ v _ => R.length - (intOf v).toNat)
  case atStart => exact ⟨0, [], rfl, rfl, Nat.zero_le _, Below.refl _ _, Nat.le_refl _, by rw [List.drop_zero, List.nil_append]; exact HF.out.symm⟩
  case round =>
    obtain ⟨k, acc, rfl, rfl, hkp, hwr, hal, hacc⟩ := hrel
    have HC := Lib.hid hacc; clear hacc
    by_cases h1 : k < R.length
    · obtain ⟨g, rfl, hg, hcell⟩ := HA.out (by omega)
      have hc1 := hcell k _ (runeVals_at R k h1)
      have c1 := (hwr.cell (p := ⟨g, k, none⟩) hg).trans hc1
      clear hcell hc1 HA
      have hfd := fld_drop R k h1
      have HD := Lib.hid hfd; clear hfd
      have hv1 := HV.out _ (List.getElem_mem h1)
      clear HV HF
      generalize hx : R[k] = x at *
      have HX := Lib.hid hx; clear hx
      have hlo : -2147483648 ≤ (x.1 : Int) := by omega
      have hhi : (x.1 : Int) ≤ 2147483647 := by omega
      go_wp2_with (go_at_call 28; refine (rlower_any _ _ hlo hhi).mono ?_; rintro e w' ⟨rfl, rfl⟩)
      have hel : (Lib.encodeRune (lowZ (x.1 : Int))).length ≤ 4 := by have := (Lib.runeCells_le (lowZ (x.1 : Int))).2; rw [Lib.runeCells_length] at this; exact this
      go_wp2_with (go_at_call 26; refine (rencode_any _ _).mono ?_; rintro e w3 ⟨rfl, hb3⟩)
      go_roundw
      case rel =>
        refine ⟨k + 1, acc ++ Lib.encodeRune (lowZ (x.1 : Int)), by go_num, ?_, by omega, hwr.trans (hb3.mono hwr.size), ?_, ?_⟩
        · congr 1
        · rw [List.length_append]; omega
        · rw [← HC.out, HD.out, low_cast, List.append_assoc]; rfl
      case measure => simp [intOf]; omega
    · go_wp2
      go_ret
      have := HC.out
      rw [List.drop_of_length_le (show R.length ≤ k by omega), List.map_nil] at this
      refine str_ret ?_ (hb1.trans (hwr.mono hb1.size))
      unfold foldB; rw [← this]; simp [Ru.encs]
end Go.Proofs.Ytplogecejioolaa
