/-
  Written again and again, far beyond the size of a file, a state is still there, and lasts (KeepLaid).
  There are no conditions.
-/
import Derived.Test.YtmoaacaopphgbaaDoorRows
import Derived.Test.YtmoaacaopphgbaaDoorCards
import Derived.Test.YtmoaacaopphgbaaDoorTie
import Derived.Test.YtmoaacaopphgbaaDoorBun1
import Derived.Test.YtmoaacaopphgbaaDoorBun5
import Derived.Test.YtmoaacaopphgbaaDoorBun9
import Derived.SevenTiedAt
import Derived.WalkKit
import Derived.ProofKit
import Derived.OpenShut
import Derived.ShutString
namespace Go.Proofs.YtmoaacaopphgbaaDoor.keepLaid
open Go.ChangeShapes Go.WideShapes Go.ChangeAt Go.RowKit
open Go.ChangeMaps (open_string shut_string)
set_option linter.unusedVariables false

theorem own : ownKnob Tryd.prog.godebug = none := by kernel_rfl
def ldE (S : ByteArray) (t : Int) (j : Nat) : Ent := ⟨(j : Int) + 1, t, 2, S⟩
def ldL (S : ByteArray) (m : Nat) (t : Int) : List Ent := (List.range m).map (ldE S t)
theorem ldL_succ (S : ByteArray) (m : Nat) (t : Int) : ldL S (m + 1) t = ldL S m t ++ [⟨(m : Int) + 1, t, 2, S⟩] := by
  unfold ldL
  rw [List.range_succ, List.map_append]
  rfl
def ldK (S : ByteArray) (t : Nat) : Kst := if t = 0 then zKst else ⟨(t : Int), 0, zSnp, ldL S 30 t⟩
theorem ld_row (S : ByteArray) (t : Int) (hS : S.size ≤ 2500) (h1 : 1 ≤ t) (h2 : t ≤ 1000) : ∀ m, m ≤ 30 → row11 1 (ldL S m t) = true
  | 0, _ => rfl
  | m + 1, hm => by
    rw [ldL_succ, row11_snoc, ld_row S t hS h1 h2 m (by omega)]
    have hl : (ldL S m t).length = m := by simp [ldL]
    rw [hl]
    simp [mayEnt10]
    omega
theorem ld_write (S : ByteArray) (t : Nat) (hS : S.size ≤ 2500) (ht : t ≤ 60) : write11 (ldK S t) (ldL S 30 ((t : Int) + 1)) = (0, ⟨(ldK S t).ht, 0, zSnp, ldL S 30 ((t : Int) + 1)⟩) := by
  have hs : (ldK S t).s = zSnp := by unfold ldK; split <;> rfl
  have hv : (ldK S t).hv = 0 := by unfold ldK; split <;> rfl
  have hrw := ld_row S ((t : Int) + 1) hS (by omega) (by omega) 30 (Nat.le_refl _)
  have hlen : (ldL S 30 ((t : Int) + 1)).length = 30 := by simp [ldL]
  obtain ⟨e, l, he, hix⟩ : ∃ e l, ldL S 30 ((t : Int) + 1) = e :: l ∧ e.ix = 1 := ⟨_, _, rfl, rfl⟩
  rw [he] at hrw hlen ⊢
  have hll : l.length = 29 := by simpa using hlen
  unfold write11
  simp only [hix, hrw]
  have hff : fits11 (ldK S t) 1 = true := by unfold fits11 last11; rw [hs]; simp [zSnp]; omega
  rw [if_pos ⟨hff, trivial⟩, if_neg (by rw [hs, hll]; simp [zSnp])]
  refine congrArg _ ?_
  unfold put11
  rw [hs, hv]
  rfl
theorem ld_hard (S : ByteArray) (t : Nat) (ht : t ≤ 60) : hard11 ⟨(ldK S t).ht, 0, zSnp, ldL S 30 ((t : Int) + 1)⟩ ((t : Int) + 1) 0 = (0, ldK S (t + 1)) := by
  unfold hard11
  rw [if_pos (by simp [mayHard10]; omega)]
  unfold ldK
  rw [if_neg (Nat.succ_ne_zero t)]
  rfl
def mixL (S : ByteArray) (T t' : Int) (j : Nat) : List Ent := (List.range 30).map fun k => ldE S (if k < j then t' else T) k
theorem mix_zero (S : ByteArray) (T t' : Int) : mixL S T t' 0 = ldL S 30 T := by
  unfold mixL ldL
  exact List.map_congr_left fun k _ => by rw [if_neg (by omega)]
theorem mix_full (S : ByteArray) (T t' : Int) : mixL S T t' 30 = ldL S 30 t' := by
  unfold mixL ldL
  exact List.map_congr_left fun k hk => by rw [if_pos (by simpa using hk)]
theorem mix_next (S : ByteArray) (T t' : Int) (j : Nat) (hj : j < 30) {hml : j < (mixL S T t' j).length} : (mixL S T t' j).set j (((mixL S T t' j)[j]'hml).term t') = mixL S T t' (j + 1) := by
  apply List.ext_getElem
  · simp [mixL]
  · intro i h1 h2
    rw [List.getElem_set]
    by_cases h : j = i
    · subst h
      rw [if_pos rfl]
      simp [mixL, ldE, Ent.term]
    · rw [if_neg h]
      simp only [mixL, List.getElem_map, List.getElem_range]
      by_cases h3 : i < j
      · rw [if_pos h3, if_pos (by omega)]
      · rw [if_neg h3, if_neg (by omega)]

set_option maxRecDepth 100000 in
set_option maxHeartbeats 8000000 in
theorem walk (w : World) (a0 : Int) (w0 : (Lit.int .i64 a0).wf = true) (a1 : Int) (w1 : (Lit.int .i64 a1).wf = true) (hT : Tbl w) :
    Calls Tryd.prog 5 #[.int .i64 a0, .int .i64 a1] w fun e w' => e = .returned (.bool true) ∧ Below w.heap.size w w' := by
  have W0 := Lib.hid w0; have W1 := Lib.hid w1; clear w0 w1
  have HT0 := Lib.hid hT
  have HT := Lib.hid hT; clear hT
  go_enter Tryd.func5, Tryd.ntmps5
  go_wp2_with fail
  refine (begun11_any w HT.out).mono ?_
  rintro e w1 ⟨rfl, hb1⟩
  have HT1 := Lib.hid (tbl_keep HT.out hb1)
  have HB1 := Lib.hid hb1
  clear HT hb1
  go_wp2_with fail
  · go_ret
    exact ⟨rfl, HB1.out⟩
  · have hrg : 0 ≤ a0 ∧ a0 ≤ 60 ∧ 0 ≤ a1 ∧ a1 ≤ 2500 := by omega
    have hst : 0 < w1.heap.size := cell_lt (HT1.out 0 (by omega))
    have hst0 : 0 < w.heap.size := cell_lt (HT0.out 0 (by omega))
    obtain ⟨B, hBw⟩ : ∃ B, w.heap.size = B := ⟨_, rfl⟩
    have HBW := Lib.hid hBw
    have HZ : ∀ k, Below B w k → B ≤ k.heap.size := fun k h => by rw [← hBw]; exact h.size
    have HST := Lib.hid hst0
    have hnw := new_kd w1 (fun j => j < B) (fun j hj => by have := HB1.out.size; omega) (by omega) HT1.out
    obtain ⟨d, hd⟩ : ∃ d, w1.heap.size = d := ⟨_, rfl⟩
    have HN := Lib.hid hnw
    rw [hd] at HN
    clear hnw hst hst0
    go_wp2_with fail
    refine HN.out.mono ?_
    rintro e k1 ⟨rfl, hd1, hb1⟩
    have HB1' := HB1.out
    rw [hBw] at HB1'
    have hb1 := HB1'.trans (hb1.mono (by rw [← hd]; exact HZ _ HB1'))
    have HD1 := Lib.hid hd1
    have HB2 := Lib.hid hb1
    clear hd1 hb1 HB1' hd
    go_wp2_with fail
    refine (open_none_kk HD1.out).mono ?_
    rintro e k2 ⟨g, rfl, hk2, hs2⟩
    have hb2 := HB2.out.trans (hs2.below (HZ _ HB2.out) (fun j hj => hj))
    have HK3 := Lib.hid hk2
    have HB3 := Lib.hid hb2
    clear hk2 hs2 hb2 HD1 HB2 HN
    go_wp2_with fail
    obtain ⟨sz, rfl⟩ : ∃ n : Nat, a1 = (n : Int) := ⟨a1.toNat, by omega⟩
    obtain ⟨S, hS⟩ : ∃ S, (⟨(List.replicate sz (0 : UInt8)).toArray⟩ : ByteArray) = S := ⟨_, rfl⟩
    have hSs : S.size = sz := by rw [← hS]; show (List.replicate sz (0 : UInt8)).toArray.size = sz; simp
    have hsz : sz ≤ 2500 := by omega
    obtain ⟨q, hq⟩ : ∃ q, k2.heap.size = q := ⟨_, rfl⟩
    have HQ := Lib.hid hq
    have HS := Lib.hid hS
    have hqB : B ≤ q := by rw [← hq]; exact HZ _ HB3.out
    clear hS hq
    go_loopw [10, 9] (fun i v wr => ∃ (m : Nat) (v' : Value), i = .int .i64 ((m : Int) + 1) ∧ v = v' ∧ m ≤ 30 ∧ OwnEn q v' (ldL S m 1) wr ∧ Below q k2 wr) (fun i _ _ => 221 - (intOf i).toNat)
    case atStart => exact ⟨0, _, by simp, rfl, by omega, OwnEn.nil _ _, Below.refl _ _⟩
    case round =>
      obtain ⟨m, v, rfl, rfl, hm, hv, hb⟩ := hrel
      obtain ⟨A, c, rfl⟩ := hv.slice
      have HV := Lib.hid hv
      have HB4 := Lib.hid hb
      have hqw : q ≤ wr.heap.size := by rw [← HQ.out]; exact hb.size
      clear hv hb
      by_cases hlt : m < 30
      · have hki : (m : Int) + 1 ≤ 30 := by omega
        have hmk := make_zer10 sz (by omega) wr
        have hoz := own_zer10 sz (by omega) wr
        have hbz : Below wr.heap.size wr (wr.alloc (.cells (madeCells #[.int .u8 0] sz) 5)) := below_new _ _
        obtain ⟨Wz, hWz⟩ : ∃ Wz, wr.alloc (.cells (madeCells #[.int .u8 0] sz) 5) = Wz := ⟨_, rfl⟩
        rw [hWz] at hmk hoz hbz
        have hcv := conv_byt (Byt.of_own hoz) HS.out
        have hzz : Wz.heap.size = wr.heap.size + 1 := by rw [← hWz]; exact World.size_alloc _ _
        have hbe : Below Wz.heap.size Wz (Wz.alloc (.cells #[.int .i64 ((m : Int) + 1), .int .i64 1, .int .i64 2, .string S] 41)) := below_new _ _
        obtain ⟨We, hWe⟩ : ∃ We, Wz.alloc (.cells #[.int .i64 ((m : Int) + 1), .int .i64 1, .int .i64 2, .string S] 41) = We := ⟨_, rfl⟩
        rw [hWe] at hbe
        have hre2 : Rt We Wz.heap.size 41 [.int .i64 ((m : Int) + 1), .int .i64 1, .int .i64 2, .string S] := by rw [← hWe]; exact Rt.new _ _ _
        have hown := (HV.out.below hbz).below hbe
        have hzw : Wz.heap.size ≤ We.heap.size := hbe.size
        obtain ⟨v', w', hap, hov, _, hbw⟩ := run_append_En We q _ (ldL S m 1) [⟨(m : Int) + 1, 1, 2, S⟩] 22 ⟨Wz.heap.size, 0, none⟩ 1 1 hown (fun _ => True) (ens_one hre2 trivial) (by simp [ldL]; omega) (show q ≤ We.heap.size by omega)
        rw [hzz] at hap
        rw [← ldL_succ] at hov
        have HOV := Lib.hid hov
        have HB5 := Lib.hid (((HB4.out.trans (hbz.mono hqw)).trans (hbe.mono (by omega))).trans hbw)
        clear hoz hbz hbe hre2 hown hov hbw
        go_wp2_with (at_builtin; refine Lib.wpList_append_run _ rfl _ _ _ _ rfl _ _ rfl rfl _ _ hap ?_)
        go_roundw
        case rel => exact ⟨m + 1, v', by go_num, rfl, by omega, HOV.out, HB5.out⟩
        case measure => simp [intOf]; omega
      · have hm30 : m = 30 := by omega
        subst hm30
        have hK4 := HK3.out.others (show Below k2.heap.size k2 wr by rw [HQ.out]; exact HB4.out)
        obtain ⟨ga, rfl, hga, hgw, _, hcc⟩ := HV.out.addr (by simp [ldL])
        have hl30 : (ldL S 30 1).length = 30 := by simp [ldL]
        rw [hl30] at HV ⊢
        have hN : ∀ j, j < B → j < B ∨ (k2.heap.size ≤ j ∧ j < wr.heap.size) := fun j hj => .inl hj
        have hNg : ga < B ∨ (k2.heap.size ≤ ga ∧ ga < wr.heap.size) := .inr ⟨by rw [HQ.out]; exact hga, hgw⟩
        obtain ⟨N, hNN⟩ : ∃ N : Nat → Prop, (fun j => j < B ∨ (k2.heap.size ≤ j ∧ j < wr.heap.size)) = N := ⟨_, rfl⟩
        rw [hNN] at hK4
        have hN : ∀ j, j < B → N j := by rw [← hNN]; exact hN
        have hNg : N ga := by rw [← hNN]; exact hNg
        have HK4 := Lib.hid hK4
        have HB5 := Lib.hid (HB3.out.trans (HB4.out.mono (by omega)))
        clear hK4 hNN HK3 HB4
        go_wp2_with fail
        go_loopw [11] (fun i wr => ∃ (t : Nat) (x : Fk) (T : Int), i = .int .i64 (t : Int) ∧ (t : Int) ≤ a0 ∧ (t = 0 ∨ T = t) ∧ Fh x (ldK S t) (fun _ => True) ∧ KK N wr g d (ldK S t) x (4 * t) ∧ OwnEn q (.slice (some ⟨ga, 0, none⟩) 30 c) (ldL S 30 T) wr ∧ Below B w wr) (fun i _ => 221 - (intOf i).toNat)
        case atStart => exact ⟨0, none, 1, rfl, by omega, .inl rfl, Fh.zero _ trivial, HK4.out, HV.out, HB5.out⟩
        case round =>
          obtain ⟨t, x, T, rfl, ht, hT, hF, hk, hv, hb⟩ := hrel
          have HF := Lib.hid hF
          have HK5 := Lib.hid hk
          have HV5 := Lib.hid hv
          have HB6 := Lib.hid hb
          clear hF hk hv hb HK4 HV HB5
          by_cases hlt : (t : Int) < a0
          · have ht6 : t < 60 := by omega
            go_wp2_with fail
            go_loopw [12] (fun jv wr => ∃ j : Nat, jv = .int .i64 (j : Int) ∧ j ≤ 30 ∧ KK N wr g d (ldK S t) x (4 * t) ∧ OwnEn q (.slice (some ⟨ga, 0, none⟩) 30 c) (mixL S T ((t : Int) + 1) j) wr ∧ Below B w wr) (fun i _ => 221 - (intOf i).toNat)
            case atStart => exact ⟨0, rfl, by omega, HK5.out, by rw [mix_zero]; exact HV5.out, HB6.out⟩
            case round =>
              obtain ⟨j, rfl, hj, hk, hv, hb⟩ := hrel
              have HK6 := Lib.hid hk
              have HV6 := Lib.hid hv
              have HB7 := Lib.hid hb
              clear hk hv hb HK5 HV5 HB6
              by_cases hjl : j < 30
              · have hji : (j : Int) < 30 := by omega
                have hml : j < (mixL S T ((t : Int) + 1) j).length := by simp [mixL]; exact hjl
                have hst := HV6.out.set_term hml ((t : Int) + 1)
                rw [mix_next S T _ j hjl] at hst
                have hset := HK6.out.set (p := ⟨ga, j * 4 + 1, none⟩) (.int .i64 ((t : Int) + 1)) hNg (by intro e; have h9 := HST.out; rw [HBW.out] at h9; simp only at e; omega) rfl
                have hbs := HB7.out.setCell (p := ⟨ga, j * 4 + 1, none⟩) (Nat.le_trans hqB hga) (.int .i64 ((t : Int) + 1))
                have hcl := (HV6.out.cells).1 (j * 4 + 1) (by omega)
                have hfz := (HV6.out.cells).2 (j * 4 + 1)
                obtain ⟨v1, hv1⟩ := Option.isSome_iff_exists.1 hcl
                have HSE := Lib.hid hst
                have HKE := Lib.hid hset
                have HBE := Lib.hid hbs
                clear hst hset hbs hcl hml
                go_wp2_with fail
                go_roundw
                case rel => exact ⟨j + 1, by go_num, by omega, HKE.out, HSE.out, HBE.out⟩
                case measure => simp [intOf]; omega
              · have hj30 : j = 30 := by omega
                subst hj30
                have hv7 := HV6.out
                rw [mix_full] at hv7
                have hwr := ld_write S t (by rw [hSs]; omega) (by omega)
                have hhd := ld_hard S t (by omega)
                have hE7 : Ens N wr (.slice (some ⟨ga, 0, none⟩) 30 c) (ldL S 30 ((t : Int) + 1)) := (Ens.of_own hv7).mono fun j hj _ => by
                  have : ga = j := by injection hj
                  rw [← this]; exact hNg
                have hw7 := write_kk HK6.out (by omega) (some ⟨ga, 0, none⟩) 30 c (ldL S 30 ((t : Int) + 1)) hE7 (by simp [ldL]) (fun e he => by
                  obtain ⟨k, hk, rfl⟩ := List.mem_map.1 he
                  show S.size ≤ _; omega) (fun e he => by
                  obtain ⟨k, hk, rfl⟩ := List.mem_map.1 he
                  have := List.mem_range.1 hk
                  constructor <;> simp only [ldE] <;> omega) _ _ hwr
                have HF7 := Lib.hid (((HF.out.write hwr (by simp [ldL])).hard hhd).mono (Q := fun _ => True) fun _ _ => trivial)
                have HV7 := Lib.hid hv7
                have HW7 := Lib.hid hw7
                have HHD := Lib.hid hhd
                clear hv7 hE7 hw7 hwr hhd HK6 HV6
                go_wp2_with fail
                refine HW7.out.mono ?_
                rintro e w8 ⟨rfl, hk8, hs8⟩
                have HK8 := Lib.hid hk8
                have HV8 := Lib.hid (OwnEn.off HV7.out hs8 (fun j hj e => e (by
                  have : ga = j := by injection hj
                  rw [← this]; exact hNg)))
                have HB8 := Lib.hid (HB7.out.trans (hs8.below (HZ _ HB7.out) hN))
                clear hk8 hs8 HW7 HV7 HB7
                go_wp2_with fail
                refine (hard_kk HK8.out (by omega) _ _ _ _ HHD.out).mono ?_
                rintro e w9 ⟨rfl, hk9, hs9⟩
                have HK9 := Lib.hid hk9
                have HV9 := Lib.hid (OwnEn.off HV8.out hs9 (fun j hj e => e (by
                  have : ga = j := by injection hj
                  rw [← this]; exact hNg)))
                have HB9 := Lib.hid (HB8.out.trans (hs9.below (HZ _ HB8.out) hN))
                clear hk9 hs9 HK8 HV8 HB8 HHD
                go_wp2_with fail
                go_roundw
                case rel => exact ⟨t + 1, _, _, by go_num, by omega, .inr (by omega), HF7.out, HK9.out, HV9.out, HB9.out⟩
                case measure => simp [intOf]; omega
          · have hta : a0 = (t : Int) := by omega
            subst hta
            have ht6 : t ≤ 60 := by omega
            have HF6 := Lib.hid HF.out.sync
            go_wp2_with fail
            refine (sync_kk HK5.out (by omega)).mono ?_
            rintro e w6 ⟨rfl, hk6, hs6⟩
            have HK6 := Lib.hid hk6
            have HV6 := Lib.hid (OwnEn.off HV5.out hs6 (fun j hj e => e (by
              have : ga = j := by injection hj
              rw [← this]; exact hNg)))
            have HB7 := Lib.hid (HB6.out.trans (hs6.below (HZ _ HB6.out) hN))
            clear hk6 hs6 HK5 HV5 HB6
            go_wp2_with fail
            refine (crash_kk HK6.out 0 (by omega)).mono ?_
            rintro e w7 ⟨rfl, hd7, hb7⟩
            have HB8 := Lib.hid (HB7.out.trans (hb7.mono (HZ _ HB7.out)))
            have HD7 := Lib.hid hd7
            have HV7 := Lib.hid (HV6.out.below hb7)
            clear hd7 hb7 HV6
            go_wp2_with fail
            refine (open_crash_kk 0 HF6.out HD7.out (by omega)).mono ?_
            rintro e w8 ⟨g8, k', x', rfl, rfl, hF8, hk8, hs8⟩
            have HB9 := Lib.hid (HB8.out.trans (hs8.below (HZ _ HB8.out) hN))
            have HV8 := Lib.hid (OwnEn.off HV7.out hs8 (fun j hj e => e (by
              have : ga = j := by injection hj
              rw [← this]; exact hNg)))
            have HS8 := Lib.hid (state_kk hk8)
            clear hF8 hk8 hs8 HV7
            go_wp2_with fail
            refine HS8.out.mono ?_
            rintro e w9 ⟨v9, rfl, hv9, hb9⟩
            have HB10 := Lib.hid (HB9.out.trans (hb9.mono (HZ _ HB9.out)))
            have HV9 := Lib.hid (HV8.out.below hb9)
            clear HS8 hb9 HV8
            by_cases ht0 : t = 0
            · subst ht0
              obtain ⟨A9, c9, rfl⟩ := hv9.slice
              clear hv9
              go_wp2_with fail
              go_ret
              exact ⟨rfl, by rw [HBW.out]; exact HB10.out.trans ((below_new _ _).mono (HZ _ HB10.out))⟩
            · have hTt : T = t := by omega
              subst hTt
              have hlk : (ldK S t).log = ldL S 30 t := by unfold ldK; rw [if_neg ht0]
              have hhk : (ldK S t).ht = (t : Int) := by unfold ldK; rw [if_neg ht0]
              rw [hlk] at hv9
              obtain ⟨A9, c9, rfl⟩ := hv9.slice
              have hl9 : (ldL S 30 (t : Int)).length = 30 := by simp [ldL]
              rw [hl9] at hv9 ⊢
              have hq0 : ∀ W, Below w9.heap.size w9 W → Calls Tryd.prog 25 #[.slice A9 30 c9, .slice (some ⟨ga, 0, none⟩) 30 c] W (Bl true W) := fun W hW => by
                have h := reqEnts_any _ _ A9 (some ⟨ga, 0, none⟩) c9 c (ldL S 30 t) (ldL S 30 t) W (by rw [hl9]; exact (Ens.of_own hv9).below hW) (by rw [hl9]; exact (Ens.of_own HV9.out).below hW) (by rw [hl9]; omega)
                rw [hl9, eqEs11_self] at h
                exact h
              rw [hhk]
              have HQ0 := Lib.hid hq0
              clear hq0 hv9 hlk hhk hl9 HV9
              go_wp2_with fail
              refine (HQ0.out _ (below_new _ _)).mono ?_
              rintro e wa ⟨rfl, hba⟩
              have hbn := below_new w9 (.cells #[.int .i64 (t : Int), .int .i64 (ldK S t).hv, .int .i64 (ldK S t).s.ix, .int .i64 (ldK S t).s.st, .string (ldK S t).s.conf, .string (ldK S t).s.data, .slice A9 30 c9] 52)
              have HB11 := Lib.hid (HB10.out.trans ((hbn.trans (hba.mono hbn.size)).mono (HZ _ HB10.out)))
              clear hba hbn HQ0 hT
              go_wp2_with fail
              go_ret
              exact ⟨rfl, by rw [HBW.out]; exact HB11.out⟩
  all_goals
    go_ret
    exact ⟨rfl, HB1.out⟩

set_option maxRecDepth 100000 in
theorem lifted (os : Os) (started : os.Started) (H : Type) (enc : TypeId × Value → H) :
    ReturnsInHanded {} Tryd.checked os 5 .any (fun w args => (Rows.keepLaidSpec.pre enc Tryd.prog Tryd.f5 [] false w args ∧ laidMetH Tryd.prog laidS w) ∧ sizedMet enc Tryd.prog Tryd.f5 (OpenSpec.ofChange Rows.keepLaidSpec) false w args) (Rows.keepLaidSpec.post enc Tryd.prog Tryd.f5 false true false false) := by
  refine returnsInHanded_of_change_and (C := Tryd.checked) (X := fun w _ => laidMetH Tryd.prog laidS w) (fun _ _ _ hh h => h.of_heap hh) own started (by kernel_rfl) Tryd.func5
    (ChangeSpec.witness_at (enc := enc) (C := Tryd.checked) (os := os) (X := fun w _ => laidMetH Tryd.prog laidS w) false (laidWorld os) #[.int .i64 0, .int .i64 0] 8 rfl (by kernel_rfl) (by kernel_rfl) (by kernel_rfl) (by kernel_rfl) (by kernel_rfl) (laid_met os _)) ?_
  intro W base args ds gs before hval0 hW hcnd _ hL _
  have hT := tbl_of_laid hL
  have hval : ∀ (j : Nat) t v, Tryd.f5.params[j]? = some t → args[j]? = some v → Value.okWide Tryd.prog W .any base t v := hval0
  have hW' := hW
  obtain ⟨p, q, hA0, hV, rfl, hfz, hnd⟩ := hW
  have hA : DataW.TrodAll enc Tryd.prog W 0 (fun _ => true) true Tryd.f5.params.toList args.toList ds p := hA0
  have hA1 := hA
  rw [Tryd.params5] at hA hval
  obtain ⟨v0, vs0, d0, ds0, p0, q0, hargs, rfl, rfl, h0, r0⟩ := trodAll_cons hA
  obtain ⟨v1, vs1, d1, ds1, p1, q1, rfl, rfl, rfl, h1, r1⟩ := trodAll_cons r0
  obtain ⟨rfl, rfl, rfl⟩ := trodAll_nil r1
  obtain rfl : args = #[v0, v1] := by cases args; simp_all
  obtain ⟨rfl, rfl⟩ := trodVars_none hV
  obtain ⟨a0, rfl, rfl, rfl, w0⟩ := open_int Tryd.underlying3 (hval 0 3 v0 rfl rfl) h0
  obtain ⟨a1, rfl, rfl, rfl, w1⟩ := open_int Tryd.underlying3 (hval 1 3 v1 rfl rfl) h1
  clear hA0 hval0
  simp only [List.append_nil] at hW'
  try simp only [List.append_nil] at hA1
  refine (walk W a0 w0 a1 w1 hT).mono fun e W' ⟨he, hg⟩ => ?_
  subst he
  exact ⟨_, rfl, law_end Tryd.laidOut (by kernel_rfl) hW' hA1 hg rfl rfl rfl (trodAll_mk1 (shut_bool Tryd.underlying4 _))⟩

theorem over : Rows.keepLaidRow.holds Tryd.pinned (OpenSpec.ofChange Rows.keepLaidSpec) :=
  OpenClaim.holds_of_wide 5 Tryd.f5 rfl rfl rfl rfl rfl rfl rfl ⟨rfl, rfl, rfl, rfl, rfl⟩ rfl rfl rfl rfl rfl (by kernel_rfl) Tryd.func5 (by kernel_rfl)
    (of_decide_eq_true (by kernel_rfl)) (by unfold Func.isWrapper; first | (rw [if_pos (by decide +kernel)]; kernel_rfl) | (rw [if_neg (by decide +kernel)]; exact ⟨rfl, rfl⟩))
    (fun os started H enc _ => lifted os started H enc)


/-- the statement: the card, closed by the builder's one call -/
theorem proved : Rows.KeepLaidCardSaid :=
  Claim7.holds_tied_plain_at .later [] [.data] true Rows.keepLaidCard.stood.harness Rows.keepLaidCard.stood.looks
    over (fun _ h => by cases h) (by kernel_rfl) (fun _ h => by cases h) keepLaid_row_tie rfl ⟨rfl, rfl⟩ (by kernel_rfl) rfl
    (fun f fn hf hfn => by
      obtain rfl : f = 5 := Option.some.inj ((show Tryd.prog.funcNamed "packhorse/packhorselaw11.KeepLaid" = some 5 by kernel_rfl).symm.trans hf) |>.symm
      obtain rfl : fn = Tryd.f5 := (Option.some.inj (Tryd.func5.symm.trans hfn)).symm
      refine ⟨by kernel_rfl, fun j t ht => ?_⟩
      have h := List.all_eq_true.1 (show (Tryd.f5.params.toList.all fun t => !Tryd.prog.wantsStandIn t) = true by kernel_rfl) t (List.mem_of_getElem? (by simpa using ht))
      exact (show Tryd.prog.wantsStandIn t = false by simpa using h))
    (by kernel_rfl)
#print axioms proved
end Go.Proofs.YtmoaacaopphgbaaDoor.keepLaid
