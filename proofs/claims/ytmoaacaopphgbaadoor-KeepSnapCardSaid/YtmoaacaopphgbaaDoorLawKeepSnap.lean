/-
  A snapshot takes the entries up to it; those behind it stay just if it is of this log (KeepSnap).
  There are no conditions.
-/
import Derived.Test.YtmoaacaopphgbaaDoorRows
import Derived.Test.YtmoaacaopphgbaaDoorCards
import Derived.Test.YtmoaacaopphgbaaDoorTie
import Derived.Test.YtmoaacaopphgbaaDoorBun1
import Derived.SevenTiedAt
import Derived.Test.YtmoaacaopphgbaaDoorBun5
import Derived.WalkKit
import Derived.ProofKit
import Derived.OpenShut
import Derived.ShutString
namespace Go.Proofs.YtmoaacaopphgbaaDoor.keepSnap
open Go.ChangeShapes Go.WideShapes Go.ChangeAt Go.RowKit
open Go.ChangeMaps (open_string shut_string)
set_option linter.unusedVariables false

theorem own : ownKnob Tryd.prog.godebug = none := by kernel_rfl
def snE (j : Nat) : Ent := ⟨(j : Int) + 1, 1 + (((j + 1) / 8 : Nat) : Int), 1, ByteArray.empty⟩
def snK (m : Nat) : Kst := ⟨0, 0, zSnp, (List.range m).map snE⟩
theorem sn_write (m : Nat) (hm : m < 20) : write11 (snK m) [⟨(m : Int) + 1, 1 + (((m + 1) / 8 : Nat) : Int), 1, ByteArray.empty⟩] = (0, snK (m + 1)) := by
  have hlq : (snK m).log.length = m := by simp [snK]
  have hl : last11 (snK m) = (m : Int) := by simp [last11, snK, zSnp]
  have hrw : row11 ((m : Int) + 1) [(⟨(m : Int) + 1, 1 + (((m + 1) / 8 : Nat) : Int), 1, ByteArray.empty⟩ : Ent)] = true := by
    simp [row11, mayEnt10]
    omega
  have hz : (snK m).s.ix = 0 := rfl
  unfold write11
  simp only [fits11, hl, hrw, hz]
  rw [if_pos ⟨by simp, trivial⟩, if_neg (by simp; omega)]
  refine congrArg _ ?_
  have hq : ((m : Int) + 1 - (snK m).s.ix - 1).toNat = m := by rw [hz]; omega
  unfold put11
  rw [hq, List.take_of_length_le (by omega)]
  unfold snK
  rw [List.range_succ, List.map_append]
  rfl
theorem sn_snap (m : Nat) (a1 a2 : Int) (h1 : 0 ≤ a1) (h2 : a1 ≤ 30) (h3 : 0 ≤ a2) (h4 : a2 ≤ 3) : snap11 (snK m) ⟨a1, a2, ⟨#[49]⟩, ⟨#[]⟩⟩ = (0, ⟨0, 0, ⟨a1, a2, ⟨#[49]⟩, ⟨#[]⟩⟩, behind11 (snK m) ⟨a1, a2, ⟨#[49]⟩, ⟨#[]⟩⟩⟩) := by
  unfold snap11
  rw [if_pos ⟨by unfold maySnp10; simp only [Bool.and_eq_true, decide_eq_true_eq]; exact ⟨⟨⟨⟨⟨h1, by omega⟩, h3⟩, by omega⟩, by decide⟩, by decide⟩, h1⟩]
  rfl
def snT (a : Int) : Int := if a = 0 then 0 else 1 + a / 8
theorem sn_term (m n : Nat) (h : n ≤ m) : term11 (snK m) n = snT (n : Int) := by
  cases n with
  | zero => rfl
  | succ n =>
    have h1 : ((List.range m).map snE)[n]? = some (snE n) := by
      rw [List.getElem?_map, List.getElem?_range (by omega)]
      rfl
    show ((((List.range m).map snE)[n]?).getD noEnt).et = _
    rw [h1]
    unfold snT
    rw [if_neg (by omega)]
    show 1 + (((n + 1) / 8 : Nat) : Int) = _
    omega
theorem sn_behind (m : Nat) (n : Nat) (a2 : Int) (c d : ByteArray) : behind11 (snK m) ⟨(n : Int), a2, c, d⟩ = if n ≤ m ∧ a2 = snT n then ((List.range m).map snE).drop n else [] := by
  have h0 : ((n : Int) - (snK m).s.ix).toNat = n := by show ((n : Int) - 0).toNat = n; omega
  have hlq : (snK m).log.length = m := by simp [snK]
  unfold behind11
  simp only [h0, hlq]
  by_cases h : n ≤ m
  · rw [sn_term m n h]
    rfl
  · rw [if_neg (fun e => h e.1), if_neg (fun e => h e.1)]
theorem sn_len (m n : Nat) : (((List.range m).map snE).drop n).length = m - n := by simp
theorem sn_first (m n : Nat) (h : n < m) (h0 : 0 < (((List.range m).map snE).drop n).length) : (((List.range m).map snE).drop n)[0]'h0 = snE n := by simp

set_option maxRecDepth 100000 in
set_option maxHeartbeats 8000000 in
theorem walk (w : World) (a0 : Int) (w0 : (Lit.int .i64 a0).wf = true) (a1 : Int) (w1 : (Lit.int .i64 a1).wf = true) (a2 : Int) (w2 : (Lit.int .i64 a2).wf = true) (hT : Tbl w) :
    Calls Tryd.prog 6 #[.int .i64 a0, .int .i64 a1, .int .i64 a2] w fun e w' => e = .returned (.bool true) ∧ Below w.heap.size w w' := by
  have W0 := Lib.hid w0; have W1 := Lib.hid w1; have W2 := Lib.hid w2; clear w0 w1 w2
  have HT0 := Lib.hid hT
  have HT := Lib.hid hT; clear hT
  go_enter Tryd.func6, Tryd.ntmps6
  go_wp2_with fail
  refine (begun11_any w HT.out).mono ?_
  rintro e w1 ⟨rfl, hb1⟩
  have HT1 := Lib.hid (tbl_keep HT.out hb1)
  have HB1 := Lib.hid hb1
  clear HT hb1
  go_wp2_with fail
  · go_ret
    exact ⟨rfl, HB1.out⟩
  · have hrg : 0 ≤ a0 ∧ a0 ≤ 20 ∧ 0 ≤ a1 ∧ a1 ≤ 30 ∧ 0 ≤ a2 ∧ a2 ≤ 3 := by omega
    have hst : 0 < w1.heap.size := cell_lt (HT1.out 0 (by omega))
    have hst0 : 0 < w.heap.size := cell_lt (HT0.out 0 (by omega))
    obtain ⟨B, hBw⟩ : ∃ B, w.heap.size = B := ⟨_, rfl⟩
    have HBW := Lib.hid hBw
    have HZ : ∀ k, Below B w k → B ≤ k.heap.size := fun k h => by rw [← hBw]; exact h.size
    have HST := Lib.hid hst0
    have hnw := new_kd w1 (fun j => j < B) (fun j hj => by have := HB1.out.size; omega) (by omega) HT1.out
    obtain ⟨d, hd⟩ : ∃ d, w1.heap.size = d := ⟨_, rfl⟩
    have HN := Lib.hid hnw
    rw [hd] at HN
    clear hnw hst hst0
    go_wp2_with fail
    refine HN.out.mono ?_
    rintro e k1 ⟨rfl, hd1, hb1⟩
    have HB1' := HB1.out
    rw [hBw] at HB1'
    have hb1 := HB1'.trans (hb1.mono (by rw [← hd]; exact HZ _ HB1'))
    have HD1 := Lib.hid hd1
    have HB2 := Lib.hid hb1
    clear hd1 hb1 HB1' hd
    go_wp2_with fail
    refine (open_none_kk HD1.out).mono ?_
    rintro e k2 ⟨g, rfl, hk2, hs2⟩
    have hb2 := HB2.out.trans (hs2.below (HZ _ HB2.out) (fun j hj => hj))
    have HK3 := Lib.hid hk2
    have HB3 := Lib.hid hb2
    clear hk2 hs2 hb2 HD1 HB2 HN
    go_wp2_with fail
    go_loopw [11] (fun i wr => ∃ (m : Nat) (x : Fk), i = .int .i64 ((m : Int) + 1) ∧ (m : Int) ≤ a0 ∧ Fh x (snK m) (fun _ => True) ∧ KK (fun j => j < B) wr g d (snK m) x (2 * m) ∧ Below B w wr) (fun i _ => 221 - (intOf i).toNat)
    case atStart => exact ⟨0, none, by simp, by omega, Fh.zero _ trivial, HK3.out, HB3.out⟩
    case round =>
      obtain ⟨m, x, rfl, hm, hF, hk, hb⟩ := hrel
      have HF := Lib.hid hF
      have HK4 := Lib.hid hk
      have HB4 := Lib.hid hb
      clear hF hk hb HK3 HB3
      by_cases hlt : (m : Int) + 1 ≤ a0
      · have hm2 : m < 20 := by omega
        obtain ⟨q, hq⟩ : ∃ q : Nat, (m + 1) / 8 = q := ⟨_, rfl⟩
        have hq9 : q ≤ 2 := by omega
        have hdv : Int.tdiv ((m : Int) + 1) 8 = (q : Int) := by rw [Int.tdiv_eq_ediv_of_nonneg (by omega), ← hq]; omega
        obtain ⟨W4, hW4⟩ : ∃ W4, wr.alloc (.cells #[.int .i64 ((m : Int) + 1), .int .i64 (1 + (q : Int)), .int .i64 1, .string ⟨#[]⟩] 41) = W4 := ⟨_, rfl⟩
        have hb4 : Below wr.heap.size wr W4 := by rw [← hW4]; exact below_new _ _
        have hr4 : Rt W4 wr.heap.size 41 [.int .i64 ((m : Int) + 1), .int .i64 (1 + (q : Int)), .int .i64 1, .string ⟨#[]⟩] := by rw [← hW4]; exact Rt.new _ _ _
        have hK4 := HK4.out.others hb4
        have hwq : write11 (snK m) [⟨(m : Int) + 1, 1 + (q : Int), 1, ByteArray.empty⟩] = (0, snK (m + 1)) := by rw [← hq]; exact sn_write m hm2
        have hw4 := write_kk hK4 (by omega) (some ⟨wr.heap.size, 0, none⟩) 1 1 [⟨(m : Int) + 1, 1 + (q : Int), 1, ByteArray.empty⟩] (ens_one hr4 (.inr ⟨Nat.le_refl _, hr4.lt⟩)) (by simp) (fun e he => by rw [List.mem_singleton.1 he]; show ByteArray.empty.size ≤ _; decide) (fun e he => by rw [List.mem_singleton.1 he]; constructor <;> simp only <;> omega) _ _ hwq
        have HF5 := Lib.hid ((HF.out.write hwq (by simp)).mono (Q := fun _ => True) fun _ _ => trivial)
        have HW4 := Lib.hid hw4
        have HB5 := Lib.hid (HB4.out.trans (hb4.mono (HZ _ HB4.out)))
        clear hw4 hb4 hr4 hK4 hq hwq
        go_wp2_with fail
        refine HW4.out.mono ?_
        rintro e w5 ⟨rfl, hk5, hs5⟩
        have HB6 := Lib.hid (HB5.out.trans (hs5.below (HZ _ HB5.out) (fun j hj => .inl hj)))
        have HK5 := Lib.hid (hk5.less (fun j hj => .inl hj) (by rw [← HBW.out]; exact HST.out))
        clear hk5 hs5 HW4 hW4
        go_wp2_with fail
        go_roundw
        case rel => exact ⟨m + 1, _, by go_num, by omega, HF5.out, HK5.out, HB6.out⟩
        case measure => simp [intOf]; omega
      · have hm2 : a0 = (m : Int) := by omega
        subst hm2
        obtain ⟨kz, hkz⟩ : ∃ kz : Kst, (⟨0, 0, ⟨a1, a2, ⟨#[49]⟩, ⟨#[]⟩⟩, behind11 (snK m) ⟨a1, a2, ⟨#[49]⟩, ⟨#[]⟩⟩⟩ : Kst) = kz := ⟨_, rfl⟩
        have hsn : snap11 (snK m) ⟨a1, a2, ⟨#[49]⟩, ⟨#[]⟩⟩ = (0, kz) := by rw [← hkz]; exact sn_snap m a1 a2 (by omega) (by omega) (by omega) (by omega)
        have HKZ := Lib.hid hkz
        have HF5 := Lib.hid ((HF.out.snap hsn).mono (Q := fun a => a = kz) fun a ha => by
          rcases ha with ⟨h, _⟩ | h
          · exact absurd rfl h
          · exact h)
        have HS5 := Lib.hid (snap_kk HK4.out (by omega) a1 a2 ⟨#[49]⟩ ⟨#[]⟩ (by decide) (by decide) _ _ hsn)
        clear hkz hsn
        go_wp2_with fail
        refine HS5.out.mono ?_
        rintro e w5 ⟨rfl, hk5, hs5⟩
        have HB5 := Lib.hid (HB4.out.trans (hs5.below (HZ _ HB4.out) (fun j hj => hj)))
        have HK5 := Lib.hid hk5
        clear hk5 hs5 HS5 HK4
        go_wp2_with fail
        refine (crash_kk HK5.out 0 (by omega)).mono ?_
        rintro e w6 ⟨rfl, hd6, hb6⟩
        have HB6 := Lib.hid (HB5.out.trans (hb6.mono (HZ _ HB5.out)))
        have HD6 := Lib.hid hd6
        clear hd6 hb6
        go_wp2_with fail
        refine (open_crash_kk 0 HF5.out HD6.out (by omega)).mono ?_
        rintro e w7 ⟨g8, k', x', rfl, rfl, hF8, hk8, hs8⟩
        have HB7 := Lib.hid (HB6.out.trans (hs8.below (HZ _ HB6.out) (fun j hj => hj)))
        have HS8 := Lib.hid (state_kk hk8)
        clear hF8 hk8 hs8
        go_wp2_with fail
        refine HS8.out.mono ?_
        rintro e w8 ⟨v9, rfl, hv9, hb9⟩
        have HB8 := Lib.hid (HB7.out.trans (hb9.mono (HZ _ HB7.out)))
        have hsx : k'.s = ⟨a1, a2, ⟨#[49]⟩, ⟨#[]⟩⟩ := by rw [← HKZ.out]
        have hlg : k'.log = behind11 (snK m) ⟨a1, a2, ⟨#[49]⟩, ⟨#[]⟩⟩ := by rw [← HKZ.out]
        have hxx : (k'.ht = 0 ∧ k'.hv = 0) := by rw [← HKZ.out]; exact ⟨rfl, rfl⟩
        rw [hlg] at hv9
        rw [hsx, hxx.1, hxx.2]
        obtain ⟨L, hL⟩ : ∃ L, behind11 (snK m) ⟨a1, a2, ⟨#[49]⟩, ⟨#[]⟩⟩ = L := ⟨_, rfl⟩
        rw [hL] at hv9
        obtain ⟨A9, c9, rfl⟩ := hv9.slice
        have HE9 := Lib.hid (Ens.of_own hv9)
        have HL := Lib.hid hL
        clear hv9 hb9 hsx hlg hxx hL HKZ HS8
        obtain ⟨n, rfl⟩ : ∃ n : Nat, a1 = (n : Int) := ⟨a1.toNat, by omega⟩
        rw [sn_behind] at HL
        clear hrg
        by_cases hs : n ≤ m ∧ a2 = snT n
        · have HL2 := HL.out
          rw [if_pos hs] at HL2
          clear HL
          subst HL2
          obtain ⟨hs1, hs2⟩ := hs
          have hln := sn_len m n
          have hnc : (n = 0 ∧ a2 = 0) ∨ (0 < n ∧ a2 = 1 + (n : Int) / 8) := by
            by_cases h0 : n = 0
            · subst h0; exact .inl ⟨rfl, hs2⟩
            · refine .inr ⟨by omega, ?_⟩
              rw [hs2]
              exact if_neg (by omega)
          obtain ⟨L, hLL⟩ : ∃ L, ((List.range m).map snE).drop n = L := ⟨_, rfl⟩
          have hfi : ∀ h0 : 0 < L.length, L[0]'h0 = ⟨(n : Int) + 1, (snE n).et, 1, ByteArray.empty⟩ := by
            subst hLL
            exact fun h0 => sn_first m n (by omega) h0
          rw [hLL] at HE9 hln ⊢
          clear hs2 hLL
          rw [hln] at HE9 ⊢
          by_cases hmn : n < m
          · obtain ⟨g9, o9, e9, hg9, c0, c1, c2, c3⟩ := HE9.out.four (ix := (n : Int) + 1) (et := (snE n).et) (kd := 1) (dt := ByteArray.empty) 0 (by omega) (hfi (by omega))
            rw [show o9 + 0 * 4 = o9 by omega] at c0 c1 c2 c3
            clear c1 c2 c3 hfi HE9 hln
            rcases hnc with ⟨rfl, rfl⟩ | ⟨h0, rfl⟩
            · go_wp2_with fail
              go_ret
              exact ⟨rfl, by rw [HBW.out]; exact HB8.out.trans ((below_new _ _).mono (HZ _ HB8.out))⟩
            · go_wp2_with fail
              go_ret
              exact ⟨rfl, by rw [HBW.out]; exact HB8.out.trans ((below_new _ _).mono (HZ _ HB8.out))⟩
          · have hmn2 : m = n := by omega
            subst hmn2
            rw [Nat.sub_self] at HE9 hln ⊢
            clear hfi HE9 hln hmn
            rcases hnc with ⟨rfl, rfl⟩ | ⟨h0, rfl⟩
            · go_wp2_with fail
              go_ret
              exact ⟨rfl, by rw [HBW.out]; exact HB8.out.trans ((below_new _ _).mono (HZ _ HB8.out))⟩
            · go_wp2_with fail
              go_ret
              exact ⟨rfl, by rw [HBW.out]; exact HB8.out.trans ((below_new _ _).mono (HZ _ HB8.out))⟩
        · have HL2 := HL.out
          rw [if_neg hs] at HL2
          clear HL
          subst HL2
          have hno : (n = 0 ∧ ¬ a2 = 0) ∨ (0 < n ∧ m < n) ∨ (0 < n ∧ n ≤ m ∧ ¬ a2 = 1 + (n : Int) / 8) := by
            by_cases h0 : n = 0
            · subst h0
              exact .inl ⟨rfl, fun e => hs ⟨by omega, e⟩⟩
            · have h1 : snT (n : Int) = 1 + (n : Int) / 8 := if_neg (by omega)
              rw [h1] at hs
              by_cases h2 : n ≤ m
              · exact .inr (.inr ⟨by omega, h2, fun e => hs ⟨h2, e⟩⟩)
              · exact .inr (.inl ⟨by omega, by omega⟩)
          clear hs HE9
          rcases hno with ⟨rfl, h1⟩ | ⟨h0, h1⟩ | ⟨h0, h1, h2⟩
          · have h2 : ((a2 : Int) == 0) = false := by simpa using h1
            go_wp2_with fail
            go_ret
            exact ⟨rfl, by rw [HBW.out]; exact HB8.out.trans ((below_new _ _).mono (HZ _ HB8.out))⟩
          · go_wp2_with fail
            go_ret
            exact ⟨rfl, by rw [HBW.out]; exact HB8.out.trans ((below_new _ _).mono (HZ _ HB8.out))⟩
          · have h3 : ((a2 : Int) == 1 + (n : Int) / 8) = false := by simpa using h2
            go_wp2_with fail
            go_ret
            exact ⟨rfl, by rw [HBW.out]; exact HB8.out.trans ((below_new _ _).mono (HZ _ HB8.out))⟩
  all_goals
    go_ret
    exact ⟨rfl, HB1.out⟩

set_option maxRecDepth 100000 in
theorem lifted (os : Os) (started : os.Started) (H : Type) (enc : TypeId × Value → H) :
    ReturnsInHanded {} Tryd.checked os 6 .any (fun w args => (Rows.keepSnapSpec.pre enc Tryd.prog Tryd.f6 [] false w args ∧ laidMetH Tryd.prog laidS w) ∧ sizedMet enc Tryd.prog Tryd.f6 (OpenSpec.ofChange Rows.keepSnapSpec) false w args) (Rows.keepSnapSpec.post enc Tryd.prog Tryd.f6 false true false false) := by
  refine returnsInHanded_of_change_and (C := Tryd.checked) (X := fun w _ => laidMetH Tryd.prog laidS w) (fun _ _ _ hh h => h.of_heap hh) own started (by kernel_rfl) Tryd.func6
    (ChangeSpec.witness_at (enc := enc) (C := Tryd.checked) (os := os) (X := fun w _ => laidMetH Tryd.prog laidS w) false (laidWorld os) #[.int .i64 0, .int .i64 0, .int .i64 0] 8 rfl (by kernel_rfl) (by kernel_rfl) (by kernel_rfl) (by kernel_rfl) (by kernel_rfl) (laid_met os _)) ?_
  intro W base args ds gs before hval0 hW hcnd _ hL _
  have hT := tbl_of_laid hL
  have hval : ∀ (j : Nat) t v, Tryd.f6.params[j]? = some t → args[j]? = some v → Value.okWide Tryd.prog W .any base t v := hval0
  have hW' := hW
  obtain ⟨p, q, hA0, hV, rfl, hfz, hnd⟩ := hW
  have hA : DataW.TrodAll enc Tryd.prog W 0 (fun _ => true) true Tryd.f6.params.toList args.toList ds p := hA0
  have hA1 := hA
  rw [Tryd.params6] at hA hval
  obtain ⟨v0, vs0, d0, ds0, p0, q0, hargs, rfl, rfl, h0, r0⟩ := trodAll_cons hA
  obtain ⟨v1, vs1, d1, ds1, p1, q1, rfl, rfl, rfl, h1, r1⟩ := trodAll_cons r0
  obtain ⟨v2, vs2, d2, ds2, p2, q2, rfl, rfl, rfl, h2, r2⟩ := trodAll_cons r1
  obtain ⟨rfl, rfl, rfl⟩ := trodAll_nil r2
  obtain rfl : args = #[v0, v1, v2] := by cases args; simp_all
  obtain ⟨rfl, rfl⟩ := trodVars_none hV
  obtain ⟨a0, rfl, rfl, rfl, w0⟩ := open_int Tryd.underlying3 (hval 0 3 v0 rfl rfl) h0
  obtain ⟨a1, rfl, rfl, rfl, w1⟩ := open_int Tryd.underlying2 (hval 1 2 v1 rfl rfl) h1
  obtain ⟨a2, rfl, rfl, rfl, w2⟩ := open_int Tryd.underlying2 (hval 2 2 v2 rfl rfl) h2
  clear hA0 hval0
  simp only [List.append_nil] at hW'
  try simp only [List.append_nil] at hA1
  refine (walk W a0 w0 a1 w1 a2 w2 hT).mono fun e W' ⟨he, hg⟩ => ?_
  subst he
  exact ⟨_, rfl, law_end Tryd.laidOut (by kernel_rfl) hW' hA1 hg rfl rfl rfl (trodAll_mk1 (shut_bool Tryd.underlying4 _))⟩

theorem over : Rows.keepSnapRow.holds Tryd.pinned (OpenSpec.ofChange Rows.keepSnapSpec) :=
  OpenClaim.holds_of_wide 6 Tryd.f6 rfl rfl rfl rfl rfl rfl rfl ⟨rfl, rfl, rfl, rfl, rfl⟩ rfl rfl rfl rfl rfl (by kernel_rfl) Tryd.func6 (by kernel_rfl)
    (of_decide_eq_true (by kernel_rfl)) (by unfold Func.isWrapper; first | (rw [if_pos (by decide +kernel)]; kernel_rfl) | (rw [if_neg (by decide +kernel)]; exact ⟨rfl, rfl⟩))
    (fun os started H enc _ => lifted os started H enc)


/-- the statement: the card, closed by the builder's one call -/
theorem proved : Rows.KeepSnapCardSaid :=
  Claim7.holds_tied_plain_at .later [] [.data] true Rows.keepSnapCard.stood.harness Rows.keepSnapCard.stood.looks
    over (fun _ h => by cases h) (by kernel_rfl) (fun _ h => by cases h) keepSnap_row_tie rfl ⟨rfl, rfl⟩ (by kernel_rfl) rfl
    (fun f fn hf hfn => by
      obtain rfl : f = 6 := Option.some.inj ((show Tryd.prog.funcNamed "packhorse/packhorselaw11.KeepSnap" = some 6 by kernel_rfl).symm.trans hf) |>.symm
      obtain rfl : fn = Tryd.f6 := (Option.some.inj (Tryd.func6.symm.trans hfn)).symm
      refine ⟨by kernel_rfl, fun j t ht => ?_⟩
      have h := List.all_eq_true.1 (show (Tryd.f6.params.toList.all fun t => !Tryd.prog.wantsStandIn t) = true by kernel_rfl) t (List.mem_of_getElem? (by simpa using ht))
      exact (show Tryd.prog.wantsStandIn t = false by simpa using h))
    (by kernel_rfl)
#print axioms proved
end Go.Proofs.YtmoaacaopphgbaaDoor.keepSnap
