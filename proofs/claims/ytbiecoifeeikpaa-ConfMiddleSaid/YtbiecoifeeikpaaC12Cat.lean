/-
  slices.Concat of ints, and package conf's Add and Remove, make what the plain functions say.
  Lists have at most 1,000 servers.
-/
import Derived.Test.YtbiecoifeeikpaaC12May
import Derived.Test.YtbiecoifeeikpaaC12Rows
namespace Go.Proofs.Ytbiecoifeeikpaa
open Go.RowKit Go.Deep
set_option maxRecDepth 100000

set_option maxHeartbeats 1000000 in
theorem grow12_w (n : Nat) (h0 : 0 < n) (hn : n ≤ 100000) (w : World) :
    Calls Try.prog 35 #[.slice none 0 0, .int .i64 n] w fun e w' => ∃ v, e = .returned v ∧ OwnZ w.heap.size v [] w' ∧ Below w.heap.size w w' := by
  obtain ⟨i, hi, hz0, hz1, hz2⟩ := info_parts Try.infoInt
  have hap := fun ty => Lib.run_append_nil_zeros (P := Try.prog) w 22 3 ty 3 i (.int .i64 0) .i64 .i64 Try.underlying22 Try.underlying3 hi hz0 n h0 (by rw [hz1]; decide) (by omega) (by rw [hz2]; omega)
  have hown := own_room12 w n (by omega) w.heap.size (Nat.le_refl _)
  have hge := grownCap_ge w n 0 3
  have hmx := grownCap_le_maxLen w n 0 3 (by unfold maxLen; omega)
  have hb : Below w.heap.size w (w.drew.alloc (.cells (Builtin.zeroCells #[.int .i64 0] n ++ Builtin.zeroCells #[.int .i64 0] (grownCap w n 0 3 - n)) 3)) := ((Below.refl _ w).drew).alloc (Nat.le_refl _) _
  have hcc : (Value.int .i64 0).cells = #[.int .i64 0] := rfl
  rw [hcc] at hap
  obtain ⟨W1, hW1⟩ : ∃ W1, w.drew.alloc (.cells (Builtin.zeroCells #[.int .i64 0] n ++ Builtin.zeroCells #[.int .i64 0] (grownCap w n 0 3 - n)) 3) = W1 := ⟨_, rfl⟩
  rw [hW1] at hown hb hap
  obtain ⟨cp, hcp⟩ : ∃ cp, grownCap w n 0 3 = cp := ⟨_, rfl⟩
  rw [hcp] at hown hap hge hmx
  have HO := Lib.hid hown
  have HB := Lib.hid hb
  unfold maxLen at hmx
  have hi0 : 0 < (n : Int) := by omega
  clear hown hb hW1 hcp hcc hi hz0 hz1 hz2
  go_enter Try.func35, Try.ntmps35
  go_wp2_with (at_builtin; refine Lib.wpList_append_run _ rfl _ _ _ _ rfl _ _ rfl rfl _ _ (hap _) ?_)
  go_ret
  exact ⟨_, rfl, HO.out, HB.out⟩
/-- a slice of slices -/
def Sls (w : World) (B : Nat) (v : Value) (Vs : List Value) : Prop :=
  ∃ A c, v = .slice A Vs.length c ∧ Vs.length ≤ c ∧ (0 < Vs.length → ∃ g o, A = some ⟨g, o, Option.none⟩ ∧ g < B ∧ ∀ k (h : k < Vs.length), w.cell? ⟨g, o + k, Option.none⟩ = some Vs[k])
theorem Sls.at_ {w : World} {B n c : Nat} {A : Option Addr} {Vs : List Value} (h : Sls w B (.slice A n c) Vs) (k : Nat) (hk : k < Vs.length) :
    ∃ g o, A = some ⟨g, o, Option.none⟩ ∧ g < B ∧ w.cell? ⟨g, o + k, Option.none⟩ = some Vs[k] := by
  obtain ⟨A', c', hv, _, h⟩ := h
  injection hv with e1 e2 e3
  subst e1
  obtain ⟨g, o, rfl, hg, hcs⟩ := h (by omega)
  exact ⟨g, o, rfl, hg, hcs k hk⟩
theorem sls_new (w : World) (C : Array Value) (t : TypeId) : Sls (w.alloc (.cells C t)) (w.heap.size + 1) (.slice (some ⟨w.heap.size, 0, Option.none⟩) C.toList.length C.toList.length) C.toList := by
  refine ⟨_, _, rfl, Nat.le_refl _, fun _ => ⟨w.heap.size, 0, rfl, by omega, fun k hk => ?_⟩⟩
  rw [World.cell?_alloc_mark]
  have hk' : k < C.size := by simpa using hk
  simp [hk']
/-- the slices read so -/
def Ilss (w : World) (B : Nat) (Vs : List Value) (Ls : List (List Int)) : Prop := Vs.length = Ls.length ∧ ∀ k (h : k < Vs.length) (h2 : k < Ls.length), Ints w B Vs[k] Ls[k]
theorem flat_take12 (Ls : List (List Int)) (k : Nat) (h : k < Ls.length) : (Ls.take (k + 1)).flatten = (Ls.take k).flatten ++ Ls[k] := by
  rw [List.take_succ_eq_append_getElem h, List.flatten_append]; simp
theorem flat_take_le12 (Ls : List (List Int)) (k : Nat) : (Ls.take k).flatten.length ≤ Ls.flatten.length := by
  have h : (Ls.take k).flatten ++ (Ls.drop k).flatten = Ls.flatten := by rw [← List.flatten_append, List.take_append_drop]
  rw [← h, List.length_append]; omega
set_option maxHeartbeats 2000000 in
theorem concat12_w (A : Option Addr) (n c B : Nat) (Vs : List Value) (Ls : List (List Int)) (w : World) (h : Sls w B (.slice A n c) Vs) (hn : Vs.length = n) (hi : Ilss w B Vs Ls) (hB : B ≤ w.heap.size) (hf : 0 < Ls.flatten.length) (hf2 : Ls.flatten.length ≤ 3000) (hn9 : n ≤ 1000) :
    Calls Try.prog 27 #[.slice A n c] w fun e w' => ∃ v, e = .returned v ∧ OwnZ w.heap.size v Ls.flatten w' ∧ Below w.heap.size w w' := by
  have HS := Lib.hid h
  have HN := Lib.hid hn
  have HI := Lib.hid hi
  have HL := Lib.hid (show Ls.length = n by rw [← hn, hi.1])
  have HF := Lib.hid hf
  clear h hn hi hf
  go_enter Try.func27, Try.ntmps27
  go_wp2
  go_loop [3, 11] (fun t i => ∃ k q : Nat, k ≤ n ∧ i = .int .i64 k ∧ t = .int .i64 q ∧ (Ls.take k).flatten.length = q) (fun _ i => n - (intOf i).toNat)
  case atStart => exact ⟨0, 0, Nat.zero_le _, rfl, rfl, by simp⟩
  case round =>
    obtain ⟨k, q, hk, rfl, rfl, hq⟩ := hrel
    have hq9 := flat_take_le12 Ls k
    rw [hq] at hq9
    have hq8 : q ≤ 3000 := by omega
    have HQ := Lib.hid hq
    clear hq hq9
    by_cases hlt : k < n
    · have hkv : k < Vs.length := by rw [HN.out]; exact hlt
      have hkl : k < Ls.length := by rw [HL.out]; exact hlt
      obtain ⟨g, o, hA, hg, hcell⟩ := HS.out.at_ k hkv
      subst hA
      obtain ⟨Ak, ck, hvk, hck, hz9⟩ := HI.out.2 k hkv hkl
      clear hz9
      rw [hvk] at hcell
      have hft := flat_take12 Ls k hkl
      have hfl := flat_take_le12 Ls (k + 1)
      obtain ⟨m, hm⟩ : ∃ m, Ls[k].length = m := ⟨_, rfl⟩
      have hqn : (Ls.take (k + 1)).flatten.length = q + m := by rw [hft, List.length_append, HQ.out, hm]
      rw [hm] at hcell hck
      rw [hqn] at hfl
      have hm8 : q + m ≤ 3000 := by omega
      have HQN := Lib.hid hqn
      clear hvk hft hfl hm hqn hkv hkl
      go_wp2
      go_round
      case rel => exact ⟨k + 1, q + m, by omega, by go_num, by go_num, HQN.out⟩
      case measure => simp [intOf]; omega
    · have hkn : k = n := by omega
      have hqf : Ls.flatten.length = q := by rw [← HQ.out, List.take_of_length_le (by rw [HL.out]; omega)]
      have hq0 : 0 < q := by rw [← hqf]; exact HF.out
      have HQF := Lib.hid hqf
      have hgw := grow12_w q hq0 (by omega) w
      clear hqf HQ
      go_wp2_with fail
      refine hgw.mono ?_
      rintro e w1 ⟨v, rfl, ho, hb⟩
      have HO := Lib.hid ho
      have HB1 := Lib.hid hb
      clear ho hb hgw
      go_wp2
      go_loopw [6, 27] (fun v i wr => ∃ k : Nat, k ≤ n ∧ i = .int .i64 k ∧ OwnZ w.heap.size v (Ls.take k).flatten wr ∧ Below w.heap.size w wr) (fun _ i _ => n - (intOf i).toNat)
      case atStart => exact ⟨0, Nat.zero_le _, rfl, by simpa using HO.out, HB1.out⟩
      case round =>
        obtain ⟨k2, hk2, rfl, hown, hbw⟩ := hrel
        have HOW := Lib.hid hown
        have HBW := Lib.hid hbw
        obtain ⟨Ao, co, hvo⟩ := hown.slice
        obtain ⟨mo, hmo⟩ : ∃ mo, (Ls.take k2).flatten.length = mo := ⟨_, rfl⟩
        rw [hmo] at hvo
        subst hvo
        have hmo9 := flat_take_le12 Ls k2
        rw [hmo] at hmo9
        have HMO := Lib.hid hmo
        clear hown hbw hmo HO HB1
        by_cases hlt2 : k2 < n
        · have hkv : k2 < Vs.length := by rw [HN.out]; exact hlt2
          have hkl : k2 < Ls.length := by rw [HL.out]; exact hlt2
          obtain ⟨g, o, hA, hg, hcell⟩ := HS.out.at_ k2 hkv
          subst hA
          have hcell2 := (HBW.out.cell (p := ⟨g, o + k2, none⟩) (by show g < _; omega)).trans hcell
          have hik := (HI.out.2 k2 hkv hkl).keep HBW.out hB
          obtain ⟨Ak, ck, hvk, hck, hz9⟩ := id hik
          clear hz9
          rw [hvk] at hcell2 hik
          have hft := flat_take12 Ls k2 hkl
          have hfl := flat_take_le12 Ls (k2 + 1)
          rw [hft, List.length_append, HMO.out] at hfl
          have HIK := Lib.hid hik
          have HFT := Lib.hid hft
          obtain ⟨lk, hlk⟩ : ∃ lk, Ls[k2] = lk := ⟨_, rfl⟩
          rw [hlk] at HIK HFT hcell2 hck hfl
          obtain ⟨m, hm⟩ : ∃ m, lk.length = m := ⟨_, rfl⟩
          rw [hm] at HIK hcell2 hck hfl
          have HM := Lib.hid hm
          clear hcell hvk hft hik hkv hkl hlk hm
          go_wp2_with (at_builtin; refine wpList_append_ints rfl _ _ rfl w.heap.size B _ _ _ _ rfl HOW.out rfl HIK.out ?x1 ?x2 ?_)
          case x1 => rw [HMO.out, HM.out]; omega
          case x2 => exact HBW.out.size
          intro v' w2 hown' hb2
          have HO2 := Lib.hid hown'
          have HB2 := Lib.hid (HBW.out.trans hb2)
          clear hown' hb2
          go_wp2
          go_roundw
          case rel => exact ⟨k2 + 1, by omega, by go_num, by rw [HFT.out]; exact HO2.out, HB2.out⟩
          case measure => simp [intOf]; omega
        · have hfin : (Ls.take k2).flatten = Ls.flatten := by rw [List.take_of_length_le (by rw [HL.out]; omega)]
          have hw9 := HOW.out
          rw [hfin] at hw9
          have HW9 := Lib.hid hw9
          clear hw9 hfin
          go_wp2
          go_ret
          exact ⟨_, rfl, HW9.out, HBW.out⟩
end Go.Proofs.Ytbiecoifeeikpaa
