/-
  The reference's EncodeConf, DecodeConf and Change say what the plain functions say.
  Lists have at most 1,000 servers, texts at most 1,000 bytes.
-/
import Derived.Test.YtoekiencnbgmhaaC12Ref
set_option linter.unusedSimpArgs false
set_option linter.unusedVariables false
namespace Go.Proofs.Ytoekiencnbgmhaa
open Go.RowKit Go.Deep
set_option maxRecDepth 100000

theorem OwnB.nil12 (B : Nat) (w : World) : OwnB B (.slice none 0 0) [] w := World.ownsRow_nil _ _ _ _
theorem encL_take (L : List Int) (k : Nat) (h : k < L.length) : encL (L.take (k + 1)) = encL (L.take k) ++ [digit12 L[k]] := by
  unfold encL
  rw [List.take_succ_eq_append_getElem h, List.map_append]; rfl
theorem encL_len (L : List Int) : (encL L).length = L.length := by unfold encL; simp
theorem decL_take (s : ByteArray) (k : Nat) (h : k < s.size) : (decL s).take (k + 1) = (decL s).take k ++ [(s[k].toNat : Int) - 48] := by
  rw [List.take_succ_eq_append_getElem (by rw [decL_len]; exact h), decL_at s k h]
set_option maxHeartbeats 1000000 in
theorem rdecode12_w (s : ByteArray) (w : World) (hs : s.size ≤ 1000) :
    Calls Try.prog 79 #[.string s] w (Dec12 (dec12 s) w) := by
  go_enter Try.func79, Try.ntmps79
  go_wp2
  go_loopw [4, 5] (fun v i wr => ∃ k : Nat, k ≤ s.size ∧ i = .int .i64 k ∧ OwnZ w.heap.size v ((decL s).take k) wr ∧ Below w.heap.size w wr) (fun _ i _ => s.size - (intOf i).toNat)
  case atStart => exact ⟨0, Nat.zero_le _, rfl, OwnZ.nil _ _, Below.refl _ _⟩
  case round =>
    obtain ⟨k, hk, rfl, ho, hb⟩ := hrel
    have HO := Lib.hid ho
    have HB := Lib.hid hb
    obtain ⟨Ao, co, hvo⟩ := ho.slice
    have hml : ((decL s).take k).length ≤ k := List.length_take_le _ _
    obtain ⟨m, hm⟩ : ∃ m, ((decL s).take k).length = m := ⟨_, rfl⟩
    rw [hm] at hvo hml
    subst hvo
    have HMM := Lib.hid hm
    clear ho hb hm
    by_cases hlt : k < s.size
    · have hdt := decL_take s k hlt
      obtain ⟨x, hx⟩ : ∃ x : Int, (s[k].toNat : Int) - 48 = x := ⟨_, rfl⟩
      have hx9 : (s[k].toNat : Int) ≤ 255 := by have := s[k].toNat_lt; omega
      have HDT := Lib.hid hdt
      have how := HO.out.new12 (.cells #[.int .i64 ((s[k].toNat : Int) - 48)] 3)
      have hin := ints_new wr #[.int .i64 ((s[k].toNat : Int) - 48)] 3 [(s[k].toNat : Int) - 48] rfl
      have HOW := Lib.hid how
      have HIN := Lib.hid hin
      have HB2 := Lib.hid (HB.out.trans ((below_new12 wr (.cells #[.int .i64 ((s[k].toNat : Int) - 48)] 3)).mono HB.out.size))
      clear hdt hx how hin
      go_wp2_with (at_builtin; refine wpList_append_ints rfl _ _ rfl w.heap.size (wr.heap.size + 1) _ _ _ [(s[k].toNat : Int) - 48] rfl HOW.out rfl HIN.out ?x1 ?x2 ?_)
      case x1 => rw [HMM.out]; show _ + 1 ≤ _; omega
      case x2 => exact HB2.out.size
      intro v' w2 hown' hb2
      rw [← HDT.out] at hown'
      have HO2 := Lib.hid hown'
      have HB3 := Lib.hid (HB2.out.trans hb2)
      clear hown' hb2
      go_wp2
      go_roundw
      case rel => exact ⟨k + 1, by omega, by go_num, HO2.out, HB3.out⟩
      case measure => simp [intOf]; omega
    · have hkn : k = s.size := by omega
      have hfin : (decL s).take k = decL s := List.take_of_length_le (by rw [decL_len]; omega)
      have ho9 := HO.out
      rw [hfin] at ho9
      have hlm : (decL s).length = m := by rw [← hfin]; exact HMM.out
      have hin := Ints.of_own ho9
      rw [← hlm] at hin
      have hmy := rmay12_w _ _ _ _ _ hin (by rw [decL_len]; exact hs)
      rw [hlm] at hmy
      have HIN := Lib.hid hin
      have HLM := Lib.hid hlm
      cases hb : may12 (decL s) with
      | false =>
        rw [hb] at hmy
        have HD := Lib.hid (show dec12 s = none by unfold dec12; rw [if_neg (by rw [hb]; decide)])
        clear hin hb hlm ho9 hfin
        go_wp2_with fail
        refine hmy.mono ?_
        rintro e w3 ⟨rfl, h3⟩
        have H3 := Lib.hid (HB.out.trans (h3.mono HB.out.size))
        clear h3
        go_wp2
        go_ret2
        rw [HD.out]
        exact ⟨H3.out, rfl⟩
      | true =>
        rw [hb] at hmy
        have HD := Lib.hid (show dec12 s = some (decL s) by unfold dec12; rw [if_pos hb])
        clear hin hb hlm ho9 hfin
        go_wp2_with fail
        refine hmy.mono ?_
        rintro e w3 ⟨rfl, h3⟩
        have H3 := Lib.hid (HB.out.trans (h3.mono HB.out.size))
        have HIN3 := Lib.hid ((HIN.out.keep h3 (Nat.le_refl _)).more h3.size)
        clear h3
        go_wp2
        go_ret2
        rw [HD.out]
        refine ⟨H3.out, _, _, ?_, HIN3.out⟩
        rw [HLM.out]
        rfl
def chgB (l : List Int) (x : Int) (add : Bool) (i : Int) : Bool := (decide (i = x) && add) || (!decide (i = x) && l.contains i)
theorem chg_setN (l : List Int) (x : Int) (add : Bool) : chg12 l x add = setN (fun k => chgB l x add ((k : Int) + 1)) 7 := by
  have h : ids = (List.range 7).map fun k : Nat => ((k : Int) + 1) := by decide
  unfold chg12
  rw [h, List.filter_map]
  rfl
/-- what came of Change -/
def Chg12 (r : List Int × Bool) (w : World) (e : Ending) (w' : World) : Prop := Below w.heap.size w w' ∧ ∃ A c, e = .returned (.tuple #[.slice A r.1.length c, .bool r.2]) ∧ Ints w' w'.heap.size (.slice A r.1.length c) r.1
theorem Chg12.none12 {w w' : World} (h : Below w.heap.size w w') : Chg12 ([], false) w (.returned (.tuple #[.slice none 0 0, .bool false])) w' := ⟨h, none, 0, rfl, Ints.nil _ _⟩
theorem change12_no1 {l : List Int} {x : Int} {add : Bool} (h : may12 l = false) : change12 l x add = ([], false) := by unfold change12; rw [if_neg (fun e => by rw [h] at e; exact absurd e.1 (by decide))]
theorem change12_no2 {l : List Int} {x : Int} {add : Bool} (h : ¬ (1 ≤ x ∧ x ≤ 7)) : change12 l x add = ([], false) := by unfold change12; rw [if_neg (fun e => h ⟨e.2.1, e.2.2.1⟩)]
theorem change12_no3 {l : List Int} {x : Int} {add : Bool} (h : l.contains x = add) : change12 l x add = ([], false) := by unfold change12; rw [if_neg (fun e => by rw [h] at e; simp at e)]
theorem change12_yes {l : List Int} {x : Int} {add : Bool} (h : may12 l = true) (h1 : 1 ≤ x) (h2 : x ≤ 7) (h3 : l.contains x ≠ add) : change12 l x add = (chg12 l x add, decide (0 < (chg12 l x add).length)) := by unfold change12; rw [if_pos ⟨h, h1, h2, by simpa using h3⟩]
end Go.Proofs.Ytoekiencnbgmhaa
