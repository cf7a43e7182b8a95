/-
  A function returns what the plain functions say: ReRunes.
-/
import Derived.Test.YtdhppekfehbngaaProg
import Derived.Test.YtdhppekfehbngaaWBase
import Derived.Test.YtdhppekfehbngaaReDecode
set_option linter.unusedSimpArgs false
set_option linter.unusedVariables false
namespace Go.Proofs.Ytdhppekfehbngaa
open Go.RowKit
set_option maxRecDepth 100000

theorem Try.info21 : (Try.prog.info? 21).map (fun i => (i.zero, i.size, i.bytes)) = some (some (.int .i32 0), 1, 4) := by kernel_rfl

theorem Try.info3 : (Try.prog.info? 3).map (fun i => (i.zero, i.size, i.bytes)) = some (some (.int .i64 0), 1, 8) := by kernel_rfl

def Rel (s : ByteArray) (w : World) (R : List (Nat × Nat)) (vl va : Value) (pos : Nat) (wr : World) : Prop :=
  wr.ownsRow w.heap.size 21 1 vl R.length (runeVals R) ∧ wr.ownsRow w.heap.size 3 1 va R.length (atVals R) ∧ Below w.heap.size w wr ∧ R ++ Ru.rns (rest s pos) = Ru.rns s.data.toList ∧ Ru.wsum R = pos ∧ R.length ≤ pos ∧ pos ≤ s.size

def RunesPost (s : ByteArray) (w : World) (e : Ending) (w' : World) : Prop :=
  ∃ vl va, e = .returned (.tuple #[vl, va, .bool (Ru.vld s.data.toList)]) ∧ w'.ownsRow w.heap.size 21 1 vl (Ru.cnt s.data.toList) (runeVals (Ru.rns s.data.toList)) ∧ w'.ownsRow w.heap.size 3 1 va (Ru.cnt s.data.toList) (atVals (Ru.rns s.data.toList)) ∧ Below w.heap.size w w'

set_option maxRecDepth 100000 in
set_option maxHeartbeats 4000000 in
theorem runes_any (s : ByteArray) (w : World) (hs : s.size ≤ 1000000) : Calls Try.prog 39 #[.string s] w (RunesPost s w) := by
  obtain ⟨iR, hiR, hzR0, hzR1, hzR2⟩ := info_parts Try.info21
  obtain ⟨iA, hiA, hzA0, hzA1, hzA2⟩ := info_parts Try.info3
  go_enter Try.func39, Try.ntmps39
  go_wp2
  go_loopw [5, 6, 7, 8] (fun vl va g i wr => ∃ (R : List (Nat × Nat)) (pos : Nat) (b : Bool), i = .int .i64 pos ∧ g = .bool b ∧ R.all Ru.fine = b ∧ Rel s w R vl va pos wr) (fun _ _ _ i _ => s.size - (intOf i).toNat)
  case atStart => exact ⟨[], 0, true, rfl, rfl, rfl, World.ownsRow_nil _ _ _ _, World.ownsRow_nil _ _ _ _, Below.refl _ _, rfl, rfl, Nat.le_refl _, Nat.zero_le _⟩
  case round =>
    obtain ⟨R, pos, b, rfl, rfl, hgood, hl, ha, hbw, hR, hws, hRl, hps⟩ := hrel
    have HG := Lib.hid hgood; clear hgood
    have HR := Lib.hid hR; clear hR
    have HW := Lib.hid hws; clear hws
    by_cases hp : pos < s.size
    · have hd := Ru.dcl_r (s.data.toList.drop pos)
      rw [← Ru.decode_list] at hd
      have hwd := width_pos s pos hp
      have hwl := width_le s pos hp
      have hnx := rest_next s pos hp
      have HN := Lib.hid hnx; clear hnx
      have hB := hbw.size
      go_wp2_with fail
      refine (rdecode_at s pos _ (by unfold maxLen; omega) hp).mono ?_
      rintro e w' ⟨rfl, rfl⟩
      go_wp2_with (at_builtin; refine wpList_append_own _ rfl (.tmp 22) (.tmp 24) 63 rfl w.heap.size 21 iR (.int .i32 0) 1 4 Try.underlying63 hiR hzR0 hzR1 hzR2 rfl (by decide) _ _ _ rfl (hl.alloc _) ⟨wr.heap.size, 0, none⟩ 1 1 [.int .i32 ((Utf8.decode s pos).1 : Nat)] rfl rfl ?c1 ?c2 ?c3 ?c4 ?c5 ?_)
      case c1 => exact cell_one_new _ _ _
      case c2 => intro u hu; simp at hu; subst hu; rfl
      case c3 => unfold maxLen; omega
      case c4 => omega
      case c5 => simp; omega
      intro v1 w1 hl1 hg1 _
      have ha1 := (ha.alloc (.cells #[.int .i32 ((Utf8.decode s pos).1 : Nat)] 21)).kept hg1 (own_apart ha hl (by decide))
      have hb1 := (hbw.alloc hB (.cells #[.int .i32 ((Utf8.decode s pos).1 : Nat)] 21)).grown hg1 (by simp; omega) (fun g hg => (hl.lt g hg).1)
      have hB1 := hb1.size
      clear hg1
      go_wp2_with (at_builtin; refine wpList_append_own _ rfl (.tmp 26) (.tmp 28) 64 rfl w.heap.size 3 iA (.int .i64 0) 1 8 Try.underlying64 hiA hzA0 hzA1 hzA2 rfl (by decide) _ _ _ rfl (ha1.alloc _) ⟨w1.heap.size, 0, none⟩ 1 1 [.int .i64 (pos : Nat)] rfl rfl ?d1 ?d2 ?d3 ?d4 ?d5 ?_)
      case d1 => exact cell_one_new _ _ _
      case d2 => intro u hu; simp at hu; subst hu; rfl
      case d3 => unfold maxLen; omega
      case d4 => omega
      case d5 => simp; omega
      intro v2 w2 ha2 hg2 _
      have hl2 := (hl1.alloc (.cells #[.int .i64 (pos : Nat)] 3)).kept hg2 (own_apart hl1 ha1 (by decide))
      have hb2 := (hb1.alloc hB1 (.cells #[.int .i64 (pos : Nat)] 3)).grown hg2 (by simp; omega) (fun g hg => (ha1.lt g hg).1)
      clear hg2
      have hrel2 : Rel s w (R ++ [Utf8.decode s pos]) v1 v2 (pos + (Utf8.decode s pos).2) w2 := by
        refine ⟨?_, ?_, hb2, ?_, ?_, ?_, hwl⟩
        · rw [runeVals_snoc, List.length_append]; exact hl2
        · rw [atVals_snoc R _ pos HW.out.symm, List.length_append]; exact ha2
        · rw [← HR.out, HN.out]; simp
        · rw [Ru.wsum_append, HW.out]; simp
        · rw [List.length_append]; simp; omega
      have HREL := Lib.hid hrel2; clear hrel2 hl1 ha1 hb1 hl2 ha2 hb2 hl ha hbw
      have hall : ∀ c, (b && Ru.fine (Utf8.decode s pos)) = c → (R ++ [Utf8.decode s pos]).all Ru.fine = c := by
        intro c hc; rw [← hc, List.all_append, HG.out]; simp
      have HALL := Lib.hid hall; clear hall
      cases b
      · go_wp2
        go_roundw
        case rel => exact ⟨_, _, false, by go_num, rfl, HALL.out _ rfl, HREL.out⟩
        case measure => simp [intOf]; omega
      · by_cases hr : (Utf8.decode s pos).1 = 65533
        · have hr2 : (((Utf8.decode s pos).1 : Int) != 65533) = false := by rw [hr]; rfl
          have HR1 := Lib.hid hr; clear hr
          by_cases hn : (Utf8.decode s pos).2 = 3
          · have hn2 : (((Utf8.decode s pos).2 : Int) == 3) = true := by rw [hn]; rfl
            have HN1 := Lib.hid hn; clear hn
            go_wp2
            go_roundw
            case rel => exact ⟨_, _, true, by go_num, rfl, HALL.out _ (by rw [Bool.true_and, Ru.fine_iff]; exact .inr HN1.out), HREL.out⟩
            case measure => simp [intOf]; omega
          · have hn2 : (((Utf8.decode s pos).2 : Int) == 3) = false := by rw [beq_eq_false_iff_ne]; omega
            have HN1 := Lib.hid hn; clear hn
            go_wp2
            go_roundw
            case rel => exact ⟨_, _, false, by go_num, rfl, HALL.out _ (by rw [Bool.true_and]; unfold Ru.fine; rw [HR1.out, beq_eq_false_iff_ne.2 HN1.out]; rfl), HREL.out⟩
            case measure => simp [intOf]; omega
        · have hr2 : (((Utf8.decode s pos).1 : Int) != 65533) = true := by rw [bne_iff_ne]; omega
          have HR1 := Lib.hid hr; clear hr
          go_wp2
          go_roundw
          case rel => exact ⟨_, _, true, by go_num, rfl, HALL.out _ (by rw [Bool.true_and, Ru.fine_iff]; exact .inl HR1.out), HREL.out⟩
          case measure => simp [intOf]; omega
    · go_wp2
      go_ret3
      have := HR.out
      rw [rest_end s pos hp, Ru.rns_nil, List.append_nil] at this
      rw [this] at hl ha
      refine ⟨_, _, ?_, hl, ha, hbw⟩
      have hg := HG.out
      rw [this] at hg
      unfold Ru.vld; rw [hg]; rfl
def RunesB (s : ByteArray) (b : Bool) (w : World) (e : Ending) (w' : World) : Prop :=
  ∃ vl va, e = .returned (.tuple #[vl, va, .bool b]) ∧ w'.ownsRow w.heap.size 21 1 vl (Ru.cnt s.data.toList) (runeVals (Ru.rns s.data.toList)) ∧ w'.ownsRow w.heap.size 3 1 va (Ru.cnt s.data.toList) (atVals (Ru.rns s.data.toList)) ∧ Below w.heap.size w w'
theorem runes_is (s : ByteArray) (b : Bool) (w : World) (hs : s.size ≤ 1000000) (h : Ru.vld s.data.toList = b) : Calls Try.prog 39 #[.string s] w (RunesB s b w) :=
  (runes_any s w hs).mono fun e w' ⟨vl, va, he, hl, ha, hb⟩ => ⟨vl, va, by rw [he, h], hl, ha, hb⟩
end Go.Proofs.Ytdhppekfehbngaa
