/-
  The reference's PutRaw writes a value's kind, and its number or text, in new memory.
  Integers are in their ranges; a text has at most 1,000,000 bytes.
-/
import Derived.Test.YtffklbkdmfeimaaRePutText
import Derived.Test.YtffklbkdmfeimaaReEq
namespace Go.Proofs.Ytffklbkdmfeimaa
open Go.RowKit
set_option maxRecDepth 100000

def putR (r : Raw) : List UInt8 := Nu.put r.kind ++ (if r.kind = 1 then Nu.put r.n else if r.kind = 2 then Nu.putT r.s.data.toList else [])
def Raw.ok (r : Raw) : Prop := (-9223372036854775808 ≤ r.kind ∧ r.kind ≤ 9223372036854775807) ∧ (-9223372036854775808 ≤ r.n ∧ r.n ≤ 9223372036854775807) ∧ r.s.size ≤ 1000000
theorem made_app {l m : List UInt8} {w w' : World} {v : Value} (hown : w'.ownsRow w.heap.size 5 1 v (l.length + m.length) (Lib.byteCells l ++ Lib.byteCells m)) (hb : Below w.heap.size w w') : Made (l ++ m) w (.returned v) w' :=
  ⟨v, rfl, by unfold OwnB; rw [List.length_append, Lib.byteCells_append]; exact hown, hb⟩
theorem putT_len (s : ByteArray) : (Nu.putT s.data.toList).length ≤ s.size + 10 := by
  have h1 := Nu.put_len (s.data.toList.length : Int)
  unfold Nu.putT; rw [List.length_append]
  have e : s.data.toList.length = s.size := by rw [Array.length_toList]; rfl
  omega
theorem putT_ne (l : List UInt8) : 1 ≤ (Nu.putT l).length := by
  have h1 := Nu.put_ne (l.length : Int); unfold Nu.putT; rw [List.length_append]; omega

set_option maxRecDepth 100000 in
set_option maxHeartbeats 4000000 in
theorem rputRaw_any (r : Raw) (w : World) (hr : r.ok) : Calls Try.prog 21 #[r.val] w (Made (putR r) w) := by
  obtain ⟨iR, hiR, hzR0, hzR1, hzR2⟩ := info_parts Try.infoU8
  obtain ⟨k, n, t⟩ := r
  obtain ⟨⟨hk0, hk1⟩, ⟨hn0, hn1⟩, hs⟩ := hr
  simp only at hk0 hk1 hn0 hn1 hs
  unfold Raw.val
  have hkl := Nu.put_len k
  by_cases h1 : k = 1
  · subst h1
    have hp : putR ⟨1, n, t⟩ = Nu.put 1 ++ Nu.put n := by unfold putR; simp
    have hnl := Nu.put_len n
    have HP := Lib.hid hp; clear hp
    go_enter Try.func21, Try.ntmps21
    go_wp2_with fail
    refine (rput_any _ _ hk0 hk1).mono ?_
    rintro e w1 ⟨v, rfl, hown, hb⟩
    have c0 : w1.cell? ⟨w.heap.size, 0, none⟩ = some (.int .i64 1) := (hb.cell (p := ⟨w.heap.size, 0, none⟩) (by simp)).trans (World.cell?_alloc_mark w _ _ _ 0)
    have c1 : w1.cell? ⟨w.heap.size, 1, none⟩ = some (.int .i64 n) := (hb.cell (p := ⟨w.heap.size, 1, none⟩) (by simp)).trans (World.cell?_alloc_mark w _ _ _ 1)
    have hown := hown.down (B := w.heap.size) (by simp)
    have hbw : Below w.heap.size w w1 := (below_one w _).trans (hb.mono (by simp))
    clear hb
    go_wp2_with fail
    refine (rput_any _ _ hn0 hn1).mono ?_
    rintro e w2 ⟨v2, rfl, hown2, hb2⟩
    obtain ⟨g, c, rfl, hg, hcells⟩ := hown2.at_ (Nu.put_ne n)
    have hown := hown.below hb2
    have hbw := hbw.trans (hb2.mono hbw.size)
    have hB := hbw.size
    clear hown2 hb2 c0 c1
    go_wp2_with (at_builtin; refine wpList_append_own _ rfl (.tmp 11) (.tmp 14) 24 rfl w.heap.size 5 iR (.int .u8 0) 1 1 Try.underlying24 hiR hzR0 hzR1 hzR2 rfl (by decide) _ _ _ rfl hown ⟨g, 0, none⟩ (Nu.put n).length c (Lib.byteCells (Nu.put n)) rfl (by rw [Lib.byteCells_length, Nat.mul_one]) hcells (byteCells_one _) ?c3 ?c4 hB ?_)
    case c3 => unfold maxLen; omega
    case c4 => omega
    intro v3 w3 hown3 hg3 _
    have hb3 := hbw.grown hg3 hB (fun g hg => (hown.lt g hg).1)
    go_wp2
    go_ret
    rw [HP.out]
    exact made_app hown3 hb3
  · by_cases h2 : k = 2
    · subst h2
      have hp : putR ⟨2, n, t⟩ = Nu.put 2 ++ Nu.putT t.data.toList := by unfold putR; simp
      have hnl := putT_len t
      have HP := Lib.hid hp; clear hp
      go_enter Try.func21, Try.ntmps21
      go_wp2_with fail
      refine (rput_any _ _ hk0 hk1).mono ?_
      rintro e w1 ⟨v, rfl, hown, hb⟩
      have c0 : w1.cell? ⟨w.heap.size, 0, none⟩ = some (.int .i64 2) := (hb.cell (p := ⟨w.heap.size, 0, none⟩) (by simp)).trans (World.cell?_alloc_mark w _ _ _ 0)
      have c1 : w1.cell? ⟨w.heap.size, 2, none⟩ = some (.string t) := (hb.cell (p := ⟨w.heap.size, 2, none⟩) (by simp)).trans (World.cell?_alloc_mark w _ _ _ 2)
      have hown := hown.down (B := w.heap.size) (by simp)
      have hbw : Below w.heap.size w w1 := (below_one w _).trans (hb.mono (by simp))
      clear hb
      go_wp2_with fail
      refine (rputText_any t _ hs).mono ?_
      rintro e w2 ⟨v2, rfl, hown2, hb2⟩
      obtain ⟨g, c, rfl, hg, hcells⟩ := hown2.at_ (putT_ne _)
      have hown := hown.below hb2
      have hbw := hbw.trans (hb2.mono hbw.size)
      have hB := hbw.size
      clear hown2 hb2 c0 c1
      generalize hy : Nu.putT t.data.toList = y at *
      clear hy
      go_wp2_with (at_builtin; refine wpList_append_own _ rfl (.tmp 18) (.tmp 21) 24 rfl w.heap.size 5 iR (.int .u8 0) 1 1 Try.underlying24 hiR hzR0 hzR1 hzR2 rfl (by decide) _ _ _ rfl hown ⟨g, 0, none⟩ y.length c (Lib.byteCells y) rfl (by rw [Lib.byteCells_length, Nat.mul_one]) hcells (byteCells_one _) ?c3 ?c4 hB ?_)
      case c3 => unfold maxLen; omega
      case c4 => omega
      intro v3 w3 hown3 hg3 _
      have hb3 := hbw.grown hg3 hB (fun g hg => (hown.lt g hg).1)
      go_wp2
      go_ret
      rw [HP.out]
      exact made_app hown3 hb3
    · have hp : putR ⟨k, n, t⟩ = Nu.put k := by unfold putR; simp [h1, h2]
      have HP := Lib.hid hp; clear hp
      have k1 : (k == 1) = false := by rw [beq_eq_false_iff_ne]; exact h1
      have k2 : (k == 2) = false := by rw [beq_eq_false_iff_ne]; exact h2
      clear h1 h2
      go_enter Try.func21, Try.ntmps21
      go_wp2_with fail
      refine (rput_any _ _ hk0 hk1).mono ?_
      rintro e w1 ⟨v, rfl, hown, hb⟩
      have c0 : w1.cell? ⟨w.heap.size, 0, none⟩ = some (.int .i64 k) := (hb.cell (p := ⟨w.heap.size, 0, none⟩) (by simp)).trans (World.cell?_alloc_mark w _ _ _ 0)
      have hown := hown.down (B := w.heap.size) (by simp)
      have hbw : Below w.heap.size w w1 := (below_one w _).trans (hb.mono (by simp))
      clear hb
      go_wp2
      go_ret
      rw [HP.out]
      exact ⟨v, rfl, hown, hbw⟩
end Go.Proofs.Ytffklbkdmfeimaa
