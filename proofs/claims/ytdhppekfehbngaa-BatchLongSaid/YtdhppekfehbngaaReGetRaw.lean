/-
  The reference's PutRaw writes a value's kind, and its number or text, in new memory.
  Integers are in their ranges; a text has at most 1,000,000 bytes.
-/
import Derived.Test.YtdhppekfehbngaaRePut
import Derived.Test.YtdhppekfehbngaaReEq
set_option linter.unusedSimpArgs false
set_option linter.unusedVariables false
namespace Go.Proofs.Ytdhppekfehbngaa
open Go.RowKit
set_option maxRecDepth 100000

def putR (r : Raw) : List UInt8 := Nu.put r.kind ++ (if r.kind = 1 then Nu.put r.n else if r.kind = 2 then Nu.putT r.s.data.toList else [])
def Raw.ok (r : Raw) : Prop := (-9223372036854775808 ≤ r.kind ∧ r.kind ≤ 9223372036854775807) ∧ (-9223372036854775808 ≤ r.n ∧ r.n ≤ 9223372036854775807) ∧ r.s.size ≤ 1000000
theorem made_app {l m : List UInt8} {w w' : World} {v : Value} (hown : w'.ownsRow w.heap.size 5 1 v (l.length + m.length) (Lib.byteCells l ++ Lib.byteCells m)) (hb : Below w.heap.size w w') : Made (l ++ m) w (.returned v) w' :=
  ⟨v, rfl, by unfold OwnB; rw [List.length_append, Lib.byteCells_append]; exact hown, hb⟩
theorem putT_len (s : ByteArray) : (Nu.putT s.data.toList).length ≤ s.size + 10 := by
  have h1 := Nu.put_len (s.data.toList.length : Int)
  unfold Nu.putT; rw [List.length_append]
  have e : s.data.toList.length = s.size := by rw [Array.length_toList]; rfl
  omega
theorem putT_ne (l : List UInt8) : 1 ≤ (Nu.putT l).length := by
  have h1 := Nu.put_ne (l.length : Int); unfold Nu.putT; rw [List.length_append]; omega

set_option maxRecDepth 100000 in
set_option maxHeartbeats 4000000 in
theorem rputRaw_any (r : Raw) (w : World) (hr : r.ok) : Calls Try.prog 42 #[r.val] w (Made (putR r) w) := by
  obtain ⟨iR, hiR, hzR0, hzR1, hzR2⟩ := info_parts Try.infoU8
  obtain ⟨k, n, t⟩ := r
  obtain ⟨⟨hk0, hk1⟩, ⟨hn0, hn1⟩, hs⟩ := hr
  simp only at hk0 hk1 hn0 hn1 hs
  unfold Raw.val
  have hkl := Nu.put_len k
  by_cases h1 : k = 1
  · subst h1
    have hp : putR ⟨1, n, t⟩ = Nu.put 1 ++ Nu.put n := by unfold putR; simp
    have hnl := Nu.put_len n
    have HP := Lib.hid hp; clear hp
    go_enter Try.func42, Try.ntmps42
    go_wp2_with fail
    refine (rput_any _ _ hk0 hk1).mono ?_
    rintro e w1 ⟨v, rfl, hown, hb⟩
    have c0 : w1.cell? ⟨w.heap.size, 0, none⟩ = some (.int .i64 1) := (hb.cell (p := ⟨w.heap.size, 0, none⟩) (by simp)).trans (World.cell?_alloc_mark w _ _ _ 0)
    have c1 : w1.cell? ⟨w.heap.size, 1, none⟩ = some (.int .i64 n) := (hb.cell (p := ⟨w.heap.size, 1, none⟩) (by simp)).trans (World.cell?_alloc_mark w _ _ _ 1)
    have hown := hown.down (B := w.heap.size) (by simp)
    have hbw : Below w.heap.size w w1 := (below_one w _).trans (hb.mono (by simp))
    clear hb
    go_wp2_with fail
    refine (rput_any _ _ hn0 hn1).mono ?_
    rintro e w2 ⟨v2, rfl, hown2, hb2⟩
    obtain ⟨g, c, rfl, hg, hcells⟩ := hown2.at_ (Nu.put_ne n)
    have hown := hown.below hb2
    have hbw := hbw.trans (hb2.mono hbw.size)
    have hB := hbw.size
    clear hown2 hb2 c0 c1
    go_wp2_with (at_builtin; refine wpList_append_own _ rfl (.tmp 11) (.tmp 14) 34 rfl w.heap.size 5 iR (.int .u8 0) 1 1 Try.underlying34 hiR hzR0 hzR1 hzR2 rfl (by decide) _ _ _ rfl hown ⟨g, 0, none⟩ (Nu.put n).length c (Lib.byteCells (Nu.put n)) rfl (by rw [Lib.byteCells_length, Nat.mul_one]) hcells (byteCells_one _) ?c3 ?c4 hB ?_)
    case c3 => unfold maxLen; omega
    case c4 => omega
    intro v3 w3 hown3 hg3 _
    have hb3 := hbw.grown hg3 hB (fun g hg => (hown.lt g hg).1)
    go_wp2
    go_ret
    rw [HP.out]
    exact made_app hown3 hb3
  · by_cases h2 : k = 2
    · subst h2
      have hp : putR ⟨2, n, t⟩ = Nu.put 2 ++ Nu.putT t.data.toList := by unfold putR; simp
      have hnl := putT_len t
      have HP := Lib.hid hp; clear hp
      go_enter Try.func42, Try.ntmps42
      go_wp2_with fail
      refine (rput_any _ _ hk0 hk1).mono ?_
      rintro e w1 ⟨v, rfl, hown, hb⟩
      have c0 : w1.cell? ⟨w.heap.size, 0, none⟩ = some (.int .i64 2) := (hb.cell (p := ⟨w.heap.size, 0, none⟩) (by simp)).trans (World.cell?_alloc_mark w _ _ _ 0)
      have c1 : w1.cell? ⟨w.heap.size, 2, none⟩ = some (.string t) := (hb.cell (p := ⟨w.heap.size, 2, none⟩) (by simp)).trans (World.cell?_alloc_mark w _ _ _ 2)
      have hown := hown.down (B := w.heap.size) (by simp)
      have hbw : Below w.heap.size w w1 := (below_one w _).trans (hb.mono (by simp))
      clear hb
      go_wp2_with fail
      refine (rputText_any t _ hs).mono ?_
      rintro e w2 ⟨v2, rfl, hown2, hb2⟩
      obtain ⟨g, c, rfl, hg, hcells⟩ := hown2.at_ (putT_ne _)
      have hown := hown.below hb2
      have hbw := hbw.trans (hb2.mono hbw.size)
      have hB := hbw.size
      clear hown2 hb2 c0 c1
      generalize hy : Nu.putT t.data.toList = y at *
      clear hy
      go_wp2_with (at_builtin; refine wpList_append_own _ rfl (.tmp 18) (.tmp 21) 34 rfl w.heap.size 5 iR (.int .u8 0) 1 1 Try.underlying34 hiR hzR0 hzR1 hzR2 rfl (by decide) _ _ _ rfl hown ⟨g, 0, none⟩ y.length c (Lib.byteCells y) rfl (by rw [Lib.byteCells_length, Nat.mul_one]) hcells (byteCells_one _) ?c3 ?c4 hB ?_)
      case c3 => unfold maxLen; omega
      case c4 => omega
      intro v3 w3 hown3 hg3 _
      have hb3 := hbw.grown hg3 hB (fun g hg => (hown.lt g hg).1)
      go_wp2
      go_ret
      rw [HP.out]
      exact made_app hown3 hb3
    · have hp : putR ⟨k, n, t⟩ = Nu.put k := by unfold putR; simp [h1, h2]
      have HP := Lib.hid hp; clear hp
      have k1 : (k == 1) = false := by rw [beq_eq_false_iff_ne]; exact h1
      have k2 : (k == 2) = false := by rw [beq_eq_false_iff_ne]; exact h2
      clear h1 h2
      go_enter Try.func42, Try.ntmps42
      go_wp2_with fail
      refine (rput_any _ _ hk0 hk1).mono ?_
      rintro e w1 ⟨v, rfl, hown, hb⟩
      have c0 : w1.cell? ⟨w.heap.size, 0, none⟩ = some (.int .i64 k) := (hb.cell (p := ⟨w.heap.size, 0, none⟩) (by simp)).trans (World.cell?_alloc_mark w _ _ _ 0)
      have hown := hown.down (B := w.heap.size) (by simp)
      have hbw : Below w.heap.size w w1 := (below_one w _).trans (hb.mono (by simp))
      clear hb
      go_wp2
      go_ret
      rw [HP.out]
      exact ⟨v, rfl, hown, hbw⟩
end Go.Proofs.Ytdhppekfehbngaa
/-
  The reference's GetRaw reads a value as the plain function says, whatever the bytes.
  The bytes are there in memory, at most 1,000,000.
-/
namespace Go.Proofs.Ytdhppekfehbngaa
open Go.RowKit
set_option maxRecDepth 100000

def noRaw : Raw := ⟨0, 0, ⟨#[]⟩⟩
/-- what GetRaw reads -/
def getR (l : List UInt8) : Raw × Nat × Nat :=
  if (Nu.get l).2.2 ≠ 0 then (noRaw, 0, (Nu.get l).2.2)
  else if (Nu.get l).1 = 0 then (noRaw, (Nu.get l).2.1, 0)
  else if (Nu.get l).1 = 1 then
    (if (Nu.get (l.drop (Nu.get l).2.1)).2.2 ≠ 0 then (noRaw, 0, (Nu.get (l.drop (Nu.get l).2.1)).2.2)
     else (⟨1, (Nu.get (l.drop (Nu.get l).2.1)).1, ⟨#[]⟩⟩, (Nu.get l).2.1 + (Nu.get (l.drop (Nu.get l).2.1)).2.1, 0))
  else if (Nu.get l).1 = 2 then
    (if (Nu.getT (l.drop (Nu.get l).2.1)).2.2 ≠ 0 then (noRaw, 0, (Nu.getT (l.drop (Nu.get l).2.1)).2.2)
     else if (Ru.vld (Nu.getT (l.drop (Nu.get l).2.1)).1 && decide ((Nu.getT (l.drop (Nu.get l).2.1)).1.length ≤ 200)) = true then (⟨2, 0, ⟨(Nu.getT (l.drop (Nu.get l).2.1)).1.toArray⟩⟩, (Nu.get l).2.1 + (Nu.getT (l.drop (Nu.get l).2.1)).2.1, 0)
     else (noRaw, 0, 1))
  else (noRaw, 0, 1)
def GotR (r : Raw × Nat × Nat) (w : World) (e : Ending) (w' : World) : Prop := e = .returned (.tuple #[r.1.val, .int .i64 r.2.1, .int .i64 r.2.2]) ∧ Below w.heap.size w w'

theorem getR_err (l : List UInt8) (k : Int) (n e : Nat) (h : Nu.get l = (k, n, e)) (he : e ≠ 0) : getR l = (noRaw, 0, e) := by
  unfold getR; rw [h]; exact if_pos he
theorem getR_0 (l : List UInt8) (n : Nat) (h : Nu.get l = (0, n, 0)) : getR l = (noRaw, n, 0) := by
  unfold getR; rw [h]; simp
theorem getR_1e (l : List UInt8) (n : Nat) (m : Int) (j e : Nat) (h : Nu.get l = (1, n, 0)) (h1 : Nu.get (l.drop n) = (m, j, e)) (he : e ≠ 0) : getR l = (noRaw, 0, e) := by
  unfold getR; rw [h]; simp [h1, he]
theorem getR_1 (l : List UInt8) (n : Nat) (m : Int) (j : Nat) (h : Nu.get l = (1, n, 0)) (h1 : Nu.get (l.drop n) = (m, j, 0)) : getR l = (⟨1, m, ⟨#[]⟩⟩, n + j, 0) := by
  unfold getR; rw [h]; simp [h1]
theorem getR_2e (l : List UInt8) (n : Nat) (t : List UInt8) (j e : Nat) (h : Nu.get l = (2, n, 0)) (h1 : Nu.getT (l.drop n) = (t, j, e)) (he : e ≠ 0) : getR l = (noRaw, 0, e) := by
  unfold getR; rw [h]; simp [h1, he]
theorem getR_2 (l : List UInt8) (n : Nat) (t : List UInt8) (j : Nat) (h : Nu.get l = (2, n, 0)) (h1 : Nu.getT (l.drop n) = (t, j, 0)) : getR l = if (Ru.vld t && decide (t.length ≤ 200)) = true then (⟨2, 0, ⟨t.toArray⟩⟩, n + j, 0) else (noRaw, 0, 1) := by
  unfold getR; rw [h]; simp [h1]
theorem getR_x (l : List UInt8) (k : Int) (n : Nat) (h : Nu.get l = (k, n, 0)) (h0 : k ≠ 0) (h1 : k ≠ 1) (h2 : k ≠ 2) : getR l = (noRaw, 0, 1) := by
  unfold getR; rw [h]; simp [h0, h1, h2]
theorem rmay_is (v : Value) (r : Raw) (b : Bool) (w : World) (hv : v = r.val) (hs : r.s.size ≤ 1000000) (h : mayR r = b) : Calls Try.prog 28 #[v] w (Bl b w) := by
  rw [hv, ← h]; exact rmay_any r w hs

theorem getT_le (l : List UInt8) : (Nu.getT l).1.length ≤ l.length := by
  rw [getT_of]; split
  · simp
  · split
    · simp
    · split
      · simp
      · simp only [List.length_take, List.length_drop]; omega
theorem getT_len (l : List UInt8) : (Nu.getT l).2.1 ≤ l.length := by
  have h := Nu.get_len l
  rw [getT_of]; split
  · simp
  · split
    · simp
    · split
      · simp
      · simp only; omega
theorem add_lit (g o j : Nat) : (some (⟨g, o, Option.none⟩ : Addr)).map (·.add j) = some ⟨g, o + j, Option.none⟩ := by
  show some (Addr.add ⟨g, o, Option.none⟩ j) = _
  unfold Addr.add; split <;> simp_all
end Go.Proofs.Ytdhppekfehbngaa
