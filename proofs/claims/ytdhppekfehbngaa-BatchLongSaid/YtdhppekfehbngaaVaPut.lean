/-
  Package value's Put writes the bytes that come in, and a value's kind and its number or text behind them, in new memory; of what may not be it writes nothing.
  The bytes are there in memory, at most 1,000,000; integers are in their ranges; a text has at most 1,000,000 bytes.
-/
import Derived.Test.YtdhppekfehbngaaVaMay
import Derived.Test.YtdhppekfehbngaaNuPut
import Derived.Test.YtdhppekfehbngaaReGetRaw
set_option linter.unusedSimpArgs false
set_option linter.unusedVariables false
namespace Go.Proofs.Ytdhppekfehbngaa
open Go.RowKit
set_option maxRecDepth 100000

theorem may_kind {r : Raw} (h : mayR r = true) : r.kind = 0 ∨ r.kind = 1 ∨ r.kind = 2 := by
  unfold mayR at h
  by_cases h0 : r.kind = 0
  · exact .inl h0
  · by_cases h1 : r.kind = 1
    · exact .inr (.inl h1)
    · by_cases h2 : r.kind = 2
      · exact .inr (.inr h2)
      · rw [if_neg h0, if_neg h1, if_neg h2] at h; cases h
set_option maxHeartbeats 400000 in
theorem vput_no (k : Int) (n : Int) (t : ByteArray) (u : Value) (B : Nat) (l : List UInt8) (w : World) (h : Byt w B u l) (hl : l.length ≤ 1000000) (hB : B ≤ w.heap.size) (hs : t.size ≤ 1000000) (hm : mayR ⟨k, n, t⟩ = false) :
    Calls Try.prog 46 #[u, (Raw.mk k n t).val] w (Made (l) w) := by
  have hmay := fun W => vmay_any ⟨k, n, t⟩ W hs
  rw [hm] at hmay
  unfold Raw.val at hmay
  unfold Raw.val
  have HM := Lib.hid hmay; clear hmay hm
  have hh := fun (W : World) (hW : Below w.heap.size w W) => h.below hW hB
  have HH := Lib.hid hh; clear hh h
  go_enter Try.func46, Try.ntmps46
  go_wp2_with fail
  refine (HM.out _).mono ?_
  rintro e w1 ⟨rfl, hb⟩
  have c0 : w1.cell? ⟨w.heap.size, 0, none⟩ = some (.int .i64 k) := (hb.cell (p := ⟨w.heap.size, 0, none⟩) (by simp)).trans (by go_simp)
  have c1 : w1.cell? ⟨w.heap.size, 1, none⟩ = some (.int .i64 n) := (hb.cell (p := ⟨w.heap.size, 1, none⟩) (by simp)).trans (by go_simp)
  have c2 : w1.cell? ⟨w.heap.size, 2, none⟩ = some (.string t) := (hb.cell (p := ⟨w.heap.size, 2, none⟩) (by simp)).trans (by go_simp)
  have hw1 : w.heap.size < w1.heap.size := by have := hb.size; simp at this; omega
  have hbw : Below w.heap.size w w1 := (below_one w _).trans (hb.mono (by simp))
  clear hb
  go_wp2_with (at_builtin; refine wpList_append_byt rfl _ _ rfl w.heap.size _ _ _ [] _ rfl (ownB_nil _ _) rfl (HH.out _ hbw) ?c2 hbw.size ?_)
  case c2 => simp; omega
  intro v2 w2 hown2 hb2
  have hb := hbw.trans hb2
  go_wp2
  go_ret
  exact ⟨v2, rfl, by simpa using hown2, hb⟩
set_option maxHeartbeats 400000 in
theorem vput_0 (n : Int) (t : ByteArray) (u : Value) (B : Nat) (l : List UInt8) (w : World) (h : Byt w B u l) (hl : l.length ≤ 1000000) (hB : B ≤ w.heap.size) (hs : t.size ≤ 1000000) (hm : mayR ⟨0, n, t⟩ = true) :
    Calls Try.prog 46 #[u, (Raw.mk 0 n t).val] w (Made (l ++ Nu.put 0) w) := by
  have hmay := fun W => vmay_any ⟨0, n, t⟩ W hs
  rw [hm] at hmay
  unfold Raw.val at hmay
  unfold Raw.val
  have HM := Lib.hid hmay; clear hmay hm
  have hh := fun (W : World) (hW : Below w.heap.size w W) => h.below hW hB
  have HH := Lib.hid hh; clear hh h
  go_enter Try.func46, Try.ntmps46
  go_wp2_with fail
  refine (HM.out _).mono ?_
  rintro e w1 ⟨rfl, hb⟩
  have c0 : w1.cell? ⟨w.heap.size, 0, none⟩ = some (.int .i64 0) := (hb.cell (p := ⟨w.heap.size, 0, none⟩) (by simp)).trans (by go_simp)
  have c1 : w1.cell? ⟨w.heap.size, 1, none⟩ = some (.int .i64 n) := (hb.cell (p := ⟨w.heap.size, 1, none⟩) (by simp)).trans (by go_simp)
  have c2 : w1.cell? ⟨w.heap.size, 2, none⟩ = some (.string t) := (hb.cell (p := ⟨w.heap.size, 2, none⟩) (by simp)).trans (by go_simp)
  have hw1 : w.heap.size < w1.heap.size := by have := hb.size; simp at this; omega
  have hbw : Below w.heap.size w w1 := (below_one w _).trans (hb.mono (by simp))
  clear hb
  go_wp2_with fail
  refine (nput_any u B l 0 w1 (HH.out _ hbw) (by omega) (Nat.le_trans hB hbw.size) (by omega) (by omega)).mono ?_
  rintro e w2 ⟨v2, rfl, hown2, hb2⟩
  have c1 := (hb2.cell (p := ⟨w.heap.size, 1, none⟩) hw1).trans c1
  have c2 := (hb2.cell (p := ⟨w.heap.size, 2, none⟩) hw1).trans c2
  have c0 := (hb2.cell (p := ⟨w.heap.size, 0, none⟩) hw1).trans c0
  have hown := hown2.down (B := w.heap.size) hbw.size
  have hbw := hbw.trans (hb2.mono hbw.size)
  have hby := Byt.of_own hown2
  clear hb2 hown2
  go_wp2
  go_ret
  exact ⟨v2, rfl, hown, hbw⟩
set_option maxHeartbeats 400000 in
theorem vput_1 (n : Int) (t : ByteArray) (u : Value) (B : Nat) (l : List UInt8) (w : World) (h : Byt w B u l) (hl : l.length ≤ 1000000) (hB : B ≤ w.heap.size) (h0 : -9223372036854775808 ≤ n) (h1 : n ≤ 9223372036854775807) (hs : t.size ≤ 1000000) (hm : mayR ⟨1, n, t⟩ = true) :
    Calls Try.prog 46 #[u, (Raw.mk 1 n t).val] w (Made (l ++ (Nu.put 1 ++ Nu.put n)) w) := by
  have hmay := fun W => vmay_any ⟨1, n, t⟩ W hs
  rw [hm] at hmay
  unfold Raw.val at hmay
  unfold Raw.val
  have HM := Lib.hid hmay; clear hmay hm
  have hh := fun (W : World) (hW : Below w.heap.size w W) => h.below hW hB
  have HH := Lib.hid hh; clear hh h
  have hpl := Nu.put_len 1
  go_enter Try.func46, Try.ntmps46
  go_wp2_with fail
  refine (HM.out _).mono ?_
  rintro e w1 ⟨rfl, hb⟩
  have c0 : w1.cell? ⟨w.heap.size, 0, none⟩ = some (.int .i64 1) := (hb.cell (p := ⟨w.heap.size, 0, none⟩) (by simp)).trans (by go_simp)
  have c1 : w1.cell? ⟨w.heap.size, 1, none⟩ = some (.int .i64 n) := (hb.cell (p := ⟨w.heap.size, 1, none⟩) (by simp)).trans (by go_simp)
  have c2 : w1.cell? ⟨w.heap.size, 2, none⟩ = some (.string t) := (hb.cell (p := ⟨w.heap.size, 2, none⟩) (by simp)).trans (by go_simp)
  have hw1 : w.heap.size < w1.heap.size := by have := hb.size; simp at this; omega
  have hbw : Below w.heap.size w w1 := (below_one w _).trans (hb.mono (by simp))
  clear hb
  go_wp2_with fail
  refine (nput_any u B l 1 w1 (HH.out _ hbw) (by omega) (Nat.le_trans hB hbw.size) (by omega) (by omega)).mono ?_
  rintro e w2 ⟨v2, rfl, hown2, hb2⟩
  have c1 := (hb2.cell (p := ⟨w.heap.size, 1, none⟩) hw1).trans c1
  have c2 := (hb2.cell (p := ⟨w.heap.size, 2, none⟩) hw1).trans c2
  have c0 := (hb2.cell (p := ⟨w.heap.size, 0, none⟩) hw1).trans c0
  have hown := hown2.down (B := w.heap.size) hbw.size
  have hbw := hbw.trans (hb2.mono hbw.size)
  have hby := Byt.of_own hown2
  clear hb2 hown2
  have hS := hbw.size
  go_wp2_with fail
  refine (nput_any v2 _ (l ++ Nu.put 1) n w2 hby (by rw [List.length_append]; omega) (Nat.le_refl _) h0 h1).mono ?_
  rintro e w3 ⟨v3, rfl, hown3, hb3⟩
  have hown3 := hown3.down (B := w.heap.size) hS
  have hbw := hbw.trans (hb3.mono hS)
  clear hb3 hown hby c0 c1 c2
  go_wp2
  go_ret
  exact ⟨v3, rfl, by rw [← List.append_assoc]; exact hown3, hbw⟩
set_option maxHeartbeats 400000 in
theorem vput_2 (n : Int) (t : ByteArray) (u : Value) (B : Nat) (l : List UInt8) (w : World) (h : Byt w B u l) (hl : l.length ≤ 1000000) (hB : B ≤ w.heap.size) (hs : t.size ≤ 1000000) (hm : mayR ⟨2, n, t⟩ = true) :
    Calls Try.prog 46 #[u, (Raw.mk 2 n t).val] w (Made (l ++ (Nu.put 2 ++ Nu.putT t.data.toList)) w) := by
  have hmay := fun W => vmay_any ⟨2, n, t⟩ W hs
  rw [hm] at hmay
  unfold Raw.val at hmay
  unfold Raw.val
  have HM := Lib.hid hmay; clear hmay hm
  have hh := fun (W : World) (hW : Below w.heap.size w W) => h.below hW hB
  have HH := Lib.hid hh; clear hh h
  have hpl := Nu.put_len 2
  go_enter Try.func46, Try.ntmps46
  go_wp2_with fail
  refine (HM.out _).mono ?_
  rintro e w1 ⟨rfl, hb⟩
  have c0 : w1.cell? ⟨w.heap.size, 0, none⟩ = some (.int .i64 2) := (hb.cell (p := ⟨w.heap.size, 0, none⟩) (by simp)).trans (by go_simp)
  have c1 : w1.cell? ⟨w.heap.size, 1, none⟩ = some (.int .i64 n) := (hb.cell (p := ⟨w.heap.size, 1, none⟩) (by simp)).trans (by go_simp)
  have c2 : w1.cell? ⟨w.heap.size, 2, none⟩ = some (.string t) := (hb.cell (p := ⟨w.heap.size, 2, none⟩) (by simp)).trans (by go_simp)
  have hw1 : w.heap.size < w1.heap.size := by have := hb.size; simp at this; omega
  have hbw : Below w.heap.size w w1 := (below_one w _).trans (hb.mono (by simp))
  clear hb
  go_wp2_with fail
  refine (nput_any u B l 2 w1 (HH.out _ hbw) (by omega) (Nat.le_trans hB hbw.size) (by omega) (by omega)).mono ?_
  rintro e w2 ⟨v2, rfl, hown2, hb2⟩
  have c1 := (hb2.cell (p := ⟨w.heap.size, 1, none⟩) hw1).trans c1
  have c2 := (hb2.cell (p := ⟨w.heap.size, 2, none⟩) hw1).trans c2
  have c0 := (hb2.cell (p := ⟨w.heap.size, 0, none⟩) hw1).trans c0
  have hown := hown2.down (B := w.heap.size) hbw.size
  have hbw := hbw.trans (hb2.mono hbw.size)
  have hby := Byt.of_own hown2
  clear hb2 hown2
  have hS := hbw.size
  go_wp2_with fail
  refine (nputText_any v2 _ (l ++ Nu.put 2) t w2 hby (by rw [List.length_append]; omega) (by omega) (Nat.le_refl _)).mono ?_
  rintro e w3 ⟨v3, rfl, hown3, hb3⟩
  have hown3 := hown3.down (B := w.heap.size) hS
  have hbw := hbw.trans (hb3.mono hS)
  clear hb3 hown hby c0 c1 c2
  go_wp2
  go_ret
  exact ⟨v3, rfl, by rw [← List.append_assoc]; exact hown3, hbw⟩
theorem vput_any (r : Raw) (u : Value) (B : Nat) (l : List UInt8) (w : World) (h : Byt w B u l) (hl : l.length ≤ 1000000) (hB : B ≤ w.heap.size) (hr : r.ok) (hm : mayR r = true) :
    Calls Try.prog 46 #[u, r.val] w (Made (l ++ putR r) w) := by
  obtain ⟨k, n, t⟩ := r
  obtain ⟨⟨hk0, hk1⟩, ⟨hn0, hn1⟩, hs⟩ := hr
  simp only at hs hn0 hn1
  rcases may_kind hm with h0 | h0 | h0 <;> simp only at h0 <;> subst h0
  · have e : putR ⟨0, n, t⟩ = Nu.put 0 := by unfold putR; simp
    rw [e]; exact vput_0 n t u B l w h hl hB hs hm
  · have e : putR ⟨1, n, t⟩ = Nu.put 1 ++ Nu.put n := by unfold putR; simp
    rw [e]; exact vput_1 n t u B l w h hl hB hn0 hn1 hs hm
  · have e : putR ⟨2, n, t⟩ = Nu.put 2 ++ Nu.putT t.data.toList := by unfold putR; simp
    rw [e]; exact vput_2 n t u B l w h hl hB hs hm
end Go.Proofs.Ytdhppekfehbngaa
