/-
  Small functions of package disk: which names may be, which sizes, how many bytes are loose, a lasting file, a new disk, the count.
  There are no conditions beyond those that each lemma names.
-/
import Derived.Test.YtbdengcblncfmaaD9Box
import Derived.Test.YtbdengcblncfmaaSClone
set_option linter.unusedSimpArgs false
set_option linter.unusedVariables false
namespace Go.Proofs.Ytbdengcblncfmaa
open Go.RowKit
set_option maxRecDepth 100000

theorem dcl_low (c : UInt8) (t : List UInt8) : (low8 c = true → Ru.dcl (c :: t) = (c.toNat, 1)) ∧ (low8 c = false → (Ru.dcl (c :: t)).1 < 97 ∨ 122 < (Ru.dcl (c :: t)).1) := by
  have hb := c.toNat_lt
  unfold low8 Ru.dcl
  rw [Ru.byt_cons0]
  generalize Ru.byt (c :: t) 1 = b1
  generalize Ru.byt (c :: t) 2 = b2
  generalize Ru.byt (c :: t) 3 = b3
  generalize hn : (c :: t).length = n
  have h1 : 1 ≤ n := by rw [← hn, List.length_cons]; omega
  generalize c.toNat = b0 at *
  constructor
  · intro h
    have h := of_decide_eq_true h
    unfold Lib.decodeN
    simp only [show b0 < 128 by omega, if_true]
  · intro h
    have h := of_decide_eq_false h
    unfold Lib.decodeN
    split
    · simp only; omega
    · right
      repeat' split
      all_goals simp only
      all_goals omega
theorem goodN_size {s : ByteArray} (h : goodN s = true) : 1 ≤ s.size ∧ s.size ≤ 10 := by
  unfold goodN at h
  rw [Bool.and_eq_true, decide_eq_true_eq] at h
  exact h.2
set_option maxHeartbeats 2000000 in
theorem may9_any (s : ByteArray) (w : World) (hs : s.size ≤ maxLen) : Calls Try.prog 39 #[.string s] w fun e w' => e = .returned (.bool (goodN s)) ∧ Below w.heap.size w w' := by
  unfold maxLen at hs
  by_cases h0 : s.size < 1
  · have h00 : (s.size : Int) < 1 := by omega
    have hg : goodN s = false := by
      unfold goodN; rw [decide_eq_false (by omega), Bool.and_false]
    have HG := Lib.hid hg; clear hg
    go_enter Try.func39, Try.ntmps39
    go_wp2
    go_ret
    exact ⟨by rw [HG.out]; rfl, Below.refl _ _⟩
  by_cases h1 : 10 < s.size
  · have h00 : ¬ (s.size : Int) < 1 := by omega
    have h01 : 10 < (s.size : Int) := by omega
    have hg : goodN s = false := by
      unfold goodN; rw [decide_eq_false (by omega), Bool.and_false]
    have HG := Lib.hid hg; clear hg
    go_enter Try.func39, Try.ntmps39
    go_wp2
    go_ret
    exact ⟨by rw [HG.out]; rfl, Below.refl _ _⟩
  have h00 : ¬ (s.size : Int) < 1 := by omega
  have h01 : ¬ 10 < (s.size : Int) := by omega
  go_enter Try.func39, Try.ntmps39
  go_wp2
  go_loopw [2] (fun n wr => ∃ pos : Nat, n = .bool false ∧ wr.heap[w.heap.size]? = some (.stringIter s pos) ∧ Below w.heap.size w wr ∧ pos ≤ s.size ∧ (s.data.toList.take pos).all low8 = true) (fun _ wr => s.size - wr.iterPos w.heap.size)
  case atStart => exact ⟨0, rfl, World.iter_heap w s 0, below_new w _, Nat.zero_le _, rfl⟩
  case round =>
    obtain ⟨pos, rfl, hit, hbw, hle, hal⟩ := hrel
    have HAL := Lib.hid hal; clear hal
    by_cases hp : pos < s.size
    · have hnx : ∀ ty, (Instr.next (.pointer (some ⟨w.heap.size, 0, none⟩)) true ty).run Try.prog wr = _ := fun ty => Lib.run_next_any_at wr w.heap.size s pos ty hit hp
      have hp2 : pos < s.data.toList.length := by rw [Array.length_toList]; exact hp
      obtain ⟨x, hx⟩ : ∃ x, s.data.toList[pos] = x := ⟨_, rfl⟩
      have hdc : Utf8.decode s pos = Ru.dcl (x :: s.data.toList.drop (pos + 1)) := by
        rw [Ru.decode_list, List.drop_eq_getElem_cons hp2, hx]
      obtain ⟨hd1, hd2⟩ := dcl_low x (s.data.toList.drop (pos + 1))
      rw [← hdc] at hd1 hd2
      have hit2 := Lib.iterAt_heap wr w.heap.size s pos (pos + (Utf8.decode s pos).2) hit
      have hbw2 := Lib.below_iterAt hbw (k := w.heap.size) (Nat.le_refl _) s (pos + (Utf8.decode s pos).2)
      clear hdc
      generalize Utf8.decode s pos = dq at *
      obtain ⟨r, wd⟩ := dq
      by_cases hlow : low8 x = true
      · have h5 := hd1 hlow
        injection h5 with h5 h6
        subst h6
        have h7 : ¬ (r : Int) < 97 ∧ ¬ 122 < (r : Int) := by have := of_decide_eq_true hlow; omega
        obtain ⟨h7, h8⟩ := h7
        have hnl : (s.data.toList.take (pos + 1)).all low8 = true := by rw [List.take_succ_eq_append_getElem hp2, List.all_append, HAL.out, hx]; simp [hlow]
        have HNL := Lib.hid hnl
        clear hd1 hd2 hnl h5 hlow hx
        go_wp2
        go_roundw
        case rel => exact ⟨pos + 1, rfl, hit2, hbw2, by omega, HNL.out⟩
        case measure =>
          simp only [World.iterPos, hit2, hit]
          omega
      · have hno : goodN s = false := by
          unfold goodN
          rw [List.all_eq_false.2 ⟨x, by rw [← hx]; exact List.getElem_mem hp2, hlow⟩]; rfl
        have HNO := Lib.hid hno
        have h5 := hd2 (by simpa using hlow)
        have h5 : (r : Int) < 97 ∨ ¬ (r : Int) < 97 ∧ 122 < (r : Int) := by simp only at h5; omega
        clear hno hd1 hd2 hlow hx
        rcases h5 with h5 | ⟨h5, h6⟩
        all_goals
          go_wp2
          go_ret
          exact ⟨by rw [HNO.out]; rfl, hbw2⟩
    · have hnx : ∀ ty, (Instr.next (.pointer (some ⟨w.heap.size, 0, none⟩)) true ty).run Try.prog wr = _ := fun ty => Lib.run_next_end_at wr w.heap.size s pos ty hit hp
      have hgd : goodN s = true := by
        have h := HAL.out
        rw [List.take_of_length_le (by rw [Array.length_toList]; exact Nat.le_of_not_lt hp)] at h
        unfold goodN
        rw [h, decide_eq_true ⟨by omega, by omega⟩]; rfl
      have HGD := Lib.hid hgd; clear hgd
      go_wp2
      go_ret
      exact ⟨by rw [HGD.out]; rfl, hbw⟩
/-- what speaks against a file of that name and size -/
def chk9 (s : ByteArray) (n : Int) : Int := if goodN s = false then 1 else if 1048576 < n then 5 else 0
set_option maxHeartbeats 1000000 in
theorem check9_any (s : ByteArray) (n : Int) (w : World) (hs : s.size ≤ maxLen) : Calls Try.prog 28 #[.string s, .int .i64 n] w fun e w' => e = .returned (.int .i64 (chk9 s n)) ∧ Below w.heap.size w w' := by
  obtain ⟨g, hg⟩ : ∃ g, goodN s = g := ⟨_, rfl⟩
  obtain ⟨z, hz⟩ : ∃ z, chk9 s n = z := ⟨_, rfl⟩
  rw [hz]
  unfold chk9 at hz
  rw [hg] at hz
  have hm := may9_any s w hs
  rw [hg] at hm
  cases g
  · rw [if_pos rfl] at hz
    subst hz
    clear hg
    go_enter Try.func28, Try.ntmps28
    go_wp2_with fail
    refine hm.mono ?_
    rintro e k ⟨rfl, hk⟩
    go_wp2
    go_ret
    exact ⟨rfl, hk⟩
  · rw [if_neg (by simp)] at hz
    clear hg
    by_cases hn : 1048576 < n
    · rw [if_pos hn] at hz
      subst hz
      go_enter Try.func28, Try.ntmps28
      go_wp2_with fail
      refine hm.mono ?_
      rintro e k ⟨rfl, hk⟩
      go_wp2
      go_ret
      exact ⟨rfl, hk⟩
    · rw [if_neg hn] at hz
      subst hz
      go_enter Try.func28, Try.ntmps28
      go_wp2_with fail
      refine hm.mono ?_
      rintro e k ⟨rfl, hk⟩
      go_wp2
      go_ret
      exact ⟨rfl, hk⟩
set_option maxHeartbeats 1000000 in
theorem loose9_any (A : Option Addr) (n c : Nat) (fa : Int) (th : Bool) (w : World) (hn : n ≤ 1048576) (hf : 0 ≤ fa ∧ fa ≤ n) :
    Calls Try.prog 35 #[.agg #[.slice A n c, .int .i64 fa, .bool th]] w fun e w' => e = .returned (.int .i64 (n - fa)) ∧ Below w.heap.size w w' := by
  have hw : IntKind.i64.wrap ((n : Int) - fa) = n - fa := by rw [IntKind.wrap_i64]; omega
  go_enter Try.func35, Try.ntmps35
  go_wp2
  go_ret
  exact ⟨by first | rfl | (rw [hw]), by exact below_new _ _⟩
set_option maxHeartbeats 1000000 in
theorem lasting9_any (v : Value) (B : Nat) (l : List UInt8) (w : World) (h : Byt w B v l) (hB : B ≤ w.heap.size) (hl : l.length ≤ 140737488355328) :
    Calls Try.prog 32 #[v] w fun e w' => ∃ u, e = .returned (.agg #[u, .int .i64 (l.length : Nat), .bool true]) ∧ OwnB w.heap.size u l w' ∧ Below w.heap.size w w' := by
  obtain ⟨A, c, rfl, _⟩ := id h
  obtain ⟨q, hq⟩ : ∃ q, l.length = q := ⟨_, rfl⟩
  have H := Lib.hid h
  rw [hq]
  rw [hq] at H hl
  clear h
  go_enter Try.func32, Try.ntmps32
  go_wp2_with fail
  have hz0 : (w.alloc (Obj.cells #[.slice none 0 0, .int .i64 0, .bool false] 59)).heap.size = w.heap.size + 1 := by simp
  refine (clone9_is A q c (B := B) l _ (H.out.below (below_new _ _) hB) (by omega)).mono ?_
  rintro e k ⟨u, rfl, hu, hk⟩
  have hks := hk.size
  rw [hz0] at hu hks
  have hbk := (Blk.new w #[.slice none 0 0, .int .i64 0, .bool false] 59).below hk
  have q0 := hbk.cell (j := 0) rfl
  have q1 := hbk.cell (j := 1) rfl
  have q2 := hbk.cell (j := 2) rfl
  have f0 := hbk.frz 0
  have f1 := hbk.frz 1
  have f2 := hbk.frz 2
  have hb : Below w.heap.size w k := (below_new _ _).trans (hk.mono (by simp))
  have hu2 : OwnB (w.heap.size + 1) u l k := hu
  obtain ⟨Au, cu, huv⟩ := own_slice hu2
  rw [hq] at huv
  subst huv
  have HU := Lib.hid hu2
  clear hk hu hu2 hbk
  go_wp2
  refine bodyPost_ret (v := .agg #[.slice Au q cu, .int .i64 (q : Nat), .bool true]) (by simp [results, Try.results32, go_sem, q0, q1, q2]) rfl ⟨_, rfl, ?_, ?_⟩
  · exact (ownsRow_down (ownsRow_set (p := ⟨w.heap.size, 2, none⟩) (ownsRow_set (p := ⟨w.heap.size, 1, none⟩) (ownsRow_set (p := ⟨w.heap.size, 0, none⟩) HU.out (Nat.lt_succ_self _)) (Nat.lt_succ_self _)) (Nat.lt_succ_self _)) (Nat.le_succ _) : OwnB w.heap.size _ l _)
  · exact ((hb.setCell (by simp) _).setCell (by simp) _).setCell (by simp) _
theorem new9_any (w : World) : Calls Try.prog 11 #[] w fun e w' => e = .returned (.pointer (some ⟨w.heap.size, 0, none⟩)) ∧ w' = w.alloc (.cells #[.map none, .int .i64 0] 57) := by
  go_enter Try.func11, Try.ntmps11
  go_wp2
  go_ret
  exact ⟨rfl, rfl⟩
theorem PD.new (w : World) : PD (w.alloc (.cells #[.map none, .int .i64 0] 57)) (fun k => k = w.heap.size) w.heap.size [] 0 :=
  ⟨none, [], rfl, rfl, heap_alloc_new _ _, fun b hb => (by cases hb), rfl, fun p hp => (by cases hp), List.Pairwise.nil, List.Pairwise.nil, fun f hf => (by cases hf), fun k hk => by subst hk; simp⟩
set_option maxHeartbeats 1000000 in
theorem calls9_any (S : Nat → Prop) (g : Nat) (l : List Fil) (c : Nat) (w : World) (h : PD w S g l c) : Calls Try.prog 27 #[.pointer (some ⟨g, 0, none⟩)] w fun e w' => e = .returned (.int .i64 (c : Nat)) ∧ w = w' := by
  obtain ⟨m, ps, _, _, hb, _⟩ := h
  have h1 := hb.cell1
  clear hb
  go_enter Try.func27, Try.ntmps27
  go_wp2
  go_ret
  exact ⟨rfl, rfl⟩
end Go.Proofs.Ytbdengcblncfmaa
