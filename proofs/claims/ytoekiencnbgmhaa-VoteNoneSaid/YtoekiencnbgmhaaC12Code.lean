/-
  Package conf's Encode and Decode make what the plain functions say.
  Lists have at most 1,000 servers, texts at most 1,000,000 bytes.
-/
import Derived.Test.YtoekiencnbgmhaaC12May
import Derived.Test.YtoekiencnbgmhaaC12Rows
set_option linter.unusedSimpArgs false
set_option linter.unusedVariables false
namespace Go.Proofs.Ytoekiencnbgmhaa
open Go.RowKit Go.Deep
set_option maxRecDepth 100000

def digit12 (x : Int) : UInt8 := UInt8.ofNat (48 + x.toNat)
def encL (l : List Int) : List UInt8 := l.map digit12
def enc12 (l : List Int) : ByteArray := if may12 l = true then ⟨(encL l).toArray⟩ else ⟨#[]⟩
def decL (s : ByteArray) : List Int := s.data.toList.map fun c => (c.toNat : Int) - 48
def dec12 (s : ByteArray) : Option (List Int) := if may12 (decL s) = true then some (decL s) else none
theorem digit12_is {x : Int} (h0 : 1 ≤ x) (h1 : x ≤ 7) : ((digit12 x).toNat : Int) = 48 + x := by
  unfold digit12
  rw [UInt8.toNat_ofNat']
  omega
theorem decL_len (s : ByteArray) : (decL s).length = s.size := by unfold decL; simp
theorem dec12_long {s : ByteArray} (h : 7 < s.size) : dec12 s = none := by
  unfold dec12
  rw [if_neg]
  intro h2
  have := may12_len h2
  rw [decL_len] at this; omega
theorem make_bytes12 (n : Nat) (hn : n ≤ 1000) (w : World) : (Instr.makeSlice 109 (.int .i64 (n : Int)) (.int .i64 (n : Int))).run Try.prog w = .ok (.slice (some ⟨w.heap.size, 0, none⟩) n n) (w.alloc (.cells (madeCells #[.int .u8 0] n) 5)) :=
  run_make_row' _ _ _ 1 Try.underlying109 Try.infoU8 rfl .i64 .i64 n (by omega) (by omega) w
theorem make_ints12 (n : Nat) (hn : n ≤ 1000) (w : World) : (Instr.makeSlice 50 (.int .i64 (n : Int)) (.int .i64 (n : Int))).run Try.prog w = .ok (.slice (some ⟨w.heap.size, 0, none⟩) n n) (w.alloc (.cells (madeCells #[.int .i64 0] n) 3)) :=
  run_make_row' _ _ _ 8 Try.underlying50 Try.infoInt rfl .i64 .i64 n (by omega) (by omega) w
theorem below_new12 (w : World) (o : Obj) : Below w.heap.size w (w.alloc o) := (Below.refl _ w).alloc (Nat.le_refl _) o
def encV (x : Int) : Value := .int .u8 (48 + x)
theorem encV_bytes {l : List Int} (h : ∀ x ∈ l, 1 ≤ x ∧ x ≤ 7) (j : Nat) (hj : j < l.length) : encV l[j] = .int .u8 (((encL l)[j]'(by unfold encL; simpa using hj)).toNat : Int) := by
  unfold encV encL
  have := h l[j] (List.getElem_mem hj)
  rw [List.getElem_map, digit12_is this.1 this.2]
theorem decL_at (s : ByteArray) (k : Nat) (h : k < s.size) : (decL s)[k]'(by rw [decL_len]; exact h) = (s[k].toNat : Int) - 48 := by unfold decL; simp; rfl
/-- what came of Decode -/
def Dec12 (r : Option (List Int)) (w : World) (e : Ending) (w' : World) : Prop := Below w.heap.size w w' ∧ match r with
  | none => e = .returned (.tuple #[.slice none 0 0, .bool false])
  | some l => ∃ A c, e = .returned (.tuple #[.slice A l.length c, .bool true]) ∧ Ints w' w'.heap.size (.slice A l.length c) l
set_option maxHeartbeats 2000000 in
theorem decode12_w (s : ByteArray) (w : World) (hs : s.size ≤ 1000000) :
    Calls Try.prog 67 #[.string s] w (Dec12 (dec12 s) w) := by
  by_cases h7 : 7 < s.size
  · have hd := dec12_long h7
    have h7' : (7 : Int) < s.size := by omega
    have HD := Lib.hid hd
    clear hd
    go_enter Try.func67, Try.ntmps67
    go_wp2
    go_ret2
    rw [HD.out]
    exact ⟨Below.refl _ _, rfl⟩
  · obtain ⟨n, hn⟩ : ∃ n, s.size = n := ⟨_, rfl⟩
    have hn7 : n ≤ 7 := by omega
    have hmk := make_ints12 n (by omega) w
    obtain ⟨W1, hW1⟩ : ∃ W1, w.alloc (.cells (madeCells #[.int .i64 0] n) 3) = W1 := ⟨_, rfl⟩
    have hr1 : RowC W1 w.heap.size (List.replicate n (.int .i64 0)) := by rw [← hW1]; exact RowC.made w _ n _
    have hb1 : Below w.heap.size w W1 := by rw [← hW1]; exact below_new12 w _
    rw [hW1] at hmk
    have HN := Lib.hid hn
    have HR1 := Lib.hid hr1
    have HB1 := Lib.hid hb1
    rw [← hn] at hmk
    have h7i : ¬ (7 : Int) < s.size := by omega
    clear hn hr1 hb1 hW1 h7
    go_enter Try.func67, Try.ntmps67
    go_wp2
    go_loopw [14] (fun i wr => ∃ k : Nat, k ≤ s.size ∧ i = .int .i64 k ∧ RowC wr w.heap.size (((decL s).take k).map (Value.int .i64) ++ List.replicate ((decL s).length - k) (.int .i64 0)) ∧ Below w.heap.size w wr) (fun i _ => s.size - (intOf i).toNat)
    case atStart => exact ⟨0, Nat.zero_le _, rfl, by rw [decL_len, HN.out]; exact HR1.out, HB1.out⟩
    case round =>
      obtain ⟨k, hk, rfl, hrow, hbw⟩ := hrel
      have HRW := Lib.hid hrow
      have HBW := Lib.hid hbw
      clear hrow hbw HR1 HB1
      by_cases hlt : k < s.size
      · have hkl : k < (decL s).length := by rw [decL_len]; exact hlt
        have hsn := set_snoc12 (Value.int .i64) (decL s) (Value.int .i64 0) k hkl
        have hrl : (((decL s).take k).map (Value.int .i64) ++ List.replicate ((decL s).length - k) (Value.int .i64 0)).length = s.size := by simp; have := decL_len s; omega
        obtain ⟨hold, hfr⟩ := HRW.out.2 k (by rw [hrl]; exact hlt)
        have hrs := HRW.out.set k (.int .i64 (decL s)[k])
        rw [hsn, decL_at s k hlt] at hrs
        generalize (((decL s).take k).map (Value.int .i64) ++ List.replicate ((decL s).length - k) (Value.int .i64 0))[k]'(by rw [hrl]; exact hlt) = old at hold
        have HRS := Lib.hid hrs
        have hx9 : (s[k].toNat : Int) ≤ 255 := by have := s[k].toNat_lt; omega
        clear hsn hrl hrs hkl
        go_wp2
        go_roundw
        case rel => exact ⟨k + 1, by omega, by go_num, HRS.out, HBW.out.setCell (Nat.le_refl _) _⟩
        case measure => simp [intOf]; omega
      · have hkn : k = s.size := by omega
        have hrow := HRW.out
        rw [hkn, ← decL_len s, List.take_length, Nat.sub_self, List.replicate_zero, List.append_nil] at hrow
        have hin := RowC.ints (l := decL s) hrow (decL_len s) s.size (Nat.le_refl _)
        have hin' := hin
        rw [← decL_len s] at hin'
        have hmy := may12_w _ _ _ _ _ hin' (by rw [decL_len]; omega)
        rw [decL_len] at hmy
        have HIN := Lib.hid hin'
        cases hb : may12 (decL s) with
        | false =>
          rw [hb] at hmy
          have hd : dec12 s = none := by unfold dec12; rw [if_neg (by rw [hb]; decide)]
          have HD := Lib.hid hd
          clear hrow hin hin' hb hd
          go_wp2_with fail
          refine hmy.mono ?_
          rintro e w' ⟨rfl, rfl⟩
          go_wp2
          go_ret2
          rw [HD.out]
          exact ⟨HBW.out, rfl⟩
        | true =>
          rw [hb] at hmy
          have hd : dec12 s = some (decL s) := by unfold dec12; rw [if_pos hb]
          have HD := Lib.hid hd
          clear hin hin' hb hd
          have hlt9 := hrow.1
          clear hrow
          go_wp2_with fail
          refine hmy.mono ?_
          rintro e w' ⟨rfl, rfl⟩
          go_wp2
          go_ret2
          rw [HD.out]
          refine ⟨HBW.out, _, _, ?_, HIN.out.more (by omega)⟩
          rw [decL_len]
          rfl
end Go.Proofs.Ytoekiencnbgmhaa
