/-
  The reference's mayOps says which lists of operations may be.
-/
import Derived.Test.YtdhppekfehbngaaReMayOp
import Derived.Test.YtdhppekfehbngaaWBytes
import Derived.Deep.MidRow
set_option linter.unusedSimpArgs false
set_option linter.unusedVariables false
namespace Go.Proofs.Ytdhppekfehbngaa
open Go.RowKit
set_option maxRecDepth 100000

/-- the cells of an operation -/
def Opn.cs (o : Opn) : List Value := [.int .i64 o.kind, .string o.key, .int .i64 o.val.kind, .int .i64 o.val.n, .string o.val.s, .int .i64 o.old.kind, .int .i64 o.old.n, .string o.old.s, .int .i64 o.n]
/-- the slice value v reads as the operations l; its cells lie below block B -/
def Ops (w : World) (B : Nat) (v : Value) (l : List Opn) : Prop :=
  ∃ A c, v = .slice A l.length c ∧ l.length ≤ c ∧ (0 < l.length → ∃ g o, A = some ⟨g, o, Option.none⟩ ∧ g < B ∧ ∀ k (h : k < l.length), w.rangeAt g (o + k * 9) l[k].cs)
theorem Try.infoOp : (Try.prog.info? 25).map (·.size) = some 9 := by kernel_rfl
/-- its texts are no longer than what the texts' contracts ask -/
def Opn.small (o : Opn) : Prop := o.key.size ≤ 1000000 ∧ o.val.s.size ≤ 1000000 ∧ o.old.s.size ≤ 1000000
theorem rmayOp_is (v : Value) (o : Opn) (b : Bool) (w : World) (hv : v = .agg o.cs.toArray) (hs : o.small) (h : mayO o = b) : Calls Try.prog 13 #[v] w (Bl b w) := by
  rw [hv, ← h]; exact rmayOp_any o w hs.1 hs.2.1 hs.2.2
theorem range_below {w w' : World} {C g o : Nat} {cs : List Value} (h : w.rangeAt g o cs) (hb : Below C w w') (hg : g < C) : w'.rangeAt g o cs := fun j v hv => (hb.cell (p := ⟨g, o + j, Option.none⟩) hg).trans (h j v hv)
def mayOs (l : List Opn) : Bool := decide (1 ≤ l.length) && decide (l.length ≤ 8) && l.all mayO
set_option maxRecDepth 100000 in
set_option maxHeartbeats 1000000 in
theorem rmayOps_any (B : Nat) (v : Value) (l : List Opn) (w : World) (h : Ops w B v l) (hB : B ≤ w.heap.size) (hsm : ∀ x ∈ l, x.small) : Calls Try.prog 30 #[v] w (Bl (mayOs l) w) := by
  obtain ⟨A, c, rfl, hc, hcell⟩ := h
  by_cases h1 : l.length < 1
  · go_enter Try.func30, Try.ntmps30
    go_wp2
    go_ret
    exact ⟨ret_bool (by unfold mayOs; rw [decide_eq_false (by omega)]; rfl), Below.refl _ _⟩
  · by_cases h8 : 8 < l.length
    · go_enter Try.func30, Try.ntmps30
      go_wp2
      go_ret
      exact ⟨ret_bool (by unfold mayOs; rw [decide_eq_false (p := l.length ≤ 8) (by omega)]; simp), Below.refl _ _⟩
    · obtain ⟨g, o, rfl, hg, hcs⟩ := hcell (by omega)
      have HC := Lib.hid hcs; clear hcs hcell
      go_enter Try.func30, Try.ntmps30
      go_wp2
      go_loopw [3] (fun i wr => ∃ k : Nat, i = .int .i64 k ∧ k ≤ l.length ∧ Below w.heap.size w wr ∧ (l.take k).all mayO = true) (fun i _ => l.length - (intOf i).toNat)
      case atStart => exact ⟨0, rfl, by omega, Below.refl _ _, by simp⟩
      case round =>
        obtain ⟨k, rfl, hk, hbw, hall⟩ := hrel
        by_cases hkl : k < l.length
        · obtain ⟨x, hx⟩ : ∃ x, l[k] = x := ⟨_, rfl⟩
          have hr := HC.out k hkl
          rw [hx] at hr
          have hr2 := range_below hr hbw (Nat.lt_of_lt_of_le hg hB)
          have hxs := hsm l[k] (List.getElem_mem ..)
          have htk : l.take (k + 1) = l.take k ++ [x] := by rw [List.take_add_one, List.getElem?_eq_getElem hkl, hx]; rfl
          rw [hx] at hxs
          obtain ⟨b, hb⟩ : ∃ b, mayO x = b := ⟨_, rfl⟩
          have HT := Lib.hid htk; clear htk hr
          go_wp2_with (refine wpList_load_mid rfl 25 _ rfl g (o + k * 9) rfl x.cs _ hr2 Try.underlying25 rfl Try.infoOp ?_)
          refine (rmayOp_is _ x b _ rfl hxs hb).mono ?_
          rintro e w1 ⟨rfl, hb1⟩
          have hbw1 := hbw.trans (hb1.mono hbw.size)
          clear hr2 hb1
          cases b
          · have hf : mayOs l = false := by
              unfold mayOs
              rw [show l.all mayO = false from ?_, Bool.and_false]
              rw [List.all_eq_false]
              exact ⟨x, by rw [← hx]; exact List.getElem_mem .., by rw [hb]; simp⟩
            have HF := Lib.hid hf; clear hf hx hb
            go_wp2
            go_ret
            exact ⟨ret_bool HF.out.symm, hbw1⟩
          · clear hx
            have HB := Lib.hid hb; clear hb
            go_wp2
            go_roundw
            case rel => exact ⟨k + 1, by go_num, by omega, hbw1, by rw [HT.out, List.all_append, hall]; simp [HB.out]⟩
            case measure => simp [intOf]; omega
        · have hfin : mayOs l = true := by
            unfold mayOs
            rw [List.take_of_length_le (by omega)] at hall
            rw [hall, decide_eq_true (by omega), decide_eq_true (by omega)]; rfl
          have HF := Lib.hid hfin; clear hfin hall
          go_wp2
          go_ret
          exact ⟨ret_bool HF.out.symm, hbw⟩
end Go.Proofs.Ytdhppekfehbngaa
