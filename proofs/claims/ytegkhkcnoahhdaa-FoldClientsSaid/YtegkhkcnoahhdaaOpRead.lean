/-
  Package op's reader reads one part behind the other: what each step answers, and what rests.
  The reader lies in a block of its own; the bytes lie below it, at most 1,000,000.
-/
import Derived.Test.YtegkhkcnoahhdaaOpEncode
import Derived.Test.YtegkhkcnoahhdaaVaPlain
import Derived.Test.YtegkhkcnoahhdaaOpPlain
import Derived.Test.YtegkhkcnoahhdaaL5CutBatch
import Derived.Deep.AppendLies
set_option linter.unusedSimpArgs false
set_option linter.unusedVariables false
namespace Go.Proofs.Ytegkhkcnoahhdaa
open Go.RowKit
set_option maxRecDepth 100000

def rNum (l : List UInt8) : Int × List UInt8 := ((Nu.get l).1, l.drop (Nu.get l).2.1)
def rTxt (l : List UInt8) : ByteArray × List UInt8 := (⟨(Nu.getT l).1.toArray⟩, l.drop (Nu.getT l).2.1)
def rRaw (l : List UInt8) : Raw × List UInt8 := ((getR l).1, l.drop (getR l).2.1)
/-- a reader at block g that has the bytes l before it; they lie below block B -/
def Rdr (w : World) (g B : Nat) (l : List UInt8) : Prop := ∃ A c, w.cell? ⟨g, 0, none⟩ = some (.slice A l.length c) ∧ w.frozen? ⟨g, 0, none⟩ = false ∧ Byt w B (.slice A l.length c) l ∧ B ≤ g ∧ g < w.heap.size
/-- what a step of a reader leaves -/
def RdOut (g B : Nat) (v : Value) (l : List UInt8) (w : World) (e : Ending) (w' : World) : Prop := e = .returned v ∧ Rdr w' g B l ∧ w.grownBy w' (some g)
theorem Byt.grown {w w' : World} {B g : Nat} {v : Value} {l : List UInt8} (h : Byt w B v l) (hg : w.grownBy w' (some g)) (hB : B ≤ g) (hw : g < w.heap.size) : Byt w' B v l := h.keep fun p hp => hg.cell_far p (by omega) (by simp; omega)
theorem Rdr.byt {w : World} {g B : Nat} {l : List UInt8} (h : Rdr w g B l) : ∃ A c, w.cell? ⟨g, 0, none⟩ = some (.slice A l.length c) ∧ Byt w B (.slice A l.length c) l := by
  obtain ⟨A, c, h1, _, h2, _⟩ := h; exact ⟨A, c, h1, h2⟩
theorem rdr_set {w : World} {g B : Nat} {A : Option Addr} {n c : Nat} {l : List UInt8} (hf : w.frozen? ⟨g, 0, none⟩ = false) (h : Byt w B (.slice A n c) l) (hB : B ≤ g) (hg : g < w.heap.size) (hc : ∃ x, w.cell? ⟨g, 0, none⟩ = some x) : Rdr (w.setCell ⟨g, 0, none⟩ (.slice A n c)) g B l := by
  obtain rfl : n = l.length := by obtain ⟨A', c', hv, _⟩ := h; injection hv
  obtain ⟨x, hx⟩ := hc
  refine ⟨A, c, by go_simp, by go_simp, h.keep fun p hp => World.cell?_setCell_other _ _ _ _ (fun e => ?_), hB, by simp; exact hg⟩
  rw [← e] at hp; simp at hp; omega
theorem set_far (w : World) (p a : Addr) (v : Value) (h : ¬ p.block = a.block) : (w.setCell p v).cell? a = w.cell? a := World.cell?_setCell_other _ _ _ _ (fun e => h (by rw [e]))
theorem getR_len (l : List UInt8) : (getR l).2.1 ≤ l.length := by
  by_cases he : (getR l).2.2 = 0
  · have h := getR_canon l (getR l).1 (getR l).2.1 (by rw [← he])
    have h1 := congrArg List.length h.1
    rw [List.length_append, List.length_drop, ← h.2.1] at h1; omega
  · have : (getR l).2.1 = 0 := by
      revert he; unfold getR; repeat' split
      all_goals simp
    omega
theorem rdr_then {w w' : World} {g B : Nat} {l : List UInt8} (h : Rdr w g B l) (hb : Below (g + 1) w w') : Rdr w' g B l := by
  obtain ⟨A, c, h1, h2, h3, h4, h5⟩ := h
  exact ⟨A, c, (hb.cell (p := ⟨g, 0, none⟩) (by simp)).trans h1, (hb.frozen (p := ⟨g, 0, none⟩) (by simp)).trans h2, h3.below hb (by omega), h4, Nat.lt_of_lt_of_le h5 hb.size⟩
theorem grown_then {a w w' : World} {g : Nat} (h : a.grownBy w (some g)) (hb : Below a.heap.size w w') : a.grownBy w' (some g) :=
  ⟨hb.os.trans h.os, hb.tape.trans h.tape, hb.output.trans h.output, Nat.le_trans h.size hb.size, fun k hk hne => (hb.block k hk).trans (h.block k hk hne)⟩
theorem grown_trans {a w w' : World} {g : Nat} (h : a.grownBy w (some g)) (k : w.grownBy w' (some g)) : a.grownBy w' (some g) :=
  ⟨k.os.trans h.os, k.tape.trans h.tape, k.output.trans h.output, Nat.le_trans h.size k.size, fun j hj hne => (k.block j (Nat.lt_of_lt_of_le hj h.size) hne).trans (h.block j hj hne)⟩
set_option maxHeartbeats 400000 in
theorem rnum_a (g B o gb c : Nat) (l : List UInt8) (w : World) (hc : w.cell? ⟨g, 0, none⟩ = some (.slice (some ⟨gb, o, none⟩) l.length c)) (hf : w.frozen? ⟨g, 0, none⟩ = false) (h : Byt w B (.slice (some ⟨gb, o, none⟩) l.length c) l) (hB : B ≤ g) (hg : g < w.heap.size) (hl : l.length ≤ 1000000) (n : Int) (k e : Nat) (hr : Nu.get l = (n, k, e)) (hk : k ≤ l.length) (hkc : ¬ c = k) :
    Calls Try.prog 58 #[.pointer (some ⟨g, 0, none⟩)] w (RdOut g B (.int .i64 n) (l.drop k) w) := by
  have hget := nget_b _ _ _ B l w h hl
  rw [hr] at hget
  have hlc : l.length ≤ c := by obtain ⟨_, _, hv, hc, _⟩ := h; injection hv with _ _ e; omega
  have hcut := h.cut hk
  rw [if_neg hkc, add_lit] at hcut
  have HG := Lib.hid hget; clear hget hr
  have HC := Lib.hid hcut; clear hcut h
  go_enter Try.func58, Try.ntmps58
  go_wp2_with fail
  refine HG.out.mono ?_
  rintro e w' ⟨rfl, rfl⟩
  go_wp2
  go_ret
  exact ⟨rfl, rdr_set hf HC.out hB hg ⟨_, hc⟩, setCell_grown _ _ _⟩
set_option maxHeartbeats 400000 in
theorem rnum_b (g B o gb c : Nat) (l : List UInt8) (w : World) (hc : w.cell? ⟨g, 0, none⟩ = some (.slice (some ⟨gb, o, none⟩) l.length c)) (hf : w.frozen? ⟨g, 0, none⟩ = false) (h : Byt w B (.slice (some ⟨gb, o, none⟩) l.length c) l) (hB : B ≤ g) (hg : g < w.heap.size) (hl : l.length ≤ 1000000) (n : Int) (k e : Nat) (hr : Nu.get l = (n, k, e)) (hk : k ≤ l.length) (hkc : c = k) :
    Calls Try.prog 58 #[.pointer (some ⟨g, 0, none⟩)] w (RdOut g B (.int .i64 n) (l.drop k) w) := by
  have hget := nget_b _ _ _ B l w h hl
  rw [hr] at hget
  have hlc : l.length ≤ c := by obtain ⟨_, _, hv, hc, _⟩ := h; injection hv with _ _ e; omega
  obtain rfl : k = c := hkc.symm
  have hcut := h.cut hk
  rw [if_pos rfl] at hcut
  obtain e0 : l.length = k := by omega
  rw [show l.length - k = 0 by omega, Nat.sub_self] at hcut
  rw [e0] at hc hget h
  have HG := Lib.hid hget; clear hget hr
  have HC := Lib.hid hcut; clear hcut h
  go_enter Try.func58, Try.ntmps58
  go_wp2_with fail
  refine HG.out.mono ?_
  rintro e w' ⟨rfl, rfl⟩
  go_wp2
  go_ret
  exact ⟨rfl, rdr_set hf HC.out hB hg ⟨_, hc⟩, setCell_grown _ _ _⟩
set_option maxHeartbeats 400000 in
theorem rnum_c (g B o gb c : Nat) (l : List UInt8) (w : World) (hc : w.cell? ⟨g, 0, none⟩ = some (.slice none l.length c)) (hf : w.frozen? ⟨g, 0, none⟩ = false) (h : Byt w B (.slice none l.length c) l) (hB : B ≤ g) (hg : g < w.heap.size) (hl : l.length ≤ 1000000) (n : Int) (k e : Nat) (hr : Nu.get l = (n, k, e)) (hk : k ≤ l.length) :
    Calls Try.prog 58 #[.pointer (some ⟨g, 0, none⟩)] w (RdOut g B (.int .i64 n) (l.drop k) w) := by
  have hget := nget_b _ _ _ B l w h hl
  rw [hr] at hget
  have hn : l.length = 0 := by
    obtain ⟨A', c', hv, _, hx⟩ := h
    injection hv with e1 _ _
    rcases Nat.eq_zero_or_pos l.length with h0 | h0
    · exact h0
    · obtain ⟨_, _, e2, _⟩ := hx h0; rw [← e1] at e2; cases e2
  obtain rfl : k = 0 := by omega
  rw [List.drop_zero]
  have hcut := h
  rw [hn] at hc hget hcut
  have HG := Lib.hid hget; clear hget hr
  have HC := Lib.hid hcut; clear hcut h
  go_enter Try.func58, Try.ntmps58
  go_wp2_with fail
  refine HG.out.mono ?_
  rintro e w' ⟨rfl, rfl⟩
  go_wp2
  go_ret
  exact ⟨rfl, rdr_set hf HC.out hB hg ⟨_, hc⟩, setCell_grown _ _ _⟩
set_option maxHeartbeats 400000 in
theorem rnum_d {sp} (g B o gb c : Nat) (l : List UInt8) (w : World) (hc : w.cell? ⟨g, 0, none⟩ = some (.slice (some ⟨gb, o, some sp⟩) l.length c)) (hf : w.frozen? ⟨g, 0, none⟩ = false) (h : Byt w B (.slice (some ⟨gb, o, some sp⟩) l.length c) l) (hB : B ≤ g) (hg : g < w.heap.size) (hl : l.length ≤ 1000000) (n : Int) (k e : Nat) (hr : Nu.get l = (n, k, e)) (hn : l.length = 0) (hk : k ≤ l.length) :
    Calls Try.prog 58 #[.pointer (some ⟨g, 0, none⟩)] w (RdOut g B (.int .i64 n) (l.drop k) w) := by
  have hget := nget_b _ _ _ B l w h hl
  rw [hr] at hget
  obtain rfl : k = 0 := by omega
  rw [List.drop_zero]
  have hcut := h
  rw [hn] at hc hget hcut
  have HG := Lib.hid hget; clear hget hr
  have HC := Lib.hid hcut; clear hcut h
  go_enter Try.func58, Try.ntmps58
  go_wp2_with fail
  refine HG.out.mono ?_
  rintro e w' ⟨rfl, rfl⟩
  go_wp2
  go_ret
  exact ⟨rfl, rdr_set hf HC.out hB hg ⟨_, hc⟩, setCell_grown _ _ _⟩
set_option maxHeartbeats 400000 in
theorem rtxt_a (g B o gb c : Nat) (l : List UInt8) (w : World) (hc : w.cell? ⟨g, 0, none⟩ = some (.slice (some ⟨gb, o, none⟩) l.length c)) (hf : w.frozen? ⟨g, 0, none⟩ = false) (h : Byt w B (.slice (some ⟨gb, o, none⟩) l.length c) l) (hB : B ≤ g) (hg : g < w.heap.size) (hl : l.length ≤ 1000000) (n : List UInt8) (k e : Nat) (hr : Nu.getT l = (n, k, e)) (hk : k ≤ l.length) (hkc : ¬ c = k) :
    Calls Try.prog 78 #[.pointer (some ⟨g, 0, none⟩)] w (RdOut g B (.string ⟨n.toArray⟩) (l.drop k) w) := by
  have hget := ngetText_b _ _ _ B l w h hl
  rw [hr] at hget
  obtain ⟨S, hS⟩ : ∃ S : ByteArray, ⟨n.toArray⟩ = S := ⟨_, rfl⟩
  unfold GotT at hget
  simp only at hget
  rw [hS] at hget ⊢
  clear hS
  have hlc : l.length ≤ c := by obtain ⟨_, _, hv, hc, _⟩ := h; injection hv with _ _ e; omega
  have hcut := h.cut hk
  rw [if_neg hkc, add_lit] at hcut
  have HG := Lib.hid hget; clear hget hr
  have HC := Lib.hid hcut; clear hcut h
  go_enter Try.func78, Try.ntmps78
  go_wp2_with fail
  refine HG.out.mono ?_
  rintro e w' ⟨rfl, rfl⟩
  go_wp2
  go_ret
  exact ⟨rfl, rdr_set hf HC.out hB hg ⟨_, hc⟩, setCell_grown _ _ _⟩
set_option maxHeartbeats 400000 in
theorem rtxt_b (g B o gb c : Nat) (l : List UInt8) (w : World) (hc : w.cell? ⟨g, 0, none⟩ = some (.slice (some ⟨gb, o, none⟩) l.length c)) (hf : w.frozen? ⟨g, 0, none⟩ = false) (h : Byt w B (.slice (some ⟨gb, o, none⟩) l.length c) l) (hB : B ≤ g) (hg : g < w.heap.size) (hl : l.length ≤ 1000000) (n : List UInt8) (k e : Nat) (hr : Nu.getT l = (n, k, e)) (hk : k ≤ l.length) (hkc : c = k) :
    Calls Try.prog 78 #[.pointer (some ⟨g, 0, none⟩)] w (RdOut g B (.string ⟨n.toArray⟩) (l.drop k) w) := by
  have hget := ngetText_b _ _ _ B l w h hl
  rw [hr] at hget
  obtain ⟨S, hS⟩ : ∃ S : ByteArray, ⟨n.toArray⟩ = S := ⟨_, rfl⟩
  unfold GotT at hget
  simp only at hget
  rw [hS] at hget ⊢
  clear hS
  have hlc : l.length ≤ c := by obtain ⟨_, _, hv, hc, _⟩ := h; injection hv with _ _ e; omega
  obtain rfl : k = c := hkc.symm
  have hcut := h.cut hk
  rw [if_pos rfl] at hcut
  obtain e0 : l.length = k := by omega
  rw [show l.length - k = 0 by omega, Nat.sub_self] at hcut
  rw [e0] at hc hget h
  have HG := Lib.hid hget; clear hget hr
  have HC := Lib.hid hcut; clear hcut h
  go_enter Try.func78, Try.ntmps78
  go_wp2_with fail
  refine HG.out.mono ?_
  rintro e w' ⟨rfl, rfl⟩
  go_wp2
  go_ret
  exact ⟨rfl, rdr_set hf HC.out hB hg ⟨_, hc⟩, setCell_grown _ _ _⟩
set_option maxHeartbeats 400000 in
theorem rtxt_c (g B o gb c : Nat) (l : List UInt8) (w : World) (hc : w.cell? ⟨g, 0, none⟩ = some (.slice none l.length c)) (hf : w.frozen? ⟨g, 0, none⟩ = false) (h : Byt w B (.slice none l.length c) l) (hB : B ≤ g) (hg : g < w.heap.size) (hl : l.length ≤ 1000000) (n : List UInt8) (k e : Nat) (hr : Nu.getT l = (n, k, e)) (hk : k ≤ l.length) :
    Calls Try.prog 78 #[.pointer (some ⟨g, 0, none⟩)] w (RdOut g B (.string ⟨n.toArray⟩) (l.drop k) w) := by
  have hget := ngetText_b _ _ _ B l w h hl
  rw [hr] at hget
  obtain ⟨S, hS⟩ : ∃ S : ByteArray, ⟨n.toArray⟩ = S := ⟨_, rfl⟩
  unfold GotT at hget
  simp only at hget
  rw [hS] at hget ⊢
  clear hS
  have hn : l.length = 0 := by
    obtain ⟨A', c', hv, _, hx⟩ := h
    injection hv with e1 _ _
    rcases Nat.eq_zero_or_pos l.length with h0 | h0
    · exact h0
    · obtain ⟨_, _, e2, _⟩ := hx h0; rw [← e1] at e2; cases e2
  obtain rfl : k = 0 := by omega
  rw [List.drop_zero]
  have hcut := h
  rw [hn] at hc hget hcut
  have HG := Lib.hid hget; clear hget hr
  have HC := Lib.hid hcut; clear hcut h
  go_enter Try.func78, Try.ntmps78
  go_wp2_with fail
  refine HG.out.mono ?_
  rintro e w' ⟨rfl, rfl⟩
  go_wp2
  go_ret
  exact ⟨rfl, rdr_set hf HC.out hB hg ⟨_, hc⟩, setCell_grown _ _ _⟩
set_option maxHeartbeats 400000 in
theorem rtxt_d {sp} (g B o gb c : Nat) (l : List UInt8) (w : World) (hc : w.cell? ⟨g, 0, none⟩ = some (.slice (some ⟨gb, o, some sp⟩) l.length c)) (hf : w.frozen? ⟨g, 0, none⟩ = false) (h : Byt w B (.slice (some ⟨gb, o, some sp⟩) l.length c) l) (hB : B ≤ g) (hg : g < w.heap.size) (hl : l.length ≤ 1000000) (n : List UInt8) (k e : Nat) (hr : Nu.getT l = (n, k, e)) (hn : l.length = 0) (hk : k ≤ l.length) :
    Calls Try.prog 78 #[.pointer (some ⟨g, 0, none⟩)] w (RdOut g B (.string ⟨n.toArray⟩) (l.drop k) w) := by
  have hget := ngetText_b _ _ _ B l w h hl
  rw [hr] at hget
  obtain ⟨S, hS⟩ : ∃ S : ByteArray, ⟨n.toArray⟩ = S := ⟨_, rfl⟩
  unfold GotT at hget
  simp only at hget
  rw [hS] at hget ⊢
  clear hS
  obtain rfl : k = 0 := by omega
  rw [List.drop_zero]
  have hcut := h
  rw [hn] at hc hget hcut
  have HG := Lib.hid hget; clear hget hr
  have HC := Lib.hid hcut; clear hcut h
  go_enter Try.func78, Try.ntmps78
  go_wp2_with fail
  refine HG.out.mono ?_
  rintro e w' ⟨rfl, rfl⟩
  go_wp2
  go_ret
  exact ⟨rfl, rdr_set hf HC.out hB hg ⟨_, hc⟩, setCell_grown _ _ _⟩
set_option maxHeartbeats 400000 in
theorem rraw_a (g B o gb c : Nat) (l : List UInt8) (w : World) (hc : w.cell? ⟨g, 0, none⟩ = some (.slice (some ⟨gb, o, none⟩) l.length c)) (hf : w.frozen? ⟨g, 0, none⟩ = false) (h : Byt w B (.slice (some ⟨gb, o, none⟩) l.length c) l) (hB : B ≤ g) (hg : g < w.heap.size) (hl : l.length ≤ 1000000) (rk rn : Int) (rs : ByteArray) (k e : Nat) (hr : getR l = (⟨rk, rn, rs⟩, k, e)) (hk : k ≤ l.length) (hkc : ¬ c = k) :
    Calls Try.prog 79 #[.pointer (some ⟨g, 0, none⟩)] w (RdOut g B (.agg #[.int .i64 rk, .int .i64 rn, .string rs]) (l.drop k) w) := by
  have hget := fun W (hW : Below w.heap.size w W) => vget_any _ _ _ B l W (h.below hW (by omega)) (by have := hW.size; omega) hl
  unfold GotR at hget
  rw [hr] at hget
  unfold Raw.val at hget
  simp only at hget
  have hlc : l.length ≤ c := by obtain ⟨_, _, hv, hc, _⟩ := h; injection hv with _ _ e; omega
  have hcut := h.cut hk
  rw [if_neg hkc, add_lit] at hcut
  have HG := Lib.hid hget; clear hget hr
  have HC := Lib.hid hcut; clear hcut h
  go_enter Try.func79, Try.ntmps79
  go_wp2_with fail
  refine (HG.out _ (below_one w _)).mono ?_
  rintro e w' ⟨rfl, hb⟩
  have hbw : Below w.heap.size w w' := (below_one w _).trans (hb.mono (by simp))
  have hz := hb.size
  simp at hz
  have hc1 := (hbw.cell (p := ⟨g, 0, none⟩) hg).trans hc
  have hf1 := (hbw.frozen (p := ⟨g, 0, none⟩) hg).trans hf
  have p0 : w'.cell? ⟨w.heap.size, 0, none⟩ = some (.int .i64 0) := (hb.cell (p := ⟨w.heap.size, 0, none⟩) (by simp)).trans (by go_simp)
  have p1 : w'.cell? ⟨w.heap.size, 1, none⟩ = some (.int .i64 0) := (hb.cell (p := ⟨w.heap.size, 1, none⟩) (by simp)).trans (by go_simp)
  have p2 : w'.cell? ⟨w.heap.size, 2, none⟩ = some (.string ⟨#[]⟩) := (hb.cell (p := ⟨w.heap.size, 2, none⟩) (by simp)).trans (by go_simp)
  have f0 : w'.frozen? ⟨w.heap.size, 0, none⟩ = false := (hb.frozen (p := ⟨w.heap.size, 0, none⟩) (by simp)).trans (by go_simp)
  have f1 : w'.frozen? ⟨w.heap.size, 1, none⟩ = false := (hb.frozen (p := ⟨w.heap.size, 1, none⟩) (by simp)).trans (by go_simp)
  have f2 : w'.frozen? ⟨w.heap.size, 2, none⟩ = false := (hb.frozen (p := ⟨w.heap.size, 2, none⟩) (by simp)).trans (by go_simp)
  clear hc hf hb
  have hg1 : g < w'.heap.size := by omega
  have hne : ¬ w.heap.size = g := by omega
  have hne2 : ¬ g = w.heap.size := by omega
  have hg2 : w.heap.size < w'.heap.size := by omega
  have q0 := fun S => (set_far w' ⟨g, 0, none⟩ ⟨w.heap.size, 0, none⟩ S hne2).trans p0
  have q1 := fun S => (set_far w' ⟨g, 0, none⟩ ⟨w.heap.size, 1, none⟩ S hne2).trans p1
  have q2 := fun S => (set_far w' ⟨g, 0, none⟩ ⟨w.heap.size, 2, none⟩ S hne2).trans p2
  go_wp2
  exact bodyPost_ret (v := .agg #[.int .i64 rk, .int .i64 rn, .string rs]) (by simp [results, Try.results79, go_sem, q0, q1, q2, hg2]) rfl ⟨rfl, rdr_then (w := w'.setCell ⟨g, 0, none⟩ (.slice (some ⟨gb, o + k, none⟩) (l.length - k) (c - k))) (rdr_set hf1 (HC.out.below hbw (by omega)) hB hg1 ⟨_, hc1⟩) (by
    repeat' (first | exact Below.refl _ _ | refine Below.alloc ?_ (by first | (simp; done) | (simp; omega) | omega) _ | refine Below.setCell ?_ (by first | (simp; done) | (simp; omega) | omega) _)), grown_then (w := w'.setCell ⟨g, 0, none⟩ (.slice (some ⟨gb, o + k, none⟩) (l.length - k) (c - k))) (grown_trans (below_grown hbw) (setCell_grown _ _ _)) (by
    repeat' (first | exact Below.refl _ _ | refine Below.alloc ?_ (by first | (simp; done) | (simp; omega) | omega) _ | refine Below.setCell ?_ (by first | (simp; done) | (simp; omega) | omega) _))⟩
set_option maxHeartbeats 400000 in
theorem rraw_b (g B o gb c : Nat) (l : List UInt8) (w : World) (hc : w.cell? ⟨g, 0, none⟩ = some (.slice (some ⟨gb, o, none⟩) l.length c)) (hf : w.frozen? ⟨g, 0, none⟩ = false) (h : Byt w B (.slice (some ⟨gb, o, none⟩) l.length c) l) (hB : B ≤ g) (hg : g < w.heap.size) (hl : l.length ≤ 1000000) (rk rn : Int) (rs : ByteArray) (k e : Nat) (hr : getR l = (⟨rk, rn, rs⟩, k, e)) (hk : k ≤ l.length) (hkc : c = k) :
    Calls Try.prog 79 #[.pointer (some ⟨g, 0, none⟩)] w (RdOut g B (.agg #[.int .i64 rk, .int .i64 rn, .string rs]) (l.drop k) w) := by
  have hget := fun W (hW : Below w.heap.size w W) => vget_any _ _ _ B l W (h.below hW (by omega)) (by have := hW.size; omega) hl
  unfold GotR at hget
  rw [hr] at hget
  unfold Raw.val at hget
  simp only at hget
  have hlc : l.length ≤ c := by obtain ⟨_, _, hv, hc, _⟩ := h; injection hv with _ _ e; omega
  obtain rfl : k = c := hkc.symm
  have hcut := h.cut hk
  rw [if_pos rfl] at hcut
  obtain e0 : l.length = k := by omega
  rw [show l.length - k = 0 by omega, Nat.sub_self] at hcut
  rw [e0] at hc hget h
  have HG := Lib.hid hget; clear hget hr
  have HC := Lib.hid hcut; clear hcut h
  go_enter Try.func79, Try.ntmps79
  go_wp2_with fail
  refine (HG.out _ (below_one w _)).mono ?_
  rintro e w' ⟨rfl, hb⟩
  have hbw : Below w.heap.size w w' := (below_one w _).trans (hb.mono (by simp))
  have hz := hb.size
  simp at hz
  have hc1 := (hbw.cell (p := ⟨g, 0, none⟩) hg).trans hc
  have hf1 := (hbw.frozen (p := ⟨g, 0, none⟩) hg).trans hf
  have p0 : w'.cell? ⟨w.heap.size, 0, none⟩ = some (.int .i64 0) := (hb.cell (p := ⟨w.heap.size, 0, none⟩) (by simp)).trans (by go_simp)
  have p1 : w'.cell? ⟨w.heap.size, 1, none⟩ = some (.int .i64 0) := (hb.cell (p := ⟨w.heap.size, 1, none⟩) (by simp)).trans (by go_simp)
  have p2 : w'.cell? ⟨w.heap.size, 2, none⟩ = some (.string ⟨#[]⟩) := (hb.cell (p := ⟨w.heap.size, 2, none⟩) (by simp)).trans (by go_simp)
  have f0 : w'.frozen? ⟨w.heap.size, 0, none⟩ = false := (hb.frozen (p := ⟨w.heap.size, 0, none⟩) (by simp)).trans (by go_simp)
  have f1 : w'.frozen? ⟨w.heap.size, 1, none⟩ = false := (hb.frozen (p := ⟨w.heap.size, 1, none⟩) (by simp)).trans (by go_simp)
  have f2 : w'.frozen? ⟨w.heap.size, 2, none⟩ = false := (hb.frozen (p := ⟨w.heap.size, 2, none⟩) (by simp)).trans (by go_simp)
  clear hc hf hb
  have hg1 : g < w'.heap.size := by omega
  have hne : ¬ w.heap.size = g := by omega
  have hne2 : ¬ g = w.heap.size := by omega
  have hg2 : w.heap.size < w'.heap.size := by omega
  have q0 := fun S => (set_far w' ⟨g, 0, none⟩ ⟨w.heap.size, 0, none⟩ S hne2).trans p0
  have q1 := fun S => (set_far w' ⟨g, 0, none⟩ ⟨w.heap.size, 1, none⟩ S hne2).trans p1
  have q2 := fun S => (set_far w' ⟨g, 0, none⟩ ⟨w.heap.size, 2, none⟩ S hne2).trans p2
  go_wp2
  exact bodyPost_ret (v := .agg #[.int .i64 rk, .int .i64 rn, .string rs]) (by simp [results, Try.results79, go_sem, q0, q1, q2, hg2]) rfl ⟨rfl, rdr_then (w := w'.setCell ⟨g, 0, none⟩ (.slice (some ⟨gb, o, none⟩) 0 0)) (rdr_set hf1 (HC.out.below hbw (by omega)) hB hg1 ⟨_, hc1⟩) (by
    repeat' (first | exact Below.refl _ _ | refine Below.alloc ?_ (by first | (simp; done) | (simp; omega) | omega) _ | refine Below.setCell ?_ (by first | (simp; done) | (simp; omega) | omega) _)), grown_then (w := w'.setCell ⟨g, 0, none⟩ (.slice (some ⟨gb, o, none⟩) 0 0)) (grown_trans (below_grown hbw) (setCell_grown _ _ _)) (by
    repeat' (first | exact Below.refl _ _ | refine Below.alloc ?_ (by first | (simp; done) | (simp; omega) | omega) _ | refine Below.setCell ?_ (by first | (simp; done) | (simp; omega) | omega) _))⟩
set_option maxHeartbeats 400000 in
theorem rraw_c (g B o gb c : Nat) (l : List UInt8) (w : World) (hc : w.cell? ⟨g, 0, none⟩ = some (.slice none l.length c)) (hf : w.frozen? ⟨g, 0, none⟩ = false) (h : Byt w B (.slice none l.length c) l) (hB : B ≤ g) (hg : g < w.heap.size) (hl : l.length ≤ 1000000) (rk rn : Int) (rs : ByteArray) (k e : Nat) (hr : getR l = (⟨rk, rn, rs⟩, k, e)) (hk : k ≤ l.length) :
    Calls Try.prog 79 #[.pointer (some ⟨g, 0, none⟩)] w (RdOut g B (.agg #[.int .i64 rk, .int .i64 rn, .string rs]) (l.drop k) w) := by
  have hget := fun W (hW : Below w.heap.size w W) => vget_any _ _ _ B l W (h.below hW (by omega)) (by have := hW.size; omega) hl
  unfold GotR at hget
  rw [hr] at hget
  unfold Raw.val at hget
  simp only at hget
  have hn : l.length = 0 := by
    obtain ⟨A', c', hv, _, hx⟩ := h
    injection hv with e1 _ _
    rcases Nat.eq_zero_or_pos l.length with h0 | h0
    · exact h0
    · obtain ⟨_, _, e2, _⟩ := hx h0; rw [← e1] at e2; cases e2
  obtain rfl : k = 0 := by omega
  rw [List.drop_zero]
  have hcut := h
  rw [hn] at hc hget hcut
  have HG := Lib.hid hget; clear hget hr
  have HC := Lib.hid hcut; clear hcut h
  go_enter Try.func79, Try.ntmps79
  go_wp2_with fail
  refine (HG.out _ (below_one w _)).mono ?_
  rintro e w' ⟨rfl, hb⟩
  have hbw : Below w.heap.size w w' := (below_one w _).trans (hb.mono (by simp))
  have hz := hb.size
  simp at hz
  have hc1 := (hbw.cell (p := ⟨g, 0, none⟩) hg).trans hc
  have hf1 := (hbw.frozen (p := ⟨g, 0, none⟩) hg).trans hf
  have p0 : w'.cell? ⟨w.heap.size, 0, none⟩ = some (.int .i64 0) := (hb.cell (p := ⟨w.heap.size, 0, none⟩) (by simp)).trans (by go_simp)
  have p1 : w'.cell? ⟨w.heap.size, 1, none⟩ = some (.int .i64 0) := (hb.cell (p := ⟨w.heap.size, 1, none⟩) (by simp)).trans (by go_simp)
  have p2 : w'.cell? ⟨w.heap.size, 2, none⟩ = some (.string ⟨#[]⟩) := (hb.cell (p := ⟨w.heap.size, 2, none⟩) (by simp)).trans (by go_simp)
  have f0 : w'.frozen? ⟨w.heap.size, 0, none⟩ = false := (hb.frozen (p := ⟨w.heap.size, 0, none⟩) (by simp)).trans (by go_simp)
  have f1 : w'.frozen? ⟨w.heap.size, 1, none⟩ = false := (hb.frozen (p := ⟨w.heap.size, 1, none⟩) (by simp)).trans (by go_simp)
  have f2 : w'.frozen? ⟨w.heap.size, 2, none⟩ = false := (hb.frozen (p := ⟨w.heap.size, 2, none⟩) (by simp)).trans (by go_simp)
  clear hc hf hb
  have hg1 : g < w'.heap.size := by omega
  have hne : ¬ w.heap.size = g := by omega
  have hne2 : ¬ g = w.heap.size := by omega
  have hg2 : w.heap.size < w'.heap.size := by omega
  have q0 := fun S => (set_far w' ⟨g, 0, none⟩ ⟨w.heap.size, 0, none⟩ S hne2).trans p0
  have q1 := fun S => (set_far w' ⟨g, 0, none⟩ ⟨w.heap.size, 1, none⟩ S hne2).trans p1
  have q2 := fun S => (set_far w' ⟨g, 0, none⟩ ⟨w.heap.size, 2, none⟩ S hne2).trans p2
  go_wp2
  exact bodyPost_ret (v := .agg #[.int .i64 rk, .int .i64 rn, .string rs]) (by simp [results, Try.results79, go_sem, q0, q1, q2, hg2]) rfl ⟨rfl, rdr_then (w := w'.setCell ⟨g, 0, none⟩ (.slice none 0 c)) (rdr_set hf1 (HC.out.below hbw (by omega)) hB hg1 ⟨_, hc1⟩) (by
    repeat' (first | exact Below.refl _ _ | refine Below.alloc ?_ (by first | (simp; done) | (simp; omega) | omega) _ | refine Below.setCell ?_ (by first | (simp; done) | (simp; omega) | omega) _)), grown_then (w := w'.setCell ⟨g, 0, none⟩ (.slice none 0 c)) (grown_trans (below_grown hbw) (setCell_grown _ _ _)) (by
    repeat' (first | exact Below.refl _ _ | refine Below.alloc ?_ (by first | (simp; done) | (simp; omega) | omega) _ | refine Below.setCell ?_ (by first | (simp; done) | (simp; omega) | omega) _))⟩
set_option maxHeartbeats 400000 in
theorem rraw_d {sp} (g B o gb c : Nat) (l : List UInt8) (w : World) (hc : w.cell? ⟨g, 0, none⟩ = some (.slice (some ⟨gb, o, some sp⟩) l.length c)) (hf : w.frozen? ⟨g, 0, none⟩ = false) (h : Byt w B (.slice (some ⟨gb, o, some sp⟩) l.length c) l) (hB : B ≤ g) (hg : g < w.heap.size) (hl : l.length ≤ 1000000) (rk rn : Int) (rs : ByteArray) (k e : Nat) (hr : getR l = (⟨rk, rn, rs⟩, k, e)) (hn : l.length = 0) (hk : k ≤ l.length) :
    Calls Try.prog 79 #[.pointer (some ⟨g, 0, none⟩)] w (RdOut g B (.agg #[.int .i64 rk, .int .i64 rn, .string rs]) (l.drop k) w) := by
  have hget := fun W (hW : Below w.heap.size w W) => vget_any _ _ _ B l W (h.below hW (by omega)) (by have := hW.size; omega) hl
  unfold GotR at hget
  rw [hr] at hget
  unfold Raw.val at hget
  simp only at hget
  obtain rfl : k = 0 := by omega
  rw [List.drop_zero]
  have hcut := h
  rw [hn] at hc hget hcut
  have HG := Lib.hid hget; clear hget hr
  have HC := Lib.hid hcut; clear hcut h
  go_enter Try.func79, Try.ntmps79
  go_wp2_with fail
  refine (HG.out _ (below_one w _)).mono ?_
  rintro e w' ⟨rfl, hb⟩
  have hbw : Below w.heap.size w w' := (below_one w _).trans (hb.mono (by simp))
  have hz := hb.size
  simp at hz
  have hc1 := (hbw.cell (p := ⟨g, 0, none⟩) hg).trans hc
  have hf1 := (hbw.frozen (p := ⟨g, 0, none⟩) hg).trans hf
  have p0 : w'.cell? ⟨w.heap.size, 0, none⟩ = some (.int .i64 0) := (hb.cell (p := ⟨w.heap.size, 0, none⟩) (by simp)).trans (by go_simp)
  have p1 : w'.cell? ⟨w.heap.size, 1, none⟩ = some (.int .i64 0) := (hb.cell (p := ⟨w.heap.size, 1, none⟩) (by simp)).trans (by go_simp)
  have p2 : w'.cell? ⟨w.heap.size, 2, none⟩ = some (.string ⟨#[]⟩) := (hb.cell (p := ⟨w.heap.size, 2, none⟩) (by simp)).trans (by go_simp)
  have f0 : w'.frozen? ⟨w.heap.size, 0, none⟩ = false := (hb.frozen (p := ⟨w.heap.size, 0, none⟩) (by simp)).trans (by go_simp)
  have f1 : w'.frozen? ⟨w.heap.size, 1, none⟩ = false := (hb.frozen (p := ⟨w.heap.size, 1, none⟩) (by simp)).trans (by go_simp)
  have f2 : w'.frozen? ⟨w.heap.size, 2, none⟩ = false := (hb.frozen (p := ⟨w.heap.size, 2, none⟩) (by simp)).trans (by go_simp)
  clear hc hf hb
  have hg1 : g < w'.heap.size := by omega
  have hne : ¬ w.heap.size = g := by omega
  have hne2 : ¬ g = w.heap.size := by omega
  have hg2 : w.heap.size < w'.heap.size := by omega
  have q0 := fun S => (set_far w' ⟨g, 0, none⟩ ⟨w.heap.size, 0, none⟩ S hne2).trans p0
  have q1 := fun S => (set_far w' ⟨g, 0, none⟩ ⟨w.heap.size, 1, none⟩ S hne2).trans p1
  have q2 := fun S => (set_far w' ⟨g, 0, none⟩ ⟨w.heap.size, 2, none⟩ S hne2).trans p2
  go_wp2
  exact bodyPost_ret (v := .agg #[.int .i64 rk, .int .i64 rn, .string rs]) (by simp [results, Try.results79, go_sem, q0, q1, q2, hg2]) rfl ⟨rfl, rdr_then (w := w'.setCell ⟨g, 0, none⟩ (.slice (some ⟨gb, o, some sp⟩) 0 c)) (rdr_set hf1 (HC.out.below hbw (by omega)) hB hg1 ⟨_, hc1⟩) (by
    repeat' (first | exact Below.refl _ _ | refine Below.alloc ?_ (by first | (simp; done) | (simp; omega) | omega) _ | refine Below.setCell ?_ (by first | (simp; done) | (simp; omega) | omega) _)), grown_then (w := w'.setCell ⟨g, 0, none⟩ (.slice (some ⟨gb, o, some sp⟩) 0 c)) (grown_trans (below_grown hbw) (setCell_grown _ _ _)) (by
    repeat' (first | exact Below.refl _ _ | refine Below.alloc ?_ (by first | (simp; done) | (simp; omega) | omega) _ | refine Below.setCell ?_ (by first | (simp; done) | (simp; omega) | omega) _))⟩
theorem rnum_any (g B : Nat) (l : List UInt8) (w : World) (h : Rdr w g B l) (hl : l.length ≤ 1000000) :
    Calls Try.prog 58 #[.pointer (some ⟨g, 0, none⟩)] w (RdOut g B (.int .i64 (rNum l).1) (rNum l).2 w) := by
  obtain ⟨A, c, hc, hf, hby, hB, hg⟩ := h
  have hk := Nu.get_len l
  unfold rNum
  obtain ⟨⟨n, k, e⟩, hr⟩ : ∃ r, Nu.get l = r := ⟨_, rfl⟩
  rw [hr] at hk ⊢
  simp only at hk ⊢
  cases A with
  | none => exact rnum_c g B 0 0 c l w hc hf hby hB hg hl n k e hr hk
  | some a =>
    obtain ⟨gb, o, sp⟩ := a
    have hsp : sp = none ∨ l.length = 0 := by
      obtain ⟨A', c', hv, _, hx⟩ := hby
      injection hv with e1 _ _
      rcases Nat.eq_zero_or_pos l.length with h0 | h0
      · exact .inr h0
      · obtain ⟨_, _, e2, _⟩ := hx h0; rw [← e1] at e2; injection e2 with e2; injection e2 with _ _ e2; exact .inl e2
    by_cases hs : sp = none
    · subst hs
      by_cases hkc : c = k
      · exact rnum_b g B o gb c l w hc hf hby hB hg hl n k e hr hk hkc
      · exact rnum_a g B o gb c l w hc hf hby hB hg hl n k e hr hk hkc
    · cases sp with
      | none => exact absurd rfl hs
      | some sp => exact rnum_d g B o gb c l w hc hf hby hB hg hl n k e hr (hsp.resolve_left hs) hk
theorem rtxt_any (g B : Nat) (l : List UInt8) (w : World) (h : Rdr w g B l) (hl : l.length ≤ 1000000) :
    Calls Try.prog 78 #[.pointer (some ⟨g, 0, none⟩)] w (RdOut g B (.string (rTxt l).1) (rTxt l).2 w) := by
  obtain ⟨A, c, hc, hf, hby, hB, hg⟩ := h
  have hk := getT_len l
  unfold rTxt
  obtain ⟨⟨n, k, e⟩, hr⟩ : ∃ r, Nu.getT l = r := ⟨_, rfl⟩
  rw [hr] at hk ⊢
  simp only at hk ⊢
  cases A with
  | none => exact rtxt_c g B 0 0 c l w hc hf hby hB hg hl n k e hr hk
  | some a =>
    obtain ⟨gb, o, sp⟩ := a
    have hsp : sp = none ∨ l.length = 0 := by
      obtain ⟨A', c', hv, _, hx⟩ := hby
      injection hv with e1 _ _
      rcases Nat.eq_zero_or_pos l.length with h0 | h0
      · exact .inr h0
      · obtain ⟨_, _, e2, _⟩ := hx h0; rw [← e1] at e2; injection e2 with e2; injection e2 with _ _ e2; exact .inl e2
    by_cases hs : sp = none
    · subst hs
      by_cases hkc : c = k
      · exact rtxt_b g B o gb c l w hc hf hby hB hg hl n k e hr hk hkc
      · exact rtxt_a g B o gb c l w hc hf hby hB hg hl n k e hr hk hkc
    · cases sp with
      | none => exact absurd rfl hs
      | some sp => exact rtxt_d g B o gb c l w hc hf hby hB hg hl n k e hr (hsp.resolve_left hs) hk
theorem rraw_any (g B : Nat) (l : List UInt8) (w : World) (h : Rdr w g B l) (hl : l.length ≤ 1000000) :
    Calls Try.prog 79 #[.pointer (some ⟨g, 0, none⟩)] w (RdOut g B (.agg #[.int .i64 (rRaw l).1.kind, .int .i64 (rRaw l).1.n, .string (rRaw l).1.s]) (rRaw l).2 w) := by
  obtain ⟨A, c, hc, hf, hby, hB, hg⟩ := h
  have hk := getR_len l
  unfold rRaw
  obtain ⟨⟨⟨rk, rn, rs⟩, k, e⟩, hr⟩ : ∃ r, getR l = r := ⟨_, rfl⟩
  rw [hr] at hk ⊢
  simp only at hk ⊢
  cases A with
  | none => exact rraw_c g B 0 0 c l w hc hf hby hB hg hl rk rn rs k e hr hk
  | some a =>
    obtain ⟨gb, o, sp⟩ := a
    have hsp : sp = none ∨ l.length = 0 := by
      obtain ⟨A', c', hv, _, hx⟩ := hby
      injection hv with e1 _ _
      rcases Nat.eq_zero_or_pos l.length with h0 | h0
      · exact .inr h0
      · obtain ⟨_, _, e2, _⟩ := hx h0; rw [← e1] at e2; injection e2 with e2; injection e2 with _ _ e2; exact .inl e2
    by_cases hs : sp = none
    · subst hs
      by_cases hkc : c = k
      · exact rraw_b g B o gb c l w hc hf hby hB hg hl rk rn rs k e hr hk hkc
      · exact rraw_a g B o gb c l w hc hf hby hB hg hl rk rn rs k e hr hk hkc
    · cases sp with
      | none => exact absurd rfl hs
      | some sp => exact rraw_d g B o gb c l w hc hf hby hB hg hl rk rn rs k e hr (hsp.resolve_left hs) hk
end Go.Proofs.Ytegkhkcnoahhdaa
