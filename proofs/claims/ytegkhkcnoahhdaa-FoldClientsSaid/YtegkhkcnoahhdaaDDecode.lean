/-
  Package doc's getRow and ahead: the row at the beginning of bytes; whether all keys of a document stand ahead of one.
  The bytes are at most 1,000,000; the document is a good one.
-/
import Derived.Test.YtegkhkcnoahhdaaDSet
import Derived.Test.YtegkhkcnoahhdaaDApply
set_option linter.unusedSimpArgs false
set_option linter.unusedVariables false
namespace Go.Proofs.Ytegkhkcnoahhdaa
open Go.RowKit
set_option maxRecDepth 100000

theorem dvget_is (A : Option Addr) (n c B : Nat) (l : List UInt8) (k m : Int) (s : ByteArray) (j e : Nat) (w : World) (h : Byt w B (.slice A n c) l) (hB : B ≤ w.heap.size) (hl : l.length ≤ 1000000) (hg : getR l = (⟨k, m, s⟩, j, e)) :
    Calls Try.prog 90 #[.slice A n c] w fun x w' => x = .returned (.tuple #[.agg #[.int .i64 k, .int .i64 m, .string s], .int .i64 j, .int .i64 e]) ∧ Below w.heap.size w w' := by
  have := vget_any A n c B l w h hB hl
  rw [hg] at this; exact this
/-- the row at the beginning of bytes: its pair, how many bytes it takes -/
def rowOf (l : List UInt8) : Option (Par × Nat) :=
  if (Nu.getT l).2.2 = 0 ∧ Ru.key (Nu.getT l).1 = true then
    (if (getR (l.drop (Nu.getT l).2.1)).2.2 = 0 ∧ (getR (l.drop (Nu.getT l).2.1)).1.kind ≠ 0 then
      some (⟨⟨(Nu.getT l).1.toArray⟩, (getR (l.drop (Nu.getT l).2.1)).1⟩, (Nu.getT l).2.1 + (getR (l.drop (Nu.getT l).2.1)).2.1)
    else none)
  else none
set_option maxHeartbeats 1000000 in
theorem dahead_any (B g : Nat) (v : Value) (l : List Par) (key : ByteArray) (w : World) (h : DocO w B g v l) (hg : Gd l) (hks : key.size ≤ 1000000) (b : Bool) (hb : (l.all fun p => lesB p.k key) = b) :
    Calls Try.prog 83 #[.pointer (some ⟨g, 0, none⟩), .string key] w (Bl b w) := by
  have hr := h.docR
  obtain ⟨hgB, v', hv, A, c, rfl, hc, hcell⟩ := hr
  have hlen := hg.len
  by_cases h0 : l.length = 0
  · have hl : l = [] := List.length_eq_zero_iff.1 h0
    subst hl
    have hb2 : b = true := by rw [← hb]; rfl
    subst hb2
    go_enter Try.func83, Try.ntmps83
    go_wp2
    go_ret
    exact ⟨rfl, Below.refl _ _⟩
  · have hlast : (l.all fun p => lesB p.k key) = lesB (l[l.length - 1]'(by omega)).k key := by
      cases hz : lesB (l[l.length - 1]'(by omega)).k key with
      | true =>
        rw [List.all_eq_true]
        intro p hp
        obtain ⟨t, ht, rfl⟩ := List.getElem_of_mem hp
        exact srt_down hg.srt key (i := t) (j := l.length - 1) (by omega) (by omega) hz
      | false =>
        rw [List.all_eq_false]
        exact ⟨_, List.getElem_mem (by omega : l.length - 1 < l.length), by rw [hz]; decide⟩
    rw [hlast] at hb
    obtain ⟨x, hx⟩ : ∃ x, l[l.length - 1]'(by omega) = x := ⟨_, rfl⟩
    obtain ⟨gr, o, rfl, hgr, hcs⟩ := hcell (by omega)
    have r0 := hcs (l.length - 1) (by omega) 0 _ (rc0 _)
    have hxs := hg.key _ (List.getElem_mem (by omega : l.length - 1 < l.length))
    rw [hx] at hb r0 hxs
    obtain ⟨n, hn⟩ : ∃ n, l.length = n + 1 := ⟨l.length - 1, by omega⟩
    rw [hn] at hv hlen hc r0
    rw [Nat.add_sub_cancel, Nat.add_zero] at r0
    obtain ⟨xk, xr⟩ := x
    simp only at hb r0 hxs
    have HB := Lib.hid hb
    clear hcs hcell hx hlast hb hn h0 hg h
    go_enter Try.func83, Try.ntmps83
    go_wp2_with fail
    refine (less_is xk key _ b (Nat.le_trans hxs (by decide)) (Nat.le_trans hks (by decide)) HB.out).mono ?_
    rintro e k1 ⟨rfl, hb1⟩
    go_wp2
    go_ret
    exact ⟨rfl, hb1⟩
def RowR (r : Option (Par × Nat)) (w : World) (e : Ending) (w' : World) : Prop :=
  e = .returned (match r with
    | some (p, k) => .tuple #[.agg #[.string p.k, (vaOf p.v).ins], .int .i64 (k : Nat), .bool true]
    | none => .tuple #[.agg #[.string ⟨#[]⟩, .nilIface], .int .i64 0, .bool false]) ∧ Below w.heap.size w w'
theorem drow_err (A : Option Addr) (n c B : Nat) (l : List UInt8) (w : World) (h : Byt w B (.slice A n c) l) (hB : B ≤ w.heap.size) (hl : l.length ≤ 1000000) (t : List UInt8) (j e : Nat) (hg : Nu.getT l = (t, j, e)) (he : e ≠ 0) :
    Calls Try.prog 82 #[.slice A n c] w (RowR none w) := by
  have hne : ((e : Int) != 0) = true := by rw [bne_iff_ne]; omega
  have hget := fun (W : World) (hW : Below w.heap.size w W) => ngetText_b A n c B l W (h.below hW hB) hl
  rw [hg] at hget
  have HT := Lib.hid hget; clear hget hg
  have hb := Below.refl w.heap.size w
  go_enter Try.func82, Try.ntmps82
  go_wp2_with fail
  refine (HT.out _ (by repeat' (first | with_reducible exact hb | (with_reducible refine Below.alloc ?_ ?_ _) | (with_reducible refine Below.setCell ?_ ?_ _) | exact (by first | (simp; done) | (simp; omega) | omega)))).mono ?_
  rintro e k0 ⟨rfl, rfl⟩
  go_wp2
  refine bodyPost_ret (v := .tuple #[.agg #[.string ⟨#[]⟩, .nilIface], .int .i64 0, .bool false]) (by simp [results, Try.results82, go_sem]) rfl ⟨rfl, ?_⟩
  exact (by repeat' (first | with_reducible exact hb | (with_reducible refine Below.alloc ?_ ?_ _) | (with_reducible refine Below.setCell ?_ ?_ _) | exact (by first | (simp; done) | (simp; omega) | omega)))
set_option maxHeartbeats 1000000 in
theorem drow_key (A : Option Addr) (n c B : Nat) (l : List UInt8) (w : World) (h : Byt w B (.slice A n c) l) (hB : B ≤ w.heap.size) (hl : l.length ≤ 1000000) (t : List UInt8) (j : Nat) (hg : Nu.getT l = (t, j, 0)) (hk : Ru.key t = false) :
    Calls Try.prog 82 #[.slice A n c] w (RowR none w) := by
  have hget := fun (W : World) (hW : Below w.heap.size w W) => ngetText_b A n c B l W (h.below hW hB) hl
  rw [hg] at hget
  have HT := Lib.hid hget; clear hget
  have hb := Below.refl w.heap.size w
  have HK : Hid (Ru.key (⟨t.toArray⟩ : ByteArray).data.toList = false) := Lib.hid (by simpa using hk)
  clear hk hg
  go_enter Try.func82, Try.ntmps82
  go_wp2_with fail
  refine (HT.out _ (by repeat' (first | with_reducible exact hb | (with_reducible refine Below.alloc ?_ ?_ _) | (with_reducible refine Below.setCell ?_ ?_ _) | exact (by first | (simp; done) | (simp; omega) | omega)))).mono ?_
  rintro e k0 ⟨rfl, rfl⟩
  go_wp2_with fail
  refine (key_is _ _ false HK.out).mono ?_
  rintro e k1 ⟨rfl, h⟩
  have hk : Below w.heap.size w k1 := by
    refine Below.trans ?_ (h.mono (by first | (simp; done) | (simp; omega) | omega))
    repeat' (first | with_reducible exact Below.refl _ _ | (with_reducible refine Below.alloc ?_ ?_ _) | (with_reducible refine Below.setCell ?_ ?_ _) | exact (by first | (simp; done) | (simp; omega) | omega))
  have hz := h.size
  try simp at hz
  have r0 : k1.cell? ⟨w.heap.size, 0, none⟩ = some (.string ⟨#[]⟩) := (h.cell (p := ⟨w.heap.size, 0, none⟩) (by first | (simp; done) | (simp; omega) | omega)).trans (by go_simp)
  have r1 : k1.cell? ⟨w.heap.size, 1, none⟩ = some (.nilIface) := (h.cell (p := ⟨w.heap.size, 1, none⟩) (by first | (simp; done) | (simp; omega) | omega)).trans (by go_simp)
  have rf0 : k1.frozen? ⟨w.heap.size, 0, none⟩ = false := (h.frozen (p := ⟨w.heap.size, 0, none⟩) (by first | (simp; done) | (simp; omega) | omega)).trans (by go_simp)
  have rf1 : k1.frozen? ⟨w.heap.size, 1, none⟩ = false := (h.frozen (p := ⟨w.heap.size, 1, none⟩) (by first | (simp; done) | (simp; omega) | omega)).trans (by go_simp)
  replace hb : Below w.heap.size w k1 := hb.trans (hk.mono hb.size)
  have lt0 : w.heap.size < k1.heap.size := (by first | (simp; done) | (simp; omega) | omega)
  clear h hk
  have hnz : w.heap.size ≠ k1.heap.size := by omega
  have hnz2 : k1.heap.size ≠ w.heap.size := by omega
  have hltz : w.heap.size < k1.heap.size := by omega
  go_wp2
  refine bodyPost_ret (v := .tuple #[.agg #[.string ⟨#[]⟩, .nilIface], .int .i64 0, .bool false]) (by simp [results, Try.results82, go_sem, r0, r1, hnz, hnz2, hltz]) rfl ⟨?_, ?_⟩
  · rfl
  · exact (by repeat' (first | with_reducible exact hb | (with_reducible refine Below.alloc ?_ ?_ _) | (with_reducible refine Below.setCell ?_ ?_ _) | exact (by first | (simp; done) | (simp; omega) | omega)))
set_option maxHeartbeats 1000000 in
theorem drow_cap (A : Option Addr) (n c B : Nat) (l : List UInt8) (w : World) (h : Byt w B (.slice A n c) l) (hB : B ≤ w.heap.size) (hl : l.length ≤ 1000000) (t : List UInt8) (j : Nat) (hg : Nu.getT l = (t, j, 0)) (hk : Ru.key t = true) (k m : Int) (s : ByteArray) (i e : Nat) (hr : getR (l.drop j) = (⟨k, m, s⟩, i, e)) (he : e ≠ 0) (hcap : c = j) :
    Calls Try.prog 82 #[.slice A n c] w (RowR none w) := by
  have hget := fun (W : World) (hW : Below w.heap.size w W) => ngetText_b A n c B l W (h.below hW hB) hl
  rw [hg] at hget
  have HT := Lib.hid hget; clear hget
  have hb := Below.refl w.heap.size w
  have HK : Hid (Ru.key (⟨t.toArray⟩ : ByteArray).data.toList = true) := Lib.hid (by simpa using hk)
  have hjl : j ≤ l.length := by have := getT_len l; rw [hg] at this; exact this
  have hl0 : 0 < l.length := by
    rcases l with _ | ⟨x, l⟩
    · simp [Nu.getT, Nu.get, Nu.getF] at hg
    · simp
  obtain ⟨A', c', hv, hc, hcell⟩ := id h
  injection hv with e1 e2 e3; subst e1; subst e3
  obtain ⟨g, o, rfl, hgB, _⟩ := hcell (by omega)
  clear hcell
  rw [e2] at h
  have hcut := h.cut hjl
  subst e2
  have hne : ((e : Int) != 0) = true := by rw [bne_iff_ne]; omega
  have hjl2 : l.length = c := by omega
  have hd : l.drop j = [] := List.drop_of_length_le (by omega)
  rw [if_pos hcap, hd] at hcut
  rw [hd] at hr
  subst hcap
  rw [hjl2] at hcut hc hl HT hl0 ⊢
  rw [Nat.sub_self] at hcut
  have hin := fun (W : World) (hW : Below w.heap.size w W) => dvget_is _ _ _ B [] k m s i e W (hcut.below hW hB) (Nat.le_trans hB hW.size) (by simp) hr
  have HI := Lib.hid hin
  clear hin hcut hg hr hk hd hjl2 h hjl
  go_enter Try.func82, Try.ntmps82
  go_wp2_with fail
  refine (HT.out _ (by repeat' (first | with_reducible exact hb | (with_reducible refine Below.alloc ?_ ?_ _) | (with_reducible refine Below.setCell ?_ ?_ _) | exact (by first | (simp; done) | (simp; omega) | omega)))).mono ?_
  rintro e k0 ⟨rfl, rfl⟩
  go_wp2_with fail
  refine (key_is _ _ true HK.out).mono ?_
  rintro e k1 ⟨rfl, h⟩
  have hk : Below w.heap.size w k1 := by
    refine Below.trans ?_ (h.mono (by first | (simp; done) | (simp; omega) | omega))
    repeat' (first | with_reducible exact Below.refl _ _ | (with_reducible refine Below.alloc ?_ ?_ _) | (with_reducible refine Below.setCell ?_ ?_ _) | exact (by first | (simp; done) | (simp; omega) | omega))
  have hz := h.size
  try simp at hz
  have r0 : k1.cell? ⟨w.heap.size, 0, none⟩ = some (.string ⟨#[]⟩) := (h.cell (p := ⟨w.heap.size, 0, none⟩) (by first | (simp; done) | (simp; omega) | omega)).trans (by go_simp)
  have r1 : k1.cell? ⟨w.heap.size, 1, none⟩ = some (.nilIface) := (h.cell (p := ⟨w.heap.size, 1, none⟩) (by first | (simp; done) | (simp; omega) | omega)).trans (by go_simp)
  have rf0 : k1.frozen? ⟨w.heap.size, 0, none⟩ = false := (h.frozen (p := ⟨w.heap.size, 0, none⟩) (by first | (simp; done) | (simp; omega) | omega)).trans (by go_simp)
  have rf1 : k1.frozen? ⟨w.heap.size, 1, none⟩ = false := (h.frozen (p := ⟨w.heap.size, 1, none⟩) (by first | (simp; done) | (simp; omega) | omega)).trans (by go_simp)
  replace hb : Below w.heap.size w k1 := hb.trans (hk.mono hb.size)
  have lt0 : w.heap.size < k1.heap.size := (by first | (simp; done) | (simp; omega) | omega)
  clear h hk
  go_wp2_with fail
  refine (HI.out _ (by repeat' (first | with_reducible exact hb | (with_reducible refine Below.alloc ?_ ?_ _) | (with_reducible refine Below.setCell ?_ ?_ _) | exact (by first | (simp; done) | (simp; omega) | omega)))).mono ?_
  rintro e k2 ⟨rfl, h⟩
  have hk : Below k1.heap.size k1 k2 := by
    refine Below.trans ?_ (h.mono (by first | (simp; done) | (simp; omega) | omega))
    repeat' (first | with_reducible exact Below.refl _ _ | (with_reducible refine Below.alloc ?_ ?_ _) | (with_reducible refine Below.setCell ?_ ?_ _) | exact (by first | (simp; done) | (simp; omega) | omega))
  have hz := h.size
  try simp at hz
  replace r0 : k2.cell? ⟨w.heap.size, 0, none⟩ = some (.string ⟨#[]⟩) := (hk.cell (p := ⟨w.heap.size, 0, none⟩) (by first | (simp; done) | (simp; omega) | omega)).trans r0
  replace r1 : k2.cell? ⟨w.heap.size, 1, none⟩ = some (.nilIface) := (hk.cell (p := ⟨w.heap.size, 1, none⟩) (by first | (simp; done) | (simp; omega) | omega)).trans r1
  replace rf0 : k2.frozen? ⟨w.heap.size, 0, none⟩ = false := (hk.frozen (p := ⟨w.heap.size, 0, none⟩) (by first | (simp; done) | (simp; omega) | omega)).trans rf0
  replace rf1 : k2.frozen? ⟨w.heap.size, 1, none⟩ = false := (hk.frozen (p := ⟨w.heap.size, 1, none⟩) (by first | (simp; done) | (simp; omega) | omega)).trans rf1
  replace hb : Below w.heap.size w k2 := hb.trans (hk.mono hb.size)
  have lt0 : w.heap.size < k2.heap.size := (by first | (simp; done) | (simp; omega) | omega)
  clear h hk
  have hnz : w.heap.size ≠ k2.heap.size := by omega
  have hnz2 : k2.heap.size ≠ w.heap.size := by omega
  have hltz : w.heap.size < k2.heap.size := by omega
  go_wp2
  refine bodyPost_ret (v := .tuple #[.agg #[.string ⟨#[]⟩, .nilIface], .int .i64 0, .bool false]) (by simp [results, Try.results82, go_sem, r0, r1, hnz, hnz2, hltz]) rfl ⟨?_, ?_⟩
  · rfl
  · exact (by repeat' (first | with_reducible exact hb | (with_reducible refine Below.alloc ?_ ?_ _) | (with_reducible refine Below.setCell ?_ ?_ _) | exact (by first | (simp; done) | (simp; omega) | omega)))
set_option maxHeartbeats 1000000 in
theorem drow_rerr (A : Option Addr) (n c B : Nat) (l : List UInt8) (w : World) (h : Byt w B (.slice A n c) l) (hB : B ≤ w.heap.size) (hl : l.length ≤ 1000000) (t : List UInt8) (j : Nat) (hg : Nu.getT l = (t, j, 0)) (hk : Ru.key t = true) (k m : Int) (s : ByteArray) (i e : Nat) (hr : getR (l.drop j) = (⟨k, m, s⟩, i, e)) (hcap : ¬ c = j) (he : e ≠ 0) :
    Calls Try.prog 82 #[.slice A n c] w (RowR none w) := by
  have hget := fun (W : World) (hW : Below w.heap.size w W) => ngetText_b A n c B l W (h.below hW hB) hl
  rw [hg] at hget
  have HT := Lib.hid hget; clear hget
  have hb := Below.refl w.heap.size w
  have HK : Hid (Ru.key (⟨t.toArray⟩ : ByteArray).data.toList = true) := Lib.hid (by simpa using hk)
  have hjl : j ≤ l.length := by have := getT_len l; rw [hg] at this; exact this
  have hl0 : 0 < l.length := by
    rcases l with _ | ⟨x, l⟩
    · simp [Nu.getT, Nu.get, Nu.getF] at hg
    · simp
  obtain ⟨A', c', hv, hc, hcell⟩ := id h
  injection hv with e1 e2 e3; subst e1; subst e3
  obtain ⟨g, o, rfl, hgB, _⟩ := hcell (by omega)
  clear hcell
  rw [e2] at h
  have hcut := h.cut hjl
  subst e2
  rw [if_neg hcap, add_lit] at hcut
  have hin := fun (W : World) (hW : Below w.heap.size w W) => dvget_is _ _ _ B (l.drop j) k m s i e W (hcut.below hW hB) (Nat.le_trans hB hW.size) (by rw [List.length_drop]; omega) hr
  have HI := Lib.hid hin
  clear hin hcut hg hk
  have hne : ((e : Int) != 0) = true := by rw [bne_iff_ne]; omega
  clear hr
  go_enter Try.func82, Try.ntmps82
  go_wp2_with fail
  refine (HT.out _ (by repeat' (first | with_reducible exact hb | (with_reducible refine Below.alloc ?_ ?_ _) | (with_reducible refine Below.setCell ?_ ?_ _) | exact (by first | (simp; done) | (simp; omega) | omega)))).mono ?_
  rintro e k0 ⟨rfl, rfl⟩
  go_wp2_with fail
  refine (key_is _ _ true HK.out).mono ?_
  rintro e k1 ⟨rfl, h⟩
  have hk : Below w.heap.size w k1 := by
    refine Below.trans ?_ (h.mono (by first | (simp; done) | (simp; omega) | omega))
    repeat' (first | with_reducible exact Below.refl _ _ | (with_reducible refine Below.alloc ?_ ?_ _) | (with_reducible refine Below.setCell ?_ ?_ _) | exact (by first | (simp; done) | (simp; omega) | omega))
  have hz := h.size
  try simp at hz
  have r0 : k1.cell? ⟨w.heap.size, 0, none⟩ = some (.string ⟨#[]⟩) := (h.cell (p := ⟨w.heap.size, 0, none⟩) (by first | (simp; done) | (simp; omega) | omega)).trans (by go_simp)
  have r1 : k1.cell? ⟨w.heap.size, 1, none⟩ = some (.nilIface) := (h.cell (p := ⟨w.heap.size, 1, none⟩) (by first | (simp; done) | (simp; omega) | omega)).trans (by go_simp)
  have rf0 : k1.frozen? ⟨w.heap.size, 0, none⟩ = false := (h.frozen (p := ⟨w.heap.size, 0, none⟩) (by first | (simp; done) | (simp; omega) | omega)).trans (by go_simp)
  have rf1 : k1.frozen? ⟨w.heap.size, 1, none⟩ = false := (h.frozen (p := ⟨w.heap.size, 1, none⟩) (by first | (simp; done) | (simp; omega) | omega)).trans (by go_simp)
  replace hb : Below w.heap.size w k1 := hb.trans (hk.mono hb.size)
  have lt0 : w.heap.size < k1.heap.size := (by first | (simp; done) | (simp; omega) | omega)
  clear h hk
  go_wp2_with fail
  refine (HI.out _ (by repeat' (first | with_reducible exact hb | (with_reducible refine Below.alloc ?_ ?_ _) | (with_reducible refine Below.setCell ?_ ?_ _) | exact (by first | (simp; done) | (simp; omega) | omega)))).mono ?_
  rintro e k2 ⟨rfl, h⟩
  have hk : Below k1.heap.size k1 k2 := by
    refine Below.trans ?_ (h.mono (by first | (simp; done) | (simp; omega) | omega))
    repeat' (first | with_reducible exact Below.refl _ _ | (with_reducible refine Below.alloc ?_ ?_ _) | (with_reducible refine Below.setCell ?_ ?_ _) | exact (by first | (simp; done) | (simp; omega) | omega))
  have hz := h.size
  try simp at hz
  replace r0 : k2.cell? ⟨w.heap.size, 0, none⟩ = some (.string ⟨#[]⟩) := (hk.cell (p := ⟨w.heap.size, 0, none⟩) (by first | (simp; done) | (simp; omega) | omega)).trans r0
  replace r1 : k2.cell? ⟨w.heap.size, 1, none⟩ = some (.nilIface) := (hk.cell (p := ⟨w.heap.size, 1, none⟩) (by first | (simp; done) | (simp; omega) | omega)).trans r1
  replace rf0 : k2.frozen? ⟨w.heap.size, 0, none⟩ = false := (hk.frozen (p := ⟨w.heap.size, 0, none⟩) (by first | (simp; done) | (simp; omega) | omega)).trans rf0
  replace rf1 : k2.frozen? ⟨w.heap.size, 1, none⟩ = false := (hk.frozen (p := ⟨w.heap.size, 1, none⟩) (by first | (simp; done) | (simp; omega) | omega)).trans rf1
  replace hb : Below w.heap.size w k2 := hb.trans (hk.mono hb.size)
  have lt0 : w.heap.size < k2.heap.size := (by first | (simp; done) | (simp; omega) | omega)
  clear h hk
  have hnz : w.heap.size ≠ k2.heap.size := by omega
  have hnz2 : k2.heap.size ≠ w.heap.size := by omega
  have hltz : w.heap.size < k2.heap.size := by omega
  go_wp2
  refine bodyPost_ret (v := .tuple #[.agg #[.string ⟨#[]⟩, .nilIface], .int .i64 0, .bool false]) (by simp [results, Try.results82, go_sem, r0, r1, hnz, hnz2, hltz]) rfl ⟨?_, ?_⟩
  · rfl
  · exact (by repeat' (first | with_reducible exact hb | (with_reducible refine Below.alloc ?_ ?_ _) | (with_reducible refine Below.setCell ?_ ?_ _) | exact (by first | (simp; done) | (simp; omega) | omega)))
set_option maxHeartbeats 1000000 in
theorem drow_none (A : Option Addr) (n c B : Nat) (l : List UInt8) (w : World) (h : Byt w B (.slice A n c) l) (hB : B ≤ w.heap.size) (hl : l.length ≤ 1000000) (t : List UInt8) (j : Nat) (hg : Nu.getT l = (t, j, 0)) (hk : Ru.key t = true) (k m : Int) (s : ByteArray) (i e : Nat) (hr : getR (l.drop j) = (⟨k, m, s⟩, i, e)) (hcap : ¬ c = j) (he : e = 0) (hk0 : k = 0) :
    Calls Try.prog 82 #[.slice A n c] w (RowR none w) := by
  have hget := fun (W : World) (hW : Below w.heap.size w W) => ngetText_b A n c B l W (h.below hW hB) hl
  rw [hg] at hget
  have HT := Lib.hid hget; clear hget
  have hb := Below.refl w.heap.size w
  have HK : Hid (Ru.key (⟨t.toArray⟩ : ByteArray).data.toList = true) := Lib.hid (by simpa using hk)
  have hjl : j ≤ l.length := by have := getT_len l; rw [hg] at this; exact this
  have hl0 : 0 < l.length := by
    rcases l with _ | ⟨x, l⟩
    · simp [Nu.getT, Nu.get, Nu.getF] at hg
    · simp
  obtain ⟨A', c', hv, hc, hcell⟩ := id h
  injection hv with e1 e2 e3; subst e1; subst e3
  obtain ⟨g, o, rfl, hgB, _⟩ := hcell (by omega)
  clear hcell
  rw [e2] at h
  have hcut := h.cut hjl
  subst e2
  rw [if_neg hcap, add_lit] at hcut
  have hin := fun (W : World) (hW : Below w.heap.size w W) => dvget_is _ _ _ B (l.drop j) k m s i e W (hcut.below hW hB) (Nat.le_trans hB hW.size) (by rw [List.length_drop]; omega) hr
  have HI := Lib.hid hin
  clear hin hcut hg hk
  subst he hk0
  clear hr
  go_enter Try.func82, Try.ntmps82
  go_wp2_with fail
  refine (HT.out _ (by repeat' (first | with_reducible exact hb | (with_reducible refine Below.alloc ?_ ?_ _) | (with_reducible refine Below.setCell ?_ ?_ _) | exact (by first | (simp; done) | (simp; omega) | omega)))).mono ?_
  rintro e k0 ⟨rfl, rfl⟩
  go_wp2_with fail
  refine (key_is _ _ true HK.out).mono ?_
  rintro e k1 ⟨rfl, h⟩
  have hk : Below w.heap.size w k1 := by
    refine Below.trans ?_ (h.mono (by first | (simp; done) | (simp; omega) | omega))
    repeat' (first | with_reducible exact Below.refl _ _ | (with_reducible refine Below.alloc ?_ ?_ _) | (with_reducible refine Below.setCell ?_ ?_ _) | exact (by first | (simp; done) | (simp; omega) | omega))
  have hz := h.size
  try simp at hz
  have r0 : k1.cell? ⟨w.heap.size, 0, none⟩ = some (.string ⟨#[]⟩) := (h.cell (p := ⟨w.heap.size, 0, none⟩) (by first | (simp; done) | (simp; omega) | omega)).trans (by go_simp)
  have r1 : k1.cell? ⟨w.heap.size, 1, none⟩ = some (.nilIface) := (h.cell (p := ⟨w.heap.size, 1, none⟩) (by first | (simp; done) | (simp; omega) | omega)).trans (by go_simp)
  have rf0 : k1.frozen? ⟨w.heap.size, 0, none⟩ = false := (h.frozen (p := ⟨w.heap.size, 0, none⟩) (by first | (simp; done) | (simp; omega) | omega)).trans (by go_simp)
  have rf1 : k1.frozen? ⟨w.heap.size, 1, none⟩ = false := (h.frozen (p := ⟨w.heap.size, 1, none⟩) (by first | (simp; done) | (simp; omega) | omega)).trans (by go_simp)
  replace hb : Below w.heap.size w k1 := hb.trans (hk.mono hb.size)
  have lt0 : w.heap.size < k1.heap.size := (by first | (simp; done) | (simp; omega) | omega)
  clear h hk
  go_wp2_with fail
  refine (HI.out _ (by repeat' (first | with_reducible exact hb | (with_reducible refine Below.alloc ?_ ?_ _) | (with_reducible refine Below.setCell ?_ ?_ _) | exact (by first | (simp; done) | (simp; omega) | omega)))).mono ?_
  rintro e k2 ⟨rfl, h⟩
  have hk : Below k1.heap.size k1 k2 := by
    refine Below.trans ?_ (h.mono (by first | (simp; done) | (simp; omega) | omega))
    repeat' (first | with_reducible exact Below.refl _ _ | (with_reducible refine Below.alloc ?_ ?_ _) | (with_reducible refine Below.setCell ?_ ?_ _) | exact (by first | (simp; done) | (simp; omega) | omega))
  have hz := h.size
  try simp at hz
  replace r0 : k2.cell? ⟨w.heap.size, 0, none⟩ = some (.string ⟨#[]⟩) := (hk.cell (p := ⟨w.heap.size, 0, none⟩) (by first | (simp; done) | (simp; omega) | omega)).trans r0
  replace r1 : k2.cell? ⟨w.heap.size, 1, none⟩ = some (.nilIface) := (hk.cell (p := ⟨w.heap.size, 1, none⟩) (by first | (simp; done) | (simp; omega) | omega)).trans r1
  replace rf0 : k2.frozen? ⟨w.heap.size, 0, none⟩ = false := (hk.frozen (p := ⟨w.heap.size, 0, none⟩) (by first | (simp; done) | (simp; omega) | omega)).trans rf0
  replace rf1 : k2.frozen? ⟨w.heap.size, 1, none⟩ = false := (hk.frozen (p := ⟨w.heap.size, 1, none⟩) (by first | (simp; done) | (simp; omega) | omega)).trans rf1
  replace hb : Below w.heap.size w k2 := hb.trans (hk.mono hb.size)
  have lt0 : w.heap.size < k2.heap.size := (by first | (simp; done) | (simp; omega) | omega)
  clear h hk
  have hnz : w.heap.size ≠ k2.heap.size := by omega
  have hnz2 : k2.heap.size ≠ w.heap.size := by omega
  have hltz : w.heap.size < k2.heap.size := by omega
  go_wp2
  refine bodyPost_ret (v := .tuple #[.agg #[.string ⟨#[]⟩, .nilIface], .int .i64 0, .bool false]) (by simp [results, Try.results82, go_sem, r0, r1, hnz, hnz2, hltz]) rfl ⟨?_, ?_⟩
  · rfl
  · exact (by repeat' (first | with_reducible exact hb | (with_reducible refine Below.alloc ?_ ?_ _) | (with_reducible refine Below.setCell ?_ ?_ _) | exact (by first | (simp; done) | (simp; omega) | omega)))
set_option maxHeartbeats 1000000 in
theorem drow_ok (A : Option Addr) (n c B : Nat) (l : List UInt8) (w : World) (h : Byt w B (.slice A n c) l) (hB : B ≤ w.heap.size) (hl : l.length ≤ 1000000) (t : List UInt8) (j : Nat) (hg : Nu.getT l = (t, j, 0)) (hk : Ru.key t = true) (k m : Int) (s : ByteArray) (i e : Nat) (hr : getR (l.drop j) = (⟨k, m, s⟩, i, e)) (hcap : ¬ c = j) (he : e = 0) (hk0 : k ≠ 0) :
    Calls Try.prog 82 #[.slice A n c] w (RowR (some (⟨⟨t.toArray⟩, ⟨k, m, s⟩⟩, j + i)) w) := by
  have hget := fun (W : World) (hW : Below w.heap.size w W) => ngetText_b A n c B l W (h.below hW hB) hl
  rw [hg] at hget
  have HT := Lib.hid hget; clear hget
  have hb := Below.refl w.heap.size w
  have HK : Hid (Ru.key (⟨t.toArray⟩ : ByteArray).data.toList = true) := Lib.hid (by simpa using hk)
  have hjl : j ≤ l.length := by have := getT_len l; rw [hg] at this; exact this
  have hl0 : 0 < l.length := by
    rcases l with _ | ⟨x, l⟩
    · simp [Nu.getT, Nu.get, Nu.getF] at hg
    · simp
  obtain ⟨A', c', hv, hc, hcell⟩ := id h
  injection hv with e1 e2 e3; subst e1; subst e3
  obtain ⟨g, o, rfl, hgB, _⟩ := hcell (by omega)
  clear hcell
  rw [e2] at h
  have hcut := h.cut hjl
  subst e2
  rw [if_neg hcap, add_lit] at hcut
  have hin := fun (W : World) (hW : Below w.heap.size w W) => dvget_is _ _ _ B (l.drop j) k m s i e W (hcut.below hW hB) (Nat.le_trans hB hW.size) (by rw [List.length_drop]; omega) hr
  have HI := Lib.hid hin
  clear hin hcut hg hk
  subst he
  have hc2 := getR_canon _ _ _ hr
  have hil : i ≤ l.length - j := by
    have h1 := congrArg List.length hc2.1
    rw [List.length_append, ← hc2.2.1, List.length_drop] at h1; omega
  have hk1 : (k == 0) = false := by rw [beq_eq_false_iff_ne]; exact hk0
  obtain ⟨va, hva⟩ : ∃ va, vaOf ⟨k, m, s⟩ = va := ⟨_, rfl⟩
  obtain ⟨xv, hxv⟩ : ∃ xv, va.ins = xv := ⟨_, rfl⟩
  have hst := fun a m W => ins_store va xv hxv a m W
  have HO := Lib.hid (fun W => vof_is (.agg #[.int .i64 k, .int .i64 m, .string s]) ⟨k, m, s⟩ va xv 0 W rfl hc2.2.2.2.2.2 hva hxv (by rw [hc2.2.2.1]; rfl))
  have HX : Hid (xv = (vaOf ⟨k, m, s⟩).ins) := Lib.hid (by rw [hva, hxv])
  clear hr hc2 hva hxv hk0
  go_enter Try.func82, Try.ntmps82
  go_wp2_with fail
  refine (HT.out _ (by repeat' (first | with_reducible exact hb | (with_reducible refine Below.alloc ?_ ?_ _) | (with_reducible refine Below.setCell ?_ ?_ _) | exact (by first | (simp; done) | (simp; omega) | omega)))).mono ?_
  rintro e k0 ⟨rfl, rfl⟩
  go_wp2_with fail
  refine (key_is _ _ true HK.out).mono ?_
  rintro e k1 ⟨rfl, h⟩
  have hk : Below w.heap.size w k1 := by
    refine Below.trans ?_ (h.mono (by first | (simp; done) | (simp; omega) | omega))
    repeat' (first | with_reducible exact Below.refl _ _ | (with_reducible refine Below.alloc ?_ ?_ _) | (with_reducible refine Below.setCell ?_ ?_ _) | exact (by first | (simp; done) | (simp; omega) | omega))
  have hz := h.size
  try simp at hz
  have r0 : k1.cell? ⟨w.heap.size, 0, none⟩ = some (.string ⟨#[]⟩) := (h.cell (p := ⟨w.heap.size, 0, none⟩) (by first | (simp; done) | (simp; omega) | omega)).trans (by go_simp)
  have r1 : k1.cell? ⟨w.heap.size, 1, none⟩ = some (.nilIface) := (h.cell (p := ⟨w.heap.size, 1, none⟩) (by first | (simp; done) | (simp; omega) | omega)).trans (by go_simp)
  have rf0 : k1.frozen? ⟨w.heap.size, 0, none⟩ = false := (h.frozen (p := ⟨w.heap.size, 0, none⟩) (by first | (simp; done) | (simp; omega) | omega)).trans (by go_simp)
  have rf1 : k1.frozen? ⟨w.heap.size, 1, none⟩ = false := (h.frozen (p := ⟨w.heap.size, 1, none⟩) (by first | (simp; done) | (simp; omega) | omega)).trans (by go_simp)
  replace hb : Below w.heap.size w k1 := hb.trans (hk.mono hb.size)
  have lt0 : w.heap.size < k1.heap.size := (by first | (simp; done) | (simp; omega) | omega)
  clear h hk
  go_wp2_with fail
  refine (HI.out _ (by repeat' (first | with_reducible exact hb | (with_reducible refine Below.alloc ?_ ?_ _) | (with_reducible refine Below.setCell ?_ ?_ _) | exact (by first | (simp; done) | (simp; omega) | omega)))).mono ?_
  rintro e k2 ⟨rfl, h⟩
  have hk : Below k1.heap.size k1 k2 := by
    refine Below.trans ?_ (h.mono (by first | (simp; done) | (simp; omega) | omega))
    repeat' (first | with_reducible exact Below.refl _ _ | (with_reducible refine Below.alloc ?_ ?_ _) | (with_reducible refine Below.setCell ?_ ?_ _) | exact (by first | (simp; done) | (simp; omega) | omega))
  have hz := h.size
  try simp at hz
  replace r0 : k2.cell? ⟨w.heap.size, 0, none⟩ = some (.string ⟨#[]⟩) := (hk.cell (p := ⟨w.heap.size, 0, none⟩) (by first | (simp; done) | (simp; omega) | omega)).trans r0
  replace r1 : k2.cell? ⟨w.heap.size, 1, none⟩ = some (.nilIface) := (hk.cell (p := ⟨w.heap.size, 1, none⟩) (by first | (simp; done) | (simp; omega) | omega)).trans r1
  replace rf0 : k2.frozen? ⟨w.heap.size, 0, none⟩ = false := (hk.frozen (p := ⟨w.heap.size, 0, none⟩) (by first | (simp; done) | (simp; omega) | omega)).trans rf0
  replace rf1 : k2.frozen? ⟨w.heap.size, 1, none⟩ = false := (hk.frozen (p := ⟨w.heap.size, 1, none⟩) (by first | (simp; done) | (simp; omega) | omega)).trans rf1
  replace hb : Below w.heap.size w k2 := hb.trans (hk.mono hb.size)
  have lt0 : w.heap.size < k2.heap.size := (by first | (simp; done) | (simp; omega) | omega)
  clear h hk
  go_wp2_with fail
  refine (HO.out _).mono ?_
  rintro e k3 ⟨rfl, h⟩
  have hk : Below k2.heap.size k2 k3 := by
    refine Below.trans ?_ (h.mono (by first | (simp; done) | (simp; omega) | omega))
    repeat' (first | with_reducible exact Below.refl _ _ | (with_reducible refine Below.alloc ?_ ?_ _) | (with_reducible refine Below.setCell ?_ ?_ _) | exact (by first | (simp; done) | (simp; omega) | omega))
  have hz := h.size
  try simp at hz
  replace r0 : k3.cell? ⟨w.heap.size, 0, none⟩ = some (.string ⟨#[]⟩) := (hk.cell (p := ⟨w.heap.size, 0, none⟩) (by first | (simp; done) | (simp; omega) | omega)).trans r0
  replace r1 : k3.cell? ⟨w.heap.size, 1, none⟩ = some (.nilIface) := (hk.cell (p := ⟨w.heap.size, 1, none⟩) (by first | (simp; done) | (simp; omega) | omega)).trans r1
  replace rf0 : k3.frozen? ⟨w.heap.size, 0, none⟩ = false := (hk.frozen (p := ⟨w.heap.size, 0, none⟩) (by first | (simp; done) | (simp; omega) | omega)).trans rf0
  replace rf1 : k3.frozen? ⟨w.heap.size, 1, none⟩ = false := (hk.frozen (p := ⟨w.heap.size, 1, none⟩) (by first | (simp; done) | (simp; omega) | omega)).trans rf1
  replace hb : Below w.heap.size w k3 := hb.trans (hk.mono hb.size)
  have lt0 : w.heap.size < k3.heap.size := (by first | (simp; done) | (simp; omega) | omega)
  clear h hk
  have hnz : w.heap.size ≠ k3.heap.size := by omega
  have hnz2 : k3.heap.size ≠ w.heap.size := by omega
  have hltz : w.heap.size < k3.heap.size := by omega
  go_wp2
  refine bodyPost_ret (v := .tuple #[.agg #[.string ⟨t.toArray⟩, xv], .int .i64 ((j : Int) + i), .bool true]) (by simp [results, Try.results82, go_sem, r0, r1, hnz, hnz2, hltz]) rfl ⟨?_, ?_⟩
  · rw [HX.out]; rfl
  · exact (by repeat' (first | with_reducible exact hb | (with_reducible refine Below.alloc ?_ ?_ _) | (with_reducible refine Below.setCell ?_ ?_ _) | exact (by first | (simp; done) | (simp; omega) | omega)))
theorem drow_any (A : Option Addr) (n c B : Nat) (l : List UInt8) (w : World) (h : Byt w B (.slice A n c) l) (hB : B ≤ w.heap.size) (hl : l.length ≤ 1000000) :
    Calls Try.prog 82 #[.slice A n c] w (RowR (rowOf l) w) := by
  obtain ⟨⟨t, j, e⟩, hg⟩ : ∃ r, Nu.getT l = r := ⟨_, rfl⟩
  unfold rowOf
  rw [hg]
  simp only
  by_cases he : e = 0
  · subst he
    by_cases hk : Ru.key t = true
    · rw [if_pos ⟨rfl, hk⟩]
      obtain ⟨⟨⟨k, m, s⟩, i, e2⟩, hr⟩ : ∃ r, getR (l.drop j) = r := ⟨_, rfl⟩
      rw [hr]
      simp only
      by_cases hcap : c = j
      · have he2 : e2 ≠ 0 := fun e => by
          have hd : l.drop j = [] := by
            obtain ⟨A', c', hv, hc, _⟩ := h
            injection hv with _ _ e3
            exact List.drop_of_length_le (by omega)
          rw [hd] at hr
          simp [getR, Nu.get, Nu.getF] at hr
          omega
        rw [if_neg (fun h => he2 h.1)]
        exact drow_cap A n c B l w h hB hl t j hg hk k m s i e2 hr he2 hcap
      · by_cases he2 : e2 = 0
        · by_cases hk0 : k = 0
          · rw [if_neg (fun h => h.2 hk0)]
            exact drow_none A n c B l w h hB hl t j hg hk k m s i e2 hr hcap he2 hk0
          · rw [if_pos ⟨he2, hk0⟩]
            exact drow_ok A n c B l w h hB hl t j hg hk k m s i e2 hr hcap he2 hk0
        · rw [if_neg (fun h => he2 h.1)]
          exact drow_rerr A n c B l w h hB hl t j hg hk k m s i e2 hr hcap he2
    · rw [if_neg (fun h => hk h.2)]
      exact drow_key A n c B l w h hB hl t j hg (by simpa using hk)
  · rw [if_neg (fun h => he h.1)]
    exact drow_err A n c B l w h hB hl t j e hg he
end Go.Proofs.Ytegkhkcnoahhdaa
/-
  Package doc's Decode reads a document as the plain function says, whatever the bytes.
  The bytes are there in memory, at most 1,000,000.
-/
namespace Go.Proofs.Ytegkhkcnoahhdaa
open Go.RowKit
set_option maxRecDepth 100000

/-- so many rows, one behind the other, behind those of acc, and nothing behind them -/
def rowsD : Nat → List Par → List UInt8 → Option (List Par)
  | 0, acc, l => if l.length = 0 then some acc else none
  | k + 1, acc, l => match rowOf l with
    | none => none
    | some (p, n) => if (acc.all fun q => lesB q.k p.k) = true then rowsD k (acc ++ [p]) (l.drop n) else none
def decD (l : List UInt8) : Option (List Par) :=
  if (Nu.get l).2.2 = 0 ∧ 0 ≤ (Nu.get l).1 ∧ (Nu.get l).1 ≤ 50 then rowsD (Nu.get l).1.toNat [] (l.drop (Nu.get l).2.1) else none
/-- what Decode answers -/
def DDecR (r : Option (List Par)) (w : World) (e : Ending) (w' : World) : Prop :=
  (match r with
    | some x => ∃ g v, e = .returned (.tuple #[.pointer (some ⟨g, 0, none⟩), .int .i64 0]) ∧ DocO w' w.heap.size g v x ∧ Gd x
    | none => e = .returned (.tuple #[.pointer none, .int .i64 1])) ∧ Below w.heap.size w w'
theorem DDecR.no {R : Option (List Par)} {w w' : World} (h : R = none) (hb : Below w.heap.size w w') : DDecR R w (.returned (.tuple #[.pointer none, .int .i64 1])) w' := by
  subst h; exact ⟨rfl, hb⟩
theorem DDecR.yes {R : Option (List Par)} {w w' : World} {g : Nat} {v : Value} {x : List Par} (h : R = some x) (hd : DocO w' w.heap.size g v x) (hg : Gd x) (hb : Below w.heap.size w w') : DDecR R w (.returned (.tuple #[.pointer (some ⟨g, 0, none⟩), .int .i64 0])) w' := by
  subst h; exact ⟨⟨g, v, rfl, hd, hg⟩, hb⟩
theorem rowOf_nil : rowOf [] = none := by
  unfold rowOf; simp [Nu.getT, Nu.get, Nu.getF]
theorem rowOf_good {l : List UInt8} {p : Par} {n : Nat} (h : rowOf l = some (p, n)) (hl : l.length ≤ 1000000) : Ru.key p.k.data.toList = true ∧ mayR p.v = true ∧ p.v.kind ≠ 0 ∧ p.v.ok ∧ n ≤ l.length ∧ l = bytesP p ++ l.drop n ∧ n = (bytesP p).length := by
  unfold rowOf at h
  split at h
  · rename_i h1
    split at h
    · rename_i h2
      injection h with h
      injection h with hp hn
      obtain ⟨⟨t, j, e⟩, ht⟩ : ∃ r, Nu.getT l = r := ⟨_, rfl⟩
      rw [ht] at h1 h2 hp hn
      simp only at h1 h2 hp hn
      obtain ⟨⟨r, i, e2⟩, hr⟩ : ∃ r, getR (l.drop j) = r := ⟨_, rfl⟩
      rw [hr] at h2 hp hn
      simp only at h2 hp hn
      obtain ⟨he, hk⟩ := h1
      obtain ⟨he2, hk0⟩ := h2
      subst he he2
      obtain ⟨c1, c2, c3⟩ := Nu.getT_canon _ _ _ ht
      obtain ⟨d1, d2, d3, d4⟩ := getR_canon _ _ _ hr
      subst hp hn
      have hb : bytesP ⟨⟨t.toArray⟩, r⟩ = Nu.putT t ++ putR r := by unfold bytesP; simp
      refine ⟨by simpa using hk, d3, hk0, d4, ?_, ?_, ?_⟩
      · have h1 := congrArg List.length c1
        have h2 := congrArg List.length d1
        rw [List.length_append] at h1 h2
        rw [List.length_drop] at h1
        rw [List.length_drop, List.length_drop, List.length_drop] at h2
        omega
      · rw [hb, List.append_assoc, ← List.drop_drop, ← d1]; exact c1
      · rw [hb, List.length_append, c2, d2]
    · cases h
  · cases h
theorem gd_snoc {l : List Par} (h : Gd l) {p : Par} (hp : Ru.key p.k.data.toList = true ∧ mayR p.v = true ∧ p.v.kind ≠ 0 ∧ p.v.ok) (ha : (l.all fun q => lesB q.k p.k) = true) (hn : l.length < 50) : Gd (l ++ [p]) := by
  refine ⟨?_, by simp; omega, fun q hq => ?_⟩
  · unfold Srt
    rw [List.pairwise_append]
    exact ⟨h.srt, by simp, fun a ha2 b hb => by
      rw [List.mem_singleton] at hb; subst hb
      exact List.all_eq_true.1 ha a ha2⟩
  · rw [List.mem_append, List.mem_singleton] at hq
    rcases hq with hq | rfl
    · exact h.all q hq
    · exact hp
/-- a row that lies in a block is put behind a document's rows -/
theorem wp_append_row {w : World} {o : Oper} {a : Act} {K : Act → World → Prop} {Q : Exit → Act → World → Prop} (s x : Operand)
    (ho : o.op = .call { callee := .builtin .append, args := #[s, x], argTypes := #[57, 57] })
    (B : Nat) (v : Value) (l : List Par) (y : Par) (g : Nat) (hs : a.eval s = v) (hown : OwnR B v l w) (hx : a.eval x = .slice (some ⟨g, 0, none⟩) 1 1) (hy : ∀ j u, y.rc[j]? = some u → w.cell? ((⟨g, 0, none⟩ : Addr).add j) = some u) (hl : l.length ≤ 1000) (hB : B ≤ w.heap.size)
    (h : ∀ v' w', OwnR B v' (l ++ [y]) w' → w.grownBy w' v.ownBlock → K (a.put o.dst v') w') : o.wp Try.prog a w K Q := by
  obtain ⟨iO, hiO, hz⟩ := Option.map_eq_some_iff.1 Try.infoRow3
  simp only [Prod.mk.injEq] at hz
  obtain ⟨hzO0, hzO1, hzO2⟩ := hz
  have hlen : (l.flatMap Par.rc).length = l.length * 2 := hown.1
  obtain ⟨v', w', hr, h2, h3, _, _⟩ := run_append_own_at (P := Try.prog) w B 57 o.type 80 iO _ 2 32 Try.underlying57 hiO hzO0 hzO1 hzO2 rfl (by decide) v l.length _ hown ⟨g, 0, none⟩ 1 1 y.rc rfl hy (rc_one y) (by unfold maxLen; omega) (by omega) hB
  unfold Oper.wp execOp
  simp only [ho, resolve, invoke, builtin, Sem.run_bind, Sem.run_pure, Result.andThen_ok, List.map_toArray, List.map_cons, List.map_nil, hs, hx, hr]
  refine h v' w' ?_ h3
  unfold OwnR; rw [← rc_cells, List.length_append]; exact h2
set_option maxHeartbeats 1000000 in
theorem ddecode_any (A : Option Addr) (n c B : Nat) (l : List UInt8) (w : World) (h : Byt w B (.slice A n c) l) (hB : B ≤ w.heap.size) (hl : l.length ≤ 1000000) :
    Calls Try.prog 62 #[.slice A n c] w (DDecR (decD l) w) := by
  obtain ⟨⟨k, j, e⟩, hg⟩ : ∃ r, Nu.get l = r := ⟨_, rfl⟩
  have hget := fun (W : World) (hW : Below w.heap.size w W) => nget_b A n c B l W (h.below hW hB) hl
  rw [hg] at hget
  have HT := Lib.hid hget; clear hget
  have hb := Below.refl w.heap.size w
  by_cases he : e = 0
  · subst he
    by_cases hk : 0 ≤ k ∧ k ≤ 50
    · have hd : decD l = rowsD k.toNat [] (l.drop j) := by unfold decD; rw [hg]; rw [if_pos ⟨rfl, hk⟩]
      rw [hd]
      obtain ⟨cn, hcn⟩ : ∃ cn : Nat, k = (cn : Int) := ⟨k.toNat, by omega⟩
      subst hcn
      have hcn50 : cn ≤ 50 := by omega
      rw [Int.toNat_natCast]
      have hjl : j ≤ l.length := by have := Nu.get_len l; rw [hg] at this; exact this
      have hj1 : 1 ≤ j := by have := Nu.get_pos l; rw [hg] at this; exact this rfl
      obtain ⟨A', c', hv, hc, hcell⟩ := id h
      injection hv with e1 e2 e3; subst e1; subst e3
      obtain ⟨g, o, rfl, hgB, _⟩ := hcell (by omega)
      clear hcell
      rw [e2] at h
      have hcut := h.cut hjl
      subst e2
      obtain ⟨R, hR⟩ : ∃ R, rowsD cn [] (l.drop j) = R := ⟨_, rfl⟩
      rw [hR]
      by_cases hcap : c = j
      · have hjl2 : l.length = c := by omega
        have hd0 : l.drop j = [] := List.drop_of_length_le (by omega)
        rw [if_pos hcap, hd0] at hcut
        rw [hd0] at hR
        subst hcap
        rw [hjl2] at hcut hc hl HT ⊢
        rw [Nat.sub_self] at hcut
        have HC := Lib.hid hcut
        have HR := Lib.hid hR
        clear h hg hd hcut hR hd0 hjl2 hjl
        go_enter Try.func62, Try.ntmps62
        go_wp2_with fail
        refine (HT.out _ hb).mono ?_
        rintro e k0 ⟨rfl, rfl⟩
        go_wp2_with fail
        refine (dnew_any _).mono ?_
        rintro e k1 ⟨rfl, hk1⟩
        have hb1 : Below w.heap.size w k1 := by rw [hk1]; exact below_one w _
        have hd1 : DocO k1 w.heap.size w.heap.size (.slice none 0 0) [] := by
          rw [hk1]
          exact ⟨Nat.le_refl _, heap_alloc_new _ _, World.ownsRow_nil _ _ _ _⟩
        clear hk1
        go_wp2
        go_loopw [7, 33] (fun r i wr => ∃ (k : Nat) (acc : List Par) (v : Value) (A2 : Option Addr) (n2 c2 : Nat) (l2 : List UInt8), r = .slice A2 n2 c2 ∧ i = .int .i64 k ∧ k ≤ cn ∧ Byt w B (.slice A2 n2 c2) l2 ∧ l2.length ≤ 1000000 ∧ DocO wr w.heap.size w.heap.size v acc ∧ Gd acc ∧ acc.length = k ∧ rowsD (cn - k) acc l2 = R ∧ Below w.heap.size w wr) (fun _ i _ => cn - (intOf i).toNat)
        case atStart => exact ⟨0, [], _, _, _, _, _, rfl, rfl, by omega, HC.out, by simp, hd1, gd_nil, rfl, HR.out, hb1⟩
        case round =>
          obtain ⟨k, acc, v, A2, n2, c2, l2, rfl, rfl, hk, hby, hl2, hdo, hgd, hal, hrw, hbw⟩ := hrel
          clear hd1 hb1
          have hn2 : n2 = l2.length := by obtain ⟨_, _, hv, _⟩ := hby; injection hv
          have HDO := Lib.hid hdo
          have HGD := Lib.hid hgd
          have HAL := Lib.hid hal
          have HBY := Lib.hid hby
          have HN2 := Lib.hid hn2
          clear hdo hgd hal hby hn2
          by_cases hkl : k < cn
          · have HKL := Lib.hid hkl
            rw [show cn - k = (cn - (k + 1)) + 1 by omega] at hrw
            obtain ⟨ro, hro⟩ : ∃ ro, rowOf l2 = ro := ⟨_, rfl⟩
            unfold rowsD at hrw
            rw [hro] at hrw
            have hrow := drow_any A2 n2 c2 B l2 wr (HBY.out.below hbw hB) (Nat.le_trans hB hbw.size) hl2
            rw [hro] at hrow
            have HRW := Lib.hid hrw; clear hrw
            cases ro with
            | none =>
              have HROW := Lib.hid hrow; clear hrow hro
              go_wp2_with fail
              refine HROW.out.mono ?_
              rintro e k2 ⟨rfl, h⟩
              have hb2 : Below w.heap.size w k2 := hbw.trans (h.mono hbw.size)
              clear h
              go_wp2
              go_ret2
              refine DDecR.no HRW.out.symm ?_
              repeat' (first | with_reducible exact hb2 | (with_reducible refine Below.alloc ?_ ?_ _) | (with_reducible refine Below.setCell ?_ ?_ _) | exact hb2.size)
            | some pm =>
              obtain ⟨p, m⟩ := pm
              obtain ⟨g1, g2, g3, g4, hml, -, -⟩ := rowOf_good hro hl2
              have hm0 : 0 < l2.length := by
                rcases l2 with _ | ⟨x, l2⟩
                · rw [rowOf_nil] at hro; cases hro
                · simp
              obtain ⟨A3, c3, hv3, hc3, hcell3⟩ := id HBY.out
              injection hv3 with e1 e2 e3; subst e1 e3; clear e2
              obtain ⟨gb, ob, rfl, hgb, _⟩ := hcell3 hm0
              clear hcell3
              have HP := Lib.hid (show Ru.key p.k.data.toList = true ∧ mayR p.v = true ∧ p.v.kind ≠ 0 ∧ p.v.ok from ⟨g1, g2, g3, g4⟩)
              obtain ⟨ah, hah⟩ : ∃ ah, (acc.all fun q => lesB q.k p.k) = ah := ⟨_, rfl⟩
              have hahead := fun W (hb : Below wr.heap.size wr W) => dahead_any w.heap.size w.heap.size v acc p.k W (HDO.out.below hb) HGD.out (by have := Ru.key_len g1; rw [size_list] at this; omega) ah hah
              obtain ⟨pk, pr⟩ := p
              obtain ⟨va, hva⟩ : ∃ va, vaOf pr = va := ⟨_, rfl⟩
              obtain ⟨xv, hxv⟩ : ∃ xv, va.ins = xv := ⟨_, rfl⟩
              have hst := fun a m W => ins_store va xv hxv a m W
              have hrow2 : Calls Try.prog 82 #[.slice (some ⟨gb, ob, none⟩) n2 c2] wr fun e w' => e = .returned (.tuple #[.agg #[.string pk, xv], .int .i64 m, .bool true]) ∧ Below wr.heap.size wr w' := by
                refine hrow.mono ?_
                rintro e w' ⟨h1, h2⟩
                refine ⟨?_, h2⟩
                rw [h1]
                simp only [hva, hxv]
              have HXV := Lib.hid (show xv = (vaOf pr).ins by rw [hva, hxv])
              have HAH := Lib.hid hah
              have HROW := Lib.hid hrow2; clear hrow hrow2 hro hah g1 g2 g3 g4 hva hxv
              have HAD := Lib.hid hahead; clear hahead
              go_wp2_with fail
              refine HROW.out.mono ?_
              rintro e k2 ⟨rfl, h⟩
              have hb2 : Below w.heap.size w k2 := hbw.trans (h.mono hbw.size)
              have hzw := h.size
              have hbr2 : Below wr.heap.size wr (k2.alloc (.cells #[.string pk, xv] 80)) := h.alloc h.size _
              clear h
              go_wp2_with fail
              refine (HAD.out _ hbr2).mono ?_
              rintro e k3 ⟨rfl, h⟩
              have r0 : k3.cell? ⟨k2.heap.size, 0, none⟩ = some (.string pk) := (h.cell (p := ⟨k2.heap.size, 0, none⟩) (by simp)).trans (by go_simp)
              have r1 : k3.cell? ⟨k2.heap.size, 1, none⟩ = some xv := (h.cell (p := ⟨k2.heap.size, 1, none⟩) (by simp)).trans (by go_simp)
              have hbr3 : Below wr.heap.size wr k3 := hbr2.trans (h.mono hbr2.size)
              have hb3 : Below w.heap.size w k3 := hbw.trans (hbr3.mono hbw.size)
              have hz3 := h.size
              simp at hz3
              clear h hbr2
              cases ah with
              | false =>
                have hno : R = none := by rw [← HRW.out]; simp [HAH.out]
                have HNO := Lib.hid hno; clear hno
                go_wp2
                go_ret2
                refine DDecR.no HNO.out ?_
                repeat' (first | with_reducible exact hb3 | (with_reducible refine Below.alloc ?_ ?_ _) | (with_reducible refine Below.setCell ?_ ?_ _) | exact hb3.size)
              | true =>
                have hyes : rowsD (cn - (k + 1)) (acc ++ [⟨pk, pr⟩]) (l2.drop m) = R := by rw [← HRW.out]; simp [HAH.out]
                have HYES := Lib.hid hyes; clear hyes
                have hdo3 := HDO.out.below hbr3
                have HZW := Lib.hid hzw
                have HGK := Lib.hid (show w.heap.size < k2.heap.size from Nat.lt_of_lt_of_le (HDO.out.lt) hzw)
                obtain ⟨A4, m4, c4, rfl⟩ := own_slice3 hdo3.own
                have HDO3 := Lib.hid hdo3
                have HDOW := Lib.hid HDO.out.own
                have q0 := cell_one hdo3.here
                have q1 := frozen_one hdo3.here
                clear hdo3
                go_wp2_with fail
                have lt0 : k2.heap.size < k3.heap.size := by omega
                have hb : Below w.heap.size w k3 := hb3
                have hgz := HDO3.out.lt
                have hown := HDO3.out.own
                have hh := HDO3.out.here
                have hwk : wr.heap.size ≤ k2.heap.size := Nat.le_trans (Nat.le_refl _) HZW.out
                have hob : ∀ j, (Value.slice A4 m4 c4).ownBlock = some j → j < k2.heap.size := fun j e => Nat.lt_of_lt_of_le (World.ownsRow.lt HDOW.out j e).2 hwk
                have HOWN := Lib.hid hown; clear hown
                have HHH := Lib.hid hh; clear hh
                have HB3 := Lib.hid hb3
                have HOB := Lib.hid hob; clear hob
                clear q0 q1 hb3
                replace r0 : k3.drew.cell? ⟨k2.heap.size, 0, none⟩ = some (.string pk) := r0
                replace r1 : k3.drew.cell? ⟨k2.heap.size, 1, none⟩ = some (xv) := r1
                replace HOWN := Lib.hid (ownsRow_below HOWN.out ((Below.refl k3.heap.size k3).drew))
                replace HHH := Lib.hid ((((Below.refl k3.heap.size k3).drew).block _ hgz).trans HHH.out)
                refine wp_region_noPanic ?_
                refine wp_region_held_drew (S := fun W => W.cell? ⟨k2.heap.size, 0, none⟩ = some (.string pk) ∧ W.cell? ⟨k2.heap.size, 1, none⟩ = some (xv)) (by kernel_rfl) ?_ (fun hHeld => ?_)
                · exact ⟨r0, r1⟩
                replace hb : Below w.heap.size w k3.drew := hb.drew
                replace lt0 : k2.heap.size < k3.drew.heap.size := lt0
                have hzd : k3.heap.size ≤ k3.drew.heap.size := Nat.le_refl _
                generalize k3.drew = k4 at *
                refine wpAnyH_take (i := 0) (oi := { dst := some 50, op := Op.move (Operand.tmp 8), type := 49, pos := "doc.go:186", after := #[], guard := none }) (v := .pointer (some ⟨w.heap.size, 0, none⟩)) rfl (by kernel_rfl) (by kernel_rfl) (by kernel_rfl) (fun _ _ _ h => h) (Or.inl ⟨by rfl, fun w hSw => ?_⟩) (by assumption) ?_
                · (try dsimp only at hSw)
                  go_simp
                try simp only [Act.put, List.setIfInBounds_toArray, List.set_cons_zero, List.set_cons_succ]
                refine wpAnyH_take (i := 1) (oi := { dst := some 51, op := Op.move (Operand.tmp 8), type := 49, pos := "doc.go:186", after := #[], guard := none }) (v := .pointer (some ⟨w.heap.size, 0, none⟩)) rfl (by kernel_rfl) (by kernel_rfl) (by kernel_rfl) (fun _ _ _ h => h) (Or.inl ⟨by rfl, fun w hSw => ?_⟩) (by assumption) ?_
                · (try dsimp only at hSw)
                  go_simp
                try simp only [Act.put, List.setIfInBounds_toArray, List.set_cons_zero, List.set_cons_succ]
                refine wpAnyH_take (i := 2) (oi := { dst := some 52, op := Op.nilCheck (Operand.tmp 51), type := 0, pos := "doc.go:186", after := #[{ on := 1, ground := Ground.data }], guard := none }) (v := .pointer (some ⟨w.heap.size, 0, none⟩)) rfl (by kernel_rfl) (by kernel_rfl) (by kernel_rfl) (fun _ _ _ h => h) (Or.inl ⟨by rfl, fun w hSw => ?_⟩) (by assumption) ?_
                · (try dsimp only at hSw)
                  go_simp
                try simp only [Act.put, List.setIfInBounds_toArray, List.set_cons_zero, List.set_cons_succ]
                refine wpAnyH_take (i := 3) (oi := { dst := some 53, op := Op.fieldAddr 59 (Operand.tmp 52) 0, type := 0, pos := "doc.go:186", after := #[{ on := 2, ground := Ground.data }], guard := none }) (v := .pointer (some ⟨w.heap.size, 0, none⟩)) rfl (by kernel_rfl) (by kernel_rfl) (by kernel_rfl) (fun _ _ _ h => h) (Or.inl ⟨by rfl, fun w hSw => ?_⟩) (by assumption) ?_
                · (try dsimp only at hSw)
                  go_simp
                try simp only [Act.put, List.setIfInBounds_toArray, List.set_cons_zero, List.set_cons_succ]
                refine wpAnyH_take (i := 5) (oi := { dst := some 55, op := Op.load 80 (Operand.tmp 9), type := 80, pos := "doc.go:186", after := #[], guard := none }) (v := .agg #[.string pk, xv]) rfl (by kernel_rfl) (by kernel_rfl) (by kernel_rfl) (fun _ _ _ h => h) (Or.inl ⟨by rfl, fun w hSw => ?_⟩) (by assumption) ?_
                · (try dsimp only at hSw)
                  go_simp
                try simp only [Act.put, List.setIfInBounds_toArray, List.set_cons_zero, List.set_cons_succ]
                refine wpAnyH_ready (rs := [4, 6]) (by kernel_rfl) (by simp) ?_
                refine AllReadyH.cons (o := { dst := some 54, op := Op.load 57 (Operand.tmp 53), type := 57, pos := "doc.go:186", after := #[{ on := 3, ground := Ground.data }], guard := none }) rfl (fun K hK => ?_) (AllReadyH.cons (o := { dst := some 56, op := Op.buildSlice 57 1 #[(0, Operand.tmp 55)], type := 57, pos := "doc.go:186", after := #[{ on := 5, ground := Ground.data }], guard := none }) rfl (fun K hK => ?_) (AllReadyH.nil))
                · have q0 : k4.cell? ⟨w.heap.size, 0, none⟩ = some (.slice A4 m4 c4) := cell_one HHH.out
                  have q0a : (k4.alloc (.cells #[.string pk, xv] 80)).cell? ⟨w.heap.size, 0, none⟩ = some (.slice A4 m4 c4) := Lib.cell?_alloc_some _ q0
                  go_simp
                  clear q0 q0a
                  refine hK.out _ _ ?_ (fun hHeld => ?_)
                  · exact ⟨r0, r1⟩
                  clear hK K
                  try simp only [Act.put, List.setIfInBounds_toArray, List.set_cons_zero, List.set_cons_succ]
                  refine wpAnyH_ready (rs := [6]) (by kernel_rfl) (by simp) ?_
                  refine AllReadyH.cons (o := { dst := some 56, op := Op.buildSlice 57 1 #[(0, Operand.tmp 55)], type := 57, pos := "doc.go:186", after := #[{ on := 5, ground := Ground.data }], guard := none }) rfl (fun K hK => ?_) (AllReadyH.nil)
                  go_simp
                  replace r0 : (k4.alloc (.cells #[.string pk, xv] 80)).cell? ⟨k2.heap.size, 0, none⟩ = some (.string pk) := Lib.cell?_alloc_some _ r0
                  replace r1 : (k4.alloc (.cells #[.string pk, xv] 80)).cell? ⟨k2.heap.size, 1, none⟩ = some xv := Lib.cell?_alloc_some _ r1
                  refine hK.out _ _ ?_ (fun hHeld => ?_)
                  · exact ⟨r0, r1⟩
                  clear hK K
                  try simp only [Act.put, List.setIfInBounds_toArray, List.set_cons_zero, List.set_cons_succ]
                  refine wpAnyH_ready (rs := [7]) (by kernel_rfl) (by simp) ?_
                  refine AllReadyH.cons (o := { dst := some 57, op := Op.call { callee := Callee.builtin Builtin.append, args := #[Operand.tmp 54, Operand.tmp 56], argTypes := #[57, 57] }, type := 57, pos := "doc.go:186", after := #[{ on := 4, ground := Ground.data }, { on := 6, ground := Ground.data }], guard := none }) rfl (fun K hK => ?_) (AllReadyH.nil)
                  rw [if_pos (by rfl)]
                  refine wp_append_row _ _ rfl w.heap.size _ acc ⟨pk, pr⟩ k4.heap.size rfl (HOWN.out.alloc _) rfl ?_ ?_ ?_ ?_
                  · intro j u hu
                    have hl : Lone (k4.alloc (.cells #[.string pk, xv] 80)) k4.heap.size ⟨pk, pr⟩ := by unfold Lone Par.rc; rw [heap_alloc_new, HXV.out]
                    exact hl.at_ j u hu
                  · rw [HAL.out]; omega
                  · exact Nat.le_trans hb.size (by simp)
                  intro v9 w9 hown9 hgr9
                  obtain ⟨A9, m9, c9, rfl⟩ := own_slice3 hown9
                  have hgz2 : w.heap.size < k4.heap.size := (Array.getElem?_eq_some_iff.1 HHH.out).1
                  have hh9 : w9.heap[w.heap.size]? = some (.cells #[.slice A4 m4 c4] 59 (0, 0)) := (hgr9.block _ (by simp; omega) (fun e => own_ne HOWN.out HHH.out e.symm)).trans ((Below.heap_alloc _ _ _ hgz2).trans HHH.out)
                  replace r0 := hgr9.cell r0 (fun e => by have := HOB.out _ e.symm; simp only at this; omega)
                  replace r1 := hgr9.cell r1 (fun e => by have := HOB.out _ e.symm; simp only at this; omega)
                  have hb9 : Below w.heap.size w w9 := (hb.alloc hb.size _).trans (grownBy_below hgr9 (fun j hj => (World.ownsRow.lt HOWN.out j hj).1) (Nat.le_trans hb.size (by simp)))
                  have hz9 : k2.heap.size < w9.heap.size := Nat.lt_of_lt_of_le (Nat.lt_of_lt_of_le lt0 (by simp)) hgr9.size
                  have HO9 := Lib.hid hown9; clear hown9
                  have HH9 := Lib.hid hh9; clear hh9
                  clear hgr9 hb
                  refine hK.out _ _ ?_ (fun hHeld => ?_)
                  · exact ⟨r0, r1⟩
                  clear hK K
                  try simp only [Act.put, List.setIfInBounds_toArray, List.set_cons_zero, List.set_cons_succ]
                  refine wpAnyH_take (i := 8) (oi := { dst := some 58, op := Op.nilCheck (Operand.tmp 50), type := 0, pos := "doc.go:186", after := #[{ on := 0, ground := Ground.data }, { on := 0, ground := Ground.phase }, { on := 1, ground := Ground.phase }, { on := 2, ground := Ground.phase }, { on := 3, ground := Ground.phase }, { on := 4, ground := Ground.phase }, { on := 5, ground := Ground.phase }, { on := 6, ground := Ground.phase }, { on := 7, ground := Ground.phase }], guard := none }) (v := .pointer (some ⟨w.heap.size, 0, none⟩)) rfl (by kernel_rfl) (by kernel_rfl) (by kernel_rfl) (fun _ _ _ h => h) (Or.inl ⟨by rfl, fun w hSw => ?_⟩) (by assumption) ?_
                  · (try dsimp only at hSw)
                    go_simp
                  try simp only [Act.put, List.setIfInBounds_toArray, List.set_cons_zero, List.set_cons_succ]
                  refine wpAnyH_take (i := 9) (oi := { dst := some 59, op := Op.fieldAddr 59 (Operand.tmp 58) 0, type := 0, pos := "doc.go:186", after := #[{ on := 8, ground := Ground.data }, { on := 0, ground := Ground.phase }, { on := 1, ground := Ground.phase }, { on := 2, ground := Ground.phase }, { on := 3, ground := Ground.phase }, { on := 4, ground := Ground.phase }, { on := 5, ground := Ground.phase }, { on := 6, ground := Ground.phase }, { on := 7, ground := Ground.phase }], guard := none }) (v := .pointer (some ⟨w.heap.size, 0, none⟩)) rfl (by kernel_rfl) (by kernel_rfl) (by kernel_rfl) (fun _ _ _ h => h) (Or.inl ⟨by rfl, fun w hSw => ?_⟩) (by assumption) ?_
                  · (try dsimp only at hSw)
                    go_simp
                  try simp only [Act.put, List.setIfInBounds_toArray, List.set_cons_zero, List.set_cons_succ]
                  refine wpAnyH_ready (rs := [10]) (by kernel_rfl) (by simp) ?_
                  refine AllReadyH.cons (o := { dst := none, op := Op.store 57 (Operand.tmp 59) (Operand.tmp 57), type := 0, pos := "doc.go:186", after := #[{ on := 9, ground := Ground.data }, { on := 7, ground := Ground.data }, { on := 7, ground := Ground.chain }, { on := 0, ground := Ground.phase }, { on := 1, ground := Ground.phase }, { on := 2, ground := Ground.phase }, { on := 3, ground := Ground.phase }, { on := 4, ground := Ground.phase }, { on := 5, ground := Ground.phase }, { on := 6, ground := Ground.phase }, { on := 7, ground := Ground.phase }], guard := none }) rfl (fun K hK => ?_) (AllReadyH.nil)
                  have s0 := cell_one HH9.out
                  have s1 := frozen_one HH9.out
                  have hgk : w.heap.size ≠ k2.heap.size := by have := HGK.out; omega
                  go_simp
                  replace r0 := (setCell_grown w9 ⟨w.heap.size, 0, none⟩ (.slice A9 m9 c9)).cell (a := ⟨k2.heap.size, 0, none⟩) r0 (fun e => by injection e with e; exact hgk e.symm)
                  replace r1 := (setCell_grown w9 ⟨w.heap.size, 0, none⟩ (.slice A9 m9 c9)).cell (a := ⟨k2.heap.size, 1, none⟩) r1 (fun e => by injection e with e; exact hgk e.symm)
                  have hd9 := docO_store HH9.out HO9.out (Nat.le_refl _)
                  have HD9 := Lib.hid hd9; clear hd9
                  have hb10 : Below w.heap.size w (w9.setCell ⟨w.heap.size, 0, none⟩ (.slice A9 m9 c9)) := Below.setCell (p := ⟨w.heap.size, 0, none⟩) hb9 (Nat.le_refl _) _
                  clear s0 s1 hb9
                  refine hK.out _ _ ?_ (fun hHeld => ?_)
                  · exact ⟨r0, r1⟩
                  clear hK K
                  try simp only [Act.put, List.setIfInBounds_toArray, List.set_cons_zero, List.set_cons_succ]
                  refine wpAnyH_done (by kernel_rfl) ?_ _
                  refine NoPanic.normal ?_
                  have hbyc := HBY.out
                  rw [HN2.out] at hbyc
                  have hcut := hbyc.cut hml
                  have HNN := HN2.out
                  by_cases hcm : c2 = m
                  · have hnm : l2.length = m := by omega
                    have hnm2 : n2 = m := by omega
                    have hd0 : l2.drop m = [] := List.drop_of_length_le (by omega)
                    rw [if_pos hcm, hd0, hnm, hcm, Nat.sub_self] at hcut
                    subst hcm
                    subst hnm2
                    have HCUT := Lib.hid hcut
                    clear hcut hbyc HNN hnm hml
                    go_wp2
                    go_roundw
                    case rel => exact ⟨k + 1, acc ++ [⟨pk, pr⟩], _, _, _, _, [], rfl, by go_num, by have := HKL.out; omega, HCUT.out, by simp, HD9.out, gd_snoc HGD.out HP.out HAH.out (by rw [HAL.out]; have := HKL.out; omega), by rw [List.length_append, HAL.out]; rfl, by rw [← hd0]; exact HYES.out, hb10⟩
                    case measure => have := HKL.out; simp [intOf]; omega
                  · rw [if_neg hcm, add_lit, ← HNN] at hcut
                    have HCUT := Lib.hid hcut
                    have hmn : m ≤ n2 := by omega
                    clear hcut hbyc HNN
                    go_wp2
                    go_roundw
                    case rel => exact ⟨k + 1, acc ++ [⟨pk, pr⟩], _, _, _, _, l2.drop m, rfl, by go_num, by have := HKL.out; omega, HCUT.out, by rw [List.length_drop]; omega, HD9.out, gd_snoc HGD.out HP.out HAH.out (by rw [HAL.out]; have := HKL.out; omega), by rw [List.length_append, HAL.out]; rfl, HYES.out, hb10⟩
                    case measure => have := HKL.out; simp [intOf]; omega
                · go_simp
                  replace r0 : (k4.alloc (.cells #[.string pk, xv] 80)).cell? ⟨k2.heap.size, 0, none⟩ = some (.string pk) := Lib.cell?_alloc_some _ r0
                  replace r1 : (k4.alloc (.cells #[.string pk, xv] 80)).cell? ⟨k2.heap.size, 1, none⟩ = some xv := Lib.cell?_alloc_some _ r1
                  refine hK.out _ _ ?_ (fun hHeld => ?_)
                  · exact ⟨r0, r1⟩
                  clear hK K
                  try simp only [Act.put, List.setIfInBounds_toArray, List.set_cons_zero, List.set_cons_succ]
                  refine wpAnyH_ready (rs := [4]) (by kernel_rfl) (by simp) ?_
                  refine AllReadyH.cons (o := { dst := some 54, op := Op.load 57 (Operand.tmp 53), type := 57, pos := "doc.go:186", after := #[{ on := 3, ground := Ground.data }], guard := none }) rfl (fun K hK => ?_) (AllReadyH.nil)
                  have q0 : k4.cell? ⟨w.heap.size, 0, none⟩ = some (.slice A4 m4 c4) := cell_one HHH.out
                  have q0a : (k4.alloc (.cells #[.string pk, xv] 80)).cell? ⟨w.heap.size, 0, none⟩ = some (.slice A4 m4 c4) := Lib.cell?_alloc_some _ q0
                  go_simp
                  clear q0 q0a
                  refine hK.out _ _ ?_ (fun hHeld => ?_)
                  · exact ⟨r0, r1⟩
                  clear hK K
                  try simp only [Act.put, List.setIfInBounds_toArray, List.set_cons_zero, List.set_cons_succ]
                  refine wpAnyH_ready (rs := [7]) (by kernel_rfl) (by simp) ?_
                  refine AllReadyH.cons (o := { dst := some 57, op := Op.call { callee := Callee.builtin Builtin.append, args := #[Operand.tmp 54, Operand.tmp 56], argTypes := #[57, 57] }, type := 57, pos := "doc.go:186", after := #[{ on := 4, ground := Ground.data }, { on := 6, ground := Ground.data }], guard := none }) rfl (fun K hK => ?_) (AllReadyH.nil)
                  rw [if_pos (by rfl)]
                  refine wp_append_row _ _ rfl w.heap.size _ acc ⟨pk, pr⟩ k4.heap.size rfl (HOWN.out.alloc _) rfl ?_ ?_ ?_ ?_
                  · intro j u hu
                    have hl : Lone (k4.alloc (.cells #[.string pk, xv] 80)) k4.heap.size ⟨pk, pr⟩ := by unfold Lone Par.rc; rw [heap_alloc_new, HXV.out]
                    exact hl.at_ j u hu
                  · rw [HAL.out]; omega
                  · exact Nat.le_trans hb.size (by simp)
                  intro v9 w9 hown9 hgr9
                  obtain ⟨A9, m9, c9, rfl⟩ := own_slice3 hown9
                  have hgz2 : w.heap.size < k4.heap.size := (Array.getElem?_eq_some_iff.1 HHH.out).1
                  have hh9 : w9.heap[w.heap.size]? = some (.cells #[.slice A4 m4 c4] 59 (0, 0)) := (hgr9.block _ (by simp; omega) (fun e => own_ne HOWN.out HHH.out e.symm)).trans ((Below.heap_alloc _ _ _ hgz2).trans HHH.out)
                  replace r0 := hgr9.cell r0 (fun e => by have := HOB.out _ e.symm; simp only at this; omega)
                  replace r1 := hgr9.cell r1 (fun e => by have := HOB.out _ e.symm; simp only at this; omega)
                  have hb9 : Below w.heap.size w w9 := (hb.alloc hb.size _).trans (grownBy_below hgr9 (fun j hj => (World.ownsRow.lt HOWN.out j hj).1) (Nat.le_trans hb.size (by simp)))
                  have hz9 : k2.heap.size < w9.heap.size := Nat.lt_of_lt_of_le (Nat.lt_of_lt_of_le lt0 (by simp)) hgr9.size
                  have HO9 := Lib.hid hown9; clear hown9
                  have HH9 := Lib.hid hh9; clear hh9
                  clear hgr9 hb
                  refine hK.out _ _ ?_ (fun hHeld => ?_)
                  · exact ⟨r0, r1⟩
                  clear hK K
                  try simp only [Act.put, List.setIfInBounds_toArray, List.set_cons_zero, List.set_cons_succ]
                  refine wpAnyH_take (i := 8) (oi := { dst := some 58, op := Op.nilCheck (Operand.tmp 50), type := 0, pos := "doc.go:186", after := #[{ on := 0, ground := Ground.data }, { on := 0, ground := Ground.phase }, { on := 1, ground := Ground.phase }, { on := 2, ground := Ground.phase }, { on := 3, ground := Ground.phase }, { on := 4, ground := Ground.phase }, { on := 5, ground := Ground.phase }, { on := 6, ground := Ground.phase }, { on := 7, ground := Ground.phase }], guard := none }) (v := .pointer (some ⟨w.heap.size, 0, none⟩)) rfl (by kernel_rfl) (by kernel_rfl) (by kernel_rfl) (fun _ _ _ h => h) (Or.inl ⟨by rfl, fun w hSw => ?_⟩) (by assumption) ?_
                  · (try dsimp only at hSw)
                    go_simp
                  try simp only [Act.put, List.setIfInBounds_toArray, List.set_cons_zero, List.set_cons_succ]
                  refine wpAnyH_take (i := 9) (oi := { dst := some 59, op := Op.fieldAddr 59 (Operand.tmp 58) 0, type := 0, pos := "doc.go:186", after := #[{ on := 8, ground := Ground.data }, { on := 0, ground := Ground.phase }, { on := 1, ground := Ground.phase }, { on := 2, ground := Ground.phase }, { on := 3, ground := Ground.phase }, { on := 4, ground := Ground.phase }, { on := 5, ground := Ground.phase }, { on := 6, ground := Ground.phase }, { on := 7, ground := Ground.phase }], guard := none }) (v := .pointer (some ⟨w.heap.size, 0, none⟩)) rfl (by kernel_rfl) (by kernel_rfl) (by kernel_rfl) (fun _ _ _ h => h) (Or.inl ⟨by rfl, fun w hSw => ?_⟩) (by assumption) ?_
                  · (try dsimp only at hSw)
                    go_simp
                  try simp only [Act.put, List.setIfInBounds_toArray, List.set_cons_zero, List.set_cons_succ]
                  refine wpAnyH_ready (rs := [10]) (by kernel_rfl) (by simp) ?_
                  refine AllReadyH.cons (o := { dst := none, op := Op.store 57 (Operand.tmp 59) (Operand.tmp 57), type := 0, pos := "doc.go:186", after := #[{ on := 9, ground := Ground.data }, { on := 7, ground := Ground.data }, { on := 7, ground := Ground.chain }, { on := 0, ground := Ground.phase }, { on := 1, ground := Ground.phase }, { on := 2, ground := Ground.phase }, { on := 3, ground := Ground.phase }, { on := 4, ground := Ground.phase }, { on := 5, ground := Ground.phase }, { on := 6, ground := Ground.phase }, { on := 7, ground := Ground.phase }], guard := none }) rfl (fun K hK => ?_) (AllReadyH.nil)
                  have s0 := cell_one HH9.out
                  have s1 := frozen_one HH9.out
                  have hgk : w.heap.size ≠ k2.heap.size := by have := HGK.out; omega
                  go_simp
                  replace r0 := (setCell_grown w9 ⟨w.heap.size, 0, none⟩ (.slice A9 m9 c9)).cell (a := ⟨k2.heap.size, 0, none⟩) r0 (fun e => by injection e with e; exact hgk e.symm)
                  replace r1 := (setCell_grown w9 ⟨w.heap.size, 0, none⟩ (.slice A9 m9 c9)).cell (a := ⟨k2.heap.size, 1, none⟩) r1 (fun e => by injection e with e; exact hgk e.symm)
                  have hd9 := docO_store HH9.out HO9.out (Nat.le_refl _)
                  have HD9 := Lib.hid hd9; clear hd9
                  have hb10 : Below w.heap.size w (w9.setCell ⟨w.heap.size, 0, none⟩ (.slice A9 m9 c9)) := Below.setCell (p := ⟨w.heap.size, 0, none⟩) hb9 (Nat.le_refl _) _
                  clear s0 s1 hb9
                  refine hK.out _ _ ?_ (fun hHeld => ?_)
                  · exact ⟨r0, r1⟩
                  clear hK K
                  try simp only [Act.put, List.setIfInBounds_toArray, List.set_cons_zero, List.set_cons_succ]
                  refine wpAnyH_done (by kernel_rfl) ?_ _
                  refine NoPanic.normal ?_
                  have hbyc := HBY.out
                  rw [HN2.out] at hbyc
                  have hcut := hbyc.cut hml
                  have HNN := HN2.out
                  by_cases hcm : c2 = m
                  · have hnm : l2.length = m := by omega
                    have hnm2 : n2 = m := by omega
                    have hd0 : l2.drop m = [] := List.drop_of_length_le (by omega)
                    rw [if_pos hcm, hd0, hnm, hcm, Nat.sub_self] at hcut
                    subst hcm
                    subst hnm2
                    have HCUT := Lib.hid hcut
                    clear hcut hbyc HNN hnm hml
                    go_wp2
                    go_roundw
                    case rel => exact ⟨k + 1, acc ++ [⟨pk, pr⟩], _, _, _, _, [], rfl, by go_num, by have := HKL.out; omega, HCUT.out, by simp, HD9.out, gd_snoc HGD.out HP.out HAH.out (by rw [HAL.out]; have := HKL.out; omega), by rw [List.length_append, HAL.out]; rfl, by rw [← hd0]; exact HYES.out, hb10⟩
                    case measure => have := HKL.out; simp [intOf]; omega
                  · rw [if_neg hcm, add_lit, ← HNN] at hcut
                    have HCUT := Lib.hid hcut
                    have hmn : m ≤ n2 := by omega
                    clear hcut hbyc HNN
                    go_wp2
                    go_roundw
                    case rel => exact ⟨k + 1, acc ++ [⟨pk, pr⟩], _, _, _, _, l2.drop m, rfl, by go_num, by have := HKL.out; omega, HCUT.out, by rw [List.length_drop]; omega, HD9.out, gd_snoc HGD.out HP.out HAH.out (by rw [HAL.out]; have := HKL.out; omega), by rw [List.length_append, HAL.out]; rfl, HYES.out, hb10⟩
                    case measure => have := HKL.out; simp [intOf]; omega
          · have hkn : k = cn := by omega
            subst hkn
            rw [Nat.sub_self] at hrw
            unfold rowsD at hrw
            by_cases hl0 : l2.length = 0
            · rw [if_pos hl0] at hrw
              have HRW := Lib.hid hrw; clear hrw
              have hn0 : n2 = 0 := by rw [HN2.out]; exact hl0
              subst hn0
              go_wp2
              go_ret2
              exact DDecR.yes HRW.out.symm HDO.out HGD.out hbw
            · rw [if_neg hl0] at hrw
              have HRW := Lib.hid hrw; clear hrw
              have hn0 : 0 < n2 := by rw [HN2.out]; omega
              have hn1 : (0 : Int) < (n2 : Int) := by omega
              go_wp2
              go_ret2
              exact DDecR.no HRW.out.symm hbw
      · rw [if_neg hcap, add_lit] at hcut
        have HC := Lib.hid hcut
        have HR := Lib.hid hR
        clear h hg hd hcut hR
        go_enter Try.func62, Try.ntmps62
        go_wp2_with fail
        refine (HT.out _ hb).mono ?_
        rintro e k0 ⟨rfl, rfl⟩
        go_wp2_with fail
        refine (dnew_any _).mono ?_
        rintro e k1 ⟨rfl, hk1⟩
        have hb1 : Below w.heap.size w k1 := by rw [hk1]; exact below_one w _
        have hd1 : DocO k1 w.heap.size w.heap.size (.slice none 0 0) [] := by
          rw [hk1]
          exact ⟨Nat.le_refl _, heap_alloc_new _ _, World.ownsRow_nil _ _ _ _⟩
        clear hk1
        go_wp2
        go_loopw [7, 33] (fun r i wr => ∃ (k : Nat) (acc : List Par) (v : Value) (A2 : Option Addr) (n2 c2 : Nat) (l2 : List UInt8), r = .slice A2 n2 c2 ∧ i = .int .i64 k ∧ k ≤ cn ∧ Byt w B (.slice A2 n2 c2) l2 ∧ l2.length ≤ 1000000 ∧ DocO wr w.heap.size w.heap.size v acc ∧ Gd acc ∧ acc.length = k ∧ rowsD (cn - k) acc l2 = R ∧ Below w.heap.size w wr) (fun _ i _ => cn - (intOf i).toNat)
        case atStart => exact ⟨0, [], _, _, _, _, _, rfl, rfl, by omega, HC.out, by rw [List.length_drop]; omega, hd1, gd_nil, rfl, HR.out, hb1⟩
        case round =>
          obtain ⟨k, acc, v, A2, n2, c2, l2, rfl, rfl, hk, hby, hl2, hdo, hgd, hal, hrw, hbw⟩ := hrel
          clear hd1 hb1
          have hn2 : n2 = l2.length := by obtain ⟨_, _, hv, _⟩ := hby; injection hv
          have HDO := Lib.hid hdo
          have HGD := Lib.hid hgd
          have HAL := Lib.hid hal
          have HBY := Lib.hid hby
          have HN2 := Lib.hid hn2
          clear hdo hgd hal hby hn2
          by_cases hkl : k < cn
          · have HKL := Lib.hid hkl
            rw [show cn - k = (cn - (k + 1)) + 1 by omega] at hrw
            obtain ⟨ro, hro⟩ : ∃ ro, rowOf l2 = ro := ⟨_, rfl⟩
            unfold rowsD at hrw
            rw [hro] at hrw
            have hrow := drow_any A2 n2 c2 B l2 wr (HBY.out.below hbw hB) (Nat.le_trans hB hbw.size) hl2
            rw [hro] at hrow
            have HRW := Lib.hid hrw; clear hrw
            cases ro with
            | none =>
              have HROW := Lib.hid hrow; clear hrow hro
              go_wp2_with fail
              refine HROW.out.mono ?_
              rintro e k2 ⟨rfl, h⟩
              have hb2 : Below w.heap.size w k2 := hbw.trans (h.mono hbw.size)
              clear h
              go_wp2
              go_ret2
              refine DDecR.no HRW.out.symm ?_
              repeat' (first | with_reducible exact hb2 | (with_reducible refine Below.alloc ?_ ?_ _) | (with_reducible refine Below.setCell ?_ ?_ _) | exact hb2.size)
            | some pm =>
              obtain ⟨p, m⟩ := pm
              obtain ⟨g1, g2, g3, g4, hml, -, -⟩ := rowOf_good hro hl2
              have hm0 : 0 < l2.length := by
                rcases l2 with _ | ⟨x, l2⟩
                · rw [rowOf_nil] at hro; cases hro
                · simp
              obtain ⟨A3, c3, hv3, hc3, hcell3⟩ := id HBY.out
              injection hv3 with e1 e2 e3; subst e1 e3; clear e2
              obtain ⟨gb, ob, rfl, hgb, _⟩ := hcell3 hm0
              clear hcell3
              have HP := Lib.hid (show Ru.key p.k.data.toList = true ∧ mayR p.v = true ∧ p.v.kind ≠ 0 ∧ p.v.ok from ⟨g1, g2, g3, g4⟩)
              obtain ⟨ah, hah⟩ : ∃ ah, (acc.all fun q => lesB q.k p.k) = ah := ⟨_, rfl⟩
              have hahead := fun W (hb : Below wr.heap.size wr W) => dahead_any w.heap.size w.heap.size v acc p.k W (HDO.out.below hb) HGD.out (by have := Ru.key_len g1; rw [size_list] at this; omega) ah hah
              obtain ⟨pk, pr⟩ := p
              obtain ⟨va, hva⟩ : ∃ va, vaOf pr = va := ⟨_, rfl⟩
              obtain ⟨xv, hxv⟩ : ∃ xv, va.ins = xv := ⟨_, rfl⟩
              have hst := fun a m W => ins_store va xv hxv a m W
              have hrow2 : Calls Try.prog 82 #[.slice (some ⟨gb, ob, none⟩) n2 c2] wr fun e w' => e = .returned (.tuple #[.agg #[.string pk, xv], .int .i64 m, .bool true]) ∧ Below wr.heap.size wr w' := by
                refine hrow.mono ?_
                rintro e w' ⟨h1, h2⟩
                refine ⟨?_, h2⟩
                rw [h1]
                simp only [hva, hxv]
              have HXV := Lib.hid (show xv = (vaOf pr).ins by rw [hva, hxv])
              have HAH := Lib.hid hah
              have HROW := Lib.hid hrow2; clear hrow hrow2 hro hah g1 g2 g3 g4 hva hxv
              have HAD := Lib.hid hahead; clear hahead
              go_wp2_with fail
              refine HROW.out.mono ?_
              rintro e k2 ⟨rfl, h⟩
              have hb2 : Below w.heap.size w k2 := hbw.trans (h.mono hbw.size)
              have hzw := h.size
              have hbr2 : Below wr.heap.size wr (k2.alloc (.cells #[.string pk, xv] 80)) := h.alloc h.size _
              clear h
              go_wp2_with fail
              refine (HAD.out _ hbr2).mono ?_
              rintro e k3 ⟨rfl, h⟩
              have r0 : k3.cell? ⟨k2.heap.size, 0, none⟩ = some (.string pk) := (h.cell (p := ⟨k2.heap.size, 0, none⟩) (by simp)).trans (by go_simp)
              have r1 : k3.cell? ⟨k2.heap.size, 1, none⟩ = some xv := (h.cell (p := ⟨k2.heap.size, 1, none⟩) (by simp)).trans (by go_simp)
              have hbr3 : Below wr.heap.size wr k3 := hbr2.trans (h.mono hbr2.size)
              have hb3 : Below w.heap.size w k3 := hbw.trans (hbr3.mono hbw.size)
              have hz3 := h.size
              simp at hz3
              clear h hbr2
              cases ah with
              | false =>
                have hno : R = none := by rw [← HRW.out]; simp [HAH.out]
                have HNO := Lib.hid hno; clear hno
                go_wp2
                go_ret2
                refine DDecR.no HNO.out ?_
                repeat' (first | with_reducible exact hb3 | (with_reducible refine Below.alloc ?_ ?_ _) | (with_reducible refine Below.setCell ?_ ?_ _) | exact hb3.size)
              | true =>
                have hyes : rowsD (cn - (k + 1)) (acc ++ [⟨pk, pr⟩]) (l2.drop m) = R := by rw [← HRW.out]; simp [HAH.out]
                have HYES := Lib.hid hyes; clear hyes
                have hdo3 := HDO.out.below hbr3
                have HZW := Lib.hid hzw
                have HGK := Lib.hid (show w.heap.size < k2.heap.size from Nat.lt_of_lt_of_le (HDO.out.lt) hzw)
                obtain ⟨A4, m4, c4, rfl⟩ := own_slice3 hdo3.own
                have HDO3 := Lib.hid hdo3
                have HDOW := Lib.hid HDO.out.own
                have q0 := cell_one hdo3.here
                have q1 := frozen_one hdo3.here
                clear hdo3
                go_wp2_with fail
                have lt0 : k2.heap.size < k3.heap.size := by omega
                have hb : Below w.heap.size w k3 := hb3
                have hgz := HDO3.out.lt
                have hown := HDO3.out.own
                have hh := HDO3.out.here
                have hwk : wr.heap.size ≤ k2.heap.size := Nat.le_trans (Nat.le_refl _) HZW.out
                have hob : ∀ j, (Value.slice A4 m4 c4).ownBlock = some j → j < k2.heap.size := fun j e => Nat.lt_of_lt_of_le (World.ownsRow.lt HDOW.out j e).2 hwk
                have HOWN := Lib.hid hown; clear hown
                have HHH := Lib.hid hh; clear hh
                have HB3 := Lib.hid hb3
                have HOB := Lib.hid hob; clear hob
                clear q0 q1 hb3
                replace r0 : k3.drew.cell? ⟨k2.heap.size, 0, none⟩ = some (.string pk) := r0
                replace r1 : k3.drew.cell? ⟨k2.heap.size, 1, none⟩ = some (xv) := r1
                replace HOWN := Lib.hid (ownsRow_below HOWN.out ((Below.refl k3.heap.size k3).drew))
                replace HHH := Lib.hid ((((Below.refl k3.heap.size k3).drew).block _ hgz).trans HHH.out)
                refine wp_region_noPanic ?_
                refine wp_region_held_drew (S := fun W => W.cell? ⟨k2.heap.size, 0, none⟩ = some (.string pk) ∧ W.cell? ⟨k2.heap.size, 1, none⟩ = some (xv)) (by kernel_rfl) ?_ (fun hHeld => ?_)
                · exact ⟨r0, r1⟩
                replace hb : Below w.heap.size w k3.drew := hb.drew
                replace lt0 : k2.heap.size < k3.drew.heap.size := lt0
                have hzd : k3.heap.size ≤ k3.drew.heap.size := Nat.le_refl _
                generalize k3.drew = k4 at *
                refine wpAnyH_take (i := 0) (oi := { dst := some 50, op := Op.move (Operand.tmp 8), type := 49, pos := "doc.go:186", after := #[], guard := none }) (v := .pointer (some ⟨w.heap.size, 0, none⟩)) rfl (by kernel_rfl) (by kernel_rfl) (by kernel_rfl) (fun _ _ _ h => h) (Or.inl ⟨by rfl, fun w hSw => ?_⟩) (by assumption) ?_
                · (try dsimp only at hSw)
                  go_simp
                try simp only [Act.put, List.setIfInBounds_toArray, List.set_cons_zero, List.set_cons_succ]
                refine wpAnyH_take (i := 1) (oi := { dst := some 51, op := Op.move (Operand.tmp 8), type := 49, pos := "doc.go:186", after := #[], guard := none }) (v := .pointer (some ⟨w.heap.size, 0, none⟩)) rfl (by kernel_rfl) (by kernel_rfl) (by kernel_rfl) (fun _ _ _ h => h) (Or.inl ⟨by rfl, fun w hSw => ?_⟩) (by assumption) ?_
                · (try dsimp only at hSw)
                  go_simp
                try simp only [Act.put, List.setIfInBounds_toArray, List.set_cons_zero, List.set_cons_succ]
                refine wpAnyH_take (i := 2) (oi := { dst := some 52, op := Op.nilCheck (Operand.tmp 51), type := 0, pos := "doc.go:186", after := #[{ on := 1, ground := Ground.data }], guard := none }) (v := .pointer (some ⟨w.heap.size, 0, none⟩)) rfl (by kernel_rfl) (by kernel_rfl) (by kernel_rfl) (fun _ _ _ h => h) (Or.inl ⟨by rfl, fun w hSw => ?_⟩) (by assumption) ?_
                · (try dsimp only at hSw)
                  go_simp
                try simp only [Act.put, List.setIfInBounds_toArray, List.set_cons_zero, List.set_cons_succ]
                refine wpAnyH_take (i := 3) (oi := { dst := some 53, op := Op.fieldAddr 59 (Operand.tmp 52) 0, type := 0, pos := "doc.go:186", after := #[{ on := 2, ground := Ground.data }], guard := none }) (v := .pointer (some ⟨w.heap.size, 0, none⟩)) rfl (by kernel_rfl) (by kernel_rfl) (by kernel_rfl) (fun _ _ _ h => h) (Or.inl ⟨by rfl, fun w hSw => ?_⟩) (by assumption) ?_
                · (try dsimp only at hSw)
                  go_simp
                try simp only [Act.put, List.setIfInBounds_toArray, List.set_cons_zero, List.set_cons_succ]
                refine wpAnyH_take (i := 5) (oi := { dst := some 55, op := Op.load 80 (Operand.tmp 9), type := 80, pos := "doc.go:186", after := #[], guard := none }) (v := .agg #[.string pk, xv]) rfl (by kernel_rfl) (by kernel_rfl) (by kernel_rfl) (fun _ _ _ h => h) (Or.inl ⟨by rfl, fun w hSw => ?_⟩) (by assumption) ?_
                · (try dsimp only at hSw)
                  go_simp
                try simp only [Act.put, List.setIfInBounds_toArray, List.set_cons_zero, List.set_cons_succ]
                refine wpAnyH_ready (rs := [4, 6]) (by kernel_rfl) (by simp) ?_
                refine AllReadyH.cons (o := { dst := some 54, op := Op.load 57 (Operand.tmp 53), type := 57, pos := "doc.go:186", after := #[{ on := 3, ground := Ground.data }], guard := none }) rfl (fun K hK => ?_) (AllReadyH.cons (o := { dst := some 56, op := Op.buildSlice 57 1 #[(0, Operand.tmp 55)], type := 57, pos := "doc.go:186", after := #[{ on := 5, ground := Ground.data }], guard := none }) rfl (fun K hK => ?_) (AllReadyH.nil))
                · have q0 : k4.cell? ⟨w.heap.size, 0, none⟩ = some (.slice A4 m4 c4) := cell_one HHH.out
                  have q0a : (k4.alloc (.cells #[.string pk, xv] 80)).cell? ⟨w.heap.size, 0, none⟩ = some (.slice A4 m4 c4) := Lib.cell?_alloc_some _ q0
                  go_simp
                  clear q0 q0a
                  refine hK.out _ _ ?_ (fun hHeld => ?_)
                  · exact ⟨r0, r1⟩
                  clear hK K
                  try simp only [Act.put, List.setIfInBounds_toArray, List.set_cons_zero, List.set_cons_succ]
                  refine wpAnyH_ready (rs := [6]) (by kernel_rfl) (by simp) ?_
                  refine AllReadyH.cons (o := { dst := some 56, op := Op.buildSlice 57 1 #[(0, Operand.tmp 55)], type := 57, pos := "doc.go:186", after := #[{ on := 5, ground := Ground.data }], guard := none }) rfl (fun K hK => ?_) (AllReadyH.nil)
                  go_simp
                  replace r0 : (k4.alloc (.cells #[.string pk, xv] 80)).cell? ⟨k2.heap.size, 0, none⟩ = some (.string pk) := Lib.cell?_alloc_some _ r0
                  replace r1 : (k4.alloc (.cells #[.string pk, xv] 80)).cell? ⟨k2.heap.size, 1, none⟩ = some xv := Lib.cell?_alloc_some _ r1
                  refine hK.out _ _ ?_ (fun hHeld => ?_)
                  · exact ⟨r0, r1⟩
                  clear hK K
                  try simp only [Act.put, List.setIfInBounds_toArray, List.set_cons_zero, List.set_cons_succ]
                  refine wpAnyH_ready (rs := [7]) (by kernel_rfl) (by simp) ?_
                  refine AllReadyH.cons (o := { dst := some 57, op := Op.call { callee := Callee.builtin Builtin.append, args := #[Operand.tmp 54, Operand.tmp 56], argTypes := #[57, 57] }, type := 57, pos := "doc.go:186", after := #[{ on := 4, ground := Ground.data }, { on := 6, ground := Ground.data }], guard := none }) rfl (fun K hK => ?_) (AllReadyH.nil)
                  rw [if_pos (by rfl)]
                  refine wp_append_row _ _ rfl w.heap.size _ acc ⟨pk, pr⟩ k4.heap.size rfl (HOWN.out.alloc _) rfl ?_ ?_ ?_ ?_
                  · intro j u hu
                    have hl : Lone (k4.alloc (.cells #[.string pk, xv] 80)) k4.heap.size ⟨pk, pr⟩ := by unfold Lone Par.rc; rw [heap_alloc_new, HXV.out]
                    exact hl.at_ j u hu
                  · rw [HAL.out]; omega
                  · exact Nat.le_trans hb.size (by simp)
                  intro v9 w9 hown9 hgr9
                  obtain ⟨A9, m9, c9, rfl⟩ := own_slice3 hown9
                  have hgz2 : w.heap.size < k4.heap.size := (Array.getElem?_eq_some_iff.1 HHH.out).1
                  have hh9 : w9.heap[w.heap.size]? = some (.cells #[.slice A4 m4 c4] 59 (0, 0)) := (hgr9.block _ (by simp; omega) (fun e => own_ne HOWN.out HHH.out e.symm)).trans ((Below.heap_alloc _ _ _ hgz2).trans HHH.out)
                  replace r0 := hgr9.cell r0 (fun e => by have := HOB.out _ e.symm; simp only at this; omega)
                  replace r1 := hgr9.cell r1 (fun e => by have := HOB.out _ e.symm; simp only at this; omega)
                  have hb9 : Below w.heap.size w w9 := (hb.alloc hb.size _).trans (grownBy_below hgr9 (fun j hj => (World.ownsRow.lt HOWN.out j hj).1) (Nat.le_trans hb.size (by simp)))
                  have hz9 : k2.heap.size < w9.heap.size := Nat.lt_of_lt_of_le (Nat.lt_of_lt_of_le lt0 (by simp)) hgr9.size
                  have HO9 := Lib.hid hown9; clear hown9
                  have HH9 := Lib.hid hh9; clear hh9
                  clear hgr9 hb
                  refine hK.out _ _ ?_ (fun hHeld => ?_)
                  · exact ⟨r0, r1⟩
                  clear hK K
                  try simp only [Act.put, List.setIfInBounds_toArray, List.set_cons_zero, List.set_cons_succ]
                  refine wpAnyH_take (i := 8) (oi := { dst := some 58, op := Op.nilCheck (Operand.tmp 50), type := 0, pos := "doc.go:186", after := #[{ on := 0, ground := Ground.data }, { on := 0, ground := Ground.phase }, { on := 1, ground := Ground.phase }, { on := 2, ground := Ground.phase }, { on := 3, ground := Ground.phase }, { on := 4, ground := Ground.phase }, { on := 5, ground := Ground.phase }, { on := 6, ground := Ground.phase }, { on := 7, ground := Ground.phase }], guard := none }) (v := .pointer (some ⟨w.heap.size, 0, none⟩)) rfl (by kernel_rfl) (by kernel_rfl) (by kernel_rfl) (fun _ _ _ h => h) (Or.inl ⟨by rfl, fun w hSw => ?_⟩) (by assumption) ?_
                  · (try dsimp only at hSw)
                    go_simp
                  try simp only [Act.put, List.setIfInBounds_toArray, List.set_cons_zero, List.set_cons_succ]
                  refine wpAnyH_take (i := 9) (oi := { dst := some 59, op := Op.fieldAddr 59 (Operand.tmp 58) 0, type := 0, pos := "doc.go:186", after := #[{ on := 8, ground := Ground.data }, { on := 0, ground := Ground.phase }, { on := 1, ground := Ground.phase }, { on := 2, ground := Ground.phase }, { on := 3, ground := Ground.phase }, { on := 4, ground := Ground.phase }, { on := 5, ground := Ground.phase }, { on := 6, ground := Ground.phase }, { on := 7, ground := Ground.phase }], guard := none }) (v := .pointer (some ⟨w.heap.size, 0, none⟩)) rfl (by kernel_rfl) (by kernel_rfl) (by kernel_rfl) (fun _ _ _ h => h) (Or.inl ⟨by rfl, fun w hSw => ?_⟩) (by assumption) ?_
                  · (try dsimp only at hSw)
                    go_simp
                  try simp only [Act.put, List.setIfInBounds_toArray, List.set_cons_zero, List.set_cons_succ]
                  refine wpAnyH_ready (rs := [10]) (by kernel_rfl) (by simp) ?_
                  refine AllReadyH.cons (o := { dst := none, op := Op.store 57 (Operand.tmp 59) (Operand.tmp 57), type := 0, pos := "doc.go:186", after := #[{ on := 9, ground := Ground.data }, { on := 7, ground := Ground.data }, { on := 7, ground := Ground.chain }, { on := 0, ground := Ground.phase }, { on := 1, ground := Ground.phase }, { on := 2, ground := Ground.phase }, { on := 3, ground := Ground.phase }, { on := 4, ground := Ground.phase }, { on := 5, ground := Ground.phase }, { on := 6, ground := Ground.phase }, { on := 7, ground := Ground.phase }], guard := none }) rfl (fun K hK => ?_) (AllReadyH.nil)
                  have s0 := cell_one HH9.out
                  have s1 := frozen_one HH9.out
                  have hgk : w.heap.size ≠ k2.heap.size := by have := HGK.out; omega
                  go_simp
                  replace r0 := (setCell_grown w9 ⟨w.heap.size, 0, none⟩ (.slice A9 m9 c9)).cell (a := ⟨k2.heap.size, 0, none⟩) r0 (fun e => by injection e with e; exact hgk e.symm)
                  replace r1 := (setCell_grown w9 ⟨w.heap.size, 0, none⟩ (.slice A9 m9 c9)).cell (a := ⟨k2.heap.size, 1, none⟩) r1 (fun e => by injection e with e; exact hgk e.symm)
                  have hd9 := docO_store HH9.out HO9.out (Nat.le_refl _)
                  have HD9 := Lib.hid hd9; clear hd9
                  have hb10 : Below w.heap.size w (w9.setCell ⟨w.heap.size, 0, none⟩ (.slice A9 m9 c9)) := Below.setCell (p := ⟨w.heap.size, 0, none⟩) hb9 (Nat.le_refl _) _
                  clear s0 s1 hb9
                  refine hK.out _ _ ?_ (fun hHeld => ?_)
                  · exact ⟨r0, r1⟩
                  clear hK K
                  try simp only [Act.put, List.setIfInBounds_toArray, List.set_cons_zero, List.set_cons_succ]
                  refine wpAnyH_done (by kernel_rfl) ?_ _
                  refine NoPanic.normal ?_
                  have hbyc := HBY.out
                  rw [HN2.out] at hbyc
                  have hcut := hbyc.cut hml
                  have HNN := HN2.out
                  by_cases hcm : c2 = m
                  · have hnm : l2.length = m := by omega
                    have hnm2 : n2 = m := by omega
                    have hd0 : l2.drop m = [] := List.drop_of_length_le (by omega)
                    rw [if_pos hcm, hd0, hnm, hcm, Nat.sub_self] at hcut
                    subst hcm
                    subst hnm2
                    have HCUT := Lib.hid hcut
                    clear hcut hbyc HNN hnm hml
                    go_wp2
                    go_roundw
                    case rel => exact ⟨k + 1, acc ++ [⟨pk, pr⟩], _, _, _, _, [], rfl, by go_num, by have := HKL.out; omega, HCUT.out, by simp, HD9.out, gd_snoc HGD.out HP.out HAH.out (by rw [HAL.out]; have := HKL.out; omega), by rw [List.length_append, HAL.out]; rfl, by rw [← hd0]; exact HYES.out, hb10⟩
                    case measure => have := HKL.out; simp [intOf]; omega
                  · rw [if_neg hcm, add_lit, ← HNN] at hcut
                    have HCUT := Lib.hid hcut
                    have hmn : m ≤ n2 := by omega
                    clear hcut hbyc HNN
                    go_wp2
                    go_roundw
                    case rel => exact ⟨k + 1, acc ++ [⟨pk, pr⟩], _, _, _, _, l2.drop m, rfl, by go_num, by have := HKL.out; omega, HCUT.out, by rw [List.length_drop]; omega, HD9.out, gd_snoc HGD.out HP.out HAH.out (by rw [HAL.out]; have := HKL.out; omega), by rw [List.length_append, HAL.out]; rfl, HYES.out, hb10⟩
                    case measure => have := HKL.out; simp [intOf]; omega
                · go_simp
                  replace r0 : (k4.alloc (.cells #[.string pk, xv] 80)).cell? ⟨k2.heap.size, 0, none⟩ = some (.string pk) := Lib.cell?_alloc_some _ r0
                  replace r1 : (k4.alloc (.cells #[.string pk, xv] 80)).cell? ⟨k2.heap.size, 1, none⟩ = some xv := Lib.cell?_alloc_some _ r1
                  refine hK.out _ _ ?_ (fun hHeld => ?_)
                  · exact ⟨r0, r1⟩
                  clear hK K
                  try simp only [Act.put, List.setIfInBounds_toArray, List.set_cons_zero, List.set_cons_succ]
                  refine wpAnyH_ready (rs := [4]) (by kernel_rfl) (by simp) ?_
                  refine AllReadyH.cons (o := { dst := some 54, op := Op.load 57 (Operand.tmp 53), type := 57, pos := "doc.go:186", after := #[{ on := 3, ground := Ground.data }], guard := none }) rfl (fun K hK => ?_) (AllReadyH.nil)
                  have q0 : k4.cell? ⟨w.heap.size, 0, none⟩ = some (.slice A4 m4 c4) := cell_one HHH.out
                  have q0a : (k4.alloc (.cells #[.string pk, xv] 80)).cell? ⟨w.heap.size, 0, none⟩ = some (.slice A4 m4 c4) := Lib.cell?_alloc_some _ q0
                  go_simp
                  clear q0 q0a
                  refine hK.out _ _ ?_ (fun hHeld => ?_)
                  · exact ⟨r0, r1⟩
                  clear hK K
                  try simp only [Act.put, List.setIfInBounds_toArray, List.set_cons_zero, List.set_cons_succ]
                  refine wpAnyH_ready (rs := [7]) (by kernel_rfl) (by simp) ?_
                  refine AllReadyH.cons (o := { dst := some 57, op := Op.call { callee := Callee.builtin Builtin.append, args := #[Operand.tmp 54, Operand.tmp 56], argTypes := #[57, 57] }, type := 57, pos := "doc.go:186", after := #[{ on := 4, ground := Ground.data }, { on := 6, ground := Ground.data }], guard := none }) rfl (fun K hK => ?_) (AllReadyH.nil)
                  rw [if_pos (by rfl)]
                  refine wp_append_row _ _ rfl w.heap.size _ acc ⟨pk, pr⟩ k4.heap.size rfl (HOWN.out.alloc _) rfl ?_ ?_ ?_ ?_
                  · intro j u hu
                    have hl : Lone (k4.alloc (.cells #[.string pk, xv] 80)) k4.heap.size ⟨pk, pr⟩ := by unfold Lone Par.rc; rw [heap_alloc_new, HXV.out]
                    exact hl.at_ j u hu
                  · rw [HAL.out]; omega
                  · exact Nat.le_trans hb.size (by simp)
                  intro v9 w9 hown9 hgr9
                  obtain ⟨A9, m9, c9, rfl⟩ := own_slice3 hown9
                  have hgz2 : w.heap.size < k4.heap.size := (Array.getElem?_eq_some_iff.1 HHH.out).1
                  have hh9 : w9.heap[w.heap.size]? = some (.cells #[.slice A4 m4 c4] 59 (0, 0)) := (hgr9.block _ (by simp; omega) (fun e => own_ne HOWN.out HHH.out e.symm)).trans ((Below.heap_alloc _ _ _ hgz2).trans HHH.out)
                  replace r0 := hgr9.cell r0 (fun e => by have := HOB.out _ e.symm; simp only at this; omega)
                  replace r1 := hgr9.cell r1 (fun e => by have := HOB.out _ e.symm; simp only at this; omega)
                  have hb9 : Below w.heap.size w w9 := (hb.alloc hb.size _).trans (grownBy_below hgr9 (fun j hj => (World.ownsRow.lt HOWN.out j hj).1) (Nat.le_trans hb.size (by simp)))
                  have hz9 : k2.heap.size < w9.heap.size := Nat.lt_of_lt_of_le (Nat.lt_of_lt_of_le lt0 (by simp)) hgr9.size
                  have HO9 := Lib.hid hown9; clear hown9
                  have HH9 := Lib.hid hh9; clear hh9
                  clear hgr9 hb
                  refine hK.out _ _ ?_ (fun hHeld => ?_)
                  · exact ⟨r0, r1⟩
                  clear hK K
                  try simp only [Act.put, List.setIfInBounds_toArray, List.set_cons_zero, List.set_cons_succ]
                  refine wpAnyH_take (i := 8) (oi := { dst := some 58, op := Op.nilCheck (Operand.tmp 50), type := 0, pos := "doc.go:186", after := #[{ on := 0, ground := Ground.data }, { on := 0, ground := Ground.phase }, { on := 1, ground := Ground.phase }, { on := 2, ground := Ground.phase }, { on := 3, ground := Ground.phase }, { on := 4, ground := Ground.phase }, { on := 5, ground := Ground.phase }, { on := 6, ground := Ground.phase }, { on := 7, ground := Ground.phase }], guard := none }) (v := .pointer (some ⟨w.heap.size, 0, none⟩)) rfl (by kernel_rfl) (by kernel_rfl) (by kernel_rfl) (fun _ _ _ h => h) (Or.inl ⟨by rfl, fun w hSw => ?_⟩) (by assumption) ?_
                  · (try dsimp only at hSw)
                    go_simp
                  try simp only [Act.put, List.setIfInBounds_toArray, List.set_cons_zero, List.set_cons_succ]
                  refine wpAnyH_take (i := 9) (oi := { dst := some 59, op := Op.fieldAddr 59 (Operand.tmp 58) 0, type := 0, pos := "doc.go:186", after := #[{ on := 8, ground := Ground.data }, { on := 0, ground := Ground.phase }, { on := 1, ground := Ground.phase }, { on := 2, ground := Ground.phase }, { on := 3, ground := Ground.phase }, { on := 4, ground := Ground.phase }, { on := 5, ground := Ground.phase }, { on := 6, ground := Ground.phase }, { on := 7, ground := Ground.phase }], guard := none }) (v := .pointer (some ⟨w.heap.size, 0, none⟩)) rfl (by kernel_rfl) (by kernel_rfl) (by kernel_rfl) (fun _ _ _ h => h) (Or.inl ⟨by rfl, fun w hSw => ?_⟩) (by assumption) ?_
                  · (try dsimp only at hSw)
                    go_simp
                  try simp only [Act.put, List.setIfInBounds_toArray, List.set_cons_zero, List.set_cons_succ]
                  refine wpAnyH_ready (rs := [10]) (by kernel_rfl) (by simp) ?_
                  refine AllReadyH.cons (o := { dst := none, op := Op.store 57 (Operand.tmp 59) (Operand.tmp 57), type := 0, pos := "doc.go:186", after := #[{ on := 9, ground := Ground.data }, { on := 7, ground := Ground.data }, { on := 7, ground := Ground.chain }, { on := 0, ground := Ground.phase }, { on := 1, ground := Ground.phase }, { on := 2, ground := Ground.phase }, { on := 3, ground := Ground.phase }, { on := 4, ground := Ground.phase }, { on := 5, ground := Ground.phase }, { on := 6, ground := Ground.phase }, { on := 7, ground := Ground.phase }], guard := none }) rfl (fun K hK => ?_) (AllReadyH.nil)
                  have s0 := cell_one HH9.out
                  have s1 := frozen_one HH9.out
                  have hgk : w.heap.size ≠ k2.heap.size := by have := HGK.out; omega
                  go_simp
                  replace r0 := (setCell_grown w9 ⟨w.heap.size, 0, none⟩ (.slice A9 m9 c9)).cell (a := ⟨k2.heap.size, 0, none⟩) r0 (fun e => by injection e with e; exact hgk e.symm)
                  replace r1 := (setCell_grown w9 ⟨w.heap.size, 0, none⟩ (.slice A9 m9 c9)).cell (a := ⟨k2.heap.size, 1, none⟩) r1 (fun e => by injection e with e; exact hgk e.symm)
                  have hd9 := docO_store HH9.out HO9.out (Nat.le_refl _)
                  have HD9 := Lib.hid hd9; clear hd9
                  have hb10 : Below w.heap.size w (w9.setCell ⟨w.heap.size, 0, none⟩ (.slice A9 m9 c9)) := Below.setCell (p := ⟨w.heap.size, 0, none⟩) hb9 (Nat.le_refl _) _
                  clear s0 s1 hb9
                  refine hK.out _ _ ?_ (fun hHeld => ?_)
                  · exact ⟨r0, r1⟩
                  clear hK K
                  try simp only [Act.put, List.setIfInBounds_toArray, List.set_cons_zero, List.set_cons_succ]
                  refine wpAnyH_done (by kernel_rfl) ?_ _
                  refine NoPanic.normal ?_
                  have hbyc := HBY.out
                  rw [HN2.out] at hbyc
                  have hcut := hbyc.cut hml
                  have HNN := HN2.out
                  by_cases hcm : c2 = m
                  · have hnm : l2.length = m := by omega
                    have hnm2 : n2 = m := by omega
                    have hd0 : l2.drop m = [] := List.drop_of_length_le (by omega)
                    rw [if_pos hcm, hd0, hnm, hcm, Nat.sub_self] at hcut
                    subst hcm
                    subst hnm2
                    have HCUT := Lib.hid hcut
                    clear hcut hbyc HNN hnm hml
                    go_wp2
                    go_roundw
                    case rel => exact ⟨k + 1, acc ++ [⟨pk, pr⟩], _, _, _, _, [], rfl, by go_num, by have := HKL.out; omega, HCUT.out, by simp, HD9.out, gd_snoc HGD.out HP.out HAH.out (by rw [HAL.out]; have := HKL.out; omega), by rw [List.length_append, HAL.out]; rfl, by rw [← hd0]; exact HYES.out, hb10⟩
                    case measure => have := HKL.out; simp [intOf]; omega
                  · rw [if_neg hcm, add_lit, ← HNN] at hcut
                    have HCUT := Lib.hid hcut
                    have hmn : m ≤ n2 := by omega
                    clear hcut hbyc HNN
                    go_wp2
                    go_roundw
                    case rel => exact ⟨k + 1, acc ++ [⟨pk, pr⟩], _, _, _, _, l2.drop m, rfl, by go_num, by have := HKL.out; omega, HCUT.out, by rw [List.length_drop]; omega, HD9.out, gd_snoc HGD.out HP.out HAH.out (by rw [HAL.out]; have := HKL.out; omega), by rw [List.length_append, HAL.out]; rfl, HYES.out, hb10⟩
                    case measure => have := HKL.out; simp [intOf]; omega
          · have hkn : k = cn := by omega
            subst hkn
            rw [Nat.sub_self] at hrw
            unfold rowsD at hrw
            by_cases hl0 : l2.length = 0
            · rw [if_pos hl0] at hrw
              have HRW := Lib.hid hrw; clear hrw
              have hn0 : n2 = 0 := by rw [HN2.out]; exact hl0
              subst hn0
              go_wp2
              go_ret2
              exact DDecR.yes HRW.out.symm HDO.out HGD.out hbw
            · rw [if_neg hl0] at hrw
              have HRW := Lib.hid hrw; clear hrw
              have hn0 : 0 < n2 := by rw [HN2.out]; omega
              have hn1 : (0 : Int) < (n2 : Int) := by omega
              go_wp2
              go_ret2
              exact DDecR.no HRW.out.symm hbw
    · have hd : decD l = none := by unfold decD; rw [hg]; rw [if_neg (fun h => hk h.2)]
      rw [hd]
      have hkk : k < 0 ∨ (¬ k < 0 ∧ 50 < k) := by omega
      clear hd hg h hk
      rcases hkk with hk1 | ⟨hk0, hk1⟩
      all_goals
        go_enter Try.func62, Try.ntmps62
        go_wp2_with fail
        refine (HT.out _ hb).mono ?_
        rintro e k0 ⟨rfl, rfl⟩
        go_wp2
        go_ret2
        exact ⟨rfl, hb⟩
  · have hd : decD l = none := by unfold decD; rw [hg]; rw [if_neg (fun h => he h.1)]
    rw [hd]
    have hne : ((e : Int) != 0) = true := by rw [bne_iff_ne]; omega
    have hnq : ¬ ((e : Int) = 0) := by omega
    clear hd hg h
    go_enter Try.func62, Try.ntmps62
    go_wp2_with fail
    refine (HT.out _ hb).mono ?_
    rintro e k0 ⟨rfl, rfl⟩
    go_wp2
    go_ret2
    exact ⟨rfl, hb⟩
end Go.Proofs.Ytegkhkcnoahhdaa
