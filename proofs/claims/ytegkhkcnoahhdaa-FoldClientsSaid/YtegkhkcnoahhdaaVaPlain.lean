/-
  Package value's Get reads a value as the plain function says, whatever the bytes.
  The bytes are there in memory, at most 1,000,000.
-/
import Derived.Test.YtegkhkcnoahhdaaVaOf
import Derived.Test.YtegkhkcnoahhdaaNuPut
import Derived.Test.YtegkhkcnoahhdaaOpPlain
import Derived.Test.YtegkhkcnoahhdaaProg
import Derived.Test.YtegkhkcnoahhdaaWBase
import Derived.Test.YtegkhkcnoahhdaaReMayOp
import Derived.Test.YtegkhkcnoahhdaaWAppend
import Derived.LaidEql
import Derived.Stop.Asserts
import Derived.Defers
import Derived.Recover
import Derived.Laws.Pointers
set_option linter.unusedSimpArgs false
set_option linter.unusedVariables false
namespace Go.Proofs.Ytegkhkcnoahhdaa
open Go.RowKit
set_option maxRecDepth 100000

theorem nget_b (A : Option Addr) (n c B : Nat) (l : List UInt8) (w : World) (h : Byt w B (.slice A n c) l) (hl : l.length ≤ 1000000) : Calls Try.prog 60 #[.slice A n c] w (GotN (Nu.get l) w) := by
  obtain rfl : n = l.length := by obtain ⟨A', c', hv, _⟩ := h; injection hv
  exact nget_any A c B l w h hl
theorem ngetText_b (A : Option Addr) (n c B : Nat) (l : List UInt8) (w : World) (h : Byt w B (.slice A n c) l) (hl : l.length ≤ 1000000) : Calls Try.prog 84 #[.slice A n c] w (GotT (Nu.getT l) w) := by
  obtain rfl : n = l.length := by obtain ⟨A', c', hv, _⟩ := h; injection hv
  exact ngetText_any A c B l w h hl
theorem vmay_is (v : Value) (r : Raw) (b : Bool) (w : World) (hv : v = r.val) (hs : r.s.size ≤ 1000000) (h : mayR r = b) : Calls Try.prog 69 #[v] w (Bl b w) := by
  rw [hv, ← h]; exact vmay_any r w hs
set_option maxHeartbeats 400000 in
theorem vget_err (A : Option Addr) (n c B : Nat) (l : List UInt8) (w : World) (h : Byt w B (.slice A n c) l) (hB : B ≤ w.heap.size) (hl : l.length ≤ 1000000) (k : Int) (j e : Nat) (hg : Nu.get l = (k, j, e)) (he : e ≠ 0) :
    Calls Try.prog 90 #[.slice A n c] w (GotR (noRaw, 0, e) w) := by
  have hne : ((e : Int) != 0) = true := by rw [bne_iff_ne]; omega
  have hget := fun (W : World) (hW : Below w.heap.size w W) => nget_b A n c B l W (h.below hW hB) hl
  rw [hg] at hget
  have HG := Lib.hid hget; clear hget hg
  have HE := Lib.hid he; clear he
  go_enter Try.func90, Try.ntmps90
  go_wp2_with fail
  refine (HG.out _ ?_).mono ?_
  exact below_one _ _
  rintro e w' ⟨rfl, rfl⟩
  go_wp2
  exact bodyPost_ret (v := .tuple #[noRaw.val, .int .i64 0, .int .i64 e]) (by simp [results, Try.results90, go_sem, noRaw, Raw.val]) rfl ⟨rfl, below_one _ _⟩
set_option maxHeartbeats 400000 in
theorem vget_xtrue (A : Option Addr) (n c B : Nat) (l : List UInt8) (w : World) (h : Byt w B (.slice A n c) l) (hB : B ≤ w.heap.size) (hl : l.length ≤ 1000000) (k : Int) (j : Nat) (hg : Nu.get l = (k, j, 0)) (h1 : k ≠ 1) (h2 : k ≠ 2) (hm : mayR ⟨k, 0, ⟨#[]⟩⟩ = true) :
    Calls Try.prog 90 #[.slice A n c] w (GotR (⟨k, 0, ⟨#[]⟩⟩, j, 0) w) := by
  have hget := fun (W : World) (hW : Below w.heap.size w W) => nget_b A n c B l W (h.below hW hB) hl
  rw [hg] at hget
  have hjl : j ≤ 1000000 := by have := Nu.get_len l; rw [hg] at this; simp only at this; omega
  have k1 : (k == 1) = false := by rw [beq_eq_false_iff_ne]; exact h1
  have k2 : (k == 2) = false := by rw [beq_eq_false_iff_ne]; exact h2
  have HM := Lib.hid hm; clear hm
  have HG := Lib.hid hget; clear hget hg h1 h2
  go_enter Try.func90, Try.ntmps90
  go_wp2_with fail
  refine (HG.out _ ?_).mono ?_
  exact below_one _ _
  rintro e w' ⟨rfl, rfl⟩
  go_wp2_with fail
  refine (vmay_is _ ⟨k, 0, ⟨#[]⟩⟩ true _ rfl (Nat.zero_le _) HM.out).mono ?_
  rintro e w1 ⟨rfl, hb⟩
  have p0 : w1.cell? ⟨w.heap.size, 0, none⟩ = some (.int .i64 0) := (hb.cell (p := ⟨w.heap.size, 0, none⟩) (by simp; omega)).trans (by go_simp)
  have p1 : w1.cell? ⟨w.heap.size, 1, none⟩ = some (.int .i64 0) := (hb.cell (p := ⟨w.heap.size, 1, none⟩) (by simp; omega)).trans (by go_simp)
  have p2 : w1.cell? ⟨w.heap.size, 2, none⟩ = some (.string ⟨#[]⟩) := (hb.cell (p := ⟨w.heap.size, 2, none⟩) (by simp; omega)).trans (by go_simp)
  have f0 : w1.frozen? ⟨w.heap.size, 0, none⟩ = false := (hb.frozen (p := ⟨w.heap.size, 0, none⟩) (by simp; omega)).trans (by go_simp)
  have f1 : w1.frozen? ⟨w.heap.size, 1, none⟩ = false := (hb.frozen (p := ⟨w.heap.size, 1, none⟩) (by simp; omega)).trans (by go_simp)
  have f2 : w1.frozen? ⟨w.heap.size, 2, none⟩ = false := (hb.frozen (p := ⟨w.heap.size, 2, none⟩) (by simp; omega)).trans (by go_simp)
  have q0 : w1.cell? ⟨w.heap.size + 1, 0, none⟩ = some (.int .i64 k) := (hb.cell (p := ⟨w.heap.size + 1, 0, none⟩) (by simp)).trans (by go_simp)
  have q1 : w1.cell? ⟨w.heap.size + 1, 1, none⟩ = some (.int .i64 0) := (hb.cell (p := ⟨w.heap.size + 1, 1, none⟩) (by simp)).trans (by go_simp)
  have q2 : w1.cell? ⟨w.heap.size + 1, 2, none⟩ = some (.string ⟨#[]⟩) := (hb.cell (p := ⟨w.heap.size + 1, 2, none⟩) (by simp)).trans (by go_simp)
  have hbw : Below w.heap.size w w1 := (below_two w _ _).trans (hb.mono (by simp; omega))
  clear hb
  go_wp2
  exact bodyPost_ret (v := .tuple #[(Raw.mk k 0 ⟨#[]⟩).val, .int .i64 (j : Int), .int .i64 0]) (by simp [results, Try.results90, go_sem, Raw.val, p0, p1, p2]) rfl ⟨rfl, ((hbw.setCell (Nat.le_refl _) _).setCell (Nat.le_refl _) _).setCell (Nat.le_refl _) _⟩
set_option maxHeartbeats 400000 in
theorem vget_xfalse (A : Option Addr) (n c B : Nat) (l : List UInt8) (w : World) (h : Byt w B (.slice A n c) l) (hB : B ≤ w.heap.size) (hl : l.length ≤ 1000000) (k : Int) (j : Nat) (hg : Nu.get l = (k, j, 0)) (h1 : k ≠ 1) (h2 : k ≠ 2) (hm : mayR ⟨k, 0, ⟨#[]⟩⟩ = false) :
    Calls Try.prog 90 #[.slice A n c] w (GotR (noRaw, 0, 1) w) := by
  have hget := fun (W : World) (hW : Below w.heap.size w W) => nget_b A n c B l W (h.below hW hB) hl
  rw [hg] at hget
  have hjl : j ≤ 1000000 := by have := Nu.get_len l; rw [hg] at this; simp only at this; omega
  have k1 : (k == 1) = false := by rw [beq_eq_false_iff_ne]; exact h1
  have k2 : (k == 2) = false := by rw [beq_eq_false_iff_ne]; exact h2
  have HM := Lib.hid hm; clear hm
  have HG := Lib.hid hget; clear hget hg h1 h2
  go_enter Try.func90, Try.ntmps90
  go_wp2_with fail
  refine (HG.out _ ?_).mono ?_
  exact below_one _ _
  rintro e w' ⟨rfl, rfl⟩
  go_wp2_with fail
  refine (vmay_is _ ⟨k, 0, ⟨#[]⟩⟩ false _ rfl (Nat.zero_le _) HM.out).mono ?_
  rintro e w1 ⟨rfl, hb⟩
  have p0 : w1.cell? ⟨w.heap.size, 0, none⟩ = some (.int .i64 0) := (hb.cell (p := ⟨w.heap.size, 0, none⟩) (by simp; omega)).trans (by go_simp)
  have p1 : w1.cell? ⟨w.heap.size, 1, none⟩ = some (.int .i64 0) := (hb.cell (p := ⟨w.heap.size, 1, none⟩) (by simp; omega)).trans (by go_simp)
  have p2 : w1.cell? ⟨w.heap.size, 2, none⟩ = some (.string ⟨#[]⟩) := (hb.cell (p := ⟨w.heap.size, 2, none⟩) (by simp; omega)).trans (by go_simp)
  have f0 : w1.frozen? ⟨w.heap.size, 0, none⟩ = false := (hb.frozen (p := ⟨w.heap.size, 0, none⟩) (by simp; omega)).trans (by go_simp)
  have f1 : w1.frozen? ⟨w.heap.size, 1, none⟩ = false := (hb.frozen (p := ⟨w.heap.size, 1, none⟩) (by simp; omega)).trans (by go_simp)
  have f2 : w1.frozen? ⟨w.heap.size, 2, none⟩ = false := (hb.frozen (p := ⟨w.heap.size, 2, none⟩) (by simp; omega)).trans (by go_simp)
  have q0 : w1.cell? ⟨w.heap.size + 1, 0, none⟩ = some (.int .i64 k) := (hb.cell (p := ⟨w.heap.size + 1, 0, none⟩) (by simp)).trans (by go_simp)
  have q1 : w1.cell? ⟨w.heap.size + 1, 1, none⟩ = some (.int .i64 0) := (hb.cell (p := ⟨w.heap.size + 1, 1, none⟩) (by simp)).trans (by go_simp)
  have q2 : w1.cell? ⟨w.heap.size + 1, 2, none⟩ = some (.string ⟨#[]⟩) := (hb.cell (p := ⟨w.heap.size + 1, 2, none⟩) (by simp)).trans (by go_simp)
  have hbw : Below w.heap.size w w1 := (below_two w _ _).trans (hb.mono (by simp; omega))
  clear hb
  go_wp2
  exact bodyPost_ret (v := .tuple #[noRaw.val, .int .i64 0, .int .i64 1]) (by simp [results, Try.results90, go_sem, noRaw, Raw.val, p0, p1, p2]) rfl ⟨rfl, ((hbw.setCell (Nat.le_refl _) _).setCell (Nat.le_refl _) _).setCell (Nat.le_refl _) _⟩
set_option maxHeartbeats 400000 in
theorem vget_1e (A : Option Addr) (n c B : Nat) (l : List UInt8) (w : World) (h : Byt w B (.slice A n c) l) (hB : B ≤ w.heap.size) (hl : l.length ≤ 1000000) (j : Nat) (m : Int) (i e : Nat) (hg : Nu.get l = (1, j, 0)) (hi : Nu.get (l.drop j) = (m, i, e)) (he : e ≠ 0) :
    Calls Try.prog 90 #[.slice A n c] w (GotR (noRaw, 0, e) w) := by
  have hget := fun (W : World) (hW : Below w.heap.size w W) => nget_b A n c B l W (h.below hW hB) hl
  rw [hg] at hget
  have hjl : j ≤ l.length := by have := Nu.get_len l; rw [hg] at this; exact this
  have hj1 : 1 ≤ j := by have := Nu.get_pos l; rw [hg] at this; exact this rfl
  obtain ⟨A', c', hv, hc, hcell⟩ := id h
  injection hv with e1 e2 e3; subst e1; subst e3
  obtain ⟨g, o, rfl, hgB, _⟩ := hcell (by omega)
  clear hcell
  rw [e2] at h
  have hcut := h.cut hjl
  subst e2
  have HG := Lib.hid hget; clear hget
  have hne : ((e : Int) == 0) = false := by rw [beq_eq_false_iff_ne]; omega
  have hne2 : ((e : Int) != 0) = true := by rw [bne_iff_ne]; omega
  have HE := Lib.hid he; clear he
  by_cases hcap : c = j
  · subst hcap
    have hcl : Byt w B (.slice (some ⟨g, o, Option.none⟩) 0 0) (l.drop c) := by
      rw [List.drop_of_length_le hc]; exact ⟨_, 0, rfl, Nat.le_refl _, fun h => absurd h (by simp)⟩
    clear hcut
    have hin := fun (W : World) (hW : Below w.heap.size w W) => nget_b _ _ _ B (l.drop c) W (hcl.below hW hB) (by rw [List.length_drop]; omega)
    rw [hi] at hin
    have HI := Lib.hid hin; clear hin hcl
    go_enter Try.func90, Try.ntmps90
    go_wp2_with fail
    refine (HG.out _ ?_).mono ?_
    exact below_one _ _
    rintro e w' ⟨rfl, rfl⟩
    go_wp2_with fail
    refine (HI.out _ ?_).mono ?_
    exact below_two _ _ _
    rintro e w' ⟨rfl, rfl⟩
    go_wp2
    exact bodyPost_ret (v := .tuple #[noRaw.val, .int .i64 0, .int .i64 e]) (by simp [results, Try.results90, go_sem, noRaw, Raw.val]) rfl ⟨rfl, below_two _ _ _⟩
  · rw [if_neg hcap, add_lit] at hcut
    have hcl := hcut; clear hcut
    have hin := fun (W : World) (hW : Below w.heap.size w W) => nget_b _ _ _ B (l.drop j) W (hcl.below hW hB) (by rw [List.length_drop]; omega)
    rw [hi] at hin
    have HI := Lib.hid hin; clear hin hcl
    go_enter Try.func90, Try.ntmps90
    go_wp2_with fail
    refine (HG.out _ ?_).mono ?_
    exact below_one _ _
    rintro e w' ⟨rfl, rfl⟩
    go_wp2_with fail
    refine (HI.out _ ?_).mono ?_
    exact below_two _ _ _
    rintro e w' ⟨rfl, rfl⟩
    go_wp2
    exact bodyPost_ret (v := .tuple #[noRaw.val, .int .i64 0, .int .i64 e]) (by simp [results, Try.results90, go_sem, noRaw, Raw.val]) rfl ⟨rfl, below_two _ _ _⟩
set_option maxHeartbeats 400000 in
theorem vget_1ok (A : Option Addr) (n c B : Nat) (l : List UInt8) (w : World) (h : Byt w B (.slice A n c) l) (hB : B ≤ w.heap.size) (hl : l.length ≤ 1000000) (j : Nat) (m : Int) (i : Nat)  (hg : Nu.get l = (1, j, 0)) (hi : Nu.get (l.drop j) = (m, i, 0)) :
    Calls Try.prog 90 #[.slice A n c] w (GotR (⟨1, m, ⟨#[]⟩⟩, j + i, 0) w) := by
  have hget := fun (W : World) (hW : Below w.heap.size w W) => nget_b A n c B l W (h.below hW hB) hl
  rw [hg] at hget
  have hjl : j ≤ l.length := by have := Nu.get_len l; rw [hg] at this; exact this
  have hj1 : 1 ≤ j := by have := Nu.get_pos l; rw [hg] at this; exact this rfl
  obtain ⟨A', c', hv, hc, hcell⟩ := id h
  injection hv with e1 e2 e3; subst e1; subst e3
  obtain ⟨g, o, rfl, hgB, _⟩ := hcell (by omega)
  clear hcell
  rw [e2] at h
  have hcut := h.cut hjl
  subst e2
  have HG := Lib.hid hget; clear hget
  have hil : i ≤ l.length := by
    have h1 := Nu.get_len (l.drop j); rw [hi] at h1; rw [List.length_drop] at h1; simp only at h1; omega
  have hcap : ¬ c = j := by
    intro e; subst e
    rw [List.drop_of_length_le hc] at hi
    simp [Nu.get, Nu.getF] at hi
  rw [if_neg hcap, add_lit] at hcut
  have hcl := hcut; clear hcut
  have hin := fun (W : World) (hW : Below w.heap.size w W) => nget_b _ _ _ B (l.drop j) W (hcl.below hW hB) (by rw [List.length_drop]; omega)
  rw [hi] at hin
  have HI := Lib.hid hin; clear hin hcl
  go_enter Try.func90, Try.ntmps90
  go_wp2_with fail
  refine (HG.out _ ?_).mono ?_
  exact below_one _ _
  rintro e w' ⟨rfl, rfl⟩
  go_wp2_with fail
  refine (HI.out _ ?_).mono ?_
  exact below_two _ _ _
  rintro e w' ⟨rfl, rfl⟩
  go_wp2_with fail
  refine (vmay_is _ ⟨1, m, ⟨#[]⟩⟩ true _ rfl (by show 0 ≤ 1000000; omega) (by unfold mayR; simp)).mono ?_
  rintro e w1 ⟨rfl, hb⟩
  have p0 : w1.cell? ⟨w.heap.size, 0, none⟩ = some (.int .i64 0) := (hb.cell (p := ⟨w.heap.size, 0, none⟩) (by simp; omega)).trans (by go_simp)
  have p1 : w1.cell? ⟨w.heap.size, 1, none⟩ = some (.int .i64 0) := (hb.cell (p := ⟨w.heap.size, 1, none⟩) (by simp; omega)).trans (by go_simp)
  have p2 : w1.cell? ⟨w.heap.size, 2, none⟩ = some (.string ⟨#[]⟩) := (hb.cell (p := ⟨w.heap.size, 2, none⟩) (by simp; omega)).trans (by go_simp)
  have f0 : w1.frozen? ⟨w.heap.size, 0, none⟩ = false := (hb.frozen (p := ⟨w.heap.size, 0, none⟩) (by simp; omega)).trans (by go_simp)
  have f1 : w1.frozen? ⟨w.heap.size, 1, none⟩ = false := (hb.frozen (p := ⟨w.heap.size, 1, none⟩) (by simp; omega)).trans (by go_simp)
  have f2 : w1.frozen? ⟨w.heap.size, 2, none⟩ = false := (hb.frozen (p := ⟨w.heap.size, 2, none⟩) (by simp; omega)).trans (by go_simp)
  have q0 : w1.cell? ⟨w.heap.size + 1, 0, none⟩ = some (.int .i64 1) := (hb.cell (p := ⟨w.heap.size + 1, 0, none⟩) (by simp)).trans (by go_simp)
  have q1 : w1.cell? ⟨w.heap.size + 1, 1, none⟩ = some (.int .i64 m) := (hb.cell (p := ⟨w.heap.size + 1, 1, none⟩) (by simp)).trans (by go_simp)
  have q2 : w1.cell? ⟨w.heap.size + 1, 2, none⟩ = some (.string ⟨#[]⟩) := (hb.cell (p := ⟨w.heap.size + 1, 2, none⟩) (by simp)).trans (by go_simp)
  have hbw : Below w.heap.size w w1 := (below_two w _ _).trans (hb.mono (by simp; omega))
  clear hb
  go_wp2
  exact bodyPost_ret (v := .tuple #[(Raw.mk 1 m ⟨#[]⟩).val, .int .i64 ((j : Int) + i), .int .i64 0]) (by simp [results, Try.results90, go_sem, Raw.val, p0, p1, p2]) rfl ⟨rfl, ((hbw.setCell (Nat.le_refl _) _).setCell (Nat.le_refl _) _).setCell (Nat.le_refl _) _⟩
set_option maxHeartbeats 400000 in
theorem vget_2e (A : Option Addr) (n c B : Nat) (l : List UInt8) (w : World) (h : Byt w B (.slice A n c) l) (hB : B ≤ w.heap.size) (hl : l.length ≤ 1000000) (j : Nat) (m : List UInt8) (i e : Nat) (hg : Nu.get l = (2, j, 0)) (hi : Nu.getT (l.drop j) = (m, i, e)) (he : e ≠ 0) :
    Calls Try.prog 90 #[.slice A n c] w (GotR (noRaw, 0, e) w) := by
  have hget := fun (W : World) (hW : Below w.heap.size w W) => nget_b A n c B l W (h.below hW hB) hl
  rw [hg] at hget
  have hjl : j ≤ l.length := by have := Nu.get_len l; rw [hg] at this; exact this
  have hj1 : 1 ≤ j := by have := Nu.get_pos l; rw [hg] at this; exact this rfl
  obtain ⟨A', c', hv, hc, hcell⟩ := id h
  injection hv with e1 e2 e3; subst e1; subst e3
  obtain ⟨g, o, rfl, hgB, _⟩ := hcell (by omega)
  clear hcell
  rw [e2] at h
  have hcut := h.cut hjl
  subst e2
  have HG := Lib.hid hget; clear hget
  have hne : ((e : Int) == 0) = false := by rw [beq_eq_false_iff_ne]; omega
  have hne2 : ((e : Int) != 0) = true := by rw [bne_iff_ne]; omega
  have HE := Lib.hid he; clear he
  by_cases hcap : c = j
  · subst hcap
    have hcl : Byt w B (.slice (some ⟨g, o, Option.none⟩) 0 0) (l.drop c) := by
      rw [List.drop_of_length_le hc]; exact ⟨_, 0, rfl, Nat.le_refl _, fun h => absurd h (by simp)⟩
    clear hcut
    have hin := fun (W : World) (hW : Below w.heap.size w W) => ngetText_b _ _ _ B (l.drop c) W (hcl.below hW hB) (by rw [List.length_drop]; omega)
    rw [hi] at hin
    have HI := Lib.hid hin; clear hin hcl
    go_enter Try.func90, Try.ntmps90
    go_wp2_with fail
    refine (HG.out _ ?_).mono ?_
    exact below_one _ _
    rintro e w' ⟨rfl, rfl⟩
    go_wp2_with fail
    refine (HI.out _ ?_).mono ?_
    exact below_two _ _ _
    rintro e w' ⟨rfl, rfl⟩
    go_wp2
    exact bodyPost_ret (v := .tuple #[noRaw.val, .int .i64 0, .int .i64 e]) (by simp [results, Try.results90, go_sem, noRaw, Raw.val]) rfl ⟨rfl, below_two _ _ _⟩
  · rw [if_neg hcap, add_lit] at hcut
    have hcl := hcut; clear hcut
    have hin := fun (W : World) (hW : Below w.heap.size w W) => ngetText_b _ _ _ B (l.drop j) W (hcl.below hW hB) (by rw [List.length_drop]; omega)
    rw [hi] at hin
    have HI := Lib.hid hin; clear hin hcl
    go_enter Try.func90, Try.ntmps90
    go_wp2_with fail
    refine (HG.out _ ?_).mono ?_
    exact below_one _ _
    rintro e w' ⟨rfl, rfl⟩
    go_wp2_with fail
    refine (HI.out _ ?_).mono ?_
    exact below_two _ _ _
    rintro e w' ⟨rfl, rfl⟩
    go_wp2
    exact bodyPost_ret (v := .tuple #[noRaw.val, .int .i64 0, .int .i64 e]) (by simp [results, Try.results90, go_sem, noRaw, Raw.val]) rfl ⟨rfl, below_two _ _ _⟩
set_option maxHeartbeats 400000 in
theorem vget_2ok (A : Option Addr) (n c B : Nat) (l : List UInt8) (w : World) (h : Byt w B (.slice A n c) l) (hB : B ≤ w.heap.size) (hl : l.length ≤ 1000000) (j : Nat) (m : List UInt8) (i : Nat) (hm : (Ru.vld m && decide (m.length ≤ 200)) = true) (hg : Nu.get l = (2, j, 0)) (hi : Nu.getT (l.drop j) = (m, i, 0)) :
    Calls Try.prog 90 #[.slice A n c] w (GotR (⟨2, 0, ⟨m.toArray⟩⟩, j + i, 0) w) := by
  have hget := fun (W : World) (hW : Below w.heap.size w W) => nget_b A n c B l W (h.below hW hB) hl
  rw [hg] at hget
  have hjl : j ≤ l.length := by have := Nu.get_len l; rw [hg] at this; exact this
  have hj1 : 1 ≤ j := by have := Nu.get_pos l; rw [hg] at this; exact this rfl
  obtain ⟨A', c', hv, hc, hcell⟩ := id h
  injection hv with e1 e2 e3; subst e1; subst e3
  obtain ⟨g, o, rfl, hgB, _⟩ := hcell (by omega)
  clear hcell
  rw [e2] at h
  have hcut := h.cut hjl
  subst e2
  have HG := Lib.hid hget; clear hget
  have hml : (⟨m.toArray⟩ : ByteArray).size ≤ 1000000 := by
    have h1 := getT_le (l.drop j); rw [hi] at h1
    rw [List.length_drop] at h1
    show m.length ≤ 1000000
    simp only at h1; omega
  have hmay : mayR ⟨2, 0, ⟨m.toArray⟩⟩ = true := by
    rw [← hm]; unfold mayR; simp; rfl
  have HMAY := Lib.hid hmay; clear hmay hm
  have hil : i ≤ l.length := by
    have h1 := getT_len (l.drop j); rw [hi] at h1; rw [List.length_drop] at h1; simp only at h1; omega
  have hcap : ¬ c = j := by
    intro e; subst e
    rw [List.drop_of_length_le hc] at hi
    simp [Nu.get, Nu.getF, Nu.getT] at hi
  rw [if_neg hcap, add_lit] at hcut
  have hcl := hcut; clear hcut
  have hin := fun (W : World) (hW : Below w.heap.size w W) => ngetText_b _ _ _ B (l.drop j) W (hcl.below hW hB) (by rw [List.length_drop]; omega)
  rw [hi] at hin
  have HI := Lib.hid hin; clear hin hcl
  go_enter Try.func90, Try.ntmps90
  go_wp2_with fail
  refine (HG.out _ ?_).mono ?_
  exact below_one _ _
  rintro e w' ⟨rfl, rfl⟩
  go_wp2_with fail
  refine (HI.out _ ?_).mono ?_
  exact below_two _ _ _
  rintro e w' ⟨rfl, rfl⟩
  go_wp2_with fail
  refine (vmay_is _ ⟨2, 0, ⟨m.toArray⟩⟩ true _ rfl (hml) (HMAY.out)).mono ?_
  rintro e w1 ⟨rfl, hb⟩
  have p0 : w1.cell? ⟨w.heap.size, 0, none⟩ = some (.int .i64 0) := (hb.cell (p := ⟨w.heap.size, 0, none⟩) (by simp; omega)).trans (by go_simp)
  have p1 : w1.cell? ⟨w.heap.size, 1, none⟩ = some (.int .i64 0) := (hb.cell (p := ⟨w.heap.size, 1, none⟩) (by simp; omega)).trans (by go_simp)
  have p2 : w1.cell? ⟨w.heap.size, 2, none⟩ = some (.string ⟨#[]⟩) := (hb.cell (p := ⟨w.heap.size, 2, none⟩) (by simp; omega)).trans (by go_simp)
  have f0 : w1.frozen? ⟨w.heap.size, 0, none⟩ = false := (hb.frozen (p := ⟨w.heap.size, 0, none⟩) (by simp; omega)).trans (by go_simp)
  have f1 : w1.frozen? ⟨w.heap.size, 1, none⟩ = false := (hb.frozen (p := ⟨w.heap.size, 1, none⟩) (by simp; omega)).trans (by go_simp)
  have f2 : w1.frozen? ⟨w.heap.size, 2, none⟩ = false := (hb.frozen (p := ⟨w.heap.size, 2, none⟩) (by simp; omega)).trans (by go_simp)
  have q0 : w1.cell? ⟨w.heap.size + 1, 0, none⟩ = some (.int .i64 2) := (hb.cell (p := ⟨w.heap.size + 1, 0, none⟩) (by simp)).trans (by go_simp)
  have q1 : w1.cell? ⟨w.heap.size + 1, 1, none⟩ = some (.int .i64 0) := (hb.cell (p := ⟨w.heap.size + 1, 1, none⟩) (by simp)).trans (by go_simp)
  have q2 : w1.cell? ⟨w.heap.size + 1, 2, none⟩ = some (.string ⟨m.toArray⟩) := (hb.cell (p := ⟨w.heap.size + 1, 2, none⟩) (by simp)).trans (by go_simp)
  have hbw : Below w.heap.size w w1 := (below_two w _ _).trans (hb.mono (by simp; omega))
  clear hb
  go_wp2
  exact bodyPost_ret (v := .tuple #[(Raw.mk 2 0 ⟨m.toArray⟩).val, .int .i64 ((j : Int) + i), .int .i64 0]) (by simp [results, Try.results90, go_sem, Raw.val, p0, p1, p2]) rfl ⟨rfl, ((hbw.setCell (Nat.le_refl _) _).setCell (Nat.le_refl _) _).setCell (Nat.le_refl _) _⟩
set_option maxHeartbeats 400000 in
theorem vget_2bok (A : Option Addr) (n c B : Nat) (l : List UInt8) (w : World) (h : Byt w B (.slice A n c) l) (hB : B ≤ w.heap.size) (hl : l.length ≤ 1000000) (j : Nat) (m : List UInt8) (i : Nat) (hm : (Ru.vld m && decide (m.length ≤ 200)) = false) (hg : Nu.get l = (2, j, 0)) (hi : Nu.getT (l.drop j) = (m, i, 0)) :
    Calls Try.prog 90 #[.slice A n c] w (GotR (noRaw, 0, 1) w) := by
  have hget := fun (W : World) (hW : Below w.heap.size w W) => nget_b A n c B l W (h.below hW hB) hl
  rw [hg] at hget
  have hjl : j ≤ l.length := by have := Nu.get_len l; rw [hg] at this; exact this
  have hj1 : 1 ≤ j := by have := Nu.get_pos l; rw [hg] at this; exact this rfl
  obtain ⟨A', c', hv, hc, hcell⟩ := id h
  injection hv with e1 e2 e3; subst e1; subst e3
  obtain ⟨g, o, rfl, hgB, _⟩ := hcell (by omega)
  clear hcell
  rw [e2] at h
  have hcut := h.cut hjl
  subst e2
  have HG := Lib.hid hget; clear hget
  have hml : (⟨m.toArray⟩ : ByteArray).size ≤ 1000000 := by
    have h1 := getT_le (l.drop j); rw [hi] at h1
    rw [List.length_drop] at h1
    show m.length ≤ 1000000
    simp only at h1; omega
  have hmay : mayR ⟨2, 0, ⟨m.toArray⟩⟩ = false := by
    rw [← hm]; unfold mayR; simp; rfl
  have HMAY := Lib.hid hmay; clear hmay hm
  have hil : i ≤ l.length := by
    have h1 := getT_len (l.drop j); rw [hi] at h1; rw [List.length_drop] at h1; simp only at h1; omega
  have hcap : ¬ c = j := by
    intro e; subst e
    rw [List.drop_of_length_le hc] at hi
    simp [Nu.get, Nu.getF, Nu.getT] at hi
  rw [if_neg hcap, add_lit] at hcut
  have hcl := hcut; clear hcut
  have hin := fun (W : World) (hW : Below w.heap.size w W) => ngetText_b _ _ _ B (l.drop j) W (hcl.below hW hB) (by rw [List.length_drop]; omega)
  rw [hi] at hin
  have HI := Lib.hid hin; clear hin hcl
  go_enter Try.func90, Try.ntmps90
  go_wp2_with fail
  refine (HG.out _ ?_).mono ?_
  exact below_one _ _
  rintro e w' ⟨rfl, rfl⟩
  go_wp2_with fail
  refine (HI.out _ ?_).mono ?_
  exact below_two _ _ _
  rintro e w' ⟨rfl, rfl⟩
  go_wp2_with fail
  refine (vmay_is _ ⟨2, 0, ⟨m.toArray⟩⟩ false _ rfl (hml) (HMAY.out)).mono ?_
  rintro e w1 ⟨rfl, hb⟩
  have p0 : w1.cell? ⟨w.heap.size, 0, none⟩ = some (.int .i64 0) := (hb.cell (p := ⟨w.heap.size, 0, none⟩) (by simp; omega)).trans (by go_simp)
  have p1 : w1.cell? ⟨w.heap.size, 1, none⟩ = some (.int .i64 0) := (hb.cell (p := ⟨w.heap.size, 1, none⟩) (by simp; omega)).trans (by go_simp)
  have p2 : w1.cell? ⟨w.heap.size, 2, none⟩ = some (.string ⟨#[]⟩) := (hb.cell (p := ⟨w.heap.size, 2, none⟩) (by simp; omega)).trans (by go_simp)
  have f0 : w1.frozen? ⟨w.heap.size, 0, none⟩ = false := (hb.frozen (p := ⟨w.heap.size, 0, none⟩) (by simp; omega)).trans (by go_simp)
  have f1 : w1.frozen? ⟨w.heap.size, 1, none⟩ = false := (hb.frozen (p := ⟨w.heap.size, 1, none⟩) (by simp; omega)).trans (by go_simp)
  have f2 : w1.frozen? ⟨w.heap.size, 2, none⟩ = false := (hb.frozen (p := ⟨w.heap.size, 2, none⟩) (by simp; omega)).trans (by go_simp)
  have q0 : w1.cell? ⟨w.heap.size + 1, 0, none⟩ = some (.int .i64 2) := (hb.cell (p := ⟨w.heap.size + 1, 0, none⟩) (by simp)).trans (by go_simp)
  have q1 : w1.cell? ⟨w.heap.size + 1, 1, none⟩ = some (.int .i64 0) := (hb.cell (p := ⟨w.heap.size + 1, 1, none⟩) (by simp)).trans (by go_simp)
  have q2 : w1.cell? ⟨w.heap.size + 1, 2, none⟩ = some (.string ⟨m.toArray⟩) := (hb.cell (p := ⟨w.heap.size + 1, 2, none⟩) (by simp)).trans (by go_simp)
  have hbw : Below w.heap.size w w1 := (below_two w _ _).trans (hb.mono (by simp; omega))
  clear hb
  go_wp2
  exact bodyPost_ret (v := .tuple #[noRaw.val, .int .i64 0, .int .i64 1]) (by simp [results, Try.results90, go_sem, noRaw, Raw.val, p0, p1, p2]) rfl ⟨rfl, ((hbw.setCell (Nat.le_refl _) _).setCell (Nat.le_refl _) _).setCell (Nat.le_refl _) _⟩

theorem mayR_0 : mayR ⟨0, 0, ⟨#[]⟩⟩ = true := by decide
theorem mayR_x (k : Int) (h0 : k ≠ 0) (h1 : k ≠ 1) (h2 : k ≠ 2) : mayR ⟨k, 0, ⟨#[]⟩⟩ = false := by unfold mayR; simp [h0, h1, h2]
theorem vget_any (A : Option Addr) (n c B : Nat) (l : List UInt8) (w : World) (h : Byt w B (.slice A n c) l) (hB : B ≤ w.heap.size) (hl : l.length ≤ 1000000) :
    Calls Try.prog 90 #[.slice A n c] w (GotR (getR l) w) := by
  obtain ⟨⟨k, j, e⟩, hg⟩ : ∃ r, Nu.get l = r := ⟨_, rfl⟩
  by_cases he : e = 0
  · subst he
    by_cases h0 : k = 0
    · subst h0; rw [getR_0 l j hg]; exact vget_xtrue A n c B l w h hB hl 0 j hg (by decide) (by decide) mayR_0
    · by_cases h1 : k = 1
      · subst h1
        obtain ⟨⟨m, i, e⟩, hi⟩ : ∃ r, Nu.get (l.drop j) = r := ⟨_, rfl⟩
        by_cases he : e = 0
        · subst he; rw [getR_1 l j m i hg hi]; exact vget_1ok A n c B l w h hB hl j m i hg hi
        · rw [getR_1e l j m i e hg hi he]; exact vget_1e A n c B l w h hB hl j m i e hg hi he
      · by_cases h2 : k = 2
        · subst h2
          obtain ⟨⟨m, i, e⟩, hi⟩ : ∃ r, Nu.getT (l.drop j) = r := ⟨_, rfl⟩
          by_cases he : e = 0
          · subst he; rw [getR_2 l j m i hg hi]
            cases hm : (Ru.vld m && decide (m.length ≤ 200))
            · exact vget_2bok A n c B l w h hB hl j m i hm hg hi
            · exact vget_2ok A n c B l w h hB hl j m i hm hg hi
          · rw [getR_2e l j m i e hg hi he]; exact vget_2e A n c B l w h hB hl j m i e hg hi he
        · rw [getR_x l k j hg h0 h1 h2]; exact vget_xfalse A n c B l w h hB hl k j hg h1 h2 (mayR_x k h0 h1 h2)
  · rw [getR_err l k j e hg he]; exact vget_err A n c B l w h hB hl k j e hg he
end Go.Proofs.Ytegkhkcnoahhdaa
/-
  Package value's Put writes the bytes that come in, and a value's kind and its number or text behind them, in new memory; of what may not be it writes nothing.
  The bytes are there in memory, at most 1,000,000; integers are in their ranges; a text has at most 1,000,000 bytes.
-/
namespace Go.Proofs.Ytegkhkcnoahhdaa
open Go.RowKit
set_option maxRecDepth 100000

theorem may_kind {r : Raw} (h : mayR r = true) : r.kind = 0 ∨ r.kind = 1 ∨ r.kind = 2 := by
  unfold mayR at h
  by_cases h0 : r.kind = 0
  · exact .inl h0
  · by_cases h1 : r.kind = 1
    · exact .inr (.inl h1)
    · by_cases h2 : r.kind = 2
      · exact .inr (.inr h2)
      · rw [if_neg h0, if_neg h1, if_neg h2] at h; cases h
set_option maxHeartbeats 400000 in
theorem vput_no (k : Int) (n : Int) (t : ByteArray) (u : Value) (B : Nat) (l : List UInt8) (w : World) (h : Byt w B u l) (hl : l.length ≤ 1000000) (hB : B ≤ w.heap.size) (hs : t.size ≤ 1000000) (hm : mayR ⟨k, n, t⟩ = false) :
    Calls Try.prog 52 #[u, (Raw.mk k n t).val] w (Made (l) w) := by
  have hmay := fun W => vmay_any ⟨k, n, t⟩ W hs
  rw [hm] at hmay
  unfold Raw.val at hmay
  unfold Raw.val
  have HM := Lib.hid hmay; clear hmay hm
  have hh := fun (W : World) (hW : Below w.heap.size w W) => h.below hW hB
  have HH := Lib.hid hh; clear hh h
  go_enter Try.func52, Try.ntmps52
  go_wp2_with fail
  refine (HM.out _).mono ?_
  rintro e w1 ⟨rfl, hb⟩
  have c0 : w1.cell? ⟨w.heap.size, 0, none⟩ = some (.int .i64 k) := (hb.cell (p := ⟨w.heap.size, 0, none⟩) (by simp)).trans (by go_simp)
  have c1 : w1.cell? ⟨w.heap.size, 1, none⟩ = some (.int .i64 n) := (hb.cell (p := ⟨w.heap.size, 1, none⟩) (by simp)).trans (by go_simp)
  have c2 : w1.cell? ⟨w.heap.size, 2, none⟩ = some (.string t) := (hb.cell (p := ⟨w.heap.size, 2, none⟩) (by simp)).trans (by go_simp)
  have hw1 : w.heap.size < w1.heap.size := by have := hb.size; simp at this; omega
  have hbw : Below w.heap.size w w1 := (below_one w _).trans (hb.mono (by simp))
  clear hb
  go_wp2_with (at_builtin; refine wpList_append_byt rfl _ _ rfl w.heap.size _ _ _ [] _ rfl (ownB_nil _ _) rfl (HH.out _ hbw) ?c2 hbw.size ?_)
  case c2 => simp; omega
  intro v2 w2 hown2 hb2
  have hb := hbw.trans hb2
  go_wp2
  go_ret
  exact ⟨v2, rfl, by simpa using hown2, hb⟩
set_option maxHeartbeats 400000 in
theorem vput_0 (n : Int) (t : ByteArray) (u : Value) (B : Nat) (l : List UInt8) (w : World) (h : Byt w B u l) (hl : l.length ≤ 1000000) (hB : B ≤ w.heap.size) (hs : t.size ≤ 1000000) (hm : mayR ⟨0, n, t⟩ = true) :
    Calls Try.prog 52 #[u, (Raw.mk 0 n t).val] w (Made (l ++ Nu.put 0) w) := by
  have hmay := fun W => vmay_any ⟨0, n, t⟩ W hs
  rw [hm] at hmay
  unfold Raw.val at hmay
  unfold Raw.val
  have HM := Lib.hid hmay; clear hmay hm
  have hh := fun (W : World) (hW : Below w.heap.size w W) => h.below hW hB
  have HH := Lib.hid hh; clear hh h
  go_enter Try.func52, Try.ntmps52
  go_wp2_with fail
  refine (HM.out _).mono ?_
  rintro e w1 ⟨rfl, hb⟩
  have c0 : w1.cell? ⟨w.heap.size, 0, none⟩ = some (.int .i64 0) := (hb.cell (p := ⟨w.heap.size, 0, none⟩) (by simp)).trans (by go_simp)
  have c1 : w1.cell? ⟨w.heap.size, 1, none⟩ = some (.int .i64 n) := (hb.cell (p := ⟨w.heap.size, 1, none⟩) (by simp)).trans (by go_simp)
  have c2 : w1.cell? ⟨w.heap.size, 2, none⟩ = some (.string t) := (hb.cell (p := ⟨w.heap.size, 2, none⟩) (by simp)).trans (by go_simp)
  have hw1 : w.heap.size < w1.heap.size := by have := hb.size; simp at this; omega
  have hbw : Below w.heap.size w w1 := (below_one w _).trans (hb.mono (by simp))
  clear hb
  go_wp2_with fail
  refine (nput_any u B l 0 w1 (HH.out _ hbw) (by omega) (Nat.le_trans hB hbw.size) (by omega) (by omega)).mono ?_
  rintro e w2 ⟨v2, rfl, hown2, hb2⟩
  have c1 := (hb2.cell (p := ⟨w.heap.size, 1, none⟩) hw1).trans c1
  have c2 := (hb2.cell (p := ⟨w.heap.size, 2, none⟩) hw1).trans c2
  have c0 := (hb2.cell (p := ⟨w.heap.size, 0, none⟩) hw1).trans c0
  have hown := hown2.down (B := w.heap.size) hbw.size
  have hbw := hbw.trans (hb2.mono hbw.size)
  have hby := Byt.of_own hown2
  clear hb2 hown2
  go_wp2
  go_ret
  exact ⟨v2, rfl, hown, hbw⟩
set_option maxHeartbeats 400000 in
theorem vput_1 (n : Int) (t : ByteArray) (u : Value) (B : Nat) (l : List UInt8) (w : World) (h : Byt w B u l) (hl : l.length ≤ 1000000) (hB : B ≤ w.heap.size) (h0 : -9223372036854775808 ≤ n) (h1 : n ≤ 9223372036854775807) (hs : t.size ≤ 1000000) (hm : mayR ⟨1, n, t⟩ = true) :
    Calls Try.prog 52 #[u, (Raw.mk 1 n t).val] w (Made (l ++ (Nu.put 1 ++ Nu.put n)) w) := by
  have hmay := fun W => vmay_any ⟨1, n, t⟩ W hs
  rw [hm] at hmay
  unfold Raw.val at hmay
  unfold Raw.val
  have HM := Lib.hid hmay; clear hmay hm
  have hh := fun (W : World) (hW : Below w.heap.size w W) => h.below hW hB
  have HH := Lib.hid hh; clear hh h
  have hpl := Nu.put_len 1
  go_enter Try.func52, Try.ntmps52
  go_wp2_with fail
  refine (HM.out _).mono ?_
  rintro e w1 ⟨rfl, hb⟩
  have c0 : w1.cell? ⟨w.heap.size, 0, none⟩ = some (.int .i64 1) := (hb.cell (p := ⟨w.heap.size, 0, none⟩) (by simp)).trans (by go_simp)
  have c1 : w1.cell? ⟨w.heap.size, 1, none⟩ = some (.int .i64 n) := (hb.cell (p := ⟨w.heap.size, 1, none⟩) (by simp)).trans (by go_simp)
  have c2 : w1.cell? ⟨w.heap.size, 2, none⟩ = some (.string t) := (hb.cell (p := ⟨w.heap.size, 2, none⟩) (by simp)).trans (by go_simp)
  have hw1 : w.heap.size < w1.heap.size := by have := hb.size; simp at this; omega
  have hbw : Below w.heap.size w w1 := (below_one w _).trans (hb.mono (by simp))
  clear hb
  go_wp2_with fail
  refine (nput_any u B l 1 w1 (HH.out _ hbw) (by omega) (Nat.le_trans hB hbw.size) (by omega) (by omega)).mono ?_
  rintro e w2 ⟨v2, rfl, hown2, hb2⟩
  have c1 := (hb2.cell (p := ⟨w.heap.size, 1, none⟩) hw1).trans c1
  have c2 := (hb2.cell (p := ⟨w.heap.size, 2, none⟩) hw1).trans c2
  have c0 := (hb2.cell (p := ⟨w.heap.size, 0, none⟩) hw1).trans c0
  have hown := hown2.down (B := w.heap.size) hbw.size
  have hbw := hbw.trans (hb2.mono hbw.size)
  have hby := Byt.of_own hown2
  clear hb2 hown2
  have hS := hbw.size
  go_wp2_with fail
  refine (nput_any v2 _ (l ++ Nu.put 1) n w2 hby (by rw [List.length_append]; omega) (Nat.le_refl _) h0 h1).mono ?_
  rintro e w3 ⟨v3, rfl, hown3, hb3⟩
  have hown3 := hown3.down (B := w.heap.size) hS
  have hbw := hbw.trans (hb3.mono hS)
  clear hb3 hown hby c0 c1 c2
  go_wp2
  go_ret
  exact ⟨v3, rfl, by rw [← List.append_assoc]; exact hown3, hbw⟩
set_option maxHeartbeats 400000 in
theorem vput_2 (n : Int) (t : ByteArray) (u : Value) (B : Nat) (l : List UInt8) (w : World) (h : Byt w B u l) (hl : l.length ≤ 1000000) (hB : B ≤ w.heap.size) (hs : t.size ≤ 1000000) (hm : mayR ⟨2, n, t⟩ = true) :
    Calls Try.prog 52 #[u, (Raw.mk 2 n t).val] w (Made (l ++ (Nu.put 2 ++ Nu.putT t.data.toList)) w) := by
  have hmay := fun W => vmay_any ⟨2, n, t⟩ W hs
  rw [hm] at hmay
  unfold Raw.val at hmay
  unfold Raw.val
  have HM := Lib.hid hmay; clear hmay hm
  have hh := fun (W : World) (hW : Below w.heap.size w W) => h.below hW hB
  have HH := Lib.hid hh; clear hh h
  have hpl := Nu.put_len 2
  go_enter Try.func52, Try.ntmps52
  go_wp2_with fail
  refine (HM.out _).mono ?_
  rintro e w1 ⟨rfl, hb⟩
  have c0 : w1.cell? ⟨w.heap.size, 0, none⟩ = some (.int .i64 2) := (hb.cell (p := ⟨w.heap.size, 0, none⟩) (by simp)).trans (by go_simp)
  have c1 : w1.cell? ⟨w.heap.size, 1, none⟩ = some (.int .i64 n) := (hb.cell (p := ⟨w.heap.size, 1, none⟩) (by simp)).trans (by go_simp)
  have c2 : w1.cell? ⟨w.heap.size, 2, none⟩ = some (.string t) := (hb.cell (p := ⟨w.heap.size, 2, none⟩) (by simp)).trans (by go_simp)
  have hw1 : w.heap.size < w1.heap.size := by have := hb.size; simp at this; omega
  have hbw : Below w.heap.size w w1 := (below_one w _).trans (hb.mono (by simp))
  clear hb
  go_wp2_with fail
  refine (nput_any u B l 2 w1 (HH.out _ hbw) (by omega) (Nat.le_trans hB hbw.size) (by omega) (by omega)).mono ?_
  rintro e w2 ⟨v2, rfl, hown2, hb2⟩
  have c1 := (hb2.cell (p := ⟨w.heap.size, 1, none⟩) hw1).trans c1
  have c2 := (hb2.cell (p := ⟨w.heap.size, 2, none⟩) hw1).trans c2
  have c0 := (hb2.cell (p := ⟨w.heap.size, 0, none⟩) hw1).trans c0
  have hown := hown2.down (B := w.heap.size) hbw.size
  have hbw := hbw.trans (hb2.mono hbw.size)
  have hby := Byt.of_own hown2
  clear hb2 hown2
  have hS := hbw.size
  go_wp2_with fail
  refine (nputText_any v2 _ (l ++ Nu.put 2) t w2 hby (by rw [List.length_append]; omega) (by omega) (Nat.le_refl _)).mono ?_
  rintro e w3 ⟨v3, rfl, hown3, hb3⟩
  have hown3 := hown3.down (B := w.heap.size) hS
  have hbw := hbw.trans (hb3.mono hS)
  clear hb3 hown hby c0 c1 c2
  go_wp2
  go_ret
  exact ⟨v3, rfl, by rw [← List.append_assoc]; exact hown3, hbw⟩
theorem vput_any (r : Raw) (u : Value) (B : Nat) (l : List UInt8) (w : World) (h : Byt w B u l) (hl : l.length ≤ 1000000) (hB : B ≤ w.heap.size) (hr : r.ok) (hm : mayR r = true) :
    Calls Try.prog 52 #[u, r.val] w (Made (l ++ putR r) w) := by
  obtain ⟨k, n, t⟩ := r
  obtain ⟨⟨hk0, hk1⟩, ⟨hn0, hn1⟩, hs⟩ := hr
  simp only at hs hn0 hn1
  rcases may_kind hm with h0 | h0 | h0 <;> simp only at h0 <;> subst h0
  · have e : putR ⟨0, n, t⟩ = Nu.put 0 := by unfold putR; simp
    rw [e]; exact vput_0 n t u B l w h hl hB hs hm
  · have e : putR ⟨1, n, t⟩ = Nu.put 1 ++ Nu.put n := by unfold putR; simp
    rw [e]; exact vput_1 n t u B l w h hl hB hn0 hn1 hs hm
  · have e : putR ⟨2, n, t⟩ = Nu.put 2 ++ Nu.putT t.data.toList := by unfold putR; simp
    rw [e]; exact vput_2 n t u B l w h hl hB hs hm
end Go.Proofs.Ytegkhkcnoahhdaa
/-
  A function returns what the plain functions say: L1Cut.
-/
namespace Go.Proofs.Ytegkhkcnoahhdaa
open Go.RowKit
set_option maxRecDepth 100000

/-- the first bytes of a text -/
def cutS (s : ByteArray) (n : Nat) : ByteArray := if n < s.size then s.extract 0 n else s
theorem cutS_size (s : ByteArray) (n : Nat) : (cutS s n).size ≤ n := by
  unfold cutS; split
  · rw [ByteArray.size_extract]; omega
  · omega
end Go.Proofs.Ytegkhkcnoahhdaa
/-
  What the statements cut their values and bytes to: some value of the same kind and number with a text of at most 220 bytes; the first bytes.
  There are no conditions beyond those that each lemma names.
-/
namespace Go.Proofs.Ytegkhkcnoahhdaa
open Go.RowKit
set_option maxRecDepth 100000

/-- a value whose text has been cut -/
def CutR (r : Raw) (w : World) (e : Ending) (w' : World) : Prop := ∃ t : ByteArray, (t.size : Int) ≤ 220 ∧ e = .returned (Raw.mk r.kind r.n t).val ∧ Below w.heap.size w w'
/-- the first bytes -/
def Sh (B : Nat) (l : List UInt8) (m : Nat) (w : World) (e : Ending) (w' : World) : Prop := ∃ A c, e = .returned (.slice A (l.take m).length c) ∧ Byt w B (.slice A (l.take m).length c) (l.take m) ∧ w = w'
set_option maxRecDepth 100000 in
set_option maxHeartbeats 1000000 in
theorem short_any (A : Option Addr) (n c B m : Nat) (l : List UInt8) (w : World) (h : Byt w B (.slice A n c) l) (hm : m ≤ 1000000) :
    Calls Try.prog 8 #[.slice A n c, .int .i64 m] w (Sh B l m w) := by
  obtain ⟨A', c', hv, hc, hcell⟩ := id h
  injection hv with e1 e2 e3; subst e1; subst e3; subst e2
  have HB := Lib.hid h; clear h
  have HC := Lib.hid hcell; clear hcell
  by_cases hlt : m < l.length
  · obtain ⟨g, o, rfl, hg, hcs⟩ := HC.out (by omega)
    go_enter Try.func8, Try.ntmps8
    go_wp2
    go_ret
    have e : (l.take m).length = m := by rw [List.length_take]; omega
    refine ⟨some ⟨g, o, none⟩, c, by rw [e]; rfl, ?_, rfl⟩
    refine ⟨_, c, rfl, by omega, fun hn => ⟨g, o, rfl, hg, fun k hk => ?_⟩⟩
    rw [e] at hk
    rw [hcs k (by omega)]; simp
  · go_enter Try.func8, Try.ntmps8
    go_wp2
    go_ret
    have e : l.take m = l := List.take_of_length_le (by omega)
    refine ⟨A, c, by rw [e]; rfl, ?_, rfl⟩
    rw [e]; exact HB.out
end Go.Proofs.Ytegkhkcnoahhdaa
/-
  Package value's Kind, Raw, AsInt, MustInt and Eq say what a value is.
  A text has at most 1,000,000 bytes.
-/
namespace Go.Proofs.Ytegkhkcnoahhdaa
open Go.RowKit
set_option maxRecDepth 100000

theorem Try.as_nn (v : Value) (w : World) : (Instr.typeAssert (.iface 97 v) 20 97 true).run Try.prog w = .ok (.tuple #[v, .bool true]) w := by kernel_rfl
theorem Try.as_tn (v : Value) (w : World) : (Instr.typeAssert (.iface 99 v) 20 97 true).run Try.prog w = .ok (.tuple #[.int .i64 0, .bool false]) w := by kernel_rfl
theorem Try.as_0n (w : World) : (Instr.typeAssert .nilIface 20 97 true).run Try.prog w = .ok (.tuple #[.int .i64 0, .bool false]) w := by kernel_rfl
theorem Try.as_nt (v : Value) (w : World) : (Instr.typeAssert (.iface 97 v) 20 99 true).run Try.prog w = .ok (.tuple #[.string ByteArray.empty, .bool false]) w := by kernel_rfl
theorem Try.as_tt (v : Value) (w : World) : (Instr.typeAssert (.iface 99 v) 20 99 true).run Try.prog w = .ok (.tuple #[v, .bool true]) w := by kernel_rfl
theorem Try.as_0t (w : World) : (Instr.typeAssert .nilIface 20 99 true).run Try.prog w = .ok (.tuple #[.string ByteArray.empty, .bool false]) w := by kernel_rfl

def IntE (k : Int) (w : World) (e : Ending) (w' : World) : Prop := e = .returned (.int .i64 k) ∧ Below w.heap.size w w'
def RawE (r : Raw) (w : World) (e : Ending) (w' : World) : Prop := e = .returned r.val ∧ Below w.heap.size w w'
def OkE (k : Int) (b : Bool) (w : World) (e : Ending) (w' : World) : Prop := e = .returned (.tuple #[.int .i64 k, .bool b]) ∧ Below w.heap.size w w'
def Va.int : Va → Int
  | .num n => n
  | _ => 0
def Va.isInt : Va → Bool
  | .num _ => true
  | _ => false
def Va.len : Va → Nat
  | .txt s => s.size
  | _ => 0

set_option maxHeartbeats 1000000 in
theorem vkind_any (v : Va) (w : World) : Calls Try.prog 73 #[v.val] w (IntE v.raw.kind w) := by
  have a1 := Try.as_nn
  have a2 := Try.as_tn
  have a3 := Try.as_0n
  have a4 := Try.as_tt
  have a5 := Try.as_0t
  cases v <;> unfold Va.val <;> go_enter Try.func73, Try.ntmps73
  all_goals (go_wp2; go_ret; exact ⟨rfl, below_one _ _⟩)

set_option maxHeartbeats 1000000 in
theorem vasInt_any (v : Va) (w : World) : Calls Try.prog 74 #[v.val] w (OkE v.int v.isInt w) := by
  have a1 := Try.as_nn
  have a2 := Try.as_tn
  have a3 := Try.as_0n
  cases v <;> unfold Va.val <;> go_enter Try.func74, Try.ntmps74
  all_goals (go_wp2; go_ret2; exact ⟨rfl, below_one _ _⟩)

set_option maxHeartbeats 1000000 in
theorem vraw_any (v : Va) (w : World) (hv : v.len ≤ 1000000) : Calls Try.prog 28 #[v.val] w (RawE v.raw w) := by
  have a1 := Try.as_nn
  have a2 := Try.as_tn
  have a3 := Try.as_0n
  have a4 := Try.as_tt
  have a5 := Try.as_0t
  cases v with
  | none =>
    unfold Va.val
    go_enter Try.func28, Try.ntmps28
    go_wp2
    exact bodyPost_ret (v := Va.none.raw.val) (by simp [results, Try.results28, go_sem, Va.raw, Raw.val]) rfl ⟨rfl, below_two _ _ _⟩
  | num n =>
    unfold Va.val
    go_enter Try.func28, Try.ntmps28
    go_wp2
    exact bodyPost_ret (v := (Va.num n).raw.val) (by simp [results, Try.results28, go_sem, Va.raw, Raw.val]) rfl ⟨rfl, below_two _ _ _⟩
  | txt s =>
    have hs : s.size ≤ 281474976710656 := by simp only [Va.len] at hv; omega
    unfold Va.val
    go_enter Try.func28, Try.ntmps28
    go_wp2_with fail
    refine (clone_any s _ hs).mono ?_
    rintro e w1 ⟨rfl, hb⟩
    have q0 : w1.cell? ⟨w.heap.size + 1, 0, none⟩ = some (.int .i64 0) := (hb.cell (p := ⟨w.heap.size + 1, 0, none⟩) (by simp)).trans (by go_simp)
    have f0 : w1.frozen? ⟨w.heap.size + 1, 0, none⟩ = false := (hb.frozen (p := ⟨w.heap.size + 1, 0, none⟩) (by simp)).trans (by go_simp)
    have q1 : w1.cell? ⟨w.heap.size + 1, 1, none⟩ = some (.int .i64 0) := (hb.cell (p := ⟨w.heap.size + 1, 1, none⟩) (by simp)).trans (by go_simp)
    have f1 : w1.frozen? ⟨w.heap.size + 1, 1, none⟩ = false := (hb.frozen (p := ⟨w.heap.size + 1, 1, none⟩) (by simp)).trans (by go_simp)
    have q2 : w1.cell? ⟨w.heap.size + 1, 2, none⟩ = some (.string ⟨#[]⟩) := (hb.cell (p := ⟨w.heap.size + 1, 2, none⟩) (by simp)).trans (by go_simp)
    have f2 : w1.frozen? ⟨w.heap.size + 1, 2, none⟩ = false := (hb.frozen (p := ⟨w.heap.size + 1, 2, none⟩) (by simp)).trans (by go_simp)
    have hbw : Below w.heap.size w w1 := (below_two w _ _).trans (hb.mono (by simp; omega))
    clear hb
    go_wp2
    exact bodyPost_ret (v := (Va.txt s).raw.val) (by simp [results, Try.results28, go_sem, Va.raw, Raw.val, q0, q1, q2]) rfl ⟨rfl, ((hbw.setCell (by simp) _).setCell (by simp) _).setCell (by simp) _⟩
end Go.Proofs.Ytegkhkcnoahhdaa
/-
  Package value's Eq says whether two values are one.
  There are no conditions.
-/
namespace Go.Proofs.Ytegkhkcnoahhdaa
open Go.RowKit
set_option maxRecDepth 100000

theorem Try.cmpN : (Try.prog.info? 97).map (fun i => i.comparable) = some true := by kernel_rfl
theorem Try.cmpT : (Try.prog.info? 99).map (fun i => i.comparable) = some true := by kernel_rfl
theorem eqIn_nn (d : Nat) (a b : Int) (w : World) : (Op.equalIn (d + 2) 20 (.iface 97 (.int .i64 a)) (.iface 97 (.int .i64 b))).run Try.prog w = .ok (a == b) w := by
  obtain ⟨i, hi, hc⟩ := Option.map_eq_some_iff.1 Try.cmpN
  simp [Op.equalIn, run_underlying Try.underlying20, run_underlying Try.underlying97, typeInfo, hi, hc]
theorem eqIn_tt (d : Nat) (a b : ByteArray) (w : World) : (Op.equalIn (d + 2) 20 (.iface 99 (.string a)) (.iface 99 (.string b))).run Try.prog w = .ok (a == b) w := by
  obtain ⟨i, hi, hc⟩ := Option.map_eq_some_iff.1 Try.cmpT
  simp [Op.equalIn, run_underlying Try.underlying20, run_underlying Try.underlying99, typeInfo, hi, hc]
theorem eql_nn (a b : Int) (w : World) : (binOp .eql 20 (.iface 97 (.int .i64 a)) (.iface 97 (.int .i64 b))).run Try.prog w = .ok (.bool (a == b)) w := by
  simp only [binOp]
  simp [Op.equal, Op.maxDepth, eqIn_nn 9998]
theorem eql_tt (a b : ByteArray) (w : World) : (binOp .eql 20 (.iface 99 (.string a)) (.iface 99 (.string b))).run Try.prog w = .ok (.bool (a == b)) w := by
  simp only [binOp]
  simp [Op.equal, Op.maxDepth, eqIn_tt 9998]
theorem eql_nt (a b : Value) (w : World) : (binOp .eql 20 (.iface 97 a) (.iface 99 b)).run Try.prog w = .ok (.bool false) w :=
  run_eql_iface_types _ _ _ _ Try.underlying20 (by decide) w
theorem eql_tn (a b : Value) (w : World) : (binOp .eql 20 (.iface 99 a) (.iface 97 b)).run Try.prog w = .ok (.bool false) w :=
  run_eql_iface_types _ _ _ _ Try.underlying20 (by decide) w
theorem eql_0i (t : TypeId) (a : Value) (w : World) : (binOp .eql 20 .nilIface (.iface t a)).run Try.prog w = .ok (.bool false) w :=
  run_eql_iface_nil_left w t a Try.underlying20
theorem eql_i0 (t : TypeId) (a : Value) (w : World) : (binOp .eql 20 (.iface t a) .nilIface).run Try.prog w = .ok (.bool false) w := by
  have h : ∀ d : Nat, (Op.equalIn (d + 1) 20 (.iface t a) .nilIface).run Try.prog w = .ok false w := fun d => by simp [Op.equalIn, run_underlying Try.underlying20]
  simp only [binOp]
  simp [Op.equal, Op.maxDepth, h 9999]
theorem eql_00 (w : World) : (binOp .eql 20 .nilIface .nilIface).run Try.prog w = .ok (.bool true) w := by
  have h : ∀ d : Nat, (Op.equalIn (d + 1) 20 .nilIface .nilIface).run Try.prog w = .ok true w := fun d => by simp [Op.equalIn, run_underlying Try.underlying20]
  simp only [binOp]
  simp [Op.equal, Op.maxDepth, h 9999]

theorem guard_00 (x y : Operand) (w : World) : (eqGuard .eql 20 x y .nilIface .nilIface).run Try.prog w = .ok () w := by
  have h : ∀ d : Nat, (Op.eqGuardIn (d + 1) 20 .nilIface .nilIface).run Try.prog w = .ok false w := fun d => by simp [Op.eqGuardIn, run_underlying Try.underlying20]
  cases x <;> cases y <;> simp [eqGuard, Op.maxDepth, h 9999]

def eqV : Va → Va → Bool
  | .none, .none => true
  | .num a, .num b => a == b
  | .txt a, .txt b => a == b
  | _, _ => false

set_option maxHeartbeats 4000000 in
theorem veq_any (a b : Va) (w : World) : Calls Try.prog 47 #[a.val, b.val] w (Bl (eqV a b) w) := by
  have e1 := eql_nn
  have e2 := eql_tt
  have e3 := eql_nt
  have e4 := eql_tn
  have e5 := eql_0i
  have e6 := eql_i0
  have e7 := eql_00
  have e8 := guard_00
  cases a <;> cases b <;> unfold Va.val <;> go_enter Try.func47, Try.ntmps47
  all_goals (go_wp2; go_ret; exact ⟨rfl, below_two _ _ _⟩)
end Go.Proofs.Ytegkhkcnoahhdaa
/-
  Package value's MustInt hands the number back, or panics by its type assertion; what the statements make of it says which.
  There are no conditions.
-/
namespace Go.Proofs.Ytegkhkcnoahhdaa
open Go.RowKit
set_option maxRecDepth 100000

theorem Try.must_n (v : Value) (w : World) : (Instr.typeAssert (.iface 97 v) 20 97 false).run Try.prog w = .ok v w := by kernel_rfl
theorem must_0 (w : World) : (Instr.typeAssert .nilIface 20 97 false).run Try.prog w = .halt (.panic (.iface 15 (.pointer (some ⟨w.heap.size, 0, none⟩)))) (w.alloc (.cells #[typeHandle Try.prog 20, .pointer none, typeHandle Try.prog 97, strVal ""] 150)) := by
  simp [Instr.typeAssert, run_underlying Try.underlying97, runtimePanic, elemOf, go_sem]
theorem must_t (v : Value) (w : World) : (Instr.typeAssert (.iface 99 v) 20 97 false).run Try.prog w = .halt (.panic (.iface 15 (.pointer (some ⟨w.heap.size, 0, none⟩)))) (w.alloc (.cells #[typeHandle Try.prog 20, typeHandle Try.prog 99, typeHandle Try.prog 97, strVal ""] 150)) := by
  simp [Instr.typeAssert, run_underlying Try.underlying97, runtimePanic, elemOf, go_sem]
/-- a panic that nobody has caught -/
def Thrown (w : World) (e : Ending) (w' : World) : Prop := (∃ u v, e = .panicked [{ v := .iface u v, recovered := false }]) ∧ Below w.heap.size w w'

end Go.Proofs.Ytegkhkcnoahhdaa
/-
  The contracts of package value where the walk names the value's inside itself.
  The conditions are those of the contracts that they come from.
-/
namespace Go.Proofs.Ytegkhkcnoahhdaa
open Go.RowKit
set_option maxRecDepth 100000

theorem Try.raw_kind (a b s : Value) (w : World) : (Instr.field 36 (.agg #[a, b, s]) 0).run Try.prog w = .ok a w := by kernel_rfl
theorem Try.raw_n (a b s : Value) (w : World) : (Instr.field 36 (.agg #[a, b, s]) 1).run Try.prog w = .ok b w := by kernel_rfl
theorem Try.raw_s (a b s : Value) (w : World) : (Instr.field 36 (.agg #[a, b, s]) 2).run Try.prog w = .ok s w := by kernel_rfl
/-- what a value keeps inside -/
def Va.ins : Va → Value
  | .none => .nilIface
  | .num n => .iface 97 (.int .i64 n)
  | .txt s => .iface 99 (.string s)
theorem Va.val_ins (v : Va) : v.val = .agg #[v.ins] := by cases v <;> rfl
theorem vof_is (u : Value) (r : Raw) (v : Va) (x : Value) (k : Int) (w : World) (hu : u = r.val) (hs : r.s.size ≤ 1000000) (hv : vaOf r = v) (hx : v.ins = x) (hk : okE (mayR r) = k) :
    Calls Try.prog 55 #[u] w fun e w' => e = .returned (.tuple #[.agg #[x], .int .i64 k]) ∧ Below w.heap.size w w' := by
  have h := vof_any r w hs
  unfold VaE at h
  rw [hv, Va.val_ins, hx, hk] at h
  rw [hu]; exact h
theorem vkind_is (u : Value) (v : Va) (k : Int) (w : World) (hu : u = .agg #[v.ins]) (hk : v.raw.kind = k) :
    Calls Try.prog 73 #[u] w fun e w' => e = .returned (.int .i64 k) ∧ Below w.heap.size w w' := by
  rw [hu, ← Va.val_ins, ← hk]; exact vkind_any v w
theorem vraw_is (u : Value) (v : Va) (k n : Int) (s : ByteArray) (w : World) (hu : u = .agg #[v.ins]) (hr : v.raw = ⟨k, n, s⟩) (hs : v.len ≤ 1000000) :
    Calls Try.prog 28 #[u] w fun e w' => e = .returned (.agg #[.int .i64 k, .int .i64 n, .string s]) ∧ Below w.heap.size w w' := by
  have h := vraw_any v w hs
  rw [hr] at h
  rw [hu, ← Va.val_ins]; exact h
theorem vasInt_is (u : Value) (v : Va) (k : Int) (b : Bool) (w : World) (hu : u = .agg #[v.ins]) (hk : v.int = k) (hb : v.isInt = b) :
    Calls Try.prog 74 #[u] w fun e w' => e = .returned (.tuple #[.int .i64 k, .bool b]) ∧ Below w.heap.size w w' := by
  rw [hu, ← Va.val_ins, ← hk, ← hb]; exact vasInt_any v w
theorem veq_is (u u2 : Value) (v v2 : Va) (b : Bool) (w : World) (hu : u = .agg #[v.ins]) (hu2 : u2 = .agg #[v2.ins]) (hb : eqV v v2 = b) :
    Calls Try.prog 47 #[u, u2] w fun e w' => e = .returned (.bool b) ∧ Below w.heap.size w w' := by
  rw [hu, hu2, ← Va.val_ins, ← Va.val_ins, ← hb]; exact veq_any v v2 w
/-- two insides, and whether they are one -/
structure EqI (x y : Value) (b : Bool) : Prop where
  h : ∃ v v2 : Va, v.ins = x ∧ v2.ins = y ∧ eqV v v2 = b
theorem eqI (v v2 : Va) {b : Bool} (h : eqV v v2 = b) : EqI v.ins v2.ins b := ⟨⟨v, v2, rfl, rfl, h⟩⟩
theorem veq_i (x y : Value) (b : Bool) (w : World) (h : EqI x y b) :
    Calls Try.prog 47 #[.agg #[x], .agg #[y]] w fun e w' => e = .returned (.bool b) ∧ Below w.heap.size w w' := by
  obtain ⟨v, v2, rfl, rfl, hb⟩ := h.h
  exact veq_is _ _ v v2 b w rfl rfl hb
end Go.Proofs.Ytegkhkcnoahhdaa
/-
  Plain facts on values.
  There are no conditions beyond those that each lemma names.
-/
namespace Go.Proofs.Ytegkhkcnoahhdaa
open Go.RowKit
set_option maxRecDepth 100000

theorem mayR_num (n : Int) : mayR ⟨1, n, ⟨#[]⟩⟩ = true := by unfold mayR; simp
theorem of_num (n : Int) : vaOf ⟨1, n, ⟨#[]⟩⟩ = .num n := by unfold vaOf; rw [mayR_num]; simp
theorem okE_num (n : Int) : okE (mayR ⟨1, n, ⟨#[]⟩⟩) = 0 := by rw [mayR_num]; rfl
/-- a raw value: it may not be, or none, a number, a text -/
theorem va_cases (k n : Int) (t : ByteArray) : (mayR ⟨k, n, t⟩ = false ∧ vaOf ⟨k, n, t⟩ = .none) ∨ (k = 0 ∧ n = 0 ∧ t = ⟨#[]⟩) ∨ (k = 1 ∧ t = ⟨#[]⟩) ∨ (k = 2 ∧ n = 0 ∧ mayR ⟨2, 0, t⟩ = true ∧ vaOf ⟨2, 0, t⟩ = .txt t) := by
  cases hm : mayR ⟨k, n, t⟩
  · exact .inl ⟨rfl, by unfold vaOf; rw [hm]; rfl⟩
  · have he : t.data.toList.isEmpty = true → t = ⟨#[]⟩ := fun h => by
      obtain ⟨⟨l⟩⟩ := t
      cases l with
      | nil => rfl
      | cons a b => simp at h
    have hm2 := hm
    unfold mayR at hm
    by_cases h0 : k = 0
    · rw [if_pos h0, Bool.and_eq_true] at hm
      exact .inr (.inl ⟨h0, by simpa using hm.1, he hm.2⟩)
    · by_cases h1 : k = 1
      · rw [if_neg h0, if_pos h1] at hm
        exact .inr (.inr (.inl ⟨h1, he hm⟩))
      · by_cases h2 : k = 2
        · rw [if_neg h0, if_neg h1, if_pos h2, Bool.and_eq_true, Bool.and_eq_true] at hm
          have hn : n = 0 := by simpa using hm.1.1
          subst h2; subst hn
          exact .inr (.inr (.inr ⟨rfl, rfl, hm2, by unfold vaOf; rw [hm2]; simp⟩))
        · rw [if_neg h0, if_neg h1, if_neg h2] at hm; cases hm
theorem ins_store (v : Va) (x : Value) (h : v.ins = x) (a : Addr) (m : Mode) (w : World) : (store a x m).run Try.prog w = stored Try.prog w a x m := by
  subst h; cases v <;> exact run_store _ w a _ m rfl
/-- what is known of the value that a raw one tells of, whatever its kind -/
theorem va_good (k n : Int) (t : ByteArray) (h : mayR ⟨k, n, t⟩ = true) : ∃ v x b, vaOf ⟨k, n, t⟩ = v ∧ v.ins = x ∧ v.raw = ⟨k, n, t⟩ ∧ v.int = n ∧ v.isInt = b ∧ (k == 1) = b ∧ v.len ≤ t.size := by
  rcases va_cases k n t with ⟨hm, hv⟩ | ⟨rfl, rfl, rfl⟩ | ⟨rfl, rfl⟩ | ⟨rfl, rfl, hm, hv⟩
  · rw [h] at hm; cases hm
  · exact ⟨.none, _, false, by decide, rfl, rfl, rfl, rfl, rfl, Nat.zero_le _⟩
  · exact ⟨.num n, _, true, of_num n, rfl, rfl, rfl, rfl, rfl, Nat.zero_le _⟩
  · exact ⟨.txt t, _, false, hv, rfl, rfl, rfl, rfl, rfl, Nat.le_refl _⟩
theorem bytes_ne {t u : ByteArray} (h : ¬ t = u) : ¬ t.data.toList = u.data.toList := fun e => h (by
  cases t; cases u; congr 1; exact Array.toList_inj.1 e)
theorem bytes_beq2 (a b : ByteArray) : (a == b) = true ↔ a = b := by
  cases a; cases b
  show ((_ : Array UInt8) == _) = true ↔ _
  rw [beq_iff_eq, ByteArray.mk.injEq]
theorem eqV_num {m n : Int} (h : ¬ m = n) : eqV (.num m) (.num n) = false := by simp [eqV, h]
theorem eqR_num {m n : Int} (h : ¬ m = n) : eqR ⟨1, m, ⟨#[]⟩⟩ ⟨1, n, ⟨#[]⟩⟩ = false := by simp [eqR, h]
theorem eqV_txt {t u : ByteArray} (h : ¬ t = u) : eqV (.txt t) (.txt u) = false := by
  show (t == u) = false
  cases hc : (t == u)
  · rfl
  · exact absurd ((bytes_beq2 t u).1 hc) h
theorem eqR_txt {t u : ByteArray} (h : ¬ t = u) : eqR ⟨2, 0, t⟩ ⟨2, 0, u⟩ = false := by
  unfold eqR
  have : (t.data.toList == u.data.toList) = false := by rw [beq_eq_false_iff_ne]; exact bytes_ne h
  simp only [this, Bool.and_false]
theorem eqV_self (v : Va) : eqV v v = true := by
  cases v with
  | none => rfl
  | num n => simp [eqV]
  | txt s => exact (bytes_beq2 s s).2 rfl
theorem eqR_self (r : Raw) : eqR r r = true := by simp [eqR]
theorem eqR_kind (a b : Raw) (h : (a.kind == b.kind) = false) : eqR a b = false := by unfold eqR; rw [h]; rfl
/-- what was below stands behind one more call -/
theorem Below.next {w a b c : World} (h : Below w.heap.size w a) (hb : Below a.heap.size a b) (hc : Below b.heap.size b c) : Below w.heap.size w c :=
  h.trans ((hb.mono h.size).trans (hc.mono (Nat.le_trans h.size hb.size)))
end Go.Proofs.Ytegkhkcnoahhdaa
