/-
  Package value's Get reads a value as the plain function says, whatever the bytes.
  The bytes are there in memory, at most 1,000,000.
-/
import Derived.Test.YtdhppekfehbngaaVaMay
import Derived.Test.YtdhppekfehbngaaNuGetText
import Derived.Test.YtdhppekfehbngaaReGetRaw
set_option linter.unusedSimpArgs false
set_option linter.unusedVariables false
namespace Go.Proofs.Ytdhppekfehbngaa
open Go.RowKit
set_option maxRecDepth 100000

theorem nget_b (A : Option Addr) (n c B : Nat) (l : List UInt8) (w : World) (h : Byt w B (.slice A n c) l) (hl : l.length ≤ 1000000) : Calls Try.prog 54 #[.slice A n c] w (GotN (Nu.get l) w) := by
  obtain rfl : n = l.length := by obtain ⟨A', c', hv, _⟩ := h; injection hv
  exact nget_any A c B l w h hl
theorem ngetText_b (A : Option Addr) (n c B : Nat) (l : List UInt8) (w : World) (h : Byt w B (.slice A n c) l) (hl : l.length ≤ 1000000) : Calls Try.prog 61 #[.slice A n c] w (GotT (Nu.getT l) w) := by
  obtain rfl : n = l.length := by obtain ⟨A', c', hv, _⟩ := h; injection hv
  exact ngetText_any A c B l w h hl
theorem vmay_is (v : Value) (r : Raw) (b : Bool) (w : World) (hv : v = r.val) (hs : r.s.size ≤ 1000000) (h : mayR r = b) : Calls Try.prog 50 #[v] w (Bl b w) := by
  rw [hv, ← h]; exact vmay_any r w hs
set_option maxHeartbeats 400000 in
theorem vget_err (A : Option Addr) (n c B : Nat) (l : List UInt8) (w : World) (h : Byt w B (.slice A n c) l) (hB : B ≤ w.heap.size) (hl : l.length ≤ 1000000) (k : Int) (j e : Nat) (hg : Nu.get l = (k, j, e)) (he : e ≠ 0) :
    Calls Try.prog 62 #[.slice A n c] w (GotR (noRaw, 0, e) w) := by
  have hne : ((e : Int) != 0) = true := by rw [bne_iff_ne]; omega
  have hget := fun (W : World) (hW : Below w.heap.size w W) => nget_b A n c B l W (h.below hW hB) hl
  rw [hg] at hget
  have HG := Lib.hid hget; clear hget hg
  have HE := Lib.hid he; clear he
  go_enter Try.func62, Try.ntmps62
  go_wp2_with fail
  refine (HG.out _ ?_).mono ?_
  exact below_one _ _
  rintro e w' ⟨rfl, rfl⟩
  go_wp2
  exact bodyPost_ret (v := .tuple #[noRaw.val, .int .i64 0, .int .i64 e]) (by simp [results, Try.results62, go_sem, noRaw, Raw.val]) rfl ⟨rfl, below_one _ _⟩
set_option maxHeartbeats 400000 in
theorem vget_xtrue (A : Option Addr) (n c B : Nat) (l : List UInt8) (w : World) (h : Byt w B (.slice A n c) l) (hB : B ≤ w.heap.size) (hl : l.length ≤ 1000000) (k : Int) (j : Nat) (hg : Nu.get l = (k, j, 0)) (h1 : k ≠ 1) (h2 : k ≠ 2) (hm : mayR ⟨k, 0, ⟨#[]⟩⟩ = true) :
    Calls Try.prog 62 #[.slice A n c] w (GotR (⟨k, 0, ⟨#[]⟩⟩, j, 0) w) := by
  have hget := fun (W : World) (hW : Below w.heap.size w W) => nget_b A n c B l W (h.below hW hB) hl
  rw [hg] at hget
  have hjl : j ≤ 1000000 := by have := Nu.get_len l; rw [hg] at this; simp only at this; omega
  have k1 : (k == 1) = false := by rw [beq_eq_false_iff_ne]; exact h1
  have k2 : (k == 2) = false := by rw [beq_eq_false_iff_ne]; exact h2
  have HM := Lib.hid hm; clear hm
  have HG := Lib.hid hget; clear hget hg h1 h2
  go_enter Try.func62, Try.ntmps62
  go_wp2_with fail
  refine (HG.out _ ?_).mono ?_
  exact below_one _ _
  rintro e w' ⟨rfl, rfl⟩
  go_wp2_with fail
  refine (vmay_is _ ⟨k, 0, ⟨#[]⟩⟩ true _ rfl (Nat.zero_le _) HM.out).mono ?_
  rintro e w1 ⟨rfl, hb⟩
  have p0 : w1.cell? ⟨w.heap.size, 0, none⟩ = some (.int .i64 0) := (hb.cell (p := ⟨w.heap.size, 0, none⟩) (by simp; omega)).trans (by go_simp)
  have p1 : w1.cell? ⟨w.heap.size, 1, none⟩ = some (.int .i64 0) := (hb.cell (p := ⟨w.heap.size, 1, none⟩) (by simp; omega)).trans (by go_simp)
  have p2 : w1.cell? ⟨w.heap.size, 2, none⟩ = some (.string ⟨#[]⟩) := (hb.cell (p := ⟨w.heap.size, 2, none⟩) (by simp; omega)).trans (by go_simp)
  have f0 : w1.frozen? ⟨w.heap.size, 0, none⟩ = false := (hb.frozen (p := ⟨w.heap.size, 0, none⟩) (by simp; omega)).trans (by go_simp)
  have f1 : w1.frozen? ⟨w.heap.size, 1, none⟩ = false := (hb.frozen (p := ⟨w.heap.size, 1, none⟩) (by simp; omega)).trans (by go_simp)
  have f2 : w1.frozen? ⟨w.heap.size, 2, none⟩ = false := (hb.frozen (p := ⟨w.heap.size, 2, none⟩) (by simp; omega)).trans (by go_simp)
  have q0 : w1.cell? ⟨w.heap.size + 1, 0, none⟩ = some (.int .i64 k) := (hb.cell (p := ⟨w.heap.size + 1, 0, none⟩) (by simp)).trans (by go_simp)
  have q1 : w1.cell? ⟨w.heap.size + 1, 1, none⟩ = some (.int .i64 0) := (hb.cell (p := ⟨w.heap.size + 1, 1, none⟩) (by simp)).trans (by go_simp)
  have q2 : w1.cell? ⟨w.heap.size + 1, 2, none⟩ = some (.string ⟨#[]⟩) := (hb.cell (p := ⟨w.heap.size + 1, 2, none⟩) (by simp)).trans (by go_simp)
  have hbw : Below w.heap.size w w1 := (below_two w _ _).trans (hb.mono (by simp; omega))
  clear hb
  go_wp2
  exact bodyPost_ret (v := .tuple #[(Raw.mk k 0 ⟨#[]⟩).val, .int .i64 (j : Int), .int .i64 0]) (by simp [results, Try.results62, go_sem, Raw.val, p0, p1, p2]) rfl ⟨rfl, ((hbw.setCell (Nat.le_refl _) _).setCell (Nat.le_refl _) _).setCell (Nat.le_refl _) _⟩
set_option maxHeartbeats 400000 in
theorem vget_xfalse (A : Option Addr) (n c B : Nat) (l : List UInt8) (w : World) (h : Byt w B (.slice A n c) l) (hB : B ≤ w.heap.size) (hl : l.length ≤ 1000000) (k : Int) (j : Nat) (hg : Nu.get l = (k, j, 0)) (h1 : k ≠ 1) (h2 : k ≠ 2) (hm : mayR ⟨k, 0, ⟨#[]⟩⟩ = false) :
    Calls Try.prog 62 #[.slice A n c] w (GotR (noRaw, 0, 1) w) := by
  have hget := fun (W : World) (hW : Below w.heap.size w W) => nget_b A n c B l W (h.below hW hB) hl
  rw [hg] at hget
  have hjl : j ≤ 1000000 := by have := Nu.get_len l; rw [hg] at this; simp only at this; omega
  have k1 : (k == 1) = false := by rw [beq_eq_false_iff_ne]; exact h1
  have k2 : (k == 2) = false := by rw [beq_eq_false_iff_ne]; exact h2
  have HM := Lib.hid hm; clear hm
  have HG := Lib.hid hget; clear hget hg h1 h2
  go_enter Try.func62, Try.ntmps62
  go_wp2_with fail
  refine (HG.out _ ?_).mono ?_
  exact below_one _ _
  rintro e w' ⟨rfl, rfl⟩
  go_wp2_with fail
  refine (vmay_is _ ⟨k, 0, ⟨#[]⟩⟩ false _ rfl (Nat.zero_le _) HM.out).mono ?_
  rintro e w1 ⟨rfl, hb⟩
  have p0 : w1.cell? ⟨w.heap.size, 0, none⟩ = some (.int .i64 0) := (hb.cell (p := ⟨w.heap.size, 0, none⟩) (by simp; omega)).trans (by go_simp)
  have p1 : w1.cell? ⟨w.heap.size, 1, none⟩ = some (.int .i64 0) := (hb.cell (p := ⟨w.heap.size, 1, none⟩) (by simp; omega)).trans (by go_simp)
  have p2 : w1.cell? ⟨w.heap.size, 2, none⟩ = some (.string ⟨#[]⟩) := (hb.cell (p := ⟨w.heap.size, 2, none⟩) (by simp; omega)).trans (by go_simp)
  have f0 : w1.frozen? ⟨w.heap.size, 0, none⟩ = false := (hb.frozen (p := ⟨w.heap.size, 0, none⟩) (by simp; omega)).trans (by go_simp)
  have f1 : w1.frozen? ⟨w.heap.size, 1, none⟩ = false := (hb.frozen (p := ⟨w.heap.size, 1, none⟩) (by simp; omega)).trans (by go_simp)
  have f2 : w1.frozen? ⟨w.heap.size, 2, none⟩ = false := (hb.frozen (p := ⟨w.heap.size, 2, none⟩) (by simp; omega)).trans (by go_simp)
  have q0 : w1.cell? ⟨w.heap.size + 1, 0, none⟩ = some (.int .i64 k) := (hb.cell (p := ⟨w.heap.size + 1, 0, none⟩) (by simp)).trans (by go_simp)
  have q1 : w1.cell? ⟨w.heap.size + 1, 1, none⟩ = some (.int .i64 0) := (hb.cell (p := ⟨w.heap.size + 1, 1, none⟩) (by simp)).trans (by go_simp)
  have q2 : w1.cell? ⟨w.heap.size + 1, 2, none⟩ = some (.string ⟨#[]⟩) := (hb.cell (p := ⟨w.heap.size + 1, 2, none⟩) (by simp)).trans (by go_simp)
  have hbw : Below w.heap.size w w1 := (below_two w _ _).trans (hb.mono (by simp; omega))
  clear hb
  go_wp2
  exact bodyPost_ret (v := .tuple #[noRaw.val, .int .i64 0, .int .i64 1]) (by simp [results, Try.results62, go_sem, noRaw, Raw.val, p0, p1, p2]) rfl ⟨rfl, ((hbw.setCell (Nat.le_refl _) _).setCell (Nat.le_refl _) _).setCell (Nat.le_refl _) _⟩
set_option maxHeartbeats 400000 in
theorem vget_1e (A : Option Addr) (n c B : Nat) (l : List UInt8) (w : World) (h : Byt w B (.slice A n c) l) (hB : B ≤ w.heap.size) (hl : l.length ≤ 1000000) (j : Nat) (m : Int) (i e : Nat) (hg : Nu.get l = (1, j, 0)) (hi : Nu.get (l.drop j) = (m, i, e)) (he : e ≠ 0) :
    Calls Try.prog 62 #[.slice A n c] w (GotR (noRaw, 0, e) w) := by
  have hget := fun (W : World) (hW : Below w.heap.size w W) => nget_b A n c B l W (h.below hW hB) hl
  rw [hg] at hget
  have hjl : j ≤ l.length := by have := Nu.get_len l; rw [hg] at this; exact this
  have hj1 : 1 ≤ j := by have := Nu.get_pos l; rw [hg] at this; exact this rfl
  obtain ⟨A', c', hv, hc, hcell⟩ := id h
  injection hv with e1 e2 e3; subst e1; subst e3
  obtain ⟨g, o, rfl, hgB, _⟩ := hcell (by omega)
  clear hcell
  rw [e2] at h
  have hcut := h.cut hjl
  subst e2
  have HG := Lib.hid hget; clear hget
  have hne : ((e : Int) == 0) = false := by rw [beq_eq_false_iff_ne]; omega
  have hne2 : ((e : Int) != 0) = true := by rw [bne_iff_ne]; omega
  have HE := Lib.hid he; clear he
  by_cases hcap : c = j
  · subst hcap
    have hcl : Byt w B (.slice (some ⟨g, o, Option.none⟩) 0 0) (l.drop c) := by
      rw [List.drop_of_length_le hc]; exact ⟨_, 0, rfl, Nat.le_refl _, fun h => absurd h (by simp)⟩
    clear hcut
    have hin := fun (W : World) (hW : Below w.heap.size w W) => nget_b _ _ _ B (l.drop c) W (hcl.below hW hB) (by rw [List.length_drop]; omega)
    rw [hi] at hin
    have HI := Lib.hid hin; clear hin hcl
    go_enter Try.func62, Try.ntmps62
    go_wp2_with fail
    refine (HG.out _ ?_).mono ?_
    exact below_one _ _
    rintro e w' ⟨rfl, rfl⟩
    go_wp2_with fail
    refine (HI.out _ ?_).mono ?_
    exact below_two _ _ _
    rintro e w' ⟨rfl, rfl⟩
    go_wp2
    exact bodyPost_ret (v := .tuple #[noRaw.val, .int .i64 0, .int .i64 e]) (by simp [results, Try.results62, go_sem, noRaw, Raw.val]) rfl ⟨rfl, below_two _ _ _⟩
  · rw [if_neg hcap, add_lit] at hcut
    have hcl := hcut; clear hcut
    have hin := fun (W : World) (hW : Below w.heap.size w W) => nget_b _ _ _ B (l.drop j) W (hcl.below hW hB) (by rw [List.length_drop]; omega)
    rw [hi] at hin
    have HI := Lib.hid hin; clear hin hcl
    go_enter Try.func62, Try.ntmps62
    go_wp2_with fail
    refine (HG.out _ ?_).mono ?_
    exact below_one _ _
    rintro e w' ⟨rfl, rfl⟩
    go_wp2_with fail
    refine (HI.out _ ?_).mono ?_
    exact below_two _ _ _
    rintro e w' ⟨rfl, rfl⟩
    go_wp2
    exact bodyPost_ret (v := .tuple #[noRaw.val, .int .i64 0, .int .i64 e]) (by simp [results, Try.results62, go_sem, noRaw, Raw.val]) rfl ⟨rfl, below_two _ _ _⟩
set_option maxHeartbeats 400000 in
theorem vget_1ok (A : Option Addr) (n c B : Nat) (l : List UInt8) (w : World) (h : Byt w B (.slice A n c) l) (hB : B ≤ w.heap.size) (hl : l.length ≤ 1000000) (j : Nat) (m : Int) (i : Nat)  (hg : Nu.get l = (1, j, 0)) (hi : Nu.get (l.drop j) = (m, i, 0)) :
    Calls Try.prog 62 #[.slice A n c] w (GotR (⟨1, m, ⟨#[]⟩⟩, j + i, 0) w) := by
  have hget := fun (W : World) (hW : Below w.heap.size w W) => nget_b A n c B l W (h.below hW hB) hl
  rw [hg] at hget
  have hjl : j ≤ l.length := by have := Nu.get_len l; rw [hg] at this; exact this
  have hj1 : 1 ≤ j := by have := Nu.get_pos l; rw [hg] at this; exact this rfl
  obtain ⟨A', c', hv, hc, hcell⟩ := id h
  injection hv with e1 e2 e3; subst e1; subst e3
  obtain ⟨g, o, rfl, hgB, _⟩ := hcell (by omega)
  clear hcell
  rw [e2] at h
  have hcut := h.cut hjl
  subst e2
  have HG := Lib.hid hget; clear hget
  have hil : i ≤ l.length := by
    have h1 := Nu.get_len (l.drop j); rw [hi] at h1; rw [List.length_drop] at h1; simp only at h1; omega
  have hcap : ¬ c = j := by
    intro e; subst e
    rw [List.drop_of_length_le hc] at hi
    simp [Nu.get, Nu.getF] at hi
  rw [if_neg hcap, add_lit] at hcut
  have hcl := hcut; clear hcut
  have hin := fun (W : World) (hW : Below w.heap.size w W) => nget_b _ _ _ B (l.drop j) W (hcl.below hW hB) (by rw [List.length_drop]; omega)
  rw [hi] at hin
  have HI := Lib.hid hin; clear hin hcl
  go_enter Try.func62, Try.ntmps62
  go_wp2_with fail
  refine (HG.out _ ?_).mono ?_
  exact below_one _ _
  rintro e w' ⟨rfl, rfl⟩
  go_wp2_with fail
  refine (HI.out _ ?_).mono ?_
  exact below_two _ _ _
  rintro e w' ⟨rfl, rfl⟩
  go_wp2_with fail
  refine (vmay_is _ ⟨1, m, ⟨#[]⟩⟩ true _ rfl (by show 0 ≤ 1000000; omega) (by unfold mayR; simp)).mono ?_
  rintro e w1 ⟨rfl, hb⟩
  have p0 : w1.cell? ⟨w.heap.size, 0, none⟩ = some (.int .i64 0) := (hb.cell (p := ⟨w.heap.size, 0, none⟩) (by simp; omega)).trans (by go_simp)
  have p1 : w1.cell? ⟨w.heap.size, 1, none⟩ = some (.int .i64 0) := (hb.cell (p := ⟨w.heap.size, 1, none⟩) (by simp; omega)).trans (by go_simp)
  have p2 : w1.cell? ⟨w.heap.size, 2, none⟩ = some (.string ⟨#[]⟩) := (hb.cell (p := ⟨w.heap.size, 2, none⟩) (by simp; omega)).trans (by go_simp)
  have f0 : w1.frozen? ⟨w.heap.size, 0, none⟩ = false := (hb.frozen (p := ⟨w.heap.size, 0, none⟩) (by simp; omega)).trans (by go_simp)
  have f1 : w1.frozen? ⟨w.heap.size, 1, none⟩ = false := (hb.frozen (p := ⟨w.heap.size, 1, none⟩) (by simp; omega)).trans (by go_simp)
  have f2 : w1.frozen? ⟨w.heap.size, 2, none⟩ = false := (hb.frozen (p := ⟨w.heap.size, 2, none⟩) (by simp; omega)).trans (by go_simp)
  have q0 : w1.cell? ⟨w.heap.size + 1, 0, none⟩ = some (.int .i64 1) := (hb.cell (p := ⟨w.heap.size + 1, 0, none⟩) (by simp)).trans (by go_simp)
  have q1 : w1.cell? ⟨w.heap.size + 1, 1, none⟩ = some (.int .i64 m) := (hb.cell (p := ⟨w.heap.size + 1, 1, none⟩) (by simp)).trans (by go_simp)
  have q2 : w1.cell? ⟨w.heap.size + 1, 2, none⟩ = some (.string ⟨#[]⟩) := (hb.cell (p := ⟨w.heap.size + 1, 2, none⟩) (by simp)).trans (by go_simp)
  have hbw : Below w.heap.size w w1 := (below_two w _ _).trans (hb.mono (by simp; omega))
  clear hb
  go_wp2
  exact bodyPost_ret (v := .tuple #[(Raw.mk 1 m ⟨#[]⟩).val, .int .i64 ((j : Int) + i), .int .i64 0]) (by simp [results, Try.results62, go_sem, Raw.val, p0, p1, p2]) rfl ⟨rfl, ((hbw.setCell (Nat.le_refl _) _).setCell (Nat.le_refl _) _).setCell (Nat.le_refl _) _⟩
set_option maxHeartbeats 400000 in
theorem vget_2e (A : Option Addr) (n c B : Nat) (l : List UInt8) (w : World) (h : Byt w B (.slice A n c) l) (hB : B ≤ w.heap.size) (hl : l.length ≤ 1000000) (j : Nat) (m : List UInt8) (i e : Nat) (hg : Nu.get l = (2, j, 0)) (hi : Nu.getT (l.drop j) = (m, i, e)) (he : e ≠ 0) :
    Calls Try.prog 62 #[.slice A n c] w (GotR (noRaw, 0, e) w) := by
  have hget := fun (W : World) (hW : Below w.heap.size w W) => nget_b A n c B l W (h.below hW hB) hl
  rw [hg] at hget
  have hjl : j ≤ l.length := by have := Nu.get_len l; rw [hg] at this; exact this
  have hj1 : 1 ≤ j := by have := Nu.get_pos l; rw [hg] at this; exact this rfl
  obtain ⟨A', c', hv, hc, hcell⟩ := id h
  injection hv with e1 e2 e3; subst e1; subst e3
  obtain ⟨g, o, rfl, hgB, _⟩ := hcell (by omega)
  clear hcell
  rw [e2] at h
  have hcut := h.cut hjl
  subst e2
  have HG := Lib.hid hget; clear hget
  have hne : ((e : Int) == 0) = false := by rw [beq_eq_false_iff_ne]; omega
  have hne2 : ((e : Int) != 0) = true := by rw [bne_iff_ne]; omega
  have HE := Lib.hid he; clear he
  by_cases hcap : c = j
  · subst hcap
    have hcl : Byt w B (.slice (some ⟨g, o, Option.none⟩) 0 0) (l.drop c) := by
      rw [List.drop_of_length_le hc]; exact ⟨_, 0, rfl, Nat.le_refl _, fun h => absurd h (by simp)⟩
    clear hcut
    have hin := fun (W : World) (hW : Below w.heap.size w W) => ngetText_b _ _ _ B (l.drop c) W (hcl.below hW hB) (by rw [List.length_drop]; omega)
    rw [hi] at hin
    have HI := Lib.hid hin; clear hin hcl
    go_enter Try.func62, Try.ntmps62
    go_wp2_with fail
    refine (HG.out _ ?_).mono ?_
    exact below_one _ _
    rintro e w' ⟨rfl, rfl⟩
    go_wp2_with fail
    refine (HI.out _ ?_).mono ?_
    exact below_two _ _ _
    rintro e w' ⟨rfl, rfl⟩
    go_wp2
    exact bodyPost_ret (v := .tuple #[noRaw.val, .int .i64 0, .int .i64 e]) (by simp [results, Try.results62, go_sem, noRaw, Raw.val]) rfl ⟨rfl, below_two _ _ _⟩
  · rw [if_neg hcap, add_lit] at hcut
    have hcl := hcut; clear hcut
    have hin := fun (W : World) (hW : Below w.heap.size w W) => ngetText_b _ _ _ B (l.drop j) W (hcl.below hW hB) (by rw [List.length_drop]; omega)
    rw [hi] at hin
    have HI := Lib.hid hin; clear hin hcl
    go_enter Try.func62, Try.ntmps62
    go_wp2_with fail
    refine (HG.out _ ?_).mono ?_
    exact below_one _ _
    rintro e w' ⟨rfl, rfl⟩
    go_wp2_with fail
    refine (HI.out _ ?_).mono ?_
    exact below_two _ _ _
    rintro e w' ⟨rfl, rfl⟩
    go_wp2
    exact bodyPost_ret (v := .tuple #[noRaw.val, .int .i64 0, .int .i64 e]) (by simp [results, Try.results62, go_sem, noRaw, Raw.val]) rfl ⟨rfl, below_two _ _ _⟩
set_option maxHeartbeats 400000 in
theorem vget_2ok (A : Option Addr) (n c B : Nat) (l : List UInt8) (w : World) (h : Byt w B (.slice A n c) l) (hB : B ≤ w.heap.size) (hl : l.length ≤ 1000000) (j : Nat) (m : List UInt8) (i : Nat) (hm : (Ru.vld m && decide (m.length ≤ 200)) = true) (hg : Nu.get l = (2, j, 0)) (hi : Nu.getT (l.drop j) = (m, i, 0)) :
    Calls Try.prog 62 #[.slice A n c] w (GotR (⟨2, 0, ⟨m.toArray⟩⟩, j + i, 0) w) := by
  have hget := fun (W : World) (hW : Below w.heap.size w W) => nget_b A n c B l W (h.below hW hB) hl
  rw [hg] at hget
  have hjl : j ≤ l.length := by have := Nu.get_len l; rw [hg] at this; exact this
  have hj1 : 1 ≤ j := by have := Nu.get_pos l; rw [hg] at this; exact this rfl
  obtain ⟨A', c', hv, hc, hcell⟩ := id h
  injection hv with e1 e2 e3; subst e1; subst e3
  obtain ⟨g, o, rfl, hgB, _⟩ := hcell (by omega)
  clear hcell
  rw [e2] at h
  have hcut := h.cut hjl
  subst e2
  have HG := Lib.hid hget; clear hget
  have hml : (⟨m.toArray⟩ : ByteArray).size ≤ 1000000 := by
    have h1 := getT_le (l.drop j); rw [hi] at h1
    rw [List.length_drop] at h1
    show m.length ≤ 1000000
    simp only at h1; omega
  have hmay : mayR ⟨2, 0, ⟨m.toArray⟩⟩ = true := by
    rw [← hm]; unfold mayR; simp; rfl
  have HMAY := Lib.hid hmay; clear hmay hm
  have hil : i ≤ l.length := by
    have h1 := getT_len (l.drop j); rw [hi] at h1; rw [List.length_drop] at h1; simp only at h1; omega
  have hcap : ¬ c = j := by
    intro e; subst e
    rw [List.drop_of_length_le hc] at hi
    simp [Nu.get, Nu.getF, Nu.getT] at hi
  rw [if_neg hcap, add_lit] at hcut
  have hcl := hcut; clear hcut
  have hin := fun (W : World) (hW : Below w.heap.size w W) => ngetText_b _ _ _ B (l.drop j) W (hcl.below hW hB) (by rw [List.length_drop]; omega)
  rw [hi] at hin
  have HI := Lib.hid hin; clear hin hcl
  go_enter Try.func62, Try.ntmps62
  go_wp2_with fail
  refine (HG.out _ ?_).mono ?_
  exact below_one _ _
  rintro e w' ⟨rfl, rfl⟩
  go_wp2_with fail
  refine (HI.out _ ?_).mono ?_
  exact below_two _ _ _
  rintro e w' ⟨rfl, rfl⟩
  go_wp2_with fail
  refine (vmay_is _ ⟨2, 0, ⟨m.toArray⟩⟩ true _ rfl (hml) (HMAY.out)).mono ?_
  rintro e w1 ⟨rfl, hb⟩
  have p0 : w1.cell? ⟨w.heap.size, 0, none⟩ = some (.int .i64 0) := (hb.cell (p := ⟨w.heap.size, 0, none⟩) (by simp; omega)).trans (by go_simp)
  have p1 : w1.cell? ⟨w.heap.size, 1, none⟩ = some (.int .i64 0) := (hb.cell (p := ⟨w.heap.size, 1, none⟩) (by simp; omega)).trans (by go_simp)
  have p2 : w1.cell? ⟨w.heap.size, 2, none⟩ = some (.string ⟨#[]⟩) := (hb.cell (p := ⟨w.heap.size, 2, none⟩) (by simp; omega)).trans (by go_simp)
  have f0 : w1.frozen? ⟨w.heap.size, 0, none⟩ = false := (hb.frozen (p := ⟨w.heap.size, 0, none⟩) (by simp; omega)).trans (by go_simp)
  have f1 : w1.frozen? ⟨w.heap.size, 1, none⟩ = false := (hb.frozen (p := ⟨w.heap.size, 1, none⟩) (by simp; omega)).trans (by go_simp)
  have f2 : w1.frozen? ⟨w.heap.size, 2, none⟩ = false := (hb.frozen (p := ⟨w.heap.size, 2, none⟩) (by simp; omega)).trans (by go_simp)
  have q0 : w1.cell? ⟨w.heap.size + 1, 0, none⟩ = some (.int .i64 2) := (hb.cell (p := ⟨w.heap.size + 1, 0, none⟩) (by simp)).trans (by go_simp)
  have q1 : w1.cell? ⟨w.heap.size + 1, 1, none⟩ = some (.int .i64 0) := (hb.cell (p := ⟨w.heap.size + 1, 1, none⟩) (by simp)).trans (by go_simp)
  have q2 : w1.cell? ⟨w.heap.size + 1, 2, none⟩ = some (.string ⟨m.toArray⟩) := (hb.cell (p := ⟨w.heap.size + 1, 2, none⟩) (by simp)).trans (by go_simp)
  have hbw : Below w.heap.size w w1 := (below_two w _ _).trans (hb.mono (by simp; omega))
  clear hb
  go_wp2
  exact bodyPost_ret (v := .tuple #[(Raw.mk 2 0 ⟨m.toArray⟩).val, .int .i64 ((j : Int) + i), .int .i64 0]) (by simp [results, Try.results62, go_sem, Raw.val, p0, p1, p2]) rfl ⟨rfl, ((hbw.setCell (Nat.le_refl _) _).setCell (Nat.le_refl _) _).setCell (Nat.le_refl _) _⟩
set_option maxHeartbeats 400000 in
theorem vget_2bok (A : Option Addr) (n c B : Nat) (l : List UInt8) (w : World) (h : Byt w B (.slice A n c) l) (hB : B ≤ w.heap.size) (hl : l.length ≤ 1000000) (j : Nat) (m : List UInt8) (i : Nat) (hm : (Ru.vld m && decide (m.length ≤ 200)) = false) (hg : Nu.get l = (2, j, 0)) (hi : Nu.getT (l.drop j) = (m, i, 0)) :
    Calls Try.prog 62 #[.slice A n c] w (GotR (noRaw, 0, 1) w) := by
  have hget := fun (W : World) (hW : Below w.heap.size w W) => nget_b A n c B l W (h.below hW hB) hl
  rw [hg] at hget
  have hjl : j ≤ l.length := by have := Nu.get_len l; rw [hg] at this; exact this
  have hj1 : 1 ≤ j := by have := Nu.get_pos l; rw [hg] at this; exact this rfl
  obtain ⟨A', c', hv, hc, hcell⟩ := id h
  injection hv with e1 e2 e3; subst e1; subst e3
  obtain ⟨g, o, rfl, hgB, _⟩ := hcell (by omega)
  clear hcell
  rw [e2] at h
  have hcut := h.cut hjl
  subst e2
  have HG := Lib.hid hget; clear hget
  have hml : (⟨m.toArray⟩ : ByteArray).size ≤ 1000000 := by
    have h1 := getT_le (l.drop j); rw [hi] at h1
    rw [List.length_drop] at h1
    show m.length ≤ 1000000
    simp only at h1; omega
  have hmay : mayR ⟨2, 0, ⟨m.toArray⟩⟩ = false := by
    rw [← hm]; unfold mayR; simp; rfl
  have HMAY := Lib.hid hmay; clear hmay hm
  have hil : i ≤ l.length := by
    have h1 := getT_len (l.drop j); rw [hi] at h1; rw [List.length_drop] at h1; simp only at h1; omega
  have hcap : ¬ c = j := by
    intro e; subst e
    rw [List.drop_of_length_le hc] at hi
    simp [Nu.get, Nu.getF, Nu.getT] at hi
  rw [if_neg hcap, add_lit] at hcut
  have hcl := hcut; clear hcut
  have hin := fun (W : World) (hW : Below w.heap.size w W) => ngetText_b _ _ _ B (l.drop j) W (hcl.below hW hB) (by rw [List.length_drop]; omega)
  rw [hi] at hin
  have HI := Lib.hid hin; clear hin hcl
  go_enter Try.func62, Try.ntmps62
  go_wp2_with fail
  refine (HG.out _ ?_).mono ?_
  exact below_one _ _
  rintro e w' ⟨rfl, rfl⟩
  go_wp2_with fail
  refine (HI.out _ ?_).mono ?_
  exact below_two _ _ _
  rintro e w' ⟨rfl, rfl⟩
  go_wp2_with fail
  refine (vmay_is _ ⟨2, 0, ⟨m.toArray⟩⟩ false _ rfl (hml) (HMAY.out)).mono ?_
  rintro e w1 ⟨rfl, hb⟩
  have p0 : w1.cell? ⟨w.heap.size, 0, none⟩ = some (.int .i64 0) := (hb.cell (p := ⟨w.heap.size, 0, none⟩) (by simp; omega)).trans (by go_simp)
  have p1 : w1.cell? ⟨w.heap.size, 1, none⟩ = some (.int .i64 0) := (hb.cell (p := ⟨w.heap.size, 1, none⟩) (by simp; omega)).trans (by go_simp)
  have p2 : w1.cell? ⟨w.heap.size, 2, none⟩ = some (.string ⟨#[]⟩) := (hb.cell (p := ⟨w.heap.size, 2, none⟩) (by simp; omega)).trans (by go_simp)
  have f0 : w1.frozen? ⟨w.heap.size, 0, none⟩ = false := (hb.frozen (p := ⟨w.heap.size, 0, none⟩) (by simp; omega)).trans (by go_simp)
  have f1 : w1.frozen? ⟨w.heap.size, 1, none⟩ = false := (hb.frozen (p := ⟨w.heap.size, 1, none⟩) (by simp; omega)).trans (by go_simp)
  have f2 : w1.frozen? ⟨w.heap.size, 2, none⟩ = false := (hb.frozen (p := ⟨w.heap.size, 2, none⟩) (by simp; omega)).trans (by go_simp)
  have q0 : w1.cell? ⟨w.heap.size + 1, 0, none⟩ = some (.int .i64 2) := (hb.cell (p := ⟨w.heap.size + 1, 0, none⟩) (by simp)).trans (by go_simp)
  have q1 : w1.cell? ⟨w.heap.size + 1, 1, none⟩ = some (.int .i64 0) := (hb.cell (p := ⟨w.heap.size + 1, 1, none⟩) (by simp)).trans (by go_simp)
  have q2 : w1.cell? ⟨w.heap.size + 1, 2, none⟩ = some (.string ⟨m.toArray⟩) := (hb.cell (p := ⟨w.heap.size + 1, 2, none⟩) (by simp)).trans (by go_simp)
  have hbw : Below w.heap.size w w1 := (below_two w _ _).trans (hb.mono (by simp; omega))
  clear hb
  go_wp2
  exact bodyPost_ret (v := .tuple #[noRaw.val, .int .i64 0, .int .i64 1]) (by simp [results, Try.results62, go_sem, noRaw, Raw.val, p0, p1, p2]) rfl ⟨rfl, ((hbw.setCell (Nat.le_refl _) _).setCell (Nat.le_refl _) _).setCell (Nat.le_refl _) _⟩

theorem mayR_0 : mayR ⟨0, 0, ⟨#[]⟩⟩ = true := by decide
theorem mayR_x (k : Int) (h0 : k ≠ 0) (h1 : k ≠ 1) (h2 : k ≠ 2) : mayR ⟨k, 0, ⟨#[]⟩⟩ = false := by unfold mayR; simp [h0, h1, h2]
theorem vget_any (A : Option Addr) (n c B : Nat) (l : List UInt8) (w : World) (h : Byt w B (.slice A n c) l) (hB : B ≤ w.heap.size) (hl : l.length ≤ 1000000) :
    Calls Try.prog 62 #[.slice A n c] w (GotR (getR l) w) := by
  obtain ⟨⟨k, j, e⟩, hg⟩ : ∃ r, Nu.get l = r := ⟨_, rfl⟩
  by_cases he : e = 0
  · subst he
    by_cases h0 : k = 0
    · subst h0; rw [getR_0 l j hg]; exact vget_xtrue A n c B l w h hB hl 0 j hg (by decide) (by decide) mayR_0
    · by_cases h1 : k = 1
      · subst h1
        obtain ⟨⟨m, i, e⟩, hi⟩ : ∃ r, Nu.get (l.drop j) = r := ⟨_, rfl⟩
        by_cases he : e = 0
        · subst he; rw [getR_1 l j m i hg hi]; exact vget_1ok A n c B l w h hB hl j m i hg hi
        · rw [getR_1e l j m i e hg hi he]; exact vget_1e A n c B l w h hB hl j m i e hg hi he
      · by_cases h2 : k = 2
        · subst h2
          obtain ⟨⟨m, i, e⟩, hi⟩ : ∃ r, Nu.getT (l.drop j) = r := ⟨_, rfl⟩
          by_cases he : e = 0
          · subst he; rw [getR_2 l j m i hg hi]
            cases hm : (Ru.vld m && decide (m.length ≤ 200))
            · exact vget_2bok A n c B l w h hB hl j m i hm hg hi
            · exact vget_2ok A n c B l w h hB hl j m i hm hg hi
          · rw [getR_2e l j m i e hg hi he]; exact vget_2e A n c B l w h hB hl j m i e hg hi he
        · rw [getR_x l k j hg h0 h1 h2]; exact vget_xfalse A n c B l w h hB hl k j hg h1 h2 (mayR_x k h0 h1 h2)
  · rw [getR_err l k j e hg he]; exact vget_err A n c B l w h hB hl k j e hg he
end Go.Proofs.Ytdhppekfehbngaa
