/-
  The reference's GetRaw reads a value as the plain function says, whatever the bytes.
  The bytes are there in memory, at most 1,000,000.
-/
import Derived.Test.YtffklbkdmfeimaaReGetText
import Derived.Test.YtffklbkdmfeimaaRePutRaw
namespace Go.Proofs.Ytffklbkdmfeimaa
open Go.RowKit
set_option maxRecDepth 100000

theorem rget_b (A : Option Addr) (n c B : Nat) (l : List UInt8) (w : World) (h : Byt w B (.slice A n c) l) (hl : l.length ≤ 1000000) : Calls Try.prog 44 #[.slice A n c] w (GotN (Nu.get l) w) := by
  obtain rfl : n = l.length := by obtain ⟨A', c', hv, _⟩ := h; injection hv
  exact rget_any A c B l w h hl
theorem rgetText_b (A : Option Addr) (n c B : Nat) (l : List UInt8) (w : World) (h : Byt w B (.slice A n c) l) (hl : l.length ≤ 1000000) : Calls Try.prog 45 #[.slice A n c] w (GotT (Nu.getT l) w) := by
  obtain rfl : n = l.length := by obtain ⟨A', c', hv, _⟩ := h; injection hv
  exact rgetText_any A c B l w h hl
def noRaw : Raw := ⟨0, 0, ⟨#[]⟩⟩
/-- what GetRaw reads -/
def getR (l : List UInt8) : Raw × Nat × Nat :=
  if (Nu.get l).2.2 ≠ 0 then (noRaw, 0, (Nu.get l).2.2)
  else if (Nu.get l).1 = 0 then (noRaw, (Nu.get l).2.1, 0)
  else if (Nu.get l).1 = 1 then
    (if (Nu.get (l.drop (Nu.get l).2.1)).2.2 ≠ 0 then (noRaw, 0, (Nu.get (l.drop (Nu.get l).2.1)).2.2)
     else (⟨1, (Nu.get (l.drop (Nu.get l).2.1)).1, ⟨#[]⟩⟩, (Nu.get l).2.1 + (Nu.get (l.drop (Nu.get l).2.1)).2.1, 0))
  else if (Nu.get l).1 = 2 then
    (if (Nu.getT (l.drop (Nu.get l).2.1)).2.2 ≠ 0 then (noRaw, 0, (Nu.getT (l.drop (Nu.get l).2.1)).2.2)
     else if (Ru.vld (Nu.getT (l.drop (Nu.get l).2.1)).1 && decide ((Nu.getT (l.drop (Nu.get l).2.1)).1.length ≤ 200)) = true then (⟨2, 0, ⟨(Nu.getT (l.drop (Nu.get l).2.1)).1.toArray⟩⟩, (Nu.get l).2.1 + (Nu.getT (l.drop (Nu.get l).2.1)).2.1, 0)
     else (noRaw, 0, 1))
  else (noRaw, 0, 1)
def GotR (r : Raw × Nat × Nat) (w : World) (e : Ending) (w' : World) : Prop := e = .returned (.tuple #[r.1.val, .int .i64 r.2.1, .int .i64 r.2.2]) ∧ Below w.heap.size w w'

theorem getR_err (l : List UInt8) (k : Int) (n e : Nat) (h : Nu.get l = (k, n, e)) (he : e ≠ 0) : getR l = (noRaw, 0, e) := by
  unfold getR; rw [h]; exact if_pos he
theorem getR_0 (l : List UInt8) (n : Nat) (h : Nu.get l = (0, n, 0)) : getR l = (noRaw, n, 0) := by
  unfold getR; rw [h]; simp
theorem getR_1e (l : List UInt8) (n : Nat) (m : Int) (j e : Nat) (h : Nu.get l = (1, n, 0)) (h1 : Nu.get (l.drop n) = (m, j, e)) (he : e ≠ 0) : getR l = (noRaw, 0, e) := by
  unfold getR; rw [h]; simp [h1, he]
theorem getR_1 (l : List UInt8) (n : Nat) (m : Int) (j : Nat) (h : Nu.get l = (1, n, 0)) (h1 : Nu.get (l.drop n) = (m, j, 0)) : getR l = (⟨1, m, ⟨#[]⟩⟩, n + j, 0) := by
  unfold getR; rw [h]; simp [h1]
theorem getR_2e (l : List UInt8) (n : Nat) (t : List UInt8) (j e : Nat) (h : Nu.get l = (2, n, 0)) (h1 : Nu.getT (l.drop n) = (t, j, e)) (he : e ≠ 0) : getR l = (noRaw, 0, e) := by
  unfold getR; rw [h]; simp [h1, he]
theorem getR_2 (l : List UInt8) (n : Nat) (t : List UInt8) (j : Nat) (h : Nu.get l = (2, n, 0)) (h1 : Nu.getT (l.drop n) = (t, j, 0)) : getR l = if (Ru.vld t && decide (t.length ≤ 200)) = true then (⟨2, 0, ⟨t.toArray⟩⟩, n + j, 0) else (noRaw, 0, 1) := by
  unfold getR; rw [h]; simp [h1]
theorem getR_x (l : List UInt8) (k : Int) (n : Nat) (h : Nu.get l = (k, n, 0)) (h0 : k ≠ 0) (h1 : k ≠ 1) (h2 : k ≠ 2) : getR l = (noRaw, 0, 1) := by
  unfold getR; rw [h]; simp [h0, h1, h2]
theorem rmay_is (v : Value) (r : Raw) (b : Bool) (w : World) (hv : v = r.val) (hs : r.s.size ≤ 1000000) (h : mayR r = b) : Calls Try.prog 14 #[v] w (Bl b w) := by
  rw [hv, ← h]; exact rmay_any r w hs

set_option maxRecDepth 100000 in
set_option maxHeartbeats 1000000 in
theorem rgetRaw_err (A : Option Addr) (n c B : Nat) (l : List UInt8) (w : World) (h : Byt w B (.slice A n c) l) (hB : B ≤ w.heap.size) (hl : l.length ≤ 1000000) (k : Int) (j e : Nat) (hg : Nu.get l = (k, j, e)) (he : e ≠ 0) :
    Calls Try.prog 36 #[.slice A n c] w (GotR (noRaw, 0, e) w) := by
  have hne : ((e : Int) != 0) = true := by rw [bne_iff_ne]; omega
  have hget := fun (W : World) (hW : Below w.heap.size w W) => rget_b A n c B l W (h.below hW hB) hl
  rw [hg] at hget
  have HG := Lib.hid hget; clear hget hg
  have HE := Lib.hid he; clear he
  go_enter Try.func36, Try.ntmps36
  go_wp2_with fail
  refine (HG.out _ ?_).mono ?_
  exact below_one _ _
  rintro e w' ⟨rfl, rfl⟩
  go_wp2
  exact bodyPost_ret (v := .tuple #[noRaw.val, .int .i64 0, .int .i64 e]) (by simp [results, Try.results36, go_sem, noRaw, Raw.val]) rfl ⟨rfl, below_one _ _⟩
set_option maxRecDepth 100000 in
set_option maxHeartbeats 1000000 in
theorem rgetRaw_0 (A : Option Addr) (n c B : Nat) (l : List UInt8) (w : World) (h : Byt w B (.slice A n c) l) (hB : B ≤ w.heap.size) (hl : l.length ≤ 1000000) (j : Nat) (hg : Nu.get l = (0, j, 0)) :
    Calls Try.prog 36 #[.slice A n c] w (GotR (noRaw, j, 0) w) := by
  have hget := fun (W : World) (hW : Below w.heap.size w W) => rget_b A n c B l W (h.below hW hB) hl
  rw [hg] at hget
  have hjl : j ≤ 1000000 := by have := Nu.get_len l; rw [hg] at this; simp only at this; omega
  have HG := Lib.hid hget; clear hget hg
  go_enter Try.func36, Try.ntmps36
  go_wp2_with fail
  refine (HG.out _ ?_).mono ?_
  exact below_one _ _
  rintro e w' ⟨rfl, rfl⟩
  go_wp2_with fail
  refine (rmay_is _ noRaw true _ rfl (by decide) (by decide)).mono ?_
  rintro e w1 ⟨rfl, hb⟩
  have p0 : w1.cell? ⟨w.heap.size, 0, none⟩ = some (.int .i64 0) := (hb.cell (p := ⟨w.heap.size, 0, none⟩) (by simp; omega)).trans (by go_simp)
  have p1 : w1.cell? ⟨w.heap.size, 1, none⟩ = some (.int .i64 0) := (hb.cell (p := ⟨w.heap.size, 1, none⟩) (by simp; omega)).trans (by go_simp)
  have p2 : w1.cell? ⟨w.heap.size, 2, none⟩ = some (.string ⟨#[]⟩) := (hb.cell (p := ⟨w.heap.size, 2, none⟩) (by simp; omega)).trans (by go_simp)
  have f0 : w1.frozen? ⟨w.heap.size, 0, none⟩ = false := (hb.frozen (p := ⟨w.heap.size, 0, none⟩) (by simp; omega)).trans (by go_simp)
  have f1 : w1.frozen? ⟨w.heap.size, 1, none⟩ = false := (hb.frozen (p := ⟨w.heap.size, 1, none⟩) (by simp; omega)).trans (by go_simp)
  have f2 : w1.frozen? ⟨w.heap.size, 2, none⟩ = false := (hb.frozen (p := ⟨w.heap.size, 2, none⟩) (by simp; omega)).trans (by go_simp)
  have q0 : w1.cell? ⟨w.heap.size + 1, 0, none⟩ = some (.int .i64 0) := (hb.cell (p := ⟨w.heap.size + 1, 0, none⟩) (by simp)).trans (by go_simp)
  have q1 : w1.cell? ⟨w.heap.size + 1, 1, none⟩ = some (.int .i64 0) := (hb.cell (p := ⟨w.heap.size + 1, 1, none⟩) (by simp)).trans (by go_simp)
  have q2 : w1.cell? ⟨w.heap.size + 1, 2, none⟩ = some (.string ⟨#[]⟩) := (hb.cell (p := ⟨w.heap.size + 1, 2, none⟩) (by simp)).trans (by go_simp)
  have hbw : Below w.heap.size w w1 := (below_two w _ _).trans (hb.mono (by simp; omega))
  clear hb
  go_wp2
  exact bodyPost_ret (v := .tuple #[noRaw.val, .int .i64 j, .int .i64 0]) (by simp [results, Try.results36, go_sem, noRaw, Raw.val, p0, p1, p2]) rfl ⟨rfl, ((hbw.setCell (Nat.le_refl _) _).setCell (Nat.le_refl _) _).setCell (Nat.le_refl _) _⟩
theorem getT_le (l : List UInt8) : (Nu.getT l).1.length ≤ l.length := by
  rw [getT_of]; split
  · simp
  · split
    · simp
    · split
      · simp
      · simp only [List.length_take, List.length_drop]; omega
theorem getT_len (l : List UInt8) : (Nu.getT l).2.1 ≤ l.length := by
  have h := Nu.get_len l
  rw [getT_of]; split
  · simp
  · split
    · simp
    · split
      · simp
      · simp only; omega
theorem add_lit (g o j : Nat) : (some (⟨g, o, Option.none⟩ : Addr)).map (·.add j) = some ⟨g, o + j, Option.none⟩ := by
  show some (Addr.add ⟨g, o, Option.none⟩ j) = _
  unfold Addr.add; split <;> simp_all
set_option maxRecDepth 100000 in
set_option maxHeartbeats 1000000 in
theorem rgetRaw_x (A : Option Addr) (n c B : Nat) (l : List UInt8) (w : World) (h : Byt w B (.slice A n c) l) (hB : B ≤ w.heap.size) (hl : l.length ≤ 1000000) (k : Int) (j : Nat) (hg : Nu.get l = (k, j, 0)) (h0 : k ≠ 0) (h1 : k ≠ 1) (h2 : k ≠ 2) :
    Calls Try.prog 36 #[.slice A n c] w (GotR (noRaw, 0, 1) w) := by
  have hget := fun (W : World) (hW : Below w.heap.size w W) => rget_b A n c B l W (h.below hW hB) hl
  rw [hg] at hget
  have k0 : (k == 0) = false := by rw [beq_eq_false_iff_ne]; exact h0
  have k1 : (k == 1) = false := by rw [beq_eq_false_iff_ne]; exact h1
  have k2 : (k == 2) = false := by rw [beq_eq_false_iff_ne]; exact h2
  have HG := Lib.hid hget; clear hget hg h0 h1 h2
  go_enter Try.func36, Try.ntmps36
  go_wp2_with fail
  refine (HG.out _ ?_).mono ?_
  exact below_one _ _
  rintro e w' ⟨rfl, rfl⟩
  go_wp2
  exact bodyPost_ret (v := .tuple #[noRaw.val, .int .i64 0, .int .i64 1]) (by simp [results, Try.results36, go_sem, noRaw, Raw.val]) rfl ⟨rfl, below_two _ _ _⟩
set_option maxRecDepth 100000 in
set_option maxHeartbeats 1000000 in
theorem rgetRaw_1e (A : Option Addr) (n c B : Nat) (l : List UInt8) (w : World) (h : Byt w B (.slice A n c) l) (hB : B ≤ w.heap.size) (hl : l.length ≤ 1000000) (j : Nat) (m : Int) (i e : Nat) (hg : Nu.get l = (1, j, 0)) (hi : Nu.get (l.drop j) = (m, i, e)) (he : e ≠ 0) :
    Calls Try.prog 36 #[.slice A n c] w (GotR (noRaw, 0, e) w) := by
  have hget := fun (W : World) (hW : Below w.heap.size w W) => rget_b A n c B l W (h.below hW hB) hl
  rw [hg] at hget
  have hjl : j ≤ l.length := by have := Nu.get_len l; rw [hg] at this; exact this
  have hj1 : 1 ≤ j := by have := Nu.get_pos l; rw [hg] at this; exact this rfl
  obtain ⟨A', c', hv, hc, hcell⟩ := id h
  injection hv with e1 e2 e3; subst e1; subst e3
  obtain ⟨g, o, rfl, hgB, _⟩ := hcell (by omega)
  clear hcell
  rw [e2] at h
  have hcut := h.cut hjl
  subst e2
  have HG := Lib.hid hget; clear hget
  have hne : ((e : Int) == 0) = false := by rw [beq_eq_false_iff_ne]; omega
  have hne2 : ((e : Int) != 0) = true := by rw [bne_iff_ne]; omega
  have HE := Lib.hid he; clear he
  by_cases hcap : c = j
  · subst hcap
    have hcl : Byt w B (.slice (some ⟨g, o, Option.none⟩) 0 0) (l.drop c) := by
      rw [List.drop_of_length_le hc]; exact ⟨_, 0, rfl, Nat.le_refl _, fun h => absurd h (by simp)⟩
    clear hcut
    have hin := fun (W : World) (hW : Below w.heap.size w W) => rget_b _ _ _ B (l.drop c) W (hcl.below hW hB) (by rw [List.length_drop]; omega)
    rw [hi] at hin
    have HI := Lib.hid hin; clear hin hcl
    go_enter Try.func36, Try.ntmps36
    go_wp2_with fail
    refine (HG.out _ ?_).mono ?_
    exact below_one _ _
    rintro e w' ⟨rfl, rfl⟩
    go_wp2_with fail
    refine (HI.out _ ?_).mono ?_
    exact below_two _ _ _
    rintro e w' ⟨rfl, rfl⟩
    go_wp2
    exact bodyPost_ret (v := .tuple #[noRaw.val, .int .i64 0, .int .i64 e]) (by simp [results, Try.results36, go_sem, noRaw, Raw.val]) rfl ⟨rfl, below_two _ _ _⟩
  · rw [if_neg hcap, add_lit] at hcut
    have hcl := hcut; clear hcut
    have hin := fun (W : World) (hW : Below w.heap.size w W) => rget_b _ _ _ B (l.drop j) W (hcl.below hW hB) (by rw [List.length_drop]; omega)
    rw [hi] at hin
    have HI := Lib.hid hin; clear hin hcl
    go_enter Try.func36, Try.ntmps36
    go_wp2_with fail
    refine (HG.out _ ?_).mono ?_
    exact below_one _ _
    rintro e w' ⟨rfl, rfl⟩
    go_wp2_with fail
    refine (HI.out _ ?_).mono ?_
    exact below_two _ _ _
    rintro e w' ⟨rfl, rfl⟩
    go_wp2
    exact bodyPost_ret (v := .tuple #[noRaw.val, .int .i64 0, .int .i64 e]) (by simp [results, Try.results36, go_sem, noRaw, Raw.val]) rfl ⟨rfl, below_two _ _ _⟩
set_option maxRecDepth 100000 in
set_option maxHeartbeats 1000000 in
theorem rgetRaw_1ok (A : Option Addr) (n c B : Nat) (l : List UInt8) (w : World) (h : Byt w B (.slice A n c) l) (hB : B ≤ w.heap.size) (hl : l.length ≤ 1000000) (j : Nat) (m : Int) (i : Nat)  (hg : Nu.get l = (1, j, 0)) (hi : Nu.get (l.drop j) = (m, i, 0)) :
    Calls Try.prog 36 #[.slice A n c] w (GotR (⟨1, m, ⟨#[]⟩⟩, j + i, 0) w) := by
  have hget := fun (W : World) (hW : Below w.heap.size w W) => rget_b A n c B l W (h.below hW hB) hl
  rw [hg] at hget
  have hjl : j ≤ l.length := by have := Nu.get_len l; rw [hg] at this; exact this
  have hj1 : 1 ≤ j := by have := Nu.get_pos l; rw [hg] at this; exact this rfl
  obtain ⟨A', c', hv, hc, hcell⟩ := id h
  injection hv with e1 e2 e3; subst e1; subst e3
  obtain ⟨g, o, rfl, hgB, _⟩ := hcell (by omega)
  clear hcell
  rw [e2] at h
  have hcut := h.cut hjl
  subst e2
  have HG := Lib.hid hget; clear hget
  have hil : i ≤ l.length := by
    have h1 := Nu.get_len (l.drop j); rw [hi] at h1; rw [List.length_drop] at h1; simp only at h1; omega
  have hcap : ¬ c = j := by
    intro e; subst e
    rw [List.drop_of_length_le hc] at hi
    simp [Nu.get, Nu.getF] at hi
  rw [if_neg hcap, add_lit] at hcut
  have hcl := hcut; clear hcut
  have hin := fun (W : World) (hW : Below w.heap.size w W) => rget_b _ _ _ B (l.drop j) W (hcl.below hW hB) (by rw [List.length_drop]; omega)
  rw [hi] at hin
  have HI := Lib.hid hin; clear hin hcl
  go_enter Try.func36, Try.ntmps36
  go_wp2_with fail
  refine (HG.out _ ?_).mono ?_
  exact below_one _ _
  rintro e w' ⟨rfl, rfl⟩
  go_wp2_with fail
  refine (HI.out _ ?_).mono ?_
  exact below_two _ _ _
  rintro e w' ⟨rfl, rfl⟩
  go_wp2_with fail
  refine (rmay_is _ ⟨1, m, ⟨#[]⟩⟩ true _ rfl (by show 0 ≤ 1000000; omega) (by unfold mayR; simp)).mono ?_
  rintro e w1 ⟨rfl, hb⟩
  have p0 : w1.cell? ⟨w.heap.size, 0, none⟩ = some (.int .i64 0) := (hb.cell (p := ⟨w.heap.size, 0, none⟩) (by simp; omega)).trans (by go_simp)
  have p1 : w1.cell? ⟨w.heap.size, 1, none⟩ = some (.int .i64 0) := (hb.cell (p := ⟨w.heap.size, 1, none⟩) (by simp; omega)).trans (by go_simp)
  have p2 : w1.cell? ⟨w.heap.size, 2, none⟩ = some (.string ⟨#[]⟩) := (hb.cell (p := ⟨w.heap.size, 2, none⟩) (by simp; omega)).trans (by go_simp)
  have f0 : w1.frozen? ⟨w.heap.size, 0, none⟩ = false := (hb.frozen (p := ⟨w.heap.size, 0, none⟩) (by simp; omega)).trans (by go_simp)
  have f1 : w1.frozen? ⟨w.heap.size, 1, none⟩ = false := (hb.frozen (p := ⟨w.heap.size, 1, none⟩) (by simp; omega)).trans (by go_simp)
  have f2 : w1.frozen? ⟨w.heap.size, 2, none⟩ = false := (hb.frozen (p := ⟨w.heap.size, 2, none⟩) (by simp; omega)).trans (by go_simp)
  have q0 : w1.cell? ⟨w.heap.size + 1, 0, none⟩ = some (.int .i64 1) := (hb.cell (p := ⟨w.heap.size + 1, 0, none⟩) (by simp)).trans (by go_simp)
  have q1 : w1.cell? ⟨w.heap.size + 1, 1, none⟩ = some (.int .i64 m) := (hb.cell (p := ⟨w.heap.size + 1, 1, none⟩) (by simp)).trans (by go_simp)
  have q2 : w1.cell? ⟨w.heap.size + 1, 2, none⟩ = some (.string ⟨#[]⟩) := (hb.cell (p := ⟨w.heap.size + 1, 2, none⟩) (by simp)).trans (by go_simp)
  have hbw : Below w.heap.size w w1 := (below_two w _ _).trans (hb.mono (by simp; omega))
  clear hb
  go_wp2
  exact bodyPost_ret (v := .tuple #[(Raw.mk 1 m ⟨#[]⟩).val, .int .i64 ((j : Int) + i), .int .i64 0]) (by simp [results, Try.results36, go_sem, Raw.val, p0, p1, p2]) rfl ⟨rfl, ((hbw.setCell (Nat.le_refl _) _).setCell (Nat.le_refl _) _).setCell (Nat.le_refl _) _⟩
set_option maxRecDepth 100000 in
set_option maxHeartbeats 1000000 in
theorem rgetRaw_2e (A : Option Addr) (n c B : Nat) (l : List UInt8) (w : World) (h : Byt w B (.slice A n c) l) (hB : B ≤ w.heap.size) (hl : l.length ≤ 1000000) (j : Nat) (m : List UInt8) (i e : Nat) (hg : Nu.get l = (2, j, 0)) (hi : Nu.getT (l.drop j) = (m, i, e)) (he : e ≠ 0) :
    Calls Try.prog 36 #[.slice A n c] w (GotR (noRaw, 0, e) w) := by
  have hget := fun (W : World) (hW : Below w.heap.size w W) => rget_b A n c B l W (h.below hW hB) hl
  rw [hg] at hget
  have hjl : j ≤ l.length := by have := Nu.get_len l; rw [hg] at this; exact this
  have hj1 : 1 ≤ j := by have := Nu.get_pos l; rw [hg] at this; exact this rfl
  obtain ⟨A', c', hv, hc, hcell⟩ := id h
  injection hv with e1 e2 e3; subst e1; subst e3
  obtain ⟨g, o, rfl, hgB, _⟩ := hcell (by omega)
  clear hcell
  rw [e2] at h
  have hcut := h.cut hjl
  subst e2
  have HG := Lib.hid hget; clear hget
  have hne : ((e : Int) == 0) = false := by rw [beq_eq_false_iff_ne]; omega
  have hne2 : ((e : Int) != 0) = true := by rw [bne_iff_ne]; omega
  have HE := Lib.hid he; clear he
  by_cases hcap : c = j
  · subst hcap
    have hcl : Byt w B (.slice (some ⟨g, o, Option.none⟩) 0 0) (l.drop c) := by
      rw [List.drop_of_length_le hc]; exact ⟨_, 0, rfl, Nat.le_refl _, fun h => absurd h (by simp)⟩
    clear hcut
    have hin := fun (W : World) (hW : Below w.heap.size w W) => rgetText_b _ _ _ B (l.drop c) W (hcl.below hW hB) (by rw [List.length_drop]; omega)
    rw [hi] at hin
    have HI := Lib.hid hin; clear hin hcl
    go_enter Try.func36, Try.ntmps36
    go_wp2_with fail
    refine (HG.out _ ?_).mono ?_
    exact below_one _ _
    rintro e w' ⟨rfl, rfl⟩
    go_wp2_with fail
    refine (HI.out _ ?_).mono ?_
    exact below_two _ _ _
    rintro e w' ⟨rfl, rfl⟩
    go_wp2
    exact bodyPost_ret (v := .tuple #[noRaw.val, .int .i64 0, .int .i64 e]) (by simp [results, Try.results36, go_sem, noRaw, Raw.val]) rfl ⟨rfl, below_two _ _ _⟩
  · rw [if_neg hcap, add_lit] at hcut
    have hcl := hcut; clear hcut
    have hin := fun (W : World) (hW : Below w.heap.size w W) => rgetText_b _ _ _ B (l.drop j) W (hcl.below hW hB) (by rw [List.length_drop]; omega)
    rw [hi] at hin
    have HI := Lib.hid hin; clear hin hcl
    go_enter Try.func36, Try.ntmps36
    go_wp2_with fail
    refine (HG.out _ ?_).mono ?_
    exact below_one _ _
    rintro e w' ⟨rfl, rfl⟩
    go_wp2_with fail
    refine (HI.out _ ?_).mono ?_
    exact below_two _ _ _
    rintro e w' ⟨rfl, rfl⟩
    go_wp2
    exact bodyPost_ret (v := .tuple #[noRaw.val, .int .i64 0, .int .i64 e]) (by simp [results, Try.results36, go_sem, noRaw, Raw.val]) rfl ⟨rfl, below_two _ _ _⟩
set_option maxRecDepth 100000 in
set_option maxHeartbeats 1000000 in
theorem rgetRaw_2ok (A : Option Addr) (n c B : Nat) (l : List UInt8) (w : World) (h : Byt w B (.slice A n c) l) (hB : B ≤ w.heap.size) (hl : l.length ≤ 1000000) (j : Nat) (m : List UInt8) (i : Nat) (hm : (Ru.vld m && decide (m.length ≤ 200)) = true) (hg : Nu.get l = (2, j, 0)) (hi : Nu.getT (l.drop j) = (m, i, 0)) :
    Calls Try.prog 36 #[.slice A n c] w (GotR (⟨2, 0, ⟨m.toArray⟩⟩, j + i, 0) w) := by
  have hget := fun (W : World) (hW : Below w.heap.size w W) => rget_b A n c B l W (h.below hW hB) hl
  rw [hg] at hget
  have hjl : j ≤ l.length := by have := Nu.get_len l; rw [hg] at this; exact this
  have hj1 : 1 ≤ j := by have := Nu.get_pos l; rw [hg] at this; exact this rfl
  obtain ⟨A', c', hv, hc, hcell⟩ := id h
  injection hv with e1 e2 e3; subst e1; subst e3
  obtain ⟨g, o, rfl, hgB, _⟩ := hcell (by omega)
  clear hcell
  rw [e2] at h
  have hcut := h.cut hjl
  subst e2
  have HG := Lib.hid hget; clear hget
  have hml : (⟨m.toArray⟩ : ByteArray).size ≤ 1000000 := by
    have h1 := getT_le (l.drop j); rw [hi] at h1
    rw [List.length_drop] at h1
    show m.length ≤ 1000000
    simp only at h1; omega
  have hmay : mayR ⟨2, 0, ⟨m.toArray⟩⟩ = true := by
    rw [← hm]; unfold mayR; simp; rfl
  have HMAY := Lib.hid hmay; clear hmay hm
  have hil : i ≤ l.length := by
    have h1 := getT_len (l.drop j); rw [hi] at h1; rw [List.length_drop] at h1; simp only at h1; omega
  have hcap : ¬ c = j := by
    intro e; subst e
    rw [List.drop_of_length_le hc] at hi
    simp [Nu.get, Nu.getF, Nu.getT] at hi
  rw [if_neg hcap, add_lit] at hcut
  have hcl := hcut; clear hcut
  have hin := fun (W : World) (hW : Below w.heap.size w W) => rgetText_b _ _ _ B (l.drop j) W (hcl.below hW hB) (by rw [List.length_drop]; omega)
  rw [hi] at hin
  have HI := Lib.hid hin; clear hin hcl
  go_enter Try.func36, Try.ntmps36
  go_wp2_with fail
  refine (HG.out _ ?_).mono ?_
  exact below_one _ _
  rintro e w' ⟨rfl, rfl⟩
  go_wp2_with fail
  refine (HI.out _ ?_).mono ?_
  exact below_two _ _ _
  rintro e w' ⟨rfl, rfl⟩
  go_wp2_with fail
  refine (rmay_is _ ⟨2, 0, ⟨m.toArray⟩⟩ true _ rfl (hml) (HMAY.out)).mono ?_
  rintro e w1 ⟨rfl, hb⟩
  have p0 : w1.cell? ⟨w.heap.size, 0, none⟩ = some (.int .i64 0) := (hb.cell (p := ⟨w.heap.size, 0, none⟩) (by simp; omega)).trans (by go_simp)
  have p1 : w1.cell? ⟨w.heap.size, 1, none⟩ = some (.int .i64 0) := (hb.cell (p := ⟨w.heap.size, 1, none⟩) (by simp; omega)).trans (by go_simp)
  have p2 : w1.cell? ⟨w.heap.size, 2, none⟩ = some (.string ⟨#[]⟩) := (hb.cell (p := ⟨w.heap.size, 2, none⟩) (by simp; omega)).trans (by go_simp)
  have f0 : w1.frozen? ⟨w.heap.size, 0, none⟩ = false := (hb.frozen (p := ⟨w.heap.size, 0, none⟩) (by simp; omega)).trans (by go_simp)
  have f1 : w1.frozen? ⟨w.heap.size, 1, none⟩ = false := (hb.frozen (p := ⟨w.heap.size, 1, none⟩) (by simp; omega)).trans (by go_simp)
  have f2 : w1.frozen? ⟨w.heap.size, 2, none⟩ = false := (hb.frozen (p := ⟨w.heap.size, 2, none⟩) (by simp; omega)).trans (by go_simp)
  have q0 : w1.cell? ⟨w.heap.size + 1, 0, none⟩ = some (.int .i64 2) := (hb.cell (p := ⟨w.heap.size + 1, 0, none⟩) (by simp)).trans (by go_simp)
  have q1 : w1.cell? ⟨w.heap.size + 1, 1, none⟩ = some (.int .i64 0) := (hb.cell (p := ⟨w.heap.size + 1, 1, none⟩) (by simp)).trans (by go_simp)
  have q2 : w1.cell? ⟨w.heap.size + 1, 2, none⟩ = some (.string ⟨m.toArray⟩) := (hb.cell (p := ⟨w.heap.size + 1, 2, none⟩) (by simp)).trans (by go_simp)
  have hbw : Below w.heap.size w w1 := (below_two w _ _).trans (hb.mono (by simp; omega))
  clear hb
  go_wp2
  exact bodyPost_ret (v := .tuple #[(Raw.mk 2 0 ⟨m.toArray⟩).val, .int .i64 ((j : Int) + i), .int .i64 0]) (by simp [results, Try.results36, go_sem, Raw.val, p0, p1, p2]) rfl ⟨rfl, ((hbw.setCell (Nat.le_refl _) _).setCell (Nat.le_refl _) _).setCell (Nat.le_refl _) _⟩
set_option maxRecDepth 100000 in
set_option maxHeartbeats 1000000 in
theorem rgetRaw_2bok (A : Option Addr) (n c B : Nat) (l : List UInt8) (w : World) (h : Byt w B (.slice A n c) l) (hB : B ≤ w.heap.size) (hl : l.length ≤ 1000000) (j : Nat) (m : List UInt8) (i : Nat) (hm : (Ru.vld m && decide (m.length ≤ 200)) = false) (hg : Nu.get l = (2, j, 0)) (hi : Nu.getT (l.drop j) = (m, i, 0)) :
    Calls Try.prog 36 #[.slice A n c] w (GotR (noRaw, 0, 1) w) := by
  have hget := fun (W : World) (hW : Below w.heap.size w W) => rget_b A n c B l W (h.below hW hB) hl
  rw [hg] at hget
  have hjl : j ≤ l.length := by have := Nu.get_len l; rw [hg] at this; exact this
  have hj1 : 1 ≤ j := by have := Nu.get_pos l; rw [hg] at this; exact this rfl
  obtain ⟨A', c', hv, hc, hcell⟩ := id h
  injection hv with e1 e2 e3; subst e1; subst e3
  obtain ⟨g, o, rfl, hgB, _⟩ := hcell (by omega)
  clear hcell
  rw [e2] at h
  have hcut := h.cut hjl
  subst e2
  have HG := Lib.hid hget; clear hget
  have hml : (⟨m.toArray⟩ : ByteArray).size ≤ 1000000 := by
    have h1 := getT_le (l.drop j); rw [hi] at h1
    rw [List.length_drop] at h1
    show m.length ≤ 1000000
    simp only at h1; omega
  have hmay : mayR ⟨2, 0, ⟨m.toArray⟩⟩ = false := by
    rw [← hm]; unfold mayR; simp; rfl
  have HMAY := Lib.hid hmay; clear hmay hm
  have hil : i ≤ l.length := by
    have h1 := getT_len (l.drop j); rw [hi] at h1; rw [List.length_drop] at h1; simp only at h1; omega
  have hcap : ¬ c = j := by
    intro e; subst e
    rw [List.drop_of_length_le hc] at hi
    simp [Nu.get, Nu.getF, Nu.getT] at hi
  rw [if_neg hcap, add_lit] at hcut
  have hcl := hcut; clear hcut
  have hin := fun (W : World) (hW : Below w.heap.size w W) => rgetText_b _ _ _ B (l.drop j) W (hcl.below hW hB) (by rw [List.length_drop]; omega)
  rw [hi] at hin
  have HI := Lib.hid hin; clear hin hcl
  go_enter Try.func36, Try.ntmps36
  go_wp2_with fail
  refine (HG.out _ ?_).mono ?_
  exact below_one _ _
  rintro e w' ⟨rfl, rfl⟩
  go_wp2_with fail
  refine (HI.out _ ?_).mono ?_
  exact below_two _ _ _
  rintro e w' ⟨rfl, rfl⟩
  go_wp2_with fail
  refine (rmay_is _ ⟨2, 0, ⟨m.toArray⟩⟩ false _ rfl (hml) (HMAY.out)).mono ?_
  rintro e w1 ⟨rfl, hb⟩
  have p0 : w1.cell? ⟨w.heap.size, 0, none⟩ = some (.int .i64 0) := (hb.cell (p := ⟨w.heap.size, 0, none⟩) (by simp; omega)).trans (by go_simp)
  have p1 : w1.cell? ⟨w.heap.size, 1, none⟩ = some (.int .i64 0) := (hb.cell (p := ⟨w.heap.size, 1, none⟩) (by simp; omega)).trans (by go_simp)
  have p2 : w1.cell? ⟨w.heap.size, 2, none⟩ = some (.string ⟨#[]⟩) := (hb.cell (p := ⟨w.heap.size, 2, none⟩) (by simp; omega)).trans (by go_simp)
  have f0 : w1.frozen? ⟨w.heap.size, 0, none⟩ = false := (hb.frozen (p := ⟨w.heap.size, 0, none⟩) (by simp; omega)).trans (by go_simp)
  have f1 : w1.frozen? ⟨w.heap.size, 1, none⟩ = false := (hb.frozen (p := ⟨w.heap.size, 1, none⟩) (by simp; omega)).trans (by go_simp)
  have f2 : w1.frozen? ⟨w.heap.size, 2, none⟩ = false := (hb.frozen (p := ⟨w.heap.size, 2, none⟩) (by simp; omega)).trans (by go_simp)
  have q0 : w1.cell? ⟨w.heap.size + 1, 0, none⟩ = some (.int .i64 2) := (hb.cell (p := ⟨w.heap.size + 1, 0, none⟩) (by simp)).trans (by go_simp)
  have q1 : w1.cell? ⟨w.heap.size + 1, 1, none⟩ = some (.int .i64 0) := (hb.cell (p := ⟨w.heap.size + 1, 1, none⟩) (by simp)).trans (by go_simp)
  have q2 : w1.cell? ⟨w.heap.size + 1, 2, none⟩ = some (.string ⟨m.toArray⟩) := (hb.cell (p := ⟨w.heap.size + 1, 2, none⟩) (by simp)).trans (by go_simp)
  have hbw : Below w.heap.size w w1 := (below_two w _ _).trans (hb.mono (by simp; omega))
  clear hb
  go_wp2
  exact bodyPost_ret (v := .tuple #[noRaw.val, .int .i64 0, .int .i64 1]) (by simp [results, Try.results36, go_sem, noRaw, Raw.val, p0, p1, p2]) rfl ⟨rfl, ((hbw.setCell (Nat.le_refl _) _).setCell (Nat.le_refl _) _).setCell (Nat.le_refl _) _⟩

theorem rgetRaw_any (A : Option Addr) (n c B : Nat) (l : List UInt8) (w : World) (h : Byt w B (.slice A n c) l) (hB : B ≤ w.heap.size) (hl : l.length ≤ 1000000) :
    Calls Try.prog 36 #[.slice A n c] w (GotR (getR l) w) := by
  obtain ⟨⟨k, j, e⟩, hg⟩ : ∃ r, Nu.get l = r := ⟨_, rfl⟩
  by_cases he : e = 0
  · subst he
    by_cases h0 : k = 0
    · subst h0; rw [getR_0 l j hg]; exact rgetRaw_0 A n c B l w h hB hl j hg
    · by_cases h1 : k = 1
      · subst h1
        obtain ⟨⟨m, i, e⟩, hi⟩ : ∃ r, Nu.get (l.drop j) = r := ⟨_, rfl⟩
        by_cases he : e = 0
        · subst he; rw [getR_1 l j m i hg hi]; exact rgetRaw_1ok A n c B l w h hB hl j m i hg hi
        · rw [getR_1e l j m i e hg hi he]; exact rgetRaw_1e A n c B l w h hB hl j m i e hg hi he
      · by_cases h2 : k = 2
        · subst h2
          obtain ⟨⟨m, i, e⟩, hi⟩ : ∃ r, Nu.getT (l.drop j) = r := ⟨_, rfl⟩
          by_cases he : e = 0
          · subst he; rw [getR_2 l j m i hg hi]
            cases hm : (Ru.vld m && decide (m.length ≤ 200))
            · exact rgetRaw_2bok A n c B l w h hB hl j m i hm hg hi
            · exact rgetRaw_2ok A n c B l w h hB hl j m i hm hg hi
          · rw [getR_2e l j m i e hg hi he]; exact rgetRaw_2e A n c B l w h hB hl j m i e hg hi he
        · rw [getR_x l k j hg h0 h1 h2]; exact rgetRaw_x A n c B l w h hB hl k j hg h0 h1 h2
  · rw [getR_err l k j e hg he]; exact rgetRaw_err A n c B l w h hB hl k j e hg he
end Go.Proofs.Ytffklbkdmfeimaa
