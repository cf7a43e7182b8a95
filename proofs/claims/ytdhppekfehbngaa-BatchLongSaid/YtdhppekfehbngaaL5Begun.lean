/-
  Package op's Decode tells a batch just of a batch's bytes, whatever bytes came in.
  The bytes are there in memory, at most 1,000,000.
-/
import Derived.Test.YtdhppekfehbngaaOpReadBatch
import Derived.Test.YtdhppekfehbngaaShelf
import Derived.Test.YtdhppekfehbngaaWAppend
set_option linter.unusedSimpArgs false
set_option linter.unusedVariables false
namespace Go.Proofs.Ytdhppekfehbngaa
open Go.RowKit
set_option maxRecDepth 100000

theorem byt_in {w : World} {B : Nat} {A : Option Addr} {n c : Nat} {l : List UInt8} (h : Byt w B (.slice A n c) l) : Lib.BytesIn w A n (l.map fun x => (x.toNat : Int)) := by
  obtain ⟨A', c', hv, _, hcell⟩ := h
  injection hv with e1 e2 _; subst e1; subst e2
  intro hn
  obtain ⟨g, o, rfl, _, hcs⟩ := hcell hn
  refine ⟨g, o, rfl, fun i hi => ?_⟩
  rw [hcs i hi]; simp [hi]
theorem bytesOf_map (l : List UInt8) : Lib.bytesOf (l.map fun x => (x.toNat : Int)) = l := by
  unfold Lib.bytesOf; rw [List.map_map]
  conv => rhs; rw [← List.map_id l]
  apply List.map_congr_left; intro x _; simp
theorem equal_is (A1 A2 : Option Addr) (n1 n2 c1 c2 B1 B2 : Nat) (l m : List UInt8) (b : Bool) (w : World) (h1 : Byt w B1 (.slice A1 n1 c1) l) (h2 : Byt w B2 (.slice A2 n2 c2) m) (hb : (l == m) = b) :
    Calls Try.prog 36 #[.slice A1 n1 c1, .slice A2 n2 c2] w fun e w' => e = .returned (.bool b) ∧ w' = w := by
  have e1 : n1 = l.length := by obtain ⟨_, _, hv, _⟩ := h1; injection hv
  have e2 : n2 = m.length := by obtain ⟨_, _, hv, _⟩ := h2; injection hv
  have h := Try.bytes_Equal_all A1 A2 n1 c1 n2 c2 _ _ w (by rw [List.length_map, e1]) (by rw [List.length_map, e2]) (byt_in h1) (byt_in h2)
  rw [bytesOf_map, bytesOf_map, hb] at h
  exact h
theorem getF_0 : ∀ (l : List UInt8) (i u w : Nat), (Nu.getF i u w l).2.2 ≠ 0 → (Nu.getF i u w l).1 = 0 := by
  intro l; induction l with
  | nil => intro i u w _; rfl
  | cons c t ih =>
    intro i u w h
    simp only [Nu.getF] at h ⊢
    split
    · rfl
    · rename_i h1
      rw [if_neg h1] at h
      split
      · rename_i h2; rw [if_pos h2] at h; exact absurd rfl h
      · rename_i h2; rw [if_neg h2] at h; exact ih _ _ _ h
theorem get_i64 (l : List UInt8) : i64 (Nu.get l).1 := by
  obtain ⟨⟨n, k, e⟩, hr⟩ : ∃ r, Nu.get l = r := ⟨_, rfl⟩
  by_cases he : e = 0
  · subst he
    have h := Nu.get_canon l n k hr
    rw [hr]; exact h.2.2
  · have h0 : (Nu.get l).1 = 0 := getF_0 l 0 0 1 (by show (Nu.get l).2.2 ≠ 0; rw [hr]; exact he)
    rw [h0]; exact ⟨by decide, by decide⟩
theorem rNum_i64 (l : List UInt8) : i64 (rNum l).1 := get_i64 l
theorem rTxt_size (l : List UInt8) : (rTxt l).1.size ≤ l.length := by
  have := getT_le l
  unfold rTxt
  show (Nu.getT l).1.toArray.size ≤ _
  simpa using this
theorem rRaw_ok (l : List UInt8) : (rRaw l).1.ok := by
  unfold rRaw
  simp only
  by_cases he : (getR l).2.2 = 0
  · exact (getR_canon l (getR l).1 (getR l).2.1 (by rw [← he])).2.2.2
  · have : (getR l).1 = noRaw := by
      revert he; unfold getR; repeat' split
      all_goals simp
    rw [this]; exact ⟨⟨by decide, by decide⟩, ⟨by decide, by decide⟩, by decide⟩
theorem zR_ok : zR.ok := ⟨⟨by decide, by decide⟩, ⟨by decide, by decide⟩, by decide⟩
theorem i64_0 : i64 0 := ⟨by decide, by decide⟩
theorem i64_1 : i64 1 := ⟨by decide, by decide⟩
theorem i64_3 : i64 3 := ⟨by decide, by decide⟩
theorem i64_4 : i64 4 := ⟨by decide, by decide⟩
theorem rOp_ok (l : List UInt8) (hl : l.length ≤ 1000000) : (rOp l).1.ok := by
  have a1 := rNum_le l
  have a2 := rTxt_size (rNum l).2
  have a3 := rNum_i64 l
  unfold rOp
  split
  · exact ⟨i64_1, by simp only; omega, rRaw_ok _, zR_ok, i64_0⟩
  · split
    · exact ⟨i64_3, by simp only; omega, rRaw_ok _, rRaw_ok _, i64_0⟩
    · split
      · exact ⟨i64_4, by simp only; omega, zR_ok, zR_ok, rNum_i64 _⟩
      · exact ⟨a3, by simp only; omega, zR_ok, zR_ok, i64_0⟩
theorem rOps_ok (k : Nat) (l : List UInt8) (hl : l.length ≤ 1000000) : ∀ x ∈ (rOps k l).1, x.ok := by
  induction k with
  | zero => intro x hx; cases hx
  | succ k ih =>
    intro x hx
    simp only [rOps, List.mem_append, List.mem_singleton] at hx
    rcases hx with hx | rfl
    · exact ih x hx
    · exact rOp_ok _ (by have := rOps_le k l; omega)
theorem rBat_ok (l : List UInt8) (hl : l.length ≤ 1000000) : (rBat l).1.ok := by
  have a1 := rNum_le l
  have a2 := rNum_le (rNum l).2
  have a3 := rNum_le (rNum (rNum l).2).2
  exact ⟨rNum_i64 _, rNum_i64 _, rOps_ok _ _ (by omega)⟩
theorem rBat_len (l : List UInt8) : (rBat l).1.ops.length ≤ 8 := by
  unfold rBat; simp only [rOps_len]; omega
theorem rbat_any (g B : Nat) (l : List UInt8) (w : World) (hr : Rdr w g B l) (hl : l.length ≤ 1000000) :
    Calls Try.prog 35 #[.pointer (some ⟨g, 0, none⟩)] w fun e w' => ∃ A c, e = .returned (.agg #[.int .i64 (rBat l).1.client, .int .i64 (rBat l).1.seq, .slice A (rBat l).1.ops.length c]) ∧ OwnO w.heap.size (.slice A (rBat l).1.ops.length c) (rBat l).1.ops w' ∧ w.grownBy w' (some g) := by
  obtain ⟨⟨bc, l1⟩, e1⟩ : ∃ r, rNum l = r := ⟨_, rfl⟩
  obtain ⟨⟨bq, l2⟩, e2⟩ : ∃ r, rNum l1 = r := ⟨_, rfl⟩
  obtain ⟨⟨n, l3⟩, e3⟩ : ∃ r, rNum l2 = r := ⟨_, rfl⟩
  have h := rbat_walk g B (min n 8).toNat l l1 l2 l3 bc bq n w hr hl e1 e2 e3 rfl
  unfold rBat
  simp only [e1, e2, e3, rOps_len]
  exact h
/-- what Decode tells: a batch just of its bytes -/
def okB (l : List UInt8) : Bool := mayB (rBat l).1 && bytesB (rBat l).1 == l
def decR (l : List UInt8) : Bat × Int := if okB l then ((rBat l).1, 0) else (⟨0, 0, []⟩, 1)
def DecR (l : List UInt8) (w : World) (e : Ending) (w' : World) : Prop := ∃ A c, e = .returned (.tuple #[.agg #[.int .i64 (decR l).1.client, .int .i64 (decR l).1.seq, .slice A (decR l).1.ops.length c], .int .i64 (decR l).2]) ∧ OwnO w.heap.size (.slice A (decR l).1.ops.length c) (decR l).1.ops w' ∧ Below w.heap.size w w'
/-- a batch's bytes are told as that batch -/
theorem rNum_p {l r : List UInt8} {n : Int} (h : pNum l = some (n, r)) : rNum l = (n, r) := by
  unfold pNum at h; unfold rNum
  split at h
  · simpa using h
  · cases h
theorem rTxt_p {l r : List UInt8} {s : ByteArray} (h : pTxt l = some (s, r)) : rTxt l = (s, r) := by
  unfold pTxt at h; unfold rTxt
  split at h
  · simpa using h
  · cases h
theorem rRaw_p {l r : List UInt8} {s : Raw} (h : pRaw l = some (s, r)) : rRaw l = (s, r) := by
  unfold pRaw at h; unfold rRaw
  split at h
  · simpa using h
  · cases h
theorem rOp_p {l r : List UInt8} {o : Opn} (h : pOp l = some (o, r)) : rOp l = (o, r) := by
  unfold pOp at h
  obtain ⟨⟨k, l1⟩, h1, ha⟩ := Option.bind_eq_some_iff.1 h
  clear h
  obtain ⟨⟨key, l2⟩, h2, hb⟩ := Option.bind_eq_some_iff.1 ha
  clear ha
  simp only at h2 hb
  unfold rOp
  rw [rNum_p h1]; simp only; rw [rTxt_p h2]; simp only
  clear h1 h2
  by_cases e1 : k = 1
  · rw [if_pos e1] at hb ⊢
    obtain ⟨⟨v, l3⟩, h3, hc⟩ := Option.bind_eq_some_iff.1 hb
    rw [rRaw_p h3]; simpa using hc
  · rw [if_neg e1] at hb ⊢
    by_cases e2 : k = 2
    · rw [if_pos e2] at hb; subst e2
      simpa using hb
    · rw [if_neg e2] at hb
      by_cases e3 : k = 3
      · rw [if_pos e3] at hb ⊢
        obtain ⟨⟨v, l3⟩, h3, hc⟩ := Option.bind_eq_some_iff.1 hb
        obtain ⟨⟨q, l4⟩, h4, hd⟩ := Option.bind_eq_some_iff.1 hc
        simp only at h4
        rw [rRaw_p h3]; simp only; rw [rRaw_p h4]; simpa using hd
      · rw [if_neg e3] at hb ⊢
        by_cases e4 : k = 4
        · rw [if_pos e4] at hb ⊢
          obtain ⟨⟨v, l3⟩, h3, hc⟩ := Option.bind_eq_some_iff.1 hb
          rw [rNum_p h3]; simpa using hc
        · rw [if_neg e4] at hb; cases hb
theorem rOps_cons (n : Nat) (l : List UInt8) : rOps (n + 1) l = ((rOp l).1 :: (rOps n (rOp l).2).1, (rOps n (rOp l).2).2) := by
  induction n with
  | zero => rfl
  | succ n ih =>
    rw [rOps, ih]
    rfl
theorem rOps_p : ∀ (n : Nat) {l r : List UInt8} {os : List Opn}, pOps n l = some (os, r) → rOps n l = (os, r)
  | 0, l, r, os, h => by simp only [pOps, Option.some.injEq] at h; exact h
  | n + 1, l, r, os, h => by
    unfold pOps at h
    obtain ⟨⟨o, l1⟩, h1, ha⟩ := Option.bind_eq_some_iff.1 h
    clear h
    obtain ⟨⟨os', l2⟩, h2, hb⟩ := Option.bind_eq_some_iff.1 ha
    clear ha
    simp only [Option.some.injEq, Prod.mk.injEq] at h2 hb
    rw [rOps_cons, rOp_p h1]
    simp only
    rw [rOps_p n h2, ← hb.1, ← hb.2]
/-- a batch's bytes are told as that batch -/
theorem rBat_bytes (b : Bat) (h : mayB b = true) (hok : b.ok) : rBat (bytesB b) = (b, []) := by
  have hl := mayB_len h
  have hp := pBat_bytesB b [] h hok
  rw [List.append_nil] at hp
  unfold pBat at hp
  obtain ⟨⟨c, l1⟩, h1, ha⟩ := Option.bind_eq_some_iff.1 hp
  clear hp
  obtain ⟨⟨q, l2⟩, h2, hb⟩ := Option.bind_eq_some_iff.1 ha
  clear ha
  obtain ⟨⟨n, l3⟩, h3, hc⟩ := Option.bind_eq_some_iff.1 hb
  clear hb
  obtain ⟨⟨os, l4⟩, h4, hd⟩ := Option.bind_eq_some_iff.1 hc
  clear hc
  simp only [Option.some.injEq, Prod.mk.injEq] at h2 h3 h4 hd
  have e1 := rNum_p h1
  have e2 := rNum_p h2
  have e3 := rNum_p h3
  have e4 := rOps_p _ h4
  have hos : os.length = n.toNat := by have := rOps_len n.toNat l3; rw [e4] at this; exact this
  have hbo : b.ops = os := by rw [← hd.1]
  have hmin : (min n 8).toNat = n.toNat := by rw [hbo] at hl; omega
  unfold rBat
  rw [e1]; simp only; rw [e2]; simp only; rw [e3]; simp only
  rw [hmin, e4, ← hd.1, ← hd.2]
theorem okB_bytes (b : Bat) (h : mayB b = true) (hok : b.ok) : okB (bytesB b) = true ∧ decR (bytesB b) = (b, 0) := by
  have e := rBat_bytes b h hok
  have h1 : okB (bytesB b) = true := by unfold okB; rw [e, h]; simp
  exact ⟨h1, by unfold decR; rw [if_pos h1, e]⟩
end Go.Proofs.Ytdhppekfehbngaa
/-
  Package op's Decode, walked: it tells a batch just of a batch's bytes.
  The bytes are there in memory, at most 1,000,000.
-/
namespace Go.Proofs.Ytdhppekfehbngaa
open Go.RowKit
set_option maxRecDepth 100000

theorem nil_guard (x y : Operand) (W : World) : (eqGuard .eql 34 x y (.slice none 0 0) (.slice none 0 0)).run Try.prog W = .ok () W := by
  cases x <;> cases y <;> kernel_rfl
theorem nil_eql (W : World) : (binOp .eql 34 (.slice none 0 0) (.slice none 0 0)).run Try.prog W = .ok (.bool true) W := by kernel_rfl
theorem some_guard (x y : Operand) (a : Addr) (n c : Nat) (W : World) : (eqGuard .eql 34 x y (.slice (some a) n c) (.slice none 0 0)).run Try.prog W = .ok () W := by
  cases x <;> cases y <;> kernel_rfl
theorem some_eql (a : Addr) (n c : Nat) (W : World) : (binOp .eql 34 (.slice (some a) n c) (.slice none 0 0)).run Try.prog W = .ok (.bool false) W := by kernel_rfl
theorem decR_no {l : List UInt8} (h : okB l = false) : decR l = (⟨0, 0, []⟩, 1) := by unfold decR; rw [h]; rfl
theorem decR_yes {l : List UInt8} (h : okB l = true) : decR l = ((rBat l).1, 0) := by unfold decR; rw [h]; rfl
set_option maxHeartbeats 1000000 in
theorem odecode_any (A : Option Addr) (c B : Nat) (l : List UInt8) (w : World) (hby : Byt w B (.slice A l.length c) l) (hB : B ≤ w.heap.size) (hl : l.length ≤ 1000000) :
    Calls Try.prog 19 #[.slice A l.length c] w (DecR l w) := by
  obtain ⟨⟨bc, bq, ops⟩, hd⟩ : ∃ d, (rBat l).1 = d := ⟨_, rfl⟩
  have hok := rBat_ok l hl
  have hlen8 := rBat_len l
  have hokB : okB l = (mayB ⟨bc, bq, ops⟩ && bytesB ⟨bc, bq, ops⟩ == l) := by unfold okB; rw [hd]
  rw [hd] at hok hlen8
  have ng := nil_guard
  have ne := nil_eql
  have sg := some_guard
  have se := some_eql
  have HOKB := Lib.hid hokB; clear hokB
  have HD := Lib.hid hd; clear hd
  have HBY := Lib.hid hby; clear hby
  go_enter Try.func19, Try.ntmps19
  go_wp2_with fail
  refine (rbat_any (w.heap.size + 1) B l _ ⟨A, c, by go_simp, by go_simp, HBY.out.below (below_two w _ _) hB, by omega, by simp⟩ hl).mono ?_
  rintro e k1 ⟨A1, c1, rfl, hO, h⟩
  rw [HD.out] at hO ⊢
  simp only at hO ⊢
  have hb : Below w.heap.size w k1 := (below_two w _ _).grown h (by simp; omega) (fun k hk => by injection hk; omega)
  have hz := h.size
  simp at hz
  have r0 : k1.cell? ⟨w.heap.size, 0, none⟩ = some (.int .i64 0) := (h.cell_far ⟨w.heap.size, 0, none⟩ (by simp; omega) (by simp)).trans (by go_simp)
  have r1 : k1.cell? ⟨w.heap.size, 1, none⟩ = some (.int .i64 0) := (h.cell_far ⟨w.heap.size, 1, none⟩ (by simp; omega) (by simp)).trans (by go_simp)
  have r2 : k1.cell? ⟨w.heap.size, 2, none⟩ = some (.slice none 0 0) := (h.cell_far ⟨w.heap.size, 2, none⟩ (by simp; omega) (by simp)).trans (by go_simp)
  have rf0 : k1.frozen? ⟨w.heap.size, 0, none⟩ = false := (h.frozen_far ⟨w.heap.size, 0, none⟩ (by simp; omega) (by simp)).trans (by go_simp)
  have rf1 : k1.frozen? ⟨w.heap.size, 1, none⟩ = false := (h.frozen_far ⟨w.heap.size, 1, none⟩ (by simp; omega) (by simp)).trans (by go_simp)
  have rf2 : k1.frozen? ⟨w.heap.size, 2, none⟩ = false := (h.frozen_far ⟨w.heap.size, 2, none⟩ (by simp; omega) (by simp)).trans (by go_simp)
  clear h
  have : w.heap.size < k1.heap.size := by omega
  have hoB : ∀ V, Below k1.heap.size k1 V → OwnO (w.heap.size + 2) (.slice A1 ops.length c1) ops V := fun V hV => by
    have h2 := OwnO.below hO hV
    simpa using h2
  clear hO
  have HOB := Lib.hid hoB; clear hoB
  have hbk : Below k1.heap.size k1 k1 := Below.refl _ _
  go_wp2_with fail
  refine (oenc_any _ _ ⟨bc, bq, ops⟩ _ ⟨_, rfl, (Ops.of_own (HOB.out _ (below_one k1 _)))⟩ (Nat.le_refl _) hok).mono ?_
  rintro e k2 ⟨A2, c2, rfl, hE, hnil, h⟩
  have hk : Below k1.heap.size k1 k2 := by
    refine Below.trans ?_ (h.mono (by first | (simp; done) | (simp; omega) | omega))
    repeat' (first | exact Below.refl _ _ | refine Below.alloc ?_ (by first | (simp; done) | (simp; omega) | omega) _ | refine Below.setCell ?_ (by first | (simp; done) | (simp; omega) | omega) _)
  replace r0 : k2.cell? ⟨w.heap.size, 0, none⟩ = some (.int .i64 0) := (hk.cell (p := ⟨w.heap.size, 0, none⟩) (by first | (simp; done) | (simp; omega) | omega)).trans r0
  replace r1 : k2.cell? ⟨w.heap.size, 1, none⟩ = some (.int .i64 0) := (hk.cell (p := ⟨w.heap.size, 1, none⟩) (by first | (simp; done) | (simp; omega) | omega)).trans r1
  replace r2 : k2.cell? ⟨w.heap.size, 2, none⟩ = some (.slice none 0 0) := (hk.cell (p := ⟨w.heap.size, 2, none⟩) (by first | (simp; done) | (simp; omega) | omega)).trans r2
  replace rf0 : k2.frozen? ⟨w.heap.size, 0, none⟩ = false := (hk.frozen (p := ⟨w.heap.size, 0, none⟩) (by first | (simp; done) | (simp; omega) | omega)).trans rf0
  replace rf1 : k2.frozen? ⟨w.heap.size, 1, none⟩ = false := (hk.frozen (p := ⟨w.heap.size, 1, none⟩) (by first | (simp; done) | (simp; omega) | omega)).trans rf1
  replace rf2 : k2.frozen? ⟨w.heap.size, 2, none⟩ = false := (hk.frozen (p := ⟨w.heap.size, 2, none⟩) (by first | (simp; done) | (simp; omega) | omega)).trans rf2
  have hz := h.size
  try simp at hz
  have b0 : k2.cell? ⟨k1.heap.size, 0, none⟩ = some (.int .i64 bc) := (h.cell (p := ⟨k1.heap.size, 0, none⟩) (by first | (simp; done) | (simp; omega) | omega)).trans (by go_simp)
  have b1 : k2.cell? ⟨k1.heap.size, 1, none⟩ = some (.int .i64 bq) := (h.cell (p := ⟨k1.heap.size, 1, none⟩) (by first | (simp; done) | (simp; omega) | omega)).trans (by go_simp)
  have b2 : k2.cell? ⟨k1.heap.size, 2, none⟩ = some (.slice A1 ops.length c1) := (h.cell (p := ⟨k1.heap.size, 2, none⟩) (by first | (simp; done) | (simp; omega) | omega)).trans (by go_simp)
  have : w.heap.size < k2.heap.size := by omega
  have : k1.heap.size < k2.heap.size := by omega
  replace hbk : Below k1.heap.size k1 k2 := (below_one k1 _).trans (h.mono (by simp))
  replace hb : Below w.heap.size w k2 := hb.trans (hk.mono hb.size)
  clear h hk
  have HE := Lib.hid hE; clear hE
  have HNIL := Lib.hid hnil; clear hnil
  cases hmm : mayB ⟨bc, bq, ops⟩
  · obtain ⟨rfl, rfl⟩ := HNIL.out hmm
    have he0 : (encB ⟨bc, bq, ops⟩).length = 0 := by unfold encB; rw [hmm]; rfl
    rw [he0]
    have hT : okB l = false := by rw [HOKB.out, hmm]; rfl
    have HT := Lib.hid hT; clear hT
    clear hmm
    go_wp2
    refine body_world (fun W => W.cell? ⟨w.heap.size, 0, none⟩ = some (.int .i64 0) ∧ W.cell? ⟨w.heap.size, 1, none⟩ = some (.int .i64 0) ∧ W.cell? ⟨w.heap.size, 2, none⟩ = some (.slice none 0 0) ∧ True ∧ Below w.heap.size w W) ⟨by go_simp, by go_simp, by go_simp, trivial, by
      repeat' (first | with_reducible exact hb | (with_reducible refine Below.setCell ?_ ?_ _) | exact Nat.le_refl _)⟩ ?_
    rintro W ⟨q0, q1, q2, hOW, hbW⟩
    refine bodyPost_ret (v := .tuple #[.agg #[.int .i64 0, .int .i64 0, .slice none 0 0], .int .i64 1]) (by simp [results, Try.results19, go_sem, q0, q1, q2]) rfl ?_
    have e := decR_no HT.out
    unfold DecR
    rw [e]
    exact ⟨none, 0, rfl, World.ownsRow_nil _ _ _ _, hbW⟩
  · obtain ⟨ge, rfl⟩ := enc_cases HE.out hmm
    have he : encB ⟨bc, bq, ops⟩ = bytesB ⟨bc, bq, ops⟩ := by unfold encB; rw [hmm]; rfl
    obtain ⟨eb, heb⟩ : ∃ eb, encB ⟨bc, bq, ops⟩ = eb := ⟨_, rfl⟩
    obtain ⟨x, hx⟩ : ∃ x, (eb == l) = x := ⟨_, rfl⟩
    have hT : okB l = x := by rw [HOKB.out, hmm, ← he, heb, hx]; rfl
    have HEE := HE.out
    rw [heb] at HEE ⊢
    have HE2 := Lib.hid HEE; clear HEE
    have HT := Lib.hid hT; clear hT
    have HX := Lib.hid hx; clear hx
    clear hmm he heb
    go_wp2_with fail
    refine (equal_is _ _ _ _ _ _ _ _ eb l x _ (Byt.of_own HE2.out) (HBY.out.below hb hB) HX.out).mono ?_
    rintro e k3 ⟨rfl, rfl⟩
    cases x
    · go_wp2
      refine body_world (fun W => W.cell? ⟨w.heap.size, 0, none⟩ = some (.int .i64 0) ∧ W.cell? ⟨w.heap.size, 1, none⟩ = some (.int .i64 0) ∧ W.cell? ⟨w.heap.size, 2, none⟩ = some (.slice none 0 0) ∧ True ∧ Below w.heap.size w W) ⟨by go_simp, by go_simp, by go_simp, trivial, by
        repeat' (first | with_reducible exact hb | (with_reducible refine Below.setCell ?_ ?_ _) | exact Nat.le_refl _)⟩ ?_
      rintro W ⟨q0, q1, q2, hOW, hbW⟩
      refine bodyPost_ret (v := .tuple #[.agg #[.int .i64 0, .int .i64 0, .slice none 0 0], .int .i64 1]) (by simp [results, Try.results19, go_sem, q0, q1, q2]) rfl ?_
      have e := decR_no HT.out
      unfold DecR
      rw [e]
      exact ⟨none, 0, rfl, World.ownsRow_nil _ _ _ _, hbW⟩
    · go_wp2
      refine body_world (fun W => W.cell? ⟨w.heap.size, 0, none⟩ = some (.int .i64 bc) ∧ W.cell? ⟨w.heap.size, 1, none⟩ = some (.int .i64 bq) ∧ W.cell? ⟨w.heap.size, 2, none⟩ = some (.slice A1 ops.length c1) ∧ OwnO w.heap.size (.slice A1 ops.length c1) ops W ∧ Below w.heap.size w W) ⟨by go_simp, by go_simp, by go_simp, ownO_down (ownsRow_set (ownsRow_set (ownsRow_set (HOB.out _ hbk) (by show w.heap.size < w.heap.size + 2; omega)) (by show w.heap.size < w.heap.size + 2; omega)) (by show w.heap.size < w.heap.size + 2; omega)) (by omega), by
        repeat' (first | with_reducible exact hb | (with_reducible refine Below.setCell ?_ ?_ _) | exact Nat.le_refl _)⟩ ?_
      rintro W ⟨q0, q1, q2, hOW, hbW⟩
      refine bodyPost_ret (v := .tuple #[.agg #[.int .i64 bc, .int .i64 bq, .slice A1 ops.length c1], .int .i64 0]) (by simp [results, Try.results19, go_sem, q0, q1, q2]) rfl ?_
      have e := decR_yes HT.out
      rw [HD.out] at e
      unfold DecR
      rw [e]
      exact ⟨A1, c1, rfl, hOW, hbW⟩
end Go.Proofs.Ytdhppekfehbngaa
/-
  What the laws of stage 5 begin with: one batch that may be.
  There are no conditions.
-/
namespace Go.Proofs.Ytdhppekfehbngaa
open Go.RowKit
set_option maxRecDepth 100000

def o0 : Opn := ⟨2, ⟨#[107]⟩, zR, zR, 0⟩
def b0 : Bat := ⟨1, 2, [o0]⟩
def l0 : List UInt8 := [2, 4, 2, 4, 2, 107]
theorem may0 : mayB b0 = true := by decide +kernel
theorem enc0 : encB b0 = l0 := by decide +kernel
theorem ok0 : b0.ok := by
  refine ⟨⟨by decide, by decide⟩, ⟨by decide, by decide⟩, fun x hx => ?_⟩
  have : x = o0 := by simpa [b0] using hx
  subst this
  exact ⟨⟨by decide, by decide⟩, by decide, ⟨⟨by decide, by decide⟩, ⟨by decide, by decide⟩, by decide⟩, ⟨⟨by decide, by decide⟩, ⟨by decide, by decide⟩, by decide⟩, ⟨by decide, by decide⟩⟩
theorem dec0 : decR l0 = (b0, 0) := by
  have h := (okB_bytes b0 may0 ok0).2
  have e : bytesB b0 = l0 := by have := enc0; unfold encB at this; rw [may0] at this; exact this
  rw [e] at h; exact h
theorem dec1 : decR (l0 ++ [0]) = (⟨0, 0, []⟩, 1) := decR_no (by decide +kernel)
theorem mayo0 : mayO o0 = true := by decide +kernel
theorem mayoz : mayO ⟨0, ⟨#[]⟩, zR, zR, 0⟩ = false := by decide +kernel
theorem decode_to (A : Option Addr) (n c B : Nat) (l : List UInt8) (dc dq : Int) (ds : List Opn) (k : Int) (w : World) (hby : Byt w B (.slice A n c) l) (hB : B ≤ w.heap.size) (hl : l.length ≤ 1000000) (hd : decR l = (⟨dc, dq, ds⟩, k)) :
    Calls Try.prog 19 #[.slice A n c] w fun e w' => ∃ A2 c2, e = .returned (.tuple #[.agg #[.int .i64 dc, .int .i64 dq, .slice A2 ds.length c2], .int .i64 k]) ∧ OwnO w.heap.size (.slice A2 ds.length c2) ds w' ∧ Below w.heap.size w w' := by
  obtain rfl : n = l.length := by obtain ⟨A', c', hv, _⟩ := hby; injection hv
  have h := odecode_any A c B l w hby hB hl
  unfold DecR at h; rw [hd] at h; exact h
theorem oenc_to (B : Nat) (v : Value) (b : Bat) (l : List UInt8) (w : World) (h : BatV w B v b) (hB : B ≤ w.heap.size) (hok : b.ok) (hl : encB b = l) (hm : mayB b = true) :
    Calls Try.prog 16 #[v] w fun e w' => ∃ g c, e = .returned (.slice (some ⟨g, 0, none⟩) l.length c) ∧ OwnB w.heap.size (.slice (some ⟨g, 0, none⟩) l.length c) l w' ∧ Below w.heap.size w w' := by
  refine (oenc_any B v b w h hB hok).mono ?_
  rintro e w' ⟨A, c, rfl, hE, _, hb⟩
  obtain ⟨g, rfl⟩ := enc_cases hE hm
  rw [hl] at hE ⊢
  exact ⟨g, c, rfl, hE, hb⟩
theorem omayB_is (B : Nat) (v : Value) (b : Bat) (x : Bool) (w : World) (h : BatV w B v b) (hB : B ≤ w.heap.size) (hok : b.ok) (hx : mayB b = x) : Calls Try.prog 17 #[v] w (Bl x w) := by
  rw [← hx]; exact omayB_any B v b w h hB hok
theorem byt_at1 (w : World) (t : TypeId) (a : Int) (c : UInt8) (n : Nat) (hn : n = w.heap.size) (h : a = (c.toNat : Int)) : Byt (w.alloc (.cells #[.int .u8 a] t)) (n + 1) (.slice (some ⟨n, 0, none⟩) 1 1) [c] := by
  subst hn; exact byt_new1 w t a c h
theorem ops_one (W : World) (g B : Nat) (x : Opn) (h : W.rangeAt g 0 x.cs) (hg : g < B) : Ops W B (.slice (some ⟨g, 0, none⟩) 1 1) [x] :=
  ⟨_, _, rfl, Nat.le_refl _, fun _ => ⟨g, 0, rfl, hg, fun k hk => by
    have : k = 0 := by simp at hk; omega
    subst this; simpa using h⟩⟩
theorem range9 {W : World} {g : Nat} {a b c d e f h i j : Value} (h0 : W.cell? ⟨g, 0, none⟩ = some a) (h1 : W.cell? ⟨g, 1, none⟩ = some b) (h2 : W.cell? ⟨g, 2, none⟩ = some c) (h3 : W.cell? ⟨g, 3, none⟩ = some d) (h4 : W.cell? ⟨g, 4, none⟩ = some e) (h5 : W.cell? ⟨g, 5, none⟩ = some f) (h6 : W.cell? ⟨g, 6, none⟩ = some h) (h7 : W.cell? ⟨g, 7, none⟩ = some i) (h8 : W.cell? ⟨g, 8, none⟩ = some j) : W.rangeAt g 0 [a, b, c, d, e, f, h, i, j] := by
  intro k v hv
  rw [Nat.zero_add]
  have hk : k < 9 := by have := (List.getElem?_eq_some_iff.1 hv).1; simpa using this
  have h9 : k = 0 ∨ k = 1 ∨ k = 2 ∨ k = 3 ∨ k = 4 ∨ k = 5 ∨ k = 6 ∨ k = 7 ∨ k = 8 := by omega
  rcases h9 with rfl | rfl | rfl | rfl | rfl | rfl | rfl | rfl | rfl <;> simp at hv <;> subst hv <;> assumption
set_option maxHeartbeats 1000000 in
theorem begun5_any (w : World) : Calls Try.prog 10 #[] w (Bl true w) := by
  have hb := Below.refl w.heap.size w
  go_enter Try.func10, Try.ntmps10
  go_wp2_with fail
  refine (oenc_to (w.heap.size + 1) _ b0 l0 _ ⟨_, rfl, ops_one _ _ _ o0 (range9 (a := .int .i64 2) (b := .string ⟨#[107]⟩) (c := .int .i64 0) (d := .int .i64 0) (e := .string ⟨#[]⟩) (f := .int .i64 0) (h := .int .i64 0) (i := .string ⟨#[]⟩) (j := .int .i64 0) (by go_simp) (by go_simp) (by go_simp) (by go_simp) (by go_simp) (by go_simp) (by go_simp) (by go_simp) (by go_simp)) (Nat.lt_succ_self _)⟩ (by simp) ok0 enc0 may0).mono ?_
  rintro e k1 ⟨ge, ce, rfl, hE, h⟩
  have hk : Below w.heap.size w k1 := by
    refine Below.trans ?_ (h.mono (by first | (simp; done) | (simp; omega) | omega))
    repeat' (first | exact Below.refl _ _ | refine Below.alloc ?_ (by first | (simp; done) | (simp; omega) | omega) _ | refine Below.setCell ?_ (by first | (simp; done) | (simp; omega) | omega) _)
  have hz := h.size
  try simp at hz
  have g0 : k1.cell? ⟨w.heap.size, 0, none⟩ = some (.int .i64 2) := (h.cell (p := ⟨w.heap.size, 0, none⟩) (by first | (simp; done) | (simp; omega) | omega)).trans (by go_simp)
  have g1 : k1.cell? ⟨w.heap.size, 1, none⟩ = some (.string ⟨#[107]⟩) := (h.cell (p := ⟨w.heap.size, 1, none⟩) (by first | (simp; done) | (simp; omega) | omega)).trans (by go_simp)
  have g2 : k1.cell? ⟨w.heap.size, 2, none⟩ = some (.int .i64 0) := (h.cell (p := ⟨w.heap.size, 2, none⟩) (by first | (simp; done) | (simp; omega) | omega)).trans (by go_simp)
  have g3 : k1.cell? ⟨w.heap.size, 3, none⟩ = some (.int .i64 0) := (h.cell (p := ⟨w.heap.size, 3, none⟩) (by first | (simp; done) | (simp; omega) | omega)).trans (by go_simp)
  have g4 : k1.cell? ⟨w.heap.size, 4, none⟩ = some (.string ⟨#[]⟩) := (h.cell (p := ⟨w.heap.size, 4, none⟩) (by first | (simp; done) | (simp; omega) | omega)).trans (by go_simp)
  have g5 : k1.cell? ⟨w.heap.size, 5, none⟩ = some (.int .i64 0) := (h.cell (p := ⟨w.heap.size, 5, none⟩) (by first | (simp; done) | (simp; omega) | omega)).trans (by go_simp)
  have g6 : k1.cell? ⟨w.heap.size, 6, none⟩ = some (.int .i64 0) := (h.cell (p := ⟨w.heap.size, 6, none⟩) (by first | (simp; done) | (simp; omega) | omega)).trans (by go_simp)
  have g7 : k1.cell? ⟨w.heap.size, 7, none⟩ = some (.string ⟨#[]⟩) := (h.cell (p := ⟨w.heap.size, 7, none⟩) (by first | (simp; done) | (simp; omega) | omega)).trans (by go_simp)
  have g8 : k1.cell? ⟨w.heap.size, 8, none⟩ = some (.int .i64 0) := (h.cell (p := ⟨w.heap.size, 8, none⟩) (by first | (simp; done) | (simp; omega) | omega)).trans (by go_simp)
  have q0 : k1.cell? ⟨w.heap.size + 1, 0, none⟩ = some (.int .i64 1) := (h.cell (p := ⟨w.heap.size + 1, 0, none⟩) (by first | (simp; done) | (simp; omega) | omega)).trans (by go_simp)
  have q1 : k1.cell? ⟨w.heap.size + 1, 1, none⟩ = some (.int .i64 2) := (h.cell (p := ⟨w.heap.size + 1, 1, none⟩) (by first | (simp; done) | (simp; omega) | omega)).trans (by go_simp)
  have q2 : k1.cell? ⟨w.heap.size + 1, 2, none⟩ = some (.slice (some ⟨w.heap.size, 0, none⟩) 1 1) := (h.cell (p := ⟨w.heap.size + 1, 2, none⟩) (by first | (simp; done) | (simp; omega) | omega)).trans (by go_simp)
  have : w.heap.size < k1.heap.size := by omega
  have : w.heap.size + 1 < k1.heap.size := by omega
  replace hb : Below w.heap.size w k1 := hb.trans (hk.mono hb.size)
  clear h hk
  have hE1 := Lib.hid (OwnB.down (B := w.heap.size + 2) hE (by simp)); clear hE
  have hge := hE1.out.lt ge rfl
  go_wp2_with fail
  refine (decode_to _ _ _ _ l0 1 2 [o0] 0 _ (Byt.of_own hE1.out) (Nat.le_refl _) (by decide) dec0).mono ?_
  rintro e k2 ⟨A2, c2, rfl, hO, h⟩
  have hk : Below k1.heap.size k1 k2 := by
    refine Below.trans ?_ (h.mono (by first | (simp; done) | (simp; omega) | omega))
    repeat' (first | exact Below.refl _ _ | refine Below.alloc ?_ (by first | (simp; done) | (simp; omega) | omega) _ | refine Below.setCell ?_ (by first | (simp; done) | (simp; omega) | omega) _)
  replace g0 : k2.cell? ⟨w.heap.size, 0, none⟩ = some (.int .i64 2) := (hk.cell (p := ⟨w.heap.size, 0, none⟩) (by first | (simp; done) | (simp; omega) | omega)).trans g0
  replace g1 : k2.cell? ⟨w.heap.size, 1, none⟩ = some (.string ⟨#[107]⟩) := (hk.cell (p := ⟨w.heap.size, 1, none⟩) (by first | (simp; done) | (simp; omega) | omega)).trans g1
  replace g2 : k2.cell? ⟨w.heap.size, 2, none⟩ = some (.int .i64 0) := (hk.cell (p := ⟨w.heap.size, 2, none⟩) (by first | (simp; done) | (simp; omega) | omega)).trans g2
  replace g3 : k2.cell? ⟨w.heap.size, 3, none⟩ = some (.int .i64 0) := (hk.cell (p := ⟨w.heap.size, 3, none⟩) (by first | (simp; done) | (simp; omega) | omega)).trans g3
  replace g4 : k2.cell? ⟨w.heap.size, 4, none⟩ = some (.string ⟨#[]⟩) := (hk.cell (p := ⟨w.heap.size, 4, none⟩) (by first | (simp; done) | (simp; omega) | omega)).trans g4
  replace g5 : k2.cell? ⟨w.heap.size, 5, none⟩ = some (.int .i64 0) := (hk.cell (p := ⟨w.heap.size, 5, none⟩) (by first | (simp; done) | (simp; omega) | omega)).trans g5
  replace g6 : k2.cell? ⟨w.heap.size, 6, none⟩ = some (.int .i64 0) := (hk.cell (p := ⟨w.heap.size, 6, none⟩) (by first | (simp; done) | (simp; omega) | omega)).trans g6
  replace g7 : k2.cell? ⟨w.heap.size, 7, none⟩ = some (.string ⟨#[]⟩) := (hk.cell (p := ⟨w.heap.size, 7, none⟩) (by first | (simp; done) | (simp; omega) | omega)).trans g7
  replace g8 : k2.cell? ⟨w.heap.size, 8, none⟩ = some (.int .i64 0) := (hk.cell (p := ⟨w.heap.size, 8, none⟩) (by first | (simp; done) | (simp; omega) | omega)).trans g8
  replace q0 : k2.cell? ⟨w.heap.size + 1, 0, none⟩ = some (.int .i64 1) := (hk.cell (p := ⟨w.heap.size + 1, 0, none⟩) (by first | (simp; done) | (simp; omega) | omega)).trans q0
  replace q1 : k2.cell? ⟨w.heap.size + 1, 1, none⟩ = some (.int .i64 2) := (hk.cell (p := ⟨w.heap.size + 1, 1, none⟩) (by first | (simp; done) | (simp; omega) | omega)).trans q1
  replace q2 : k2.cell? ⟨w.heap.size + 1, 2, none⟩ = some (.slice (some ⟨w.heap.size, 0, none⟩) 1 1) := (hk.cell (p := ⟨w.heap.size + 1, 2, none⟩) (by first | (simp; done) | (simp; omega) | omega)).trans q2
  have hz := h.size
  try simp at hz
  have : w.heap.size < k2.heap.size := by omega
  have : w.heap.size + 1 < k2.heap.size := by omega
  clear hO
  have hE2 := Lib.hid (hE1.out.below h); clear hE1
  replace hb : Below w.heap.size w k2 := hb.trans (hk.mono hb.size)
  clear h hk
  go_wp2_with (at_builtin; refine wpList_append_byt_at rfl _ _ rfl (w.heap.size + 2) _ _ _ l0 [0] rfl ((hE2.out.alloc _).alloc _) rfl (byt_at1 _ _ 0 0 (k2.heap.size + 1) (by simp) rfl) ?x1 ?x2 ?_)
  case x1 => decide
  case x2 => simp; omega
  intro v3 k3 hE3 h hg3
  have hb : Below w.heap.size w k3 := ((hb.alloc hb.size _).alloc (by have := hb.size; simp; omega) _).trans (h.mono (by omega))
  have hz3 := h.size
  simp at hz3
  have g0N : k3.cell? ⟨w.heap.size, 0, none⟩ = some (.int .i64 2) := hg3.cell (p := ⟨w.heap.size, 0, none⟩) (by go_simp) (by show some ge ≠ some _; intro e; injection e with e; simp only at e; omega)
  have g1N : k3.cell? ⟨w.heap.size, 1, none⟩ = some (.string ⟨#[107]⟩) := hg3.cell (p := ⟨w.heap.size, 1, none⟩) (by go_simp) (by show some ge ≠ some _; intro e; injection e with e; simp only at e; omega)
  have g2N : k3.cell? ⟨w.heap.size, 2, none⟩ = some (.int .i64 0) := hg3.cell (p := ⟨w.heap.size, 2, none⟩) (by go_simp) (by show some ge ≠ some _; intro e; injection e with e; simp only at e; omega)
  have g3N : k3.cell? ⟨w.heap.size, 3, none⟩ = some (.int .i64 0) := hg3.cell (p := ⟨w.heap.size, 3, none⟩) (by go_simp) (by show some ge ≠ some _; intro e; injection e with e; simp only at e; omega)
  have g4N : k3.cell? ⟨w.heap.size, 4, none⟩ = some (.string ⟨#[]⟩) := hg3.cell (p := ⟨w.heap.size, 4, none⟩) (by go_simp) (by show some ge ≠ some _; intro e; injection e with e; simp only at e; omega)
  have g5N : k3.cell? ⟨w.heap.size, 5, none⟩ = some (.int .i64 0) := hg3.cell (p := ⟨w.heap.size, 5, none⟩) (by go_simp) (by show some ge ≠ some _; intro e; injection e with e; simp only at e; omega)
  have g6N : k3.cell? ⟨w.heap.size, 6, none⟩ = some (.int .i64 0) := hg3.cell (p := ⟨w.heap.size, 6, none⟩) (by go_simp) (by show some ge ≠ some _; intro e; injection e with e; simp only at e; omega)
  have g7N : k3.cell? ⟨w.heap.size, 7, none⟩ = some (.string ⟨#[]⟩) := hg3.cell (p := ⟨w.heap.size, 7, none⟩) (by go_simp) (by show some ge ≠ some _; intro e; injection e with e; simp only at e; omega)
  have g8N : k3.cell? ⟨w.heap.size, 8, none⟩ = some (.int .i64 0) := hg3.cell (p := ⟨w.heap.size, 8, none⟩) (by go_simp) (by show some ge ≠ some _; intro e; injection e with e; simp only at e; omega)
  have q0N : k3.cell? ⟨w.heap.size + 1, 0, none⟩ = some (.int .i64 1) := hg3.cell (p := ⟨w.heap.size + 1, 0, none⟩) (by go_simp) (by show some ge ≠ some _; intro e; injection e with e; simp only at e; omega)
  have q1N : k3.cell? ⟨w.heap.size + 1, 1, none⟩ = some (.int .i64 2) := hg3.cell (p := ⟨w.heap.size + 1, 1, none⟩) (by go_simp) (by show some ge ≠ some _; intro e; injection e with e; simp only at e; omega)
  have q2N : k3.cell? ⟨w.heap.size + 1, 2, none⟩ = some (.slice (some ⟨w.heap.size, 0, none⟩) 1 1) := hg3.cell (p := ⟨w.heap.size + 1, 2, none⟩) (by go_simp) (by show some ge ≠ some _; intro e; injection e with e; simp only at e; omega)
  have x0N : k3.cell? ⟨k2.heap.size, 0, none⟩ = some (.int .i64 1) := hg3.cell (p := ⟨k2.heap.size, 0, none⟩) (by go_simp) (by show some ge ≠ some _; intro e; injection e with e; simp only at e; omega)
  have x1N : k3.cell? ⟨k2.heap.size, 1, none⟩ = some (.int .i64 2) := hg3.cell (p := ⟨k2.heap.size, 1, none⟩) (by go_simp) (by show some ge ≠ some _; intro e; injection e with e; simp only at e; omega)
  have x2N : k3.cell? ⟨k2.heap.size, 2, none⟩ = some (.slice A2 [o0].length c2) := hg3.cell (p := ⟨k2.heap.size, 2, none⟩) (by go_simp) (by show some ge ≠ some _; intro e; injection e with e; simp only at e; omega)
  clear g0 g1 g2 g3 g4 g5 g6 g7 g8 q0 q1 q2 hg3 h hE2
  have g0 := g0N; clear g0N
  have g1 := g1N; clear g1N
  have g2 := g2N; clear g2N
  have g3 := g3N; clear g3N
  have g4 := g4N; clear g4N
  have g5 := g5N; clear g5N
  have g6 := g6N; clear g6N
  have g7 := g7N; clear g7N
  have g8 := g8N; clear g8N
  have q0 := q0N; clear q0N
  have q1 := q1N; clear q1N
  have q2 := q2N; clear q2N
  have x0 := x0N; clear x0N
  have x1 := x1N; clear x1N
  have x2 := x2N; clear x2N
  have hE4 := Lib.hid hE3; clear hE3
  have : w.heap.size < k3.heap.size := by omega
  have : w.heap.size + 1 < k3.heap.size := by omega
  have : k2.heap.size < k3.heap.size := by omega
  obtain ⟨A3, c3, rfl⟩ := own_slice hE4.out
  go_wp2_with fail
  refine (decode_to _ _ _ _ (l0 ++ [0]) 0 0 [] 1 _ (Byt.of_own hE4.out) (Nat.le_refl _) (by decide) dec1).mono ?_
  rintro e k4 ⟨A4, c4, rfl, hO, h⟩
  have hk : Below k3.heap.size k3 k4 := by
    refine Below.trans ?_ (h.mono (by first | (simp; done) | (simp; omega) | omega))
    repeat' (first | exact Below.refl _ _ | refine Below.alloc ?_ (by first | (simp; done) | (simp; omega) | omega) _ | refine Below.setCell ?_ (by first | (simp; done) | (simp; omega) | omega) _)
  replace g0 : k4.cell? ⟨w.heap.size, 0, none⟩ = some (.int .i64 2) := (hk.cell (p := ⟨w.heap.size, 0, none⟩) (by first | (simp; done) | (simp; omega) | omega)).trans g0
  replace g1 : k4.cell? ⟨w.heap.size, 1, none⟩ = some (.string ⟨#[107]⟩) := (hk.cell (p := ⟨w.heap.size, 1, none⟩) (by first | (simp; done) | (simp; omega) | omega)).trans g1
  replace g2 : k4.cell? ⟨w.heap.size, 2, none⟩ = some (.int .i64 0) := (hk.cell (p := ⟨w.heap.size, 2, none⟩) (by first | (simp; done) | (simp; omega) | omega)).trans g2
  replace g3 : k4.cell? ⟨w.heap.size, 3, none⟩ = some (.int .i64 0) := (hk.cell (p := ⟨w.heap.size, 3, none⟩) (by first | (simp; done) | (simp; omega) | omega)).trans g3
  replace g4 : k4.cell? ⟨w.heap.size, 4, none⟩ = some (.string ⟨#[]⟩) := (hk.cell (p := ⟨w.heap.size, 4, none⟩) (by first | (simp; done) | (simp; omega) | omega)).trans g4
  replace g5 : k4.cell? ⟨w.heap.size, 5, none⟩ = some (.int .i64 0) := (hk.cell (p := ⟨w.heap.size, 5, none⟩) (by first | (simp; done) | (simp; omega) | omega)).trans g5
  replace g6 : k4.cell? ⟨w.heap.size, 6, none⟩ = some (.int .i64 0) := (hk.cell (p := ⟨w.heap.size, 6, none⟩) (by first | (simp; done) | (simp; omega) | omega)).trans g6
  replace g7 : k4.cell? ⟨w.heap.size, 7, none⟩ = some (.string ⟨#[]⟩) := (hk.cell (p := ⟨w.heap.size, 7, none⟩) (by first | (simp; done) | (simp; omega) | omega)).trans g7
  replace g8 : k4.cell? ⟨w.heap.size, 8, none⟩ = some (.int .i64 0) := (hk.cell (p := ⟨w.heap.size, 8, none⟩) (by first | (simp; done) | (simp; omega) | omega)).trans g8
  replace q0 : k4.cell? ⟨w.heap.size + 1, 0, none⟩ = some (.int .i64 1) := (hk.cell (p := ⟨w.heap.size + 1, 0, none⟩) (by first | (simp; done) | (simp; omega) | omega)).trans q0
  replace q1 : k4.cell? ⟨w.heap.size + 1, 1, none⟩ = some (.int .i64 2) := (hk.cell (p := ⟨w.heap.size + 1, 1, none⟩) (by first | (simp; done) | (simp; omega) | omega)).trans q1
  replace q2 : k4.cell? ⟨w.heap.size + 1, 2, none⟩ = some (.slice (some ⟨w.heap.size, 0, none⟩) 1 1) := (hk.cell (p := ⟨w.heap.size + 1, 2, none⟩) (by first | (simp; done) | (simp; omega) | omega)).trans q2
  replace x0 : k4.cell? ⟨k2.heap.size, 0, none⟩ = some (.int .i64 1) := (hk.cell (p := ⟨k2.heap.size, 0, none⟩) (by first | (simp; done) | (simp; omega) | omega)).trans x0
  replace x1 : k4.cell? ⟨k2.heap.size, 1, none⟩ = some (.int .i64 2) := (hk.cell (p := ⟨k2.heap.size, 1, none⟩) (by first | (simp; done) | (simp; omega) | omega)).trans x1
  replace x2 : k4.cell? ⟨k2.heap.size, 2, none⟩ = some (.slice A2 [o0].length c2) := (hk.cell (p := ⟨k2.heap.size, 2, none⟩) (by first | (simp; done) | (simp; omega) | omega)).trans x2
  have hz := h.size
  try simp at hz
  have : w.heap.size < k4.heap.size := by omega
  have : w.heap.size + 1 < k4.heap.size := by omega
  have : k2.heap.size < k4.heap.size := by omega
  clear hO hE4
  replace hb : Below w.heap.size w k4 := hb.trans (hk.mono hb.size)
  clear h hk
  go_wp2_with fail
  refine (omayB_is (w.heap.size + 1) _ b0 true _ ⟨_, rfl, (ops_one _ _ _ o0 (range9 (a := .int .i64 2) (b := .string ⟨#[107]⟩) (c := .int .i64 0) (d := .int .i64 0) (e := .string ⟨#[]⟩) (f := .int .i64 0) (h := .int .i64 0) (i := .string ⟨#[]⟩) (j := .int .i64 0) (W := _) (by go_simp) (by go_simp) (by go_simp) (by go_simp) (by go_simp) (by go_simp) (by go_simp) (by go_simp) (by go_simp)) (Nat.lt_succ_self _))⟩ (by simp; omega) ok0 may0).mono ?_
  rintro e k5 ⟨rfl, h⟩
  have hk : Below k4.heap.size k4 k5 := by
    refine Below.trans ?_ (h.mono (by first | (simp; done) | (simp; omega) | omega))
    repeat' (first | exact Below.refl _ _ | refine Below.alloc ?_ (by first | (simp; done) | (simp; omega) | omega) _ | refine Below.setCell ?_ (by first | (simp; done) | (simp; omega) | omega) _)
  replace g0 : k5.cell? ⟨w.heap.size, 0, none⟩ = some (.int .i64 2) := (hk.cell (p := ⟨w.heap.size, 0, none⟩) (by first | (simp; done) | (simp; omega) | omega)).trans g0
  replace g1 : k5.cell? ⟨w.heap.size, 1, none⟩ = some (.string ⟨#[107]⟩) := (hk.cell (p := ⟨w.heap.size, 1, none⟩) (by first | (simp; done) | (simp; omega) | omega)).trans g1
  replace g2 : k5.cell? ⟨w.heap.size, 2, none⟩ = some (.int .i64 0) := (hk.cell (p := ⟨w.heap.size, 2, none⟩) (by first | (simp; done) | (simp; omega) | omega)).trans g2
  replace g3 : k5.cell? ⟨w.heap.size, 3, none⟩ = some (.int .i64 0) := (hk.cell (p := ⟨w.heap.size, 3, none⟩) (by first | (simp; done) | (simp; omega) | omega)).trans g3
  replace g4 : k5.cell? ⟨w.heap.size, 4, none⟩ = some (.string ⟨#[]⟩) := (hk.cell (p := ⟨w.heap.size, 4, none⟩) (by first | (simp; done) | (simp; omega) | omega)).trans g4
  replace g5 : k5.cell? ⟨w.heap.size, 5, none⟩ = some (.int .i64 0) := (hk.cell (p := ⟨w.heap.size, 5, none⟩) (by first | (simp; done) | (simp; omega) | omega)).trans g5
  replace g6 : k5.cell? ⟨w.heap.size, 6, none⟩ = some (.int .i64 0) := (hk.cell (p := ⟨w.heap.size, 6, none⟩) (by first | (simp; done) | (simp; omega) | omega)).trans g6
  replace g7 : k5.cell? ⟨w.heap.size, 7, none⟩ = some (.string ⟨#[]⟩) := (hk.cell (p := ⟨w.heap.size, 7, none⟩) (by first | (simp; done) | (simp; omega) | omega)).trans g7
  replace g8 : k5.cell? ⟨w.heap.size, 8, none⟩ = some (.int .i64 0) := (hk.cell (p := ⟨w.heap.size, 8, none⟩) (by first | (simp; done) | (simp; omega) | omega)).trans g8
  replace q0 : k5.cell? ⟨w.heap.size + 1, 0, none⟩ = some (.int .i64 1) := (hk.cell (p := ⟨w.heap.size + 1, 0, none⟩) (by first | (simp; done) | (simp; omega) | omega)).trans q0
  replace q1 : k5.cell? ⟨w.heap.size + 1, 1, none⟩ = some (.int .i64 2) := (hk.cell (p := ⟨w.heap.size + 1, 1, none⟩) (by first | (simp; done) | (simp; omega) | omega)).trans q1
  replace q2 : k5.cell? ⟨w.heap.size + 1, 2, none⟩ = some (.slice (some ⟨w.heap.size, 0, none⟩) 1 1) := (hk.cell (p := ⟨w.heap.size + 1, 2, none⟩) (by first | (simp; done) | (simp; omega) | omega)).trans q2
  replace x0 : k5.cell? ⟨k2.heap.size, 0, none⟩ = some (.int .i64 1) := (hk.cell (p := ⟨k2.heap.size, 0, none⟩) (by first | (simp; done) | (simp; omega) | omega)).trans x0
  replace x1 : k5.cell? ⟨k2.heap.size, 1, none⟩ = some (.int .i64 2) := (hk.cell (p := ⟨k2.heap.size, 1, none⟩) (by first | (simp; done) | (simp; omega) | omega)).trans x1
  replace x2 : k5.cell? ⟨k2.heap.size, 2, none⟩ = some (.slice A2 [o0].length c2) := (hk.cell (p := ⟨k2.heap.size, 2, none⟩) (by first | (simp; done) | (simp; omega) | omega)).trans x2
  have hz := h.size
  try simp at hz
  have y0 : k5.cell? ⟨k4.heap.size, 0, none⟩ = some (.int .i64 0) := (h.cell (p := ⟨k4.heap.size, 0, none⟩) (by first | (simp; done) | (simp; omega) | omega)).trans (by go_simp)
  have y1 : k5.cell? ⟨k4.heap.size, 1, none⟩ = some (.int .i64 0) := (h.cell (p := ⟨k4.heap.size, 1, none⟩) (by first | (simp; done) | (simp; omega) | omega)).trans (by go_simp)
  have y2 : k5.cell? ⟨k4.heap.size, 2, none⟩ = some (.slice A4 0 c4) := (h.cell (p := ⟨k4.heap.size, 2, none⟩) (by first | (simp; done) | (simp; omega) | omega)).trans (by go_simp)
  have : w.heap.size < k5.heap.size := by omega
  have : w.heap.size + 1 < k5.heap.size := by omega
  have : k2.heap.size < k5.heap.size := by omega
  have : k4.heap.size < k5.heap.size := by omega
  replace hb : Below w.heap.size w k5 := hb.trans (hk.mono hb.size)
  clear h hk
  go_wp2_with fail
  refine (omay_is _ o0 true _ rfl ⟨by decide, by decide, by decide⟩ mayo0).mono ?_
  rintro e k6 ⟨rfl, h⟩
  have hk : Below k5.heap.size k5 k6 := by
    refine Below.trans ?_ (h.mono (by first | (simp; done) | (simp; omega) | omega))
    repeat' (first | exact Below.refl _ _ | refine Below.alloc ?_ (by first | (simp; done) | (simp; omega) | omega) _ | refine Below.setCell ?_ (by first | (simp; done) | (simp; omega) | omega) _)
  replace g0 : k6.cell? ⟨w.heap.size, 0, none⟩ = some (.int .i64 2) := (hk.cell (p := ⟨w.heap.size, 0, none⟩) (by first | (simp; done) | (simp; omega) | omega)).trans g0
  replace g1 : k6.cell? ⟨w.heap.size, 1, none⟩ = some (.string ⟨#[107]⟩) := (hk.cell (p := ⟨w.heap.size, 1, none⟩) (by first | (simp; done) | (simp; omega) | omega)).trans g1
  replace g2 : k6.cell? ⟨w.heap.size, 2, none⟩ = some (.int .i64 0) := (hk.cell (p := ⟨w.heap.size, 2, none⟩) (by first | (simp; done) | (simp; omega) | omega)).trans g2
  replace g3 : k6.cell? ⟨w.heap.size, 3, none⟩ = some (.int .i64 0) := (hk.cell (p := ⟨w.heap.size, 3, none⟩) (by first | (simp; done) | (simp; omega) | omega)).trans g3
  replace g4 : k6.cell? ⟨w.heap.size, 4, none⟩ = some (.string ⟨#[]⟩) := (hk.cell (p := ⟨w.heap.size, 4, none⟩) (by first | (simp; done) | (simp; omega) | omega)).trans g4
  replace g5 : k6.cell? ⟨w.heap.size, 5, none⟩ = some (.int .i64 0) := (hk.cell (p := ⟨w.heap.size, 5, none⟩) (by first | (simp; done) | (simp; omega) | omega)).trans g5
  replace g6 : k6.cell? ⟨w.heap.size, 6, none⟩ = some (.int .i64 0) := (hk.cell (p := ⟨w.heap.size, 6, none⟩) (by first | (simp; done) | (simp; omega) | omega)).trans g6
  replace g7 : k6.cell? ⟨w.heap.size, 7, none⟩ = some (.string ⟨#[]⟩) := (hk.cell (p := ⟨w.heap.size, 7, none⟩) (by first | (simp; done) | (simp; omega) | omega)).trans g7
  replace g8 : k6.cell? ⟨w.heap.size, 8, none⟩ = some (.int .i64 0) := (hk.cell (p := ⟨w.heap.size, 8, none⟩) (by first | (simp; done) | (simp; omega) | omega)).trans g8
  replace q0 : k6.cell? ⟨w.heap.size + 1, 0, none⟩ = some (.int .i64 1) := (hk.cell (p := ⟨w.heap.size + 1, 0, none⟩) (by first | (simp; done) | (simp; omega) | omega)).trans q0
  replace q1 : k6.cell? ⟨w.heap.size + 1, 1, none⟩ = some (.int .i64 2) := (hk.cell (p := ⟨w.heap.size + 1, 1, none⟩) (by first | (simp; done) | (simp; omega) | omega)).trans q1
  replace q2 : k6.cell? ⟨w.heap.size + 1, 2, none⟩ = some (.slice (some ⟨w.heap.size, 0, none⟩) 1 1) := (hk.cell (p := ⟨w.heap.size + 1, 2, none⟩) (by first | (simp; done) | (simp; omega) | omega)).trans q2
  replace x0 : k6.cell? ⟨k2.heap.size, 0, none⟩ = some (.int .i64 1) := (hk.cell (p := ⟨k2.heap.size, 0, none⟩) (by first | (simp; done) | (simp; omega) | omega)).trans x0
  replace x1 : k6.cell? ⟨k2.heap.size, 1, none⟩ = some (.int .i64 2) := (hk.cell (p := ⟨k2.heap.size, 1, none⟩) (by first | (simp; done) | (simp; omega) | omega)).trans x1
  replace x2 : k6.cell? ⟨k2.heap.size, 2, none⟩ = some (.slice A2 [o0].length c2) := (hk.cell (p := ⟨k2.heap.size, 2, none⟩) (by first | (simp; done) | (simp; omega) | omega)).trans x2
  replace y0 : k6.cell? ⟨k4.heap.size, 0, none⟩ = some (.int .i64 0) := (hk.cell (p := ⟨k4.heap.size, 0, none⟩) (by first | (simp; done) | (simp; omega) | omega)).trans y0
  replace y1 : k6.cell? ⟨k4.heap.size, 1, none⟩ = some (.int .i64 0) := (hk.cell (p := ⟨k4.heap.size, 1, none⟩) (by first | (simp; done) | (simp; omega) | omega)).trans y1
  replace y2 : k6.cell? ⟨k4.heap.size, 2, none⟩ = some (.slice A4 0 c4) := (hk.cell (p := ⟨k4.heap.size, 2, none⟩) (by first | (simp; done) | (simp; omega) | omega)).trans y2
  have hz := h.size
  try simp at hz
  have : w.heap.size < k6.heap.size := by omega
  have : w.heap.size + 1 < k6.heap.size := by omega
  have : k2.heap.size < k6.heap.size := by omega
  have : k4.heap.size < k6.heap.size := by omega
  replace hb : Below w.heap.size w k6 := hb.trans (hk.mono hb.size)
  clear h hk
  go_wp2_with fail
  refine (omay_is _ ⟨0, ⟨#[]⟩, zR, zR, 0⟩ false _ rfl ⟨by decide, by decide, by decide⟩ mayoz).mono ?_
  rintro e k7 ⟨rfl, h⟩
  have hk : Below k6.heap.size k6 k7 := by
    refine Below.trans ?_ (h.mono (by first | (simp; done) | (simp; omega) | omega))
    repeat' (first | exact Below.refl _ _ | refine Below.alloc ?_ (by first | (simp; done) | (simp; omega) | omega) _ | refine Below.setCell ?_ (by first | (simp; done) | (simp; omega) | omega) _)
  replace g0 : k7.cell? ⟨w.heap.size, 0, none⟩ = some (.int .i64 2) := (hk.cell (p := ⟨w.heap.size, 0, none⟩) (by first | (simp; done) | (simp; omega) | omega)).trans g0
  replace g1 : k7.cell? ⟨w.heap.size, 1, none⟩ = some (.string ⟨#[107]⟩) := (hk.cell (p := ⟨w.heap.size, 1, none⟩) (by first | (simp; done) | (simp; omega) | omega)).trans g1
  replace g2 : k7.cell? ⟨w.heap.size, 2, none⟩ = some (.int .i64 0) := (hk.cell (p := ⟨w.heap.size, 2, none⟩) (by first | (simp; done) | (simp; omega) | omega)).trans g2
  replace g3 : k7.cell? ⟨w.heap.size, 3, none⟩ = some (.int .i64 0) := (hk.cell (p := ⟨w.heap.size, 3, none⟩) (by first | (simp; done) | (simp; omega) | omega)).trans g3
  replace g4 : k7.cell? ⟨w.heap.size, 4, none⟩ = some (.string ⟨#[]⟩) := (hk.cell (p := ⟨w.heap.size, 4, none⟩) (by first | (simp; done) | (simp; omega) | omega)).trans g4
  replace g5 : k7.cell? ⟨w.heap.size, 5, none⟩ = some (.int .i64 0) := (hk.cell (p := ⟨w.heap.size, 5, none⟩) (by first | (simp; done) | (simp; omega) | omega)).trans g5
  replace g6 : k7.cell? ⟨w.heap.size, 6, none⟩ = some (.int .i64 0) := (hk.cell (p := ⟨w.heap.size, 6, none⟩) (by first | (simp; done) | (simp; omega) | omega)).trans g6
  replace g7 : k7.cell? ⟨w.heap.size, 7, none⟩ = some (.string ⟨#[]⟩) := (hk.cell (p := ⟨w.heap.size, 7, none⟩) (by first | (simp; done) | (simp; omega) | omega)).trans g7
  replace g8 : k7.cell? ⟨w.heap.size, 8, none⟩ = some (.int .i64 0) := (hk.cell (p := ⟨w.heap.size, 8, none⟩) (by first | (simp; done) | (simp; omega) | omega)).trans g8
  replace q0 : k7.cell? ⟨w.heap.size + 1, 0, none⟩ = some (.int .i64 1) := (hk.cell (p := ⟨w.heap.size + 1, 0, none⟩) (by first | (simp; done) | (simp; omega) | omega)).trans q0
  replace q1 : k7.cell? ⟨w.heap.size + 1, 1, none⟩ = some (.int .i64 2) := (hk.cell (p := ⟨w.heap.size + 1, 1, none⟩) (by first | (simp; done) | (simp; omega) | omega)).trans q1
  replace q2 : k7.cell? ⟨w.heap.size + 1, 2, none⟩ = some (.slice (some ⟨w.heap.size, 0, none⟩) 1 1) := (hk.cell (p := ⟨w.heap.size + 1, 2, none⟩) (by first | (simp; done) | (simp; omega) | omega)).trans q2
  replace x0 : k7.cell? ⟨k2.heap.size, 0, none⟩ = some (.int .i64 1) := (hk.cell (p := ⟨k2.heap.size, 0, none⟩) (by first | (simp; done) | (simp; omega) | omega)).trans x0
  replace x1 : k7.cell? ⟨k2.heap.size, 1, none⟩ = some (.int .i64 2) := (hk.cell (p := ⟨k2.heap.size, 1, none⟩) (by first | (simp; done) | (simp; omega) | omega)).trans x1
  replace x2 : k7.cell? ⟨k2.heap.size, 2, none⟩ = some (.slice A2 [o0].length c2) := (hk.cell (p := ⟨k2.heap.size, 2, none⟩) (by first | (simp; done) | (simp; omega) | omega)).trans x2
  replace y0 : k7.cell? ⟨k4.heap.size, 0, none⟩ = some (.int .i64 0) := (hk.cell (p := ⟨k4.heap.size, 0, none⟩) (by first | (simp; done) | (simp; omega) | omega)).trans y0
  replace y1 : k7.cell? ⟨k4.heap.size, 1, none⟩ = some (.int .i64 0) := (hk.cell (p := ⟨k4.heap.size, 1, none⟩) (by first | (simp; done) | (simp; omega) | omega)).trans y1
  replace y2 : k7.cell? ⟨k4.heap.size, 2, none⟩ = some (.slice A4 0 c4) := (hk.cell (p := ⟨k4.heap.size, 2, none⟩) (by first | (simp; done) | (simp; omega) | omega)).trans y2
  have hz := h.size
  try simp at hz
  have : w.heap.size < k7.heap.size := by omega
  have : w.heap.size + 1 < k7.heap.size := by omega
  have : k2.heap.size < k7.heap.size := by omega
  have : k4.heap.size < k7.heap.size := by omega
  replace hb : Below w.heap.size w k7 := hb.trans (hk.mono hb.size)
  clear h hk
  go_wp2
  go_ret
  exact ⟨rfl, hb⟩
end Go.Proofs.Ytdhppekfehbngaa
