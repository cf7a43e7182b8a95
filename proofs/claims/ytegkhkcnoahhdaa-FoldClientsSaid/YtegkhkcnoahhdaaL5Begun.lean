/-
  Package op's Decode tells a batch just of a batch's bytes, whatever bytes came in.
  The bytes are there in memory, at most 1,000,000.
-/
import Derived.Test.YtegkhkcnoahhdaaOpReadBatch
import Derived.Test.YtegkhkcnoahhdaaShelf
import Derived.Test.YtegkhkcnoahhdaaWAppend
set_option linter.unusedSimpArgs false
set_option linter.unusedVariables false
namespace Go.Proofs.Ytegkhkcnoahhdaa
open Go.RowKit
set_option maxRecDepth 100000

theorem byt_in {w : World} {B : Nat} {A : Option Addr} {n c : Nat} {l : List UInt8} (h : Byt w B (.slice A n c) l) : Lib.BytesIn w A n (l.map fun x => (x.toNat : Int)) := by
  obtain ⟨A', c', hv, _, hcell⟩ := h
  injection hv with e1 e2 _; subst e1; subst e2
  intro hn
  obtain ⟨g, o, rfl, _, hcs⟩ := hcell hn
  refine ⟨g, o, rfl, fun i hi => ?_⟩
  rw [hcs i hi]; simp [hi]
theorem bytesOf_map (l : List UInt8) : Lib.bytesOf (l.map fun x => (x.toNat : Int)) = l := by
  unfold Lib.bytesOf; rw [List.map_map]
  conv => rhs; rw [← List.map_id l]
  apply List.map_congr_left; intro x _; simp
theorem equal_is (A1 A2 : Option Addr) (n1 n2 c1 c2 B1 B2 : Nat) (l m : List UInt8) (b : Bool) (w : World) (h1 : Byt w B1 (.slice A1 n1 c1) l) (h2 : Byt w B2 (.slice A2 n2 c2) m) (hb : (l == m) = b) :
    Calls Try.prog 39 #[.slice A1 n1 c1, .slice A2 n2 c2] w fun e w' => e = .returned (.bool b) ∧ w' = w := by
  have e1 : n1 = l.length := by obtain ⟨_, _, hv, _⟩ := h1; injection hv
  have e2 : n2 = m.length := by obtain ⟨_, _, hv, _⟩ := h2; injection hv
  have h := Try.bytes_Equal_all A1 A2 n1 c1 n2 c2 _ _ w (by rw [List.length_map, e1]) (by rw [List.length_map, e2]) (byt_in h1) (byt_in h2)
  rw [bytesOf_map, bytesOf_map, hb] at h
  exact h
theorem getF_0 : ∀ (l : List UInt8) (i u w : Nat), (Nu.getF i u w l).2.2 ≠ 0 → (Nu.getF i u w l).1 = 0 := by
  intro l; induction l with
  | nil => intro i u w _; rfl
  | cons c t ih =>
    intro i u w h
    simp only [Nu.getF] at h ⊢
    split
    · rfl
    · rename_i h1
      rw [if_neg h1] at h
      split
      · rename_i h2; rw [if_pos h2] at h; exact absurd rfl h
      · rename_i h2; rw [if_neg h2] at h; exact ih _ _ _ h
theorem get_i64 (l : List UInt8) : i64 (Nu.get l).1 := by
  obtain ⟨⟨n, k, e⟩, hr⟩ : ∃ r, Nu.get l = r := ⟨_, rfl⟩
  by_cases he : e = 0
  · subst he
    have h := Nu.get_canon l n k hr
    rw [hr]; exact h.2.2
  · have h0 : (Nu.get l).1 = 0 := getF_0 l 0 0 1 (by show (Nu.get l).2.2 ≠ 0; rw [hr]; exact he)
    rw [h0]; exact ⟨by decide, by decide⟩
theorem rNum_i64 (l : List UInt8) : i64 (rNum l).1 := get_i64 l
theorem rTxt_size (l : List UInt8) : (rTxt l).1.size ≤ l.length := by
  have := getT_le l
  unfold rTxt
  show (Nu.getT l).1.toArray.size ≤ _
  simpa using this
theorem rRaw_ok (l : List UInt8) : (rRaw l).1.ok := by
  unfold rRaw
  simp only
  by_cases he : (getR l).2.2 = 0
  · exact (getR_canon l (getR l).1 (getR l).2.1 (by rw [← he])).2.2.2
  · have : (getR l).1 = noRaw := by
      revert he; unfold getR; repeat' split
      all_goals simp
    rw [this]; exact ⟨⟨by decide, by decide⟩, ⟨by decide, by decide⟩, by decide⟩
theorem zRd_ok : zR.ok := ⟨⟨by decide, by decide⟩, ⟨by decide, by decide⟩, by decide⟩
theorem i64_0 : i64 0 := ⟨by decide, by decide⟩
theorem i64_1 : i64 1 := ⟨by decide, by decide⟩
theorem i64_3 : i64 3 := ⟨by decide, by decide⟩
theorem i64_4 : i64 4 := ⟨by decide, by decide⟩
theorem rOp_ok (l : List UInt8) (hl : l.length ≤ 1000000) : (rOp l).1.ok := by
  have a1 := rNum_le l
  have a2 := rTxt_size (rNum l).2
  have a3 := rNum_i64 l
  unfold rOp
  split
  · exact ⟨i64_1, by simp only; omega, rRaw_ok _, zRd_ok, i64_0⟩
  · split
    · exact ⟨i64_3, by simp only; omega, rRaw_ok _, rRaw_ok _, i64_0⟩
    · split
      · exact ⟨i64_4, by simp only; omega, zRd_ok, zRd_ok, rNum_i64 _⟩
      · exact ⟨a3, by simp only; omega, zRd_ok, zRd_ok, i64_0⟩
theorem rOps_ok (k : Nat) (l : List UInt8) (hl : l.length ≤ 1000000) : ∀ x ∈ (rOps k l).1, x.ok := by
  induction k with
  | zero => intro x hx; cases hx
  | succ k ih =>
    intro x hx
    simp only [rOps, List.mem_append, List.mem_singleton] at hx
    rcases hx with hx | rfl
    · exact ih x hx
    · exact rOp_ok _ (by have := rOps_le k l; omega)
theorem rBat_ok (l : List UInt8) (hl : l.length ≤ 1000000) : (rBat l).1.ok := by
  have a1 := rNum_le l
  have a2 := rNum_le (rNum l).2
  have a3 := rNum_le (rNum (rNum l).2).2
  exact ⟨rNum_i64 _, rNum_i64 _, rOps_ok _ _ (by omega)⟩
theorem rBat_len (l : List UInt8) : (rBat l).1.ops.length ≤ 8 := by
  unfold rBat; simp only [rOps_len]; omega
theorem rbat_any (g B : Nat) (l : List UInt8) (w : World) (hr : Rdr w g B l) (hl : l.length ≤ 1000000) :
    Calls Try.prog 38 #[.pointer (some ⟨g, 0, none⟩)] w fun e w' => ∃ A c, e = .returned (.agg #[.int .i64 (rBat l).1.client, .int .i64 (rBat l).1.seq, .slice A (rBat l).1.ops.length c]) ∧ OwnO w.heap.size (.slice A (rBat l).1.ops.length c) (rBat l).1.ops w' ∧ w.grownBy w' (some g) := by
  obtain ⟨⟨bc, l1⟩, e1⟩ : ∃ r, rNum l = r := ⟨_, rfl⟩
  obtain ⟨⟨bq, l2⟩, e2⟩ : ∃ r, rNum l1 = r := ⟨_, rfl⟩
  obtain ⟨⟨n, l3⟩, e3⟩ : ∃ r, rNum l2 = r := ⟨_, rfl⟩
  have h := rbat_walk g B (min n 8).toNat l l1 l2 l3 bc bq n w hr hl e1 e2 e3 rfl
  unfold rBat
  simp only [e1, e2, e3, rOps_len]
  exact h
/-- what Decode tells: a batch just of its bytes -/
def okB (l : List UInt8) : Bool := mayB (rBat l).1 && bytesB (rBat l).1 == l
def decR (l : List UInt8) : Bat × Int := if okB l then ((rBat l).1, 0) else (⟨0, 0, []⟩, 1)
def DecR (l : List UInt8) (w : World) (e : Ending) (w' : World) : Prop := ∃ A c, e = .returned (.tuple #[.agg #[.int .i64 (decR l).1.client, .int .i64 (decR l).1.seq, .slice A (decR l).1.ops.length c], .int .i64 (decR l).2]) ∧ OwnO w.heap.size (.slice A (decR l).1.ops.length c) (decR l).1.ops w' ∧ Below w.heap.size w w'
/-- a batch's bytes are told as that batch -/
theorem rNum_p {l r : List UInt8} {n : Int} (h : pNum l = some (n, r)) : rNum l = (n, r) := by
  unfold pNum at h; unfold rNum
  split at h
  · simpa using h
  · cases h
theorem rTxt_p {l r : List UInt8} {s : ByteArray} (h : pTxt l = some (s, r)) : rTxt l = (s, r) := by
  unfold pTxt at h; unfold rTxt
  split at h
  · simpa using h
  · cases h
theorem rRaw_p {l r : List UInt8} {s : Raw} (h : pRaw l = some (s, r)) : rRaw l = (s, r) := by
  unfold pRaw at h; unfold rRaw
  split at h
  · simpa using h
  · cases h
theorem rOp_p {l r : List UInt8} {o : Opn} (h : pOp l = some (o, r)) : rOp l = (o, r) := by
  unfold pOp at h
  obtain ⟨⟨k, l1⟩, h1, ha⟩ := Option.bind_eq_some_iff.1 h
  clear h
  obtain ⟨⟨key, l2⟩, h2, hb⟩ := Option.bind_eq_some_iff.1 ha
  clear ha
  simp only at h2 hb
  unfold rOp
  rw [rNum_p h1]; simp only; rw [rTxt_p h2]; simp only
  clear h1 h2
  by_cases e1 : k = 1
  · rw [if_pos e1] at hb ⊢
    obtain ⟨⟨v, l3⟩, h3, hc⟩ := Option.bind_eq_some_iff.1 hb
    rw [rRaw_p h3]; simpa using hc
  · rw [if_neg e1] at hb ⊢
    by_cases e2 : k = 2
    · rw [if_pos e2] at hb; subst e2
      simpa using hb
    · rw [if_neg e2] at hb
      by_cases e3 : k = 3
      · rw [if_pos e3] at hb ⊢
        obtain ⟨⟨v, l3⟩, h3, hc⟩ := Option.bind_eq_some_iff.1 hb
        obtain ⟨⟨q, l4⟩, h4, hd⟩ := Option.bind_eq_some_iff.1 hc
        simp only at h4
        rw [rRaw_p h3]; simp only; rw [rRaw_p h4]; simpa using hd
      · rw [if_neg e3] at hb ⊢
        by_cases e4 : k = 4
        · rw [if_pos e4] at hb ⊢
          obtain ⟨⟨v, l3⟩, h3, hc⟩ := Option.bind_eq_some_iff.1 hb
          rw [rNum_p h3]; simpa using hc
        · rw [if_neg e4] at hb; cases hb
theorem rOps_cons (n : Nat) (l : List UInt8) : rOps (n + 1) l = ((rOp l).1 :: (rOps n (rOp l).2).1, (rOps n (rOp l).2).2) := by
  induction n with
  | zero => rfl
  | succ n ih =>
    rw [rOps, ih]
    rfl
theorem rOps_p : ∀ (n : Nat) {l r : List UInt8} {os : List Opn}, pOps n l = some (os, r) → rOps n l = (os, r)
  | 0, l, r, os, h => by simp only [pOps, Option.some.injEq] at h; exact h
  | n + 1, l, r, os, h => by
    unfold pOps at h
    obtain ⟨⟨o, l1⟩, h1, ha⟩ := Option.bind_eq_some_iff.1 h
    clear h
    obtain ⟨⟨os', l2⟩, h2, hb⟩ := Option.bind_eq_some_iff.1 ha
    clear ha
    simp only [Option.some.injEq, Prod.mk.injEq] at h2 hb
    rw [rOps_cons, rOp_p h1]
    simp only
    rw [rOps_p n h2, ← hb.1, ← hb.2]
/-- a batch's bytes are told as that batch -/
theorem rBat_bytes (b : Bat) (h : mayB b = true) (hok : b.ok) : rBat (bytesB b) = (b, []) := by
  have hl := mayB_len h
  have hp := pBat_bytesB b [] h hok
  rw [List.append_nil] at hp
  unfold pBat at hp
  obtain ⟨⟨c, l1⟩, h1, ha⟩ := Option.bind_eq_some_iff.1 hp
  clear hp
  obtain ⟨⟨q, l2⟩, h2, hb⟩ := Option.bind_eq_some_iff.1 ha
  clear ha
  obtain ⟨⟨n, l3⟩, h3, hc⟩ := Option.bind_eq_some_iff.1 hb
  clear hb
  obtain ⟨⟨os, l4⟩, h4, hd⟩ := Option.bind_eq_some_iff.1 hc
  clear hc
  simp only [Option.some.injEq, Prod.mk.injEq] at h2 h3 h4 hd
  have e1 := rNum_p h1
  have e2 := rNum_p h2
  have e3 := rNum_p h3
  have e4 := rOps_p _ h4
  have hos : os.length = n.toNat := by have := rOps_len n.toNat l3; rw [e4] at this; exact this
  have hbo : b.ops = os := by rw [← hd.1]
  have hmin : (min n 8).toNat = n.toNat := by rw [hbo] at hl; omega
  unfold rBat
  rw [e1]; simp only; rw [e2]; simp only; rw [e3]; simp only
  rw [hmin, e4, ← hd.1, ← hd.2]
theorem okB_bytes (b : Bat) (h : mayB b = true) (hok : b.ok) : okB (bytesB b) = true ∧ decR (bytesB b) = (b, 0) := by
  have e := rBat_bytes b h hok
  have h1 : okB (bytesB b) = true := by unfold okB; rw [e, h]; simp
  exact ⟨h1, by unfold decR; rw [if_pos h1, e]⟩
end Go.Proofs.Ytegkhkcnoahhdaa
/-
  Package op's Decode, walked: it tells a batch just of a batch's bytes.
  The bytes are there in memory, at most 1,000,000.
-/
namespace Go.Proofs.Ytegkhkcnoahhdaa
open Go.RowKit
set_option maxRecDepth 100000

theorem nil_guard (x y : Operand) (W : World) : (eqGuard .eql 22 x y (.slice none 0 0) (.slice none 0 0)).run Try.prog W = .ok () W := by
  cases x <;> cases y <;> kernel_rfl
theorem nil_eql (W : World) : (binOp .eql 22 (.slice none 0 0) (.slice none 0 0)).run Try.prog W = .ok (.bool true) W := by kernel_rfl
theorem some_guard (x y : Operand) (a : Addr) (n c : Nat) (W : World) : (eqGuard .eql 22 x y (.slice (some a) n c) (.slice none 0 0)).run Try.prog W = .ok () W := by
  cases x <;> cases y <;> kernel_rfl
theorem some_eql (a : Addr) (n c : Nat) (W : World) : (binOp .eql 22 (.slice (some a) n c) (.slice none 0 0)).run Try.prog W = .ok (.bool false) W := by kernel_rfl
theorem decR_no {l : List UInt8} (h : okB l = false) : decR l = (⟨0, 0, []⟩, 1) := by unfold decR; rw [h]; rfl
theorem decR_yes {l : List UInt8} (h : okB l = true) : decR l = ((rBat l).1, 0) := by unfold decR; rw [h]; rfl
set_option maxHeartbeats 1000000 in
theorem odecode_any (A : Option Addr) (c B : Nat) (l : List UInt8) (w : World) (hby : Byt w B (.slice A l.length c) l) (hB : B ≤ w.heap.size) (hl : l.length ≤ 1000000) :
    Calls Try.prog 23 #[.slice A l.length c] w (DecR l w) := by
  obtain ⟨⟨bc, bq, ops⟩, hd⟩ : ∃ d, (rBat l).1 = d := ⟨_, rfl⟩
  have hok := rBat_ok l hl
  have hlen8 := rBat_len l
  have hokB : okB l = (mayB ⟨bc, bq, ops⟩ && bytesB ⟨bc, bq, ops⟩ == l) := by unfold okB; rw [hd]
  rw [hd] at hok hlen8
  have ng := nil_guard
  have ne := nil_eql
  have sg := some_guard
  have se := some_eql
  have HOKB := Lib.hid hokB; clear hokB
  have HD := Lib.hid hd; clear hd
  have HBY := Lib.hid hby; clear hby
  go_enter Try.func23, Try.ntmps23
  go_wp2_with fail
  refine (rbat_any (w.heap.size + 1) B l _ ⟨A, c, by go_simp, by go_simp, HBY.out.below (below_two w _ _) hB, by omega, by simp⟩ hl).mono ?_
  rintro e k1 ⟨A1, c1, rfl, hO, h⟩
  rw [HD.out] at hO ⊢
  simp only at hO ⊢
  have hb : Below w.heap.size w k1 := (below_two w _ _).grown h (by simp; omega) (fun k hk => by injection hk; omega)
  have hz := h.size
  simp at hz
  have r0 : k1.cell? ⟨w.heap.size, 0, none⟩ = some (.int .i64 0) := (h.cell_far ⟨w.heap.size, 0, none⟩ (by simp; omega) (by simp)).trans (by go_simp)
  have r1 : k1.cell? ⟨w.heap.size, 1, none⟩ = some (.int .i64 0) := (h.cell_far ⟨w.heap.size, 1, none⟩ (by simp; omega) (by simp)).trans (by go_simp)
  have r2 : k1.cell? ⟨w.heap.size, 2, none⟩ = some (.slice none 0 0) := (h.cell_far ⟨w.heap.size, 2, none⟩ (by simp; omega) (by simp)).trans (by go_simp)
  have rf0 : k1.frozen? ⟨w.heap.size, 0, none⟩ = false := (h.frozen_far ⟨w.heap.size, 0, none⟩ (by simp; omega) (by simp)).trans (by go_simp)
  have rf1 : k1.frozen? ⟨w.heap.size, 1, none⟩ = false := (h.frozen_far ⟨w.heap.size, 1, none⟩ (by simp; omega) (by simp)).trans (by go_simp)
  have rf2 : k1.frozen? ⟨w.heap.size, 2, none⟩ = false := (h.frozen_far ⟨w.heap.size, 2, none⟩ (by simp; omega) (by simp)).trans (by go_simp)
  clear h
  have : w.heap.size < k1.heap.size := by omega
  have hoB : ∀ V, Below k1.heap.size k1 V → OwnO (w.heap.size + 2) (.slice A1 ops.length c1) ops V := fun V hV => by
    have h2 := OwnO.below hO hV
    simpa using h2
  clear hO
  have HOB := Lib.hid hoB; clear hoB
  have hbk : Below k1.heap.size k1 k1 := Below.refl _ _
  go_wp2_with fail
  refine (oenc_any _ _ ⟨bc, bq, ops⟩ _ ⟨_, rfl, (Ops.of_own (HOB.out _ (below_one k1 _)))⟩ (Nat.le_refl _) hok).mono ?_
  rintro e k2 ⟨A2, c2, rfl, hE, hnil, h⟩
  have hk : Below k1.heap.size k1 k2 := by
    refine Below.trans ?_ (h.mono (by first | (simp; done) | (simp; omega) | omega))
    repeat' (first | exact Below.refl _ _ | refine Below.alloc ?_ (by first | (simp; done) | (simp; omega) | omega) _ | refine Below.setCell ?_ (by first | (simp; done) | (simp; omega) | omega) _)
  replace r0 : k2.cell? ⟨w.heap.size, 0, none⟩ = some (.int .i64 0) := (hk.cell (p := ⟨w.heap.size, 0, none⟩) (by first | (simp; done) | (simp; omega) | omega)).trans r0
  replace r1 : k2.cell? ⟨w.heap.size, 1, none⟩ = some (.int .i64 0) := (hk.cell (p := ⟨w.heap.size, 1, none⟩) (by first | (simp; done) | (simp; omega) | omega)).trans r1
  replace r2 : k2.cell? ⟨w.heap.size, 2, none⟩ = some (.slice none 0 0) := (hk.cell (p := ⟨w.heap.size, 2, none⟩) (by first | (simp; done) | (simp; omega) | omega)).trans r2
  replace rf0 : k2.frozen? ⟨w.heap.size, 0, none⟩ = false := (hk.frozen (p := ⟨w.heap.size, 0, none⟩) (by first | (simp; done) | (simp; omega) | omega)).trans rf0
  replace rf1 : k2.frozen? ⟨w.heap.size, 1, none⟩ = false := (hk.frozen (p := ⟨w.heap.size, 1, none⟩) (by first | (simp; done) | (simp; omega) | omega)).trans rf1
  replace rf2 : k2.frozen? ⟨w.heap.size, 2, none⟩ = false := (hk.frozen (p := ⟨w.heap.size, 2, none⟩) (by first | (simp; done) | (simp; omega) | omega)).trans rf2
  have hz := h.size
  try simp at hz
  have b0 : k2.cell? ⟨k1.heap.size, 0, none⟩ = some (.int .i64 bc) := (h.cell (p := ⟨k1.heap.size, 0, none⟩) (by first | (simp; done) | (simp; omega) | omega)).trans (by go_simp)
  have b1 : k2.cell? ⟨k1.heap.size, 1, none⟩ = some (.int .i64 bq) := (h.cell (p := ⟨k1.heap.size, 1, none⟩) (by first | (simp; done) | (simp; omega) | omega)).trans (by go_simp)
  have b2 : k2.cell? ⟨k1.heap.size, 2, none⟩ = some (.slice A1 ops.length c1) := (h.cell (p := ⟨k1.heap.size, 2, none⟩) (by first | (simp; done) | (simp; omega) | omega)).trans (by go_simp)
  have : w.heap.size < k2.heap.size := by omega
  have : k1.heap.size < k2.heap.size := by omega
  replace hbk : Below k1.heap.size k1 k2 := (below_one k1 _).trans (h.mono (by simp))
  replace hb : Below w.heap.size w k2 := hb.trans (hk.mono hb.size)
  clear h hk
  have HE := Lib.hid hE; clear hE
  have HNIL := Lib.hid hnil; clear hnil
  cases hmm : mayB ⟨bc, bq, ops⟩
  · obtain ⟨rfl, rfl⟩ := HNIL.out hmm
    have he0 : (encB ⟨bc, bq, ops⟩).length = 0 := by unfold encB; rw [hmm]; rfl
    rw [he0]
    have hT : okB l = false := by rw [HOKB.out, hmm]; rfl
    have HT := Lib.hid hT; clear hT
    clear hmm
    go_wp2
    refine body_world (fun W => W.cell? ⟨w.heap.size, 0, none⟩ = some (.int .i64 0) ∧ W.cell? ⟨w.heap.size, 1, none⟩ = some (.int .i64 0) ∧ W.cell? ⟨w.heap.size, 2, none⟩ = some (.slice none 0 0) ∧ True ∧ Below w.heap.size w W) ⟨by go_simp, by go_simp, by go_simp, trivial, by
      repeat' (first | with_reducible exact hb | (with_reducible refine Below.setCell ?_ ?_ _) | exact Nat.le_refl _)⟩ ?_
    rintro W ⟨q0, q1, q2, hOW, hbW⟩
    refine bodyPost_ret (v := .tuple #[.agg #[.int .i64 0, .int .i64 0, .slice none 0 0], .int .i64 1]) (by simp [results, Try.results23, go_sem, q0, q1, q2]) rfl ?_
    have e := decR_no HT.out
    unfold DecR
    rw [e]
    exact ⟨none, 0, rfl, World.ownsRow_nil _ _ _ _, hbW⟩
  · obtain ⟨ge, rfl⟩ := enc_cases HE.out hmm
    have he : encB ⟨bc, bq, ops⟩ = bytesB ⟨bc, bq, ops⟩ := by unfold encB; rw [hmm]; rfl
    obtain ⟨eb, heb⟩ : ∃ eb, encB ⟨bc, bq, ops⟩ = eb := ⟨_, rfl⟩
    obtain ⟨x, hx⟩ : ∃ x, (eb == l) = x := ⟨_, rfl⟩
    have hT : okB l = x := by rw [HOKB.out, hmm, ← he, heb, hx]; rfl
    have HEE := HE.out
    rw [heb] at HEE ⊢
    have HE2 := Lib.hid HEE; clear HEE
    have HT := Lib.hid hT; clear hT
    have HX := Lib.hid hx; clear hx
    clear hmm he heb
    go_wp2_with fail
    refine (equal_is _ _ _ _ _ _ _ _ eb l x _ (Byt.of_own HE2.out) (HBY.out.below hb hB) HX.out).mono ?_
    rintro e k3 ⟨rfl, rfl⟩
    cases x
    · go_wp2
      refine body_world (fun W => W.cell? ⟨w.heap.size, 0, none⟩ = some (.int .i64 0) ∧ W.cell? ⟨w.heap.size, 1, none⟩ = some (.int .i64 0) ∧ W.cell? ⟨w.heap.size, 2, none⟩ = some (.slice none 0 0) ∧ True ∧ Below w.heap.size w W) ⟨by go_simp, by go_simp, by go_simp, trivial, by
        repeat' (first | with_reducible exact hb | (with_reducible refine Below.setCell ?_ ?_ _) | exact Nat.le_refl _)⟩ ?_
      rintro W ⟨q0, q1, q2, hOW, hbW⟩
      refine bodyPost_ret (v := .tuple #[.agg #[.int .i64 0, .int .i64 0, .slice none 0 0], .int .i64 1]) (by simp [results, Try.results23, go_sem, q0, q1, q2]) rfl ?_
      have e := decR_no HT.out
      unfold DecR
      rw [e]
      exact ⟨none, 0, rfl, World.ownsRow_nil _ _ _ _, hbW⟩
    · go_wp2
      refine body_world (fun W => W.cell? ⟨w.heap.size, 0, none⟩ = some (.int .i64 bc) ∧ W.cell? ⟨w.heap.size, 1, none⟩ = some (.int .i64 bq) ∧ W.cell? ⟨w.heap.size, 2, none⟩ = some (.slice A1 ops.length c1) ∧ OwnO w.heap.size (.slice A1 ops.length c1) ops W ∧ Below w.heap.size w W) ⟨by go_simp, by go_simp, by go_simp, ownO_down (ownsRow_set (ownsRow_set (ownsRow_set (HOB.out _ hbk) (by show w.heap.size < w.heap.size + 2; omega)) (by show w.heap.size < w.heap.size + 2; omega)) (by show w.heap.size < w.heap.size + 2; omega)) (by omega), by
        repeat' (first | with_reducible exact hb | (with_reducible refine Below.setCell ?_ ?_ _) | exact Nat.le_refl _)⟩ ?_
      rintro W ⟨q0, q1, q2, hOW, hbW⟩
      refine bodyPost_ret (v := .tuple #[.agg #[.int .i64 bc, .int .i64 bq, .slice A1 ops.length c1], .int .i64 0]) (by simp [results, Try.results23, go_sem, q0, q1, q2]) rfl ?_
      have e := decR_yes HT.out
      rw [HD.out] at e
      unfold DecR
      rw [e]
      exact ⟨A1, c1, rfl, hOW, hbW⟩
end Go.Proofs.Ytegkhkcnoahhdaa
/-
  What the laws of stage 5 begin with: one batch that may be.
  There are no conditions.
-/
namespace Go.Proofs.Ytegkhkcnoahhdaa
open Go.RowKit
set_option maxRecDepth 100000

def o0 : Opn := ⟨2, ⟨#[107]⟩, zR, zR, 0⟩
def b0 : Bat := ⟨1, 2, [o0]⟩
def l0 : List UInt8 := [2, 4, 2, 4, 2, 107]
theorem may0 : mayB b0 = true := by decide +kernel
theorem enc0 : encB b0 = l0 := by decide +kernel
theorem ok0 : b0.ok := by
  refine ⟨⟨by decide, by decide⟩, ⟨by decide, by decide⟩, fun x hx => ?_⟩
  have : x = o0 := by simpa [b0] using hx
  subst this
  exact ⟨⟨by decide, by decide⟩, by decide, ⟨⟨by decide, by decide⟩, ⟨by decide, by decide⟩, by decide⟩, ⟨⟨by decide, by decide⟩, ⟨by decide, by decide⟩, by decide⟩, ⟨by decide, by decide⟩⟩
theorem dec0 : decR l0 = (b0, 0) := by
  have h := (okB_bytes b0 may0 ok0).2
  have e : bytesB b0 = l0 := by have := enc0; unfold encB at this; rw [may0] at this; exact this
  rw [e] at h; exact h
theorem dec1 : decR (l0 ++ [0]) = (⟨0, 0, []⟩, 1) := decR_no (by decide +kernel)
theorem mayo0 : mayO o0 = true := by decide +kernel
theorem mayoz : mayO ⟨0, ⟨#[]⟩, zR, zR, 0⟩ = false := by decide +kernel
theorem decode_to (A : Option Addr) (n c B : Nat) (l : List UInt8) (dc dq : Int) (ds : List Opn) (k : Int) (w : World) (hby : Byt w B (.slice A n c) l) (hB : B ≤ w.heap.size) (hl : l.length ≤ 1000000) (hd : decR l = (⟨dc, dq, ds⟩, k)) :
    Calls Try.prog 23 #[.slice A n c] w fun e w' => ∃ A2 c2, e = .returned (.tuple #[.agg #[.int .i64 dc, .int .i64 dq, .slice A2 ds.length c2], .int .i64 k]) ∧ OwnO w.heap.size (.slice A2 ds.length c2) ds w' ∧ Below w.heap.size w w' := by
  obtain rfl : n = l.length := by obtain ⟨A', c', hv, _⟩ := hby; injection hv
  have h := odecode_any A c B l w hby hB hl
  unfold DecR at h; rw [hd] at h; exact h
theorem oenc_to (B : Nat) (v : Value) (b : Bat) (l : List UInt8) (w : World) (h : BatV w B v b) (hB : B ≤ w.heap.size) (hok : b.ok) (hl : encB b = l) (hm : mayB b = true) :
    Calls Try.prog 20 #[v] w fun e w' => ∃ g c, e = .returned (.slice (some ⟨g, 0, none⟩) l.length c) ∧ OwnB w.heap.size (.slice (some ⟨g, 0, none⟩) l.length c) l w' ∧ Below w.heap.size w w' := by
  refine (oenc_any B v b w h hB hok).mono ?_
  rintro e w' ⟨A, c, rfl, hE, _, hb⟩
  obtain ⟨g, rfl⟩ := enc_cases hE hm
  rw [hl] at hE ⊢
  exact ⟨g, c, rfl, hE, hb⟩
theorem byt_at1 (w : World) (t : TypeId) (a : Int) (c : UInt8) (n : Nat) (hn : n = w.heap.size) (h : a = (c.toNat : Int)) : Byt (w.alloc (.cells #[.int .u8 a] t)) (n + 1) (.slice (some ⟨n, 0, none⟩) 1 1) [c] := by
  subst hn; exact byt_new1 w t a c h
theorem ops_one (W : World) (g B : Nat) (x : Opn) (h : W.rangeAt g 0 x.cs) (hg : g < B) : Ops W B (.slice (some ⟨g, 0, none⟩) 1 1) [x] :=
  ⟨_, _, rfl, Nat.le_refl _, fun _ => ⟨g, 0, rfl, hg, fun k hk => by
    have : k = 0 := by simp at hk; omega
    subst this; simpa using h⟩⟩
theorem range9 {W : World} {g : Nat} {a b c d e f h i j : Value} (h0 : W.cell? ⟨g, 0, none⟩ = some a) (h1 : W.cell? ⟨g, 1, none⟩ = some b) (h2 : W.cell? ⟨g, 2, none⟩ = some c) (h3 : W.cell? ⟨g, 3, none⟩ = some d) (h4 : W.cell? ⟨g, 4, none⟩ = some e) (h5 : W.cell? ⟨g, 5, none⟩ = some f) (h6 : W.cell? ⟨g, 6, none⟩ = some h) (h7 : W.cell? ⟨g, 7, none⟩ = some i) (h8 : W.cell? ⟨g, 8, none⟩ = some j) : W.rangeAt g 0 [a, b, c, d, e, f, h, i, j] := by
  intro k v hv
  rw [Nat.zero_add]
  have hk : k < 9 := by have := (List.getElem?_eq_some_iff.1 hv).1; simpa using this
  have h9 : k = 0 ∨ k = 1 ∨ k = 2 ∨ k = 3 ∨ k = 4 ∨ k = 5 ∨ k = 6 ∨ k = 7 ∨ k = 8 := by omega
  rcases h9 with rfl | rfl | rfl | rfl | rfl | rfl | rfl | rfl | rfl <;> simp at hv <;> subst hv <;> assumption
end Go.Proofs.Ytegkhkcnoahhdaa
