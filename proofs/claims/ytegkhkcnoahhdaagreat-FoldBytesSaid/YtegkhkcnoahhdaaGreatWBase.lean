/- Plain facts on bytes, runes and their order, with no program in them: decoding, encoding, cutting, folding, comparing. -/
import Derived.Lib.DecodeN
import Derived.Lib.RuneBytes
import Derived.Lib.Strings
import Derived.OrdersHeld
import Derived.WalkLawsBesides
import Derived.WalkSpells
import Derived.BigQuiet
import Derived.Deep.LoopGhost
import Derived.Lib.Hide
set_option linter.unusedVariables false
set_option linter.unusedSimpArgs false
set_option linter.unusedVariables false
namespace Go.Proofs.YtegkhkcnoahhdaaGreat.Ru
open Go
def byt (l : List UInt8) (i : Nat) : Nat := (l.getD i 0).toNat
theorem byt_lt (l : List UInt8) (i : Nat) : byt l i < 256 := (l.getD i 0).toNat_lt
def dcl (l : List UInt8) : Nat × Nat := Lib.decodeN l.length (byt l 0) (byt l 1) (byt l 2) (byt l 3)
theorem get_list (s : ByteArray) (i : Nat) : s.get! i = s.data.toList.getD i 0 := by
 show s.data[i]! = _
 by_cases h : i < s.data.size
 ·rw [getElem!_pos s.data i h]; show _ = (s.data.toList[i]?).getD 0; rw [Array.getElem?_toList, Array.getElem?_eq_getElem h]; rfl
 ·rw [getElem!_neg s.data i h]; show _ = (s.data.toList[i]?).getD 0; rw [Array.getElem?_toList, Array.getElem?_eq_none (Nat.le_of_not_lt h)]; rfl
theorem byt_drop (l : List UInt8) (i k : Nat) : byt (l.drop i) k = byt l (i + k) := by
 simp [byt, List.getD, List.getElem?_drop]
theorem decode_list (s : ByteArray) (i : Nat) : Utf8.decode s i = dcl (s.data.toList.drop i) := by
 have hl : (s.data.toList.drop i).length = s.size - i := by rw [List.length_drop, Array.length_toList]; rfl
 rw [Lib.decode_at]; unfold dcl
 rw [hl, byt_drop, byt_drop, byt_drop, byt_drop, get_list, get_list, get_list, get_list]
 rfl
def fine (x : Nat × Nat) : Bool := x.1 != 65533 || x.2 == 3
set_option maxHeartbeats 2000000 in
theorem decodeN_w (n b0 b1 b2 b3 : Nat) (hn : 1 ≤ n) : 1 ≤ (Lib.decodeN n b0 b1 b2 b3).2 ∧ (Lib.decodeN n b0 b1 b2 b3).2 ≤ n ∧ (Lib.decodeN n b0 b1 b2 b3).2 ≤ 4 := by
 unfold Lib.decodeN
 repeat' split
 all_goals (simp only; omega)
set_option maxHeartbeats 2000000 in
theorem decodeN_r (n b0 b1 b2 b3 : Nat) : (Lib.decodeN n b0 b1 b2 b3).1 < 55296 ∨ (57344 ≤ (Lib.decodeN n b0 b1 b2 b3).1 ∧ (Lib.decodeN n b0 b1 b2 b3).1 ≤ 1114111) := by
 unfold Lib.decodeN
 repeat' split
 all_goals (simp only; omega)
theorem dcl_w (l : List UInt8) (h : l ≠ []) : 1 ≤ (dcl l).2 ∧ (dcl l).2 ≤ l.length ∧ (dcl l).2 ≤ 4 := decodeN_w _ _ _ _ _ (by cases l <;> simp_all)
theorem dcl_r (l : List UInt8) : (dcl l).1 < 55296 ∨ (57344 ≤ (dcl l).1 ∧ (dcl l).1 ≤ 1114111) := decodeN_r _ _ _ _ _
theorem byt_take (l : List UInt8) (k i : Nat) : byt (l.take k) i = if i < k then byt l i else 0 := by
 simp only [byt, List.getD, List.getElem?_take]
 split <;> simp
theorem fine_iff (x : Nat × Nat) : fine x = true ↔ (x.1 ≠ 65533 ∨ x.2 = 3) := by simp [fine]
def rnsF : Nat → List UInt8 → List (Nat × Nat)
 | 0, _ => []
 | f + 1, l => if l = [] then [] else dcl l :: rnsF f (l.drop (dcl l).2)
def rns (l : List UInt8) : List (Nat × Nat) := rnsF l.length l
theorem rnsF_enough (f : Nat) : ∀ g (l : List UInt8), l.length ≤ f → l.length ≤ g → rnsF f l = rnsF g l := by
  induction f with
  | zero => intro g l h _; have : l = [] := by cases l <;> simp_all
            subst this; cases g <;> simp [rnsF]
  | succ f ih =>
    intro g l h hg
    by_cases hl : l = []
    · subst hl; cases g <;> simp [rnsF]
    · have hw := dcl_w l hl
      cases g with
      | zero => exfalso; omega
      | succ g =>
        simp only [rnsF, if_neg hl]
        rw [ih g (l.drop (dcl l).2) (by simp; omega) (by simp; omega)]
@[simp] theorem rns_nil : rns [] = [] := rfl
theorem rns_cons (l : List UInt8) (h : l ≠ []) : rns l = dcl l :: rns (l.drop (dcl l).2) := by
 have hw := dcl_w l h
 obtain ⟨k, hk⟩ : ∃ k, l.length = k + 1 := ⟨l.length - 1, by omega⟩
 unfold rns
 rw [hk]
 simp only [rnsF, if_neg h]
 rw [rnsF_enough k (l.drop (dcl l).2).length _ (by simp; omega) (by simp)]
theorem rns_ind {P : List UInt8 → Prop} (h0 : P []) (h1 : ∀ l, l ≠ [] → P (l.drop (dcl l).2) → P l) (l : List UInt8) : P l := by
  suffices ∀ n (l : List UInt8), l.length ≤ n → P l from this _ l (Nat.le_refl _)
  intro n
  induction n with
  | zero => intro l h; have : l = [] := by cases l <;> simp_all
            subst this; exact h0
  | succ n ih =>
    intro l h
    by_cases hl : l = []
    · subst hl; exact h0
    · have hw := dcl_w l hl
      exact h1 l hl (ih _ (by simp; omega))
def wsum (x : List (Nat × Nat)) : Nat := (x.map (·.2)).sum
@[simp] theorem wsum_nil : wsum [] = 0 := rfl
@[simp] theorem wsum_cons (a : Nat × Nat) (x : List (Nat × Nat)) : wsum (a :: x) = a.2 + wsum x := by simp [wsum]
@[simp] theorem wsum_append (x y : List (Nat × Nat)) : wsum (x ++ y) = wsum x + wsum y := by simp [wsum]
theorem rns_len (l : List UInt8) : (rns l).length ≤ l.length := by
 induction l using rns_ind with
 | h0 => simp
 | h1 l h ih => rw [rns_cons l h]; have := dcl_w l h; rw [List.length_drop] at ih; rw [List.length_cons]; omega
def cnt (l : List UInt8) : Nat := (rns l).length
def vld (l : List UInt8) : Bool := (rns l).all fine
def cutP (k : Nat) (l : List UInt8) : Nat := wsum ((rns l).take k)
@[simp] theorem cutP_zero (l : List UInt8) : cutP 0 l = 0 := by simp [cutP]
@[simp] theorem cutP_nil (k : Nat) : cutP k [] = 0 := by simp [cutP]
theorem byt_cons0 (a : UInt8) (l : List UInt8) : byt (a :: l) 0 = a.toNat := rfl
theorem byt_cons (a : UInt8) (l : List UInt8) (i : Nat) : byt (a :: l) (i + 1) = byt l i := rfl
theorem u8n (n : Nat) (h : n < 256) : (n.toUInt8).toNat = n := by simp [Nat.toUInt8]; omega
def enc (r : Nat) : List UInt8 := Lib.encodeRune (r : Int)
def okr (x : Nat × Nat) : Bool := fine x && decide (32 ≤ x.1) && x.1 != 127
def key (l : List UInt8) : Bool := decide (1 ≤ (rns l).length) && decide ((rns l).length ≤ 40) && (rns l).all okr
set_option maxHeartbeats 4000000 in
theorem decodeN_fffd (n b0 b1 b2 b3 : Nat) (h0 : b0 < 256) (h1 : b1 < 256) (h2 : b2 < 256) (hr : (Lib.decodeN n b0 b1 b2 b3).1 = 65533) : (Lib.decodeN n b0 b1 b2 b3).2 = 3 ↔ (2 < n ∧ b0 = 239 ∧ b1 = 191 ∧ b2 = 189) := by
 revert hr
 unfold Lib.decodeN
 repeat' split
 all_goals (intro hr; omega)
theorem pre3 (l : List UInt8) : (l.take 3 = [239, 191, 189]) ↔ (2 < l.length ∧ byt l 0 = 239 ∧ byt l 1 = 191 ∧ byt l 2 = 189) := by
 constructor
 ·intro h
  have hl : 2 < l.length := by have := congrArg List.length h; simp at this; omega
  have e : ∀ i, i < 3 → byt l i = byt (l.take 3) i := by intro i hi; rw [byt_take, if_pos hi]
  rw [e 0 (by omega), e 1 (by omega), e 2 (by omega), h]
  exact ⟨hl, rfl, rfl, rfl⟩
 ·rintro ⟨hl, h0, h1, h2⟩
  match l, hl with
  | a :: b :: c :: t, _ =>
   simp only [byt_cons0, byt_cons _ _ 0, byt_cons _ _ 1] at h0 h1 h2
   simp only [List.take_succ_cons, List.take_zero]
   rw [show a = 239 from UInt8.toNat_inj.1 h0, show b = 191 from UInt8.toNat_inj.1 h1, show c = 189 from UInt8.toNat_inj.1 h2]
theorem fine_pre (l : List UInt8) (h : l ≠ []) (hr : (dcl l).1 = 65533) : fine (dcl l) = decide (l.take 3 = [239, 191, 189]) := by
 have := decodeN_fffd l.length (byt l 0) (byt l 1) (byt l 2) (byt l 3) (byt_lt _ _) (byt_lt _ _) (byt_lt _ _) hr
 rw [Bool.eq_iff_iff, decide_eq_true_eq, pre3, ← this, fine_iff]
 constructor
 ·rintro (h | h)
  ·exact absurd hr h
  ·exact h
 ·exact .inr
def cmpR : List Nat → List Nat → Bool → Bool
 | [], [], t => t
 | [], _ :: _, _ => true
 | _ :: _, [], _ => false
 | p :: x, q :: y, t => if p = q then cmpR x y t else decide (p < q)
theorem cmpR_total (x : List Nat) : ∀ y t u, (x ≠ y ∨ (t || u) = true) → (cmpR x y t || cmpR y x u) = true := by
 induction x with
 | nil => intro y t u h; cases y <;> simp_all [cmpR]
 | cons p x ih =>
  intro y t u h
  cases y with
  | nil => simp [cmpR]
  | cons q y =>
   simp only [cmpR]
   by_cases e : p = q
   ·subst e; rw [if_pos rfl, if_pos rfl]; apply ih
    rcases h with h | h
    ·exact .inl fun e => h (by rw [e])
    ·exact .inr h
   ·rw [if_neg e, if_neg (Ne.symm e)]; simp; omega
theorem cmpR_trans (x : List Nat) : ∀ y z t u v, (t = true → u = true → v = true) → cmpR x y t = true → cmpR y z u = true → cmpR x z v = true := by
 induction x with
 | nil => intro y z t u v h h1 h2; cases y <;> cases z <;> simp_all [cmpR]
 | cons p x ih =>
  intro y z t u v h h1 h2
  cases y with
  | nil => simp [cmpR] at h1
  | cons q y =>
   cases z with
   | nil => simp [cmpR] at h2
   | cons s z =>
    simp only [cmpR] at h1 h2 ⊢
    by_cases e : p = q
    ·subst e; rw [if_pos rfl] at h1
     by_cases e2 : p = s
     ·subst e2; rw [if_pos rfl] at h2 ⊢; exact ih y z t u v h h1 h2
     ·rw [if_neg e2] at h2 ⊢; exact h2
    ·rw [if_neg e] at h1
     have := of_decide_eq_true h1
     by_cases e2 : q = s
     ·subst e2; rw [if_neg (by omega)]; exact h1
     ·rw [if_neg e2] at h2; have := of_decide_eq_true h2
      rw [if_neg (by omega)]; simp; omega
def runs (l : List UInt8) : List Nat := (rns l).map (·.1)
def les (a b : List UInt8) : Bool := cmpR (runs a) (runs b) (Op.bytesLess a b)
theorem bl_irrefl (a : List UInt8) : Op.bytesLess a a = false := by
 induction a with
 | nil => rfl
 | cons x a ih => simp [Op.bytesLess, ih]
theorem bl_cons (x y : UInt8) (a b : List UInt8) : Op.bytesLess (x :: a) (y :: b) = if x.toNat = y.toNat then Op.bytesLess a b else decide (x.toNat < y.toNat) := by
 have h1 : (x < y) = (x.toNat < y.toNat) := by rw [UInt8.lt_iff_toNat_lt]
 have h2 : (x == y) = decide (x.toNat = y.toNat) := by
  rw [Bool.eq_iff_iff, beq_iff_eq, decide_eq_true_eq, UInt8.toNat_inj]
 simp only [Op.bytesLess, h1, h2]
 split
 ·rename_i h; simp [h]
 ·rename_i h; simp [h]
theorem bl_total (a : List UInt8) : ∀ b, a ≠ b → (Op.bytesLess a b || Op.bytesLess b a) = true := by
 induction a with
 | nil => intro b h; cases b <;> simp_all [Op.bytesLess]
 | cons x a ih =>
  intro b h
  cases b with
  | nil => simp [Op.bytesLess]
  | cons y b =>
   rw [bl_cons, bl_cons]
   by_cases e : x.toNat = y.toNat
   ·rw [if_pos e, if_pos e.symm]
    exact ih b fun e2 => h (by rw [e2, UInt8.toNat_inj.1 e])
   ·rw [if_neg e, if_neg (Ne.symm e)]; simp; omega
theorem bl_trans (a : List UInt8) : ∀ b c, Op.bytesLess a b = true → Op.bytesLess b c = true → Op.bytesLess a c = true := by
 induction a with
 | nil => intro b c h1 h2; cases b <;> cases c <;> simp_all [Op.bytesLess]
 | cons x a ih =>
  intro b c h1 h2
  cases b with
  | nil => simp [Op.bytesLess] at h1
  | cons y b =>
   cases c with
   | nil => simp [Op.bytesLess] at h2
   | cons z c =>
    rw [bl_cons] at h1 h2 ⊢
    by_cases e : x.toNat = y.toNat
    ·rw [if_pos e] at h1
     by_cases e2 : y.toNat = z.toNat
     ·rw [if_pos e2] at h2; rw [if_pos (e.trans e2)]; exact ih b c h1 h2
     ·rw [if_neg e2] at h2; rw [if_neg (by omega)]; rw [e]; exact h2
    ·rw [if_neg e] at h1
     have := of_decide_eq_true h1
     by_cases e2 : y.toNat = z.toNat
     ·rw [if_neg (by omega), ← e2]; exact h1
     ·rw [if_neg e2] at h2; have := of_decide_eq_true h2
      rw [if_neg (by omega)]; simp; omega
theorem les_trans (a b c : List UInt8) (h1 : les a b = true) (h2 : les b c = true) : les a c = true := cmpR_trans _ _ _ _ _ _ (bl_trans a b c) h1 h2
theorem les_total (a b : List UInt8) (h : a ≠ b) : (les a b || les b a) = true := cmpR_total _ _ _ _ (.inr (bl_total a b h))
theorem cmpR_self (x : List Nat) (t : Bool) : cmpR x x t = t := by
 induction x with
 | nil => rfl
 | cons p x ih => simp [cmpR, ih]
theorem les_self (a : List UInt8) : les a a = false := by unfold les; rw [cmpR_self, bl_irrefl]
end Go.Proofs.YtegkhkcnoahhdaaGreat.Ru
/-
Plain facts on texts, runes, values and worlds that the walks of the functions use; no program is named.
-/
namespace Go.Proofs.YtegkhkcnoahhdaaGreat
open Go.RowKit
set_option maxRecDepth 100000
theorem LT9 {P : Prop} (h : P := by first | (simp; done) | (simp; omega) | omega) : P := h
theorem BL9 {P : Prop} (h : P := by repeat' (first | with_reducible exact Below.refl _ _ | (with_reducible refine Below.alloc ?_ ?_ _) | (with_reducible refine Below.setCell ?_ ?_ _) | exact (by first | (simp; done) | (simp; omega) | omega))) : P := h
theorem BB9 {w k l : World} (h : Below w.heap.size w k) (h1 : Below k.heap.size k l := by repeat' (first | with_reducible exact Below.refl _ _ | (with_reducible refine Below.alloc ?_ ?_ _) | (with_reducible refine Below.setCell ?_ ?_ _) | exact (by first | (simp; done) | (simp; omega) | omega))) : Below w.heap.size w l := h.trans (h1.mono h.size)
theorem HK9 {o l k : World} (h : Below l.heap.size l k) (h1 : Below o.heap.size o l := by repeat' (first | with_reducible exact Below.refl _ _ | (with_reducible refine Below.alloc ?_ ?_ _) | (with_reducible refine Below.setCell ?_ ?_ _) | exact (by first | (simp; done) | (simp; omega) | omega))) : Below o.heap.size o k := h1.trans (h.mono h1.size)
theorem P9 : (∀ (t : Array Value) (d : List Deferred) (i : Nat) (v : Value), Act.put ⟨t, d⟩ (some i) v = ⟨t.setIfInBounds i v, d⟩) ∧ (∀ (t : Array Value) (d : List Deferred) (v : Value), Act.put ⟨t, d⟩ none v = ⟨t, d⟩) ∧ (∀ (l : List Value) (i : Nat) (v : Value), l.toArray.setIfInBounds i v = (l.set i v).toArray) ∧ (∀ (x : Value) (l : List Value) (v : Value), (x :: l).set 0 v = v :: l) ∧ (∀ (x : Value) (l : List Value) (i : Nat) (v : Value), (x :: l).set (i + 1) v = x :: l.set i v) := ⟨fun _ _ _ _ => rfl, fun _ _ _ => rfl, fun _ _ _ => by simp, fun _ _ _ => rfl, fun _ _ _ _ => rfl⟩
section
variable {P : Program} {md : Region.Mode} {ops : Array Oper} {Q : Exit → Act → World → Prop} {S : World → Prop}
theorem tk8 {f i : Nat} {oi : Oper} {v : Value} {s : Array Bool} {a : Act} {w : World} (hy : YieldsIf P ops S oi v a) (h : wpAnyH P md ops Q S f (s.setIfInBounds i true) (a.put oi.dst v) w) (hi : ops[i]? = some oi := by rfl)
  (hs : Region.noSelect ops = true := by kernel_rfl) (hf : Region.free md ops s i = true := by kernel_rfl) (hr : (Region.ready md ops s).contains i = true := by kernel_rfl) (hQ : ∀ c a w, Q (.panic c) (a.put oi.dst v) w → Q (.panic c) a w := by exact fun _ _ _ h => h) (hS : S w := by assumption) : wpAnyH P md ops Q S (f + 1) s a w := wpAnyH_take hi hs hf hr hQ hy hS h
theorem tk9 {f : Nat} {s : Array Bool} {a : Act} {w : World} (i : Nat) (v : Value) {d : Option Tmp} {o : Op} {t : TypeId} {p : String} {e : Array Edge} {g : Option (Nat × Bool)} (hi : ops[i]? = some ⟨d, o, t, p, e, g⟩) (hy : ∀ w, S w → (execOp a.eval ⟨d, o, t, p, e, g⟩).run P w = .ok (.value v) w) (h : wpAnyH P md ops Q S f (s.setIfInBounds i true) (a.put d v) w)
  (hs : Region.noSelect ops = true := by kernel_rfl) (hf : Region.free md ops s i = true := by kernel_rfl) (hr : (Region.ready md ops s).contains i = true := by kernel_rfl) (hQ : ∀ c a w, Q (.panic c) (a.put d v) w → Q (.panic c) a w := by exact fun _ _ _ h => h) (hS : S w := by assumption) (hw : Region.wanted ⟨d, o, t, p, e, g⟩ (yielded ops a.tmps) = true := by rfl) : wpAnyH P md ops Q S (f + 1) s a w := wpAnyH_take hi hs hf hr hQ (.inl ⟨hw, hy⟩) hS h
theorem tk7 {f : Nat} {s : Array Bool} {a : Act} {w : World} (i : Nat) {d : Option Tmp} {o : Op} {t : TypeId} {p : String} {e : Array Edge} {g : Option (Nat × Bool)} (hi : ops[i]? = some ⟨d, o, t, p, e, g⟩) (h : wpAnyH P md ops Q S f (s.setIfInBounds i true) (a.put d undef) w)
  (hs : Region.noSelect ops = true := by kernel_rfl) (hf : Region.free md ops s i = true := by kernel_rfl) (hr : (Region.ready md ops s).contains i = true := by kernel_rfl) (hQ : ∀ c a w, Q (.panic c) (a.put d undef) w → Q (.panic c) a w := by exact fun _ _ _ h => h) (hS : S w := by assumption) (hw : Region.wanted ⟨d, o, t, p, e, g⟩ (yielded ops a.tmps) = false := by rfl) : wpAnyH P md ops Q S (f + 1) s a w := wpAnyH_take hi hs hf hr hQ (.inr ⟨hw, rfl⟩) hS h
end
theorem below_new (w : World) (o : Obj) : Below w.heap.size w (w.alloc o) := (Below.refl _ _).alloc (Nat.le_refl _) _
theorem width_pos (s : ByteArray) (pos : Nat) (h : pos < s.size) : 1 ≤ (Utf8.decode s pos).2 := by
 rw [Ru.decode_list]
 exact (Ru.dcl_w _ (by intro e; have := congrArg List.length e; simp at this; omega)).1
def rest (s : ByteArray) (pos : Nat) : List UInt8 := s.data.toList.drop pos
theorem rest_ne (s : ByteArray) (pos : Nat) (h : pos < s.size) : rest s pos ≠ [] := by
 intro e; have := congrArg List.length e; simp [rest] at this; omega
theorem rest_end (s : ByteArray) (pos : Nat) (h : ¬ pos < s.size) : rest s pos = [] := by
 unfold rest; apply List.drop_of_length_le; rw [Array.length_toList]; exact Nat.le_of_not_lt h
theorem rest_next (s : ByteArray) (pos : Nat) (h : pos < s.size) : Ru.rns (rest s pos) = Utf8.decode s pos :: Ru.rns (rest s (pos + (Utf8.decode s pos).2)) := by
 rw [Ru.rns_cons _ (rest_ne s pos h), Ru.decode_list]; unfold rest; rw [List.drop_drop]
theorem ret_i64 {a b : Int} (h : a = b) : Ending.returned (.int .i64 a) = .returned (.int .i64 b) := by rw [h]
def decB (s : ByteArray) : Nat × Nat := if s.size = 0 then (65533, 0) else Utf8.decode s 0
def Dec (r : Nat × Nat) (w : World) (e : Ending) (w' : World) : Prop := e = .returned (.tuple #[.int .i32 r.1, .int .i64 r.2]) ∧ Below w.heap.size w w'
theorem decB_pos (s : ByteArray) (h : 0 < s.size) : decB s = Utf8.decode s 0 := by unfold decB; rw [if_neg (by omega)]
def Fst (s : ByteArray) (pos : Nat) (f : Int) : Prop := (pos = 0 ∧ f = 65533) ∨ (0 < s.size ∧ 0 < pos ∧ (pos : Int) = (Utf8.decode s 0).2 ∧ f = (Utf8.decode s 0).1)
theorem width_le (s : ByteArray) (pos : Nat) (h : pos < s.size) : pos + (Utf8.decode s pos).2 ≤ s.size := by
 have h1 := (Ru.dcl_w _ (rest_ne s pos h)).2.1
 rw [Ru.decode_list]
 have h2 : (rest s pos).length = s.size - pos := by simp [rest]
 unfold rest at *; omega
theorem dec_ret (s : ByteArray) (w w' : World) (a b : Int) (h : Below w.heap.size w w') (ha : a = (decB s).1) (hb : b = (decB s).2) : Dec (decB s) w (.returned (.tuple #[.int .i32 a, .int .i64 b])) w' := ⟨by rw [ha, hb], h⟩
def pre : ByteArray := ⟨#[239, 191, 189]⟩
theorem ext_list (s : ByteArray) (pos : Nat) : (s.extract pos s.size).data.toList = rest s pos := by
 rw [ByteArray.data_extract, Array.toList_extract]; unfold rest
 rw [List.extract_eq_take_drop, List.take_of_length_le]; simp
theorem pre_take (l : List UInt8) : Lib.hasPrefix l [239, 191, 189] = decide (l.take 3 = [239, 191, 189]) := by
 unfold Lib.hasPrefix
 rw [Bool.eq_iff_iff, List.isPrefixOf_iff_prefix, decide_eq_true_eq, List.prefix_iff_eq_take]
 exact eq_comm
theorem vld_next (s : ByteArray) (pos : Nat) (h : pos < s.size) : Ru.vld (rest s pos) = (Ru.fine (Utf8.decode s pos) && Ru.vld (rest s (pos + (Utf8.decode s pos).2))) := by
 unfold Ru.vld; rw [rest_next s pos h, List.all_cons]
theorem ret_bool {a b : Bool} (h : a = b) : Ending.returned (.bool a) = .returned (.bool b) := by rw [h]
def KeyRest (k : Nat) (l : List UInt8) : Bool := decide (k + (Ru.rns l).length ≤ 40) && (Ru.rns l).all Ru.okr
theorem keyRest_stop (s : ByteArray) (pos k : Nat) (hp : pos < s.size) (h : 40 < k + 1 ∨ Ru.okr (Utf8.decode s pos) = false) : KeyRest k (rest s pos) = false := by
 unfold KeyRest; rw [rest_next s pos hp, List.length_cons, List.all_cons]
 rcases h with h | h
 ·rw [decide_eq_false (by omega), Bool.false_and]
 ·rw [h, Bool.false_and, Bool.and_false]
theorem keyRest_go (s : ByteArray) (pos k : Nat) (hp : pos < s.size) (h : Ru.okr (Utf8.decode s pos) = true) : KeyRest k (rest s pos) = KeyRest (k + 1) (rest s (pos + (Utf8.decode s pos).2)) := by
 unfold KeyRest; rw [rest_next s pos hp, List.length_cons, List.all_cons, h, Bool.true_and]
 congr 2
 rw [Nat.add_assoc, Nat.add_comm 1]
theorem okr_low (x : Nat × Nat) (h : x.1 < 32) : Ru.okr x = false := by unfold Ru.okr; rw [decide_eq_false (by omega)]; simp
theorem okr_del (x : Nat × Nat) (h : x.1 = 127) : Ru.okr x = false := by unfold Ru.okr; rw [h]; simp
theorem okr_bad (x : Nat × Nat) (h : Ru.fine x = false) : Ru.okr x = false := by unfold Ru.okr; rw [h]; rfl
theorem okr_ok (x : Nat × Nat) (h : Ru.fine x = true) (h1 : ¬ x.1 < 32) (h2 : ¬ x.1 = 127) : Ru.okr x = true := by
 unfold Ru.okr; rw [h, decide_eq_true (by omega), bne_iff_ne.2 h2]; rfl
def lesB (a b : ByteArray) : Bool := Ru.les a.data.toList b.data.toList
def runs (s : ByteArray) : List Nat := Ru.runs s.data.toList
theorem runs_next (s : ByteArray) (h : 0 < s.size) : runs s = (decB s).1 :: runs (s.extract (decB s).2 s.size) := by
 have h1 := rest_next s 0 h
 rw [decB_pos s h]; unfold runs Ru.runs
 rw [ext_list, show s.data.toList = rest s 0 from rfl, h1, List.map_cons, Nat.zero_add]
theorem decB_le (s : ByteArray) (h : 0 < s.size) : 1 ≤ (decB s).2 ∧ (decB s).2 ≤ s.size := by
 rw [decB_pos s h]; have := width_le s 0 h; have := width_pos s 0 h; omega
theorem runs_nil (s : ByteArray) (h : s.size = 0) : runs s = [] := by
 unfold runs Ru.runs; rw [show s.data.toList = rest s 0 from rfl, rest_end s 0 (by omega)]; rfl
theorem runs_ne (s : ByteArray) (h : 0 < s.size) : runs s ≠ [] := by rw [runs_next s h]; simp
theorem cmp_nil (x : List Nat) (t : Bool) (h : x ≠ []) : Ru.cmpR [] x t = true := by cases x <;> simp_all [Ru.cmpR]
theorem cmp_end (x : List Nat) (t : Bool) (h : x ≠ []) : Ru.cmpR x [] t = false := by cases x <;> simp_all [Ru.cmpR]
theorem lst_empty (x : ByteArray) (h : 0 < x.size) : x.toList.isEmpty = false := by
 rw [ByteArray.toList_eq]
 cases he : x.data.toList with
 | nil => have := congrArg List.length he; rw [Array.length_toList] at this; have h2 : x.data.size = x.size := rfl; rw [List.length_nil] at this; omega
 | cons => rfl
theorem lst_nil (x : ByteArray) (h : ¬ 0 < x.size) : x.toList = [] := by
 rw [ByteArray.toList_eq]
 apply List.eq_nil_of_length_eq_zero
 rw [Array.length_toList]; have h2 : x.data.size = x.size := rfl; omega
theorem cmp_step (x y : ByteArray) (t : Bool) (hx : 0 < x.size) (hy : 0 < y.size) : Ru.cmpR (runs x) (runs y) t = if (decB x).1 = (decB y).1 then Ru.cmpR (runs (x.extract (decB x).2 x.size)) (runs (y.extract (decB y).2 y.size)) t else decide ((decB x).1 < (decB y).1) := by
 rw [runs_next x hx, runs_next y hy]; rfl
theorem neq_of {a b : Nat} (h : ¬ a = b) : ((a : Int) != b) = true := by rw [bne_iff_ne]; omega
theorem neq_not {a b : Nat} (h : a = b) : ((a : Int) != b) = false := by rw [h]; simp
def Cmp (a b x y : ByteArray) : Prop := Ru.cmpR (runs x) (runs y) (Op.bytesLess a.toList b.toList) = lesB a b
theorem byt_get (s : ByteArray) (k : Nat) (h : k < s.size) : Ru.byt s.data.toList k = s[k].toNat := by
 unfold Ru.byt
 have h2 : k < s.data.toList.length := by rw [Array.length_toList]; exact h
 rw [List.getD, List.getElem?_eq_getElem h2]; rfl
def dN (s : ByteArray) : Nat × Nat := Lib.decodeN s.size (Ru.byt s.data.toList 0) (Ru.byt s.data.toList 1) (Ru.byt s.data.toList 2) (Ru.byt s.data.toList 3)
theorem dN_eq (s : ByteArray) (h : 0 < s.size) : decB s = dN s := by
 rw [decB_pos s h, Ru.decode_list, List.drop_zero]; unfold Ru.dcl dN; rw [Array.length_toList]; rfl
def bt (s : ByteArray) (k : Nat) : Nat := Ru.byt s.data.toList k
theorem bt_lt (s : ByteArray) (k : Nat) : bt s k < 256 := Ru.byt_lt _ _
def acc (s : ByteArray) (b : Int) : Nat → Int
 | 0 => b
 | 1 => b
 | k + 2 => acc s b (k + 1) * 64 + bt s (k + 1) - 128
def Conts (s : ByteArray) (k : Nat) : Prop := ∀ j, 1 ≤ j → j < k → 128 ≤ bt s j ∧ bt s j ≤ 191
theorem conts_one (s : ByteArray) : Conts s 1 := fun j h1 h2 => by omega
theorem conts_next (s : ByteArray) (k : Nat) (h : Conts s k) (h1 : 128 ≤ bt s k) (h2 : bt s k ≤ 191) : Conts s (k + 1) := fun j a b => by
 by_cases e : j = k
 ·subst e; exact ⟨h1, h2⟩
 ·exact h j a (by omega)
theorem acc_next (s : ByteArray) (b : Int) (k : Nat) (h : 1 ≤ k) : acc s b (k + 1) = acc s b k * 64 + bt s k - 128 := by
 cases k with
 | zero => omega
 | succ k => rfl
theorem acc_bd (s : ByteArray) (b : Int) (k : Nat) (hb0 : 0 ≤ b) (hb1 : b ≤ 31) (h : Conts s k) (h1 : 1 ≤ k) (h4 : k ≤ 4) : 0 ≤ acc s b k ∧ acc s b k ≤ 8388607 := by
 have a1 : acc s b 1 = b := rfl
 have a2 : acc s b 2 = acc s b 1 * 64 + bt s 1 - 128 := rfl
 have a3 : acc s b 3 = acc s b 2 * 64 + bt s 2 - 128 := rfl
 have a4 : acc s b 4 = acc s b 3 * 64 + bt s 3 - 128 := rfl
 have hk : k = 1 ∨ k = 2 ∨ k = 3 ∨ k = 4 := by omega
 rcases hk with rfl | rfl | rfl | rfl
 ·omega
 ·have := h 1 (by omega) (by omega); omega
 ·have := h 1 (by omega) (by omega); have := h 2 (by omega) (by omega); omega
 ·have := h 1 (by omega) (by omega); have := h 2 (by omega) (by omega); have := h 3 (by omega) (by omega); omega
set_option maxHeartbeats 4000000 in
theorem dN1 (n b0 b1 b2 b3 : Nat) (h : b0 < 128) : Lib.decodeN n b0 b1 b2 b3 = (b0, 1) := by unfold Lib.decodeN; rw [if_pos h]
set_option maxHeartbeats 4000000 in
theorem dNelse (n b0 b1 b2 b3 : Nat) (h : (128 ≤ b0 ∧ b0 < 192) ∨ 248 ≤ b0) (h2 : b0 < 256) : Lib.decodeN n b0 b1 b2 b3 = (65533, 1) := by
 unfold Lib.decodeN; rw [if_neg (by omega), if_neg (by omega), if_neg (by omega), if_neg (by omega)]
set_option maxHeartbeats 4000000 in
theorem dN2_ok (n b0 b1 b2 b3 : Nat) (v : Int) (h0 : 192 ≤ b0) (h1 : b0 < 224) (hn : 2 ≤ n) (c1 : 128 ≤ b1 ∧ b1 ≤ 191) (hv : v = ((b0 : Int) - 192) * 64 + b1 - 128) (ho : 128 ≤ v) : v = (Lib.decodeN n b0 b1 b2 b3).1 ∧ (2 : Int) = (Lib.decodeN n b0 b1 b2 b3).2 := by
 unfold Lib.decodeN; rw [if_neg (by omega), if_pos (by omega), if_pos (by omega)]; simp only; omega
set_option maxHeartbeats 4000000 in
theorem dN2_bad (n b0 b1 b2 b3 : Nat) (h0 : 192 ≤ b0) (h1 : b0 < 224) (h : n < 2 ∨ b1 < 128 ∨ 191 < b1 ∨ (128 ≤ b1 ∧ ((b0 : Int) - 192) * 64 + b1 - 128 < 128)) (g1 : b1 < 256) : Lib.decodeN n b0 b1 b2 b3 = (65533, 1) := by
 unfold Lib.decodeN; rw [if_neg (by omega)]
 by_cases hc : b0 / 32 = 6 ∧ (1 < n ∧ b1 / 64 = 2)
 ·rw [if_pos hc, if_neg (by omega)]
 ·rw [if_neg hc, if_neg (by omega), if_neg (by omega)]
set_option maxHeartbeats 4000000 in
theorem dN3_ok (n b0 b1 b2 b3 : Nat) (v : Int) (h0 : 224 ≤ b0) (h1 : b0 < 240) (hn : 3 ≤ n) (c1 : 128 ≤ b1 ∧ b1 ≤ 191) (c2 : 128 ≤ b2 ∧ b2 ≤ 191) (hv : v = (((b0 : Int) - 224) * 64 + b1 - 128) * 64 + b2 - 128) (ho : 2048 ≤ v) (hs : v < 55296 ∨ 57344 ≤ v) : v = (Lib.decodeN n b0 b1 b2 b3).1 ∧ (3 : Int) = (Lib.decodeN n b0 b1 b2 b3).2 := by
 unfold Lib.decodeN; rw [if_neg (by omega), if_neg (by omega), if_pos (by omega), if_pos (by omega)]; simp only; omega
set_option maxHeartbeats 4000000 in
theorem dN3_bad (n b0 b1 b2 b3 : Nat) (h0 : 224 ≤ b0) (h1 : b0 < 240) (g1 : b1 < 256) (g2 : b2 < 256) (h : n < 3 ∨ b1 < 128 ∨ 191 < b1 ∨ b2 < 128 ∨ 191 < b2 ∨ (128 ≤ b1 ∧ 128 ≤ b2 ∧ ((((b0 : Int) - 224) * 64 + b1 - 128) * 64 + b2 - 128 < 2048 ∨ (55296 ≤ (((b0 : Int) - 224) * 64 + b1 - 128) * 64 + b2 - 128 ∧ (((b0 : Int) - 224) * 64 + b1 - 128) * 64 + b2 - 128 < 57344)))) : Lib.decodeN n b0 b1 b2 b3 = (65533, 1) := by
 unfold Lib.decodeN; rw [if_neg (by omega), if_neg (by omega)]
 by_cases hc : b0 / 16 = 14 ∧ (1 < n ∧ b1 / 64 = 2) ∧ (2 < n ∧ b2 / 64 = 2)
 ·rw [if_pos hc, if_neg (by omega)]
 ·rw [if_neg hc, if_neg (by omega)]
set_option maxHeartbeats 4000000 in
theorem dN4_ok (n b0 b1 b2 b3 : Nat) (v : Int) (h0 : 240 ≤ b0) (h1 : b0 < 248) (hn : 4 ≤ n) (c1 : 128 ≤ b1 ∧ b1 ≤ 191) (c2 : 128 ≤ b2 ∧ b2 ≤ 191) (c3 : 128 ≤ b3 ∧ b3 ≤ 191) (hv : v = ((((b0 : Int) - 240) * 64 + b1 - 128) * 64 + b2 - 128) * 64 + b3 - 128) (ho : 65536 ≤ v) (hs : v ≤ 1114111) : v = (Lib.decodeN n b0 b1 b2 b3).1 ∧ (4 : Int) = (Lib.decodeN n b0 b1 b2 b3).2 := by
 unfold Lib.decodeN; rw [if_neg (by omega), if_neg (by omega), if_neg (by omega), if_pos (by omega), if_pos (by omega)]; simp only; omega
set_option maxHeartbeats 4000000 in
theorem dN4_bad (n b0 b1 b2 b3 : Nat) (h0 : 240 ≤ b0) (h1 : b0 < 248) (g1 : b1 < 256) (g2 : b2 < 256) (g3 : b3 < 256) (h : n < 4 ∨ b1 < 128 ∨ 191 < b1 ∨ b2 < 128 ∨ 191 < b2 ∨ b3 < 128 ∨ 191 < b3 ∨ (128 ≤ b1 ∧ 128 ≤ b2 ∧ 128 ≤ b3 ∧ (((((b0 : Int) - 240) * 64 + b1 - 128) * 64 + b2 - 128) * 64 + b3 - 128 < 65536 ∨ 1114111 < ((((b0 : Int) - 240) * 64 + b1 - 128) * 64 + b2 - 128) * 64 + b3 - 128))) : Lib.decodeN n b0 b1 b2 b3 = (65533, 1) := by
 unfold Lib.decodeN; rw [if_neg (by omega), if_neg (by omega), if_neg (by omega)]
 by_cases hc : b0 / 8 = 30 ∧ (1 < n ∧ b1 / 64 = 2) ∧ (2 < n ∧ b2 / 64 = 2) ∧ (3 < n ∧ b3 / 64 = 2)
 ·rw [if_pos hc, if_neg (by omega)]
 ·rw [if_neg hc]
def DecQ (r : Nat × Nat) (w : World) (e : Ending) (w' : World) : Prop := e = .returned (.tuple #[.int .i32 r.1, .int .i64 r.2]) ∧ w = w'
theorem dec_is (s : ByteArray) (w : World) (a b : Int) (h0 : 0 < s.size) (h : a = (dN s).1 ∧ b = (dN s).2) : DecQ (decB s) w (.returned (.tuple #[.int .i32 a, .int .i64 b])) w := by
 rw [dN_eq s h0]; exact ⟨by rw [h.1, h.2], rfl⟩
theorem dec_bad (s : ByteArray) (w : World) (h0 : 0 < s.size) (h : dN s = (65533, 1)) : DecQ (decB s) w (.returned (.tuple #[.int .i32 65533, .int .i64 1])) w :=
 dec_is s w _ _ h0 (by rw [h]; exact ⟨rfl, rfl⟩)
theorem decB_at (s : ByteArray) (pos : Nat) (h : pos < s.size) : decB (s.extract pos s.size) = Utf8.decode s pos := by
 have h2 : 0 < (s.extract pos s.size).size := by rw [ByteArray.size_extract]; omega
 rw [decB_pos _ h2, Ru.decode_list, List.drop_zero, ext_list, Ru.decode_list]; rfl
def ats : Nat → List (Nat × Nat) → List Nat
 | _, [] => []
 | p, x :: l => p :: ats (p + x.2) l
theorem ats_snoc (x : Nat × Nat) : ∀ (l : List (Nat × Nat)) (p : Nat), ats p (l ++ [x]) = ats p l ++ [p + Ru.wsum l]
 | [], p => by simp [ats]
 | a :: l, p => by simp [ats, ats_snoc x l, Nat.add_assoc]
def runeVals (R : List (Nat × Nat)) : List Value := R.map fun x : Nat × Nat => Value.int .i32 (x.1 : Int)
def atVals (R : List (Nat × Nat)) : List Value := (ats 0 R).map fun x : Nat => Value.int .i64 (x : Int)
theorem runeVals_snoc (R : List (Nat × Nat)) (x : Nat × Nat) : runeVals (R ++ [x]) = runeVals R ++ [.int .i32 (x.1 : Int)] := by simp [runeVals]
theorem atVals_snoc (R : List (Nat × Nat)) (x : Nat × Nat) (p : Nat) (h : p = Ru.wsum R) : atVals (R ++ [x]) = atVals R ++ [.int .i64 (p : Int)] := by
 subst h; unfold atVals; rw [ats_snoc, List.map_append, Nat.zero_add]; rfl
theorem own_apart {w : World} {B B' e e' s s' n n' : Nat} {v v' : Value} {x x' : List Value} (h : w.ownsRow B e s v n x) (h' : w.ownsRow B' e' s' v' n' x') (hne : e ≠ e') : v.ownBlock = Option.none ∨ v.ownBlock ≠ v'.ownBlock := by
 rcases h.2 with ⟨rfl, _⟩ | ⟨g, c, cur, rfl, _, hg, _⟩
 ·exact .inl rfl
 ·rcases h'.2 with ⟨rfl, _⟩ | ⟨g', c', cur', rfl, _, hg', _⟩
  ·exact .inr (by simp [Value.ownBlock])
  ·refine .inr fun e1 => ?_
   have : g = g' := by simpa [Value.ownBlock] using e1
   subst this
   rw [hg] at hg'; injection hg' with hg'; injection hg' with _ ht; exact hne ht
theorem own_read {w : World} {B e n : Nat} {v : Value} {xs : List Value} (h : w.ownsRow B e 1 v n xs) :
  ∃ A c, v = .slice A n c ∧ (0 < n → ∃ g, A = some ⟨g, 0, Option.none⟩ ∧ g < w.heap.size ∧ ∀ k u, xs[k]? = some u → w.cell? ⟨g, k, Option.none⟩ = some u) := by
 have hc := fun (g : Nat) (hg : v.ownBlock = some g) => h.cells hg
 rcases h.2 with ⟨rfl, rfl⟩ | ⟨g, c, cur, rfl, _⟩
 ·exact ⟨Option.none, 0, rfl, fun h => absurd h (by omega)⟩
 ·refine ⟨_, c, rfl, fun _ => ⟨g, rfl, (h.lt g rfl).2, fun k u hu => ?_⟩⟩
  have h2 := hc g rfl k u hu
  have e1 : (⟨g, 0, Option.none⟩ : Addr).add k = ⟨g, k, Option.none⟩ := by unfold Addr.add; split <;> simp_all
  rw [e1] at h2; exact h2
theorem runeVals_at (R : List (Nat × Nat)) (k : Nat) (h : k < R.length) : (runeVals R)[k]? = some (.int .i32 (R[k].1 : Nat)) := by
 simp [runeVals, h]
theorem okr_none (R : List (Nat × Nat)) (h : R.all Ru.fine = false) : R.all Ru.okr = false := by
 obtain ⟨x, hx, hf⟩ := List.all_eq_false.1 h
 exact List.all_eq_false.2 ⟨x, hx, by rw [okr_bad x (by simpa using hf)]; simp⟩
theorem cmp_drop (P Q : List Nat) (t : Bool) (k : Nat) (h1 : k < P.length) (h2 : k < Q.length) : Ru.cmpR (P.drop k) (Q.drop k) t = if P[k] = Q[k] then Ru.cmpR (P.drop (k + 1)) (Q.drop (k + 1)) t else decide (P[k] < Q[k]) := by
 rw [List.drop_eq_getElem_cons h1, List.drop_eq_getElem_cons h2]; rfl
theorem runeVals_runs (R : List (Nat × Nat)) (k : Nat) (h : k < (R.map (·.1)).length) : (runeVals R)[k]? = some (.int .i32 ((R.map (·.1))[k] : Nat)) := by
 rw [List.length_map] at h
 rw [runeVals_at R k h]; simp
def Some (n : Int) (w : World) (e : Ending) (w' : World) : Prop := ∃ t : ByteArray, (t.size : Int) ≤ n ∧ e = .returned (.string t) ∧ w = w'
theorem bytes_eq {a b : ByteArray} (h : a.data.toList = b.data.toList) : a = b := ByteArray.ext (Array.toList_inj.1 h)
end Go.Proofs.YtegkhkcnoahhdaaGreat
