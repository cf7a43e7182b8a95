/-
  A document that counts: what an addition of one makes of it.
  At most sixty additions.
-/
import Derived.Test.YtegkhkcnoahhdaaL7Begun
namespace Go.Proofs.Ytegkhkcnoahhdaa
open Go.RowKit
set_option maxRecDepth 100000

def kN : ByteArray := ⟨#[110]⟩
def oN1 : Opn := ⟨4, kN, zR, zR, 1⟩
def dNn (n : Nat) : List Par := if n = 0 then [] else [⟨kN, ⟨1, n, ⟨#[]⟩⟩⟩]
theorem oN1_ok : ∀ o ∈ [oN1], o.ok := fun o ho => by
  have : o = oN1 := by simpa using ho
  subst this
  exact ⟨⟨by decide, by decide⟩, by decide, zR_ok, zR_ok, ⟨by decide, by decide⟩⟩
theorem mayN : ∀ (c : Fin 5) (n : Fin 64), mayB ⟨(c.val : Int) + 1, (n.val : Int) + 1, [oN1]⟩ = true := by decide +kernel
theorem stepNn : ∀ n : Fin 60, (dApply (dNn n.val) [oN1]).2 = 0 := by decide +kernel
theorem opDo_n (n : Nat) (h : n ≠ 0) : opDo (dNn n) oN1 = dNn (n + 1) := by
  unfold dNn
  rw [if_neg h, if_neg (by omega)]
  kernel_rfl
theorem stepNd (n : Nat) (h : n < 60) : dApply (dNn n) [oN1] = (dNn (n + 1), 0) := by
  have h2 := stepNn ⟨n, h⟩
  simp only at h2
  unfold dApply at h2 ⊢
  rw [if_neg (by decide)] at h2 ⊢
  rw [apGo_cons] at h2 ⊢
  by_cases he : opErr (dNn n) oN1 = 0
  · rw [if_pos he]
    show (opDo (dNn n) oN1, 0) = _
    by_cases h0 : n = 0
    · subst h0; rfl
    · rw [opDo_n n h0]
  · rw [if_neg he] at h2
    exact absurd h2 he
theorem getN (n : Nat) : dGet (dNn n) kN = (if n = 0 then (⟨0, 0, ⟨#[]⟩⟩, false) else (⟨1, n, ⟨#[]⟩⟩, true)) := by
  unfold dNn
  split
  · rfl
  · rfl
/-- the fold behind k additions of the clients -/
structure CliI (f : Fo) (k : Nat) : Prop where
  place : f.place = k
  d : f.d = dNn k
  last : ∀ c, 0 ≤ f.last c ∧ f.last c ≤ k
theorem CliI.zero : CliI fo0 0 := ⟨rfl, rfl, fun _ => ⟨Int.le_refl _, Int.le_refl _⟩⟩
theorem mayC {c : Nat} {L : Int} (h1 : 1 ≤ c) (h5 : c ≤ 5) (hL : 0 ≤ L) (hL6 : L < 64) : mayB ⟨c, L + 1, [oN1]⟩ = true := by
  obtain ⟨n, rfl⟩ : ∃ n : Nat, L = (n : Int) := ⟨L.toNat, by omega⟩
  have := mayN ⟨c - 1, by omega⟩ ⟨n, by omega⟩
  have e : (((⟨c - 1, by omega⟩ : Fin 5).val : Nat) : Int) + 1 = (c : Int) := by simp only; omega
  rw [e] at this
  exact this
section
variable {f : Fo} {k c : Nat} {L : Int}
theorem CliI.next (h : CliI f k) (hk : k < 60) (h1 : 1 ≤ c) (h5 : c ≤ 5) (hL : f.last c = L) : nextB f ⟨c, L + 1, [oN1]⟩ = true := by
  have := h.last c
  unfold nextB
  rw [mayC h1 h5 (by omega) (by omega)]
  simp [hL]
theorem CliI.skip (hL : f.last c = L) : nextB f ⟨c, L + 1 + 1, [oN1]⟩ = false := by
  unfold nextB
  have : ((L + 1 + 1 : Int) == f.last ((c : Int)).toNat + 1) = false := by
    simp only [Int.toNat_natCast, hL, beq_eq_false_iff_ne, ne_eq]
    omega
  rw [this]; simp
theorem CliI.to (h : CliI f k) (hk : k < 60) (hL : f.last c = L) : CliI (nextFo f ⟨c, L + 1, [oN1]⟩) (k + 1) := by
  refine ⟨?_, ?_, fun e => ?_⟩
  · show f.place + 1 = _; rw [h.place]; omega
  · show (dApply f.d [oN1]).1 = _
    rw [h.d, stepNd k hk]
  · show 0 ≤ upd f.last ((c : Int)).toNat (L + 1) e ∧ upd f.last ((c : Int)).toNat (L + 1) e ≤ ((k + 1 : Nat) : Int)
    have h1 := h.last c
    have h2 := h.last e
    unfold upd
    split
    · constructor <;> push_cast <;> omega
    · constructor <;> push_cast <;> omega
theorem CliI.row (h : CliI f k) (hk : k < 60) (h1 : 1 ≤ c) (h5 : c ≤ 5) (hL : f.last c = L) : rowF f ⟨c, L + 1, [oN1]⟩ = ⟨(k : Int) + 1, ⟨c, L + 1, [oN1]⟩, 0⟩ := by
  unfold rowF
  rw [if_pos (h.next hk h1 h5 hL)]
  unfold rowOfB
  rw [h.place]
  show Rw.mk _ _ (dApply f.d [oN1]).2 = _
  rw [h.d, stepNd k hk]
  rfl
theorem CliI.step (h : CliI f k) (hk : k < 60) (h1 : 1 ≤ c) (h5 : c ≤ 5) (hL : f.last c = L) : stepF f ⟨c, L + 1, [oN1]⟩ = nextFo f ⟨c, L + 1, [oN1]⟩ := by
  unfold stepF; rw [if_pos (h.next hk h1 h5 hL)]
theorem last_to : (nextFo f ⟨c, L + 1, [oN1]⟩).last c = L + 1 := by
  show upd f.last ((c : Int)).toNat (L + 1) c = _
  unfold upd; rw [if_pos (by simp)]
theorem CliI.again : nextB (nextFo f ⟨c, L + 1, [oN1]⟩) ⟨c, L + 1, [oN1]⟩ = false := by
  unfold nextB
  have e : (nextFo f ⟨c, L + 1, [oN1]⟩).last ((c : Int)).toNat = L + 1 := by rw [Int.toNat_natCast]; exact last_to
  have : ((L + 1 : Int) == (nextFo f ⟨c, L + 1, [oN1]⟩).last ((c : Int)).toNat + 1) = false := by
    rw [e]; simp only [beq_eq_false_iff_ne, ne_eq]; omega
  show (_ && (L + 1 == _)) = false
  rw [this]; simp
/-- the cells of the clients' last numbers -/
def lasC (f : Fo) : List Value := [.int .i64 (f.last 0), .int .i64 (f.last 1), .int .i64 (f.last 2), .int .i64 (f.last 3), .int .i64 (f.last 4), .int .i64 (f.last 5)]
theorem lasC_at {f : Fo} {c : Nat} {L : Int} (h5 : c ≤ 5) (hL : f.last c = L) : (lasC f)[c]? = some (.int .i64 L) := by
  match c, h5 with
  | 0, _ => rw [← hL]; rfl
  | 1, _ => rw [← hL]; rfl
  | 2, _ => rw [← hL]; rfl
  | 3, _ => rw [← hL]; rfl
  | 4, _ => rw [← hL]; rfl
  | 5, _ => rw [← hL]; rfl
theorem lasC_to (h5 : c ≤ 5) : (lasC f).set c (.int .i64 (L + 1)) = lasC (nextFo f ⟨c, L + 1, [oN1]⟩) := by
  match c, h5 with
  | 0, _ => rfl
  | 1, _ => rfl
  | 2, _ => rfl
  | 3, _ => rfl
  | 4, _ => rfl
  | 5, _ => rfl
theorem lasC_nos : NoStr (lasC f) := by
  intro j s
  match j with
  | 0 => simp [lasC]
  | 1 => simp [lasC]
  | 2 => simp [lasC]
  | 3 => simp [lasC]
  | 4 => simp [lasC]
  | 5 => simp [lasC]
  | j + 6 => simp [lasC]
theorem tmod5 (x : Int) : ∃ c : Nat, 1 ≤ c ∧ c ≤ 5 ∧ 1 + x.tmod 5 % 5 = (c : Int) ∧ -5 < x.tmod 5 ∧ x.tmod 5 < 5 := by
  have h1 := Int.lt_tmod_of_pos x (b := 5) (by decide)
  have h2 := Int.tmod_lt_of_pos x (b := 5) (by decide)
  obtain ⟨q, hq⟩ : ∃ q, x.tmod 5 = q := ⟨_, rfl⟩
  rw [hq] at h1 h2 ⊢
  exact ⟨(1 + q % 5).toNat, by omega, by omega, by omega, by omega, by omega⟩
end
theorem batN_ok {c : Nat} {s : Int} (hc : c ≤ 5) (h1 : 0 ≤ s) (h2 : s ≤ 100) : Bat.ok ⟨c, s, [oN1]⟩ :=
  ⟨⟨by show (-9223372036854775808 : Int) ≤ (c : Int); omega, by show (c : Int) ≤ 9223372036854775807; omega⟩, ⟨by show (-9223372036854775808 : Int) ≤ s; omega, by show s ≤ 9223372036854775807; omega⟩, oN1_ok⟩
theorem step_no {f : Fo} {b : Bat} (h : nextB f b = false) : stepF f b = f := by unfold stepF; rw [h]; rfl
theorem row_no {f : Fo} {b : Bat} (h : nextB f b = false) : rowF f b = ⟨0, ⟨0, 0, []⟩, 0⟩ := by unfold rowF; rw [h]; rfl
/-- the cells of a batch that is nothing -/
def zB : List Value := [.int .i64 0, .int .i64 0, .slice none 0 0]
theorem b3_nos (a b : Int) (A : Option Addr) (n c : Nat) : NoStr [.int .i64 a, .int .i64 b, .slice A n c] := fun j s => by
  match j with
  | 0 => simp
  | 1 => simp
  | 2 => simp
  | j + 3 => simp
theorem zB_len : zB.length = 3 := rfl
theorem b3_one (a b : Int) (A : Option Addr) (n c : Nat) : ∀ v ∈ [Value.int .i64 a, .int .i64 b, .slice A n c], v.oneCell' = true := fun v hv => by
  simp only [List.mem_cons, List.not_mem_nil, or_false] at hv
  rcases hv with rfl | rfl | rfl <;> rfl
theorem zB_nos : NoStr zB := b3_nos 0 0 none 0 0
theorem ops_oN1 {W : World} {g : Nat} (h : Rb W g 38 oN1.cs) : Ops W W.heap.size (.slice (some ⟨g, 0, none⟩) 1 1) [oN1] := by
  refine ⟨_, 1, rfl, Nat.le_refl _, fun _ => ⟨g, 0, rfl, h.lt, fun k hk => ?_⟩⟩
  have : k = 0 := by simp at hk; omega
  subst this
  exact h.range
theorem setCells1 (W : World) (g j : Nat) (v : Value) : W.setCells g j [v] = W.setCell ⟨g, j, none⟩ v := rfl
end Go.Proofs.Ytegkhkcnoahhdaa
