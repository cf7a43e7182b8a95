/-
  Contracts of the program's functions, of the reference's, and plain lemmas on what they answer (last part).
  Each lemma names its conditions.
-/
import Derived.Test.YtmoaacaopphgbaaDoorBun3
import Derived.Test.YtmoaacaopphgbaaDoorBun1
import Derived.Lib.AppendZeros
import Derived.Test.YtmoaacaopphgbaaDoorBun5
/-
  The reference's EqEntries: two slices of entries.
  The conditions: both are no longer than 220.
-/
namespace Go.Proofs.YtmoaacaopphgbaaDoor
open Go.RowKit Go.Deep
set_option maxRecDepth 100000

def eqEs11 : List Ent → List Ent → Bool
  | [], [] => true
  | a :: l, b :: m => eqEnt10 a b && eqEs11 l m
  | _, _ => false
theorem eqEnt10_self (a : Ent) : eqEnt10 a a = true := by simp [eqEnt10]
theorem eqEs11_self (l : List Ent) : eqEs11 l l = true := by
  induction l with
  | nil => rfl
  | cons a t ih => simp [eqEs11, eqEnt10_self, ih]
theorem eqEs11_drop {a b : List Ent} (k : Nat) (h1 : k < a.length) (h2 : k < b.length) : eqEs11 (a.drop k) (b.drop k) = (eqEnt10 (a[k]'h1) (b[k]'h2) && eqEs11 (a.drop (k + 1)) (b.drop (k + 1))) := by
  rw [List.drop_eq_getElem_cons h1, List.drop_eq_getElem_cons h2]
  rfl
theorem eqEs11_len {a : List Ent} : ∀ {b : List Ent}, a.length ≠ b.length → eqEs11 a b = false := by
  induction a with
  | nil => intro b h; cases b with
    | nil => exact absurd rfl h
    | cons x t => rfl
  | cons y l ih => intro b h; cases b with
    | nil => rfl
    | cons x t => simp only [eqEs11]; rw [ih (fun e => h (by simp [e]))]; simp
set_option maxHeartbeats 1000000 in
theorem reqEnts_any (N M : Nat → Prop) (A C : Option Addr) (c d : Nat) (a b : List Ent) (w : World) (ha : Ens N w (.slice A a.length c) a) (hb : Ens M w (.slice C b.length d) b) (hl : a.length ≤ 1000) :
    Calls Tryd.prog 25 #[.slice A a.length c, .slice C b.length d] w (Bl (eqEs11 a b) w) := by
  have HA := Lib.hid ha
  have HC := Lib.hid hb
  clear ha hb
  by_cases hlen : a.length = b.length
  · obtain ⟨n, hn⟩ : ∃ n, b.length = n := ⟨_, rfl⟩
    rw [hn] at HC hlen ⊢
    rw [hlen] at HA hl ⊢
    have HN := Lib.hid (And.intro hlen hn)
    clear hlen hn
    go_enter Tryd.func25, Tryd.ntmps25
    go_wp2_with fail
    go_loopw [5] (fun i wr => ∃ k : Nat, i = .int .i64 (k : Int) ∧ k ≤ n ∧ eqEs11 (a.drop k) (b.drop k) = eqEs11 a b ∧ Below w.heap.size w wr) (fun i _ => n - (intOf i).toNat)
    case atStart => exact ⟨0, rfl, by omega, rfl, Below.refl _ _⟩
    case round =>
      obtain ⟨k, rfl, hk, he, hb⟩ := hrel
      have HE := Lib.hid he
      have HB := Lib.hid hb
      clear he hb
      by_cases hlt : k < n
      · have hki : (k : Int) < n := by omega
        have h1 : k < a.length := by rw [HN.out.1]; exact hlt
        have h2 : k < b.length := by rw [HN.out.2]; exact hlt
        have hdr := eqEs11_drop k h1 h2
        obtain ⟨x, hx⟩ : ∃ x, a[k]'h1 = x := ⟨_, rfl⟩
        obtain ⟨y, hy⟩ : ∃ y, b[k]'h2 = y := ⟨_, rfl⟩
        rw [hx, hy] at hdr
        have hq := fun W => reqEntry_any x y W
        obtain ⟨ix, et, kd, dt⟩ := x
        obtain ⟨jx, jt, jk, jd⟩ := y
        obtain ⟨g, o, rfl, hg, c0, c1, c2, c3⟩ := (HA.out.below HB.out).four k h1 hx
        obtain ⟨g', o', rfl, hg', d0, d1, d2, d3⟩ := (HC.out.below HB.out).four k h2 hy
        obtain ⟨bq, hbq⟩ : ∃ bq, eqEnt10 ⟨ix, et, kd, dt⟩ ⟨jx, jt, jk, jd⟩ = bq := ⟨_, rfl⟩
        simp only [hbq] at hq hdr
        have HQ := Lib.hid hq
        have HD := Lib.hid hdr
        clear hq hdr hx hy h1 h2 hbq
        replace HB := Lib.hid HB.out.drew
        go_wp2_with fail
        go_region_held3 (fun W => W.cell? ⟨g, o + k * 4, none⟩ = some (.int .i64 ix) ∧ W.cell? ⟨g, o + k * 4 + 1, none⟩ = some (.int .i64 et) ∧ W.cell? ⟨g, o + k * 4 + 2, none⟩ = some (.int .i64 kd) ∧ W.cell? ⟨g, o + k * 4 + 3, none⟩ = some (.string dt) ∧ W.cell? ⟨g', o' + k * 4, none⟩ = some (.int .i64 jx) ∧ W.cell? ⟨g', o' + k * 4 + 1, none⟩ = some (.int .i64 jt) ∧ W.cell? ⟨g', o' + k * 4 + 2, none⟩ = some (.int .i64 jk) ∧ W.cell? ⟨g', o' + k * 4 + 3, none⟩ = some (.string jd)) (first | exact ⟨c0, c1, c2, c3, d0, d1, d2, d3⟩ | assumption) (first | (go_at_call 56; refine (HQ.out _).mono ?_; rintro e k9 ⟨rfl, h⟩; replace c0 := (h.cell (p := ⟨g, o + k * 4, none⟩) hg).trans c0; replace c1 := (h.cell (p := ⟨g, o + k * 4 + 1, none⟩) hg).trans c1; replace c2 := (h.cell (p := ⟨g, o + k * 4 + 2, none⟩) hg).trans c2; replace c3 := (h.cell (p := ⟨g, o + k * 4 + 3, none⟩) hg).trans c3; replace d0 := (h.cell (p := ⟨g', o' + k * 4, none⟩) hg').trans d0; replace d1 := (h.cell (p := ⟨g', o' + k * 4 + 1, none⟩) hg').trans d1; replace d2 := (h.cell (p := ⟨g', o' + k * 4 + 2, none⟩) hg').trans d2; replace d3 := (h.cell (p := ⟨g', o' + k * 4 + 3, none⟩) hg').trans d3; replace HB := Lib.hid (HB.out.trans (h.mono HB.out.size)); clear h))
        cases bq with
        | false =>
          go_wp2_with fail
          go_ret
          have hz : eqEs11 a b = false := by rw [← HE.out, HD.out, Bool.false_and]
          exact ⟨by rw [hz]; rfl, HB.out⟩
        | true =>
          go_wp2_with fail
          go_roundw
          case rel => exact ⟨k + 1, by go_num, by omega, by rw [← HE.out, HD.out, Bool.true_and], HB.out⟩
          case measure => simp [intOf]; omega
      · have hge : (n : Int) ≤ k := by omega
        have hkn : k = n := by omega
        subst hkn
        have hz : eqEs11 a b = true := by
          rw [← HE.out, List.drop_of_length_le (by rw [HN.out.1]; omega), List.drop_of_length_le (by rw [HN.out.2]; omega)]
          rfl
        go_wp2_with fail
        go_ret
        exact ⟨by rw [hz]; rfl, HB.out⟩
  · have hz := eqEs11_len hlen
    rw [hz]
    have hli : ((a.length : Int) != (b.length : Int)) = true := by
      rw [bne_iff_ne]; omega
    have hlj : ¬ ((a.length : Int) = (b.length : Int)) := by omega
    go_enter Tryd.func25, Tryd.ntmps25
    go_wp2_with fail
    go_ret
    exact ⟨rfl, Below.refl _ _⟩
end Go.Proofs.YtmoaacaopphgbaaDoor
/-
  The Term of an entry of a row of one's own is written.
  There are no conditions beyond those that each lemma names.
-/
namespace Go.Proofs.YtmoaacaopphgbaaDoor
open Go.RowKit Go.Deep
set_option maxRecDepth 100000

def Ent.term (e : Ent) (t : Int) : Ent := ⟨e.ix, t, e.kd, e.data⟩
theorem eflat_term (t : Int) : ∀ (L : List Ent) (k : Nat) (hk : k < L.length), (L.set k ((L[k]'hk).term t)).flatMap Ent.cs = (L.flatMap Ent.cs).set (k * 4 + 1) (.int .i64 t)
  | [], k, hk => absurd hk (by simp)
  | e :: L, 0, hk => rfl
  | e :: L, k + 1, hk => by
    have ih := eflat_term t L k (by simpa using hk)
    rw [List.getElem_cons_succ, List.set_cons_succ, List.flatMap_cons, List.flatMap_cons, ih]
    rw [List.set_append_right _ _ (by show 4 ≤ _; omega)]
    show _ ++ _ = _ ++ List.set _ ((k + 1) * 4 + 1 - 4) _
    rw [show (k + 1) * 4 + 1 - 4 = k * 4 + 1 by omega]
theorem OwnEn.set_term {B n c k : Nat} {g : Nat} {L : List Ent} {w : World} (h : OwnEn B (.slice (some ⟨g, 0, none⟩) n c) L w) (hk : k < L.length) (t : Int) : OwnEn B (.slice (some ⟨g, 0, none⟩) n c) (L.set k ((L[k]'hk).term t)) (w.setCell ⟨g, k * 4 + 1, none⟩ (.int .i64 t)) := by
  unfold OwnEn at *
  rw [List.length_set, eflat_term]
  refine ⟨by rw [List.length_set]; exact h.1, ?_⟩
  rcases h.2 with ⟨hv, _⟩ | ⟨g2, c2, cur, hv, hB, hg2, h1, h2, h3, h4⟩
  · cases hv
  · injection hv with e1 e2 e3
    injection e1 with e1
    injection e1 with e1 _
    subst e1; subst e3; subst e2
    refine .inr ⟨g, c, cur.setIfInBounds (k * 4 + 1) (.int .i64 t), rfl, hB, heap_setCell_same w g (k * 4 + 1) cur _ _ hg2, h1, h2, by simpa using h3, ?_⟩
    rw [Array.toList_setIfInBounds, List.take_set, h4]
theorem OwnEn.addr {B n c : Nat} {A : Option Addr} {L : List Ent} {w : World} (h : OwnEn B (.slice A n c) L w) (hn : 0 < L.length) : ∃ g, A = some ⟨g, 0, none⟩ ∧ B ≤ g ∧ g < w.heap.size ∧ n = L.length ∧ L.length ≤ c := by
  have hlt := h.lt
  rcases h.2 with ⟨hv, _⟩ | ⟨g, c2, cur, hv, hB, hg, h1, h2, _⟩
  · injection hv with _ e2 _
    omega
  · injection hv with e1 e2 e3
    subst e1; subst e2; subst e3
    exact ⟨g, rfl, hB, (hlt g rfl).2, rfl, h1⟩
end Go.Proofs.YtmoaacaopphgbaaDoor
