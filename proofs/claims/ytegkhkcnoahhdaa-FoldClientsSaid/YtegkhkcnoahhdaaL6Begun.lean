/-
  Documents as the laws of stage 6 hold them: the contracts of package doc's functions at a document that is as it should be.
  The operations' integers are in their ranges; bytes are at most 1,000,000.
-/
import Derived.Test.YtegkhkcnoahhdaaDApply
import Derived.Test.YtegkhkcnoahhdaaDEq
import Derived.Test.YtegkhkcnoahhdaaDDecode
set_option linter.unusedSimpArgs false
set_option linter.unusedVariables false
namespace Go.Proofs.Ytegkhkcnoahhdaa
open Go.RowKit
set_option maxRecDepth 100000

/-- block g is a document of the pairs l, as it should be; it and its rows lie from block B on -/
def Dc (w : World) (B g : Nat) (l : List Par) : Prop := Gd l ∧ ∃ v, DocO w B g v l
theorem Dc.below {w w' : World} {B g : Nat} {l : List Par} (h : Dc w B g l) (hb : Below w.heap.size w w') : Dc w' B g l := by
  obtain ⟨hg, v, hd⟩ := h
  exact ⟨hg, v, hd.below hb⟩
theorem Dc.grown {w w' : World} {B C g g2 : Nat} {l m : List Par} (h : Dc w B g l) (h2 : Dc w C g2 m) (hb : w.grownBy w' (some g2)) (hne : g ≠ g2) : Dc w' B g l := by
  obtain ⟨hg, v, hd⟩ := h
  obtain ⟨_, v2, hd2⟩ := h2
  exact ⟨hg, v, hd.lo, (hb.block g hd.lt (fun e => hne (by injection e))).trans hd.here, World.ownsRow.kept hd.own hb (.inr (own_ne hd.own hd2.here))⟩
theorem Dc.lt {w : World} {B g : Nat} {l : List Par} (h : Dc w B g l) : g < w.heap.size := by
  obtain ⟨_, v, hd⟩ := h; exact hd.lt
theorem Dc.lo {w : World} {B g : Nat} {l : List Par} (h : Dc w B g l) : B ≤ g := by
  obtain ⟨_, v, hd⟩ := h; exact hd.lo
theorem Dc.docR {w : World} {B g : Nat} {l : List Par} (h : Dc w B g l) : DocR w w.heap.size g l := by
  obtain ⟨_, v, hd⟩ := h; exact hd.docR
/-- what Apply leaves: all that lies below the documents -/
theorem Dc.frame {w0 w w' : World} {B g : Nat} {l : List Par} (h : Dc w B g l) (hb : w.grownBy w' (some g)) (h0 : Below B w0 w) (hB : B ≤ w.heap.size) : Below B w0 w' :=
  Below.grown h0 hb hB (fun k hk => by injection hk with hk; rw [← hk]; exact h.lo)
/-- rows of another type than documents stay where Apply has turned one -/
theorem ownsRow_grown {B e s n g C : Nat} {v : Value} {xs : List Value} {w w' : World} {l : List Par} (h : w.ownsRow B e s v n xs) (hd : Dc w C g l) (hb : w.grownBy w' (some g)) (hne : e ≠ 59) : w'.ownsRow B e s v n xs := by
  refine World.ownsRow.kept h hb (.inr (fun e => ?_))
  obtain ⟨_, v2, hd2⟩ := hd
  rcases h.2 with ⟨rfl, _⟩ | ⟨g', c, cur, rfl, _, hg, _⟩
  · cases e
  · injection e with e
    simp only at e
    subst e
    have h2 := hd2.here
    rw [hg] at h2
    injection h2 with h2
    injection h2 with h2 h3 h4
    exact hne h3
theorem lnew_is (B : Nat) (w : World) (hB : B ≤ w.heap.size) : Calls Try.prog 81 #[] w fun e w' => e = .returned (.pointer (some ⟨w.heap.size, 0, none⟩)) ∧ Dc w' B w.heap.size [] ∧ Below w.heap.size w w' := by
  refine (dnew_any w).mono ?_
  rintro e w' ⟨rfl, rfl⟩
  exact ⟨rfl, ⟨gd_nil, _, hB, heap_alloc_new _ _, World.ownsRow_nil _ _ _ _⟩, below_one _ _⟩
theorem lapply_is (B g Bo : Nat) (u : Value) (l l' : List Par) (os : List Opn) (k : Nat) (w : World) (h : Dc w B g l) (ho : Ops w Bo u os) (hBo : Bo ≤ w.heap.size) (hok : ∀ o ∈ os, o.ok) (ha : dApply l os = (l', k)) :
    Calls Try.prog 21 #[.pointer (some ⟨g, 0, none⟩), u] w fun e w' => e = .returned (.int .i64 k) ∧ Dc w' B g l' ∧ w.grownBy w' (some g) := by
  obtain ⟨hg, v, hd⟩ := h
  refine (dapply_any B g Bo v u l os w hd hg ho hBo hok).mono ?_
  rintro e w' ⟨h1, h2, h3⟩
  have h4 := hg.apply hok
  rw [ha] at h1 h2 h4
  exact ⟨h1, ⟨h4, h2⟩, h3⟩
theorem lget_is (B g : Nat) (l : List Par) (key : ByteArray) (k n : Int) (t : ByteArray) (y : Bool) (w : World) (h : Dc w B g l) (hks : key.size ≤ 1000000) (hx : dGet l key = (⟨k, n, t⟩, y)) :
    Calls Try.prog 17 #[.pointer (some ⟨g, 0, none⟩), .string key] w fun e w' => e = .returned (.tuple #[.agg #[.int .i64 k, .int .i64 n, .string t], .bool y]) ∧ Below w.heap.size w w' :=
  dget_any w.heap.size g l key k n t y w h.docR (Nat.le_refl _) h.1 (Nat.le_trans hks (by decide)) hx
theorem lkeys_is (B g n : Nat) (l : List Par) (w : World) (h : Dc w B g l) (hn : l.length = n) :
    Calls Try.prog 19 #[.pointer (some ⟨g, 0, none⟩)] w fun e w' => ∃ gk, e = .returned (.slice (some ⟨gk, 0, none⟩) n n) ∧ OwnS w.heap.size (.slice (some ⟨gk, 0, none⟩) n n) (l.map Par.k) w' ∧ Below w.heap.size w w' := by
  rw [← hn]; exact dkeys_any w.heap.size g l w h.docR (Nat.le_refl _) h.1
theorem bytesD_pos (l : List Par) : 1 ≤ (bytesD l).length := by
  unfold bytesD; rw [List.length_append]
  have := Nu.put_ne (l.length : Int); omega
theorem lenc_is (B g : Nat) (l : List Par) (m : List UInt8) (w : World) (h : Dc w B g l) (hm : bytesD l = m) :
    Calls Try.prog 32 #[.pointer (some ⟨g, 0, none⟩)] w fun e w' => ∃ gb c, e = .returned (.slice (some ⟨gb, 0, none⟩) m.length c) ∧ OwnB w.heap.size (.slice (some ⟨gb, 0, none⟩) m.length c) m w' ∧ Below w.heap.size w w' := by
  refine (dencode_any w.heap.size g l w h.docR (Nat.le_refl _) h.1).mono ?_
  rintro e w' ⟨v, rfl, ho, hb⟩
  rw [hm] at ho
  have h1 := bytesD_pos l
  rw [hm] at h1
  obtain ⟨gb, c, rfl, _⟩ := ho.at_ h1
  exact ⟨gb, c, rfl, ho, hb⟩
theorem lcopy_is (B g : Nat) (l : List Par) (w : World) (h : Dc w B g l) (hB : B ≤ w.heap.size) :
    Calls Try.prog 27 #[.pointer (some ⟨g, 0, none⟩)] w fun e w' => ∃ g', e = .returned (.pointer (some ⟨g', 0, none⟩)) ∧ (Dc w' B g' l ∧ w.heap.size ≤ g') ∧ Below w.heap.size w w' := by
  refine (dcopy_any w.heap.size g l w h.docR (Nat.le_refl _) (Nat.le_trans h.1.len (by decide))).mono ?_
  rintro e w' ⟨g', v', rfl, hd, hb⟩
  exact ⟨g', rfl, ⟨⟨h.1, v', Nat.le_trans hB hd.lo, hd.here, ownsRow_down hd.own hB⟩, hd.lo⟩, hb⟩
theorem leq_is (B B' g g' : Nat) (l m : List Par) (b : Bool) (w : World) (h : Dc w B g l) (h' : Dc w B' g' m) (hb : eqD l m = b) :
    Calls Try.prog 26 #[.pointer (some ⟨g, 0, none⟩), .pointer (some ⟨g', 0, none⟩)] w fun e w' => e = .returned (.bool b) ∧ Below w.heap.size w w' := by
  rw [← hb]; exact deq_any w.heap.size g g' l m w h.docR h'.docR (Nat.le_refl _) h.1 h'.1
theorem ldec_yes (A : Option Addr) (n c B C : Nat) (l : List UInt8) (x : List Par) (w : World) (h : Byt w C (.slice A n c) l) (hC : C ≤ w.heap.size) (hB : B ≤ w.heap.size) (hl : l.length ≤ 1000000) (hx : decD l = some x) :
    Calls Try.prog 62 #[.slice A n c] w fun e w' => ∃ g, e = .returned (.tuple #[.pointer (some ⟨g, 0, none⟩), .int .i64 0]) ∧ (Dc w' B g x ∧ w.heap.size ≤ g) ∧ Below w.heap.size w w' := by
  refine (ddecode_any A n c C l w h hC hl).mono ?_
  rintro e w' ⟨h1, hb⟩
  rw [hx] at h1
  obtain ⟨g, v, rfl, hd, hg⟩ := h1
  exact ⟨g, rfl, ⟨⟨hg, v, Nat.le_trans hB hd.lo, hd.here, ownsRow_down hd.own hB⟩, hd.lo⟩, hb⟩
theorem ldec_no (A : Option Addr) (n c C : Nat) (l : List UInt8) (w : World) (h : Byt w C (.slice A n c) l) (hC : C ≤ w.heap.size) (hl : l.length ≤ 1000000) (hx : decD l = none) :
    Calls Try.prog 62 #[.slice A n c] w fun e w' => e = .returned (.tuple #[.pointer none, .int .i64 1]) ∧ Below w.heap.size w w' := by
  refine (ddecode_any A n c C l w h hC hl).mono ?_
  rintro e w' ⟨h1, hb⟩
  rw [hx] at h1
  exact ⟨h1, hb⟩
end Go.Proofs.Ytegkhkcnoahhdaa
/-
  What package doc's functions answer where there is no document.
  There are no conditions.
-/
namespace Go.Proofs.Ytegkhkcnoahhdaa
open Go.RowKit
set_option maxRecDepth 100000

theorem dnil_get (key : ByteArray) (w : World) : Calls Try.prog 17 #[.pointer none, .string key] w fun e w' => e = .returned (.tuple #[.agg #[.int .i64 0, .int .i64 0, .string ⟨#[]⟩], .bool false]) ∧ Below w.heap.size w w' := by
  go_enter Try.func17, Try.ntmps17
  go_wp2

  exact bodyPost_ret (v := .tuple #[.agg #[.int .i64 0, .int .i64 0, .string ⟨#[]⟩], .bool false]) (by simp [results, Try.results17, go_sem]) rfl ⟨rfl, below_one _ _⟩
theorem dnil_apply (u : Value) (w : World) : Calls Try.prog 21 #[.pointer none, u] w fun e w' => e = .returned (.int .i64 1) ∧ Below w.heap.size w w' := by
  go_enter Try.func21, Try.ntmps21
  go_wp2
  go_ret
  exact ⟨rfl, by first | exact Below.refl _ _ | exact below_one _ _⟩
theorem dnil_keys (w : World) : Calls Try.prog 19 #[.pointer none] w fun e w' => e = .returned (.slice none 0 0) ∧ Below w.heap.size w w' := by
  go_enter Try.func19, Try.ntmps19
  go_wp2
  go_ret
  exact ⟨rfl, by first | exact Below.refl _ _ | exact below_one _ _⟩
theorem dnil_eq (w : World) : Calls Try.prog 26 #[.pointer none, .pointer none] w fun e w' => e = .returned (.bool true) ∧ Below w.heap.size w w' := by
  go_enter Try.func26, Try.ntmps26
  go_wp2
  exact bodyPost_ret (v := .bool true) (by simp [results, Try.results26, go_sem]) rfl ⟨rfl, Below.refl _ _⟩
theorem ptr_eql (g : Nat) (W : World) : (binOp .eql 49 (.pointer none) (.pointer (some ⟨g, 0, none⟩))).run Try.prog W = .ok (.bool false) W := by kernel_rfl
theorem dnil_eqd (g : Nat) (w : World) : Calls Try.prog 26 #[.pointer none, .pointer (some ⟨g, 0, none⟩)] w fun e w' => e = .returned (.bool false) ∧ Below w.heap.size w w' := by
  have pe := ptr_eql g
  go_enter Try.func26, Try.ntmps26
  go_wp2
  exact bodyPost_ret (v := .bool false) (by simp [results, Try.results26, go_sem]) rfl ⟨rfl, Below.refl _ _⟩
theorem deqd_nil (g : Nat) (w : World) : Calls Try.prog 26 #[.pointer (some ⟨g, 0, none⟩), .pointer none] w fun e w' => e = .returned (.bool false) ∧ Below w.heap.size w w' := by
  go_enter Try.func26, Try.ntmps26
  go_wp2
  exact bodyPost_ret (v := .bool false) (by simp [results, Try.results26, go_sem]) rfl ⟨rfl, Below.refl _ _⟩
end Go.Proofs.Ytegkhkcnoahhdaa
/-
  Plain facts on documents written as bytes, with no program's run in them: what is written is read again, and other bytes are no document's.
  The document is a good one; the bytes are at most 1,000,000.
-/
namespace Go.Proofs.Ytegkhkcnoahhdaa
open Go.RowKit
set_option maxRecDepth 100000

theorem rowsD_canon : ∀ (k : Nat) (acc : List Par) (l : List UInt8) (x : List Par), l.length ≤ 1000000 → rowsD k acc l = some x → ∃ y, x = acc ++ y ∧ y.length = k ∧ l = y.flatMap bytesP
  | 0, acc, l, x, _, h => by
    unfold rowsD at h
    split at h
    · rename_i h0
      injection h with h
      exact ⟨[], by simp [h], rfl, by simpa using h0⟩
    · cases h
  | k + 1, acc, l, x, hl, h => by
    unfold rowsD at h
    obtain ⟨ro, hro⟩ : ∃ ro, rowOf l = ro := ⟨_, rfl⟩
    rw [hro] at h
    cases ro with
    | none => cases h
    | some pm =>
      obtain ⟨p, m⟩ := pm
      simp only at h
      split at h
      · obtain ⟨_, _, _, _, h5, h6, _⟩ := rowOf_good hro hl
        obtain ⟨y, hy1, hy2, hy3⟩ := rowsD_canon k _ _ _ (by rw [List.length_drop]; omega) h
        exact ⟨p :: y, by rw [hy1]; simp, by simp [hy2], by rw [List.flatMap_cons, ← hy3]; exact h6⟩
      · cases h
theorem decD_canon {l : List UInt8} {x : List Par} (hl : l.length ≤ 1000000) (h : decD l = some x) : bytesD x = l := by
  unfold decD at h
  split at h
  · rename_i hc
    obtain ⟨⟨k, j, e⟩, hg⟩ : ∃ r, Nu.get l = r := ⟨_, rfl⟩
    rw [hg] at h hc
    obtain ⟨he, h0, h50⟩ := hc
    simp only at h he h0 h50
    subst he
    obtain ⟨c1, c2, _, _⟩ := Nu.get_canon _ _ _ hg
    obtain ⟨y, hy1, hy2, hy3⟩ := rowsD_canon _ _ _ _ (by rw [List.length_drop]; omega) h
    rw [List.nil_append] at hy1
    subst hy1
    unfold bytesD
    rw [hy2, ← hy3, show ((k.toNat : Nat) : Int) = k by omega, ← c1, List.take_append_drop]
  · cases h
theorem getR_bytes {p : Par} (t : List UInt8) (hm : mayR p.v = true) (hok : p.v.ok) : getR (putR p.v ++ t) = (p.v, (putR p.v).length, 0) := getR_putR p.v t hm hok
theorem rowOf_bytes {p : Par} (t : List UInt8) (hk : Ru.key p.k.data.toList = true) (hm : mayR p.v = true) (h0 : p.v.kind ≠ 0) (hok : p.v.ok) : rowOf (bytesP p ++ t) = some (p, (bytesP p).length) := by
  have hs := Ru.key_len hk
  have h1 : Nu.getT (bytesP p ++ t) = (p.k.data.toList, (Nu.putT p.k.data.toList).length, 0) := by
    unfold bytesP; rw [List.append_assoc]; exact Nu.getT_putT _ _ (by omega)
  have h2 : (bytesP p ++ t).drop (Nu.putT p.k.data.toList).length = putR p.v ++ t := by
    unfold bytesP; rw [List.append_assoc, List.drop_left]
  unfold rowOf
  rw [h1]
  simp only
  rw [if_pos ⟨trivial, hk⟩, h2, getR_putR p.v t hm hok]
  simp only
  rw [if_pos ⟨trivial, h0⟩]
  unfold bytesP
  rw [List.length_append]
theorem rowsD_bytes : ∀ (y acc : List Par), Gd (acc ++ y) → rowsD y.length acc (y.flatMap bytesP) = some (acc ++ y)
  | [], acc, h => by simp [rowsD]
  | p :: y, acc, h => by
    obtain ⟨hk, hm, h0, hok⟩ := h.all p (by simp)
    have ha : (acc.all fun q => lesB q.k p.k) = true := by
      rw [List.all_eq_true]
      intro q hq
      have := h.srt
      unfold Srt at this
      rw [List.pairwise_append] at this
      exact this.2.2 q hq p (by simp)
    rw [List.length_cons]
    unfold rowsD
    rw [List.flatMap_cons, rowOf_bytes _ hk hm h0 hok]
    simp only
    rw [if_pos ha, List.drop_left, rowsD_bytes y (acc ++ [p]) (by simpa using h)]
    simp
theorem decD_bytes {l : List Par} (h : Gd l) : decD (bytesD l) = some l := by
  have hl := h.len
  have h1 : Nu.get (bytesD l) = ((l.length : Int), (Nu.put (l.length : Int)).length, 0) := by
    unfold bytesD; exact Nu.get_put _ _ (by omega) (by omega)
  unfold decD
  rw [h1]
  simp only
  rw [if_pos ⟨trivial, by omega, by omega⟩]
  unfold bytesD
  rw [List.drop_left, Int.toNat_natCast]
  exact rowsD_bytes l [] h
theorem bytesD_inj {l m : List Par} (h : Gd l) (h' : Gd m) (e : bytesD l = bytesD m) : l = m := by
  have h1 := decD_bytes h
  rw [e, decD_bytes h'] at h1
  injection h1 with h1
  exact h1.symm
theorem eqP_eq {a b : Par} (h : eqP a b = true) : a = b := by
  unfold eqP at h
  rw [Bool.and_eq_true, beq_iff_eq] at h
  obtain ⟨ak, av⟩ := a
  obtain ⟨bk, bv⟩ := b
  have h1 : ak = bk := bytes_eq h.1
  have h2 : av = bv := eqR_eq h.2
  rw [h1, h2]
theorem eqP_self (a : Par) : eqP a a = true := by unfold eqP; rw [eqR_rfl]; simp
theorem eqD_self (l : List Par) : eqD l l = true := by
  rw [eqD_eqlen rfl]
  induction l with
  | nil => rfl
  | cons a t ih => rw [List.zip_cons_cons, List.all_cons, eqP_self, ih]; rfl
theorem eqD_eq : ∀ {l m : List Par}, eqD l m = true → l = m := by
  intro l
  induction l with
  | nil =>
    intro m h
    rcases m with _ | ⟨b, s⟩
    · rfl
    · rw [eqD_len (by simp)] at h; cases h
  | cons a t ih =>
    intro m h
    rcases m with _ | ⟨b, s⟩
    · rw [eqD_len (by simp)] at h; cases h
    · by_cases hn : t.length = s.length
      · rw [eqD_eqlen (by simp [hn]), List.zip_cons_cons, List.all_cons, Bool.and_eq_true] at h
        have h1 : a = b := eqP_eq h.1
        rw [h1, ih (by rw [eqD_eqlen hn]; exact h.2)]
      · rw [eqD_len (by simp; exact hn)] at h; cases h
theorem eqD_ne {l m : List Par} (h : l ≠ m) : eqD l m = false := by
  cases he : eqD l m with
  | false => rfl
  | true => exact absurd (eqD_eq he) h
theorem bytesD_short {l : List Par} (h : Gd l) : (bytesD l).length ≤ 50020 := by
  have h1 := flatP_len h l.length
  rw [List.take_length] at h1
  have h2 := Nu.put_len (l.length : Int)
  have h3 := h.len
  unfold bytesD
  rw [List.length_append]; omega
end Go.Proofs.Ytegkhkcnoahhdaa
/-
  What the laws of stage 6 begin with: a document of one key.
  There are no conditions.
-/
namespace Go.Proofs.Ytegkhkcnoahhdaa
open Go.RowKit
set_option maxRecDepth 100000

theorem d_ops_one (W : World) (g B : Nat) (x : Opn) (h : W.rangeAt g 0 x.cs) (hg : g < B) : Ops W B (.slice (some ⟨g, 0, none⟩) 1 1) [x] :=
  ⟨_, _, rfl, Nat.le_refl _, fun _ => ⟨g, 0, rfl, hg, fun k hk => by
    have : k = 0 := by simp at hk; omega
    subst this; simpa using h⟩⟩
theorem d_range9 {W : World} {g : Nat} {a b c d e f h i j : Value} (h0 : W.cell? ⟨g, 0, none⟩ = some a) (h1 : W.cell? ⟨g, 1, none⟩ = some b) (h2 : W.cell? ⟨g, 2, none⟩ = some c) (h3 : W.cell? ⟨g, 3, none⟩ = some d) (h4 : W.cell? ⟨g, 4, none⟩ = some e) (h5 : W.cell? ⟨g, 5, none⟩ = some f) (h6 : W.cell? ⟨g, 6, none⟩ = some h) (h7 : W.cell? ⟨g, 7, none⟩ = some i) (h8 : W.cell? ⟨g, 8, none⟩ = some j) : W.rangeAt g 0 [a, b, c, d, e, f, h, i, j] := by
  intro k v hv
  rw [Nat.zero_add]
  have hk : k < 9 := by have := (List.getElem?_eq_some_iff.1 hv).1; simpa using this
  have h9 : k = 0 ∨ k = 1 ∨ k = 2 ∨ k = 3 ∨ k = 4 ∨ k = 5 ∨ k = 6 ∨ k = 7 ∨ k = 8 := by omega
  rcases h9 with rfl | rfl | rfl | rfl | rfl | rfl | rfl | rfl | rfl <;> simp at hv <;> subst hv <;> assumption
instance : DecidableEq Raw := fun a b => decidable_of_iff (a.kind = b.kind ∧ a.n = b.n ∧ a.s = b.s) (by cases a; cases b; simp)
instance : DecidableEq Par := fun a b => decidable_of_iff (a.k = b.k ∧ a.v = b.v) (by cases a; cases b; simp)
def oN : Opn := ⟨4, ⟨#[110]⟩, zR, zR, 5⟩
def nDoc : List Par := [⟨⟨#[110]⟩, ⟨1, 5, ⟨#[]⟩⟩⟩]
theorem oN_ok : ∀ o ∈ [oN], o.ok := fun o ho => by
  have : o = oN := by simpa using ho
  subst this
  exact ⟨⟨by decide, by decide⟩, by decide, zR_ok, zR_ok, ⟨by decide, by decide⟩⟩
theorem dN_apply : dApply [] [oN] = (nDoc, 0) := by decide +kernel
theorem dN_get : dGet nDoc ⟨#[110]⟩ = (⟨1, 5, ⟨#[]⟩⟩, true) := by decide +kernel
theorem nDoc_dec : decD (bytesD nDoc) = some nDoc := by decide +kernel
end Go.Proofs.Ytegkhkcnoahhdaa
