/- Documents as the laws of stage 6 hold them: the contracts of package doc's functions at a document that is as it should be. -/
import Derived.Test.YtegkhkcnoahhdaaGreatDEq
import Derived.Test.YtegkhkcnoahhdaaGreatDDecode
set_option linter.unusedSimpArgs false
set_option linter.unusedVariables false
namespace Go.Proofs.YtegkhkcnoahhdaaGreat
open Go.RowKit
set_option maxRecDepth 100000
def Dc (w : World) (B g : Nat) (l : List Par) : Prop := Gd l ∧ ∃ v, DocO w B g v l
theorem Dc.below {w w' : World} {B g : Nat} {l : List Par} (h : Dc w B g l) (hb : Below w.heap.size w w') : Dc w' B g l := by
 obtain ⟨hg, v, hd⟩ := h
 exact ⟨hg, v, hd.below hb⟩
theorem Dc.grown {w w' : World} {B C g g2 : Nat} {l m : List Par} (h : Dc w B g l) (h2 : Dc w C g2 m) (hb : w.grownBy w' (some g2)) (hne : g ≠ g2) : Dc w' B g l := by
 obtain ⟨hg, v, hd⟩ := h
 obtain ⟨_, v2, hd2⟩ := h2
 exact ⟨hg, v, hd.lo, (hb.block g hd.lt (fun e => hne (by injection e))).trans hd.here, World.ownsRow.kept hd.own hb (.inr (own_ne hd.own hd2.here))⟩
theorem Dc.lt {w : World} {B g : Nat} {l : List Par} (h : Dc w B g l) : g < w.heap.size := by
 obtain ⟨_, v, hd⟩ := h; exact hd.lt
theorem Dc.lo {w : World} {B g : Nat} {l : List Par} (h : Dc w B g l) : B ≤ g := by
 obtain ⟨_, v, hd⟩ := h; exact hd.lo
theorem Dc.docR {w : World} {B g : Nat} {l : List Par} (h : Dc w B g l) : DocR w w.heap.size g l := by
 obtain ⟨_, v, hd⟩ := h; exact hd.docR
theorem Dc.frame {w0 w w' : World} {B g : Nat} {l : List Par} (h : Dc w B g l) (hb : w.grownBy w' (some g)) (h0 : Below B w0 w) (hB : B ≤ w.heap.size) : Below B w0 w' :=
 Below.grown h0 hb hB (fun k hk => by injection hk with hk; rw [← hk]; exact h.lo)
theorem lget_is (B g : Nat) (l : List Par) (key : ByteArray) (k n : Int) (t : ByteArray) (y : Bool) (w : World) (h : Dc w B g l) (hks : key.size ≤ 1000000) (hx : dGet l key = (⟨k, n, t⟩, y)) :
  Calls Tryz.prog 58 #[.pointer (some ⟨g, 0, none⟩), .string key] w fun e w' => e = .returned (.tuple #[.agg #[.int .i64 k, .int .i64 n, .string t], .bool y]) ∧ Below w.heap.size w w' :=
 dget_any w.heap.size g l key k n t y w h.docR (Nat.le_refl _) h.1 (Nat.le_trans hks (by decide)) hx
theorem lkeys_is (B g n : Nat) (l : List Par) (w : World) (h : Dc w B g l) (hn : l.length = n) :
  Calls Tryz.prog 25 #[.pointer (some ⟨g, 0, none⟩)] w fun e w' => ∃ gk, e = .returned (.slice (some ⟨gk, 0, none⟩) n n) ∧ OwnS w.heap.size (.slice (some ⟨gk, 0, none⟩) n n) (l.map Par.k) w' ∧ Below w.heap.size w w' := by
 rw [← hn]; exact dkeys_any w.heap.size g l w h.docR (Nat.le_refl _) h.1
theorem ldec_yes (A : Option Addr) (n c B C : Nat) (l : List UInt8) (x : List Par) (w : World) (h : Byt w C (.slice A n c) l) (hC : C ≤ w.heap.size) (hB : B ≤ w.heap.size) (hl : l.length ≤ 1000000) (hx : decD l = some x) :
  Calls Tryz.prog 90 #[.slice A n c] w fun e w' => ∃ g, e = .returned (.tuple #[.pointer (some ⟨g, 0, none⟩), .int .i64 0]) ∧ (Dc w' B g x ∧ w.heap.size ≤ g) ∧ Below w.heap.size w w' := by
 refine (ddecode_any A n c C l w h hC hl).mono ?_
 rintro e w' ⟨h1, hb⟩
 rw [hx] at h1
 obtain ⟨g, v, rfl, hd, hg⟩ := h1
 exact ⟨g, rfl, ⟨⟨hg, v, Nat.le_trans hB hd.lo, hd.here, ownsRow_down hd.own hB⟩, hd.lo⟩, hb⟩
theorem ldec_no (A : Option Addr) (n c C : Nat) (l : List UInt8) (w : World) (h : Byt w C (.slice A n c) l) (hC : C ≤ w.heap.size) (hl : l.length ≤ 1000000) (hx : decD l = none) :
  Calls Tryz.prog 90 #[.slice A n c] w fun e w' => e = .returned (.tuple #[.pointer none, .int .i64 1]) ∧ Below w.heap.size w w' := by
 refine (ddecode_any A n c C l w h hC hl).mono ?_
 rintro e w' ⟨h1, hb⟩
 rw [hx] at h1
 exact ⟨h1, hb⟩
end Go.Proofs.YtegkhkcnoahhdaaGreat
/-
What package doc's functions answer where there is no document.
-/
namespace Go.Proofs.YtegkhkcnoahhdaaGreat
open Go.RowKit
set_option maxRecDepth 100000
end Go.Proofs.YtegkhkcnoahhdaaGreat
/-
Plain facts on documents written as bytes, with no program's run in them: what is written is read again, and other bytes are no document's.
-/
namespace Go.Proofs.YtegkhkcnoahhdaaGreat
open Go.RowKit
set_option maxRecDepth 100000
theorem rowsD_canon : ∀ (k : Nat) (acc : List Par) (l : List UInt8) (x : List Par), l.length ≤ 1000000 → rowsD k acc l = some x → ∃ y, x = acc ++ y ∧ y.length = k ∧ l = y.flatMap bytesP
 | 0, acc, l, x, _, h => by
  unfold rowsD at h
  split at h
  ·rename_i h0
   injection h with h
   exact ⟨[], by simp [h], rfl, by simpa using h0⟩
  ·cases h
 | k + 1, acc, l, x, hl, h => by
  unfold rowsD at h
  obtain ⟨ro, hro⟩ : ∃ ro, rowOf l = ro := ⟨_, rfl⟩
  rw [hro] at h
  cases ro with
  | none => cases h
  | some pm =>
   obtain ⟨p, m⟩ := pm
   simp only at h
   split at h
   ·obtain ⟨_, _, _, _, h5, h6, _⟩ := rowOf_good hro hl
    obtain ⟨y, hy1, hy2, hy3⟩ := rowsD_canon k _ _ _ (by rw [List.length_drop]; omega) h
    exact ⟨p :: y, by rw [hy1]; simp, by simp [hy2], by rw [List.flatMap_cons, ← hy3]; exact h6⟩
   ·cases h
theorem decD_canon {l : List UInt8} {x : List Par} (hl : l.length ≤ 1000000) (h : decD l = some x) : bytesD x = l := by
 unfold decD at h
 split at h
 ·rename_i hc
  obtain ⟨⟨k, j, e⟩, hg⟩ : ∃ r, Nu.get l = r := ⟨_, rfl⟩
  rw [hg] at h hc
  obtain ⟨he, h0, h50⟩ := hc
  simp only at h he h0 h50
  subst he
  obtain ⟨c1, c2, _, _⟩ := Nu.get_canon _ _ _ hg
  obtain ⟨y, hy1, hy2, hy3⟩ := rowsD_canon _ _ _ _ (by rw [List.length_drop]; omega) h
  rw [List.nil_append] at hy1
  subst hy1
  unfold bytesD
  rw [hy2, ← hy3, show ((k.toNat : Nat) : Int) = k by omega, ← c1, List.take_append_drop]
 ·cases h
theorem rowOf_bytes {p : Par} (t : List UInt8) (hk : Ru.key p.k.data.toList = true) (hm : mayR p.v = true) (h0 : p.v.kind ≠ 0) (hok : p.v.ok) : rowOf (bytesP p ++ t) = some (p, (bytesP p).length) := by
 have hs := Ru.key_len hk
 have h1 : Nu.getT (bytesP p ++ t) = (p.k.data.toList, (Nu.putT p.k.data.toList).length, 0) := by
  unfold bytesP; rw [List.append_assoc]; exact Nu.getT_putT _ _ (by omega)
 have h2 : (bytesP p ++ t).drop (Nu.putT p.k.data.toList).length = putR p.v ++ t := by
  unfold bytesP; rw [List.append_assoc, List.drop_left]
 unfold rowOf
 rw [h1]
 simp only
 rw [if_pos ⟨trivial, hk⟩, h2, getR_putR p.v t hm hok]
 simp only
 rw [if_pos ⟨trivial, h0⟩]
 unfold bytesP
 rw [List.length_append]
theorem rowsD_bytes : ∀ (y acc : List Par), Gd (acc ++ y) → rowsD y.length acc (y.flatMap bytesP) = some (acc ++ y)
 | [], acc, h => by simp [rowsD]
 | p :: y, acc, h => by
  obtain ⟨hk, hm, h0, hok⟩ := h.all p (by simp)
  have ha : (acc.all fun q => lesB q.k p.k) = true := by
   rw [List.all_eq_true]
   intro q hq
   have := h.srt
   unfold Srt at this
   rw [List.pairwise_append] at this
   exact this.2.2 q hq p (by simp)
  rw [List.length_cons]
  unfold rowsD
  rw [List.flatMap_cons, rowOf_bytes _ hk hm h0 hok]
  simp only
  rw [if_pos ha, List.drop_left, rowsD_bytes y (acc ++ [p]) (by simpa using h)]
  simp
theorem decD_bytes {l : List Par} (h : Gd l) : decD (bytesD l) = some l := by
 have hl := h.len
 have h1 : Nu.get (bytesD l) = ((l.length : Int), (Nu.put (l.length : Int)).length, 0) := by
  unfold bytesD; exact Nu.get_put _ _ (by omega) (by omega)
 unfold decD
 rw [h1]
 simp only
 rw [if_pos ⟨trivial, by omega, by omega⟩]
 unfold bytesD
 rw [List.drop_left, Int.toNat_natCast]
 exact rowsD_bytes l [] h
theorem eqP_self (a : Par) : eqP a a = true := by unfold eqP; rw [eqR_rfl]; simp
theorem eqD_self (l : List Par) : eqD l l = true := by
 rw [eqD_eqlen rfl]
 induction l with
 | nil => rfl
 | cons a t ih => rw [List.zip_cons_cons, List.all_cons, eqP_self, ih]; rfl
theorem bytesD_short {l : List Par} (h : Gd l) : (bytesD l).length ≤ 50020 := by
 have h1 := flatP_len h l.length
 rw [List.take_length] at h1
 have h2 := Nu.put_len (l.length : Int)
 have h3 := h.len
 unfold bytesD
 rw [List.length_append]; omega
end Go.Proofs.YtegkhkcnoahhdaaGreat
/-
What the laws of stage 6 begin with: a document of one key.
-/
namespace Go.Proofs.YtegkhkcnoahhdaaGreat
open Lib (hid)
open Go.RowKit
set_option maxRecDepth 100000
theorem d_ops_one (W : World) (g B : Nat) (x : Opn) (h : W.rangeAt g 0 x.cs) (hg : g < B) : Ops W B (.slice (some ⟨g, 0, none⟩) 1 1) [x] :=
 ⟨_, _, rfl, Nat.le_refl _, fun _ => ⟨g, 0, rfl, hg, fun k hk => by
  have : k = 0 := by simp at hk; omega
  subst this; simpa using h⟩⟩
theorem d_range9 {W : World} {g : Nat} {a b c d e f h i j : Value} (h0 : W.cell? ⟨g, 0, none⟩ = some a) (h1 : W.cell? ⟨g, 1, none⟩ = some b) (h2 : W.cell? ⟨g, 2, none⟩ = some c) (h3 : W.cell? ⟨g, 3, none⟩ = some d) (h4 : W.cell? ⟨g, 4, none⟩ = some e) (h5 : W.cell? ⟨g, 5, none⟩ = some f) (h6 : W.cell? ⟨g, 6, none⟩ = some h) (h7 : W.cell? ⟨g, 7, none⟩ = some i) (h8 : W.cell? ⟨g, 8, none⟩ = some j) : W.rangeAt g 0 [a, b, c, d, e, f, h, i, j] := by
 intro k v hv
 rw [Nat.zero_add]
 have hk : k < 9 := by have := (List.getElem?_eq_some_iff.1 hv).1; simpa using this
 have h9 : k = 0 ∨ k = 1 ∨ k = 2 ∨ k = 3 ∨ k = 4 ∨ k = 5 ∨ k = 6 ∨ k = 7 ∨ k = 8 := by omega
 rcases h9 with rfl | rfl | rfl | rfl | rfl | rfl | rfl | rfl | rfl <;> simp at hv <;> subst hv <;> assumption
instance : DecidableEq Raw := fun a b => decidable_of_iff (a.kind = b.kind ∧ a.n = b.n ∧ a.s = b.s) (by cases a; cases b; simp)
instance : DecidableEq Par := fun a b => decidable_of_iff (a.k = b.k ∧ a.v = b.v) (by cases a; cases b; simp)
end Go.Proofs.YtegkhkcnoahhdaaGreat
