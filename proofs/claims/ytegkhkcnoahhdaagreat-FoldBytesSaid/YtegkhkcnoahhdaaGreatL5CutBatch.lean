/- What the statements cut lists of operations to: at most ten, each of the same kinds and numbers, with short texts, in new memory. -/
import Derived.Test.YtegkhkcnoahhdaaGreatVaPlain
set_option linter.unusedSimpArgs false
set_option linter.unusedVariables false
namespace Go.Proofs.YtegkhkcnoahhdaaGreat
open Lib (hid)
open Go.RowKit
set_option maxRecDepth 100000
def CutO (o p : Opn) : Prop := p.kind = o.kind ∧ p.n = o.n ∧ p.val.kind = o.val.kind ∧ p.val.n = o.val.n ∧ p.old.kind = o.old.kind ∧ p.old.n = o.old.n ∧ p.key.size ≤ 90 ∧ p.val.s.size ≤ 220 ∧ p.old.s.size ≤ 220
def OwnO (B : Nat) (v : Value) (l : List Opn) (w : World) : Prop := w.ownsRow B 64 9 v l.length (l.flatMap Opn.cs)
def Bx (w : World) (g : Nat) (a b c d e f h : Value) : Prop :=
 (w.cell? ⟨g, 1, Option.none⟩ = some a ∧ w.cell? ⟨g, 2, Option.none⟩ = some b ∧ w.cell? ⟨g, 3, Option.none⟩ = some c ∧ w.cell? ⟨g, 4, Option.none⟩ = some d ∧ w.cell? ⟨g, 5, Option.none⟩ = some e ∧ w.cell? ⟨g, 6, Option.none⟩ = some f ∧ w.cell? ⟨g, 7, Option.none⟩ = some h) ∧
 (w.frozen? ⟨g, 1, Option.none⟩ = false ∧ w.frozen? ⟨g, 2, Option.none⟩ = false ∧ w.frozen? ⟨g, 3, Option.none⟩ = false ∧ w.frozen? ⟨g, 4, Option.none⟩ = false ∧ w.frozen? ⟨g, 5, Option.none⟩ = false ∧ w.frozen? ⟨g, 6, Option.none⟩ = false ∧ w.frozen? ⟨g, 7, Option.none⟩ = false)
theorem Bx.below {w w' : World} {C g : Nat} {a b c d e f h : Value} (k : Bx w g a b c d e f h) (hb : Below C w w') (hg : g < C) : Bx w' g a b c d e f h := by
 obtain ⟨⟨p1, p2, p3, p4, p5, p6, p7⟩, f1, f2, f3, f4, f5, f6, f7⟩ := k
 exact ⟨⟨(hb.cell (p := ⟨g, 1, none⟩) hg).trans p1, (hb.cell (p := ⟨g, 2, none⟩) hg).trans p2, (hb.cell (p := ⟨g, 3, none⟩) hg).trans p3, (hb.cell (p := ⟨g, 4, none⟩) hg).trans p4, (hb.cell (p := ⟨g, 5, none⟩) hg).trans p5, (hb.cell (p := ⟨g, 6, none⟩) hg).trans p6, (hb.cell (p := ⟨g, 7, none⟩) hg).trans p7⟩,
  (hb.frozen (p := ⟨g, 1, none⟩) hg).trans f1, (hb.frozen (p := ⟨g, 2, none⟩) hg).trans f2, (hb.frozen (p := ⟨g, 3, none⟩) hg).trans f3, (hb.frozen (p := ⟨g, 4, none⟩) hg).trans f4, (hb.frozen (p := ⟨g, 5, none⟩) hg).trans f5, (hb.frozen (p := ⟨g, 6, none⟩) hg).trans f6, (hb.frozen (p := ⟨g, 7, none⟩) hg).trans f7⟩
theorem l5l4cut_is (v : Value) (k n : Int) (s : ByteArray) (w : World) (hv : v = .agg #[.int .i64 k, .int .i64 n, .string s]) : Calls Tryz.prog 82 #[v] w fun e w' => ∃ t : ByteArray, (t.size : Int) ≤ 220 ∧ e = .returned (.agg #[.int .i64 k, .int .i64 n, .string t]) ∧ Below w.heap.size w w' := by
 rw [hv]; exact l4cut_any ⟨k, n, s⟩ w
def CutMid (wb : World) (g : Nat) (a1 b1 c1 d1 e1 f1 h1 : Value) (F : ByteArray → ByteArray → ByteArray → Act) (G : World → ByteArray → ByteArray → ByteArray → World) : Exit → Act → World → Prop
 | .normal, a, w' => ∃ (tk tv to : ByteArray) (wo : World), (tk.size : Int) ≤ 90 ∧ (tv.size : Int) ≤ 220 ∧ (to.size : Int) ≤ 220 ∧ Below wb.heap.size wb wo ∧ Bx wo g a1 b1 c1 d1 e1 f1 h1 ∧ a = F tk tv to ∧ w' = G wo tk tv to
 | _, _, _ => False
theorem Tryz.infoOp3 : (Tryz.prog.info? 64).map (fun i => (i.zero, i.size, i.bytes)) = some (some (.agg #[.int .i64 0, .string ⟨#[]⟩, .int .i64 0, .int .i64 0, .string ⟨#[]⟩, .int .i64 0, .int .i64 0, .string ⟨#[]⟩, .int .i64 0]), 9, 96) := by kernel_rfl
theorem grown_setCells (g : Nat) : ∀ (vs : List Value) (o : Nat) (w : World), w.grownBy (w.setCells g o vs) (some g)
 | [], _, w => grownBy_refl w _
 | v :: r, o, w => by
  have h1 : w.grownBy (w.setCell ⟨g, o, Option.none⟩ v) (some g) := ⟨rfl, rfl, rfl, by simp [World.setCell], fun k _ hk => Below.heap_setCell w _ _ k (fun e => hk (by rw [e]))⟩
  exact h1.trans (grown_setCells g r (o + 1) _)
theorem below_grown {w w' : World} {r : Option Nat} (h : Below w.heap.size w w') : w.grownBy w' r := ⟨h.os, h.tape, h.output, h.size, fun k hk _ => h.block k hk⟩
theorem opn_cells (l : List Opn) (x : Opn) : l.flatMap Opn.cs ++ x.cs = (l ++ [x]).flatMap Opn.cs := by simp
theorem opn_one (x : Opn) : ∀ u ∈ x.cs, u.oneCell' = true := by
 intro u hu; unfold Opn.cs at hu; simp at hu
 rcases hu with rfl | rfl | rfl | rfl | rfl | rfl | rfl | rfl | rfl <;> rfl
theorem seven (w : World) (g : Nat) (z0 z8 a b c d e f h a1 b1 c1 d1 e1 f1 h1 : Value) (k : Bx w g a1 b1 c1 d1 e1 f1 h1) (k0 : w.cell? ⟨g, 0, Option.none⟩ = some z0) (k8 : w.cell? ⟨g, 8, Option.none⟩ = some z8) :
  (w.setCells g 1 [a, b, c, d, e, f, h]).rangeAt g 0 [z0, a, b, c, d, e, f, h, z8] := by
 obtain ⟨⟨p1, p2, p3, p4, p5, p6, p7⟩, -⟩ := k
 have hin := World.cell?_setCells_in g [a, b, c, d, e, f, h] 1 w (by
  intro j hj
  have h7 : j = 0 ∨ j = 1 ∨ j = 2 ∨ j = 3 ∨ j = 4 ∨ j = 5 ∨ j = 6 := by simp at hj; omega
  rcases h7 with rfl | rfl | rfl | rfl | rfl | rfl | rfl
  ·rw [p1]; rfl
  ·rw [p2]; rfl
  ·rw [p3]; rfl
  ·rw [p4]; rfl
  ·rw [p5]; rfl
  ·rw [p6]; rfl
  ·rw [p7]; rfl)
 have hout := fun (x : Addr) => World.cell?_setCells_out g [a, b, c, d, e, f, h] 1 w x
 intro j v hv
 rw [Nat.zero_add]
 have hj : j < 9 := by have := (List.getElem?_eq_some_iff.1 hv).1; simpa using this
 have h9 : j = 0 ∨ j = 1 ∨ j = 2 ∨ j = 3 ∨ j = 4 ∨ j = 5 ∨ j = 6 ∨ j = 7 ∨ j = 8 := by omega
 rcases h9 with rfl | rfl | rfl | rfl | rfl | rfl | rfl | rfl | rfl
 ·rw [hout ⟨g, 0, Option.none⟩ (fun _ _ => .inl (show 0 < 1 by decide)), k0]; exact hv
 ·exact (hin 0 (by simp)).trans hv
 ·exact (hin 1 (by simp)).trans hv
 ·exact (hin 2 (by simp)).trans hv
 ·exact (hin 3 (by simp)).trans hv
 ·exact (hin 4 (by simp)).trans hv
 ·exact (hin 5 (by simp)).trans hv
 ·exact (hin 6 (by simp)).trans hv
 ·rw [hout ⟨g, 8, Option.none⟩ (fun _ _ => .inr (show 1 + 7 ≤ 8 by decide)), k8]; exact hv
set_option maxRecDepth 100000 in
set_option maxHeartbeats 4000000 in
theorem l5cut_any (B : Nat) (v : Value) (l : List Opn) (w : World) (h : Ops w B v l) (hB : B ≤ w.heap.size) : Calls Tryz.prog 48 #[v] w fun e w' => ∃ u m, e = .returned u ∧ OwnO w.heap.size u m w' ∧ Below w.heap.size w w' ∧ m.length = min l.length 10 ∧ ∀ k (h : k < m.length) (h2 : k < l.length), CutO l[k] m[k] := by
 obtain ⟨A, c, rfl, hc, hcell⟩ := h
 have HC := hid hcell; clear hcell
 go_enter Tryz.func48, Tryz.ntmps48
 go_wp2
 go_loopw [3, 4] (fun v i wr => ∃ (k : Nat) (m : List Opn), i = .int .i64 k ∧ k ≤ l.length ∧ k ≤ 10 ∧ OwnO w.heap.size v m wr ∧ Below w.heap.size w wr ∧ m.length = k ∧ ∀ j (h : j < m.length) (h2 : j < l.length), CutO l[j] m[j]) (fun _ i _ => l.length - (intOf i).toNat)
 case atStart => exact ⟨0, [], rfl, by omega, by omega, World.ownsRow_nil _ _ _ _, Below.refl _ _, rfl, fun j h => absurd h (by simp)⟩
 case round =>
  obtain ⟨k, m, rfl, hk, hk10, hown, hbw, hml, hcut⟩ := hrel
  have HCUT := hid hcut; clear hcut
  have HML := hid hml; clear hml
  by_cases hkl : k < l.length
  ·by_cases hlt10 : k < 10
   ·obtain ⟨g, o, rfl, hg, hcs⟩ := HC.out (by omega)
    obtain ⟨x, hx⟩ : ∃ x, l[k] = x := ⟨_, rfl⟩
    have hr := hcs k hkl
    rw [hx] at hr
    have hr2 : wr.rangeAt g (o + k * 9) x.cs := range_below hr hbw (Nat.lt_of_lt_of_le hg hB)
    have HX := hid hx
    clear hr hx hcs
    obtain ⟨xk, xy, ⟨vk, vn, vs⟩, ⟨ok, on, os⟩, xn⟩ := x
    obtain ⟨wb, hwb⟩ : ∃ wb, wr.alloc (Obj.cells #[.int .i64 xk, .string xy, .int .i64 vk, .int .i64 vn, .string vs, .int .i64 ok, .int .i64 on, .string os, .int .i64 xn] 64) = wb := ⟨_, rfl⟩
    have hownb : OwnO w.heap.size u3 m wb := by rw [← hwb]; exact hown.alloc _
    have hwrs : w.heap.size ≤ wr.heap.size := hbw.size
    have hap : u3.ownBlock ≠ some wr.heap.size := fun e => by have := (World.ownsRow.lt hown _ e).2; omega
    have hgb : wr.heap.size < wb.heap.size := by rw [← hwb]; simp
    have hbb : Below w.heap.size w wb := by rw [← hwb]; exact hbw.alloc hbw.size _
    have hfz : ∀ j, wb.frozen? ⟨wr.heap.size, j, none⟩ = false := fun j => by rw [← hwb]; exact World.frozen?_alloc_at _ _ _ j rfl
    have hcb : ∀ j v, #[Value.int .i64 xk, .string xy, .int .i64 vk, .int .i64 vn, .string vs, .int .i64 ok, .int .i64 on, .string os, .int .i64 xn][j]? = some v → wb.cell? ⟨wr.heap.size, j, none⟩ = some v := fun j v h => by rw [← hwb, World.cell?_alloc_mark]; exact h
    have hbx : Bx wb wr.heap.size (.string xy) (.int .i64 vk) (.int .i64 vn) (.string vs) (.int .i64 ok) (.int .i64 on) (.string os) :=
     ⟨⟨hcb 1 _ rfl, hcb 2 _ rfl, hcb 3 _ rfl, hcb 4 _ rfl, hcb 5 _ rfl, hcb 6 _ rfl, hcb 7 _ rfl⟩, hfz 1, hfz 2, hfz 3, hfz 4, hfz 5, hfz 6, hfz 7⟩
    have c0 := hcb 0 _ rfl
    have c8 := hcb 8 _ rfl
    have HWB := hid hwb; clear hwb hown hbw hfz hcb
    go_wp2_with (refine wpList_load_mid rfl 64 _ rfl g (o + k * 9) rfl [.int .i64 xk, .string xy, .int .i64 vk, .int .i64 vn, .string vs, .int .i64 ok, .int .i64 on, .string os, .int .i64 xn] _ hr2 Tryz.underlying64 rfl Tryz.infoOp ?_)
    rw [HWB.out]
    have hbxd : Bx wb.drew wr.heap.size (.string xy) (.int .i64 vk) (.int .i64 vn) (.string vs) (.int .i64 ok) (.int .i64 on) (.string os) := hbx
    have hbbd : Below w.heap.size w wb.drew := hbb.drew
    have hgbd : wr.heap.size < wb.drew.heap.size := hgb
    have hownd : OwnO w.heap.size u3 m wb.drew := hownb
    have d0 : wb.drew.cell? ⟨wr.heap.size, 0, none⟩ = some (.int .i64 xk) := c0
    have d8 : wb.drew.cell? ⟨wr.heap.size, 8, none⟩ = some (.int .i64 xn) := c8
    clear hbx hbb hgb hownb c0 c8
    obtain ⟨⟨p1, p2, p3, p4, p5, p6, p7⟩, f1, f2, f3, f4, f5, f6, f7⟩ := id hbxd
    have h90a : (0 : Int) ≤ 90 := by decide
    have h90b : (90 : Int) ≤ 1000000 := by decide
    have hbs : Below wb.drew.heap.size wb.drew wb.drew := Below.refl _ _
    refine Code.wp_mono (Q := CutMid wb.drew wr.heap.size (.string xy) (.int .i64 vk) (.int .i64 vn) (.string vs) (.int .i64 ok) (.int .i64 on) (.string os) (fun tk tv to => { tmps := #[.slice (some ⟨g, o, none⟩) l.length c, undef, .slice none 0 0, u3, .int .i64 k, .pointer (some ⟨wr.heap.size, 0, none⟩), .int .i64 k, .slice (some ⟨g, o, none⟩) l.length c, .int .i64 l.length, .bool true, .bool true, .int .i64 k, .bool true, .bool true, u14, u15, .slice (some ⟨g, o, none⟩) l.length c, .int .i64 k, .pointer (some ⟨g, o + k * 9, none⟩), .agg #[.int .i64 xk, .string xy, .int .i64 vk, .int .i64 vn, .string vs, .int .i64 ok, .int .i64 on, .string os, .int .i64 xn], .pointer (some ⟨wr.heap.size, 1, none⟩), .string xy, .string tk, .pointer (some ⟨wr.heap.size, 2, none⟩), .agg #[.int .i64 vk, .int .i64 vn, .string vs], .agg #[.int .i64 vk, .int .i64 vn, .string tv], .pointer (some ⟨wr.heap.size, 5, none⟩), .agg #[.int .i64 ok, .int .i64 on, .string os], .agg #[.int .i64 ok, .int .i64 on, .string to], .pointer (some ⟨wr.heap.size, 1, none⟩), .pointer (some ⟨wr.heap.size, 2, none⟩), .pointer (some ⟨wr.heap.size, 5, none⟩), u32, u33, u34, u35, undef], defers := [] }) (fun wo tk tv to => wo.setCells wr.heap.size 1 [.string tk, .int .i64 vk, .int .i64 vn, .string tv, .int .i64 ok, .int .i64 on, .string to])) ?after ?region
    case region =>
     clear HC HCUT HX hr2 HML hownd hap hbbd hB hk hk10 hg HWB d0 d8
     go_region_with (first | (go_at_call 81; refine (lcut_any xy 90 _ h90a h90b).mono ?_; rintro e wz ⟨tk, htk, rfl, hwz⟩; subst hwz) | (go_at_call_of 82 (Value.string vs); refine (l5l4cut_is _ vk vn vs _ rfl).mono ?_; rintro e wv ⟨tv, htv, rfl, hbv⟩; have hbxv := hbxd.below hbv hgbd; have hgbv : wr.heap.size < wv.heap.size := Nat.lt_of_lt_of_le hgbd hbv.size; clear p1 p2 p3 p4 p5 p6 p7 f1 f2 f3 f4 f5 f6 f7; obtain ⟨⟨p1, p2, p3, p4, p5, p6, p7⟩, f1, f2, f3, f4, f5, f6, f7⟩ := id hbxv) | (go_at_call_of 82 (Value.string os); refine (l5l4cut_is _ ok on os _ rfl).mono ?_; rintro e wo ⟨to, hto, rfl, hbo⟩; have hbxo := hbxv.below hbo hgbv; have hbo2 := hbv.trans (hbo.mono hbv.size); have hgbo : wr.heap.size < wo.heap.size := Nat.lt_of_lt_of_le hgbv hbo.size; clear p1 p2 p3 p4 p5 p6 p7 f1 f2 f3 f4 f5 f6 f7; obtain ⟨⟨p1, p2, p3, p4, p5, p6, p7⟩, f1, f2, f3, f4, f5, f6, f7⟩ := id hbxo))
     all_goals exact ⟨tk, tv, to, _, htk, htv, hto, hbo2, hbxo, rfl, rfl⟩
    case after =>
     intro e a w' hq
     cases e
     case normal =>
      obtain ⟨tk, tv, to, wo, htk, htv, hto, hbo, hbx, rfl, rfl⟩ := hq
      have hbo2 := hbbd.trans (hbo.mono hbbd.size)
      have e0 : wo.cell? ⟨wr.heap.size, 0, none⟩ = some (.int .i64 xk) := (hbo.cell (p := ⟨wr.heap.size, 0, none⟩) hgbd).trans d0
      have e8 : wo.cell? ⟨wr.heap.size, 8, none⟩ = some (.int .i64 xn) := (hbo.cell (p := ⟨wr.heap.size, 8, none⟩) hgbd).trans d8
      have hrg := seven wo wr.heap.size _ _ (.string tk) (.int .i64 vk) (.int .i64 vn) (.string tv) (.int .i64 ok) (.int .i64 on) (.string to) _ _ _ _ _ _ _ hbx e0 e8
      have hgw : wb.drew.grownBy (wo.setCells wr.heap.size 1 [.string tk, .int .i64 vk, .int .i64 vn, .string tv, .int .i64 ok, .int .i64 on, .string to]) (some wr.heap.size) := (below_grown hbo).trans (grown_setCells _ _ _ _)
      have hb1 : Below w.heap.size w (wo.setCells wr.heap.size 1 [.string tk, .int .i64 vk, .int .i64 vn, .string tv, .int .i64 ok, .int .i64 on, .string to]) := hbo2.grown (grown_setCells _ _ _ _) hbo2.size (fun k e => by injection e with e; rw [← e]; exact hwrs)
      have hown1 : OwnO w.heap.size u3 m (wo.setCells wr.heap.size 1 [.string tk, .int .i64 vk, .int .i64 vn, .string tv, .int .i64 ok, .int .i64 on, .string to]) := World.ownsRow.kept hownd hgw (.inr hap)
      obtain ⟨iO, hiO, hzO0, hzO1, hzO2⟩ := info_parts Tryz.infoOp3
      dsimp only
      generalize wo.setCells wr.heap.size 1 [.string tk, .int .i64 vk, .int .i64 vn, .string tv, .int .i64 ok, .int .i64 on, .string to] = W1 at *
      clear hbo hbx hbo2 e0 e8 hgw hownd hbbd hgbd hbxd d0 d8 p1 p2 p3 p4 p5 p6 p7 f1 f2 f3 f4 f5 f6 f7
      obtain ⟨y, hy⟩ : ∃ y : Opn, y = ⟨xk, tk, ⟨vk, vn, tv⟩, ⟨ok, on, to⟩, xn⟩ := ⟨_, rfl⟩
      have hlenm : (m.flatMap Opn.cs).length = m.length * 9 := hown1.1
      have HY := hid hy; clear hy
      have hm10 : m.length ≤ 10 := by rw [HML.out]; omega
      have hB1 : w.heap.size ≤ (W1.alloc (Obj.cells #[.int .i64 xk, .string tk, .int .i64 vk, .int .i64 vn, .string tv, .int .i64 ok, .int .i64 on, .string to, .int .i64 xn] 64)).heap.size := by have := hb1.size; simp; omega
      go_wp2_with (first | (refine wpList_load_mid rfl 64 _ rfl wr.heap.size 0 rfl [.int .i64 xk, .string tk, .int .i64 vk, .int .i64 vn, .string tv, .int .i64 ok, .int .i64 on, .string to, .int .i64 xn] _ hrg Tryz.underlying64 rfl Tryz.infoOp ?_) | (at_builtin; refine wpList_append_own_at _ rfl (.tmp 32) (.tmp 34) 31 rfl w.heap.size 64 iO _ 9 96 Tryz.underlying31 hiO hzO0 hzO1 hzO2 rfl (by decide) _ _ _ rfl (hown1.alloc _) ⟨W1.heap.size, 0, none⟩ 1 1 [.int .i64 xk, .string tk, .int .i64 vk, .int .i64 vn, .string tv, .int .i64 ok, .int .i64 on, .string to, .int .i64 xn] rfl rfl ?c1 ?c2 ?c3 ?c4 hB1 ?_))
      case c1 =>
       intro j u hj
       rw [Addr.add_mid, Nat.zero_add, World.cell?_alloc_mark]
       simpa using hj
      case c2 => exact opn_one ⟨xk, tk, ⟨vk, vn, tv⟩, ⟨ok, on, to⟩, xn⟩
      case c3 => unfold maxLen; omega
      case c4 => omega
      intro v2 w2 hown2 hg2 _ _
      have hb2 := (hb1.alloc hb1.size (Obj.cells #[.int .i64 xk, .string tk, .int .i64 vk, .int .i64 vn, .string tv, .int .i64 ok, .int .i64 on, .string to, .int .i64 xn] 64)).grown hg2 hB1 (fun k hk => (World.ownsRow.lt hown1 k hk).1)
      clear hg2 hrg hown1 hb1 hB1 hlenm
      go_wp2
      go_roundw
      case rel =>
       refine ⟨k + 1, m ++ [y], by go_num, by omega, by omega, ?_, hb2, by rw [List.length_append, HML.out]; rfl, ?_⟩
       ·unfold OwnO
        rw [← opn_cells, List.length_append, HY.out]; exact hown2
       ·intro j hj hj2
        by_cases hjm : j < m.length
        ·rw [List.getElem_append_left hjm]; exact HCUT.out j hjm hj2
        ·rw [List.length_append] at hj
         simp at hj
         have hjk : j = k := by have := HML.out; omega
         subst hjk
         rw [List.getElem_append_right (by omega)]
         have hcy : CutO l[j] y := by
          rw [HX.out, HY.out]
          exact ⟨rfl, rfl, rfl, rfl, rfl, rfl, by simp only; omega, by simp only; omega, by simp only; omega⟩
         simpa using hcy
      case measure => simp [intOf]; omega
     all_goals exact False.elim hq
   ·have hfin : m.length = min l.length 10 := by rw [HML.out]; omega
    go_wp2
    go_ret
    exact ⟨u3, m, rfl, hown, hbw, hfin, HCUT.out⟩
  ·have hfin : m.length = min l.length 10 := by rw [HML.out]; omega
   go_wp2
   go_ret
   exact ⟨u3, m, rfl, hown, hbw, hfin, HCUT.out⟩
end Go.Proofs.YtegkhkcnoahhdaaGreat
/-
What the statements cut batches to: the same client and number, at most ten operations with short texts, in new memory.
-/
namespace Go.Proofs.YtegkhkcnoahhdaaGreat
open Lib (hid)
open Go.RowKit
set_option maxRecDepth 100000
theorem flat_at : ∀ (l : List Opn) (k : Nat) (h : k < l.length) (j : Nat) (v : Value), l[k].cs[j]? = some v → (l.flatMap Opn.cs)[k * 9 + j]? = some v
 | x :: t, 0, _, j, v, hv => by
  have hj : j < x.cs.length := (List.getElem?_eq_some_iff.1 hv).1
  rw [List.flatMap_cons, Nat.zero_mul, Nat.zero_add, List.getElem?_append_left hj]; exact hv
 | x :: t, k + 1, h, j, v, hv => by
  have h9 : x.cs.length = 9 := rfl
  rw [List.flatMap_cons, List.getElem?_append_right (by omega), h9, show (k + 1) * 9 + j - 9 = k * 9 + j by omega]
  exact flat_at t k (by simpa using h) j v hv
theorem Ops.of_own {w : World} {B : Nat} {v : Value} {l : List Opn} (h : OwnO B v l w) : Ops w w.heap.size v l := by
 unfold OwnO at h
 have hc := fun (g : Nat) (hg : v.ownBlock = some g) => World.ownsRow.cells h hg
 have hlt := World.ownsRow.lt h
 rcases h.2 with ⟨rfl, h0⟩ | ⟨g, c, cur, rfl, _, _, hnc, _⟩
 ·exact ⟨Option.none, 0, by rw [h0], by rw [h0]; exact Nat.le_refl _, fun h => absurd h (by omega)⟩
 ·refine ⟨_, c, rfl, hnc, fun _ => ⟨g, 0, rfl, (hlt g rfl).2, fun k hk j v hv => ?_⟩⟩
  have h2 := hc g rfl (k * 9 + j) v (flat_at l k hk j v hv)
  rw [Addr.add_mid] at h2
  rw [← h2]; congr 2; omega
theorem OwnO.below {B : Nat} {v : Value} {l : List Opn} {w w' : World} (h : OwnO B v l w) (hb : Below w.heap.size w w') : OwnO B v l w' := by
 have hlt := World.ownsRow.lt h
 unfold OwnO at *
 refine ⟨h.1, ?_⟩
 rcases h.2 with h2 | ⟨g, c, cur, hv, hB, hg, r⟩
 ·exact .inl h2
 ·exact .inr ⟨g, c, cur, hv, hB, (hb.block g (by rw [hv] at hlt; exact (hlt g rfl).2)).trans hg, r⟩
theorem ownO_down {B C : Nat} {v : Value} {l : List Opn} {w : World} (h : OwnO C v l w) (hB : B ≤ C) : OwnO B v l w := by
 unfold OwnO at *
 refine ⟨h.1, ?_⟩
 rcases h.2 with h2 | ⟨g, c, cur, hv, hb, r⟩
 ·exact .inl h2
 ·exact .inr ⟨g, c, cur, hv, Nat.le_trans hB hb, r⟩
def i64r (n : Int) : Prop := -9223372036854775808 ≤ n ∧ n ≤ 9223372036854775807
def Opn.ints (o : Opn) : Prop := i64r o.kind ∧ i64r o.n ∧ i64r o.val.kind ∧ i64r o.val.n ∧ i64r o.old.kind ∧ i64r o.old.n
theorem CutO.ok {o p : Opn} (h : CutO o p) (hi : o.ints) : p.ok := by
 obtain ⟨a, b, c, d, e, f, k1, k2, k3⟩ := h
 obtain ⟨i1, i2, i3, i4, i5, i6⟩ := hi
 exact ⟨by rw [a]; exact i1, by omega, ⟨by rw [c]; exact i3, by rw [d]; exact i4, by omega⟩, ⟨by rw [e]; exact i5, by rw [f]; exact i6, by omega⟩, by rw [b]; exact i2⟩
theorem cut_ok {l m : List Opn} (hl : m.length = min l.length 10) (hc : ∀ k (h : k < m.length) (h2 : k < l.length), CutO l[k] m[k]) (hi : ∀ x ∈ l, x.ints) : ∀ x ∈ m, x.ok := by
 intro x hx
 obtain ⟨k, hk, rfl⟩ := List.getElem_of_mem hx
 have h2 : k < l.length := by omega
 exact (hc k hk h2).ok (hi _ (List.getElem_mem h2))
set_option maxRecDepth 100000 in
set_option maxHeartbeats 1000000 in
theorem l5cutBatch_any (B : Nat) (v : Value) (b : Bat) (w : World) (h : BatV w B v b) (hB : B ≤ w.heap.size) (hi : ∀ x ∈ b.ops, x.ints) : Calls Tryz.prog 26 #[v] w fun e w' => ∃ u m, e = .returned (.agg #[.int .i64 b.client, .int .i64 b.seq, u]) ∧ OwnO w.heap.size u m w' ∧ Below w.heap.size w w' ∧ m.length = min b.ops.length 10 ∧ ∀ x ∈ m, x.ok := by
 obtain ⟨s, rfl, hs⟩ := h
 have HS := hid hs; clear hs
 have HI := hid hi; clear hi
 obtain ⟨W0, hW0⟩ : ∃ W0, w.alloc (Obj.cells #[Value.int IntKind.i64 b.client, Value.int IntKind.i64 b.seq, s] 33) = W0 := ⟨_, rfl⟩
 have hb0 : Below w.heap.size w W0 := by rw [← hW0]; exact below_one w _
 have hlt : w.heap.size < W0.heap.size := by rw [← hW0]; simp
 have q0 : W0.cell? ⟨w.heap.size, 0, none⟩ = some (.int .i64 b.client) := by rw [← hW0]; exact World.cell?_alloc_mark w _ _ _ 0
 have q1 : W0.cell? ⟨w.heap.size, 1, none⟩ = some (.int .i64 b.seq) := by rw [← hW0]; exact World.cell?_alloc_mark w _ _ _ 1
 have q2 : W0.cell? ⟨w.heap.size, 2, none⟩ = some s := by rw [← hW0]; exact World.cell?_alloc_mark w _ _ _ 2
 have z2 : W0.frozen? ⟨w.heap.size, 2, none⟩ = false := by rw [← hW0]; exact World.frozen?_alloc_at _ _ _ 2 rfl
 obtain ⟨W9, hW9⟩ : ∃ W9, W0.alloc (Obj.cells #[Value.int IntKind.i64 0, Value.int IntKind.i64 0, Value.slice none 0 0] 33) = W9 := ⟨_, rfl⟩
 have hb9 : Below W0.heap.size W0 W9 := by rw [← hW9]; exact below_one W0 _
 have hbw9 := hb0.trans (hb9.mono (Nat.le_of_lt hlt))
 have hlt9 : w.heap.size < W9.heap.size := Nat.lt_of_lt_of_le hlt hb9.size
 have p0 := (hb9.cell (p := ⟨w.heap.size, 0, none⟩) hlt).trans q0
 have p1 := (hb9.cell (p := ⟨w.heap.size, 1, none⟩) hlt).trans q1
 have p2 := (hb9.cell (p := ⟨w.heap.size, 2, none⟩) hlt).trans q2
 have x2 := (hb9.frozen (p := ⟨w.heap.size, 2, none⟩) hlt).trans z2
 have hs9 : w.heap.size + 1 = W0.heap.size := by rw [← hW0]; simp
 have hl9 : w.heap.size + 1 < W9.heap.size := by rw [hs9, ← hW9]; simp
 have t0 : W9.cell? ⟨w.heap.size + 1, 0, none⟩ = some (.int .i64 0) := by rw [hs9, ← hW9]; exact World.cell?_alloc_mark W0 _ _ _ 0
 have t1 : W9.cell? ⟨w.heap.size + 1, 1, none⟩ = some (.int .i64 0) := by rw [hs9, ← hW9]; exact World.cell?_alloc_mark W0 _ _ _ 1
 have t2 : W9.cell? ⟨w.heap.size + 1, 2, none⟩ = some (.slice none 0 0) := by rw [hs9, ← hW9]; exact World.cell?_alloc_mark W0 _ _ _ 2
 have tz : ∀ j, W9.frozen? ⟨w.heap.size + 1, j, none⟩ = false := fun j => by rw [hs9, ← hW9]; exact World.frozen?_alloc_at _ _ _ j rfl
 clear q0 q1 q2 z2 hs9
 have HW := hid hW0; clear hW0
 have HW9 := hid hW9; clear hW9
 go_enter Tryz.func26, Tryz.ntmps26
 go_wp2_with fail
 rw [HW.out, HW9.out]
 refine (l5cut_any B s b.ops _ (HS.out.keep hbw9 hB) (Nat.le_trans hB hbw9.size)).mono ?_
 rintro e w1 ⟨u, m, rfl, hown, hb1, hml, hcut⟩
 have hbw1 := hbw9.trans (hb1.mono hbw9.size)
 have r0 : w1.cell? ⟨w.heap.size, 0, none⟩ = some (.int .i64 b.client) := (hb1.cell (p := ⟨w.heap.size, 0, none⟩) hlt9).trans p0
 have r1 : w1.cell? ⟨w.heap.size, 1, none⟩ = some (.int .i64 b.seq) := (hb1.cell (p := ⟨w.heap.size, 1, none⟩) hlt9).trans p1
 have r2 : w1.cell? ⟨w.heap.size, 2, none⟩ = some s := (hb1.cell (p := ⟨w.heap.size, 2, none⟩) hlt9).trans p2
 have y2 : w1.frozen? ⟨w.heap.size, 2, none⟩ = false := (hb1.frozen (p := ⟨w.heap.size, 2, none⟩) hlt9).trans x2
 have s0 : w1.cell? ⟨w.heap.size + 1, 0, none⟩ = some (.int .i64 0) := (hb1.cell (p := ⟨w.heap.size + 1, 0, none⟩) hl9).trans t0
 have s1 : w1.cell? ⟨w.heap.size + 1, 1, none⟩ = some (.int .i64 0) := (hb1.cell (p := ⟨w.heap.size + 1, 1, none⟩) hl9).trans t1
 have s2 : w1.cell? ⟨w.heap.size + 1, 2, none⟩ = some (.slice none 0 0) := (hb1.cell (p := ⟨w.heap.size + 1, 2, none⟩) hl9).trans t2
 have z0 : w1.frozen? ⟨w.heap.size + 1, 0, none⟩ = false := (hb1.frozen (p := ⟨w.heap.size + 1, 0, none⟩) hl9).trans (tz 0)
 have z1 : w1.frozen? ⟨w.heap.size + 1, 1, none⟩ = false := (hb1.frozen (p := ⟨w.heap.size + 1, 1, none⟩) hl9).trans (tz 1)
 have z2 : w1.frozen? ⟨w.heap.size + 1, 2, none⟩ = false := (hb1.frozen (p := ⟨w.heap.size + 1, 2, none⟩) hl9).trans (tz 2)
 have hok := cut_ok hml hcut HI.out
 obtain ⟨A, c, rfl, -⟩ := id (Ops.of_own hown)
 have hap : (Value.slice A m.length c).ownBlock ≠ some w.heap.size := fun e => by have := (World.ownsRow.lt hown _ e).1; omega
 have hap2 : (Value.slice A m.length c).ownBlock ≠ some (w.heap.size + 1) := fun e => by have := (World.ownsRow.lt hown _ e).1; omega
 have HOK := hid hok; have HML := hid hml
 clear p0 p1 p2 t0 t1 t2 tz hb1 hcut hok hml x2
 go_wp2
 have hg1 : w1.grownBy (w1.setCells w.heap.size 2 [.slice A m.length c]) (some w.heap.size) := grown_setCells _ _ _ _
 have hg2 := grown_setCells (w.heap.size + 1) [.int .i64 b.client, .int .i64 b.seq, .slice A m.length c] 0 (w1.setCells w.heap.size 2 [.slice A m.length c])
 have hbA := hbw1.grown hg1 hbw1.size (fun k e => by injection e with e; rw [← e]; exact Nat.le_refl _)
 have hbB := hbA.grown hg2 hbA.size (fun k e => by injection e with e; omega)
 have hownA : OwnO W9.heap.size (.slice A m.length c) m _ := World.ownsRow.kept hown hg1 (.inr hap)
 have hownB : OwnO W9.heap.size (.slice A m.length c) m _ := World.ownsRow.kept hownA hg2 (.inr hap2)
 refine bodyPost_ret (v := .agg #[.int .i64 b.client, .int .i64 b.seq, .slice A m.length c]) ?_ rfl ⟨.slice A m.length c, m, rfl, ?_, hbB, HML.out, HOK.out⟩
 ·simp [results, Tryz.results26, go_sem, s0, s1, s2, r0, r1, r2]
 ·exact ownO_down hownB (Nat.le_of_lt hlt9)
end Go.Proofs.YtegkhkcnoahhdaaGreat
